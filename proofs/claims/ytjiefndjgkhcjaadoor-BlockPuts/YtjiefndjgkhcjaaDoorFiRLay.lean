/-
  What the document's Num, Text and Join answer: just the bytes that field's do; nothing that was there is changed.
-/
import Derived.Test.YtjiefndjgkhcjaaDoorFg
import Derived.Test.YtjiefndjgkhcjaaDoorFiRPut
import Derived.Lib.AppendStr
import Derived.Test.YtjiefndjgkhcjaaDoorFiNums
namespace Go.Proofs.YtjiefndjgkhcjaaDoor.Fi
open Go.RowKit
set_option maxRecDepth 100000

theorem own_mono {w : World} {base base' : Nat} {e : TypeId} {size : Nat} {v : Value} {n : Nat} {xs : List Value} (h : w.ownsRow base e size v n xs) (hb : base' ≤ base) : w.ownsRow base' e size v n xs := by
  obtain ⟨h1, h2⟩ := h
  rcases h2 with h2 | ⟨g, cap, cur, hv, hg, r⟩
  · exact ⟨h1, .inl h2⟩
  · exact ⟨h1, .inr ⟨g, cap, cur, hv, Nat.le_trans hb hg, r⟩⟩

set_option maxHeartbeats 1000000 in
theorem rnumB_any (n : Int) (w : World) :
    Calls Tryd.prog 36 #[.int .i64 n] w fun r w' => ∃ v, r = .returned v ∧ w'.ownsRow w.heap.size 5 1 v (numB n).length ((numB n).map (Value.int .u8)) ∧ Below w.heap.size w w' := by
  by_cases h0 : lenOf n = 0
  · have hn : numB n = [] := by unfold numB; rw [if_pos h0]
    rw [hn]
    have c := rput_no n w h0
    clear hn h0
    go_enter Tryd.func36, Tryd.ntmps36
    go_wp2_with (go_at_call 55; refine c.mono ?_; rintro e w' ⟨rfl, rfl⟩)
    go_ret
    exact ⟨_, rfl, World.ownsRow_nil _ _ _ _, Below.refl _ _⟩
  · obtain ⟨W, hW, hW0, hI, h1, h2, hn⟩ := pos_lim n h0
    have c := rput_own n W w hW hW0
    have hl := pb_len n W hI
    rw [hn, hl]
    clear hn h0 hW hW0 hl
    go_enter Tryd.func36, Tryd.ntmps36
    go_wp2_with (go_at_call 55; refine c.mono ?_; rintro e w' ⟨g, cap, rfl, ho, hb⟩)
    go_ret
    exact ⟨_, rfl, by assumption, by assumption⟩

theorem strCells_sb (s : ByteArray) : Lib.strCells s = (sb s).map (Value.int .u8) := by
  unfold Lib.strCells sb
  rw [List.map_map]
  rfl

end Go.Proofs.YtjiefndjgkhcjaaDoor.Fi
