/-
  What the document's Num, Text and Join answer: just the bytes that field's do; nothing that was there is changed.
-/
import Derived.Test.YtcenchnmibdebaaDoorFiK
import Derived.Test.YtcenchnmibdebaaDoorFiRPut
import Derived.Test.YtcenchnmibdebaaDoorFiApp
import Derived.Lib.AppendStr
import Derived.Test.YtcenchnmibdebaaDoorFiK
namespace Go.Proofs.YtcenchnmibdebaaDoor.Fi
open Go.RowKit
set_option maxRecDepth 100000

theorem own_mono {w : World} {base base' : Nat} {e : TypeId} {size : Nat} {v : Value} {n : Nat} {xs : List Value} (h : w.ownsRow base e size v n xs) (hb : base' ≤ base) : w.ownsRow base' e size v n xs := by
  obtain ⟨h1, h2⟩ := h
  rcases h2 with h2 | ⟨g, cap, cur, hv, hg, r⟩
  · exact ⟨h1, .inl h2⟩
  · exact ⟨h1, .inr ⟨g, cap, cur, hv, Nat.le_trans hb hg, r⟩⟩

set_option maxHeartbeats 2000000 in
theorem ftext_own (s : ByteArray) (w : World) (hw : Wid w) (hs : s.size ≤ 140737488355328) :
    Calls Tryd.prog 19 #[.string s] w fun r w' => ∃ v, r = .returned v ∧ w'.ownsRow w.heap.size 5 1 v (textB s).length ((textB s).map (Value.int .u8)) ∧ Below w.heap.size w w' := by
  have c1 := fnum_any s.size w hw
  have hlen : (textB s).length ≤ 200000000000000 := by
    unfold textB
    rw [List.length_append, sb_len]
    have : (numB (s.size : Int)).length ≤ 8 := by
      unfold numB
      split
      · simp
      · next h =>
        obtain ⟨W, hW, hW0, hI, h1, h2, hn⟩ := pos_lim _ h
        rw [hW]
        show (pb _ W).length ≤ 8
        rw [pb_len _ W hI]
        rcases hI with rfl | rfl | rfl | rfl <;> omega
    omega
  go_enter Tryd.func19, Tryd.ntmps19
  go_wp2_with fail
  refine c1.mono ?_
  rintro e w1 ⟨v1, rfl, sl1, bel1⟩
  obtain ⟨a2, cap2, w2, cv, sl2, bel2⟩ := conv_str s w1 (by omega)
  have hP : ∀ u1 u2, Sl w2 u1 (numB s.size) → Sl w2 u2 (sb s) → Parts (w2.alloc (.cells #[u1, u2] 27)) (some ⟨w2.heap.size, 0, none⟩) [numB s.size, sb s] := fun u1 u2 s1 s2 => by
    have hb : Below w2.heap.size w2 (w2.alloc (.cells #[u1, u2] 27)) := (Below.refl _ _).alloc (Nat.le_refl _) _
    refine ⟨by simp, .inr ⟨_, 0, rfl, fun i hi => ?_⟩⟩
    have hi2 : i = 0 ∨ i = 1 := by simp at hi; omega
    rcases hi2 with rfl | rfl
    · exact ⟨u1, by rw [World.cell?_alloc_at _ _ _ _ rfl]; rfl, s1.kept hb⟩
    · exact ⟨u2, by rw [World.cell?_alloc_at _ _ _ _ rfl]; rfl, s2.kept hb⟩
  have sl1' := sl1.kept bel2
  obtain ⟨a1, cap1, rfl, _⟩ := sl1
  have cj := join_any _ 2 _ _ (hP _ _ sl1' sl2) (by simpa [textB] using hlen)
  have hfl : [numB s.size, sb s].flatten = textB s := by simp [textB]
  rw [hfl] at cj
  have hb12 := bel1.trans (bel2.mono bel1.size)
  have hb3 : Below w.heap.size w (w2.alloc (.cells #[.slice a1 (numB s.size).length cap1, .slice (some a2) s.size cap2] 27)) := hb12.alloc hb12.size _
  clear hP sl1' sl2 c1 hfl hlen
  simp only [List.length_cons, List.length_nil] at cj
  generalize (numB s.size).length = L1 at *
  obtain ⟨LT, hLT⟩ : ∃ LT, LT = (textB s).length := ⟨_, rfl⟩
  have HLT : Hid (LT = (textB s).length) := hLT
  rw [← hLT] at cj
  clear hLT
  clear bel1 bel2 hb12
  go_wp2_with (go_at_call 31; refine cj.mono ?_; rintro e w3 ⟨v3, rfl, own3, bel3⟩)
  go_ret
  exact ⟨v3, rfl, by have h := own_mono own3 hb3.size; rw [HLT.out] at h; exact h, hb3.trans (bel3.mono hb3.size)⟩

set_option maxHeartbeats 1000000 in
theorem rnumB_any (n : Int) (w : World) :
    Calls Tryd.prog 23 #[.int .i64 n] w fun r w' => ∃ v, r = .returned v ∧ w'.ownsRow w.heap.size 5 1 v (numB n).length ((numB n).map (Value.int .u8)) ∧ Below w.heap.size w w' := by
  by_cases h0 : lenOf n = 0
  · have hn : numB n = [] := by unfold numB; rw [if_pos h0]
    rw [hn]
    have c := rput_no n w h0
    clear hn h0
    go_enter Tryd.func23, Tryd.ntmps23
    go_wp2_with (go_at_call 39; refine c.mono ?_; rintro e w' ⟨rfl, rfl⟩)
    go_ret
    exact ⟨_, rfl, World.ownsRow_nil _ _ _ _, Below.refl _ _⟩
  · obtain ⟨W, hW, hW0, hI, h1, h2, hn⟩ := pos_lim n h0
    have c := rput_own n W w hW hW0
    have hl := pb_len n W hI
    rw [hn, hl]
    clear hn h0 hW hW0 hl
    go_enter Tryd.func23, Tryd.ntmps23
    go_wp2_with (go_at_call 39; refine c.mono ?_; rintro e w' ⟨g, cap, rfl, ho, hb⟩)
    go_ret
    exact ⟨_, rfl, by assumption, by assumption⟩

theorem strCells_sb (s : ByteArray) : Lib.strCells s = (sb s).map (Value.int .u8) := by
  unfold Lib.strCells sb
  rw [List.map_map]
  rfl

set_option maxHeartbeats 1000000 in
theorem rtextB_any (s : ByteArray) (w : World) (hs : s.size ≤ 140737488351232) :
    Calls Tryd.prog 24 #[.string s] w fun r w' => ∃ v, r = .returned v ∧ w'.ownsRow w.heap.size 5 1 v (textB s).length ((textB s).map (Value.int .u8)) ∧ Below w.heap.size w w' := by
  obtain ⟨i0, hi, hz0, hz1, hz2⟩ := info_parts info5'
  have c1 := rnumB_any s.size w
  have hnl : (numB (s.size : Int)).length ≤ 8 := by have nl := numB_len (s.size : Int); rcases lenOf_cases (s.size : Int) with h | h | h | h | h | h <;> omega
  have HT : Hid (∀ (w' : World) v, w'.ownsRow w.heap.size 5 1 v ((numB (s.size : Int)).length + s.size) ((numB (s.size : Int)).map (Value.int .u8) ++ Lib.strCells s) → w'.ownsRow w.heap.size 5 1 v (textB s).length ((textB s).map (Value.int .u8))) := fun w' v h => by
    unfold textB
    rw [List.length_append, sb_len, List.map_append, ← strCells_sb]
    exact h
  generalize (numB (s.size : Int)).length = L at *
  generalize (numB (s.size : Int)).map (Value.int .u8) = X at *
  go_enter Tryd.func24, Tryd.ntmps24
  go_wp2_with fail
  refine c1.mono ?_
  rintro e w1 ⟨v1, rfl, own1, bel1⟩
  clear c1
  have hob := own_base own1
  have hsz := bel1.size
  go_wp2_with (at_builtin; refine Lib.wpList_append_own_string _ rfl _ _ 27 9 rfl w.heap.size 5 i0 Tryd.underlying27 Tryd.underlying9 hi hz0 hz1 hz2 _ _ _ rfl own1 s rfl (by unfold maxLen; omega) (by omega) hsz ?_)
  intro v2 w2 own2 hgrow _
  have B2 : Below w.heap.size w w2 := bel1.grown hgrow hsz hob
  have HO : Hid (w2.ownsRow w.heap.size 5 1 v2 (textB s).length ((textB s).map (Value.int .u8))) := HT.out _ _ own2
  clear own1 own2 hgrow bel1 hob hsz HT
  go_wp2
  go_ret
  exact ⟨_, rfl, HO.out, B2⟩
end Go.Proofs.YtcenchnmibdebaaDoor.Fi
