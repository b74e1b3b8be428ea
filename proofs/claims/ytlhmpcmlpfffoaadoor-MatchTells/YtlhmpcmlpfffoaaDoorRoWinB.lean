/-
  What a window's Bytes and Fork answer: a row of the call's own, a window of its own.
-/
import Derived.Test.YtlhmpcmlpfffoaaDoorRoWin
namespace Go.Proofs.YtlhmpcmlpfffoaaDoor.Ro
open Go.RowKit
set_option maxRecDepth 100000

/-- A row without its first bytes, as Go cuts it. -/
def cutv (a : Option Addr) (L cap n : Nat) : Value :=
  if cap = n then .slice a 0 0 else match a with
    | none => .slice none 0 0
    | some x => .slice (some ⟨x.block, x.off + n, none⟩) (L - n) (cap - n)

theorem cut_sl {w : World} {a : Option Addr} {L cap n : Nat} {hs : List Int} (h : Sl w (.slice a L cap) hs) (hn : n ≤ L) (hsp : ∀ x, a = some x → x.spot = none) : Sl w (cutv a L cap n) (hs.drop n) := by
  unfold cutv
  have h' := h
  obtain ⟨a', cap', e, h1, h2, h3, h4⟩ := h'
  cases e
  by_cases hc : cap = n
  · rw [if_pos hc]
    have : hs.drop n = [] := List.drop_of_length_le (by omega)
    rw [this]
    exact ⟨a, 0, rfl, Nat.le_refl _, by simp [maxLen], fun _ => rfl, .inl rfl⟩
  · rw [if_neg hc]
    cases a with
    | none => have := h3 rfl; omega
    | some x =>
      obtain ⟨b, off, spot⟩ := x
      obtain rfl : spot = none := hsp _ rfl
      exact h.drop n hn

theorem own_shape {w : World} {base : Nat} {e : TypeId} {size : Nat} {v : Value} {n : Nat} {xs : List Value} (h : w.ownsRow base e size v n xs) : ∃ a c, v = .slice a n c := by
  rcases h.2 with ⟨rfl, rfl⟩ | ⟨g, c, cur, rfl, _⟩
  · exact ⟨_, _, rfl⟩
  · exact ⟨_, _, rfl⟩

theorem own_spot {w : World} {base n : Nat} {a : Option Addr} {L cap : Nat} {xs : List Value} (h : w.ownsRow base 5 1 (.slice a L cap) n xs) : ∀ x, a = some x → x.spot = none := by
  intro x hx
  subst hx
  rcases h.2 with ⟨e, _⟩ | ⟨g, c, cur, e, _⟩
  · cases e
  · cases e; rfl

set_option maxHeartbeats 2000000 in
theorem wbytesR_any (base g : Nat) (hv : Value) (hs : List Int) (gone : Nat) (zs : List Int) (w : World) (h : WinR w base g hv hs gone zs) (hbig : hs.length ≤ 3000000) :
    Calls Tryd.prog 74 #[.pointer (some ⟨g, 0, none⟩)] w fun e w' => ∃ v', e = .returned v' ∧ w'.ownsRow w.heap.size 5 1 v' zs.length (zs.map (Value.int .u8)) ∧ Below w.heap.size w w' := by
  obtain ⟨a, cap, rfl, h2, h3, c0, c1, c2, hf, sl, own⟩ := h.cells
  have hsp := own_spot own
  have sl2 := cut_sl (n := gone) sl (by omega) hsp
  rw [← h2] at sl2
  have hL : hs.length ≤ cap := by obtain ⟨_, _, e, h, _⟩ := sl; cases e; exact h
  have hM : cap ≤ 9223372036854775807 := by obtain ⟨_, _, e, _, h, _⟩ := sl; cases e; unfold maxLen at h; omega
  have hN : a = none → cap = 0 := by obtain ⟨_, _, e, _, _, h, _⟩ := sl; cases e; exact h
  have cc := fun W (hb : Below w.heap.size w W) => clone_any _ zs W (sl2.kept hb) (by omega)
  have CC : Hid (∀ W, Below w.heap.size w W → Calls Tryd.prog 37 #[cutv a hs.length cap gone] W fun r w' => ∃ v', r = .returned v' ∧ w'.ownsRow W.heap.size 5 1 v' zs.length (zs.map (Value.int .u8)) ∧ Below W.heap.size W w') := cc
  have hg1 : (gone : Int) ≤ cap := by omega
  clear cc h2 sl sl2 own c0 hf h
  generalize zs.length = n at *
  generalize zs.map (Value.int .u8) = Z at *
  generalize hs.length = L at *
  by_cases hc : cap = gone
  · unfold cutv at CC
    rw [if_pos hc] at CC
    subst hc
    obtain rfl : L = cap := by omega
    have c3 := CC.out w.drew (Below.refl _ _).drew
    clear hN hsp
    go_enter Tryd.func74, Tryd.ntmps74
    go_wp2_with fail
    go_region_with ((go_at_call 37; refine c3.mono ?_; rintro e w1 ⟨v1, rfl, own1, bel1⟩))
    all_goals
      go_wp2_with fail
      go_ret
      exact ⟨_, rfl, own1, (Below.refl _ _).drew.trans bel1⟩
  · cases a with
    | none => have := hN rfl; omega
    | some x =>
      obtain ⟨b, off, spot⟩ := x
      obtain rfl : spot = none := hsp _ rfl
      unfold cutv at CC
      rw [if_neg hc] at CC
      simp only at CC
      have c3 := CC.out w.drew (Below.refl _ _).drew
      clear hN hsp
      go_enter Tryd.func74, Tryd.ntmps74
      go_wp2_with fail
      go_region_with ((go_at_call 37; refine c3.mono ?_; rintro e w1 ⟨v1, rfl, own1, bel1⟩))
      all_goals
        go_wp2_with fail
        go_ret
        exact ⟨_, rfl, own1, (Below.refl _ _).drew.trans bel1⟩

theorem wbytes_any (base g : Nat) (hv : Value) (zs : List Int) (w : World) (h : Win w base g hv zs) (hbig : zs.length ≤ 1000000) :
    Calls Tryd.prog 74 #[.pointer (some ⟨g, 0, none⟩)] w fun e w' => ∃ v', e = .returned v' ∧ w'.ownsRow w.heap.size 5 1 v' zs.length (zs.map (Value.int .u8)) ∧ Below w.heap.size w w' := by
  obtain ⟨hs, gone, h, h4⟩ := h
  exact wbytesR_any base g hv hs gone zs w h (by have := h.2.2.1; omega)

end Go.Proofs.YtlhmpcmlpfffoaaDoor.Ro
