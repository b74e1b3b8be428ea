/-
  What Reader.take answers and leaves.
-/
import Derived.Test.YthhghehnaopmhaaDoorFiRd
namespace Go.Proofs.YthhghehnaopmhaaDoor.Fi
open Go.RowKit
set_option maxRecDepth 100000

theorem bytes_drop (xs : List Int) (m : Nat) (hx : ∀ i, 0 ≤ xs.getD i 0 ∧ xs.getD i 0 < 256) : ∀ i, 0 ≤ (xs.drop m).getD i 0 ∧ (xs.drop m).getD i 0 < 256 := by
  intro i
  have := hx (m + i)
  simpa [List.getD, List.getElem?_drop] using this

theorem Row.drop {w : World} {b off len cap : Nat} {xs : List Int} (h : Row w (some ⟨b, off, none⟩) len cap xs) (n : Nat) (hn : n ≤ len) : Row w (some ⟨b, off + n, none⟩) (len - n) (cap - n) (xs.drop n) := by
  rcases h with h | ⟨hp, b', off', e, hlc, hm, hc, hz⟩
  · exact .inl (by omega)
  · cases e
    rcases Nat.eq_zero_or_pos (len - n) with h0 | h0
    · exact .inl h0
    · refine .inr ⟨h0, b, off + n, rfl, by omega, by omega, fun i hi => ?_, bytes_drop xs n hz⟩
      rw [show off + n + i = off + (n + i) by omega, hc (n + i) (by omega)]
      simp [List.getD, List.getElem?_drop]

set_option maxHeartbeats 1000000 in
theorem take_any (g s n : Nat) (xs : List Int) (e : Int) (w : World) (h : Rd w g s xs e) (hn : n ≤ xs.length) :
    Calls Tryd.prog 55 #[.pointer (some ⟨g, 0, none⟩), .int .i64 n] w fun r w' => r = .returned (.string (strB (xs.take n))) ∧ Rd w' g s (xs.drop n) e ∧ Off g w w' := by
  obtain ⟨a, cap, c0, c1, f0, f1, l1, l2, hr, ha0, hsg, ha⟩ := h
  have cv := conv_any a n cap xs w hn (hr.cut n hn)
  have hl : (xs.drop n).length = xs.length - n := List.length_drop ..
  have key : ∀ a', (a' = none → cap - n = 0) → (∀ x, a' = some x → x.spot = none ∧ x.block = s) → Row w a' (xs.length - n) (cap - n) (xs.drop n) → Rd (w.setCell ⟨g, 0, none⟩ (.slice a' (xs.length - n) (cap - n))) g s (xs.drop n) e := by
    intro a' h1 h2 h3
    refine ⟨a', cap - n, ?_, ?_, ?_, ?_, by omega, by omega, ?_, h1, hsg, h2⟩
    · rw [World.cell?_setCell_same _ _ _ c0, hl]
    · rw [World.cell?_setCell_other _ _ _ _ (by intro e; cases e), c1]
    · simpa using f0
    · simpa using f1
    · rw [hl]; exact h3.off (Off.setCell g 0 w _) (fun b hb => by rw [(h2 b hb).2]; exact hsg)
  unfold maxLen at l2
  have K : Hid (∀ a', (a' = none → cap - n = 0) → (∀ x, a' = some x → x.spot = none ∧ x.block = s) → Row w a' (xs.length - n) (cap - n) (xs.drop n) → Rd (w.setCell ⟨g, 0, none⟩ (.slice a' (xs.length - n) (cap - n))) g s (xs.drop n) e) := key
  clear key hl
  cases a with
  | none =>
    obtain rfl : cap = 0 := ha0 rfl
    obtain rfl : n = 0 := by omega
    obtain rfl : xs = [] := List.length_eq_zero_iff.1 (by omega)
    go_enter Tryd.func55, Tryd.ntmps55
    go_wp2
    go_ret
    exact ⟨rfl, by simpa using K.out none (by simp) (by simp) (.inl (by simp)), Off.setCell g 0 w _⟩
  | some x =>
    obtain ⟨b, off, spot⟩ := x
    obtain ⟨hs, hb⟩ := ha _ rfl
    simp only at hs hb
    subst hs
    subst hb
    have HR := hr.drop n hn
    generalize xs.length = len at *
    by_cases hc : cap = n
    · subst hc
      obtain rfl : cap = len := by omega
      go_enter Tryd.func55, Tryd.ntmps55
      go_wp2
      go_ret
      refine ⟨rfl, ?_, Off.setCell g 0 w _⟩
      have := K.out (some ⟨b, off, none⟩) (fun hx => by cases hx) (fun x hx => by cases hx; exact ⟨rfl, rfl⟩) (.inl (by omega))
      simpa using this
    · go_enter Tryd.func55, Tryd.ntmps55
      go_wp2
      go_ret
      exact ⟨rfl, K.out _ (fun hx => by cases hx) (fun x hx => by cases hx; exact ⟨rfl, rfl⟩) HR, Off.setCell g 0 w _⟩
end Go.Proofs.YthhghehnaopmhaaDoor.Fi
