/-
  A sealed text of which one byte was changed is none; a byte of a slice that is stored.
-/
import Derived.Test.YtecmdhbalcenfaaDoorROpen
namespace Go.Proofs.YtecmdhbalcenfaaDoor
open Go.RowKit

theorem leB_inj {c d : Nat} (hc : c < 4294967296) (hd : d < 4294967296) (h : leB c = leB d) : c = d := by
  simp only [leB, List.cons.injEq, and_true] at h
  omega
theorem inv_inj {c d : Nat} (h : Reg.inv c = Reg.inv d) : c = d := by
  have := congrArg Reg.inv h
  rwa [Reg.inv_inv, Reg.inv_inv] at this

theorem sum_other {xs : List Int} (h : Reg.Byt xs) (m : Nat) (hm : m < xs.length) (z : Int) (hz : 0 ≤ z ∧ z < 256) (hne : z ≠ xs[m]) : sumOf (xs.set m z) ≠ sumOf xs := by
  intro e
  have e1 := inv_inj e
  have hx : xs = xs.take m ++ xs[m] :: xs.drop (m + 1) := by rw [List.getElem_cons_drop, List.take_append_drop]
  have hs : xs.set m z = xs.take m ++ z :: xs.drop (m + 1) := List.set_eq_take_append_cons_drop .. |>.trans (if_pos hm)
  have hb1 : Reg.Byt (xs.take m) := byt_take h m
  have hb2 : Reg.Byt (xs.drop (m + 1)) := fun y hy => h y (List.mem_of_mem_drop hy)
  have hb3 := h xs[m] (List.getElem_mem hm)
  refine Reg.run_other Reg.top (xs.take m) (xs.drop (m + 1)) z xs[m] Reg.top_lt hb1 hb2 hz hb3 hne ?_
  rw [← hx, ← hs]
  exact e1

theorem byt_set {xs : List Int} (h : Reg.Byt xs) (m : Nat) (z : Int) (hz : 0 ≤ z ∧ z < 256) : Reg.Byt (xs.set m z) := by
  intro y hy
  rcases List.mem_or_eq_of_mem_set hy with h1 | rfl
  · exact h y h1
  · exact hz

/-- A sealed text of which one byte is another is none. -/
theorem open_turned {xs : List Int} (h : Reg.Byt xs) (m : Nat) (hm : m < xs.length + 4) (z : Int) (hz : 0 ≤ z ∧ z < 256) (hne : z ≠ (xs ++ leB (sumOf xs)).getD m 0) :
    opE ((xs ++ leB (sumOf xs)).set m z) = 14 ∧ opX ((xs ++ leB (sumOf xs)).set m z) = [] := by
  have hl : ((xs ++ leB (sumOf xs)).set m z).length = xs.length + 4 := by rw [List.length_set, List.length_append, leB_len]
  have h4 : xs.length + 4 - 4 = xs.length := by omega
  have key : opE ((xs ++ leB (sumOf xs)).set m z) = 14 := by
    unfold opE
    rw [hl, if_neg (by omega), h4, if_neg]
    by_cases hmx : m < xs.length
    · have e : (xs ++ leB (sumOf xs)).set m z = xs.set m z ++ leB (sumOf xs) := List.set_append_left m z hmx
      have hls : xs.length = (xs.set m z).length := by rw [List.length_set]
      rw [e, hls, List.take_left, List.drop_left]
      intro e2
      have hg : (xs ++ leB (sumOf xs)).getD m 0 = xs[m] := by simp [List.getD, List.getElem?_append_left hmx, List.getElem?_eq_getElem hmx]
      rw [hg] at hne
      exact sum_other h m hmx z hz hne (leB_inj (sum_lt (byt_set h m z hz)) (sum_lt h) e2.symm)
    · have e : (xs ++ leB (sumOf xs)).set m z = xs ++ (leB (sumOf xs)).set (m - xs.length) z := List.set_append_right m z (by omega)
      rw [e, List.take_left, List.drop_left]
      intro e2
      have hk : m - xs.length < (leB (sumOf xs)).length := by rw [leB_len]; omega
      have e3 := congrArg (fun l => l[m - xs.length]?) e2
      simp only [List.getElem?_set_self hk, List.getElem?_eq_getElem hk] at e3
      have hg : (xs ++ leB (sumOf xs)).getD m 0 = (leB (sumOf xs))[m - xs.length] := by
        simp [List.getD, List.getElem?_append_right (show xs.length ≤ m by omega), List.getElem?_eq_getElem hk]
      rw [hg] at hne
      exact hne (Option.some.inj e3)
  refine ⟨key, ?_⟩
  unfold opX
  rw [key, if_neg (by decide)]

/-- A byte of a slice is stored. -/
theorem Sl.set {w : World} {b off L cap : Nat} {Y : List Int} (h : Sl w (.slice (some ⟨b, off, Option.none⟩) L cap) Y) (m : Nat) (hm : m < L) (z : Int) (hz : 0 ≤ z ∧ z < 256) :
    Sl (w.setCell ⟨b, off + m, Option.none⟩ (.int .u8 z)) (.slice (some ⟨b, off, Option.none⟩) L cap) (Y.set m z) := by
  obtain ⟨a', cap', e, h1, h2, h3, h4⟩ := h
  cases e
  have hl : (Y.set m z).length = Y.length := List.length_set ..
  refine ⟨_, cap, by rw [hl], by rw [hl]; exact h1, h2, fun e => (by cases e), ?_⟩
  rw [hl]
  rcases h4 with h | ⟨hp, b', off', e, hlc, hmx, hc, hz'⟩
  · omega
  · cases e
    refine .inr ⟨hp, b, off, rfl, hlc, hmx, fun i hi => ?_, fun i => ?_⟩
    · by_cases him : i = m
      · subst him
        rw [World.cell?_setCell_same _ _ _ (hc i hi)]
        simp [List.getD, hi]
      · rw [World.cell?_setCell_other _ _ _ _ (by intro e; simp at e), hc i hi]
        simp [List.getD, List.getElem?_set_ne (Ne.symm him)]
    · by_cases him : m = i
      · subst him
        simpa [List.getD, List.getElem?_set_self hm] using hz
      · have := hz' i
        simpa [List.getD, List.getElem?_set_ne him] using this

theorem xor8 (x t : Int) (hx : 0 ≤ x ∧ x < 256) (ht : 0 ≤ t ∧ t < 256) (h0 : t ≠ 0) : ∃ z : Int, bits .xor .u8 x t = z ∧ (0 ≤ z ∧ z < 256) ∧ z ≠ x := by
  refine ⟨_, u8_xor x t hx.1 hx.2 ht.1 ht.2, ?_, ?_⟩
  · have : x.toNat ^^^ t.toNat < 2 ^ 8 := Nat.xor_lt_two_pow (by omega) (by omega)
    omega
  · intro e
    have e1 : x.toNat ^^^ t.toNat = x.toNat ^^^ 0 := by rw [Nat.xor_zero]; omega
    have := Reg.xor_left_inj e1
    omega
end Go.Proofs.YtecmdhbalcenfaaDoor
