/-
  What copies and bytes are of a file and its own blocks, plainly.
-/
import Derived.Test.YtlhmpcmlpfffoaaDoorAw
namespace Go.Proofs.YtlhmpcmlpfffoaaDoor
open Go.RowKit
set_option maxRecDepth 100000

theorem sums_nil (z : Nat) : sums [] z = [] := by
  unfold sums
  rw [List.length_nil, Nat.zero_div]
  rfl
/-- The numbers of a search's operations are not too great. -/
theorem srch_bd (l : List Sg) (z : Nat) (b : List Int) (hz0 : 0 < z) (hz : z ≤ 4096) (hl : l.length ≤ 4096) : Bd (srch (bfnd l z) z b 0 0 []) b.length := by
  obtain ⟨m', i', O', ⟨h1, h2, h4⟩, -, h3⟩ := srch_ind (F := bfnd l z) (b := b) hz0 (fun m i O => Bd O m ∧ m ≤ i ∧ i ≤ b.length)
    (fun m i O h hi _ => ⟨h.1.hit h.2.1 hi hz0 _ (bfnd_range l z _ hl hz).1 (bfnd_range l z _ hl hz).2, Nat.le_refl _, hi⟩)
    (fun m i O h hi _ => ⟨h.1, by omega, by omega⟩) b.length 0 0 [] (by omega) ⟨Bd.nil, Nat.le_refl _, Nat.zero_le _⟩
  rw [h3]
  have := h1.whl (b.drop m')
  rw [List.length_drop, show m' + (b.length - m') = b.length by omega] at this
  exact this
theorem srch_nb (l : List Sg) (z : Nat) (b : List Int) (hz0 : 0 < z) (hz : z ≤ 4096) (hl : l.length ≤ 4096) (hb : b.length ≤ 100000) : Nb (srch (bfnd l z) z b 0 0 []) := fun x hx => by
  obtain ⟨_, _, h3, h4⟩ := (srch_bd l z b hz0 hz hl).2 x hx
  omega
theorem sgs_at (b : List Int) (z n j : Nat) (h : j < n) : atI (sgs b z n) j = sumB (blk b z j) := by
  simp [atI, sgs, List.getD, h]
theorem fi_first (l : List Sg) (y : Sg) (j : Nat) (hj : j < l.length) (h : atI l j = y) : fi l y.k y.s ≤ j := by
  unfold fi
  rcases Nat.lt_or_ge j (l.findIdx fun x : Sg => decide (x.k = y.k) && decide (x.s = y.s)) with h1 | h1
  · have h2 := List.not_of_lt_findIdx h1
    rw [← atI_eq l j hj, h] at h2
    simp at h2
  · exact h1
/-- A block of the file is found. -/
theorem find_blk (b : List Int) (z n j : Nat) (h : j < n) (hz : (blk b z j).length = z) : (bfnd (sgs b z n) z (blk b z j)).2 = true := by
  have hl := sgs_len b z n
  have h1 := fi_first (sgs b z n) (sumB (blk b z j)) j (by omega) (sgs_at b z n j h)
  have h2 : fi (sgs b z n) (Ro.rs (blk b z j)) (Sh.Pl.sha (blk b z j)) ≤ j := h1
  unfold bfnd
  rw [if_pos ⟨by rw [hz], by omega⟩]
/-- What is found is a block with the same sum. -/
theorem find_is (b : List Int) (z : Nat) (X : List Int) (h : (bfnd (sums b z) z X).2 = true) : ∃ p, (p + 1) * z ≤ b.length ∧ (bfnd (sums b z) z X).1 = ((p * z : Nat) : Int) ∧ Sh.Pl.sha (blk b z p) = Sh.Pl.sha X := by
  unfold bfnd at h ⊢
  split at h
  · rename_i hq
    rw [if_pos hq]
    have hq2 := hq.2
    have hl := sums_len b z
    refine ⟨fi (sums b z) (Ro.rs X) (Sh.Pl.sha X), blk_le b.length z _ (by omega), by rw [Int.natCast_mul], ?_⟩
    have h3 := List.findIdx_getElem (w := hq2)
    simp only [Bool.and_eq_true, decide_eq_true_eq] at h3
    have h4 := h3.2
    have h5 : (sums b z)[fi (sums b z) (Ro.rs X) (Sh.Pl.sha X)]'hq2 = sumB (blk b z (fi (sums b z) (Ro.rs X) (Sh.Pl.sha X))) := by
      rw [← atI_eq _ _ hq2]
      exact sgs_at _ _ _ _ (by omega)
    have h6 : ((sums b z)[fi (sums b z) (Ro.rs X) (Sh.Pl.sha X)]'hq2).s = Sh.Pl.sha X := h4
    rw [h5] at h6
    exact h6
  · cases h
/-- A file of whole blocks, of itself: copies alone. -/
theorem srch_self (b : List Int) (z : Nat) (hz : 0 < z) (hb : b.length % z = 0) : cpd (srch (bfnd (sums b z) z) z b 0 0 []) = b.length ∧ lit (srch (bfnd (sums b z) z) z b 0 0 []) = 0 := by
  have hd := Nat.div_add_mod b.length z
  obtain ⟨m', i', O', ⟨j, h1, h2, h4, h5, h6⟩, h7, h3⟩ := srch_ind (F := bfnd (sums b z) z) (b := b) hz (fun m i O => ∃ j, i = j * z ∧ m = i ∧ i ≤ b.length ∧ cpd O = i ∧ lit O = 0)
    (fun m i O h hi _ => by
      obtain ⟨j, h1, rfl, h3, h4, h5⟩ := h
      refine ⟨j + 1, by rw [Nat.add_mul, Nat.one_mul, h1], rfl, hi, ?_, ?_⟩
      · rw [wcp_cpd, cpd_app, whl_cpd, h4]; omega
      · rw [wcp_lit, lit_app, whl_lit, h5, Nat.sub_self, cut_zero]; rfl)
    (fun m i O h hi hf => by
      obtain ⟨j, h1, rfl, h3, h4, h5⟩ := h
      exfalso
      have hj : j < b.length / z := by
        rw [Nat.lt_iff_add_one_le, Nat.le_div_iff_mul_le hz, Nat.add_mul, Nat.one_mul, ← h1]
        exact hi
      have := find_blk b z (b.length / z) j hj (blk_len b z j (blk_le _ _ _ hj))
      have e : blk b z j = cut b m z := by unfold blk cut; rw [h1]
      rw [e] at this
      rw [this] at hf
      cases hf) b.length 0 0 [] (by omega) ⟨0, by omega, rfl, Nat.zero_le _, rfl, rfl⟩
  have hm : m' = b.length := by
    subst h2
    rw [hb, Nat.add_zero] at hd
    have : j = b.length / z := by
      have a1 : j * z ≤ b.length / z * z := by rw [Nat.mul_comm (b.length / z), hd]; omega
      have a2 : j ≤ b.length / z := Nat.le_of_mul_le_mul_right a1 hz
      have a3 : b.length / z * z < (j + 1) * z := by rw [Nat.mul_comm (b.length / z), hd, Nat.add_mul, Nat.one_mul]; omega
      have a4 := Nat.lt_of_mul_lt_mul_right a3
      omega
    rw [h1, this, Nat.mul_comm]
    exact hd
  subst hm
  rw [h3, List.drop_length, whl_nil, List.append_nil, h5, h6]
  subst h2
  exact ⟨rfl, rfl⟩
/-- Of an empty file: bytes alone. -/
theorem srch_none (F : List Int → Int × Bool) (z : Nat) (b : List Int) (hz : 0 < z) (hF : ∀ X, (F X).2 = false) : srch F z b 0 0 [] = whl b := by
  obtain ⟨m', i', O', ⟨h1, h2⟩, h7, h3⟩ := srch_ind (F := F) (b := b) hz (fun m _ O => m = 0 ∧ O = []) (fun m i O _ _ hf => by rw [hF] at hf; cases hf) (fun m i O h _ _ => h) b.length 0 0 [] (by omega) ⟨rfl, rfl⟩
  rw [h3, h1, h2]
  rfl
theorem bfnd_nil (z : Int) (X : List Int) : (bfnd [] z X).2 = false := by
  unfold bfnd
  rw [if_neg (fun h => by have := h.2; simp at this)]
/-- Bytes ahead of a file cost no more than themselves and less than two blocks. -/
theorem srch_moved (a o : List Int) (z : Nat) (hz : 0 < z) : lit (srch (bfnd (sums o z) z) z (a ++ o) 0 0 []) ≤ a.length + z + z := by
  have hbl : (a ++ o).length = a.length + o.length := List.length_append
  obtain ⟨m', i', O', ⟨h1, h2, h4⟩, h7, h3⟩ := srch_ind (F := bfnd (sums o z) z) (b := a ++ o) hz (fun m i O => m ≤ i ∧ i ≤ (a ++ o).length ∧ ((i ≤ a.length ∧ lit O + (i - m) ≤ i) ∨ (a.length ≤ i ∧ (lit O + (i - m) ≤ a.length + (i - a.length) % z ∨ ((i - a.length) % z = 0 ∧ lit O + (i - m) ≤ a.length + z)))))
    (fun m i O h hi hf => by
      obtain ⟨h1, h2, h3⟩ := h
      refine ⟨Nat.le_refl _, hi, ?_⟩
      rw [wcp_lit, lit_app, whl_lit, cut_len _ _ _ (by omega), Nat.sub_self, Nat.add_zero]
      rcases h3 with ⟨h3, h4⟩ | ⟨h3, h4⟩
      · rcases Nat.lt_or_ge a.length (i + z) with h5 | h5
        · refine .inr ⟨by omega, .inl (by omega)⟩
        · exact .inl ⟨h5, by omega⟩
      · refine .inr ⟨by omega, ?_⟩
        have e : (i + z - a.length) % z = (i - a.length) % z := by
          rw [show i + z - a.length = (i - a.length) + z by omega, Nat.add_mod_right]
        rw [e]
        exact h4)
    (fun m i O h hi hf => by
      obtain ⟨h1, h2, h3⟩ := h
      refine ⟨by omega, by omega, ?_⟩
      have key : a.length ≤ i → (i - a.length) % z ≠ 0 := fun hai h0 => by
        obtain ⟨j, hj⟩ : ∃ j, i - a.length = j * z := ⟨(i - a.length) / z, by have := Nat.div_add_mod (i - a.length) z; rw [Nat.mul_comm] at this; omega⟩
        have hj2 : j < o.length / z := by
          rw [Nat.lt_iff_add_one_le, Nat.le_div_iff_mul_le hz, Nat.add_mul, Nat.one_mul, ← hj]
          omega
        have hk := find_blk o z (o.length / z) j hj2 (blk_len o z j (blk_le _ _ _ hj2))
        have e : blk o z j = cut (a ++ o) i z := by
          unfold blk cut
          rw [← hj, List.drop_append, List.drop_of_length_le hai, List.nil_append]
        rw [e] at hk
        rw [hk] at hf
        cases hf
      rcases h3 with ⟨h3, h4⟩ | ⟨h3, h4⟩
      · rcases Nat.lt_or_ge i a.length with h5 | h5
        · exact .inl ⟨by omega, by omega⟩
        · exact absurd (by rw [show i - a.length = 0 by omega]; exact Nat.zero_mod z) (key h5)
      · refine .inr ⟨by omega, ?_⟩
        have hk := key h3
        have hlt := Nat.mod_lt (i - a.length) hz
        have e : i + 1 - a.length = (i - a.length) + 1 := by omega
        rw [e]
        rcases h4 with h4 | ⟨h4, _⟩
        · rcases Nat.lt_or_ge ((i - a.length) % z + 1) z with h5 | h5
          · have e2 : ((i - a.length) + 1) % z = (i - a.length) % z + 1 := by
              rw [Nat.add_mod, Nat.mod_eq_of_lt (show 1 < z by omega)]
              exact Nat.mod_eq_of_lt h5
            rw [e2]
            exact .inl (by omega)
          · have e2 : ((i - a.length) + 1) % z = 0 := by
              have hd := Nat.div_add_mod (i - a.length) z
              rw [show (i - a.length) + 1 = z * ((i - a.length) / z + 1) by rw [Nat.mul_add, Nat.mul_one]; omega]
              exact Nat.mul_mod_right _ _
            exact .inr ⟨e2, by omega⟩
        · exact absurd h4 hk) (a ++ o).length 0 0 [] (by omega) ⟨Nat.le_refl _, Nat.zero_le _, .inl ⟨Nat.zero_le _, by simp [lit]⟩⟩
  rw [h3, lit_app, whl_lit, List.length_drop]
  rcases h4 with ⟨h5, h6⟩ | ⟨h5, h6 | ⟨h6, h8⟩⟩
  · omega
  · have := Nat.mod_lt (i' - a.length) hz
    omega
  · omega
end Go.Proofs.YtlhmpcmlpfffoaaDoor
