/-
  The sums of a file: plainly.
  What copies and bytes are of a file and its own blocks, plainly.
  What a search tells: copies and bytes together are the new file.
  What the operations of a search make: the new file, or two unlike blocks have one sum.
-/
import Derived.Test.YtgnampbbkaolmaaDoorPkB
import Derived.Test.YtgnampbbkaolmaaDoorPkC
import Derived.Test.YtgnampbbkaolmaaDoorCm
import Derived.Test.YtgnampbbkaolmaaDoorBk
import Derived.Test.YtgnampbbkaolmaaDoorDq
namespace Go.Proofs.YtgnampbbkaolmaaDoor
open Go.RowKit Go.Maps
set_option maxRecDepth 100000

/-- The sums of a file. -/
abbrev sums (b : List Int) (z : Nat) : List Sg := sgs b z (b.length / z)
theorem sums_len (b : List Int) (z : Nat) : (sums b z).length = b.length / z := sgs_len _ _ _
theorem bsig_ok (b : List Int) (z : Nat) (hz0 : 0 < z) (hz : z ≤ 4096) (hb : b.length ≤ 4096) : bsig b z = (sums b z, 0) := by
  have h1 := Nat.div_le_self b.length z
  unfold bsig
  rw [if_neg (by omega), Int.toNat_natCast, if_neg (by omega)]
theorem chk_ok (b : List Int) (z : Nat) (hz0 : 0 < z) (hz : z ≤ 4096) (hb : b.length ≤ 4096) : chk z b.length (sums b z).length = 0 := by
  have h1 := Nat.div_le_self b.length z
  unfold chk
  rw [sums_len, if_neg (by omega), if_neg (by omega), Int.toNat_natCast, Int.toNat_natCast, if_neg (by omega)]
end Go.Proofs.YtgnampbbkaolmaaDoor
namespace Go.Proofs.YtgnampbbkaolmaaDoor
open Go.RowKit
set_option maxRecDepth 100000

theorem sums_nil (z : Nat) : sums [] z = [] := by
  unfold sums
  rw [List.length_nil, Nat.zero_div]
  rfl
/-- The numbers of a search's operations are not too great. -/
theorem srch_bd (l : List Sg) (z : Nat) (b : List Int) (hz0 : 0 < z) (hz : z ≤ 4096) (hl : l.length ≤ 4096) : Bd (srch (bfnd l z) z b 0 0 []) b.length := by
  obtain ⟨m', i', O', ⟨h1, h2, h4⟩, -, h3⟩ := srch_ind (F := bfnd l z) (b := b) hz0 (fun m i O => Bd O m ∧ m ≤ i ∧ i ≤ b.length)
    (fun m i O h hi _ => ⟨h.1.hit h.2.1 hi hz0 _ (bfnd_range l z _ hl hz).1 (bfnd_range l z _ hl hz).2, Nat.le_refl _, hi⟩)
    (fun m i O h hi _ => ⟨h.1, by omega, by omega⟩) b.length 0 0 [] (by omega) ⟨Bd.nil, Nat.le_refl _, Nat.zero_le _⟩
  rw [h3]
  have := h1.whl (b.drop m')
  rw [List.length_drop, show m' + (b.length - m') = b.length by omega] at this
  exact this
theorem srch_nb (l : List Sg) (z : Nat) (b : List Int) (hz0 : 0 < z) (hz : z ≤ 4096) (hl : l.length ≤ 4096) (hb : b.length ≤ 100000) : Nb (srch (bfnd l z) z b 0 0 []) := fun x hx => by
  obtain ⟨_, _, h3, h4⟩ := (srch_bd l z b hz0 hz hl).2 x hx
  omega
theorem sgs_at (b : List Int) (z n j : Nat) (h : j < n) : atI (sgs b z n) j = sumB (blk b z j) := by
  simp [atI, sgs, List.getD, h]
theorem fi_first (l : List Sg) (y : Sg) (j : Nat) (hj : j < l.length) (h : atI l j = y) : fi l y.k y.s ≤ j := by
  unfold fi
  rcases Nat.lt_or_ge j (l.findIdx fun x : Sg => decide (x.k = y.k) && decide (x.s = y.s)) with h1 | h1
  · have h2 := List.not_of_lt_findIdx h1
    rw [← atI_eq l j hj, h] at h2
    simp at h2
  · exact h1
/-- A block of the file is found. -/
theorem find_blk (b : List Int) (z n j : Nat) (h : j < n) (hz : (blk b z j).length = z) : (bfnd (sgs b z n) z (blk b z j)).2 = true := by
  have hl := sgs_len b z n
  have h1 := fi_first (sgs b z n) (sumB (blk b z j)) j (by omega) (sgs_at b z n j h)
  have h2 : fi (sgs b z n) (Ro.rs (blk b z j)) (Sh.Pl.sha (blk b z j)) ≤ j := h1
  unfold bfnd
  rw [if_pos ⟨by rw [hz], by omega⟩]
/-- What is found is a block with the same sum. -/
theorem find_is (b : List Int) (z : Nat) (X : List Int) (h : (bfnd (sums b z) z X).2 = true) : ∃ p, (p + 1) * z ≤ b.length ∧ (bfnd (sums b z) z X).1 = ((p * z : Nat) : Int) ∧ Sh.Pl.sha (blk b z p) = Sh.Pl.sha X := by
  unfold bfnd at h ⊢
  split at h
  · rename_i hq
    rw [if_pos hq]
    have hq2 := hq.2
    have hl := sums_len b z
    refine ⟨fi (sums b z) (Ro.rs X) (Sh.Pl.sha X), blk_le b.length z _ (by omega), by rw [Int.natCast_mul], ?_⟩
    have h3 := List.findIdx_getElem (w := hq2)
    simp only [Bool.and_eq_true, decide_eq_true_eq] at h3
    have h4 := h3.2
    have h5 : (sums b z)[fi (sums b z) (Ro.rs X) (Sh.Pl.sha X)]'hq2 = sumB (blk b z (fi (sums b z) (Ro.rs X) (Sh.Pl.sha X))) := by
      rw [← atI_eq _ _ hq2]
      exact sgs_at _ _ _ _ (by omega)
    have h6 : ((sums b z)[fi (sums b z) (Ro.rs X) (Sh.Pl.sha X)]'hq2).s = Sh.Pl.sha X := h4
    rw [h5] at h6
    exact h6
  · cases h
/-- A file of whole blocks, of itself: copies alone. -/
theorem srch_self (b : List Int) (z : Nat) (hz : 0 < z) (hb : b.length % z = 0) : cpd (srch (bfnd (sums b z) z) z b 0 0 []) = b.length ∧ lit (srch (bfnd (sums b z) z) z b 0 0 []) = 0 := by
  have hd := Nat.div_add_mod b.length z
  obtain ⟨m', i', O', ⟨j, h1, h2, h4, h5, h6⟩, h7, h3⟩ := srch_ind (F := bfnd (sums b z) z) (b := b) hz (fun m i O => ∃ j, i = j * z ∧ m = i ∧ i ≤ b.length ∧ cpd O = i ∧ lit O = 0)
    (fun m i O h hi _ => by
      obtain ⟨j, h1, rfl, h3, h4, h5⟩ := h
      refine ⟨j + 1, by rw [Nat.add_mul, Nat.one_mul, h1], rfl, hi, ?_, ?_⟩
      · rw [wcp_cpd, cpd_app, whl_cpd, h4]; omega
      · rw [wcp_lit, lit_app, whl_lit, h5, Nat.sub_self, cut_zero]; rfl)
    (fun m i O h hi hf => by
      obtain ⟨j, h1, rfl, h3, h4, h5⟩ := h
      exfalso
      have hj : j < b.length / z := by
        rw [Nat.lt_iff_add_one_le, Nat.le_div_iff_mul_le hz, Nat.add_mul, Nat.one_mul, ← h1]
        exact hi
      have := find_blk b z (b.length / z) j hj (blk_len b z j (blk_le _ _ _ hj))
      have e : blk b z j = cut b m z := by unfold blk cut; rw [h1]
      rw [e] at this
      rw [this] at hf
      cases hf) b.length 0 0 [] (by omega) ⟨0, by omega, rfl, Nat.zero_le _, rfl, rfl⟩
  have hm : m' = b.length := by
    subst h2
    rw [hb, Nat.add_zero] at hd
    have : j = b.length / z := by
      have a1 : j * z ≤ b.length / z * z := by rw [Nat.mul_comm (b.length / z), hd]; omega
      have a2 : j ≤ b.length / z := Nat.le_of_mul_le_mul_right a1 hz
      have a3 : b.length / z * z < (j + 1) * z := by rw [Nat.mul_comm (b.length / z), hd, Nat.add_mul, Nat.one_mul]; omega
      have a4 := Nat.lt_of_mul_lt_mul_right a3
      omega
    rw [h1, this, Nat.mul_comm]
    exact hd
  subst hm
  rw [h3, List.drop_length, whl_nil, List.append_nil, h5, h6]
  subst h2
  exact ⟨rfl, rfl⟩
/-- Of an empty file: bytes alone. -/
theorem srch_none (F : List Int → Int × Bool) (z : Nat) (b : List Int) (hz : 0 < z) (hF : ∀ X, (F X).2 = false) : srch F z b 0 0 [] = whl b := by
  obtain ⟨m', i', O', ⟨h1, h2⟩, h7, h3⟩ := srch_ind (F := F) (b := b) hz (fun m _ O => m = 0 ∧ O = []) (fun m i O _ _ hf => by rw [hF] at hf; cases hf) (fun m i O h _ _ => h) b.length 0 0 [] (by omega) ⟨rfl, rfl⟩
  rw [h3, h1, h2]
  rfl
theorem bfnd_nil (z : Int) (X : List Int) : (bfnd [] z X).2 = false := by
  unfold bfnd
  rw [if_neg (fun h => by have := h.2; simp at this)]
/-- Bytes ahead of a file cost no more than themselves and less than two blocks. -/
theorem srch_moved (a o : List Int) (z : Nat) (hz : 0 < z) : lit (srch (bfnd (sums o z) z) z (a ++ o) 0 0 []) ≤ a.length + z + z := by
  have hbl : (a ++ o).length = a.length + o.length := List.length_append
  obtain ⟨m', i', O', ⟨h1, h2, h4⟩, h7, h3⟩ := srch_ind (F := bfnd (sums o z) z) (b := a ++ o) hz (fun m i O => m ≤ i ∧ i ≤ (a ++ o).length ∧ ((i ≤ a.length ∧ lit O + (i - m) ≤ i) ∨ (a.length ≤ i ∧ (lit O + (i - m) ≤ a.length + (i - a.length) % z ∨ ((i - a.length) % z = 0 ∧ lit O + (i - m) ≤ a.length + z)))))
    (fun m i O h hi hf => by
      obtain ⟨h1, h2, h3⟩ := h
      refine ⟨Nat.le_refl _, hi, ?_⟩
      rw [wcp_lit, lit_app, whl_lit, cut_len _ _ _ (by omega), Nat.sub_self, Nat.add_zero]
      rcases h3 with ⟨h3, h4⟩ | ⟨h3, h4⟩
      · rcases Nat.lt_or_ge a.length (i + z) with h5 | h5
        · refine .inr ⟨by omega, .inl (by omega)⟩
        · exact .inl ⟨h5, by omega⟩
      · refine .inr ⟨by omega, ?_⟩
        have e : (i + z - a.length) % z = (i - a.length) % z := by
          rw [show i + z - a.length = (i - a.length) + z by omega, Nat.add_mod_right]
        rw [e]
        exact h4)
    (fun m i O h hi hf => by
      obtain ⟨h1, h2, h3⟩ := h
      refine ⟨by omega, by omega, ?_⟩
      have key : a.length ≤ i → (i - a.length) % z ≠ 0 := fun hai h0 => by
        obtain ⟨j, hj⟩ : ∃ j, i - a.length = j * z := ⟨(i - a.length) / z, by have := Nat.div_add_mod (i - a.length) z; rw [Nat.mul_comm] at this; omega⟩
        have hj2 : j < o.length / z := by
          rw [Nat.lt_iff_add_one_le, Nat.le_div_iff_mul_le hz, Nat.add_mul, Nat.one_mul, ← hj]
          omega
        have hk := find_blk o z (o.length / z) j hj2 (blk_len o z j (blk_le _ _ _ hj2))
        have e : blk o z j = cut (a ++ o) i z := by
          unfold blk cut
          rw [← hj, List.drop_append, List.drop_of_length_le hai, List.nil_append]
        rw [e] at hk
        rw [hk] at hf
        cases hf
      rcases h3 with ⟨h3, h4⟩ | ⟨h3, h4⟩
      · rcases Nat.lt_or_ge i a.length with h5 | h5
        · exact .inl ⟨by omega, by omega⟩
        · exact absurd (by rw [show i - a.length = 0 by omega]; exact Nat.zero_mod z) (key h5)
      · refine .inr ⟨by omega, ?_⟩
        have hk := key h3
        have hlt := Nat.mod_lt (i - a.length) hz
        have e : i + 1 - a.length = (i - a.length) + 1 := by omega
        rw [e]
        rcases h4 with h4 | ⟨h4, _⟩
        · rcases Nat.lt_or_ge ((i - a.length) % z + 1) z with h5 | h5
          · have e2 : ((i - a.length) + 1) % z = (i - a.length) % z + 1 := by
              rw [Nat.add_mod, Nat.mod_eq_of_lt (show 1 < z by omega)]
              exact Nat.mod_eq_of_lt h5
            rw [e2]
            exact .inl (by omega)
          · have e2 : ((i - a.length) + 1) % z = 0 := by
              have hd := Nat.div_add_mod (i - a.length) z
              rw [show (i - a.length) + 1 = z * ((i - a.length) / z + 1) by rw [Nat.mul_add, Nat.mul_one]; omega]
              exact Nat.mul_mod_right _ _
            exact .inr ⟨e2, by omega⟩
        · exact absurd h4 hk) (a ++ o).length 0 0 [] (by omega) ⟨Nat.le_refl _, Nat.zero_le _, .inl ⟨Nat.zero_le _, by simp [lit]⟩⟩
  rw [h3, lit_app, whl_lit, List.length_drop]
  rcases h4 with ⟨h5, h6⟩ | ⟨h5, h6 | ⟨h6, h8⟩⟩
  · omega
  · have := Nat.mod_lt (i' - a.length) hz
    omega
  · omega
end Go.Proofs.YtgnampbbkaolmaaDoor
namespace Go.Proofs.YtgnampbbkaolmaaDoor
open Go.RowKit
set_option maxRecDepth 100000

/-- How many bytes an operation makes. -/
def xl (x : Xp) : Nat := if x.c = true then x.n.toNat else x.d.length
/-- How many bytes operations make. -/
def tot (l : List Xp) : Nat := (l.map xl).sum
theorem tot_app (l m : List Xp) : tot (l ++ m) = tot l + tot m := by simp [tot]
theorem tot_one (x : Xp) : tot [x] = xl x := by simp [tot]
theorem tot_succ (l : List Xp) (j : Nat) (h : j < l.length) : tot (l.take (j + 1)) = tot (l.take j) + xl (atX l j) := by rw [takeX_at l j h, tot_app, tot_one]
/-- An operation tells what b has from p on: bytes of it, or blocks with the same sums. -/
def okAt (o b : List Int) (z p : Nat) (x : Xp) : Prop :=
  (x.c = false ∧ x.d ≠ [] ∧ p + x.d.length ≤ b.length ∧ x.d = cut b p x.d.length) ∨
  (x.c = true ∧ ∃ A K : Nat, x.a = ((A * z : Nat) : Int) ∧ x.n = ((K * z : Nat) : Int) ∧ 1 ≤ K ∧ (A + K) * z ≤ o.length ∧ p + K * z ≤ b.length ∧ ∀ k, k < K → Sh.Pl.sha (blk o z (A + k)) = Sh.Pl.sha (cut b (p + k * z) z))
/-- Operations tell the first bytes of b. -/
def Tl (o b : List Int) (z : Nat) (O : List Xp) (m : Nat) : Prop := tot O = m ∧ ∀ i, i < O.length → okAt o b z (tot (O.take i)) (atX O i)
theorem Tl.nil (o b : List Int) (z : Nat) : Tl o b z [] 0 := ⟨rfl, fun i hi => by simp at hi⟩
theorem Tl.snoc {o b : List Int} {z : Nat} {O : List Xp} {m : Nat} {x : Xp} (h : Tl o b z O m) (hx : okAt o b z m x) : Tl o b z (O ++ [x]) (m + xl x) := by
  refine ⟨by rw [tot_app, tot_one, h.1], fun i hi => ?_⟩
  rw [List.length_append, List.length_singleton] at hi
  by_cases hl : i < O.length
  · rw [atX_left O [x] i hl, List.take_append_of_le_length (by omega)]
    exact h.2 i hl
  · obtain rfl : i = O.length := by omega
    have e : atX (O ++ [x]) O.length = x := atX_right O [x] 0
    rw [e, List.take_append_of_le_length (Nat.le_refl _), List.take_length, h.1]
    exact hx
theorem Tl.last {o b : List Int} {z : Nat} {P : List Xp} {m : Nat} {x : Xp} (h : Tl o b z (P ++ [x]) m) : Tl o b z P (tot P) ∧ okAt o b z (tot P) x ∧ m = tot P + xl x := by
  refine ⟨⟨rfl, fun i hi => ?_⟩, ?_, by rw [← h.1, tot_app, tot_one]⟩
  · have := h.2 i (by rw [List.length_append]; omega)
    rwa [atX_left P [x] i hi, List.take_append_of_le_length (by omega)] at this
  · have := h.2 P.length (by rw [List.length_append, List.length_singleton]; omega)
    have e : atX (P ++ [x]) P.length = x := atX_right P [x] 0
    rwa [e, List.take_append_of_le_length (Nat.le_refl _), List.take_length] at this
theorem Tl.whl {o b : List Int} {z : Nat} {O : List Xp} {m : Nat} (h : Tl o b z O m) (i : Nat) (hm : m ≤ i) (hi : i ≤ b.length) : Tl o b z (O ++ whl (cut b m (i - m))) i := by
  by_cases he : cut b m (i - m) = []
  · have hl := congrArg List.length he
    rw [cut_len b m (i - m) (by omega)] at hl
    simp at hl
    obtain rfl : m = i := by omega
    rw [he, whl_nil, List.append_nil]
    exact h
  · rw [whl_some he]
    have hl := cut_len b m (i - m) (by omega)
    have := h.snoc (x := ⟨false, 0, 0, cut b m (i - m)⟩) (.inl ⟨rfl, he, by show m + (cut b m (i - m)).length ≤ _; omega, by show cut b m (i - m) = cut b m (cut b m (i - m)).length; rw [hl]⟩)
    have e : m + xl ⟨false, 0, 0, cut b m (i - m)⟩ = i := by
      show m + (cut b m (i - m)).length = i
      omega
    rwa [e] at this
theorem Tl.wcp {o b : List Int} {z : Nat} {O : List Xp} {i : Nat} (h : Tl o b z O i) (hi : i + z ≤ b.length) (hz : 0 < z) (p : Nat) (hp : (p + 1) * z ≤ o.length) (hs : Sh.Pl.sha (blk o z p) = Sh.Pl.sha (cut b i z)) : Tl o b z (wcp O ((p * z : Nat) : Int) z) (i + z) := by
  unfold Go.Proofs.YtgnampbbkaolmaaDoor.wcp
  split
  · rename_i he
    obtain ⟨P, x, rfl, -, -⟩ := snoc_of O he.1
    have hc := he.2.1
    have ha := he.2.2
    rw [last_snoc] at hc ha
    rw [longer_snoc]
    obtain ⟨t1, t2, t3⟩ := h.last
    rcases t2 with ⟨q, _⟩ | ⟨_, A, K, q1, q2, q3, q4, q5, q6⟩
    · rw [q] at hc; cases hc
    · have hx : xl x = K * z := by unfold xl; rw [if_pos hc, q2, Int.toNat_natCast]
      rw [q1, q2] at ha
      have hAK : A + K = p := by
        have e : (A + K) * z = p * z := by rw [Nat.add_mul]; omega
        exact Nat.eq_of_mul_eq_mul_right hz e
      have e1 : (K + 1) * z = K * z + z := by rw [Nat.add_mul, Nat.one_mul]
      have hx2 : xl { x with n := x.n + z } = (K + 1) * z := by
        unfold xl
        rw [if_pos (show ({ x with n := x.n + z } : Xp).c = true from hc)]
        show (x.n + (z : Int)).toNat = _
        rw [q2, e1]
        omega
      have := t1.snoc (x := { x with n := x.n + z }) (.inr ⟨hc, A, K + 1, q1, by show x.n + (z : Int) = _; rw [q2, e1]; omega, by omega, by rw [← Nat.add_assoc, hAK]; exact hp, by omega, fun k hk => by
        rcases Nat.lt_or_ge k K with hk2 | hk2
        · exact q6 k hk2
        · obtain rfl : k = K := by omega
          rw [hAK, show tot P + k * z = i by omega]
          exact hs⟩)
      rw [hx2] at this
      rwa [show tot P + (K + 1) * z = i + z by omega] at this
  · have := h.snoc (x := ⟨true, ((p * z : Nat) : Int), (z : Int), []⟩) (.inr ⟨rfl, p, 1, rfl, by rw [Nat.one_mul], Nat.le_refl _, hp, by omega, fun k hk => by
      obtain rfl : k = 0 := by omega
      rw [Nat.add_zero, Nat.zero_mul, Nat.add_zero]
      exact hs⟩)
    have e : xl ⟨true, ((p * z : Nat) : Int), (z : Int), []⟩ = z := by
      unfold xl
      rw [if_pos rfl, Int.toNat_natCast]
    rwa [e] at this
/-- What a search tells. -/
theorem srch_tells (o b : List Int) (z : Nat) (hz : 0 < z) : Tl o b z (srch (bfnd (sums o z) z) z b 0 0 []) b.length ∧ cpd (srch (bfnd (sums o z) z) z b 0 0 []) + (lit (srch (bfnd (sums o z) z) z b 0 0 []) : Int) = b.length := by
  obtain ⟨m', i', O', ⟨h1, h2, h4, h5⟩, -, h3⟩ := srch_ind (F := bfnd (sums o z) z) (b := b) hz (fun m i O => m ≤ i ∧ i ≤ b.length ∧ Tl o b z O m ∧ cpd O + (lit O : Int) = m)
    (fun m i O h hi hf => by
      obtain ⟨a1, a2, a3, a4⟩ := h
      obtain ⟨p, p1, p2, p3⟩ := find_is o z _ hf
      refine ⟨Nat.le_refl _, hi, ?_, ?_⟩
      · rw [p2]
        exact (a3.whl i a1 a2).wcp hi hz p p1 p3
      · rw [wcp_cpd, wcp_lit, cpd_app, lit_app, whl_cpd, whl_lit, cut_len b m (i - m) (by omega)]
        omega)
    (fun m i O h hi _ => ⟨by omega, by omega, h.2.2.1, h.2.2.2⟩) b.length 0 0 [] (by omega) ⟨Nat.le_refl _, Nat.zero_le _, Tl.nil _ _ _, rfl⟩
  rw [h3]
  have e : cut b m' (b.length - m') = b.drop m' := by
    unfold cut
    rw [List.take_of_length_le (by rw [List.length_drop]; omega)]
  have := h4.whl b.length (by omega) (Nat.le_refl _)
  rw [e] at this
  refine ⟨this, ?_⟩
  rw [cpd_app, lit_app, whl_cpd, whl_lit, List.length_drop]
  omega
end Go.Proofs.YtgnampbbkaolmaaDoor
namespace Go.Proofs.YtgnampbbkaolmaaDoor
open Go.RowKit
set_option maxRecDepth 100000

/-- Copies have no bytes, bytes have no place. -/
def Cl (O : List Xp) : Prop := ∀ x ∈ O, (x.c = true → x.d = []) ∧ (x.c = false → x.a = 0 ∧ x.n = 0)
theorem Cl.nil : Cl [] := fun x hx => by simp at hx
theorem Cl.app {O P : List Xp} (h : Cl O) (h2 : Cl P) : Cl (O ++ P) := fun x hx => by
  rcases List.mem_append.1 hx with hx | hx
  · exact h x hx
  · exact h2 x hx
theorem Cl.whl (X : List Int) : Cl (whl X) := fun x hx => by
  by_cases hX : X = []
  · subst hX; simp [Go.Proofs.YtgnampbbkaolmaaDoor.whl] at hx
  · rw [whl_some hX] at hx
    simp at hx
    subst hx
    exact ⟨(fun e => by cases e), fun _ => ⟨rfl, rfl⟩⟩
theorem Cl.wcp {O : List Xp} (h : Cl O) (a : Int) (z : Nat) : Cl (wcp O a z) := by
  unfold Go.Proofs.YtgnampbbkaolmaaDoor.wcp
  split
  · rename_i he
    obtain ⟨P, x, rfl, -, -⟩ := snoc_of O he.1
    have hc := he.2.1
    rw [last_snoc] at hc
    rw [longer_snoc]
    refine Cl.app (fun y hy => h y (List.mem_append_left _ hy)) fun y hy => ?_
    simp at hy
    subst hy
    exact ⟨fun _ => (h x (List.mem_append_right _ (by simp))).1 hc, fun e => by rw [show ({ x with n := x.n + z } : Xp).c = x.c from rfl, hc] at e; cases e⟩
  · refine h.app fun y hy => ?_
    simp at hy
    subst hy
    exact ⟨fun _ => rfl, fun e => by cases e⟩
theorem srch_cl (F : List Int → Int × Bool) (z : Nat) (b : List Int) (hz : 0 < z) : Cl (srch F z b 0 0 []) := by
  obtain ⟨m', i', O', h1, -, h3⟩ := srch_ind (F := F) (b := b) hz (fun _ _ O => Cl O) (fun m i O h _ _ => (h.app (Cl.whl _)).wcp _ _) (fun m i O h _ _ => h) b.length 0 0 [] (by omega) Cl.nil
  rw [h3]
  exact h1.app (Cl.whl _)
theorem mk_xl (x : Xp) : mkX x = (xl x : Int) := by
  unfold mkX xl
  split <;> omega
theorem totX_tot : ∀ l : List Xp, totX l = (tot l : Int)
  | [] => rfl
  | x :: l => by
    have e : tot (x :: l) = xl x + tot l := by simp [tot]
    rw [totX_cons, totX_tot l, mk_xl, e]
    omega
theorem byt_tot : ∀ l : List Xp, Cl l → byt l ≤ tot l
  | [], _ => Nat.le_refl _
  | x :: l, h => by
    have ih := byt_tot l fun y hy => h y (by simp [hy])
    have e : tot (x :: l) = xl x + tot l := by simp [tot]
    have e2 : byt (x :: l) = x.d.length + byt l := by simp [byt]
    have hx : x.d.length ≤ xl x := by
      unfold xl
      split
      · rename_i hc
        rw [(h x (by simp)).1 hc]
        exact Nat.zero_le _
      · exact Nat.le_refl _
    omega
theorem tl_may {o b : List Int} {z m : Nat} {R : List Xp} (h : Tl o b z R m) (hc : Cl R) (hz : 0 < z) : ∀ x ∈ R, mayX x o.length = true := fun x hx => by
  obtain ⟨i, hi, he⟩ := List.getElem_of_mem hx
  have hat : atX R i = x := by rw [atX_eq R i hi, he]
  have hk := h.2 i hi
  rw [hat] at hk
  rcases hk with ⟨q1, q2, -, -⟩ | ⟨q1, A, K, q2, q3, q4, q5, -, -⟩
  · exact (mayX_data q1).2 ⟨List.length_pos_iff.2 q2, (hc x hx).2 q1⟩
  · rw [Nat.add_mul] at q5
    have hk1 : 1 ≤ K * z := Nat.mul_pos (by omega) hz
    refine (mayX_copy q1).2 ⟨by rw [(hc x hx).1 q1]; rfl, ?_, ?_, ?_, ?_⟩
    all_goals
      first | rw [q2, q3] | rw [q2] | rw [q3]
      omega
theorem cut_add (b : List Int) (i n m : Nat) : cut b i (n + m) = cut b i n ++ cut b (i + n) m := by
  unfold cut
  rw [List.take_add, List.drop_drop]
theorem take_cut (b : List Int) (p n : Nat) : b.take (p + n) = b.take p ++ cut b p n := by
  unfold cut
  rw [List.take_add]
theorem blks_eq (o b : List Int) (z A p : Nat) : ∀ K : Nat, (∀ k, k < K → blk o z (A + k) = cut b (p + k * z) z) → cut o (A * z) (K * z) = cut b p (K * z)
  | 0, _ => by rw [Nat.zero_mul, cut_zero, cut_zero]
  | K + 1, h => by
    have ih := blks_eq o b z A p K fun k hk => h k (by omega)
    have e := h K (by omega)
    rw [Nat.add_mul, Nat.one_mul, cut_add, cut_add, ih, ← e]
    unfold blk cut
    rw [Nat.add_mul]
/-- What operations make that tell the first bytes of b, where no two unlike blocks have one sum. -/
theorem tl_make {o b : List Int} {z m : Nat} {R : List Xp} (h : Tl o b z R m) (hg : ∀ A t, (A + 1) * z ≤ o.length → t + z ≤ b.length → Sh.Pl.sha (blk o z A) = Sh.Pl.sha (cut b t z) → blk o z A = cut b t z) :
    ∀ j, j ≤ R.length → makeX o (R.take j) = b.take (tot (R.take j))
  | 0, _ => by simp [makeX, tot]
  | j + 1, hj => by
    rw [makeX_step o R j hj, tot_succ R j hj, take_cut, tl_make h hg j (by omega)]
    congr 1
    have hk := h.2 j hj
    generalize tot (R.take j) = p at *
    generalize atX R j = x at *
    rcases hk with ⟨q1, q2, q3, q4⟩ | ⟨q1, A, K, q2, q3, q4, q5, q6, q7⟩
    · have e1 : pieX o x = x.d := if_neg (by rw [q1]; simp)
      have e2 : xl x = x.d.length := if_neg (by rw [q1]; simp)
      rw [e1, e2]
      exact q4
    · have e1 : pieX o x = cut o x.a.toNat x.n.toNat := if_pos q1
      have e2 : xl x = x.n.toNat := if_pos q1
      rw [e1, e2, q2, q3, Int.toNat_natCast, Int.toNat_natCast]
      refine blks_eq o b z A p K fun k hk => hg (A + k) (p + k * z) ?_ ?_ (q7 k hk)
      · exact Nat.le_trans (Nat.mul_le_mul_right z (by omega)) q5
      · have := Nat.mul_le_mul_right z (show k + 1 ≤ K from hk)
        rw [Nat.add_mul, Nat.one_mul] at this
        omega
/-- What a search's operations make. -/
theorem mirror (o b : List Int) (z : Nat) (hz : 0 < z) (R : List Xp) (hR : R = srch (bfnd (sums o z) z) z b 0 0 []) :
    (∀ x ∈ R, mayX x o.length = true) ∧ totX R = b.length ∧ R.length ≤ b.length ∧ byt R ≤ b.length ∧ (makeX o R).length = b.length ∧
    (makeX o R = b ∨ ∃ A t, (A + 1) * z ≤ o.length ∧ t + z ≤ b.length ∧ Sh.Pl.sha (cut o (A * z) z) = Sh.Pl.sha (cut b t z) ∧ cut o (A * z) z ≠ cut b t z) := by
  have ht := (srch_tells o b z hz).1
  have hc := srch_cl (bfnd (sums o z) z) z b hz
  have hl := srch_len (bfnd (sums o z) z) z b hz
  rw [← hR] at ht hc hl
  have hm := tl_may ht hc hz
  have h1 : totX R = b.length := by rw [totX_tot, ht.1]
  refine ⟨hm, h1, hl, by have := byt_tot R hc; rw [ht.1] at this; exact this, ?_, ?_⟩
  · have := makeX_len o R hm
    omega
  · by_cases hx : ∃ A t, (A + 1) * z ≤ o.length ∧ t + z ≤ b.length ∧ Sh.Pl.sha (cut o (A * z) z) = Sh.Pl.sha (cut b t z) ∧ cut o (A * z) z ≠ cut b t z
    · exact .inr hx
    · refine .inl ?_
      have := tl_make ht (fun A t a1 a2 a3 => Classical.byContradiction fun a4 => hx ⟨A, t, a1, a2, a3, a4⟩) R.length (Nat.le_refl _)
      rwa [List.take_length, ht.1, List.take_length] at this
/-- The tables of sha, and the widths. -/
def Tb (w : World) : Prop := Sh.Tab w ∧ Fi.Wid w
end Go.Proofs.YtgnampbbkaolmaaDoor
