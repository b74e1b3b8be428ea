/-
  What a search tells: copies and bytes together are the new file.
-/
import Derived.Test.YtlhmpcmlpfffoaaDoorXq
namespace Go.Proofs.YtlhmpcmlpfffoaaDoor
open Go.RowKit
set_option maxRecDepth 100000

/-- How many bytes an operation makes. -/
def xl (x : Xp) : Nat := if x.c = true then x.n.toNat else x.d.length
/-- How many bytes operations make. -/
def tot (l : List Xp) : Nat := (l.map xl).sum
theorem tot_app (l m : List Xp) : tot (l ++ m) = tot l + tot m := by simp [tot]
theorem tot_one (x : Xp) : tot [x] = xl x := by simp [tot]
theorem tot_succ (l : List Xp) (j : Nat) (h : j < l.length) : tot (l.take (j + 1)) = tot (l.take j) + xl (atX l j) := by rw [takeX_at l j h, tot_app, tot_one]
/-- An operation tells what b has from p on: bytes of it, or blocks with the same sums. -/
def okAt (o b : List Int) (z p : Nat) (x : Xp) : Prop :=
  (x.c = false ∧ x.d ≠ [] ∧ p + x.d.length ≤ b.length ∧ x.d = cut b p x.d.length) ∨
  (x.c = true ∧ ∃ A K : Nat, x.a = ((A * z : Nat) : Int) ∧ x.n = ((K * z : Nat) : Int) ∧ 1 ≤ K ∧ (A + K) * z ≤ o.length ∧ p + K * z ≤ b.length ∧ ∀ k, k < K → Sh.Pl.sha (blk o z (A + k)) = Sh.Pl.sha (cut b (p + k * z) z))
/-- Operations tell the first bytes of b. -/
def Tl (o b : List Int) (z : Nat) (O : List Xp) (m : Nat) : Prop := tot O = m ∧ ∀ i, i < O.length → okAt o b z (tot (O.take i)) (atX O i)
theorem Tl.nil (o b : List Int) (z : Nat) : Tl o b z [] 0 := ⟨rfl, fun i hi => by simp at hi⟩
theorem Tl.snoc {o b : List Int} {z : Nat} {O : List Xp} {m : Nat} {x : Xp} (h : Tl o b z O m) (hx : okAt o b z m x) : Tl o b z (O ++ [x]) (m + xl x) := by
  refine ⟨by rw [tot_app, tot_one, h.1], fun i hi => ?_⟩
  rw [List.length_append, List.length_singleton] at hi
  by_cases hl : i < O.length
  · rw [atX_left O [x] i hl, List.take_append_of_le_length (by omega)]
    exact h.2 i hl
  · obtain rfl : i = O.length := by omega
    have e : atX (O ++ [x]) O.length = x := atX_right O [x] 0
    rw [e, List.take_append_of_le_length (Nat.le_refl _), List.take_length, h.1]
    exact hx
theorem Tl.last {o b : List Int} {z : Nat} {P : List Xp} {m : Nat} {x : Xp} (h : Tl o b z (P ++ [x]) m) : Tl o b z P (tot P) ∧ okAt o b z (tot P) x ∧ m = tot P + xl x := by
  refine ⟨⟨rfl, fun i hi => ?_⟩, ?_, by rw [← h.1, tot_app, tot_one]⟩
  · have := h.2 i (by rw [List.length_append]; omega)
    rwa [atX_left P [x] i hi, List.take_append_of_le_length (by omega)] at this
  · have := h.2 P.length (by rw [List.length_append, List.length_singleton]; omega)
    have e : atX (P ++ [x]) P.length = x := atX_right P [x] 0
    rwa [e, List.take_append_of_le_length (Nat.le_refl _), List.take_length] at this
theorem Tl.whl {o b : List Int} {z : Nat} {O : List Xp} {m : Nat} (h : Tl o b z O m) (i : Nat) (hm : m ≤ i) (hi : i ≤ b.length) : Tl o b z (O ++ whl (cut b m (i - m))) i := by
  by_cases he : cut b m (i - m) = []
  · have hl := congrArg List.length he
    rw [cut_len b m (i - m) (by omega)] at hl
    simp at hl
    obtain rfl : m = i := by omega
    rw [he, whl_nil, List.append_nil]
    exact h
  · rw [whl_some he]
    have hl := cut_len b m (i - m) (by omega)
    have := h.snoc (x := ⟨false, 0, 0, cut b m (i - m)⟩) (.inl ⟨rfl, he, by show m + (cut b m (i - m)).length ≤ _; omega, by show cut b m (i - m) = cut b m (cut b m (i - m)).length; rw [hl]⟩)
    have e : m + xl ⟨false, 0, 0, cut b m (i - m)⟩ = i := by
      show m + (cut b m (i - m)).length = i
      omega
    rwa [e] at this
theorem Tl.wcp {o b : List Int} {z : Nat} {O : List Xp} {i : Nat} (h : Tl o b z O i) (hi : i + z ≤ b.length) (hz : 0 < z) (p : Nat) (hp : (p + 1) * z ≤ o.length) (hs : Sh.Pl.sha (blk o z p) = Sh.Pl.sha (cut b i z)) : Tl o b z (wcp O ((p * z : Nat) : Int) z) (i + z) := by
  unfold Go.Proofs.YtlhmpcmlpfffoaaDoor.wcp
  split
  · rename_i he
    obtain ⟨P, x, rfl, -, -⟩ := snoc_of O he.1
    have hc := he.2.1
    have ha := he.2.2
    rw [last_snoc] at hc ha
    rw [longer_snoc]
    obtain ⟨t1, t2, t3⟩ := h.last
    rcases t2 with ⟨q, _⟩ | ⟨_, A, K, q1, q2, q3, q4, q5, q6⟩
    · rw [q] at hc; cases hc
    · have hx : xl x = K * z := by unfold xl; rw [if_pos hc, q2, Int.toNat_natCast]
      rw [q1, q2] at ha
      have hAK : A + K = p := by
        have e : (A + K) * z = p * z := by rw [Nat.add_mul]; omega
        exact Nat.eq_of_mul_eq_mul_right hz e
      have e1 : (K + 1) * z = K * z + z := by rw [Nat.add_mul, Nat.one_mul]
      have hx2 : xl { x with n := x.n + z } = (K + 1) * z := by
        unfold xl
        rw [if_pos (show ({ x with n := x.n + z } : Xp).c = true from hc)]
        show (x.n + (z : Int)).toNat = _
        rw [q2, e1]
        omega
      have := t1.snoc (x := { x with n := x.n + z }) (.inr ⟨hc, A, K + 1, q1, by show x.n + (z : Int) = _; rw [q2, e1]; omega, by omega, by rw [← Nat.add_assoc, hAK]; exact hp, by omega, fun k hk => by
        rcases Nat.lt_or_ge k K with hk2 | hk2
        · exact q6 k hk2
        · obtain rfl : k = K := by omega
          rw [hAK, show tot P + k * z = i by omega]
          exact hs⟩)
      rw [hx2] at this
      rwa [show tot P + (K + 1) * z = i + z by omega] at this
  · have := h.snoc (x := ⟨true, ((p * z : Nat) : Int), (z : Int), []⟩) (.inr ⟨rfl, p, 1, rfl, by rw [Nat.one_mul], Nat.le_refl _, hp, by omega, fun k hk => by
      obtain rfl : k = 0 := by omega
      rw [Nat.add_zero, Nat.zero_mul, Nat.add_zero]
      exact hs⟩)
    have e : xl ⟨true, ((p * z : Nat) : Int), (z : Int), []⟩ = z := by
      unfold xl
      rw [if_pos rfl, Int.toNat_natCast]
    rwa [e] at this
/-- What a search tells. -/
theorem srch_tells (o b : List Int) (z : Nat) (hz : 0 < z) : Tl o b z (srch (bfnd (sums o z) z) z b 0 0 []) b.length ∧ cpd (srch (bfnd (sums o z) z) z b 0 0 []) + (lit (srch (bfnd (sums o z) z) z b 0 0 []) : Int) = b.length := by
  obtain ⟨m', i', O', ⟨h1, h2, h4, h5⟩, -, h3⟩ := srch_ind (F := bfnd (sums o z) z) (b := b) hz (fun m i O => m ≤ i ∧ i ≤ b.length ∧ Tl o b z O m ∧ cpd O + (lit O : Int) = m)
    (fun m i O h hi hf => by
      obtain ⟨a1, a2, a3, a4⟩ := h
      obtain ⟨p, p1, p2, p3⟩ := find_is o z _ hf
      refine ⟨Nat.le_refl _, hi, ?_, ?_⟩
      · rw [p2]
        exact (a3.whl i a1 a2).wcp hi hz p p1 p3
      · rw [wcp_cpd, wcp_lit, cpd_app, lit_app, whl_cpd, whl_lit, cut_len b m (i - m) (by omega)]
        omega)
    (fun m i O h hi _ => ⟨by omega, by omega, h.2.2.1, h.2.2.2⟩) b.length 0 0 [] (by omega) ⟨Nat.le_refl _, Nat.zero_le _, Tl.nil _ _ _, rfl⟩
  rw [h3]
  have e : cut b m' (b.length - m') = b.drop m' := by
    unfold cut
    rw [List.take_of_length_le (by rw [List.length_drop]; omega)]
  have := h4.whl b.length (by omega) (Nat.le_refl _)
  rw [e] at this
  refine ⟨this, ?_⟩
  rw [cpd_app, lit_app, whl_cpd, whl_lit, List.length_drop]
  omega
end Go.Proofs.YtlhmpcmlpfffoaaDoor
