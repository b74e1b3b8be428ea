/-
  Operations, plainly: copies and bytes; the search for them.
-/
import Derived.Test.YtfccjeepmhgckaaDoorBa
namespace Go.Proofs.YtfccjeepmhgckaaDoor
open Go.RowKit

/-- An operation: whether it is a copy, from where, how many bytes; its bytes. -/
structure Xp where
  c : Bool
  a : Int
  n : Int
  d : List Int
/-- The empty operation. -/
def x0 : Xp := ⟨false, 0, 0, []⟩
/-- The operation at a place. -/
abbrev atX (l : List Xp) (i : Nat) : Xp := l.getD i x0
theorem atX_eq (l : List Xp) (i : Nat) (h : i < l.length) : atX l i = l[i] := by simp [atX, List.getD, h]
theorem atX_mem (l : List Xp) (i : Nat) (h : i < l.length) : atX l i ∈ l := by rw [atX_eq l i h]; exact List.getElem_mem h
theorem atX_left (l m : List Xp) (i : Nat) (h : i < l.length) : atX (l ++ m) i = atX l i := by simp [atX, List.getD, List.getElem?_append_left h]
theorem atX_right (l m : List Xp) (i : Nat) : atX (l ++ m) (l.length + i) = atX m i := by
  simp only [atX, List.getD]
  rw [List.getElem?_append_right (by omega), show l.length + i - l.length = i by omega]
/-- Whether two operations are the same. -/
def samX (x y : Xp) : Bool := decide (x.c = y.c) && decide (x.a = y.a) && decide (x.n = y.n) && decide (x.d = y.d)
theorem samX_iff (x y : Xp) : samX x y = true ↔ x = y := by
  cases x; cases y
  simp [samX]
  constructor
  · rintro ⟨⟨⟨a, b⟩, c⟩, d⟩; exact ⟨a, b, c, d⟩
  · rintro ⟨a, b, c, d⟩; exact ⟨⟨⟨a, b⟩, c⟩, d⟩
/-- Whether lists of them are the same. -/
def saX (l m : List Xp) : Bool := decide (l.length = m.length) && (List.range l.length).all fun i => samX (atX l i) (atX m i)
theorem saX_iff (l m : List Xp) : saX l m = true ↔ l = m := by
  unfold saX
  rw [Bool.and_eq_true, decide_eq_true_eq, List.all_eq_true]
  constructor
  · rintro ⟨h1, h2⟩
    refine List.ext_getElem h1 fun i a b => ?_
    have := (samX_iff _ _).1 (h2 i (List.mem_range.2 a))
    rwa [atX_eq l i a, atX_eq m i b] at this
  · rintro rfl
    exact ⟨rfl, fun i _ => (samX_iff _ _).2 rfl⟩
theorem saX_self (l : List Xp) : saX l l = true := (saX_iff l l).2 rfl
theorem saX_len {l m : List Xp} (h : l.length ≠ m.length) : saX l m = false := by simp [saX, h]
theorem saX_no {l m : List Xp} (i : Nat) (h : samX (atX l i) (atX m i) = false) : saX l m = false := by
  cases hq : saX l m with
  | false => rfl
  | true =>
    rw [(saX_iff l m).1 hq] at h
    rw [(samX_iff _ _).2 rfl] at h
    cases h
theorem saX_yes {l m : List Xp} (hl : l.length = m.length) (h : ∀ i, i < l.length → samX (atX l i) (atX m i) = true) : saX l m = true := by
  unfold saX
  rw [Bool.and_eq_true, decide_eq_true_eq, List.all_eq_true]
  exact ⟨hl, fun i hi => h i (List.mem_range.1 hi)⟩
/-- How many bytes are copied, and how many are not. -/
def cpd (l : List Xp) : Int := (l.map fun x => if x.c = true then x.n else 0).sum
def lit (l : List Xp) : Nat := (l.map fun x => if x.c = true then 0 else x.d.length).sum
theorem cpd_app (l m : List Xp) : cpd (l ++ m) = cpd l + cpd m := by simp [cpd]
theorem lit_app (l m : List Xp) : lit (l ++ m) = lit l + lit m := by simp [lit]
theorem cpd_one (x : Xp) : cpd [x] = if x.c = true then x.n else 0 := by simp [cpd]
theorem lit_one (x : Xp) : lit [x] = if x.c = true then 0 else x.d.length := by simp [lit]
theorem takeX_at (l : List Xp) (j : Nat) (h : j < l.length) : l.take (j + 1) = l.take j ++ [atX l j] := by
  rw [List.take_add_one, List.getElem?_eq_getElem h]
  simp [atX, List.getD, List.getElem?_eq_getElem h]
/-- The bytes from a place on. -/
def cut (b : List Int) (i n : Nat) : List Int := (b.drop i).take n
theorem cut_len (b : List Int) (i n : Nat) (h : i + n ≤ b.length) : (cut b i n).length = n := by
  unfold cut
  rw [List.length_take, List.length_drop]
  omega
theorem cut_zero (b : List Int) (i : Nat) : cut b i 0 = [] := by simp [cut]
/-- Bytes alone. -/
def whl (b : List Int) : List Xp := if b = [] then [] else [⟨false, 0, 0, b⟩]
theorem whl_nil : whl [] = [] := rfl
theorem whl_some {b : List Int} (h : b ≠ []) : whl b = [⟨false, 0, 0, b⟩] := if_neg h
theorem whl_lit (b : List Int) : lit (whl b) = b.length := by
  by_cases h : b = []
  · subst h; rfl
  · rw [whl_some h, lit_one]; simp
theorem whl_cpd (b : List Int) : cpd (whl b) = 0 := by
  by_cases h : b = []
  · subst h; rfl
  · rw [whl_some h, cpd_one]; simp
theorem whl_len (b : List Int) : (whl b).length ≤ b.length ∧ (whl b).length ≤ 1 := by
  by_cases h : b = []
  · subst h; exact ⟨Nat.le_refl _, Nat.zero_le _⟩
  · rw [whl_some h]
    have : 0 < b.length := List.length_pos_iff.2 h
    exact ⟨by show 1 ≤ b.length; omega, by simp⟩
/-- Whether the last one is a copy that ends where this one begins. -/
def ends (O : List Xp) (at' : Int) : Prop := 0 < O.length ∧ (atX O (O.length - 1)).c = true ∧ (atX O (O.length - 1)).a + (atX O (O.length - 1)).n = at'
instance (O : List Xp) (at' : Int) : Decidable (ends O at') := by unfold ends; exact inferInstance
/-- The last one, longer. -/
def longer (O : List Xp) (z : Nat) : List Xp := O.set (O.length - 1) { atX O (O.length - 1) with n := (atX O (O.length - 1)).n + z }
/-- With a copy behind. -/
def wcp (O : List Xp) (at' : Int) (z : Nat) : List Xp := if ends O at' then longer O z else O ++ [⟨true, at', z, []⟩]
/-- The search, from a state: what stands from m on is not told yet; the place is i. -/
def srch (F : List Int → Int × Bool) (z : Nat) (b : List Int) (m i : Nat) (O : List Xp) : List Xp :=
  if _h : i + z ≤ b.length ∧ 0 < z then
    if (F (cut b i z)).2 = true then srch F z b (i + z) (i + z) (wcp (O ++ whl (cut b m (i - m))) (F (cut b i z)).1 z)
    else srch F z b m (i + 1) O
  else O ++ whl (b.drop m)
termination_by b.length - i
decreasing_by all_goals omega
theorem srch_hit {F : List Int → Int × Bool} {z : Nat} {b : List Int} {m i : Nat} {O : List Xp} (h : i + z ≤ b.length) (hz : 0 < z) (hf : (F (cut b i z)).2 = true) : srch F z b m i O = srch F z b (i + z) (i + z) (wcp (O ++ whl (cut b m (i - m))) (F (cut b i z)).1 z) := by
  rw [srch, dif_pos ⟨h, hz⟩, if_pos hf]
theorem srch_miss {F : List Int → Int × Bool} {z : Nat} {b : List Int} {m i : Nat} {O : List Xp} (h : i + z ≤ b.length) (hz : 0 < z) (hf : (F (cut b i z)).2 = false) : srch F z b m i O = srch F z b m (i + 1) O := by
  rw [srch, dif_pos ⟨h, hz⟩, if_neg (by rw [hf]; simp)]
theorem srch_end {F : List Int → Int × Bool} {z : Nat} {b : List Int} {m i : Nat} {O : List Xp} (h : ¬ i + z ≤ b.length) : srch F z b m i O = O ++ whl (b.drop m) := by
  rw [srch, dif_neg (fun q => h q.1)]
/-- The last of some and one more. -/
theorem snoc_of (O : List Xp) (h : 0 < O.length) : ∃ P x, O = P ++ [x] ∧ atX O (O.length - 1) = x ∧ P.length + 1 = O.length := by
  refine ⟨O.dropLast, O.getLast (List.ne_nil_of_length_pos h), (List.dropLast_concat_getLast _).symm, ?_, by rw [List.length_dropLast]; omega⟩
  rw [atX_eq O _ (by omega), List.getLast_eq_getElem]
theorem last_snoc (P : List Xp) (x : Xp) : atX (P ++ [x]) ((P ++ [x]).length - 1) = x := by
  rw [List.length_append, List.length_singleton, Nat.add_sub_cancel]
  exact atX_right P [x] 0
theorem longer_snoc (P : List Xp) (x : Xp) (z : Nat) : longer (P ++ [x]) z = P ++ [{ x with n := x.n + z }] := by
  unfold longer
  rw [last_snoc, List.length_append, List.length_singleton, Nat.add_sub_cancel, List.set_append_right _ _ (Nat.le_refl _), Nat.sub_self]
  rfl
/-- What holds behind a search, if it holds at its start and at each step. -/
theorem srch_ind {F : List Int → Int × Bool} {z : Nat} {b : List Int} (hz : 0 < z) (I : Nat → Nat → List Xp → Prop)
    (hhit : ∀ m i O, I m i O → i + z ≤ b.length → (F (cut b i z)).2 = true → I (i + z) (i + z) (wcp (O ++ whl (cut b m (i - m))) (F (cut b i z)).1 z))
    (hmiss : ∀ m i O, I m i O → i + z ≤ b.length → (F (cut b i z)).2 = false → I m (i + 1) O) :
    ∀ (k m i : Nat) (O : List Xp), b.length - i ≤ k → I m i O → ∃ m' i' O', I m' i' O' ∧ ¬ i' + z ≤ b.length ∧ srch F z b m i O = O' ++ whl (b.drop m') := by
  intro k
  induction k with
  | zero =>
    intro m i O hk h
    exact ⟨m, i, O, h, by omega, srch_end (by omega)⟩
  | succ k ih =>
    intro m i O hk h
    by_cases hi : i + z ≤ b.length
    · cases hf : (F (cut b i z)).2 with
      | true =>
        obtain ⟨m', i', O', h1, h2, h3⟩ := ih _ _ _ (by omega) (hhit m i O h hi hf)
        exact ⟨m', i', O', h1, h2, by rw [srch_hit hi hz hf, h3]⟩
      | false =>
        obtain ⟨m', i', O', h1, h2, h3⟩ := ih _ _ _ (by omega) (hmiss m i O h hi hf)
        exact ⟨m', i', O', h1, h2, by rw [srch_miss hi hz hf, h3]⟩
    · exact ⟨m, i, O, h, hi, srch_end hi⟩
/-- How many operations there may be. -/
theorem wcp_len (O : List Xp) (a : Int) (z : Nat) : O.length ≤ (wcp O a z).length ∧ (wcp O a z).length ≤ O.length + 1 := by
  unfold wcp longer
  split
  · rw [List.length_set]; omega
  · rw [List.length_append]; simp
theorem wcp_lit (O : List Xp) (a : Int) (z : Nat) : lit (wcp O a z) = lit O := by
  unfold wcp
  split
  · rename_i h
    obtain ⟨P, x, rfl, e, -⟩ := snoc_of O h.1
    have hc := h.2.1
    rw [last_snoc] at hc
    rw [longer_snoc, lit_app, lit_app, lit_one, lit_one]
  · rw [lit_app, lit_one]; simp
theorem wcp_cpd (O : List Xp) (a : Int) (z : Nat) : cpd (wcp O a z) = cpd O + z := by
  unfold wcp
  split
  · rename_i h
    obtain ⟨P, x, rfl, e, -⟩ := snoc_of O h.1
    have hc := h.2.1
    rw [last_snoc] at hc
    rw [longer_snoc, cpd_app, cpd_app, cpd_one, cpd_one]
    simp only [hc, if_true]
    omega
  · rw [cpd_app, cpd_one]; simp
/-- The window one place on. -/
theorem cut_roll (b : List Int) (i z : Nat) (hz : 0 < z) (h : i + z < b.length) : ∃ c r, cut b i z = c :: r ∧ r.length + 1 = z ∧ cut b (i + 1) z = r ++ [b.getD (i + z) 0] := by
  obtain ⟨n, rfl⟩ : ∃ n, z = n + 1 := ⟨z - 1, by omega⟩
  refine ⟨b[i]'(by omega), (b.drop (i + 1)).take n, ?_, ?_, ?_⟩
  · unfold cut
    rw [List.drop_eq_getElem_cons (show i < b.length by omega), List.take_succ_cons]
  · rw [List.length_take, List.length_drop]; omega
  · unfold cut
    rw [List.take_add_one, List.getElem?_drop]
    rw [show i + 1 + n = i + (n + 1) by omega, List.getElem?_eq_getElem (show i + (n + 1) < b.length by omega)]
    simp [List.getD, List.getElem?_eq_getElem (show i + (n + 1) < b.length by omega)]
/-- Bounds of copies. -/
def Bd (O : List Xp) (m : Nat) : Prop := O.length ≤ m ∧ ∀ x ∈ O, 0 ≤ x.a ∧ x.a ≤ 16777216 ∧ 0 ≤ x.n ∧ x.n ≤ m
theorem Bd.nil : Bd [] 0 := ⟨Nat.le_refl _, fun x hx => by simp at hx⟩
theorem Bd.whl {O : List Xp} {m : Nat} (h : Bd O m) (X : List Int) : Bd (O ++ whl X) (m + X.length) := by
  have hl := whl_len X
  refine ⟨by rw [List.length_append]; have := h.1; omega, fun x hx => ?_⟩
  rcases List.mem_append.1 hx with hx | hx
  · obtain ⟨a, b, c, d⟩ := h.2 x hx
    exact ⟨a, b, c, by omega⟩
  · by_cases hX : X = []
    · subst hX; simp [Go.Proofs.YtfccjeepmhgckaaDoor.whl] at hx
    · rw [whl_some hX] at hx
      simp at hx
      subst hx
      exact ⟨Int.le_refl _, by show (0 : Int) ≤ 16777216; decide, Int.le_refl _, by show (0 : Int) ≤ _; omega⟩
theorem Bd.wcp {O : List Xp} {m : Nat} (h : Bd O m) (a : Int) (z : Nat) (hz : 0 < z) (h0 : 0 ≤ a) (h1 : a ≤ 16777216) : Bd (wcp O a z) (m + z) := by
  have hl := wcp_len O a z
  refine ⟨by have := h.1; omega, fun x hx => ?_⟩
  unfold Go.Proofs.YtfccjeepmhgckaaDoor.wcp at hx
  split at hx
  · rename_i he
    obtain ⟨P, y, rfl, e, -⟩ := snoc_of O he.1
    rw [longer_snoc] at hx
    rcases List.mem_append.1 hx with hx | hx
    · obtain ⟨a, b, c, d⟩ := h.2 x (by simp [hx])
      exact ⟨a, b, c, by omega⟩
    · simp at hx
      obtain ⟨a, b, c, d⟩ := h.2 y (by simp)
      subst hx
      exact ⟨a, b, by show (0 : Int) ≤ _ + _; omega, by show _ + _ ≤ (_ : Int); omega⟩
  · rcases List.mem_append.1 hx with hx | hx
    · obtain ⟨a, b, c, d⟩ := h.2 x hx
      exact ⟨a, b, c, by omega⟩
    · simp at hx
      subst hx
      exact ⟨h0, h1, by show (0 : Int) ≤ (z : Int); omega, by show (z : Int) ≤ _; omega⟩
/-- One step's bounds. -/
theorem Bd.hit {O : List Xp} {m i z : Nat} {b : List Int} (h : Bd O m) (hm : m ≤ i) (hi : i + z ≤ b.length) (hz : 0 < z) (a : Int) (h0 : 0 ≤ a) (h1 : a ≤ 16777216) : Bd (Go.Proofs.YtfccjeepmhgckaaDoor.wcp (O ++ Go.Proofs.YtfccjeepmhgckaaDoor.whl (cut b m (i - m))) a z) (i + z) := by
  have h2 := (h.whl (cut b m (i - m))).wcp a z hz h0 h1
  rw [cut_len b m (i - m) (by omega), show m + (i - m) = i by omega] at h2
  exact h2
/-- There are no more operations than bytes. -/
theorem srch_len (F : List Int → Int × Bool) (z : Nat) (b : List Int) (hz : 0 < z) : (srch F z b 0 0 []).length ≤ b.length := by
  obtain ⟨m', i', O', ⟨h1, h2, h4⟩, -, h3⟩ := srch_ind (F := F) (b := b) hz (fun m i O => O.length ≤ m ∧ m ≤ i ∧ i ≤ b.length)
    (fun m i O h hi _ => by
      refine ⟨?_, Nat.le_refl _, hi⟩
      have a1 := wcp_len (O ++ whl (cut b m (i - m))) (F (cut b i z)).1 z
      have a2 := (whl_len (cut b m (i - m))).1
      rw [cut_len b m (i - m) (by omega)] at a2
      rw [List.length_append] at a1
      omega)
    (fun m i O h hi _ => ⟨h.1, by omega, by omega⟩) b.length 0 0 [] (by omega) ⟨Nat.le_refl _, Nat.le_refl _, Nat.zero_le _⟩
  rw [h3, List.length_append]
  have := (whl_len (b.drop m')).1
  rw [List.length_drop] at this
  omega
end Go.Proofs.YtfccjeepmhgckaaDoor
