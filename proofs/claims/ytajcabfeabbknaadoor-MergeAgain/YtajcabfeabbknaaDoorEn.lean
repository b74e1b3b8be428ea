/-
  Lists of entries, plainly; and as the walks read them: slices of entries, entries in a row of the call's own.
-/
import Derived.Test.YtajcabfeabbknaaDoorBas
namespace Go.Proofs.YtajcabfeabbknaaDoor
open Go.RowKit

/-- An entry: its path, whether it is a directory, its bytes. -/
structure En where
  p : ByteArray
  d : Bool
  z : List Int
/-- The empty entry. -/
def e0 : En := ⟨⟨#[]⟩, false, []⟩
/-- The entry at a place. -/
abbrev atE (l : List En) (i : Nat) : En := l.getD i e0
theorem atE_eq (l : List En) (i : Nat) (h : i < l.length) : atE l i = l[i] := by simp [atE, List.getD, h]
theorem atE_mem (l : List En) (i : Nat) (h : i < l.length) : atE l i ∈ l := by rw [atE_eq l i h]; exact List.getElem_mem h
theorem atE_take (l : List En) (n i : Nat) (h : i < n) : atE (l.take n) i = atE l i := by
  simp [atE, List.getD, h]
theorem atE_drop (l : List En) (n i : Nat) : atE (l.drop n) i = atE l (n + i) := by
  simp [atE, List.getD, List.getElem?_drop]
/-- How many bytes there are. -/
def siz (l : List En) : Nat := (l.map fun y => y.z.length).sum
/-- Whether two entries, or lists, are the same. -/
def samE (x y : En) : Bool := decide (x.p = y.p) && decide (x.d = y.d) && decide (x.z = y.z)
def sam (l m : List En) : Bool := decide (l.length = m.length) && (List.range l.length).all fun i => samE (atE l i) (atE m i)
theorem samE_iff (x y : En) : samE x y = true ↔ x = y := by
  cases x; cases y
  simp [samE]
  constructor
  · rintro ⟨⟨a, b⟩, c⟩; exact ⟨a, b, c⟩
  · rintro ⟨a, b, c⟩; exact ⟨⟨a, b⟩, c⟩
theorem sam_iff (l m : List En) : sam l m = true ↔ l = m := by
  unfold sam
  rw [Bool.and_eq_true, decide_eq_true_eq, List.all_eq_true]
  constructor
  · rintro ⟨h1, h2⟩
    refine List.ext_getElem h1 fun i a b => ?_
    have := (samE_iff _ _).1 (h2 i (List.mem_range.2 a))
    rwa [atE_eq l i a, atE_eq m i b] at this
  · rintro rfl
    exact ⟨rfl, fun i _ => (samE_iff _ _).2 rfl⟩
/-- A search's answer: the first place. -/
theorem findIdx_of (l : List En) (f : En → Bool) (j : Nat) (hj : j < l.length) (h1 : ∀ k, k < j → f (atE l k) = false) (h2 : f (atE l j) = true) : l.findIdx f = j := by
  rw [List.findIdx_eq hj]
  refine ⟨by rw [← atE_eq l j hj]; exact h2, fun k hk => ?_⟩
  have := h1 k hk
  rwa [atE_eq l k (by omega)] at this
theorem findIdx_none (l : List En) (f : En → Bool) (h1 : ∀ k, k < l.length → f (atE l k) = false) : l.findIdx f = l.length := by
  rw [List.findIdx_eq_length]
  intro x hx
  obtain ⟨k, hk, rfl⟩ := List.getElem_of_mem hx
  have := h1 k hk
  rwa [atE_eq l k hk] at this
theorem findIdx_spec (l : List En) (f : En → Bool) : l.findIdx f ≤ l.length ∧ (∀ k, k < l.findIdx f → f (atE l k) = false) ∧ (l.findIdx f < l.length → f (atE l (l.findIdx f)) = true) := by
  refine ⟨List.findIdx_le_length, fun k hk => ?_, fun h => ?_⟩
  · have hl : k < l.length := by have := @List.findIdx_le_length En f l; omega
    rw [atE_eq l k hl]
    have := List.not_of_lt_findIdx hk
    simpa using this
  · rw [atE_eq l _ h]
    exact List.findIdx_getElem

/-- A value that is a slice of the entries l; U: the values of their Data. -/
def ESU (w : World) (v : Value) (l : List En) (U : Nat → Value) : Prop :=
  ∃ a c, v = .slice a l.length c ∧ l.length ≤ c ∧ c ≤ maxLen ∧ (a = none → c = 0) ∧ (l = [] ∨ ∃ b off, a = some ⟨b, off, none⟩ ∧ ∀ i, i < l.length →
    w.cell? ⟨b, off + i * 3, none⟩ = some (.string (atE l i).p) ∧ w.cell? ⟨b, off + i * 3 + 1, none⟩ = some (.bool (atE l i).d) ∧ w.cell? ⟨b, off + i * 3 + 2, none⟩ = some (U i) ∧ Sl w (U i) (atE l i).z)
def ES (w : World) (v : Value) (l : List En) : Prop := ∃ U, ESU w v l U
theorem ESU.kept {w w' : World} {v : Value} {l : List En} {U : Nat → Value} (h : ESU w v l U) (hb : Below w.heap.size w w') : ESU w' v l U := by
  obtain ⟨a, c, h1, h2, h3, h4, h5⟩ := h
  refine ⟨a, c, h1, h2, h3, h4, ?_⟩
  rcases h5 with h5 | ⟨b, off, h6, h7⟩
  · exact .inl h5
  · refine .inr ⟨b, off, h6, fun i hi => ?_⟩
    obtain ⟨q1, q2, q3, q4⟩ := h7 i hi
    exact ⟨(hb.cell (World.block_lt_of_cell? _ _ q1)).trans q1, (hb.cell (World.block_lt_of_cell? _ _ q2)).trans q2, (hb.cell (World.block_lt_of_cell? _ _ q3)).trans q3, q4.kept hb⟩
theorem ES.kept {w w' : World} {v : Value} {l : List En} (h : ES w v l) (hb : Below w.heap.size w w') : ES w' v l := by
  obtain ⟨U, h⟩ := h
  exact ⟨U, h.kept hb⟩
theorem ES.shape {w : World} {v : Value} {l : List En} (h : ES w v l) : ∃ a c, v = .slice a l.length c ∧ l.length ≤ c ∧ c ≤ maxLen ∧ (a = none → c = 0) := by
  obtain ⟨U, a, c, h1, h2, h3, h4, _⟩ := h
  exact ⟨a, c, h1, h2, h3, h4⟩
theorem ES.nil (w : World) : ES w (.slice none 0 0) [] := ⟨fun _ => .slice none 0 0, none, 0, rfl, Nat.le_refl _, by unfold maxLen; omega, fun _ => rfl, .inl rfl⟩
/-- An entry's cells. -/
theorem ES.at {w : World} {a : Option Addr} {n c : Nat} {l : List En} (h : ES w (.slice a n c) l) (i : Nat) (hi : i < l.length) :
    ∃ b off ua un uc, a = some ⟨b, off, none⟩ ∧ w.cell? ⟨b, off + i * 3, none⟩ = some (.string (atE l i).p) ∧ w.cell? ⟨b, off + i * 3 + 1, none⟩ = some (.bool (atE l i).d) ∧
      w.cell? ⟨b, off + i * 3 + 2, none⟩ = some (.slice ua un uc) ∧ un = (atE l i).z.length ∧ Sl w (.slice ua un uc) (atE l i).z := by
  obtain ⟨U, a', c', h1, h2, h3, h4, h5⟩ := h
  cases h1
  rcases h5 with h5 | ⟨b, off, h6, h7⟩
  · subst h5; simp at hi
  · obtain ⟨q1, q2, q3, q4⟩ := h7 i hi
    obtain ⟨ua, uc, e, r⟩ := q4
    rw [e] at q3
    exact ⟨b, off, ua, _, uc, h6, q1, q2, q3, rfl, ⟨ua, uc, rfl, r⟩⟩
/-- The first of them. -/
theorem ES.take {w : World} {a : Option Addr} {n c : Nat} {l : List En} (h : ES w (.slice a n c) l) (m : Nat) (hm : m ≤ n) : ES w (.slice a m c) (l.take m) := by
  obtain ⟨U, a', c', h1, h2, h3, h4, h5⟩ := h
  cases h1
  have hl : (l.take m).length = m := by rw [List.length_take]; omega
  refine ⟨U, a, c, by rw [hl], by omega, h3, h4, ?_⟩
  rcases h5 with h5 | ⟨b, off, h6, h7⟩
  · subst h5; exact .inl (by simp)
  · refine .inr ⟨b, off, h6, fun i hi => ?_⟩
    rw [hl] at hi
    rw [atE_take l m i hi]
    exact h7 i (by omega)
/-- How many, and how long, the walks take them to be. -/
def Lt (l : List En) : Prop := l.length ≤ 100 ∧ ∀ x ∈ l, x.p.size ≤ 1000 ∧ x.z.length ≤ 100000
theorem Lt.at {l : List En} (h : Lt l) (i : Nat) : (atE l i).p.size ≤ 1000 ∧ (atE l i).z.length ≤ 100000 := by
  by_cases hi : i < l.length
  · exact h.2 _ (atE_mem l i hi)
  · have e : atE l i = e0 := by simp [atE, List.getD, List.getElem?_eq_none (show l.length ≤ i by omega)]
    rw [e]
    decide
theorem Lt.take {l : List En} (h : Lt l) (m : Nat) : Lt (l.take m) := ⟨by rw [List.length_take]; have := h.1; omega, fun x hx => h.2 x (List.mem_of_mem_take hx)⟩
end Go.Proofs.YtajcabfeabbknaaDoor
