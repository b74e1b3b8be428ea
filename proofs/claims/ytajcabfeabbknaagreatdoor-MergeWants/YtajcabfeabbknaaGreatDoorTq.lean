/-
  Trees, plainly: lists of entries; which are a tree; what is got, put, removed.
  What trees keep: paths rise; what was put is got; what is removed again.
-/
import Derived.Test.YtajcabfeabbknaaGreatDoorLe
import Derived.Test.YtajcabfeabbknaaGreatDoorCp
namespace Go.Proofs.YtajcabfeabbknaaGreatDoor
open Go.RowKit

/-- An entry's path, as bytes. -/
abbrev En.k (x : En) : List UInt8 := dl x.p
/-- What is wrong with a path as a directory behind entries. -/
def ckP (A : List En) (q : List UInt8) : Int := if q = [] then 0 else if A.findIdx (fun y => decide (y.k = q)) = A.length then 8 else if (atE A (A.findIdx (fun y => decide (y.k = q)))).d then 0 else 9
/-- What is wrong with the entry at a place. -/
def ckI (l : List En) (i : Nat) : Int :=
  if chk (atE l i).k ≠ 0 then chk (atE l i).k else if res (atE l i).k = true then 6 else if 65536 < (atE l i).z.length then 5 else if (atE l i).d = true ∧ 0 < (atE l i).z.length then 9
  else if 0 < i ∧ les (atE l (i - 1)).k (atE l i).k = false then 7 else ckP (l.take i) (par (atE l i).k)
/-- What is wrong with an entry behind others. -/
def ckE (A : List En) (x : En) : Int :=
  if chk x.k ≠ 0 then chk x.k else if res x.k = true then 6 else if 65536 < x.z.length then 5 else if x.d = true ∧ 0 < x.z.length then 9
  else if 0 < A.length ∧ les (atE A (A.length - 1)).k x.k = false then 7 else ckP A (par x.k)
theorem ckI_E (l : List En) (i : Nat) (h : i < l.length) : ckI l i = ckE (l.take i) (atE l i) := by
  have hl : (l.take i).length = i := by rw [List.length_take]; omega
  unfold ckI ckE
  rw [hl]
  by_cases h0 : 0 < i
  · rw [atE_take l i (i - 1) (by omega)]
  · have h1 : ¬ (0 < i ∧ les (atE l (i - 1)).k (atE l i).k = false) := fun e => h0 e.1
    have h2 : ¬ (0 < i ∧ les (atE (l.take i) (i - 1)).k (atE l i).k = false) := fun e => h0 e.1
    rw [if_neg h1, if_neg h2]
/-- What is wrong with the first of the entries from a place on that is not right. -/
def ckF (l : List En) : Nat → Nat → Int
  | _, 0 => 0
  | i, n + 1 => if ckI l i ≠ 0 then ckI l i else ckF l (i + 1) n
/-- What is wrong with a list. -/
def ckT (l : List En) : Int := if 64 < l.length then 5 else ckF l 0 l.length
theorem ckT_long (l : List En) (h : 64 < l.length) : ckT l = 5 := by unfold ckT; rw [if_pos h]
theorem ckF_hit (l : List En) : ∀ n i j, i ≤ j → j < i + n → (∀ k, i ≤ k → k < j → ckI l k = 0) → ckI l j ≠ 0 → ckF l i n = ckI l j
  | 0, i, j, h1, h2, _, _ => by omega
  | n + 1, i, j, h1, h2, h3, h4 => by
    unfold ckF
    by_cases h : i = j
    · subst h; rw [if_pos h4]
    · rw [if_neg (by rw [h3 i (Nat.le_refl _) (by omega)]; simp)]
      exact ckF_hit l n (i + 1) j (by omega) (by omega) (fun k a b => h3 k (by omega) b) h4
theorem ckF_ok (l : List En) : ∀ n i, (∀ k, i ≤ k → k < i + n → ckI l k = 0) → ckF l i n = 0
  | 0, _, _ => rfl
  | n + 1, i, h => by
    unfold ckF
    rw [if_neg (by rw [h i (Nat.le_refl _) (by omega)]; simp)]
    exact ckF_ok l n (i + 1) (fun k a b => h k (by omega) (by omega))
theorem ckT_hit (l : List En) (h : ¬ 64 < l.length) (j : Nat) (hj : j < l.length) (h3 : ∀ k, k < j → ckI l k = 0) (h4 : ckI l j ≠ 0) : ckT l = ckI l j := by
  unfold ckT
  rw [if_neg h]
  exact ckF_hit l _ 0 j (by omega) (by omega) (fun k _ b => h3 k b) h4
theorem ckT_ok (l : List En) (h : ¬ 64 < l.length) (h3 : ∀ k, k < l.length → ckI l k = 0) : ckT l = 0 := by
  unfold ckT
  rw [if_neg h]
  exact ckF_ok l _ 0 (fun k _ b => h3 k (by omega))
theorem ckT_all (l : List En) (h : ckT l = 0) : l.length ≤ 64 ∧ ∀ k, k < l.length → ckI l k = 0 := by
  rcases Nat.lt_or_ge 64 l.length with h1 | h1
  · rw [ckT_long l h1] at h; cases h
  · refine ⟨h1, fun k hk => ?_⟩
    have all : ∀ j, (∀ i, i < j → ckI l i = 0) ∨ ∃ i, i < j ∧ (∀ m, m < i → ckI l m = 0) ∧ ckI l i ≠ 0 := by
      intro j
      induction j with
      | zero => exact .inl (fun i hi => by omega)
      | succ j ih =>
        rcases ih with ih | ⟨i, h1, h2, h3⟩
        · by_cases hz : ckI l j = 0
          · refine .inl (fun i hi => ?_)
            rcases Nat.lt_or_ge i j with h | h
            · exact ih i h
            · rw [show i = j by omega]; exact hz
          · exact .inr ⟨j, by omega, ih, hz⟩
        · exact .inr ⟨i, by omega, h2, h3⟩
    rcases all l.length with h2 | ⟨i, h2, h3, h4⟩
    · exact h2 k hk
    · rw [ckT_hit l (by omega) i h2 h3 h4] at h
      exact absurd h h4
/-- Where an entry of a path stands, or would. -/
def plc (l : List En) (q : List UInt8) : Nat := if chk q ≠ 0 then l.length else l.findIdx (fun y => !les y.k q)
/-- The place of a path's entry, and whether there is one; of the first entry in it. -/
def fnd (l : List En) (q : List UInt8) : Nat := l.findIdx (fun y => decide (y.k = q))
def fnc (l : List En) (q : List UInt8) : Nat := l.findIdx (fun y => decide (par y.k = q))
/-- Whether the place of an entry is taken by one of its path. -/
def has (l : List En) (x : En) : Bool := decide (plc l x.k < l.length) && decide ((atE l (plc l x.k)).k = x.k)
/-- The list with an entry in its place. -/
def mad (l : List En) (x : En) : List En := l.take (plc l x.k) ++ [x] ++ l.drop (if has l x then plc l x.k + 1 else plc l x.k)
/-- What Put answers. -/
def put (l : List En) (x : En) : List En × Int := if ckT l ≠ 0 then ([], ckT l) else if has l x = true ∧ (atE l (plc l x.k)).d ≠ x.d then ([], 9) else if ckT (mad l x) ≠ 0 then ([], ckT (mad l x)) else (mad l x, 0)
/-- What Remove answers. -/
def rem (l : List En) (q : List UInt8) : List En × Int := if ckT l ≠ 0 then ([], ckT l) else if fnd l q = l.length then ([], 8) else if fnc l q < l.length then ([], 10) else (l.take (fnd l q) ++ l.drop (fnd l q + 1), 0)
/-- What Get answers. -/
def got (l : List En) (q : List UInt8) : En := if fnd l q = l.length then e0 else atE l (fnd l q)
def gotB (l : List En) (q : List UInt8) : Bool := decide (fnd l q ≠ l.length)
/-- What is in a directory. -/
def chi (l : List En) (q : List UInt8) : List ByteArray := (l.filter fun y => decide (par y.k = q)).map En.p
/-- What is not reserved. -/
def vis (l : List En) : List En := l.filter fun y => !res y.k
end Go.Proofs.YtajcabfeabbknaaGreatDoor
namespace Go.Proofs.YtajcabfeabbknaaGreatDoor
open Go.RowKit

theorem les_irr (a : List UInt8) : les a a = false := ltL_irr _
theorem les_tra (a b c : List UInt8) (h1 : les a b = true) (h2 : les b c = true) : les a c = true := ltL_tra _ _ _ h1 h2
theorem les_ne {a b : List UInt8} (h : les a b = true) : a ≠ b := fun e => by rw [e, les_irr] at h; cases h
theorem les_asy {a b : List UInt8} (h : les a b = true) : les b a = false := by
  cases hb : les b a with
  | false => rfl
  | true => have := les_tra _ _ _ h hb; rw [les_irr] at this; cases this
theorem par_less {l : List UInt8} (h : l ≠ []) : (par l).length < l.length := by
  have hp : 0 < l.length := List.length_pos_iff.2 h
  rcases par_bas l with ⟨_, _, h3, _⟩ | ⟨_, h2, _⟩
  · rw [h3]; exact hp
  · have := congrArg List.length h2
    rw [List.length_append, List.length_cons] at this
    omega
theorem chk_ne {l : List UInt8} (h : chk l = 0) : l ≠ [] := by
  rintro rfl
  rw [chk_nil] at h
  cases h

/-- What a right entry is. -/
theorem ckI_ok {l : List En} {i : Nat} (h : ckI l i = 0) : chk (atE l i).k = 0 ∧ res (atE l i).k = false ∧ (atE l i).z.length ≤ 65536 ∧ ((atE l i).d = true → (atE l i).z.length = 0) ∧
    (0 < i → les (atE l (i - 1)).k (atE l i).k = true) ∧ ckP (l.take i) (par (atE l i).k) = 0 := by
  unfold ckI at h
  split at h
  · rename_i h1; exact absurd h h1
  rename_i h1
  split at h
  · cases h
  rename_i h2
  split at h
  · cases h
  rename_i h3
  split at h
  · cases h
  rename_i h4
  split at h
  · cases h
  rename_i h5
  refine ⟨Decidable.not_not.1 h1, by simpa using h2, by omega, fun e => ?_, fun e => ?_, h⟩
  · rcases Nat.eq_zero_or_pos (atE l i).z.length with h' | h'
    · exact h'
    · exact absurd ⟨e, h'⟩ h4
  · cases hb : les (atE l (i - 1)).k (atE l i).k with
    | true => rfl
    | false => exact absurd ⟨e, hb⟩ h5
theorem ckP_ok {A : List En} {q : List UInt8} (h : ckP A q = 0) (hq : q ≠ []) : ∃ j, j < A.length ∧ (atE A j).k = q ∧ (atE A j).d = true := by
  unfold ckP at h
  rw [if_neg hq] at h
  split at h
  · cases h
  rename_i h1
  split at h
  · rename_i h2
    obtain ⟨a, _, c⟩ := findIdx_spec A (fun y => decide (y.k = q))
    have hlt : A.findIdx (fun y => decide (y.k = q)) < A.length := by omega
    exact ⟨_, hlt, of_decide_eq_true (c hlt), h2⟩
  · cases h
/-- In a tree paths rise. -/
theorem tree_lt {l : List En} (h : ckT l = 0) : ∀ j i, i < j → j < l.length → les (atE l i).k (atE l j).k = true := by
  have h2 := (ckT_all l h).2
  intro j
  induction j with
  | zero => intro i hi; omega
  | succ j ih =>
    intro i hi hj
    have s := (ckI_ok (h2 (j + 1) hj)).2.2.2.2.1 (by omega)
    rw [Nat.add_sub_cancel] at s
    rcases Nat.lt_or_ge i j with h' | h'
    · exact les_tra _ _ _ (ih i h' (by omega)) s
    · rw [show i = j by omega]; exact s
theorem tree_inj {l : List En} (h : ckT l = 0) {i j : Nat} (hi : i < l.length) (hj : j < l.length) (e : (atE l i).k = (atE l j).k) : i = j := by
  rcases Nat.lt_trichotomy i j with h1 | h1 | h1
  · exact absurd e (les_ne (tree_lt h j i h1 hj))
  · exact h1
  · exact absurd e.symm (les_ne (tree_lt h i j h1 hi))
/-- Each one's parent is a directory that stands ahead. -/
theorem tree_par {l : List En} (h : ckT l = 0) {i : Nat} (hi : i < l.length) (hp : par (atE l i).k ≠ []) : ∃ j, j < i ∧ (atE l j).k = par (atE l i).k ∧ (atE l j).d = true := by
  obtain ⟨j, h1, h2, h3⟩ := ckP_ok (ckI_ok ((ckT_all l h).2 i hi)).2.2.2.2.2 hp
  rw [List.length_take] at h1
  rw [atE_take l i j (by omega)] at h2 h3
  exact ⟨j, by omega, h2, h3⟩
theorem fnd_lt (l : List En) (q : List UInt8) : fnd l q ≤ l.length := (findIdx_spec l _).1
theorem fnd_hit {l : List En} {q : List UInt8} (h : fnd l q ≠ l.length) : fnd l q < l.length ∧ (atE l (fnd l q)).k = q := by
  obtain ⟨a, _, c⟩ := findIdx_spec l (fun y => decide (y.k = q))
  have hlt : fnd l q < l.length := by have : fnd l q ≤ l.length := a; omega
  exact ⟨hlt, of_decide_eq_true (c hlt)⟩
theorem fnd_miss {l : List En} {q : List UInt8} (h : fnd l q = l.length) {i : Nat} (hi : i < l.length) : (atE l i).k ≠ q := by
  obtain ⟨_, b, _⟩ := findIdx_spec l (fun y => decide (y.k = q))
  exact of_decide_eq_false (b i (by have : l.findIdx (fun y => decide (y.k = q)) = l.length := h; omega))
theorem fnd_of {l : List En} {q : List UInt8} (j : Nat) (hj : j < l.length) (h1 : ∀ k, k < j → (atE l k).k ≠ q) (h2 : (atE l j).k = q) : fnd l q = j :=
  findIdx_of l _ j hj (fun k hk => decide_eq_false (h1 k hk)) (decide_eq_true h2)
theorem plc_le (l : List En) (q : List UInt8) : plc l q ≤ l.length := by
  unfold plc
  split
  · exact Nat.le_refl _
  · exact (findIdx_spec l _).1
theorem plc_lt {l : List En} {q : List UInt8} (hc : chk q = 0) {k : Nat} (hk : k < plc l q) : les (atE l k).k q = true := by
  unfold plc at hk
  rw [if_neg (by simp [hc])] at hk
  have := (findIdx_spec l (fun y => !les y.k q)).2.1 k hk
  simpa using this
theorem plc_at {l : List En} {q : List UInt8} (hc : chk q = 0) (h : plc l q < l.length) : les (atE l (plc l q)).k q = false := by
  unfold plc at h ⊢
  rw [if_neg (by simp [hc])] at h ⊢
  have := (findIdx_spec l (fun y => !les y.k q)).2.2 h
  simpa using this
theorem has_iff (l : List En) (x : En) : has l x = true ↔ plc l x.k < l.length ∧ (atE l (plc l x.k)).k = x.k := by simp [has]

/-- What comes of an entry that was put. -/
theorem put_ok {l : List En} {x : En} (h : (put l x).2 = 0) : ckT l = 0 ∧ ckT (mad l x) = 0 ∧ (put l x).1 = mad l x := by
  unfold put at h ⊢
  split at h
  · rename_i h1; exact absurd h h1
  rename_i h1
  split at h
  · cases h
  rename_i h2
  split at h
  · rename_i h3; exact absurd h h3
  rename_i h3
  rw [if_neg h1, if_neg h2, if_neg h3]
  exact ⟨Decidable.not_not.1 h1, Decidable.not_not.1 h3, rfl⟩
theorem put_bad {l : List En} {x : En} (h : (put l x).2 ≠ 0) : (put l x).1 = [] := by
  unfold put at h ⊢
  split
  · rfl
  split
  · rfl
  split
  · rfl
  rename_i h1 h2 h3
  rw [if_neg h1, if_neg h2, if_neg h3] at h
  exact absurd rfl h
theorem mad_x (l : List En) (x : En) : plc l x.k < (mad l x).length ∧ atE (mad l x) (plc l x.k) = x := by
  have hp := plc_le l x.k
  have hl : (l.take (plc l x.k)).length = plc l x.k := by rw [List.length_take]; omega
  unfold mad
  refine ⟨?_, ?_⟩
  · rw [List.length_append, List.length_append, hl]; simp; omega
  · simp only [atE, List.getD]
    rw [List.append_assoc, List.getElem?_append_right (by omega), hl]
    simp
theorem mad_lo (l : List En) (x : En) {k : Nat} (hk : k < plc l x.k) : atE (mad l x) k = atE l k := by
  have hp := plc_le l x.k
  have hl : (l.take (plc l x.k)).length = plc l x.k := by rw [List.length_take]; omega
  unfold mad
  simp only [atE, List.getD]
  rw [List.append_assoc, List.getElem?_append_left (by omega), List.getElem?_take, if_pos hk]
theorem mad_chk {l : List En} {x : En} (h : ckT (mad l x) = 0) : chk x.k = 0 := by
  obtain ⟨h1, h2⟩ := mad_x l x
  have := (ckI_ok ((ckT_all _ h).2 _ h1)).1
  rwa [h2] at this
theorem mad_fnd {l : List En} {x : En} (h : ckT (mad l x) = 0) : fnd (mad l x) x.k = plc l x.k := by
  obtain ⟨h1, h2⟩ := mad_x l x
  refine fnd_of _ h1 (fun k hk => ?_) (by rw [h2])
  rw [mad_lo l x hk]
  exact les_ne (plc_lt (mad_chk h) hk)
/-- An entry is in a list at its place, or not at all. -/
theorem has_fnd {l : List En} {x : En} (h : ckT l = 0) (hc : chk x.k = 0) : has l x = gotB l x.k := by
  unfold gotB
  by_cases hf : fnd l x.k = l.length
  · have : ¬ has l x = true := fun hh => by
      obtain ⟨h1, h2⟩ := (has_iff l x).1 hh
      exact fnd_miss hf h1 h2
    simp only [hf, ne_eq, not_true_eq_false, decide_false]
    simpa using this
  · obtain ⟨h1, h2⟩ := fnd_hit hf
    have e : plc l x.k = fnd l x.k := by
      rcases Nat.lt_trichotomy (plc l x.k) (fnd l x.k) with h3 | h3 | h3
      · have h4 := plc_at hc (show plc l x.k < l.length by omega)
        have h5 := tree_lt h _ _ h3 h1
        rw [h2, h4] at h5
        cases h5
      · exact h3
      · have h4 := plc_lt hc h3
        rw [h2, les_irr] at h4
        cases h4
    have : has l x = true := (has_iff l x).2 ⟨by omega, by rw [e]; exact h2⟩
    simp [this, hf]
theorem mad_len (l : List En) (x : En) : (mad l x).length = if has l x then l.length else l.length + 1 := by
  have hp := plc_le l x.k
  unfold mad
  cases hh : has l x with
  | true =>
    have := ((has_iff l x).1 hh).1
    simp only [List.length_append, List.length_take, List.length_drop, List.length_cons, List.length_nil, if_true]
    omega
  | false =>
    simp only [List.length_append, List.length_take, List.length_drop, List.length_cons, List.length_nil]
    simp
    omega
theorem find_skip (l : List En) (x : En) (q : List UInt8) (hq : q ≠ x.k) (a b : Nat) (hb : b = a ∨ (b = a + 1 ∧ a < l.length ∧ (atE l a).k = x.k)) :
    (l.take a ++ [x] ++ l.drop b).find? (fun y => decide (y.k = q)) = l.find? (fun y => decide (y.k = q)) := by
  rw [List.find?_append, List.find?_append]
  have e1 : [x].find? (fun y => decide (y.k = q)) = none := by simp only [List.find?_cons, decide_eq_false (fun e : x.k = q => hq e.symm), List.find?_nil]
  rw [e1, Option.or_none]
  conv => rhs; rw [← List.take_append_drop a l, List.find?_append]
  rcases hb with rfl | ⟨rfl, h1, h2⟩
  · rfl
  · congr 1
    rw [List.drop_eq_getElem_cons h1, List.find?_cons_of_neg]
    rw [atE_eq l a h1] at h2
    simp only [decide_eq_true_eq, h2]
    exact fun e => hq e.symm
theorem got_find (l : List En) (q : List UInt8) : l.find? (fun y => decide (y.k = q)) = if gotB l q then some (got l q) else none := by
  unfold gotB got
  by_cases h : fnd l q = l.length
  · simp only [h, ne_eq, not_true_eq_false, decide_false, Bool.false_eq_true, if_false]
    rw [List.find?_eq_none]
    intro y hy
    obtain ⟨i, hi, rfl⟩ := List.getElem_of_mem hy
    have := fnd_miss h hi
    rw [atE_eq l i hi] at this
    simpa using this
  · obtain ⟨h1, h2⟩ := fnd_hit h
    simp only [h, ne_eq, not_false_eq_true, decide_true, if_true, if_false]
    rw [List.find?_eq_some_iff_getElem]
    refine ⟨by simpa using h2, fnd l q, h1, (atE_eq l _ h1).symm, fun j hj => ?_⟩
    have hjl : j < l.length := by omega
    have := (findIdx_spec l (fun y => decide (y.k = q))).2.1 j hj
    rw [atE_eq l j hjl] at this
    simp at this
    simpa using this
theorem mad_got {l : List En} {x : En} (q : List UInt8) (hq : q ≠ x.k) : gotB (mad l x) q = gotB l q ∧ got (mad l x) q = got l q := by
  have hs := find_skip l x q hq (plc l x.k) (if has l x then plc l x.k + 1 else plc l x.k) (by
    cases hh : has l x with
    | true => exact .inr ⟨rfl, (has_iff l x).1 hh⟩
    | false => exact .inl rfl)
  have hs' : (mad l x).find? (fun y => decide (y.k = q)) = l.find? (fun y => decide (y.k = q)) := hs
  rw [got_find, got_find] at hs'
  have none_e0 : ∀ m : List En, gotB m q = false → got m q = e0 := fun m hm => by
    unfold got
    rw [if_pos]
    unfold gotB at hm
    simpa using hm
  cases h1 : gotB (mad l x) q with
  | true =>
    cases h2 : gotB l q with
    | true => rw [h1, h2] at hs'; simp at hs'; exact ⟨rfl, hs'⟩
    | false => rw [h1, h2] at hs'; simp at hs'
  | false =>
    cases h2 : gotB l q with
    | true => rw [h1, h2] at hs'; simp at hs'
    | false => exact ⟨rfl, by rw [none_e0 _ h1, none_e0 _ h2]⟩
theorem mad_self {l : List En} {x : En} (h : ckT (mad l x) = 0) : gotB (mad l x) x.k = true ∧ got (mad l x) x.k = x := by
  obtain ⟨h1, h2⟩ := mad_x l x
  have hf := mad_fnd h
  unfold gotB got
  rw [hf]
  refine ⟨decide_eq_true (by omega), ?_⟩
  rw [if_neg (by omega), h2]
/-- Put, and removed again. -/
theorem mad_rem {l : List En} {x : En} (hl : ckT l = 0) (h : ckT (mad l x) = 0) (hw : gotB l x.k = false) : rem (mad l x) x.k = (l, 0) := by
  have hc := mad_chk h
  have hh : has l x = false := by rw [has_fnd hl hc]; exact hw
  obtain ⟨h1, h2⟩ := mad_x l x
  have hf := mad_fnd h
  have hp := plc_le l x.k
  have hne : ∀ i, i < l.length → (atE l i).k ≠ x.k := fun i hi => by
    refine fnd_miss (q := x.k) ?_ hi
    unfold gotB at hw
    simpa using hw
  have em : mad l x = l.take (plc l x.k) ++ x :: l.drop (plc l x.k) := by
    unfold mad
    rw [hh]
    simp
  have mem : ∀ y ∈ mad l x, y = x ∨ y ∈ l := fun y hy => by
    rw [em, List.mem_append, List.mem_cons] at hy
    rcases hy with hy | rfl | hy
    · exact .inr (List.mem_of_mem_take hy)
    · exact .inl rfl
    · exact .inr (List.mem_of_mem_drop hy)
  have hn : fnc (mad l x) x.k = (mad l x).length := by
    refine findIdx_none _ _ fun k hk => decide_eq_false fun e => ?_
    rcases mem _ (atE_mem _ k hk) with e1 | e1
    · rw [e1] at e
      have := par_less (chk_ne hc)
      rw [e] at this
      omega
    · obtain ⟨i, hi, e2⟩ := List.getElem_of_mem e1
      rw [← e2, ← atE_eq l i hi] at e
      obtain ⟨j, hj, e3, _⟩ := tree_par hl hi (by rw [e]; exact chk_ne hc)
      exact hne j (by omega) (by rw [e3, e])
  unfold rem
  rw [if_neg (by simp [h]), hf, if_neg (by omega), if_neg (by omega)]
  have ha : (l.take (plc l x.k)).length = plc l x.k := by rw [List.length_take]; omega
  have e1 : (mad l x).take (plc l x.k) = l.take (plc l x.k) := by
    rw [em, List.take_append_of_le_length (by omega), List.take_of_length_le (by omega)]
  have e2 : (mad l x).drop (plc l x.k + 1) = l.drop (plc l x.k) := by
    rw [em, List.drop_append, List.drop_of_length_le (by omega), ha]
    simp
  rw [e1, e2, List.take_append_drop]
end Go.Proofs.YtajcabfeabbknaaGreatDoor
