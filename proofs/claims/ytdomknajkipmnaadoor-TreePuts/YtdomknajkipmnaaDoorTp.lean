/-
  Trees, plainly: lists of entries; which are a tree; what is got, put, removed.
-/
import Derived.Test.YtdomknajkipmnaaDoorCk
import Derived.Test.YtdomknajkipmnaaDoorEn
namespace Go.Proofs.YtdomknajkipmnaaDoor
open Go.RowKit

/-- An entry's path, as bytes. -/
abbrev En.k (x : En) : List UInt8 := dl x.p
/-- What is wrong with a path as a directory behind entries. -/
def ckP (A : List En) (q : List UInt8) : Int := if q = [] then 0 else if A.findIdx (fun y => decide (y.k = q)) = A.length then 8 else if (atE A (A.findIdx (fun y => decide (y.k = q)))).d then 0 else 9
/-- What is wrong with the entry at a place. -/
def ckI (l : List En) (i : Nat) : Int :=
  if chk (atE l i).k ≠ 0 then chk (atE l i).k else if res (atE l i).k = true then 6 else if 65536 < (atE l i).z.length then 5 else if (atE l i).d = true ∧ 0 < (atE l i).z.length then 9
  else if 0 < i ∧ les (atE l (i - 1)).k (atE l i).k = false then 7 else ckP (l.take i) (par (atE l i).k)
/-- What is wrong with an entry behind others. -/
def ckE (A : List En) (x : En) : Int :=
  if chk x.k ≠ 0 then chk x.k else if res x.k = true then 6 else if 65536 < x.z.length then 5 else if x.d = true ∧ 0 < x.z.length then 9
  else if 0 < A.length ∧ les (atE A (A.length - 1)).k x.k = false then 7 else ckP A (par x.k)
theorem ckI_E (l : List En) (i : Nat) (h : i < l.length) : ckI l i = ckE (l.take i) (atE l i) := by
  have hl : (l.take i).length = i := by rw [List.length_take]; omega
  unfold ckI ckE
  rw [hl]
  by_cases h0 : 0 < i
  · rw [atE_take l i (i - 1) (by omega)]
  · have h1 : ¬ (0 < i ∧ les (atE l (i - 1)).k (atE l i).k = false) := fun e => h0 e.1
    have h2 : ¬ (0 < i ∧ les (atE (l.take i) (i - 1)).k (atE l i).k = false) := fun e => h0 e.1
    rw [if_neg h1, if_neg h2]
/-- What is wrong with the first of the entries from a place on that is not right. -/
def ckF (l : List En) : Nat → Nat → Int
  | _, 0 => 0
  | i, n + 1 => if ckI l i ≠ 0 then ckI l i else ckF l (i + 1) n
/-- What is wrong with a list. -/
def ckT (l : List En) : Int := if 64 < l.length then 5 else ckF l 0 l.length
theorem ckT_long (l : List En) (h : 64 < l.length) : ckT l = 5 := by unfold ckT; rw [if_pos h]
theorem ckF_hit (l : List En) : ∀ n i j, i ≤ j → j < i + n → (∀ k, i ≤ k → k < j → ckI l k = 0) → ckI l j ≠ 0 → ckF l i n = ckI l j
  | 0, i, j, h1, h2, _, _ => by omega
  | n + 1, i, j, h1, h2, h3, h4 => by
    unfold ckF
    by_cases h : i = j
    · subst h; rw [if_pos h4]
    · rw [if_neg (by rw [h3 i (Nat.le_refl _) (by omega)]; simp)]
      exact ckF_hit l n (i + 1) j (by omega) (by omega) (fun k a b => h3 k (by omega) b) h4
theorem ckF_ok (l : List En) : ∀ n i, (∀ k, i ≤ k → k < i + n → ckI l k = 0) → ckF l i n = 0
  | 0, _, _ => rfl
  | n + 1, i, h => by
    unfold ckF
    rw [if_neg (by rw [h i (Nat.le_refl _) (by omega)]; simp)]
    exact ckF_ok l n (i + 1) (fun k a b => h k (by omega) (by omega))
theorem ckT_hit (l : List En) (h : ¬ 64 < l.length) (j : Nat) (hj : j < l.length) (h3 : ∀ k, k < j → ckI l k = 0) (h4 : ckI l j ≠ 0) : ckT l = ckI l j := by
  unfold ckT
  rw [if_neg h]
  exact ckF_hit l _ 0 j (by omega) (by omega) (fun k _ b => h3 k b) h4
theorem ckT_ok (l : List En) (h : ¬ 64 < l.length) (h3 : ∀ k, k < l.length → ckI l k = 0) : ckT l = 0 := by
  unfold ckT
  rw [if_neg h]
  exact ckF_ok l _ 0 (fun k _ b => h3 k (by omega))
theorem ckT_all (l : List En) (h : ckT l = 0) : l.length ≤ 64 ∧ ∀ k, k < l.length → ckI l k = 0 := by
  rcases Nat.lt_or_ge 64 l.length with h1 | h1
  · rw [ckT_long l h1] at h; cases h
  · refine ⟨h1, fun k hk => ?_⟩
    have all : ∀ j, (∀ i, i < j → ckI l i = 0) ∨ ∃ i, i < j ∧ (∀ m, m < i → ckI l m = 0) ∧ ckI l i ≠ 0 := by
      intro j
      induction j with
      | zero => exact .inl (fun i hi => by omega)
      | succ j ih =>
        rcases ih with ih | ⟨i, h1, h2, h3⟩
        · by_cases hz : ckI l j = 0
          · refine .inl (fun i hi => ?_)
            rcases Nat.lt_or_ge i j with h | h
            · exact ih i h
            · rw [show i = j by omega]; exact hz
          · exact .inr ⟨j, by omega, ih, hz⟩
        · exact .inr ⟨i, by omega, h2, h3⟩
    rcases all l.length with h2 | ⟨i, h2, h3, h4⟩
    · exact h2 k hk
    · rw [ckT_hit l (by omega) i h2 h3 h4] at h
      exact absurd h h4
/-- Where an entry of a path stands, or would. -/
def plc (l : List En) (q : List UInt8) : Nat := if chk q ≠ 0 then l.length else l.findIdx (fun y => !les y.k q)
/-- The place of a path's entry, and whether there is one; of the first entry in it. -/
def fnd (l : List En) (q : List UInt8) : Nat := l.findIdx (fun y => decide (y.k = q))
def fnc (l : List En) (q : List UInt8) : Nat := l.findIdx (fun y => decide (par y.k = q))
/-- Whether the place of an entry is taken by one of its path. -/
def has (l : List En) (x : En) : Bool := decide (plc l x.k < l.length) && decide ((atE l (plc l x.k)).k = x.k)
/-- The list with an entry in its place. -/
def mad (l : List En) (x : En) : List En := l.take (plc l x.k) ++ [x] ++ l.drop (if has l x then plc l x.k + 1 else plc l x.k)
/-- What Put answers. -/
def put (l : List En) (x : En) : List En × Int := if ckT l ≠ 0 then ([], ckT l) else if has l x = true ∧ (atE l (plc l x.k)).d ≠ x.d then ([], 9) else if ckT (mad l x) ≠ 0 then ([], ckT (mad l x)) else (mad l x, 0)
/-- What Remove answers. -/
def rem (l : List En) (q : List UInt8) : List En × Int := if ckT l ≠ 0 then ([], ckT l) else if fnd l q = l.length then ([], 8) else if fnc l q < l.length then ([], 10) else (l.take (fnd l q) ++ l.drop (fnd l q + 1), 0)
/-- What Get answers. -/
def got (l : List En) (q : List UInt8) : En := if fnd l q = l.length then e0 else atE l (fnd l q)
def gotB (l : List En) (q : List UInt8) : Bool := decide (fnd l q ≠ l.length)
/-- What is in a directory. -/
def chi (l : List En) (q : List UInt8) : List ByteArray := (l.filter fun y => decide (par y.k = q)).map En.p
/-- What is not reserved. -/
def vis (l : List En) : List En := l.filter fun y => !res y.k
end Go.Proofs.YtdomknajkipmnaaDoor
