/-
  Operations as a stream, plainly: which may be, what they make, their bytes, what is left of them; how they are read.
-/
import Derived.Test.YtfccjeepmhgckaaDoorXp
import Derived.Test.YtfccjeepmhgckaaDoorFiNums
namespace Go.Proofs.YtfccjeepmhgckaaDoor
open Go.RowKit

/-- How many bytes an operation makes. -/
def mkX (x : Xp) : Int := if x.c = true then max x.n 0 else (x.d.length : Int)
theorem mkX_pos (x : Xp) : 0 ≤ mkX x := by
  unfold mkX
  split <;> omega
theorem mkX_copy {x : Xp} (h : x.c = true) : mkX x = max x.n 0 := if_pos h
theorem mkX_data {x : Xp} (h : x.c = false) : mkX x = (x.d.length : Int) := if_neg (by rw [h]; simp)
/-- Whether an operation may be. -/
def mayX (x : Xp) (old : Int) : Bool :=
  if x.c = true then decide (x.d.length = 0) && decide (0 ≤ x.a) && decide (1 ≤ x.n) && decide (x.a ≤ old) && decide (x.n ≤ old - x.a)
  else decide (0 < x.d.length) && decide (x.a = 0) && decide (x.n = 0)
theorem mayX_copy {x : Xp} {old : Int} (h : x.c = true) : mayX x old = true ↔ x.d.length = 0 ∧ 0 ≤ x.a ∧ 1 ≤ x.n ∧ x.a ≤ old ∧ x.n ≤ old - x.a := by
  unfold mayX
  rw [if_pos h]
  simp only [Bool.and_eq_true, decide_eq_true_eq, and_assoc]
theorem mayX_data {x : Xp} {old : Int} (h : x.c = false) : mayX x old = true ↔ 0 < x.d.length ∧ x.a = 0 ∧ x.n = 0 := by
  unfold mayX
  rw [if_neg (by rw [h]; simp)]
  simp only [Bool.and_eq_true, decide_eq_true_eq, and_assoc]
/-- What all make. -/
def totX (l : List Xp) : Int := (l.map mkX).sum
theorem totX_nil : totX [] = 0 := rfl
theorem totX_cons (x : Xp) (l : List Xp) : totX (x :: l) = mkX x + totX l := by simp [totX]
theorem totX_app (l m : List Xp) : totX (l ++ m) = totX l + totX m := by simp [totX]
theorem totX_pos : ∀ l : List Xp, 0 ≤ totX l
  | [] => Int.le_refl _
  | x :: l => by
    have := totX_pos l
    have := mkX_pos x
    rw [totX_cons]
    omega
theorem totX_take (l : List Xp) (j : Nat) : totX (l.take j) ≤ totX l := by
  have h := totX_app (l.take j) (l.drop j)
  rw [List.take_append_drop] at h
  have := totX_pos (l.drop j)
  omega
theorem totX_step (l : List Xp) (j : Nat) (h : j < l.length) : totX (l.take (j + 1)) = totX (l.take j) + mkX (atX l j) := by
  rw [takeX_at l j h, totX_app, totX_cons, totX_nil]
  omega
theorem mkX_le (l : List Xp) (x : Xp) (h : x ∈ l) : mkX x ≤ totX l := by
  induction l with
  | nil => cases h
  | cons y l ih =>
    rw [totX_cons]
    rcases List.mem_cons.1 h with rfl | h
    · have := totX_pos l; omega
    · have := ih h
      have := mkX_pos y
      omega
/-- Check's answer. -/
def chkX (l : List Xp) (old : Int) : Int := if 4096 < l.length then 5 else if l.all (fun x => mayX x old) = true then (if 65536 < totX l then 5 else 0) else 4
theorem chkX_ok {l : List Xp} {old : Int} (h : chkX l old = 0) : l.length ≤ 4096 ∧ (∀ x ∈ l, mayX x old = true) ∧ totX l ≤ 65536 := by
  unfold chkX at h
  split at h
  · cases h
  split at h
  · rename_i h1 h2
    split at h
    · cases h
    · exact ⟨by omega, List.all_eq_true.1 h2, by omega⟩
  · cases h
theorem chkX_of {l : List Xp} {old : Int} (h1 : l.length ≤ 4096) (h2 : ∀ x ∈ l, mayX x old = true) (h3 : totX l ≤ 65536) : chkX l old = 0 := by
  unfold chkX
  rw [if_neg (by omega), if_pos (List.all_eq_true.2 h2), if_neg (by omega)]
/-- What an operation makes of the old file. -/
def pieX (old : List Int) (x : Xp) : List Int := if x.c = true then cut old x.a.toNat x.n.toNat else x.d
theorem pieX_len (old : List Int) (x : Xp) (h : mayX x old.length = true) : ((pieX old x).length : Int) = mkX x := by
  cases hc : x.c with
  | true =>
    obtain ⟨-, h1, h2, h3, h4⟩ := (mayX_copy hc).1 h
    unfold pieX
    rw [if_pos hc, cut_len old _ _ (by omega), mkX_copy hc]
    omega
  | false =>
    unfold pieX
    rw [if_neg (by rw [hc]; simp), mkX_data hc]
/-- What all make of it. -/
def makeX (old : List Int) (l : List Xp) : List Int := (l.map (pieX old)).flatten
theorem makeX_app (old : List Int) (l m : List Xp) : makeX old (l ++ m) = makeX old l ++ makeX old m := by simp [makeX]
theorem makeX_cons (old : List Int) (x : Xp) (m : List Xp) : makeX old (x :: m) = pieX old x ++ makeX old m := by simp [makeX]
theorem makeX_step (old : List Int) (l : List Xp) (j : Nat) (h : j < l.length) : makeX old (l.take (j + 1)) = makeX old (l.take j) ++ pieX old (atX l j) := by
  rw [takeX_at l j h, makeX_app, makeX_cons]
  simp [makeX]
theorem makeX_len (old : List Int) (l : List Xp) (h : ∀ x ∈ l, mayX x old.length = true) : ((makeX old l).length : Int) = totX l := by
  induction l with
  | nil => rfl
  | cons x l ih =>
    rw [makeX_cons, totX_cons, List.length_append]
    have h1 := pieX_len old x (h x (by simp))
    have h2 := ih fun y hy => h y (by simp [hy])
    omega
def appX (old : List Int) (l : List Xp) : List Int × Int := if chkX l old.length = 0 then (makeX old l, 0) else ([], chkX l old.length)
/-- An operation's bytes. -/
def layX (x : Xp) : List Int := if x.c = true then 1 :: (Fi.numB x.a ++ Fi.numB x.n) else 0 :: (Fi.numB x.d.length ++ x.d)
def putX (l : List Xp) : List Int := (l.map layX).flatten
theorem putX_cons (x : Xp) (l : List Xp) : putX (x :: l) = layX x ++ putX l := by simp [putX]
theorem putX_app (l m : List Xp) : putX (l ++ m) = putX l ++ putX m := by simp [putX]
theorem putX_nil : putX [] = [] := rfl
theorem layX_pos (x : Xp) : 0 < (layX x).length := by
  unfold layX
  split <;> simp
theorem putX_len (l : List Xp) : l.length ≤ (putX l).length := by
  induction l with
  | nil => simp
  | cons x l ih =>
    rw [putX_cons, List.length_append, List.length_cons]
    have := layX_pos x
    omega
/-- What is left behind the first bytes: how many are still to go, and the operations. -/
def skipX (left : Int) : List Xp → Int × List Xp
  | [] => (left, [])
  | x :: l => if mkX x ≤ left then skipX (left - mkX x) l else (left, x :: l)
def wouX (x : Xp) (n : Int) : Xp := if x.c = true then ⟨true, x.a + n, x.n - n, x.d⟩ else ⟨false, x.a, x.n, x.d.drop n.toNat⟩
theorem wouX_zero (x : Xp) : wouX x 0 = x := by
  unfold wouX
  obtain ⟨c, a, n, d⟩ := x
  cases c <;> simp
def firX (p : Int × List Xp) : List Xp := match p with
  | (_, []) => []
  | (left, x :: r) => wouX x left :: r
def froX (l : List Xp) (n : Int) : List Xp := if n ≤ 0 then l else firX (skipX n l)
theorem froX_le {l : List Xp} {n : Int} (h : n ≤ 0) : froX l n = firX (0, l) := by
  unfold froX
  rw [if_pos h]
  cases l with
  | nil => rfl
  | cons x l => show _ = wouX x 0 :: l; rw [wouX_zero]
theorem froX_gt {l : List Xp} {n : Int} (h : 0 < n) : froX l n = firX (skipX n l) := if_neg (by omega)
/-- What is left makes what is left. -/
theorem skip_make (old : List Int) : ∀ (l : List Xp) (n : Int), 0 ≤ n → (∀ x ∈ l, mayX x old.length = true) →
    (∀ x ∈ firX (skipX n l), mayX x old.length = true) ∧ (firX (skipX n l)).length ≤ l.length ∧ makeX old (firX (skipX n l)) = (makeX old l).drop n.toNat
  | [], n, _, _ => ⟨by simp [skipX, firX], by simp [skipX, firX], by simp [skipX, firX, makeX]⟩
  | x :: l, n, hn, h => by
    have hp := mkX_pos x
    have hx := h x (by simp)
    have hl := pieX_len old x hx
    have hr : ∀ y ∈ l, mayX y old.length = true := fun y hy => h y (by simp [hy])
    unfold skipX
    by_cases hc : mkX x ≤ n
    · rw [if_pos hc]
      obtain ⟨a, b, c⟩ := skip_make old l (n - mkX x) (by omega) hr
      refine ⟨a, by rw [List.length_cons]; omega, ?_⟩
      have e1 : (pieX old x).drop n.toNat = [] := List.drop_of_length_le (by omega)
      rw [c, makeX_cons, List.drop_append, e1, List.nil_append]
      congr 1
      omega
    · rw [if_neg hc]
      have hd : makeX old (wouX x n :: l) = (makeX old (x :: l)).drop n.toNat := by
        rw [makeX_cons, makeX_cons, List.drop_append, show n.toNat - (pieX old x).length = 0 by omega, List.drop_zero]
        congr 1
        cases hxc : x.c with
        | true =>
          obtain ⟨-, h1, h2, h3, h4⟩ := (mayX_copy hxc).1 hx
          unfold wouX pieX cut
          rw [mkX_copy hxc] at hc
          simp only [hxc, if_true]
          rw [List.drop_take, List.drop_drop]
          congr 1
          · omega
          · congr 1; omega
        | false =>
          unfold wouX pieX
          simp [hxc]
      refine ⟨fun y hy => ?_, by simp [firX], hd⟩
      rcases List.mem_cons.1 hy with rfl | hy
      · cases hxc : x.c with
        | true =>
          obtain ⟨h0, h1, h2, h3, h4⟩ := (mayX_copy hxc).1 hx
          rw [mkX_copy hxc] at hc
          have e : wouX x n = ⟨true, x.a + n, x.n - n, x.d⟩ := if_pos hxc
          rw [e]
          refine (mayX_copy rfl).2 ⟨h0, ?_, ?_, ?_, ?_⟩
          all_goals simp only
          all_goals omega
        | false =>
          obtain ⟨h0, h1, h2⟩ := (mayX_data hxc).1 hx
          rw [mkX_data hxc] at hc
          have e : wouX x n = ⟨false, x.a, x.n, x.d.drop n.toNat⟩ := if_neg (by rw [hxc]; simp)
          rw [e]
          refine (mayX_data rfl).2 ⟨?_, h1, h2⟩
          simp only [List.length_drop]
          omega
      · exact hr y hy
theorem fro_make (old : List Int) (l : List Xp) (n : Int) (h : ∀ x ∈ l, mayX x old.length = true) :
    (∀ x ∈ froX l n, mayX x old.length = true) ∧ (froX l n).length ≤ l.length ∧ makeX old (froX l n) = (makeX old l).drop n.toNat := by
  by_cases hn : n ≤ 0
  · unfold froX
    rw [if_pos hn]
    exact ⟨h, Nat.le_refl _, by rw [show n.toNat = 0 by omega]; rfl⟩
  · rw [froX_gt (by omega)]
    exact skip_make old l n (by omega) h
theorem fro_apply (old : List Int) (l : List Xp) (n : Int) (h : chkX l old.length = 0) : appX old (froX l n) = ((makeX old l).drop n.toNat, 0) := by
  obtain ⟨h1, h2, h3⟩ := chkX_ok h
  obtain ⟨a, b, c⟩ := fro_make old l n h2
  have e : chkX (froX l n) old.length = 0 := by
    refine chkX_of (by omega) a ?_
    have t1 := makeX_len old _ a
    have t2 := makeX_len old _ h2
    rw [c, List.length_drop] at t1
    omega
  unfold appX
  rw [if_pos e, c]

/-- What stands at the beginning: nothing whole yet, an error, an operation and how many bytes it has. -/
inductive Tk where
  | wait
  | bad (e : Int)
  | op (x : Xp) (k : Nat)
def Tk.on (k : Nat) : Tk → Tk
  | .op x j => .op x (k + j)
  | t => t
abbrev nN (b : List Int) : Int := Fi.shN b.length b
abbrev nU (b : List Int) : Int := Fi.shU b.length b
abbrev nE (b : List Int) : Int := Fi.shE b.length b
def datA (b : List Int) : Tk :=
  if nE b = 3 then .wait else if nE b = 0 then
    (if nN b = 0 then .bad 4 else if 65536 < nN b then .bad 5 else if (b.length : Int) - nU b < nN b then .wait else .op ⟨false, 0, 0, cut b (nU b).toNat (nN b).toNat⟩ ((nU b).toNat + (nN b).toNat))
  else .bad (nE b)
def copB (old a : Int) (b : List Int) : Tk :=
  if nE b = 3 then .wait else if nE b = 0 then (if mayX ⟨true, a, nN b, []⟩ old = true then .op ⟨true, a, nN b, []⟩ (nU b).toNat else .bad 4) else .bad (nE b)
def copA (old : Int) (b : List Int) : Tk :=
  if nE b = 3 then .wait else if nE b = 0 then (copB old (nN b) (b.drop (nU b).toNat)).on (nU b).toNat else .bad (nE b)
def opA (old : Int) : List Int → Tk
  | [] => .wait
  | c :: r => if c = 0 then (datA r).on 1 else if c = 1 then (copA old r).on 1 else .bad 4
/-- All that are whole: an error, what was taken, what it makes, what is left over. -/
def tks (old made : Int) (b : List Int) (O : List Xp) : Int × List Xp × Int × List Int :=
  match opA old b with
  | .wait => (0, O, made, b)
  | .bad e => (e, [], 0, [])
  | .op x k => if 65536 - made < mkX x then (5, [], 0, []) else if _h : 0 < k ∧ 0 < b.length then tks old (made + mkX x) (b.drop k) (O ++ [x]) else (0, O, made, b)
termination_by b.length
decreasing_by simp only [List.length_drop]; omega
theorem tks_wait {old made : Int} {b : List Int} {O : List Xp} (h : opA old b = .wait) : tks old made b O = (0, O, made, b) := by
  rw [tks, h]
theorem tks_bad {old made e : Int} {b : List Int} {O : List Xp} (h : opA old b = .bad e) : tks old made b O = (e, [], 0, []) := by
  rw [tks, h]
theorem opA_nil (old : Int) : opA old [] = .wait := rfl
theorem nU_le (b : List Int) (hb : ∀ i, 0 ≤ b.getD i 0 ∧ b.getD i 0 < 256) : 0 ≤ nN b ∧ nN b < 4611686018427387904 ∧ 0 ≤ nU b ∧ nU b ≤ b.length := Fi.sh_bd b hb
theorem on_op {t : Tk} {k j : Nat} {x : Xp} (h : t.on k = .op x j) : ∃ i, t = .op x i ∧ j = k + i := by
  cases t with
  | wait => cases h
  | bad e => cases h
  | op y i => cases h; exact ⟨i, rfl, rfl⟩
theorem on_bad {t : Tk} {k : Nat} {e : Int} (h : t.on k = .bad e) : t = .bad e := by
  cases t with
  | wait => cases h
  | bad e => cases h; rfl
  | op y i => cases h
theorem opA_cons (old c : Int) (r : List Int) : opA old (c :: r) = if c = 0 then (datA r).on 1 else if c = 1 then (copA old r).on 1 else .bad 4 := rfl
theorem opA_some {old : Int} {b : List Int} {x : Xp} {k : Nat} (h : opA old b = .op x k) : 0 < k ∧ 0 < b.length := by
  cases b with
  | nil => cases h
  | cons c r =>
    refine ⟨?_, by simp⟩
    rw [opA_cons] at h
    split at h
    · obtain ⟨i, _, rfl⟩ := on_op h; omega
    split at h
    · obtain ⟨i, _, rfl⟩ := on_op h; omega
    · cases h
theorem tks_long {old made : Int} {b : List Int} {O : List Xp} {x : Xp} {k : Nat} (h : opA old b = .op x k) (hm : 65536 - made < mkX x) : tks old made b O = (5, [], 0, []) := by
  rw [tks, h]
  simp only
  rw [if_pos hm]
theorem tks_op {old made : Int} {b : List Int} {O : List Xp} {x : Xp} {k : Nat} (h : opA old b = .op x k) (hm : ¬ 65536 - made < mkX x) : tks old made b O = tks old (made + mkX x) (b.drop k) (O ++ [x]) := by
  rw [tks, h]
  simp only
  rw [if_neg hm, dif_pos (opA_some h)]
end Go.Proofs.YtfccjeepmhgckaaDoor
