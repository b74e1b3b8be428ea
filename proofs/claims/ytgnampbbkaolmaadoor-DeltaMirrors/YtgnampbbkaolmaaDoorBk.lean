/-
  Operations put and fed: plainly.
-/
import Derived.Test.YtgnampbbkaolmaaDoorCm
import Derived.Test.YtgnampbbkaolmaaDoorDq
import Derived.Test.YtgnampbbkaolmaaDoorDl
namespace Go.Proofs.YtgnampbbkaolmaaDoor
open Go.RowKit

theorem byt_mem : ∀ (l : List Xp) (x : Xp), x ∈ l → x.d.length ≤ byt l
  | [], x, h => by cases h
  | y :: l, x, h => by
    have e : byt (y :: l) = y.d.length + byt l := by simp [byt]
    rcases List.mem_cons.1 h with rfl | h
    · omega
    · have := byt_mem l x h
      omega
theorem tot_of (l : List Xp) (old : Int) (h : ∀ x ∈ l, mayX x old = true) : totX l = cpd l + lit l := by
  induction l with
  | nil => rfl
  | cons x l ih =>
    have h1 := ih fun y hy => h y (by simp [hy])
    have h2 := h x (by simp)
    have e1 : cpd (x :: l) = (if x.c = true then x.n else 0) + cpd l := by simp [cpd]
    have e2 : lit (x :: l) = (if x.c = true then 0 else x.d.length) + lit l := by simp [lit]
    rw [totX_cons, e1, e2]
    cases hc : x.c with
    | true =>
      obtain ⟨-, -, h3, -⟩ := (mayX_copy hc).1 h2
      rw [mkX_copy hc, if_pos rfl, if_pos rfl]
      omega
    | false =>
      rw [mkX_data hc, if_neg (by simp), if_neg (by simp)]
      omega
theorem put_byt : ∀ l : List Xp, (putX l).length ≤ 17 * l.length + byt l
  | [] => by simp [putX, byt]
  | x :: l => by
    have h1 := put_byt l
    have h2 := layX_len x
    have e : byt (x :: l) = x.d.length + byt l := by simp [byt]
    rw [putX_cons, List.length_append, List.length_cons, e]
    omega
theorem put_drop (l : List Xp) (j : Nat) : (putX (l.drop j)).length ≤ (putX l).length := by
  have h := putX_app (l.take j) (l.drop j)
  rw [List.take_append_drop] at h
  rw [h, List.length_append]
  omega
theorem slx_row {w : World} {a : Option Addr} {L c : Nat} {b : List Int} (h : SlX w (.slice a L c) b) : Row w a L c b := by
  obtain ⟨a', c', e, -, -, -, hr⟩ := h.1
  cases e
  exact hr
/-- What stands at a place: so many bytes were fed, so many operations came, these bytes are left over. -/
def BK (P : List Int) (l : List Xp) (p j : Nat) (rest : List Int) : Prop := p ≤ P.length ∧ j ≤ l.length ∧ rest ++ P.drop p = putX (l.drop j) ∧ (P.drop p = [] → j = l.length)
theorem BK.step {P : List Int} {l : List Xp} {p j : Nat} {rest : List Int} (h : BK P l p j rest) (old : Int) (ho : old < 4611686018427387904) (hm : ∀ x ∈ l, mayX x old = true) (ht : totX l ≤ 65536) (n : Nat) (hn : p + n ≤ P.length) :
    ∃ j' rest', feedP ⟨old, totX (l.take j), rest, 0⟩ ((P.drop p).take n) = (⟨old, totX (l.take (j + j')), rest', 0⟩, (l.drop j).take j', 0) ∧ BK P l (p + n) (j + j') rest' := by
  obtain ⟨h1, h2, h3, h4⟩ := h
  have hs : (rest ++ (P.drop p).take n) ++ P.drop (p + n) = putX (l.drop j) := by
    rw [← h3, List.append_assoc]
    congr 1
    rw [← List.drop_drop]
    exact List.take_append_drop n (P.drop p)
  have htt : totX (l.take j) + totX (l.drop j) ≤ 65536 := by
    rw [← totX_app, List.take_append_drop]
    exact ht
  obtain ⟨q, q1, q2, q3, q4, q5⟩ := tks_pre old ho (l.drop j) (totX (l.take j)) _ _ [] (totX_pos _) (fun x hx => hm x (List.mem_of_mem_drop hx)) htt hs
  refine ⟨q, (rest ++ (P.drop p).take n).drop (putX ((l.drop j).take q)).length, ?_, hn, ?_, ?_, fun e => ?_⟩
  · unfold feedP
    simp only [if_true, q2]
    rw [List.nil_append]
    have e1 : totX (l.take j) + totX ((l.drop j).take q) = totX (l.take (j + q)) := by rw [← totX_app, List.take_add]
    rw [e1]
  · rw [List.length_drop] at q1
    omega
  · rw [q4, List.drop_drop]
  · have := q5 e
    rw [List.length_drop] at this
    omega
end Go.Proofs.YtgnampbbkaolmaaDoor
