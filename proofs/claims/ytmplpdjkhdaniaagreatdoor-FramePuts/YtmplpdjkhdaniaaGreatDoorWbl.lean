/-
  What ranges.Get uses; what is left is the end of what was there.
  What may be read.
-/
import Derived.Test.YtmplpdjkhdaniaaGreatDoorWbh
namespace Go.Proofs.YtmplpdjkhdaniaaGreatDoor
open Go.RowKit Go.Shelf
set_option maxRecDepth 100000

theorem rNm_drop {m : Int} {ys : List Int} {v : Int} {y : List Int} {e : Int} (h : rNm m ys 0 = (v, y, e)) : ∃ u, u ≤ ys.length ∧ y = ys.drop u := by
  unfold rNm rN at h
  rw [if_pos rfl] at h
  have e1 : ys.drop (Fi.naU ys m).toNat = y := congrArg (fun q => q.2.1) h
  refine ⟨min (Fi.naU ys m).toNat ys.length, Nat.min_le_right _ _, ?_⟩
  rw [← e1]
  rcases Nat.le_total (Fi.naU ys m).toNat ys.length with q | q
  · rw [Nat.min_eq_left q]
  · rw [Nat.min_eq_right q, List.drop_of_length_le q, List.drop_length]
theorem rN_len (xs : List Int) (e m : Int) : (rN xs e m).2.1.length ≤ xs.length := by
  unfold rN
  split
  · simp only [List.length_drop]; omega
  · exact Nat.le_refl _
theorem gsp_len (xs : List Int) (e t l : Int) : (gsp xs e t l).2.1.length ≤ xs.length := rN_len _ _ _
theorem glp_len : ∀ (k : Nat) (l : List Sp) (p : Sp) (xs : List Int) (e : Int), (glp k l p xs e).2.1.length ≤ xs.length
  | 0, _, _, _, _ => Nat.le_refl _
  | k + 1, l, p, xs, e => by
    unfold glp
    simp only
    exact Nat.le_trans (glp_len k _ _ _ _) (Nat.le_trans (gsp_len _ _ _ _) (rN_len _ _ _))
theorem getP_used (xs : List Int) : 0 ≤ (getP xs).2.1 ∧ (getP xs).2.1 ≤ 1032 := by
  unfold getP
  simp only
  have h : (getA (xs.take 1032)).2.1.length ≤ (xs.take 1032).length := by
    unfold getA
    simp only
    exact Nat.le_trans (glp_len _ _ _ _ _) (Nat.le_trans (gsp_len _ _ _ _) (Nat.le_trans (rN_len _ _ _) (rN_len _ _ _)))
  have h2 : (xs.take 1032).length ≤ 1032 := by rw [List.length_take]; omega
  split
  · simp only; omega
  · split <;> simp
end Go.Proofs.YtmplpdjkhdaniaaGreatDoor
namespace Go.Proofs.YtmplpdjkhdaniaaGreatDoor
open Go.RowKit Go.Shelf
set_option maxRecDepth 100000

def BB (xs : List Int) : Prop := ∀ i, 0 ≤ xs.getD i 0 ∧ xs.getD i 0 < 256
theorem BB.drop {xs : List Int} (h : BB xs) (n : Nat) : BB (xs.drop n) := Fi.bytes_drop xs n h
theorem BB.take {xs : List Int} (h : BB xs) (n : Nat) : BB (xs.take n) := fun i => by
  have := h i
  rw [List.getD_eq_getElem?_getD, List.getElem?_take]
  split
  · rwa [List.getD_eq_getElem?_getD] at this
  · simp
/-- A reader leaves bytes, no more than there were. -/
def Rl {α : Type} (A : Rr α) (P : α → Prop) : Prop := ∀ xs e, BB xs → BB (A xs e).2.1 ∧ (A xs e).2.1.length ≤ xs.length ∧ (xs.length ≤ 100000 → P (A xs e).1)
theorem Rl.opt {α : Type} {A : Rr α} {P : α → Prop} (h : Rl A P) (b : Bool) {d : α} (hd : P d) : Rl (opt b A d) P := by
  cases b with
  | true => exact h
  | false => exact fun xs e hb => ⟨hb, Nat.le_refl _, fun _ => hd⟩
theorem Rl.thn {α β : Type} {A : Rr α} {B : Rr β} {P : α → Prop} {Q : β → Prop} (ha : Rl A P) (hb : Rl B Q) : Rl (thn A B) (fun x => P x.1 ∧ Q x.2) := fun xs e h => by
  obtain ⟨a1, a2, a3⟩ := ha xs e h
  obtain ⟨b1, b2, b3⟩ := hb (A xs e).2.1 (A xs e).2.2 a1
  exact ⟨b1, Nat.le_trans b2 a2, fun hl => ⟨a3 hl, b3 (Nat.le_trans a2 hl)⟩⟩
theorem rNm_rl (m : Int) (hm : 0 ≤ m) : Rl (rNm m) (fun n => 0 ≤ n ∧ n ≤ m) := fun xs e h => by
  obtain ⟨h1, h2, h3, h4⟩ := rN_bd xs e m hm h
  exact ⟨h4, h3, fun _ => ⟨h1, h2⟩⟩
theorem rFn_rl : Rl rFn (fun _ => True) := fun xs e h => by
  unfold rFn
  split
  · split
    · exact ⟨h, Nat.le_refl _, fun _ => trivial⟩
    · split
      · exact ⟨h.drop 1, by simp only [List.length_drop]; omega, fun _ => trivial⟩
      · exact ⟨h.drop 1, by simp only [List.length_drop]; omega, fun _ => trivial⟩
  · exact ⟨h, Nat.le_refl _, fun _ => trivial⟩
theorem zn_bb : BB zn := fun i => by
  unfold zn
  rw [List.getD_eq_getElem?_getD, List.getElem?_replicate]
  split <;> simp
theorem rOn_rl : Rl rOn (fun l => l.length = 16 ∧ BB l) := fun xs e h => by
  unfold rOn
  split
  · split
    · exact ⟨h, Nat.le_refl _, fun _ => ⟨rfl, zn_bb⟩⟩
    · exact ⟨h.drop 16, by simp only [List.length_drop]; omega, fun _ => ⟨by simp only [List.length_take]; omega, h.take 16⟩⟩
  · exact ⟨h, Nat.le_refl _, fun _ => ⟨rfl, zn_bb⟩⟩
theorem rTx_rl (m : Int) : Rl (rTx m) (fun l => l.length ≤ 100000) := fun xs e h => by
  unfold rTx
  split
  · simp only
    unfold Fi.txR Fi.txS
    split
    · exact ⟨h.drop _, by simp only [List.length_drop]; omega, fun hl => by rw [List.length_take, List.length_drop]; omega⟩
    · exact ⟨h, Nat.le_refl _, fun _ => by simp⟩
  · exact ⟨h, Nat.le_refl _, fun _ => by simp⟩
theorem ahR_rl (k : Int) : Rl (ahR k) (fun x => (0 ≤ x.1 ∧ x.1 ≤ 1048576) ∧ (0 ≤ x.2.1 ∧ x.2.1 ≤ 1099511627776) ∧ True ∧ (0 ≤ x.2.2.2.1 ∧ x.2.2.2.1 ≤ 65536) ∧ (x.2.2.2.2.1.length = 16 ∧ BB x.2.2.2.2.1) ∧ x.2.2.2.2.2.length ≤ 100000) := by
  unfold ahR
  exact ((rNm_rl _ (by omega)).opt _ (by omega)).thn (((rNm_rl _ (by omega)).opt _ (by omega)).thn ((rFn_rl.opt _ trivial).thn (((rNm_rl _ (by omega)).opt _ (by omega)).thn ((rOn_rl.opt _ ⟨rfl, zn_bb⟩).thn ((rTx_rl _).opt _ (by simp))))))
theorem glp_num : ∀ (k : Nat) (l : List Sp) (p : Sp) (xs : List Int) (e : Int), (glp k l p xs e).1.length = l.length + k + 1
  | 0, l, p, _, _ => by simp [glp]
  | k + 1, l, p, xs, e => by
    unfold glp
    simp only
    rw [glp_num k, List.length_append, List.length_singleton]
    omega
theorem getP_num (xs : List Int) (h : BB xs) : (getP xs).1.length ≤ 100000 := by
  unfold getP
  simp only
  have h1 : BB (xs.take 1032) := h.take _
  split
  · rw [List.length_reverse]
    unfold getA
    simp only
    rw [glp_num]
    obtain ⟨a1, a2, a3, a4⟩ := rN_bd (xs.take 1032) 0 1099511627776 (by omega) h1
    obtain ⟨b1, b2, -, -⟩ := rN_bd (rN (xs.take 1032) 0 1099511627776).2.1 (rN (xs.take 1032) 0 1099511627776).2.2 (min 63 ((rN (xs.take 1032) 0 1099511627776).1 / 2)) (by omega) a4
    simp only [List.length_nil]
    omega
  · split <;> simp
theorem fk_zero : FK Fm.zero := ⟨by decide, by decide, by decide, by decide, by decide, by decide, by decide, by decide, rfl, zn_bb⟩
theorem ahM_fk (xs : List Int) (h : BB xs) (hl : xs.length ≤ 100000) : FK (ahM xs).1 ∧ (ahM xs).1.sp.length ≤ 100000 ∧ (ahM xs).1.tx.size ≤ 140737488355328 := by
  have hz : FK Fm.zero ∧ Fm.zero.sp.length ≤ 100000 ∧ Fm.zero.tx.size ≤ 140737488355328 := ⟨fk_zero, by simp [Fm.zero], by decide⟩
  have hE : ∀ e, FK (errM e).1 ∧ (errM e).1.sp.length ≤ 100000 ∧ (errM e).1.tx.size ≤ 140737488355328 := fun _ => hz
  unfold ahM
  simp only
  split
  · exact hE _
  split
  · exact hE _
  rename_i hk
  have hk0 := h 0
  generalize xs.getD 0 0 = k at *
  obtain ⟨q1, q2, q3⟩ := ahR_rl k (xs.drop 1) 0 (h.drop 1)
  obtain ⟨c1, c2, -, c4, c5, c6⟩ := q3 (by rw [List.length_drop]; omega)
  have hF : ∀ l, l.length ≤ 100000 → FK (mkF k (ahR k (xs.drop 1) 0).1 l) ∧ (mkF k (ahR k (xs.drop 1) 0).1 l).sp.length ≤ 100000 ∧ (mkF k (ahR k (xs.drop 1) 0).1 l).tx.size ≤ 140737488355328 := fun l hl => by
    refine ⟨⟨hk0.1, hk0.2, ?_, ?_, ?_, ?_, ?_, ?_, c5.1, c5.2⟩, hl, ?_⟩
    · show -9223372036854775808 ≤ (ahR k (xs.drop 1) 0).1.1; omega
    · show (ahR k (xs.drop 1) 0).1.1 ≤ 9223372036854775807; omega
    · show -9223372036854775808 ≤ (ahR k (xs.drop 1) 0).1.2.1; omega
    · show (ahR k (xs.drop 1) 0).1.2.1 ≤ 9223372036854775807; omega
    · show -9223372036854775808 ≤ (ahR k (xs.drop 1) 0).1.2.2.2.1; omega
    · show (ahR k (xs.drop 1) 0).1.2.2.2.1 ≤ 9223372036854775807; omega
    · show (Fi.strB (ahR k (xs.drop 1) 0).1.2.2.2.2.2).size ≤ _
      rw [Fi.strB_size]
      omega
  split
  · exact hE _
  split
  · split
    · exact hE _
    · exact hF _ (getP_num _ q1)
  · exact hF _ (by simp)
end Go.Proofs.YtmplpdjkhdaniaaGreatDoor
