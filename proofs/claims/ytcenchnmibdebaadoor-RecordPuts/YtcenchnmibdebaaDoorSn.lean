/-
  What Scan answers.
-/
import Derived.Test.YtcenchnmibdebaaDoorRa
namespace Go.Proofs.YtcenchnmibdebaaDoor
open Go.RowKit
set_option maxRecDepth 100000

/-- What bytes are scanned as: the records, how many bytes they have, why there are no more. -/
def scn (X : List Int) : List Rc × Nat × Int :=
  if _h0 : X = [] then ([], 0, 0) else if ahE X ≠ 0 then ([], 0, ahE X) else
    (ahR X :: (scn (X.drop (max 1 (ahU X).toNat))).1, max 1 (ahU X).toNat + (scn (X.drop (max 1 (ahU X).toNat))).2.1, (scn (X.drop (max 1 (ahU X).toNat))).2.2)
termination_by X.length
decreasing_by
  all_goals
    rw [List.length_drop]
    have : 0 < X.length := List.length_pos_iff.2 _h0
    omega
theorem scn_nil : scn [] = ([], 0, 0) := by rw [scn]; rfl
theorem scn_err {X : List Int} (h : X ≠ []) (he : ahE X ≠ 0) : scn X = ([], 0, ahE X) := by rw [scn, dif_neg h, if_pos he]
theorem ahU_pos {X : List Int} (hb : Bts X) (he : ahE X = 0) : 1 ≤ (ahU X).toNat ∧ (ahU X).toNat ≤ X.length ∧ 0 ≤ ahU X ∧ (ahR X).ok ∧ ahR X = ahX X := by
  have hr : ahR X = ahX X := by unfold ahR; rw [if_pos he]
  have hu : ahU X = (whl X).length := by unfold ahU; rw [if_pos he]
  have hw : (whl X).length ≤ X.length := by unfold whl; rw [List.length_take]; omega
  have lb := la_bd X hb
  have hE : laE X = 0 := by
    unfold ahE at he
    by_cases h0 : laE X = 0
    · exact h0
    · rw [if_pos h0] at he; exact absurd he h0
  obtain ⟨l1, l2⟩ := lb.2.2.2 hE
  have hlen : 1 ≤ (whl X).length := by unfold whl; rw [List.length_take]; omega
  refine ⟨by omega, by omega, by omega, ?_, hr⟩
  rw [hr]
  exact (rdR_ok _ (bts_drop (bts_take hb _) _)).1
theorem scn_ok {X : List Int} (hb : Bts X) (hX : X ≠ []) (he : ahE X = 0) : scn X = (ahR X :: (scn (X.drop (ahU X).toNat)).1, (ahU X).toNat + (scn (X.drop (ahU X).toNat)).2.1, (scn (X.drop (ahU X).toNat)).2.2) := by
  have h1 := (ahU_pos hb he).1
  rw [scn, dif_neg hX, if_neg (by omega), Nat.max_eq_right h1]
/-- Behind p bytes, with the records l. -/
def SJ (X : List Int) (p : Nat) (l : List Rc) : Prop := scn X = (l ++ (scn (X.drop p)).1, p + (scn (X.drop p)).2.1, (scn (X.drop p)).2.2)
theorem SJ.zero (X : List Int) : SJ X 0 [] := by
  unfold SJ
  rw [List.drop_zero, List.nil_append, Nat.zero_add]
theorem SJ.go {X : List Int} {p : Nat} {l : List Rc} (h : SJ X p l) (hb : Bts X) (hp : p < X.length) (he : ahE (X.drop p) = 0) : SJ X (p + (ahU (X.drop p)).toNat) (l ++ [ahR (X.drop p)]) := by
  unfold SJ at h ⊢
  have hne : X.drop p ≠ [] := by rw [Ne, List.drop_eq_nil_iff]; omega
  rw [scn_ok (bts_drop hb p) hne he] at h
  rw [h, List.drop_drop, List.append_assoc, Nat.add_assoc]
  rfl
theorem SJ.stop {X : List Int} {p : Nat} {l : List Rc} (h : SJ X p l) (hp : p < X.length) (he : ahE (X.drop p) ≠ 0) : scn X = (l, p, ahE (X.drop p)) := by
  unfold SJ at h
  have hne : X.drop p ≠ [] := by rw [Ne, List.drop_eq_nil_iff]; omega
  rw [h, scn_err hne he]
  simp
theorem SJ.all {X : List Int} {l : List Rc} (h : SJ X X.length l) : scn X = (l, X.length, 0) := by
  unfold SJ at h
  rw [h, List.drop_length, scn_nil]
  simp
end Go.Proofs.YtcenchnmibdebaaDoor
