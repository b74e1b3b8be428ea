/-
  The set of all numbers of spans; what Check answers.
-/
import Derived.Test.YtamjbmbflllbfaaR2
namespace Go.Proofs.Ytamjbmbflllbfaa
open Go.RowKit
set_option maxRecDepth 100000

/-- The set of all numbers of spans. -/
def setL (l : List Sp) : List Sp := l.foldl (fun s x => adP s x.1 x.2) []
theorem setL_snoc (l : List Sp) (x : Sp) : setL (l ++ [x]) = adP (setL l) x.1 x.2 := by unfold setL; rw [List.foldl_append]; rfl
theorem adP_mem {s : List Sp} (h : Canon s) {f t : Int} (hok : Okk (f, t)) (n : Int) : Mem (adP s f t) n ↔ Mem s n ∨ (f ≤ n ∧ n ≤ t) := by
  rw [← adP_eq h, if_pos ((may_iff f t).2 hok), radd_eq h hok]
  exact (add_spec h hok).2 n
theorem setL_spec (l : List Sp) : Canon (setL l) ∧ ((∀ x ∈ l, Okk x) → ∀ n, Mem (setL l) n ↔ Mem l n) := by
  suffices H : ∀ (l s : List Sp), Canon s → Canon (l.foldl (fun s x => adP s x.1 x.2) s) ∧ ((∀ x ∈ l, Okk x) → ∀ n, Mem (l.foldl (fun s x => adP s x.1 x.2) s) n ↔ Mem s n ∨ Mem l n) by
    obtain ⟨h1, h2⟩ := H l [] Canon.nil
    exact ⟨h1, fun h n => (h2 h n).trans ⟨fun a => a.elim (fun a => absurd a (mem_nil n)) id, .inr⟩⟩
  intro l
  induction l with
  | nil => intro s hs; exact ⟨hs, fun _ n => ⟨.inl, fun a => a.elim id (fun a => absurd a (mem_nil n))⟩⟩
  | cons x l ih =>
    intro s hs
    obtain ⟨i1, i2⟩ := ih (adP s x.1 x.2) (adP_canon hs _ _)
    refine ⟨i1, fun h n => ?_⟩
    rw [List.foldl_cons, i2 (fun y hy => h y (List.mem_cons_of_mem _ hy)), adP_mem hs (h x (List.mem_cons_self ..)), mem_cons]
    exact ⟨fun a => a.elim (fun a => a.elim .inl (fun a => .inr (.inl a))) (fun a => .inr (.inr a)), fun a => a.elim (fun a => .inl (.inl a)) (fun a => a.elim (fun a => .inl (.inr a)) .inr)⟩
theorem setL_canon {l : List Sp} (h : Canon l) : setL l = l := canon_ext (setL_spec l).1 h (fun n => (setL_spec l).2 h.1 n)
theorem setL_len {l : List Sp} : (setL l).length ≤ l.length := by
  suffices H : ∀ (l s : List Sp), Canon s → (l.foldl (fun s x => adP s x.1 x.2) s).length ≤ s.length + l.length by have := H l [] Canon.nil; simpa [setL] using this
  intro l
  induction l with
  | nil => intro s hs; simp
  | cons x l ih =>
    intro s hs
    have h1 := ih (adP s x.1 x.2) (adP_canon hs _ _)
    have h2 : (adP s x.1 x.2).length ≤ s.length + 1 := by
      unfold adP
      split
      · next q => exact addL_len s _ _ (fE_bU hs (by have := (may_iff _ _).1 q.1; unfold Okk at this; simp only at this; omega))
      · omega
    rw [List.foldl_cons, List.length_cons]
    omega
/-- What Check answers. -/
def chkL (l : List Sp) : Int := if 64 < l.length then 5 else if l = [] ∨ setL l ≠ l then 4 else 0
end Go.Proofs.Ytamjbmbflllbfaa
