/-
  Acknowledgements, plainly, as the document goes over what is open.
-/
import Derived.Test.YtamjbmbflllbfaaLi
namespace Go.Proofs.Ytamjbmbflllbfaa
open Go.RowKit
set_option maxRecDepth 100000

theorem inS_le {l : List Sp} (h : Canon l) {n : Int} (hn : inS l n = true) : n ≤ lstT l := by
  unfold inS at hn
  rw [List.any_eq_true] at hn
  obtain ⟨x, hx, hq⟩ := hn
  obtain ⟨j, hj, rfl⟩ := mem_idx hx
  rw [Bool.and_eq_true, decide_eq_true_eq, decide_eq_true_eq] at hq
  unfold lstT
  by_cases e : j = l.length - 1
  · rw [← e]; exact hq.2
  · have h1 := h.rise (show j < l.length - 1 by omega) (by omega)
    have h2 := (h.1 _ (atS_mem l (l.length - 1) (by omega))).2.1
    omega
/-- The sample that is known behind some rounds. -/
def smL (Y : List Pk) (g to_ now : Int) : Int × Bool := if g < to_ ∧ Y ≠ [] ∧ (atP Y (Y.length - 1)).n = to_ then (now - (atP Y (Y.length - 1)).t, true) else (0, false)
theorem atP_last (Y : List Pk) (p : Pk) : atP (Y ++ [p]) ((Y ++ [p]).length - 1) = p := by
  rw [atP_eq _ _ (by rw [List.length_append, List.length_singleton]; omega)]
  simp
theorem smL_yes (Y : List Pk) (p : Pk) {g to_ now : Int} (h : g < to_) (hp : p.n = to_) : smL (Y ++ [p]) g to_ now = (now - p.t, true) := by
  unfold smL
  rw [atP_last, if_pos ⟨h, by simp, hp⟩]
theorem smL_low {Y : List Pk} {g to_ now : Int} (h : ∀ p ∈ Y, p.n < to_) : smL Y g to_ now = (0, false) := by
  unfold smL
  rw [if_neg]
  rintro ⟨-, h2, h3⟩
  have hp := List.length_pos_iff.2 h2
  have := h _ (atP_mem Y (Y.length - 1) (by omega))
  omega
theorem smL_no {Y : List Pk} {g to_ now : Int} (h : ¬ g < to_) : smL Y g to_ now = (0, false) := by
  unfold smL
  rw [if_neg (fun e => h e.1)]
/-- What a round does to the sample. -/
theorem smL_step {s : Lg} (hok : s.ok) {l : List Sp} (hc : Canon l) {i : Nat} (hi : i < s.o.length) (now : Int) (hp : inS l (atP s.o i).n = true) :
    smL ((s.o.take (i + 1)).filter (fun p => inS l p.n)) s.g (lstT l) now = if (atP s.o i).n = lstT l ∧ s.g < lstT l then (now - (atP s.o i).t, true) else smL ((s.o.take i).filter (fun p => inS l p.n)) s.g (lstT l) now := by
  rw [filt_yes (f := fun p => inS l p.n) hi hp]
  by_cases hg : s.g < lstT l
  · by_cases he : (atP s.o i).n = lstT l
    · rw [if_pos ⟨he, hg⟩, smL_yes _ _ hg he]
    · rw [if_neg (fun e => he e.1)]
      have hlt : (atP s.o i).n < lstT l := by have := inS_le hc hp; omega
      have hall : ∀ p ∈ (s.o.take i).filter (fun p => inS l p.n), p.n < (atP s.o i).n := fun p hq => by
        obtain ⟨hq, -⟩ := List.mem_filter.1 hq
        obtain ⟨j, hj, rfl⟩ := List.getElem_of_mem hq
        rw [List.length_take] at hj
        rw [List.getElem_take, atP_eq s.o i hi]
        exact (List.pairwise_iff_getElem.1 hok.ri j i (by omega) hi (by omega)).1
      rw [smL_low (fun p hq => ?_), smL_low (fun p hq => by have := hall p hq; omega)]
      rcases List.mem_append.1 hq with hq | hq
      · have := hall p hq; omega
      · rw [List.mem_singleton.1 hq]; exact hlt
  · rw [if_neg (fun e => hg e.2), smL_no hg, smL_no hg]
theorem smL_end (s : Lg) (l : List Sp) (now : Int) : (if (smL (gotP s l) s.g (lstT l) now).2 = true ∧ (gotP s l).any (·.a) = true then smL (gotP s l) s.g (lstT l) now else (0, false)) = ackS s l now := by
  unfold ackS smL smp
  generalize gotP s l = G
  by_cases hg : s.g < lstT l
  · rw [if_pos hg]
    by_cases ha : G.any (·.a) = true
    · have hne : G ≠ [] := by rintro rfl; simp at ha
      by_cases he : (atP G (G.length - 1)).n = lstT l
      · rw [if_pos (And.intro hg (And.intro hne he)), if_pos (And.intro rfl ha), if_pos (And.intro ha he)]
      · rw [if_neg (fun e : _ ∧ _ ∧ _ => he e.2.2), if_neg (fun e : _ ∧ _ => he e.2)]
        simp
    · rw [if_neg (fun e : _ ∧ _ => ha e.2), if_neg (fun e : _ ∧ _ => ha e.1)]
  · rw [if_neg hg, if_neg (fun e : _ ∧ _ ∧ _ => hg e.1)]
    simp
end Go.Proofs.Ytamjbmbflllbfaa
