/-
  What holds of every state that records leave, whatever they are: the IDs rise; so there is one part of an ID.
-/
import Derived.Test.YtcenchnmibdebaaDoorInv
namespace Go.Proofs.YtcenchnmibdebaaDoor
open Go.RowKit
set_option maxRecDepth 100000

structure Ris (s : Ste) : Prop where
  ok : ∀ x ∈ s.l, x.ok
  lt : ∀ x ∈ s.l, x.i < s.n
  up : s.l.Pairwise (fun x y => x.i < y.i)
  ln : s.l.length ≤ 64
  n0 : 0 ≤ s.n
  n1 : s.n ≤ 2199023255553
theorem ris0 : Ris st0 := ⟨fun x h => by simp [st0] at h, fun x h => by simp [st0] at h, List.Pairwise.nil, by simp [st0], by simp [st0], by simp [st0]⟩
/-- There is one part of an ID. -/
theorem Ris.one {s : Ste} (h : Ris s) {j : Nat} {i : Int} (hj : j < s.l.length) (hi : (atP s.l j).i = i) : plc s.l i = j := by
  refine plc_hit s.l i j hj (fun k hk => ?_) hi
  have := (List.pairwise_iff_getElem.1 h.up) k j (by omega) hj hk
  rw [atP_eq s.l j hj] at hi
  rw [atP_eq s.l k (by omega)]
  omega
theorem Ris.not {s : Ste} (h : Ris s) {j k : Nat} {i : Int} (hj : j < s.l.length) (hi : (atP s.l j).i = i) (hk : k < s.l.length) (hne : k ≠ j) : ¬ (atP s.l k).i = i := fun e => hne ((h.one hk e).symm.trans (h.one hj hi))
theorem ris_step {s t : Ste} {r : Rc} (h : Ris s) (hr : r.ok) (hi : r.x.i ≤ 2199023255552) (ht : step s r = some t) : Ris t := by
  unfold step at ht
  split at ht
  · split at ht
    · cases ht
    · rename_i hn
      cases ht
      have hlt : ¬ r.x.i < s.n := fun q => hn (.inr (.inr q))
      have h64 : ¬ 64 ≤ s.l.length := fun q => hn (.inr (.inl q))
      have hn0 := h.n0
      have mem : ∀ x ∈ s.l ++ [({ r.x with o := 0 } : Pa)], x ∈ s.l ∨ x = { r.x with o := 0 } := fun x hx => by
        rcases List.mem_append.1 hx with q | q
        · exact .inl q
        · exact .inr (by simpa using q)
      refine ⟨fun x hx => ?_, fun x hx => ?_, ?_, ?_, ?_, ?_⟩
      · rcases mem x hx with q | rfl
        · exact h.ok x q
        · exact ⟨hr.2.2.1, hr.2.2.2.1, hr.2.2.2.2.1, hr.2.2.2.2.2.1, i64_0⟩
      · rcases mem x hx with q | rfl
        · have := h.lt x q
          show x.i < r.x.i + 1
          omega
        · show r.x.i < r.x.i + 1
          omega
      · show (s.l ++ [_]).Pairwise _
        rw [List.pairwise_append]
        refine ⟨h.up, List.pairwise_singleton _ _, fun x hx y hy => ?_⟩
        simp at hy
        subst hy
        have := h.lt x hx
        show x.i < r.x.i
        omega
      · show (s.l ++ [_]).length ≤ 64
        rw [List.length_append, List.length_singleton]
        omega
      · show 0 ≤ r.x.i + 1
        omega
      · show r.x.i + 1 ≤ _
        omega
  · split at ht
    · split at ht
      · rename_i hc
        cases ht
        obtain ⟨p1, p2, p3⟩ := hc
        have hp := h.ok _ (atP_mem s.l _ p1)
        have hpi := h.lt _ (atP_mem s.l _ p1)
        refine ⟨fun x hx => ?_, fun x hx => ?_, ?_, ?_, h.n0, h.n1⟩
        · rcases List.mem_or_eq_of_mem_set hx with q | rfl
          · exact h.ok x q
          · exact ⟨hp.1, hp.2.1, hp.2.2.1, hp.2.2.2.1, hr.2.2.2.2.2.2⟩
        · rcases List.mem_or_eq_of_mem_set hx with q | rfl
          · exact h.lt x q
          · exact hpi
        · exact pw_set h.up p1 (fun z q => q) (fun z q => q)
        · show (s.l.set _ _).length ≤ 64
          rw [List.length_set]
          exact h.ln
      · cases ht
    · split at ht
      · split at ht
        · cases ht
          refine ⟨fun x hx => h.ok x (List.mem_of_mem_eraseIdx hx), fun x hx => h.lt x (List.mem_of_mem_eraseIdx hx), h.up.sublist (List.eraseIdx_sublist _ _), ?_, h.n0, h.n1⟩
          exact Nat.le_trans (List.eraseIdx_sublist _ _).length_le h.ln
        · cases ht
      · split at ht
        · split at ht
          · cases ht
          · rename_i hlt
            cases ht
            have := h.n0
            refine ⟨h.ok, fun x hx => ?_, h.up, h.ln, ?_, ?_⟩
            · have := h.lt x hx
              show x.i < r.x.i + 1
              omega
            · show 0 ≤ r.x.i + 1
              omega
            · show r.x.i + 1 ≤ _
              omega
        · cases ht
end Go.Proofs.YtcenchnmibdebaaDoor
