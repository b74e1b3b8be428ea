/-
  What holds of every state that records which may be leave; its image plays it.
-/
import Derived.Test.YtcenchnmibdebaaDoorPla
import Derived.Test.YtcenchnmibdebaaDoorCi
namespace Go.Proofs.YtcenchnmibdebaaDoor
open Go.RowKit
set_option maxRecDepth 100000

/-- A part that may be. -/
def PO (x : Pa) : Prop := chk (dl x.p) = 0 ∧ res (dl x.p) = false ∧ 0 ≤ x.n ∧ x.n ≤ 65536 ∧ 0 ≤ x.o ∧ x.o ≤ x.n ∧ 0 ≤ x.i
structure Inv (s : Ste) : Prop where
  ok : ∀ x ∈ s.l, x.ok
  po : ∀ x ∈ s.l, PO x
  lt : ∀ x ∈ s.l, x.i < s.n
  up : s.l.Pairwise (fun x y => x.i < y.i)
  un : s.l.Pairwise (fun x y => x.p ≠ y.p)
  ln : s.l.length ≤ 64
  n0 : 0 ≤ s.n
  n1 : s.n ≤ 1099511627777
theorem inv0 : Inv st0 := ⟨fun x h => by simp [st0] at h, fun x h => by simp [st0] at h, fun x h => by simp [st0] at h, List.Pairwise.nil, List.Pairwise.nil, by simp [st0], by simp [st0], by simp [st0]⟩
theorem inF_iff {n : Int} : inF n = true ↔ 0 ≤ n ∧ n ≤ 65536 := by unfold inF; simp
/-- What Check's OK says. -/
theorem rck_ok {r : Rc} (h : rck r = 0) : r.k ≤ 4 ∧ 0 ≤ r.x.i ∧ r.x.i ≤ 1099511627776 ∧ ckf r = 0 ∧ 0 ≤ r.x.o ∧ r.x.o ≤ 65536 := by
  unfold rck at h
  split at h
  · cases h
  · rename_i h1
    split at h
    · rename_i h2; exact absurd h h2
    · rename_i h2
      split at h
      · cases h
      · rename_i h3
        have h3' : inF r.x.o = true := by cases hq : inF r.x.o <;> simp_all
        have := inF_iff.1 h3'
        exact ⟨by omega, by omega, by omega, by omega, this.1, this.2⟩
theorem ckf_beg {r : Rc} (h : ckf r = 0) (hk : r.k = 0) : chk (dl r.x.p) = 0 ∧ res (dl r.x.p) = false ∧ 0 ≤ r.x.n ∧ r.x.n ≤ 65536 := by
  unfold ckf at h
  rw [if_pos hk] at h
  split at h
  · rename_i h1; exact absurd h h1
  · rename_i h1
    split at h
    · cases h
    · rename_i h2
      split at h
      · rename_i h3
        have := inF_iff.1 h3
        exact ⟨by omega, by cases hq : res (dl r.x.p) <;> simp_all, this.1, this.2⟩
      · cases h
theorem fnd_no {l : List Pa} {q : ByteArray} (h : (fnd l q).isSome = false) : ∀ x ∈ l, x.p ≠ q := fun x hx e => by
  have h1 : fnd l q = none := by cases hf : fnd l q <;> simp_all
  unfold fnd at h1
  rw [List.find?_eq_none] at h1
  have := h1 x hx
  simp [e] at this
theorem plc_at {l : List Pa} {i : Int} (h : plc l i < l.length) : (atP l (plc l i)).i = i := by
  unfold plc at h ⊢
  rw [atP_eq l _ h]
  have := List.findIdx_getElem (w := h)
  simpa using this
theorem pw_set {R : Pa → Pa → Prop} {l : List Pa} {k : Nat} {y : Pa} (h : l.Pairwise R) (hk : k < l.length) (h1 : ∀ z, R z (atP l k) → R z y) (h2 : ∀ z, R (atP l k) z → R y z) : (l.set k y).Pairwise R := by
  rw [List.pairwise_iff_getElem] at h ⊢
  intro i j hi hj hij
  rw [List.length_set] at hi hj
  have hb := h i j hi hj hij
  rw [atP_eq l k hk] at h1 h2
  rw [List.getElem_set, List.getElem_set]
  split
  · rename_i e
    subst e
    rw [if_neg (by omega)]
    exact h2 _ hb
  · split
    · rename_i e
      subst e
      exact h1 _ hb
    · exact hb
theorem inv_step {s t : Ste} {r : Rc} (h : Inv s) (hr : r.ok) (hc : rck r = 0) (ht : step s r = some t) : Inv t := by
  obtain ⟨c1, c2, c3, c4, c5, c6⟩ := rck_ok hc
  unfold step at ht
  split at ht
  · rename_i hk
    split at ht
    · cases ht
    · rename_i hn
      cases ht
      have hf : (fnd s.l r.x.p).isSome = false := by cases hq : (fnd s.l r.x.p).isSome <;> simp_all
      have hu := fnd_no hf
      obtain ⟨d1, d2, d3, d4⟩ := ckf_beg c4 hk
      have hlt : ¬ r.x.i < s.n := fun q => hn (.inr (.inr q))
      have h64 : ¬ 64 ≤ s.l.length := fun q => hn (.inr (.inl q))
      have mem : ∀ x ∈ s.l ++ [({ r.x with o := 0 } : Pa)], x ∈ s.l ∨ x = { r.x with o := 0 } := fun x hx => by
        rcases List.mem_append.1 hx with q | q
        · exact .inl q
        · exact .inr (by simpa using q)
      refine ⟨fun x hx => ?_, fun x hx => ?_, fun x hx => ?_, ?_, ?_, ?_, ?_, ?_⟩
      · rcases mem x hx with q | rfl
        · exact h.ok x q
        · exact ⟨hr.2.2.1, hr.2.2.2.1, hr.2.2.2.2.1, hr.2.2.2.2.2.1, i64_0⟩
      · rcases mem x hx with q | rfl
        · exact h.po x q
        · exact ⟨d1, d2, d3, d4, Int.le_refl 0, d3, c2⟩
      · rcases mem x hx with q | rfl
        · have := h.lt x q
          show x.i < r.x.i + 1
          omega
        · show r.x.i < r.x.i + 1
          omega
      · show (s.l ++ [_]).Pairwise _
        rw [List.pairwise_append]
        refine ⟨h.up, List.pairwise_singleton _ _, fun x hx y hy => ?_⟩
        simp at hy
        subst hy
        have := h.lt x hx
        show x.i < r.x.i
        omega
      · show (s.l ++ [_]).Pairwise _
        rw [List.pairwise_append]
        refine ⟨h.un, List.pairwise_singleton _ _, fun x hx y hy => ?_⟩
        simp at hy
        subst hy
        exact hu x hx
      · show (s.l ++ [_]).length ≤ 64
        rw [List.length_append, List.length_singleton]
        omega
      · show 0 ≤ r.x.i + 1
        omega
      · show r.x.i + 1 ≤ _
        omega
  · split at ht
    · split at ht
      · rename_i h3
        cases ht
        obtain ⟨a1, a2, a3⟩ := h3
        have hm := atP_mem s.l _ a1
        have pk := h.po _ hm
        have ok := h.ok _ hm
        have mem : ∀ x ∈ s.l.set (plc s.l r.x.i) { atP s.l (plc s.l r.x.i) with o := r.x.o }, x ∈ s.l ∨ x = { atP s.l (plc s.l r.x.i) with o := r.x.o } := fun x hx => List.mem_or_eq_of_mem_set hx
        refine ⟨fun x hx => ?_, fun x hx => ?_, fun x hx => ?_, ?_, ?_, ?_, h.n0, h.n1⟩
        · rcases mem x hx with q | rfl
          · exact h.ok x q
          · exact ⟨ok.1, ok.2.1, ok.2.2.1, ok.2.2.2.1, hr.2.2.2.2.2.2⟩
        · rcases mem x hx with q | rfl
          · exact h.po x q
          · exact ⟨pk.1, pk.2.1, pk.2.2.1, pk.2.2.2.1, c5, a3, pk.2.2.2.2.2.2⟩
        · rcases mem x hx with q | rfl
          · exact h.lt x q
          · exact h.lt (atP s.l (plc s.l r.x.i)) hm
        · exact pw_set h.up a1 (fun z q => q) (fun z q => q)
        · exact pw_set h.un a1 (fun z q => q) (fun z q => q)
        · show (s.l.set _ _).length ≤ 64
          rw [List.length_set]
          exact h.ln
      · cases ht
    · split at ht
      · split at ht
        · cases ht
          have hs : (s.l.eraseIdx (plc s.l r.x.i)).Sublist s.l := List.eraseIdx_sublist _ _
          refine ⟨fun x hx => h.ok x (hs.subset hx), fun x hx => h.po x (hs.subset hx), fun x hx => h.lt x (hs.subset hx), h.up.sublist hs, h.un.sublist hs, Nat.le_trans hs.length_le h.ln, h.n0, h.n1⟩
        · cases ht
      · split at ht
        · split at ht
          · cases ht
          · rename_i hn
            cases ht
            refine ⟨h.ok, h.po, fun x hx => ?_, h.up, h.un, h.ln, ?_, ?_⟩
            · have := h.lt x hx
              show x.i < r.x.i + 1
              omega
            · show 0 ≤ r.x.i + 1
              omega
            · show r.x.i + 1 ≤ _
              omega
        · cases ht
end Go.Proofs.YtcenchnmibdebaaDoor
