/-
  Parts appended to a row of the call's own of the document's parts.
-/
import Derived.Test.YtcenchnmibdebaaDoorRba
import Derived.Laws.AppendOwnNone
namespace Go.Proofs.YtcenchnmibdebaaDoor
open Go.RowKit
set_option maxRecDepth 100000

theorem RPt.more {t : TypeId} {w : World} {B : Nat} {v : Value} {l m : List Pa} (hl : ∀ x ∈ l, x.ok) (hm : ∀ x ∈ m, x.ok) (h : w.ownsRow B t 36 v (l.length + m.length) ((l.map Pa.cells).flatten ++ (m.map Pa.cells).flatten)) : RPt t w B v (l ++ m) := by
  have hok : ∀ x ∈ l ++ m, x.ok := fun x hx => (List.mem_append.1 hx).elim (hl x) (hm x)
  refine ⟨⟨?_, cl_pa hok⟩, hok⟩
  rw [List.length_map, List.length_append, List.map_append, List.flatten_append]
  exact h
theorem wp_append_psq {o : Oper} {a : Act} {w : World} {K : Act → World → Prop} {Q : Exit → Act → World → Prop} (s x : Operand) (ho : o.op = .call { callee := .builtin .append, args := #[s, x], argTypes := #[44, 44] })
    (B : Nat) (v : Value) (l : List Pa) (hs : a.eval s = v) (hown : RPq w B v l) (u : Value) (m : List Pa) (hx : a.eval x = u) (hm : PS w u m) (hbig : l.length + m.length ≤ 100000) (hbase : B ≤ w.heap.size)
    (h : ∀ v' w', RPq w' B v' (l ++ m) → w.grownBy w' v.ownBlock → K (a.put o.dst v') w') : o.wp Tryd.prog a w K Q := by
  obtain ⟨i0, hi, hz0, hz1, hz2⟩ := info_parts infoPq
  obtain ⟨⟨ad, cap, rfl, h1, h2, h3, hcl, h4⟩, hok⟩ := hm
  rw [List.length_map] at hx h1
  cases ad with
  | none =>
    obtain rfl := h3 rfl
    obtain rfl : m = [] := List.length_eq_zero_iff.1 (by omega)
    have hrun := run_append_owned_none (P := Tryd.prog) (w := w) B 44 o.type 61 i0 36 Tryd.underlying44 hi v l.length (l.map Pa.cells).flatten hown.own
    have hK := h v w (by rw [List.append_nil]; exact hown) ⟨rfl, rfl, rfl, Nat.le_refl _, fun _ _ _ => rfl⟩
    unfold Oper.wp
    simp [execOp, ho, resolve, invoke, builtin, hs, hx, hrun, Result.andThen]
    exact hK
  | some ad =>
    refine wp_append_own_wide w s x 44 ho B 61 i0 pa0.val 36 72 Tryd.underlying44 hi hz0 hz1 hz2 (by simp [Pa.val, Value.cells, Pa.len pa0_ok]) (by decide) v l.length (l.map Pa.cells).flatten hs hown.own ad m.length cap (m.map Pa.cells).flatten hx (by rw [hcl.flat, List.length_map]) ?_ hcl.ones (by unfold maxLen; omega) (by omega) hbase ?_
    · intro j q hj
      rcases h4 with e | ⟨b, off, e, hr⟩
      · rw [e] at hj; simp at hj
      · cases e
        rw [Addr.add_lit]
        exact CL.flatcell (by omega) hcl hr j q hj
    · intro v' w' ho' hg _
      exact h v' w' (RPt.more hown.2 hok ho') hg
theorem wpList_append_psq {ops : Array Oper} {rest : List Oper} {o : Oper} {a : Act} {w : World} {Q : Exit → Act → World → Prop} (hgd : o.guard = none) (s x : Operand) (ho : o.op = .call { callee := .builtin .append, args := #[s, x], argTypes := #[44, 44] })
    (B : Nat) (v : Value) (l : List Pa) (hs : a.eval s = v) (hown : RPq w B v l) (u : Value) (m : List Pa) (hx : a.eval x = u) (hm : PS w u m) (hbig : l.length + m.length ≤ 100000) (hbase : B ≤ w.heap.size)
    (h : ∀ v' w', RPq w' B v' (l ++ m) → w.grownBy w' v.ownBlock → wpList Tryd.prog ops Q rest (a.put o.dst v') w') : wpList Tryd.prog ops Q (o :: rest) a w :=
  wpList_plain hgd fun _ hK => wp_append_psq s x ho B v l hs hown u m hx hm hbig hbase fun v' w' h1 h2 => hK _ _ (h v' w' h1 h2)
end Go.Proofs.YtcenchnmibdebaaDoor
