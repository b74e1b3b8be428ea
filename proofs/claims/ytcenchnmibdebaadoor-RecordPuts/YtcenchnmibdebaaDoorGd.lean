/-
  Steps of a walk at operations that a guard opens.
-/
import Derived.Test.YtcenchnmibdebaaDoorPs
namespace Go.Proofs.YtcenchnmibdebaaDoor
open Go.RowKit
set_option maxRecDepth 100000

theorem wpList_wt {P : Program} {ops : Array Oper} {rest : List Oper} {o : Oper} {a : Act} {w : World} {Q : Exit → Act → World → Prop} (hw : Region.wanted o (yielded ops a.tmps) = true) (h : o.wp P a w (wpList P ops Q rest) Q) : wpList P ops Q (o :: rest) a w := by
  unfold wpList
  rw [if_pos hw]
  exact .inl h
theorem wpList_load_midG {P : Program} {ops : Array Oper} {rest : List Oper} {op : Oper} {a : Act} {w : World} {Q : Exit → Act → World → Prop} (hw : Region.wanted op (yielded ops a.tmps) = true) (ty : TypeId) (x : Operand) (ho : op.op = .load ty x)
    (b o : Nat) (hx : a.eval x = .pointer (some ⟨b, o, none⟩)) (cs : List Value) (d : TypeDesc) (hc : w.rangeAt b o cs)
    (hu : P.underlying ty = some d) (hd : d.isRow = true) (hi : (P.info? ty).map (·.size) = some cs.length)
    (h : wpList P ops Q rest (a.put op.dst (.agg cs.toArray)) w) : wpList P ops Q (op :: rest) a w :=
  wpList_wt hw (wp_load_mid ty x ho b o hx cs d hc hu hd hi h)
theorem wpList_eqiG {w : World} {ops : Array Oper} {rest : List Oper} {o : Oper} {a : Act} {Q : Exit → Act → World → Prop} (hw : Region.wanted o (yielded ops a.tmps) = true) (T : TypeId) (x y : Operand) (t : TypeId) (ho : o.op = .binOp .neq T x y t)
    (u v : Array Value) (b : Bool) (hG : Tryd.prog.eqGuardType Tryd.prog.depth T = false) (hE : (Op.equalIn 10000 T (.agg u) (.agg v)).run Tryd.prog w = .ok b w) (hx : a.eval x = .agg u) (hy : a.eval y = .agg v)
    (h : wpList Tryd.prog ops Q rest (a.put o.dst (.bool (!b))) w) : wpList Tryd.prog ops Q (o :: rest) a w := by
  refine wpList_wt hw ?_
  unfold Oper.wp
  simp only [execOp, ho, hx, hy, Sem.run_bind, run_eqGuard_agg _ _ _ _ _ _ _ hG, run_neq_struct, hE, Result.andThen_ok, Sem.run_pure, Oper.upon]
  exact h
end Go.Proofs.YtcenchnmibdebaaDoor
