/-
  What slices.Equal answers at items; what manifest.Same answers.
-/
import Derived.Test.YtcenchnmibdebaaDoorTg
namespace Go.Proofs.YtcenchnmibdebaaDoor
open Go.RowKit
set_option maxRecDepth 100000

/-- '==' or '!=' of two items in a region that draws its order. -/
theorem yields_eqi {S : World → Prop} {ops : Array Oper} {o : Oper} {a : Act} (hw : Region.wanted o (yielded ops a.tmps) = true) (op : BinOp) (x y : Operand) (t : TypeId) (ho : o.op = .binOp op 58 x y t)
    (U V : Value) (b : Bool) (hx : a.eval x = U) (hy : a.eval y = V) (hG : ∀ w, (eqGuard op 58 x y U V).run Tryd.prog w = .ok () w) (hE : ∀ w, (binOp op 58 U V).run Tryd.prog w = .ok (.bool b) w) : YieldsIf Tryd.prog ops S o (.bool b) a :=
  .inl ⟨hw, fun w _ => by
    unfold execOp
    simp only [ho, hx, hy, Sem.run_bind, hG, hE, Result.andThen_ok, Sem.run_pure]⟩
theorem neq_run (x y : Pa) (hx : x.ok) (hy : y.ok) (w : World) : (binOp .neq 58 x.val y.val).run Tryd.prog w = .ok (.bool (!sPa x y)) w := by
  have h := eqP x y hx hy w
  unfold Pa.val at h ⊢
  rw [run_neq_struct, h]
  rfl
theorem eqg_run (o : BinOp) (x y : Pa) (a b : Operand) (w : World) : (eqGuard o 58 a b x.val y.val).run Tryd.prog w = .ok () w := run_eqGuard_agg _ _ _ _ _ _ _ guardP
/-- Whether two lists are one. -/
def saP (l m : List Pa) : Bool := decide (l.length = m.length) && (List.range l.length).all fun i => sPa (atP l i) (atP m i)
theorem saP_iff (l m : List Pa) : saP l m = true ↔ l = m := by
  unfold saP
  rw [Bool.and_eq_true, decide_eq_true_eq, List.all_eq_true]
  constructor
  · rintro ⟨h1, h2⟩
    refine List.ext_getElem h1 fun i a b => ?_
    have := (sPa_iff _ _).1 (h2 i (List.mem_range.2 a))
    rwa [atP_eq l i a, atP_eq m i b] at this
  · rintro rfl
    exact ⟨rfl, fun i _ => (sPa_iff _ _).2 rfl⟩
/-- Whether two states are one. -/
def saS (s t : Ste) : Bool := decide (s.n = t.n) && saP s.l t.l
theorem saS_self (s : Ste) : saS s s = true := by unfold saS; rw [(saP_iff _ _).2 rfl]; simp
end Go.Proofs.YtcenchnmibdebaaDoor
