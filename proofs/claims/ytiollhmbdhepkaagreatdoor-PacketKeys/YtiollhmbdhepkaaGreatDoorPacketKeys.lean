/-
  Any secret and nonces make the keys that the document says. No conditions but the given statement's own.
-/
import Derived.Test.YtiollhmbdhepkaaGreatDoorYbx
namespace Go.Proofs.YtiollhmbdhepkaaGreatDoor.packetKeys
open Go.ChangeShapes Go.WideShapes Go.ChangeAt Go.RowKit Go.Deep Go.ChangeMaps
set_option maxRecDepth 100000

theorem wpList_wt {P : Program} {ops : Array Oper} {rest : List Oper} {o : Oper} {a : Act} {w : World} {Q : Exit → Act → World → Prop} (hw : Region.wanted o (yielded ops a.tmps) = true) (h : o.wp P a w (wpList P ops Q rest) Q) : wpList P ops Q (o :: rest) a w := by
  unfold wpList
  rw [if_pos hw]
  exact .inl h
theorem eq_same (M : List Int) (hM : M.length = 32) (w : World) : (Op.equalIn 10000 47 (.agg (Sh.u8s M)) (.agg (Sh.u8s M))).run Tryz.prog w = .ok true w := by
  rw [Sh.eq_u8s M M hM hM w]
  simp
theorem eqb_same (M : List Int) (hM : M.length = 32) (w : World) : (binOp BinOp.eql 47 (.agg (Sh.u8s M)) (.agg (Sh.u8s M))).run Tryz.prog w = .ok (.bool true) w := by
  have h' : (Op.equal 47 (.agg (Sh.u8s M)) (.agg (Sh.u8s M))).run Tryz.prog w = .ok true w := eq_same M hM w
  show (do pure (.bool (← Op.equal 47 (.agg (Sh.u8s M)) (.agg (Sh.u8s M)))) : Sem Value).run Tryz.prog w = _
  rw [Sem.run_bind, h']
  rfl
theorem eg26 : Tryz.prog.eqGuardType Tryz.prog.depth 47 = false := by kernel_rfl
theorem wpList_eqlG {w : World} {ops : Array Oper} {rest : List Oper} {o : Oper} {a : Act} {Q : Exit → Act → World → Prop} (hw : Region.wanted o (yielded ops a.tmps) = true) (x y : Operand) (t : TypeId) (ho : o.op = .binOp .eql 47 x y t)
    (M : List Int) (hM : M.length = 32) (hx : a.eval x = .agg (Sh.u8s M)) (hy : a.eval y = .agg (Sh.u8s M))
    (h : wpList Tryz.prog ops Q rest (a.put o.dst (.bool true)) w) : wpList Tryz.prog ops Q (o :: rest) a w := by
  refine wpList_wt hw ?_
  unfold Oper.wp
  simp only [execOp, ho, hx, hy, Sem.run_bind, run_eqGuard_agg _ _ _ _ _ _ _ eg26, eqb_same M hM, Result.andThen_ok, Sem.run_pure, Oper.upon]
  exact h
theorem wpList_loadG {w : World} {ops : Array Oper} {rest : List Oper} {o : Oper} {a : Act} {Q : Exit → Act → World → Prop} (hw : Region.wanted o (yielded ops a.tmps) = true) (x : Operand) (ho : o.op = .load 47 x) (b : Nat) (hx : a.eval x = .pointer (some ⟨b, 0, none⟩)) (M : List Int) (hM : M.length = 32)
    (hc : w.heap[b]? = some (.cells (Sh.u8s M) 47 (0, 0))) (h : wpList Tryz.prog ops Q rest (a.put o.dst (.agg (Sh.u8s M))) w) : wpList Tryz.prog ops Q (o :: rest) a w :=
  wpList_wt hw (wp_load_mid 47 x ho b 0 hx (M.map (Value.int .u8)) _ (Mc.range_sum hc) Tryz.underlying47 rfl (by rw [List.length_map, hM]; exact Sh.size26) h)
theorem second_new (w : World) : ((w.alloc (.cells #[.int .u8 0, .int .u8 0, .int .u8 0, .int .u8 0, .int .u8 0, .int .u8 0, .int .u8 0, .int .u8 0, .int .u8 0, .int .u8 0, .int .u8 0, .int .u8 0, .int .u8 0, .int .u8 0, .int .u8 0, .int .u8 0, .int .u8 0, .int .u8 0, .int .u8 0, .int .u8 0, .int .u8 0, .int .u8 0, .int .u8 0, .int .u8 0, .int .u8 0, .int .u8 0, .int .u8 0, .int .u8 0, .int .u8 0, .int .u8 0, .int .u8 0, .int .u8 0] 47)).alloc (.cells #[.int .u8 0, .int .u8 0, .int .u8 0, .int .u8 0, .int .u8 0, .int .u8 0, .int .u8 0, .int .u8 0, .int .u8 0, .int .u8 0, .int .u8 0, .int .u8 0, .int .u8 0, .int .u8 0, .int .u8 0, .int .u8 0, .int .u8 0, .int .u8 0, .int .u8 0, .int .u8 0, .int .u8 0, .int .u8 0, .int .u8 0, .int .u8 0, .int .u8 0, .int .u8 0, .int .u8 0, .int .u8 0, .int .u8 0, .int .u8 0, .int .u8 0, .int .u8 0] 47)).heap[w.heap.size + 1]? = some (.cells #[.int .u8 0, .int .u8 0, .int .u8 0, .int .u8 0, .int .u8 0, .int .u8 0, .int .u8 0, .int .u8 0, .int .u8 0, .int .u8 0, .int .u8 0, .int .u8 0, .int .u8 0, .int .u8 0, .int .u8 0, .int .u8 0, .int .u8 0, .int .u8 0, .int .u8 0, .int .u8 0, .int .u8 0, .int .u8 0, .int .u8 0, .int .u8 0, .int .u8 0, .int .u8 0, .int .u8 0, .int .u8 0, .int .u8 0, .int .u8 0, .int .u8 0, .int .u8 0] 47 (0, 0)) := by
  have z1 : (w.alloc (.cells #[.int .u8 0, .int .u8 0, .int .u8 0, .int .u8 0, .int .u8 0, .int .u8 0, .int .u8 0, .int .u8 0, .int .u8 0, .int .u8 0, .int .u8 0, .int .u8 0, .int .u8 0, .int .u8 0, .int .u8 0, .int .u8 0, .int .u8 0, .int .u8 0, .int .u8 0, .int .u8 0, .int .u8 0, .int .u8 0, .int .u8 0, .int .u8 0, .int .u8 0, .int .u8 0, .int .u8 0, .int .u8 0, .int .u8 0, .int .u8 0, .int .u8 0, .int .u8 0] 47)).heap.size = w.heap.size + 1 := by simp
  rw [← z1]
  exact heap_alloc_new _ _
theorem two_new (w : World) (C S : Array Value) : Below w.heap.size w ((((w.alloc (.cells #[.int .u8 0, .int .u8 0, .int .u8 0, .int .u8 0, .int .u8 0, .int .u8 0, .int .u8 0, .int .u8 0, .int .u8 0, .int .u8 0, .int .u8 0, .int .u8 0, .int .u8 0, .int .u8 0, .int .u8 0, .int .u8 0, .int .u8 0, .int .u8 0, .int .u8 0, .int .u8 0, .int .u8 0, .int .u8 0, .int .u8 0, .int .u8 0, .int .u8 0, .int .u8 0, .int .u8 0, .int .u8 0, .int .u8 0, .int .u8 0, .int .u8 0, .int .u8 0] 47)).alloc (.cells #[.int .u8 0, .int .u8 0, .int .u8 0, .int .u8 0, .int .u8 0, .int .u8 0, .int .u8 0, .int .u8 0, .int .u8 0, .int .u8 0, .int .u8 0, .int .u8 0, .int .u8 0, .int .u8 0, .int .u8 0, .int .u8 0, .int .u8 0, .int .u8 0, .int .u8 0, .int .u8 0, .int .u8 0, .int .u8 0, .int .u8 0, .int .u8 0, .int .u8 0, .int .u8 0, .int .u8 0, .int .u8 0, .int .u8 0, .int .u8 0, .int .u8 0, .int .u8 0] 47)).setRow w.heap.size C).setRow (w.heap.size + 1) S) ∧ ((((w.alloc (.cells #[.int .u8 0, .int .u8 0, .int .u8 0, .int .u8 0, .int .u8 0, .int .u8 0, .int .u8 0, .int .u8 0, .int .u8 0, .int .u8 0, .int .u8 0, .int .u8 0, .int .u8 0, .int .u8 0, .int .u8 0, .int .u8 0, .int .u8 0, .int .u8 0, .int .u8 0, .int .u8 0, .int .u8 0, .int .u8 0, .int .u8 0, .int .u8 0, .int .u8 0, .int .u8 0, .int .u8 0, .int .u8 0, .int .u8 0, .int .u8 0, .int .u8 0, .int .u8 0] 47)).alloc (.cells #[.int .u8 0, .int .u8 0, .int .u8 0, .int .u8 0, .int .u8 0, .int .u8 0, .int .u8 0, .int .u8 0, .int .u8 0, .int .u8 0, .int .u8 0, .int .u8 0, .int .u8 0, .int .u8 0, .int .u8 0, .int .u8 0, .int .u8 0, .int .u8 0, .int .u8 0, .int .u8 0, .int .u8 0, .int .u8 0, .int .u8 0, .int .u8 0, .int .u8 0, .int .u8 0, .int .u8 0, .int .u8 0, .int .u8 0, .int .u8 0, .int .u8 0, .int .u8 0] 47)).setRow w.heap.size C).setRow (w.heap.size + 1) S).heap[w.heap.size]? = some (.cells C 47 (0, 0)) ∧ ((((w.alloc (.cells #[.int .u8 0, .int .u8 0, .int .u8 0, .int .u8 0, .int .u8 0, .int .u8 0, .int .u8 0, .int .u8 0, .int .u8 0, .int .u8 0, .int .u8 0, .int .u8 0, .int .u8 0, .int .u8 0, .int .u8 0, .int .u8 0, .int .u8 0, .int .u8 0, .int .u8 0, .int .u8 0, .int .u8 0, .int .u8 0, .int .u8 0, .int .u8 0, .int .u8 0, .int .u8 0, .int .u8 0, .int .u8 0, .int .u8 0, .int .u8 0, .int .u8 0, .int .u8 0] 47)).alloc (.cells #[.int .u8 0, .int .u8 0, .int .u8 0, .int .u8 0, .int .u8 0, .int .u8 0, .int .u8 0, .int .u8 0, .int .u8 0, .int .u8 0, .int .u8 0, .int .u8 0, .int .u8 0, .int .u8 0, .int .u8 0, .int .u8 0, .int .u8 0, .int .u8 0, .int .u8 0, .int .u8 0, .int .u8 0, .int .u8 0, .int .u8 0, .int .u8 0, .int .u8 0, .int .u8 0, .int .u8 0, .int .u8 0, .int .u8 0, .int .u8 0, .int .u8 0, .int .u8 0] 47)).setRow w.heap.size C).setRow (w.heap.size + 1) S).heap[w.heap.size + 1]? = some (.cells S 47 (0, 0)) := by
  have b1 := al_below w (.cells #[.int .u8 0, .int .u8 0, .int .u8 0, .int .u8 0, .int .u8 0, .int .u8 0, .int .u8 0, .int .u8 0, .int .u8 0, .int .u8 0, .int .u8 0, .int .u8 0, .int .u8 0, .int .u8 0, .int .u8 0, .int .u8 0, .int .u8 0, .int .u8 0, .int .u8 0, .int .u8 0, .int .u8 0, .int .u8 0, .int .u8 0, .int .u8 0, .int .u8 0, .int .u8 0, .int .u8 0, .int .u8 0, .int .u8 0, .int .u8 0, .int .u8 0, .int .u8 0] 47)
  have z1 : (w.alloc (.cells #[.int .u8 0, .int .u8 0, .int .u8 0, .int .u8 0, .int .u8 0, .int .u8 0, .int .u8 0, .int .u8 0, .int .u8 0, .int .u8 0, .int .u8 0, .int .u8 0, .int .u8 0, .int .u8 0, .int .u8 0, .int .u8 0, .int .u8 0, .int .u8 0, .int .u8 0, .int .u8 0, .int .u8 0, .int .u8 0, .int .u8 0, .int .u8 0, .int .u8 0, .int .u8 0, .int .u8 0, .int .u8 0, .int .u8 0, .int .u8 0, .int .u8 0, .int .u8 0] 47)).heap.size = w.heap.size + 1 := by simp
  have b2 := al_below (w.alloc (.cells #[.int .u8 0, .int .u8 0, .int .u8 0, .int .u8 0, .int .u8 0, .int .u8 0, .int .u8 0, .int .u8 0, .int .u8 0, .int .u8 0, .int .u8 0, .int .u8 0, .int .u8 0, .int .u8 0, .int .u8 0, .int .u8 0, .int .u8 0, .int .u8 0, .int .u8 0, .int .u8 0, .int .u8 0, .int .u8 0, .int .u8 0, .int .u8 0, .int .u8 0, .int .u8 0, .int .u8 0, .int .u8 0, .int .u8 0, .int .u8 0, .int .u8 0, .int .u8 0] 47)) (.cells #[.int .u8 0, .int .u8 0, .int .u8 0, .int .u8 0, .int .u8 0, .int .u8 0, .int .u8 0, .int .u8 0, .int .u8 0, .int .u8 0, .int .u8 0, .int .u8 0, .int .u8 0, .int .u8 0, .int .u8 0, .int .u8 0, .int .u8 0, .int .u8 0, .int .u8 0, .int .u8 0, .int .u8 0, .int .u8 0, .int .u8 0, .int .u8 0, .int .u8 0, .int .u8 0, .int .u8 0, .int .u8 0, .int .u8 0, .int .u8 0, .int .u8 0, .int .u8 0] 47)
  have b3 : Below w.heap.size w ((w.alloc (.cells #[.int .u8 0, .int .u8 0, .int .u8 0, .int .u8 0, .int .u8 0, .int .u8 0, .int .u8 0, .int .u8 0, .int .u8 0, .int .u8 0, .int .u8 0, .int .u8 0, .int .u8 0, .int .u8 0, .int .u8 0, .int .u8 0, .int .u8 0, .int .u8 0, .int .u8 0, .int .u8 0, .int .u8 0, .int .u8 0, .int .u8 0, .int .u8 0, .int .u8 0, .int .u8 0, .int .u8 0, .int .u8 0, .int .u8 0, .int .u8 0, .int .u8 0, .int .u8 0] 47)).alloc (.cells #[.int .u8 0, .int .u8 0, .int .u8 0, .int .u8 0, .int .u8 0, .int .u8 0, .int .u8 0, .int .u8 0, .int .u8 0, .int .u8 0, .int .u8 0, .int .u8 0, .int .u8 0, .int .u8 0, .int .u8 0, .int .u8 0, .int .u8 0, .int .u8 0, .int .u8 0, .int .u8 0, .int .u8 0, .int .u8 0, .int .u8 0, .int .u8 0, .int .u8 0, .int .u8 0, .int .u8 0, .int .u8 0, .int .u8 0, .int .u8 0, .int .u8 0, .int .u8 0] 47)) := b1.trans (b2.mono b1.size)
  have g0 : ((w.alloc (.cells #[.int .u8 0, .int .u8 0, .int .u8 0, .int .u8 0, .int .u8 0, .int .u8 0, .int .u8 0, .int .u8 0, .int .u8 0, .int .u8 0, .int .u8 0, .int .u8 0, .int .u8 0, .int .u8 0, .int .u8 0, .int .u8 0, .int .u8 0, .int .u8 0, .int .u8 0, .int .u8 0, .int .u8 0, .int .u8 0, .int .u8 0, .int .u8 0, .int .u8 0, .int .u8 0, .int .u8 0, .int .u8 0, .int .u8 0, .int .u8 0, .int .u8 0, .int .u8 0] 47)).alloc (.cells #[.int .u8 0, .int .u8 0, .int .u8 0, .int .u8 0, .int .u8 0, .int .u8 0, .int .u8 0, .int .u8 0, .int .u8 0, .int .u8 0, .int .u8 0, .int .u8 0, .int .u8 0, .int .u8 0, .int .u8 0, .int .u8 0, .int .u8 0, .int .u8 0, .int .u8 0, .int .u8 0, .int .u8 0, .int .u8 0, .int .u8 0, .int .u8 0, .int .u8 0, .int .u8 0, .int .u8 0, .int .u8 0, .int .u8 0, .int .u8 0, .int .u8 0, .int .u8 0] 47)).heap[w.heap.size]? = some (.cells #[.int .u8 0, .int .u8 0, .int .u8 0, .int .u8 0, .int .u8 0, .int .u8 0, .int .u8 0, .int .u8 0, .int .u8 0, .int .u8 0, .int .u8 0, .int .u8 0, .int .u8 0, .int .u8 0, .int .u8 0, .int .u8 0, .int .u8 0, .int .u8 0, .int .u8 0, .int .u8 0, .int .u8 0, .int .u8 0, .int .u8 0, .int .u8 0, .int .u8 0, .int .u8 0, .int .u8 0, .int .u8 0, .int .u8 0, .int .u8 0, .int .u8 0, .int .u8 0] 47 (0, 0)) := blk_kept (heap_alloc_new _ _) b2 (by rw [z1]; omega)
  have g1 : ((w.alloc (.cells #[.int .u8 0, .int .u8 0, .int .u8 0, .int .u8 0, .int .u8 0, .int .u8 0, .int .u8 0, .int .u8 0, .int .u8 0, .int .u8 0, .int .u8 0, .int .u8 0, .int .u8 0, .int .u8 0, .int .u8 0, .int .u8 0, .int .u8 0, .int .u8 0, .int .u8 0, .int .u8 0, .int .u8 0, .int .u8 0, .int .u8 0, .int .u8 0, .int .u8 0, .int .u8 0, .int .u8 0, .int .u8 0, .int .u8 0, .int .u8 0, .int .u8 0, .int .u8 0] 47)).alloc (.cells #[.int .u8 0, .int .u8 0, .int .u8 0, .int .u8 0, .int .u8 0, .int .u8 0, .int .u8 0, .int .u8 0, .int .u8 0, .int .u8 0, .int .u8 0, .int .u8 0, .int .u8 0, .int .u8 0, .int .u8 0, .int .u8 0, .int .u8 0, .int .u8 0, .int .u8 0, .int .u8 0, .int .u8 0, .int .u8 0, .int .u8 0, .int .u8 0, .int .u8 0, .int .u8 0, .int .u8 0, .int .u8 0, .int .u8 0, .int .u8 0, .int .u8 0, .int .u8 0] 47)).heap[w.heap.size + 1]? = some (.cells #[.int .u8 0, .int .u8 0, .int .u8 0, .int .u8 0, .int .u8 0, .int .u8 0, .int .u8 0, .int .u8 0, .int .u8 0, .int .u8 0, .int .u8 0, .int .u8 0, .int .u8 0, .int .u8 0, .int .u8 0, .int .u8 0, .int .u8 0, .int .u8 0, .int .u8 0, .int .u8 0, .int .u8 0, .int .u8 0, .int .u8 0, .int .u8 0, .int .u8 0, .int .u8 0, .int .u8 0, .int .u8 0, .int .u8 0, .int .u8 0, .int .u8 0, .int .u8 0] 47 (0, 0)) := by rw [← z1]; exact heap_alloc_new _ _
  have g2 := setRow_heap _ _ _ C _ _ g0
  have g3 : (((w.alloc (.cells #[.int .u8 0, .int .u8 0, .int .u8 0, .int .u8 0, .int .u8 0, .int .u8 0, .int .u8 0, .int .u8 0, .int .u8 0, .int .u8 0, .int .u8 0, .int .u8 0, .int .u8 0, .int .u8 0, .int .u8 0, .int .u8 0, .int .u8 0, .int .u8 0, .int .u8 0, .int .u8 0, .int .u8 0, .int .u8 0, .int .u8 0, .int .u8 0, .int .u8 0, .int .u8 0, .int .u8 0, .int .u8 0, .int .u8 0, .int .u8 0, .int .u8 0, .int .u8 0] 47)).alloc (.cells #[.int .u8 0, .int .u8 0, .int .u8 0, .int .u8 0, .int .u8 0, .int .u8 0, .int .u8 0, .int .u8 0, .int .u8 0, .int .u8 0, .int .u8 0, .int .u8 0, .int .u8 0, .int .u8 0, .int .u8 0, .int .u8 0, .int .u8 0, .int .u8 0, .int .u8 0, .int .u8 0, .int .u8 0, .int .u8 0, .int .u8 0, .int .u8 0, .int .u8 0, .int .u8 0, .int .u8 0, .int .u8 0, .int .u8 0, .int .u8 0, .int .u8 0, .int .u8 0] 47)).setRow w.heap.size C).heap[w.heap.size + 1]? = some (.cells #[.int .u8 0, .int .u8 0, .int .u8 0, .int .u8 0, .int .u8 0, .int .u8 0, .int .u8 0, .int .u8 0, .int .u8 0, .int .u8 0, .int .u8 0, .int .u8 0, .int .u8 0, .int .u8 0, .int .u8 0, .int .u8 0, .int .u8 0, .int .u8 0, .int .u8 0, .int .u8 0, .int .u8 0, .int .u8 0, .int .u8 0, .int .u8 0, .int .u8 0, .int .u8 0, .int .u8 0, .int .u8 0, .int .u8 0, .int .u8 0, .int .u8 0, .int .u8 0] 47 (0, 0)) := (setRow_other _ _ _ _ (by omega)).trans g1
  exact ⟨below_setRow (below_setRow b3 (Nat.le_refl _) _) (Nat.le_succ _) _, (setRow_other _ _ _ _ (by omega)).trans g2, setRow_heap _ _ _ S _ _ g3⟩
set_option maxHeartbeats 16000000 in
theorem walk (v0 : Value) (K : List Int) (v1 : Value) (A : List Int) (v2 : Value) (B : List Int) (w : World) (ht : Tb w ∧ Mc.Tabs w) (h0 : Sl w v0 K) (h1 : NnI v1 A) (h2 : NnI v2 B) :
    Calls Tryz.prog 5 #[v0, v1, v2] w fun e w' => e = .returned (.bool true) ∧ Below w.heap.size w w' := by
  obtain ⟨rfl, hA, hAb⟩ := h1
  obtain ⟨rfl, hB, hBb⟩ := h2
  obtain ⟨W1, hW1⟩ : ∃ W1, W1 = w.alloc (.cells (Sh.u8s A) 22) := ⟨_, rfl⟩
  obtain ⟨w2, hW2⟩ : ∃ w2, w2 = W1.alloc (.cells (Sh.u8s B) 22) := ⟨_, rfl⟩
  have b1 : Below w.heap.size w W1 := by rw [hW1]; exact al_below _ _
  have z1 : W1.heap.size = w.heap.size + 1 := by rw [hW1]; simp
  have b12 : Below W1.heap.size W1 w2 := by rw [hW2]; exact al_below _ _
  have HB2 : Hid (Below w.heap.size w w2) := b1.trans (b12.mono b1.size)
  have hg1 : W1.heap[w.heap.size]? = some (.cells (Sh.u8s A) 22 (0, 0)) := by rw [hW1]; exact heap_alloc_new _ _
  have HA2 : Hid (w2.heap[w.heap.size]? = some (.cells (Sh.u8s A) 22 (0, 0))) := blk_kept hg1 b12 (blk_lt hg1)
  have HBB2 : Hid (w2.heap[w.heap.size + 1]? = some (.cells (Sh.u8s B) 22 (0, 0))) := by unfold Hid; rw [hW2, ← z1]; exact heap_alloc_new _ _
  have HT : Hid (Tb w ∧ Mc.Tabs w) := ht
  have HS : Hid (Sl w v0 K) := h0
  have HIA : Hid ((Tryz.prog.info? 22).map (·.size) = some (Sh.u8s A).size) := by unfold Hid; rw [Sh.u8s_size, hA]; exact infoNc
  have HIB : Hid ((Tryz.prog.info? 22).map (·.size) = some (Sh.u8s B).size) := by unfold Hid; rw [Sh.u8s_size, hB]; exact infoNc
  have hWW : w2 = (w.alloc (.cells (Sh.u8s A) 22)).alloc (.cells (Sh.u8s B) 22) := by rw [hW2, hW1]
  have HAW : Hid (∀ x, Below w.heap.size w x → Calls Tryz.prog 18 #[] x fun e w' => e = .returned (.bool true) ∧ Below x.heap.size x w') := fun x hx => pawake_any x (ht.1.next hx) (ht.2.kept hx)
  obtain ⟨a, c, rfl, -⟩ := id h0
  by_cases hl : 200 < K.length
  · have t0 : (200 : Int) < (K.length : Int) := by omega
    have ca := HAW.out w2 HB2.out
    clear hl hW1 hW2 b1 z1 b12 hg1 ht h0 hA hAb hB hBb
    generalize K.length = kl at *
    generalize Sh.u8s A = UA at *
    generalize Sh.u8s B = UB at *
    go_enter Tryz.func5, Tryz.ntmps5
    go_upto_region 1 with fail
    rw [← hWW]
    clear hWW
    go_wp2_with fail
    refine ca.mono ?_
    rintro e w3 ⟨rfl, b3⟩
    have HB3 : Hid (Below w.heap.size w w3) := HB2.out.trans (b3.mono HB2.out.size)
    clear ca b3
    go_wp2
    go_ret
    exact ⟨rfl, HB3.out⟩
  have t0 : ¬ (200 : Int) < (K.length : Int) := by omega
  have hk : K.length ≤ 99000 := by omega
  have ck := pkeys_any _ K A B w2 (ht.2.kept HB2.out) (h0.kept HB2.out) hk hA hB hAb hBb
  have HRK : Hid (∀ x, Below w.heap.size w x → Calls Tryz.prog 24 #[.slice a K.length c, .agg (Sh.u8s A), .agg (Sh.u8s B)] x fun e w' => e = .returned (.tuple #[.agg (Sh.u8s (Mc.hmac K (Mc.labL ⟨#[99, 108, 105, 101, 110, 116]⟩ [A, B]))), .agg (Sh.u8s (Mc.hmac K (Mc.labL ⟨#[115, 101, 114, 118, 101, 114]⟩ [A, B])))]) ∧ Below x.heap.size x w') := fun x hx => rkeys_any _ K A B x (h0.kept hx) hk hA hB hAb hBb
  have HPF : Hid (∀ x, Below w.heap.size w x → Calls Tryz.prog 25 #[.slice a K.length c] x fun e w' => e = .returned (.agg (Sh.u8s (Mc.hmac K (Mc.labL ⟨#[102, 105, 114, 115, 116]⟩ [])))) ∧ Below x.heap.size x w') := fun x hx => pfirst_any _ K x (ht.2.kept hx) (h0.kept hx) hk
  have HRF : Hid (∀ x, Below w.heap.size w x → Calls Tryz.prog 26 #[.slice a K.length c] x fun e w' => e = .returned (.agg (Sh.u8s (Mc.hmac K (Mc.labL ⟨#[102, 105, 114, 115, 116]⟩ [])))) ∧ Below x.heap.size x w') := fun x hx => rfirst_any _ K x (h0.kept hx) hk
  obtain ⟨CK, hCK⟩ : ∃ M, M = Mc.hmac K (Mc.labL ⟨#[99, 108, 105, 101, 110, 116]⟩ [A, B]) := ⟨_, rfl⟩
  obtain ⟨SK, hSK⟩ : ∃ M, M = Mc.hmac K (Mc.labL ⟨#[115, 101, 114, 118, 101, 114]⟩ [A, B]) := ⟨_, rfl⟩
  obtain ⟨FK, hFK⟩ : ∃ M, M = Mc.hmac K (Mc.labL ⟨#[102, 105, 114, 115, 116]⟩ []) := ⟨_, rfl⟩
  have HLC : Hid (CK.length = 32) := by unfold Hid; rw [hCK]; exact Mc.hmac_len _ _
  have HLS : Hid (SK.length = 32) := by unfold Hid; rw [hSK]; exact Mc.hmac_len _ _
  have HLF : Hid (FK.length = 32) := by unfold Hid; rw [hFK]; exact Mc.hmac_len _ _
  have HZC : Hid ((Tryz.prog.info? 47).map (·.size) = some (Sh.u8s CK).size) := by unfold Hid; rw [Sh.u8s_size, HLC.out]; exact Sh.size26
  have HZS : Hid ((Tryz.prog.info? 47).map (·.size) = some (Sh.u8s SK).size) := by unfold Hid; rw [Sh.u8s_size, HLS.out]; exact Sh.size26
  have HOC : Hid ((#[.int .u8 0, .int .u8 0, .int .u8 0, .int .u8 0, .int .u8 0, .int .u8 0, .int .u8 0, .int .u8 0, .int .u8 0, .int .u8 0, .int .u8 0, .int .u8 0, .int .u8 0, .int .u8 0, .int .u8 0, .int .u8 0, .int .u8 0, .int .u8 0, .int .u8 0, .int .u8 0, .int .u8 0, .int .u8 0, .int .u8 0, .int .u8 0, .int .u8 0, .int .u8 0, .int .u8 0, .int .u8 0, .int .u8 0, .int .u8 0, .int .u8 0, .int .u8 0] : Array Value).size = (Sh.u8s CK).size) := by unfold Hid; rw [Sh.u8s_size, HLC.out]; rfl
  have HOS : Hid ((#[.int .u8 0, .int .u8 0, .int .u8 0, .int .u8 0, .int .u8 0, .int .u8 0, .int .u8 0, .int .u8 0, .int .u8 0, .int .u8 0, .int .u8 0, .int .u8 0, .int .u8 0, .int .u8 0, .int .u8 0, .int .u8 0, .int .u8 0, .int .u8 0, .int .u8 0, .int .u8 0, .int .u8 0, .int .u8 0, .int .u8 0, .int .u8 0, .int .u8 0, .int .u8 0, .int .u8 0, .int .u8 0, .int .u8 0, .int .u8 0, .int .u8 0, .int .u8 0] : Array Value).size = (Sh.u8s SK).size) := by unfold Hid; rw [Sh.u8s_size, HLS.out]; rfl
  rw [← hCK, ← hSK] at ck HRK
  rw [← hFK] at HPF HRF
  clear hl hW1 hW2 b1 z1 b12 hg1 ht h0 hA hAb hB hBb hk hCK hSK hFK HS
  generalize K.length = kl at *
  generalize Sh.u8s A = UA at *
  generalize Sh.u8s B = UB at *
  go_enter Tryz.func5, Tryz.ntmps5
  go_upto_region 1 with fail
  rw [← hWW]
  clear hWW
  go_upto_region 3 with fail
  clear t0
  go_wp2_with (first | refine wpList_load_row rfl 22 _ rfl w.heap.size rfl 22 UA (0, 0) _ HA2.out Tryz.underlying22 rfl HIA.out (Hid.out ?_) | refine wpList_load_row rfl 22 _ rfl (w.heap.size + 1) rfl 22 UB (0, 0) _ HBB2.out Tryz.underlying22 rfl HIB.out (Hid.out ?_))
  try unfold Hid
  go_wp2_with (first | refine wpList_load_row rfl 22 _ rfl w.heap.size rfl 22 UA (0, 0) _ HA2.out Tryz.underlying22 rfl HIA.out (Hid.out ?_) | refine wpList_load_row rfl 22 _ rfl (w.heap.size + 1) rfl 22 UB (0, 0) _ HBB2.out Tryz.underlying22 rfl HIB.out (Hid.out ?_))
  try unfold Hid
  try go_wp2_with fail
  refine ck.mono ?_
  rintro e w3 ⟨rfl, b3⟩
  have HB3 : Hid (Below w.heap.size w w3) := HB2.out.trans (b3.mono HB2.out.size)
  have HA3 : Hid (w3.heap[w.heap.size]? = some (.cells UA 22 (0, 0))) := blk_kept HA2.out b3 (blk_lt HA2.out)
  have HBB3 : Hid (w3.heap[w.heap.size + 1]? = some (.cells UB 22 (0, 0))) := blk_kept HBB2.out b3 (blk_lt HBB2.out)
  obtain ⟨n1, n2, n3⟩ := two_new w3 (Sh.u8s CK) (Sh.u8s SK)
  clear ck b3 HB2 HA2 HBB2
  have G1a : Hid (((w3.alloc (.cells #[.int .u8 0, .int .u8 0, .int .u8 0, .int .u8 0, .int .u8 0, .int .u8 0, .int .u8 0, .int .u8 0, .int .u8 0, .int .u8 0, .int .u8 0, .int .u8 0, .int .u8 0, .int .u8 0, .int .u8 0, .int .u8 0, .int .u8 0, .int .u8 0, .int .u8 0, .int .u8 0, .int .u8 0, .int .u8 0, .int .u8 0, .int .u8 0, .int .u8 0, .int .u8 0, .int .u8 0, .int .u8 0, .int .u8 0, .int .u8 0, .int .u8 0, .int .u8 0] 47)).alloc (.cells #[.int .u8 0, .int .u8 0, .int .u8 0, .int .u8 0, .int .u8 0, .int .u8 0, .int .u8 0, .int .u8 0, .int .u8 0, .int .u8 0, .int .u8 0, .int .u8 0, .int .u8 0, .int .u8 0, .int .u8 0, .int .u8 0, .int .u8 0, .int .u8 0, .int .u8 0, .int .u8 0, .int .u8 0, .int .u8 0, .int .u8 0, .int .u8 0, .int .u8 0, .int .u8 0, .int .u8 0, .int .u8 0, .int .u8 0, .int .u8 0, .int .u8 0, .int .u8 0] 47)).heap[w3.heap.size]? = some (.cells #[.int .u8 0, .int .u8 0, .int .u8 0, .int .u8 0, .int .u8 0, .int .u8 0, .int .u8 0, .int .u8 0, .int .u8 0, .int .u8 0, .int .u8 0, .int .u8 0, .int .u8 0, .int .u8 0, .int .u8 0, .int .u8 0, .int .u8 0, .int .u8 0, .int .u8 0, .int .u8 0, .int .u8 0, .int .u8 0, .int .u8 0, .int .u8 0, .int .u8 0, .int .u8 0, .int .u8 0, .int .u8 0, .int .u8 0, .int .u8 0, .int .u8 0, .int .u8 0] 47 (0, 0))) := blk_kept (heap_alloc_new _ _) (al_below _ _) (by simp)
  have G2a : Hid ((((w3.alloc (.cells #[.int .u8 0, .int .u8 0, .int .u8 0, .int .u8 0, .int .u8 0, .int .u8 0, .int .u8 0, .int .u8 0, .int .u8 0, .int .u8 0, .int .u8 0, .int .u8 0, .int .u8 0, .int .u8 0, .int .u8 0, .int .u8 0, .int .u8 0, .int .u8 0, .int .u8 0, .int .u8 0, .int .u8 0, .int .u8 0, .int .u8 0, .int .u8 0, .int .u8 0, .int .u8 0, .int .u8 0, .int .u8 0, .int .u8 0, .int .u8 0, .int .u8 0, .int .u8 0] 47)).alloc (.cells #[.int .u8 0, .int .u8 0, .int .u8 0, .int .u8 0, .int .u8 0, .int .u8 0, .int .u8 0, .int .u8 0, .int .u8 0, .int .u8 0, .int .u8 0, .int .u8 0, .int .u8 0, .int .u8 0, .int .u8 0, .int .u8 0, .int .u8 0, .int .u8 0, .int .u8 0, .int .u8 0, .int .u8 0, .int .u8 0, .int .u8 0, .int .u8 0, .int .u8 0, .int .u8 0, .int .u8 0, .int .u8 0, .int .u8 0, .int .u8 0, .int .u8 0, .int .u8 0] 47)).setRow w3.heap.size (Sh.u8s CK)).heap[w3.heap.size + 1]? = some (.cells #[.int .u8 0, .int .u8 0, .int .u8 0, .int .u8 0, .int .u8 0, .int .u8 0, .int .u8 0, .int .u8 0, .int .u8 0, .int .u8 0, .int .u8 0, .int .u8 0, .int .u8 0, .int .u8 0, .int .u8 0, .int .u8 0, .int .u8 0, .int .u8 0, .int .u8 0, .int .u8 0, .int .u8 0, .int .u8 0, .int .u8 0, .int .u8 0, .int .u8 0, .int .u8 0, .int .u8 0, .int .u8 0, .int .u8 0, .int .u8 0, .int .u8 0, .int .u8 0] 47 (0, 0))) := (setRow_other _ _ _ _ (by omega)).trans (second_new w3)
  obtain ⟨w4, hw4⟩ : ∃ x, x = (((w3.alloc (.cells #[.int .u8 0, .int .u8 0, .int .u8 0, .int .u8 0, .int .u8 0, .int .u8 0, .int .u8 0, .int .u8 0, .int .u8 0, .int .u8 0, .int .u8 0, .int .u8 0, .int .u8 0, .int .u8 0, .int .u8 0, .int .u8 0, .int .u8 0, .int .u8 0, .int .u8 0, .int .u8 0, .int .u8 0, .int .u8 0, .int .u8 0, .int .u8 0, .int .u8 0, .int .u8 0, .int .u8 0, .int .u8 0, .int .u8 0, .int .u8 0, .int .u8 0, .int .u8 0] 47)).alloc (.cells #[.int .u8 0, .int .u8 0, .int .u8 0, .int .u8 0, .int .u8 0, .int .u8 0, .int .u8 0, .int .u8 0, .int .u8 0, .int .u8 0, .int .u8 0, .int .u8 0, .int .u8 0, .int .u8 0, .int .u8 0, .int .u8 0, .int .u8 0, .int .u8 0, .int .u8 0, .int .u8 0, .int .u8 0, .int .u8 0, .int .u8 0, .int .u8 0, .int .u8 0, .int .u8 0, .int .u8 0, .int .u8 0, .int .u8 0, .int .u8 0, .int .u8 0, .int .u8 0] 47)).setRow w3.heap.size (Sh.u8s CK)).setRow (w3.heap.size + 1) (Sh.u8s SK) := ⟨_, rfl⟩
  rw [← hw4] at n1 n2 n3
  have HB4 : Hid (Below w.heap.size w w4) := HB3.out.trans (n1.mono HB3.out.size)
  have HA4 : Hid (w4.heap[w.heap.size]? = some (.cells UA 22 (0, 0))) := blk_kept HA3.out n1 (blk_lt HA3.out)
  have HBB4 : Hid (w4.heap[w.heap.size + 1]? = some (.cells UB 22 (0, 0))) := blk_kept HBB3.out n1 (blk_lt HBB3.out)
  have HC4 : Hid (w4.heap[w3.heap.size]? = some (.cells (Sh.u8s CK) 47 (0, 0))) := n2
  have HD4 : Hid (w4.heap[w3.heap.size + 1]? = some (.cells (Sh.u8s SK) 47 (0, 0))) := n3
  have cr := HRK.out w4 HB4.out
  have hw4' := hw4.symm
  clear n1 n2 n3 HB3 HA3 HBB3 hw4
  go_upto_region 4 with (first | refine wpList_store_row rfl 47 _ _ rfl w3.heap.size (Sh.u8s CK) rfl rfl 47 _ G1a.out HZC.out HOC.out (Sh.u8s_one _) (Hid.out ?_) | refine wpList_store_row rfl 47 _ _ rfl (w3.heap.size + 1) (Sh.u8s SK) rfl rfl 47 _ G2a.out HZS.out HOS.out (Sh.u8s_one _) (Hid.out ?_))
  try unfold Hid
  try go_upto_region 4 with (first | refine wpList_store_row rfl 47 _ _ rfl w3.heap.size (Sh.u8s CK) rfl rfl 47 _ G1a.out HZC.out HOC.out (Sh.u8s_one _) (Hid.out ?_) | refine wpList_store_row rfl 47 _ _ rfl (w3.heap.size + 1) (Sh.u8s SK) rfl rfl 47 _ G2a.out HZS.out HOS.out (Sh.u8s_one _) (Hid.out ?_))
  try unfold Hid
  try rw [hw4']
  clear hw4' G1a G2a
  go_wp2_with (first | refine wpList_load_row rfl 22 _ rfl w.heap.size rfl 22 UA (0, 0) _ HA4.out Tryz.underlying22 rfl HIA.out (Hid.out ?_) | refine wpList_load_row rfl 22 _ rfl (w.heap.size + 1) rfl 22 UB (0, 0) _ HBB4.out Tryz.underlying22 rfl HIB.out (Hid.out ?_))
  try unfold Hid
  go_wp2_with (first | refine wpList_load_row rfl 22 _ rfl w.heap.size rfl 22 UA (0, 0) _ HA4.out Tryz.underlying22 rfl HIA.out (Hid.out ?_) | refine wpList_load_row rfl 22 _ rfl (w.heap.size + 1) rfl 22 UB (0, 0) _ HBB4.out Tryz.underlying22 rfl HIB.out (Hid.out ?_))
  try unfold Hid
  try go_wp2_with fail
  refine cr.mono ?_
  rintro e w5 ⟨rfl, b5⟩
  have HB5 : Hid (Below w.heap.size w w5) := HB4.out.trans (b5.mono HB4.out.size)
  have HC5 : Hid (w5.heap[w3.heap.size]? = some (.cells (Sh.u8s CK) 47 (0, 0))) := blk_kept HC4.out b5 (blk_lt HC4.out)
  have HD5 : Hid (w5.heap[w3.heap.size + 1]? = some (.cells (Sh.u8s SK) 47 (0, 0))) := blk_kept HD4.out b5 (blk_lt HD4.out)
  obtain ⟨n1, n2, n3⟩ := two_new w5 (Sh.u8s CK) (Sh.u8s SK)
  clear cr b5 HB4 HA4 HBB4 HC4 HD4
  have G1b : Hid (((w5.alloc (.cells #[.int .u8 0, .int .u8 0, .int .u8 0, .int .u8 0, .int .u8 0, .int .u8 0, .int .u8 0, .int .u8 0, .int .u8 0, .int .u8 0, .int .u8 0, .int .u8 0, .int .u8 0, .int .u8 0, .int .u8 0, .int .u8 0, .int .u8 0, .int .u8 0, .int .u8 0, .int .u8 0, .int .u8 0, .int .u8 0, .int .u8 0, .int .u8 0, .int .u8 0, .int .u8 0, .int .u8 0, .int .u8 0, .int .u8 0, .int .u8 0, .int .u8 0, .int .u8 0] 47)).alloc (.cells #[.int .u8 0, .int .u8 0, .int .u8 0, .int .u8 0, .int .u8 0, .int .u8 0, .int .u8 0, .int .u8 0, .int .u8 0, .int .u8 0, .int .u8 0, .int .u8 0, .int .u8 0, .int .u8 0, .int .u8 0, .int .u8 0, .int .u8 0, .int .u8 0, .int .u8 0, .int .u8 0, .int .u8 0, .int .u8 0, .int .u8 0, .int .u8 0, .int .u8 0, .int .u8 0, .int .u8 0, .int .u8 0, .int .u8 0, .int .u8 0, .int .u8 0, .int .u8 0] 47)).heap[w5.heap.size]? = some (.cells #[.int .u8 0, .int .u8 0, .int .u8 0, .int .u8 0, .int .u8 0, .int .u8 0, .int .u8 0, .int .u8 0, .int .u8 0, .int .u8 0, .int .u8 0, .int .u8 0, .int .u8 0, .int .u8 0, .int .u8 0, .int .u8 0, .int .u8 0, .int .u8 0, .int .u8 0, .int .u8 0, .int .u8 0, .int .u8 0, .int .u8 0, .int .u8 0, .int .u8 0, .int .u8 0, .int .u8 0, .int .u8 0, .int .u8 0, .int .u8 0, .int .u8 0, .int .u8 0] 47 (0, 0))) := blk_kept (heap_alloc_new _ _) (al_below _ _) (by simp)
  have G2b : Hid ((((w5.alloc (.cells #[.int .u8 0, .int .u8 0, .int .u8 0, .int .u8 0, .int .u8 0, .int .u8 0, .int .u8 0, .int .u8 0, .int .u8 0, .int .u8 0, .int .u8 0, .int .u8 0, .int .u8 0, .int .u8 0, .int .u8 0, .int .u8 0, .int .u8 0, .int .u8 0, .int .u8 0, .int .u8 0, .int .u8 0, .int .u8 0, .int .u8 0, .int .u8 0, .int .u8 0, .int .u8 0, .int .u8 0, .int .u8 0, .int .u8 0, .int .u8 0, .int .u8 0, .int .u8 0] 47)).alloc (.cells #[.int .u8 0, .int .u8 0, .int .u8 0, .int .u8 0, .int .u8 0, .int .u8 0, .int .u8 0, .int .u8 0, .int .u8 0, .int .u8 0, .int .u8 0, .int .u8 0, .int .u8 0, .int .u8 0, .int .u8 0, .int .u8 0, .int .u8 0, .int .u8 0, .int .u8 0, .int .u8 0, .int .u8 0, .int .u8 0, .int .u8 0, .int .u8 0, .int .u8 0, .int .u8 0, .int .u8 0, .int .u8 0, .int .u8 0, .int .u8 0, .int .u8 0, .int .u8 0] 47)).setRow w5.heap.size (Sh.u8s CK)).heap[w5.heap.size + 1]? = some (.cells #[.int .u8 0, .int .u8 0, .int .u8 0, .int .u8 0, .int .u8 0, .int .u8 0, .int .u8 0, .int .u8 0, .int .u8 0, .int .u8 0, .int .u8 0, .int .u8 0, .int .u8 0, .int .u8 0, .int .u8 0, .int .u8 0, .int .u8 0, .int .u8 0, .int .u8 0, .int .u8 0, .int .u8 0, .int .u8 0, .int .u8 0, .int .u8 0, .int .u8 0, .int .u8 0, .int .u8 0, .int .u8 0, .int .u8 0, .int .u8 0, .int .u8 0, .int .u8 0] 47 (0, 0))) := (setRow_other _ _ _ _ (by omega)).trans (second_new w5)
  obtain ⟨w6, hw6⟩ : ∃ x, x = (((w5.alloc (.cells #[.int .u8 0, .int .u8 0, .int .u8 0, .int .u8 0, .int .u8 0, .int .u8 0, .int .u8 0, .int .u8 0, .int .u8 0, .int .u8 0, .int .u8 0, .int .u8 0, .int .u8 0, .int .u8 0, .int .u8 0, .int .u8 0, .int .u8 0, .int .u8 0, .int .u8 0, .int .u8 0, .int .u8 0, .int .u8 0, .int .u8 0, .int .u8 0, .int .u8 0, .int .u8 0, .int .u8 0, .int .u8 0, .int .u8 0, .int .u8 0, .int .u8 0, .int .u8 0] 47)).alloc (.cells #[.int .u8 0, .int .u8 0, .int .u8 0, .int .u8 0, .int .u8 0, .int .u8 0, .int .u8 0, .int .u8 0, .int .u8 0, .int .u8 0, .int .u8 0, .int .u8 0, .int .u8 0, .int .u8 0, .int .u8 0, .int .u8 0, .int .u8 0, .int .u8 0, .int .u8 0, .int .u8 0, .int .u8 0, .int .u8 0, .int .u8 0, .int .u8 0, .int .u8 0, .int .u8 0, .int .u8 0, .int .u8 0, .int .u8 0, .int .u8 0, .int .u8 0, .int .u8 0] 47)).setRow w5.heap.size (Sh.u8s CK)).setRow (w5.heap.size + 1) (Sh.u8s SK) := ⟨_, rfl⟩
  rw [← hw6] at n1 n2 n3
  have HB6 : Hid (Below w.heap.size w w6) := HB5.out.trans (n1.mono HB5.out.size)
  have HC6 : Hid (w6.heap[w3.heap.size]? = some (.cells (Sh.u8s CK) 47 (0, 0))) := blk_kept HC5.out n1 (blk_lt HC5.out)
  have HD6 : Hid (w6.heap[w3.heap.size + 1]? = some (.cells (Sh.u8s SK) 47 (0, 0))) := blk_kept HD5.out n1 (blk_lt HD5.out)
  have HE6 : Hid (w6.heap[w5.heap.size]? = some (.cells (Sh.u8s CK) 47 (0, 0))) := n2
  have HF6 : Hid (w6.heap[w5.heap.size + 1]? = some (.cells (Sh.u8s SK) 47 (0, 0))) := n3
  have cf := HPF.out w6 HB6.out
  have hw6' := hw6.symm
  clear n1 n2 n3 HB5 HC5 HD5 hw6
  go_upto_region 5 with (first | refine wpList_store_row rfl 47 _ _ rfl w5.heap.size (Sh.u8s CK) rfl rfl 47 _ G1b.out HZC.out HOC.out (Sh.u8s_one _) (Hid.out ?_) | refine wpList_store_row rfl 47 _ _ rfl (w5.heap.size + 1) (Sh.u8s SK) rfl rfl 47 _ G2b.out HZS.out HOS.out (Sh.u8s_one _) (Hid.out ?_))
  try unfold Hid
  try go_upto_region 5 with (first | refine wpList_store_row rfl 47 _ _ rfl w5.heap.size (Sh.u8s CK) rfl rfl 47 _ G1b.out HZC.out HOC.out (Sh.u8s_one _) (Hid.out ?_) | refine wpList_store_row rfl 47 _ _ rfl (w5.heap.size + 1) (Sh.u8s SK) rfl rfl 47 _ G2b.out HZS.out HOS.out (Sh.u8s_one _) (Hid.out ?_))
  try unfold Hid
  try rw [hw6']
  clear hw6' G1b G2b
  try (go_wp2_with (first | refine wpList_loadG (by rfl) _ rfl w3.heap.size rfl CK HLC.out HC6.out (Hid.out ?_) | refine wpList_loadG (by rfl) _ rfl (w3.heap.size + 1) rfl SK HLS.out HD6.out (Hid.out ?_) | refine wpList_loadG (by rfl) _ rfl w5.heap.size rfl CK HLC.out HE6.out (Hid.out ?_) | refine wpList_loadG (by rfl) _ rfl (w5.heap.size + 1) rfl SK HLS.out HF6.out (Hid.out ?_) | refine wpList_eqlG (by rfl) _ _ _ rfl CK HLC.out rfl rfl (Hid.out ?_) | refine wpList_eqlG (by rfl) _ _ _ rfl SK HLS.out rfl rfl (Hid.out ?_))
       unfold Hid)
  try (go_wp2_with (first | refine wpList_loadG (by rfl) _ rfl w3.heap.size rfl CK HLC.out HC6.out (Hid.out ?_) | refine wpList_loadG (by rfl) _ rfl (w3.heap.size + 1) rfl SK HLS.out HD6.out (Hid.out ?_) | refine wpList_loadG (by rfl) _ rfl w5.heap.size rfl CK HLC.out HE6.out (Hid.out ?_) | refine wpList_loadG (by rfl) _ rfl (w5.heap.size + 1) rfl SK HLS.out HF6.out (Hid.out ?_) | refine wpList_eqlG (by rfl) _ _ _ rfl CK HLC.out rfl rfl (Hid.out ?_) | refine wpList_eqlG (by rfl) _ _ _ rfl SK HLS.out rfl rfl (Hid.out ?_))
       unfold Hid)
  try (go_wp2_with (first | refine wpList_loadG (by rfl) _ rfl w3.heap.size rfl CK HLC.out HC6.out (Hid.out ?_) | refine wpList_loadG (by rfl) _ rfl (w3.heap.size + 1) rfl SK HLS.out HD6.out (Hid.out ?_) | refine wpList_loadG (by rfl) _ rfl w5.heap.size rfl CK HLC.out HE6.out (Hid.out ?_) | refine wpList_loadG (by rfl) _ rfl (w5.heap.size + 1) rfl SK HLS.out HF6.out (Hid.out ?_) | refine wpList_eqlG (by rfl) _ _ _ rfl CK HLC.out rfl rfl (Hid.out ?_) | refine wpList_eqlG (by rfl) _ _ _ rfl SK HLS.out rfl rfl (Hid.out ?_))
       unfold Hid)
  try (go_wp2_with (first | refine wpList_loadG (by rfl) _ rfl w3.heap.size rfl CK HLC.out HC6.out (Hid.out ?_) | refine wpList_loadG (by rfl) _ rfl (w3.heap.size + 1) rfl SK HLS.out HD6.out (Hid.out ?_) | refine wpList_loadG (by rfl) _ rfl w5.heap.size rfl CK HLC.out HE6.out (Hid.out ?_) | refine wpList_loadG (by rfl) _ rfl (w5.heap.size + 1) rfl SK HLS.out HF6.out (Hid.out ?_) | refine wpList_eqlG (by rfl) _ _ _ rfl CK HLC.out rfl rfl (Hid.out ?_) | refine wpList_eqlG (by rfl) _ _ _ rfl SK HLS.out rfl rfl (Hid.out ?_))
       unfold Hid)
  try (go_wp2_with (first | refine wpList_loadG (by rfl) _ rfl w3.heap.size rfl CK HLC.out HC6.out (Hid.out ?_) | refine wpList_loadG (by rfl) _ rfl (w3.heap.size + 1) rfl SK HLS.out HD6.out (Hid.out ?_) | refine wpList_loadG (by rfl) _ rfl w5.heap.size rfl CK HLC.out HE6.out (Hid.out ?_) | refine wpList_loadG (by rfl) _ rfl (w5.heap.size + 1) rfl SK HLS.out HF6.out (Hid.out ?_) | refine wpList_eqlG (by rfl) _ _ _ rfl CK HLC.out rfl rfl (Hid.out ?_) | refine wpList_eqlG (by rfl) _ _ _ rfl SK HLS.out rfl rfl (Hid.out ?_))
       unfold Hid)
  try (go_wp2_with (first | refine wpList_loadG (by rfl) _ rfl w3.heap.size rfl CK HLC.out HC6.out (Hid.out ?_) | refine wpList_loadG (by rfl) _ rfl (w3.heap.size + 1) rfl SK HLS.out HD6.out (Hid.out ?_) | refine wpList_loadG (by rfl) _ rfl w5.heap.size rfl CK HLC.out HE6.out (Hid.out ?_) | refine wpList_loadG (by rfl) _ rfl (w5.heap.size + 1) rfl SK HLS.out HF6.out (Hid.out ?_) | refine wpList_eqlG (by rfl) _ _ _ rfl CK HLC.out rfl rfl (Hid.out ?_) | refine wpList_eqlG (by rfl) _ _ _ rfl SK HLS.out rfl rfl (Hid.out ?_))
       unfold Hid)
  try go_wp2_with fail
  refine cf.mono ?_
  rintro e w7 ⟨rfl, b7⟩
  have HB7 : Hid (Below w.heap.size w w7) := HB6.out.trans (b7.mono HB6.out.size)
  have cg := HRF.out w7 HB7.out
  clear cf b7 HB6 HC6 HD6 HE6 HF6
  go_wp2_with fail
  refine cg.mono ?_
  rintro e w8 ⟨rfl, b8⟩
  have HB8 : Hid (Below w.heap.size w w8) := HB7.out.trans (b8.mono HB7.out.size)
  have ca := HAW.out w8 HB8.out
  clear cg b8 HB7
  go_wp2_with (refine wpList_eqlG (by rfl) _ _ _ rfl FK HLF.out rfl rfl (Hid.out ?_))
  try unfold Hid
  try go_wp2_with fail
  refine ca.mono ?_
  rintro e w9 ⟨rfl, b9⟩
  have HB9 : Hid (Below w.heap.size w w9) := HB8.out.trans (b9.mono HB8.out.size)
  clear ca b9
  go_wp2
  go_ret
  exact ⟨rfl, HB9.out⟩

theorem contract (H : Type) (enc : TypeId × Value → H) (W : World) (base : Nat) (args : Array Value) (ds gs : List (DataW H)) (before : List MemPlace)
    (hval : ∀ (j : Nat) t v, Tryz.f5.params[j]? = some t → args[j]? = some v → Value.okWide Tryz.prog W .any base t v)
    (hW : DataW.Whole enc Tryz.prog Tryz.f5.params.toList Rows.packetKeysSpec.vars false W args.toList ds gs before) (hL : laidMetH Tryz.prog Rows.packetKeysRow.laid W)
    (hsz0 : (DataW.weightsEach Tryz.prog (Tryz.f5.params.toList ++ Rows.packetKeysSpec.plain.varTypes Tryz.prog) (ds ++ gs)).all (· ≤ reachBytes) = true) :
    Calls Tryz.prog 5 args W fun e W' => ∃ v, e = .returned v ∧ Rows.packetKeysSpec.post enc Tryz.prog Tryz.f5 false true false false W args v W' := by
  have hW' := hW
  obtain ⟨p, q, hA0, hV, rfl, hfz, hnd⟩ := hW
  have hA : DataW.TrodAll enc Tryz.prog W 0 (fun _ => true) true Tryz.f5.params.toList args.toList ds p := hA0
  rw [Tryz.params5] at hA hval hsz0
  obtain ⟨v0, vs0, d0, ds0, p0, q0, hargs, rfl, rfl, h0, r0⟩ := trodAll_cons hA
  obtain ⟨v1, vs1, d1, ds1, p1, q1, rfl, rfl, rfl, h1, r1⟩ := trodAll_cons r0
  obtain ⟨v2, vs2, d2, ds2, p2, q2, rfl, rfl, rfl, h2, r2⟩ := trodAll_cons r1
  obtain ⟨rfl, rfl, rfl⟩ := trodAll_nil r2
  obtain rfl : args = #[v0, v1, v2] := by cases args; simp_all
  obtain ⟨rfl, rfl⟩ := trodVars_none hV
  have k0 := h0
  have lt0 : ∀ x ∈ p0, x.block < W.heap.size := by obtain ⟨m, hm⟩ := k0; exact DataW.trod_lt m _ _ _ hm
  obtain ⟨L0, w0⟩ := sl_in (hval 0 34 v0 rfl rfl) h0
  have k1 := h1
  have lt1 : ∀ x ∈ p1, x.block < W.heap.size := by obtain ⟨m, hm⟩ := k1; exact DataW.trod_lt m _ _ _ hm
  obtain ⟨L1, w1⟩ := nn_in (hval 1 22 v1 rfl rfl) h1
  have k2 := h2
  have lt2 : ∀ x ∈ p2, x.block < W.heap.size := by obtain ⟨m, hm⟩ := k2; exact DataW.trod_lt m _ _ _ hm
  obtain ⟨L2, w2⟩ := nn_in (hval 2 22 v2 rfl rfl) h2
  clear hA0
  refine (walk v0 L0 v1 L1 v2 L2 W (tbs_of hL) w0 w1 w2).mono fun e W' ⟨he, bel⟩ => ?_
  subst he
  exact ⟨_, rfl, _, _, _, [], _, [], hW', trodAll_mk1 (shut_bool Tryz.underlying4 _), (trodAll_cons_mk (Below.trod laidOut (by kernel_rfl) (of_decide_eq_true (by kernel_rfl)) k0 bel lt0) (trodAll_cons_mk (Below.trod laidOut (by kernel_rfl) (of_decide_eq_true (by kernel_rfl)) k1 bel lt1) (trodAll_cons_mk (Below.trod laidOut (by kernel_rfl) (of_decide_eq_true (by kernel_rfl)) k2 bel lt2) trodAll_mk0))), rfl, bel.frame _, fun h => by cases h⟩

theorem laid_met (os : Os) : laidMet Tryz.prog Rows.packetKeysRow.laid (({ World.holding Tryz.prog os ⟨#[], #[], []⟩ with heap := (((((World.holding Tryz.prog os ⟨#[], #[], []⟩).heap.modify 0 (fun
      | .cells _ t frozen => .cells shpT t frozen
      | o => o)).modify 1 (fun
      | .cells _ t frozen => .cells widT t frozen
      | o => o)).modify 2 (fun
      | .cells _ t frozen => .cells firT t frozen
      | o => o)).modify 3 (fun
      | .cells _ t frozen => .cells rndT t frozen
      | o => o)) } : World).forCall (fun _ _ => 0) ⟨#[], #[.slice none 0 0, .agg #[.int .u8 0, .int .u8 0, .int .u8 0, .int .u8 0, .int .u8 0, .int .u8 0, .int .u8 0, .int .u8 0, .int .u8 0, .int .u8 0, .int .u8 0, .int .u8 0, .int .u8 0, .int .u8 0, .int .u8 0, .int .u8 0], .agg #[.int .u8 0, .int .u8 0, .int .u8 0, .int .u8 0, .int .u8 0, .int .u8 0, .int .u8 0, .int .u8 0, .int .u8 0, .int .u8 0, .int .u8 0, .int .u8 0, .int .u8 0, .int .u8 0, .int .u8 0, .int .u8 0]], []⟩).memory :=
  laidMet_of_run' 8 (by kernel_rfl) (by kernel_rfl)
theorem reads (os : Os) {H : Type} (enc : TypeId × Value → H) : ∃ places, DataW.whole enc Tryz.prog (({ World.holding Tryz.prog os ⟨#[], #[], []⟩ with heap := (((((World.holding Tryz.prog os ⟨#[], #[], []⟩).heap.modify 0 (fun
      | .cells _ t frozen => .cells shpT t frozen
      | o => o)).modify 1 (fun
      | .cells _ t frozen => .cells widT t frozen
      | o => o)).modify 2 (fun
      | .cells _ t frozen => .cells firT t frozen
      | o => o)).modify 3 (fun
      | .cells _ t frozen => .cells rndT t frozen
      | o => o)) } : World).forCall (fun _ _ => 0) ⟨#[], #[.slice none 0 0, .agg #[.int .u8 0, .int .u8 0, .int .u8 0, .int .u8 0, .int .u8 0, .int .u8 0, .int .u8 0, .int .u8 0, .int .u8 0, .int .u8 0, .int .u8 0, .int .u8 0, .int .u8 0, .int .u8 0, .int .u8 0, .int .u8 0], .agg #[.int .u8 0, .int .u8 0, .int .u8 0, .int .u8 0, .int .u8 0, .int .u8 0, .int .u8 0, .int .u8 0, .int .u8 0, .int .u8 0, .int .u8 0, .int .u8 0, .int .u8 0, .int .u8 0, .int .u8 0, .int .u8 0]], []⟩).memory Tryz.f5.params.toList Rows.packetKeysSpec.vars false #[Value.slice none 0 0, .agg #[.int .u8 0, .int .u8 0, .int .u8 0, .int .u8 0, .int .u8 0, .int .u8 0, .int .u8 0, .int .u8 0, .int .u8 0, .int .u8 0, .int .u8 0, .int .u8 0, .int .u8 0, .int .u8 0, .int .u8 0, .int .u8 0], .agg #[.int .u8 0, .int .u8 0, .int .u8 0, .int .u8 0, .int .u8 0, .int .u8 0, .int .u8 0, .int .u8 0, .int .u8 0, .int .u8 0, .int .u8 0, .int .u8 0, .int .u8 0, .int .u8 0, .int .u8 0, .int .u8 0]].toList 8 = some ([.nil, .agg [.lit (.int .u8 0), .lit (.int .u8 0), .lit (.int .u8 0), .lit (.int .u8 0), .lit (.int .u8 0), .lit (.int .u8 0), .lit (.int .u8 0), .lit (.int .u8 0), .lit (.int .u8 0), .lit (.int .u8 0), .lit (.int .u8 0), .lit (.int .u8 0), .lit (.int .u8 0), .lit (.int .u8 0), .lit (.int .u8 0), .lit (.int .u8 0)], .agg [.lit (.int .u8 0), .lit (.int .u8 0), .lit (.int .u8 0), .lit (.int .u8 0), .lit (.int .u8 0), .lit (.int .u8 0), .lit (.int .u8 0), .lit (.int .u8 0), .lit (.int .u8 0), .lit (.int .u8 0), .lit (.int .u8 0), .lit (.int .u8 0), .lit (.int .u8 0), .lit (.int .u8 0), .lit (.int .u8 0), .lit (.int .u8 0)]], [], places) :=
  ⟨[], by kernel_rfl⟩

set_option maxRecDepth 100000 in
theorem lifted (os : Os) (started : os.Started) (H : Type) (enc : TypeId × Value → H) (F : Stop.Interp) :
    ReturnsInHanded {} Tryz.checked os 5 .any ((OpenSpec.ofChange Rows.packetKeysSpec).preRow enc Tryz.prog Tryz.f5 Rows.packetKeysRow.domain false Rows.packetKeysRow.laid) (((OpenSpec.ofChange Rows.packetKeysSpec).at F).post enc Tryz.prog Tryz.f5 false true false false) := by
  obtain ⟨places, hx⟩ := reads os enc
  refine returnsInHanded_of_row (C := Tryz.checked) (s := OpenSpec.ofChange Rows.packetKeysSpec) own started (by kernel_rfl) Tryz.func5
    (witness_row_at (enc := enc) (C := Tryz.checked) false ({ World.holding Tryz.prog os ⟨#[], #[], []⟩ with heap := (((((World.holding Tryz.prog os ⟨#[], #[], []⟩).heap.modify 0 (fun
      | .cells _ t frozen => .cells shpT t frozen
      | o => o)).modify 1 (fun
      | .cells _ t frozen => .cells widT t frozen
      | o => o)).modify 2 (fun
      | .cells _ t frozen => .cells firT t frozen
      | o => o)).modify 3 (fun
      | .cells _ t frozen => .cells rndT t frozen
      | o => o)) } : World) #[.slice none 0 0, .agg #[.int .u8 0, .int .u8 0, .int .u8 0, .int .u8 0, .int .u8 0, .int .u8 0, .int .u8 0, .int .u8 0, .int .u8 0, .int .u8 0, .int .u8 0, .int .u8 0, .int .u8 0, .int .u8 0, .int .u8 0, .int .u8 0], .agg #[.int .u8 0, .int .u8 0, .int .u8 0, .int .u8 0, .int .u8 0, .int .u8 0, .int .u8 0, .int .u8 0, .int .u8 0, .int .u8 0, .int .u8 0, .int .u8 0, .int .u8 0, .int .u8 0, .int .u8 0, .int .u8 0]] rfl (by kernel_rfl) (by kernel_rfl) (by kernel_rfl)
      (OpenSpec.preRow_of_cond 8 hx (by kernel_rfl) (fun k hk => by cases hk) (by kernel_rfl) (laid_met os))) ?_
  intro W base args ds gs before hval hW _ _ hsz hL _ _
  exact contract H enc W base args ds gs before hval hW hL hsz

theorem said : Rows.PacketKeysSaid :=
  OpenClaim.holds_of_cond 5 Tryz.f5 rfl rfl rfl rfl rfl rfl rfl ⟨rfl, rfl, rfl, rfl, rfl⟩ rfl rfl rfl rfl rfl (by kernel_rfl) Tryz.func5 (by kernel_rfl)
    (of_decide_eq_true (by kernel_rfl)) (by unfold Func.isWrapper; first | (rw [if_pos (by decide +kernel)]; kernel_rfl) | (rw [if_neg (by decide +kernel)]; exact ⟨rfl, rfl⟩))
    (fun os started H enc _ F => by rw [OpenClaim.pre_eq_preRow]; exact lifted os started H enc F)

theorem plain (f : FuncId) (fn : Func) (hf : Tryz.pinned.checked.prog.funcNamed "sumpter/sumpterlaw19.PacketKeys" = some f) (hfn : Tryz.pinned.checked.prog.funcs[f]? = some fn) :
    true = Tryz.pinned.checked.prog.looks [] ∧ ∀ (j : Nat) t, fn.params[j]? = some t → Tryz.pinned.checked.prog.wantsStandIn t = false := by
  obtain rfl : f = 5 := Option.some.inj ((show Tryz.prog.funcNamed "sumpter/sumpterlaw19.PacketKeys" = some 5 by kernel_rfl).symm.trans hf) |>.symm
  obtain rfl : fn = Tryz.f5 := (Option.some.inj (Tryz.func5.symm.trans hfn)).symm
  refine ⟨by kernel_rfl, fun j t ht => ?_⟩
  rw [Tryz.params5] at ht
  have hm : t ∈ [34, 22, 22] := by simpa using Array.mem_of_getElem? ht
  have hall : ([34, 22, 22].all fun u => !Tryz.prog.wantsStandIn u) = true := by kernel_rfl
  exact (show Tryz.prog.wantsStandIn t = false by simpa using List.all_eq_true.1 hall t hm)
end Go.Proofs.YtiollhmbdhepkaaGreatDoor.packetKeys

namespace Go.Proofs.YtiollhmbdhepkaaGreatDoor
/-- The card of PacketKeys. -/
theorem packetKeys_card : Rows.PacketKeysCardSaid :=
  Claim7.holds_tied_plain_at .later [] _ _ _ _ packetKeys.said (fun _ h => by cases h) (by kernel_rfl) (fun _ h => by cases h) packetKeys_row_tie rfl ⟨rfl, rfl⟩ (by kernel_rfl) rfl packetKeys.plain (by kernel_rfl)
#print axioms packetKeys_card
end Go.Proofs.YtiollhmbdhepkaaGreatDoor
