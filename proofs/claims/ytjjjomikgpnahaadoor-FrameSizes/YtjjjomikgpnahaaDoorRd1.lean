/-
  The document's Remove.
-/
import Derived.Test.YtjjjomikgpnahaaDoorBr
import Derived.Test.YtjjjomikgpnahaaDoorRa
namespace Go.Proofs.YtjjjomikgpnahaaDoor
open Go.RowKit Go.Shelf
set_option maxRecDepth 100000

/-- A span laid behind a row of the call's own. -/
theorem wpList_append_sp {w : World} {ops : Array Oper} {rest : List Oper} {o : Oper} {a : Act} {Q : Exit → Act → World → Prop} (hgd : o.guard = none) (s x : Operand)
    (ho : o.op = .call { callee := .builtin .append, args := #[s, x], argTypes := #[28, 28] }) (B : Nat) (v : Value) (l : List Sp) (hs : a.eval s = v) (hown : RSp w B v l) (g : Nat) (y : Sp) (hx : a.eval x = .slice (some ⟨g, 0, none⟩) 1 1) (hc : w.rangeAt g 0 (spc y)) (hbig : l.length ≤ 100000) (hbase : B ≤ w.heap.size)
    (h : ∀ v' w', RSp w' B v' (l ++ [y]) → w.grownBy w' v.ownBlock → wpList Tryd.prog ops Q rest (a.put o.dst v') w') : wpList Tryd.prog ops Q (o :: rest) a w := by
  refine wpList_append_it hgd s x 28 109 2 16 (.agg #[.int .i64 0, .int .i64 0]) ho Tryd.underlying28 infoN rfl (by decide) (by decide) B v (l.map spc) hs hown g (spc y) 1 rfl (by simp [spc, Value.oneCell']) hx hc (by rw [List.length_map]; exact hbig) hbase ?_
  intro v' w' r gr
  refine h v' w' ?_ gr
  unfold RSp
  rw [List.map_append]
  exact r
theorem sp_new (w : World) (x : Sp) : (w.alloc (.cells #[.int .i64 x.1, .int .i64 x.2] 109)).rangeAt w.heap.size 0 (spc x) := blk_range (cs := spc x) (heap_alloc_new _ _)
/-- A variable of the call's own stays where an elder row grows. -/
theorem grown_loc {wr W W' : World} {B k : Nat} {v : Value} {l : List Sp} {o : Obj} (hr : RSp wr B v l) (g : W.grownBy W' v.ownBlock) (hk : W.heap[k]? = some o) (hge : wr.heap.size ≤ k) : W'.heap[k]? = some o :=
  (g.block k (blk_lt hk) (fun e => by have := own_lt hr k e.symm; omega)).trans hk
theorem loc_cells {W : World} {k : Nat} {a b : Value} (h : W.heap[k]? = some (.cells #[a, b] 109 (0, 0))) : W.cell? ⟨k, 0, none⟩ = some a ∧ W.cell? ⟨k, 1, none⟩ = some b := by simp [World.cell?, h]
theorem take_snoc {l : List Sp} {j : Nat} (h : j < l.length) : l.take (j + 1) = l.take j ++ [atS l j] := by rw [atS_eq l j h, List.take_succ_eq_append_getElem h]
theorem rRem_app (l m : List Sp) (f t : Int) : rRem (l ++ m) f t = rRem l f t ++ rRem m f t := by unfold rRem; rw [List.map_append, List.flatten_append]
theorem rp_len (f t : Int) (x : Sp) : (rp f t x).length ≤ 2 := by unfold rp; rw [List.length_append]; split <;> split <;> simp
theorem rRem_len (l : List Sp) (f t : Int) : (rRem l f t).length ≤ 2 * l.length := by
  induction l with
  | nil => simp [rRem]
  | cons x l ih =>
    have := rp_len f t x
    rw [show x :: l = [x] ++ l from rfl, rRem_app, List.length_append, List.length_append]
    have e : rRem [x] f t = rp f t x := by simp [rRem]
    rw [e, List.length_singleton]
    omega
end Go.Proofs.YtjjjomikgpnahaaDoor
