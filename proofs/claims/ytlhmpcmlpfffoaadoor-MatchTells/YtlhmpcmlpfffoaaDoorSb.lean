/-
  Sums built, and compared; slices of one are built; regions over them.
-/
import Derived.Test.YtlhmpcmlpfffoaaDoorSg
import Derived.Laws.StructEq
import Derived.Laws.Tables
import Derived.Great.Walk
import Derived.Laws.ResultCell
import Derived.Laws.CopyOwn
namespace Go.Proofs.YtlhmpcmlpfffoaaDoor
open Go.RowKit
set_option maxRecDepth 100000

/-- Bytes as cells. -/
def u8c (l : List Int) : Array Value := (l.map (Value.int .u8)).toArray
theorem map_range (A : List Int) (n : Nat) (h : A.length = n) : (List.range n).map (fun i => A.getD i 0) = A := by
  subst h
  apply List.ext_getElem?
  intro i
  rw [List.getElem?_map]
  rcases Nat.lt_or_ge i A.length with hi | hi
  · rw [List.getElem?_range hi]
    simp [List.getD, List.getElem?_eq_getElem hi]
  · rw [List.getElem?_eq_none (by simpa using hi), List.getElem?_eq_none hi]; rfl
theorem builtF' (k : Int) (f : Nat → Int) : Tryd.prog.built 57 [(0, .int .u32 k), (1, .agg (u8c ((List.range 32).map f)))] = some (Sg.cells ⟨k, (List.range 32).map f⟩).toArray := by kernel_rfl
/-- Sums are built. -/
theorem builtF (k : Int) (A : List Int) (h : A.length = 32) : Tryd.prog.built 57 [(0, .int .u32 k), (1, .agg (u8c A))] = some (Sg.cells ⟨k, A⟩).toArray := by
  have := builtF' k (fun i => A.getD i 0)
  rwa [map_range A 32 h] at this
theorem builtW (k : Int) : Tryd.prog.built 57 [(0, .int .u32 k)] = some (Sg.cells ⟨k, z32⟩).toArray := by kernel_rfl
theorem fieldsI : (Tryd.prog.fieldsOf 57).toList.map (fun f => (decide (f.name ≠ "_"), f.type, f.offset)) = [(true, 53, 0), (true, 48, 1)] := by kernel_rfl
theorem structI : Tryd.prog.underlying 57 = some (.struct (Tryd.prog.fieldsOf 57)) := by kernel_rfl
theorem standsI : Tryd.prog.stoodInHeld 57 = false := by kernel_rfl
theorem guardI : Tryd.prog.eqGuardType Tryd.prog.depth 57 = false := by kernel_rfl
theorem sizeOf5' : ∀ w, (sizeOf 5).run Tryd.prog w = .ok 1 w := by
  obtain ⟨i0, hi, hz0, hz1, hz2⟩ := info_parts info5'
  intro w
  simp [sizeOf, typeInfo, hi, hz1]
theorem sizeOfH : ∀ w, (sizeOf 48).run Tryd.prog w = .ok 32 w := by
  intro w
  have h := sizeH
  cases hq : Tryd.prog.info? 48 with
  | none => simp [hq] at h
  | some i =>
    have hs : i.size = 32 := by simpa [hq] using h
    simp [sizeOf, typeInfo, hq, hs]
theorem all_eq' : ∀ (xs ys : List Int), xs.length = ys.length → ((List.range xs.length).all fun i => xs.getD i 0 == ys.getD i 0) = (xs == ys)
  | [], [], _ => rfl
  | x :: xs, y :: ys, h => by
    have ih := all_eq' xs ys (by simpa using h)
    rw [List.length_cons, List.range_succ_eq_map, List.all_cons, List.all_map]
    simp only [List.getD_cons_zero, Function.comp_def, List.getD_cons_succ, ih]
    simp [List.cons_beq_cons]
  | [], _ :: _, h => by simp at h
  | _ :: _, [], h => by simp at h
theorem u8c_get (l : List Int) (i : Nat) (h : i < l.length) : (u8c l)[i]? = some (.int .u8 (l.getD i 0)) := by
  simp [u8c, List.getElem?_eq_getElem h, List.getD]
theorem eq_u8c (d : Nat) (A B : List Int) (hA : A.length = 32) (hB : B.length = 32) (w : World) : (Op.equalIn (d + 2) 48 (.agg (u8c A)) (.agg (u8c B))).run Tryd.prog w = .ok (A == B) w := by
  rw [← all_eq' A B (hA.trans hB.symm), hA, List.range_eq_range', Op.equalIn]
  simp only [Sem.run_bind, run_underlying Tryd.underlying48, Result.andThen_ok, sizeOf5', Std.Legacy.Range.forIn_eq_forIn_range', Std.Legacy.Range.size, Nat.sub_zero, Nat.add_sub_cancel, Nat.div_one]
  have hl : ∀ i ∈ List.range' 0 32 1, i < 32 := fun i hi => by simpa using (List.mem_range'_1.1 hi).2
  generalize List.range' 0 32 1 = l at hl ⊢
  induction l with
  | nil => simp
  | cons i l ih =>
    have hi : i < 32 := hl i (by simp)
    have px : (part 5 (u8c A) (i * 1)).run Tryd.prog w = .ok (.int .u8 (A.getD i 0)) w := by
      simp [part, isAgg, run_underlying Tryd.underlying5, u8c_get A i (by omega)]
    have py : (part 5 (u8c B) (i * 1)).run Tryd.prog w = .ok (.int .u8 (B.getD i 0)) w := by
      simp [part, isAgg, run_underlying Tryd.underlying5, u8c_get B i (by omega)]
    have pe : (Op.equalIn (d + 1) 5 (.int .u8 (A.getD i 0)) (.int .u8 (B.getD i 0))).run Tryd.prog w = .ok (A.getD i 0 == B.getD i 0) w := run_equalIn_int w d 5 .u8 .u8 _ _ Tryd.underlying5
    simp only [List.forIn_cons, Sem.run_bind, px, py, pe, Result.andThen_ok, List.all_cons]
    cases hb : (A.getD i 0 == B.getD i 0)
    · simp
    · simp only [Bool.not_true, Bool.false_eq_true, if_false, Sem.run_pure, Result.andThen_ok, Bool.true_and]
      exact ih fun j hj => hl j (by simp [hj])
/-- Whether two sums are one. -/
def sIt (x y : Sg) : Bool := decide (x.k = y.k) && decide (x.s = y.s)
theorem sIt_iff (x y : Sg) : sIt x y = true ↔ x = y := by
  cases x; cases y
  simp [sIt]
theorem part_one {P : Program} {t : TypeId} {cs : Array Value} {o : Nat} {v : Value} {w : World} (h : (isAgg t).run P w = .ok false w) (hc : cs[o]? = some v) : (part t cs o).run P w = .ok v w := by
  simp [part, Sem.run_bind, h, hc]
theorem eqf_cons {P : Program} {d : Nat} {xs ys : Array Value} {f : Field} {fs : List Field} {u v : Value} {r : Bool} {w : World} {t : TypeId} {o : Nat} (hn : f.name ≠ "_") (ht : f.type = t) (ho : f.offset = o) (ha : (part t xs o).run P w = .ok u w) (hb : (part t ys o).run P w = .ok v w) (he : (Op.equalIn d t u v).run P w = .ok r w) :
    (Op.eqFields d xs ys (f :: fs)).run P w = if r = true then (Op.eqFields d xs ys fs).run P w else .ok false w := by
  subst ht ho
  rw [Op.eqFields, if_pos hn]
  simp only [Sem.run_bind, ha, hb, he, Result.andThen_ok]
  cases r
  · simp
  · simp
theorem bed {α : Type} [BEq α] [LawfulBEq α] [DecidableEq α] (a b : α) : (a == b) = decide (a = b) := by by_cases h : a = b <;> simp [h]
theorem eqf_nil {P : Program} {d : Nat} {xs ys : Array Value} {w : World} : (Op.eqFields d xs ys []).run P w = .ok true w := by
  rw [Op.eqFields, Sem.run_pure]
theorem two {w : World} {a b : Bool} : (if a = true then (if b = true then Result.ok true w else .ok false w) else (.ok false w : Result Bool)) = .ok (a && b) w := by
  cases a <;> cases b <;> rfl
theorem eq_itd (d : Nat) (x y : Sg) (hx : x.ok) (hy : y.ok) (w : World) : (Op.equalIn (d + 3) 57 x.val y.val).run Tryd.prog w = .ok (sIt x y) w := by
  unfold Sg.val
  rw [run_equalIn_struct w (d + 2) 57 _ _ structI standsI]
  have hf := fieldsI
  generalize (Tryd.prog.fieldsOf 57).toList = fs at hf
  have hlen : fs.length = 2 := by have := congrArg List.length hf; simpa using this
  match fs, hlen, hf with
  | [f0, f1], _, hf =>
    simp only [List.map_cons, List.map_nil, List.cons.injEq, Prod.mk.injEq, and_true, decide_eq_true_eq] at hf
    obtain ⟨⟨n0, t0, o0⟩, n3, t3, o3⟩ := hf
    have aU : (isAgg 53).run Tryd.prog w = .ok false w := by simp [isAgg, run_underlying Tryd.underlying53]
    have aH : (isAgg 48).run Tryd.prog w = .ok true w := by simp [isAgg, run_underlying Tryd.underlying48]
    have cut : ∀ z : Sg, z.ok → z.cells.toArray.extract 1 (1 + 32) = u8c z.s := fun z hz => by
      apply Array.ext'
      simp [Sg.cells, u8c]
      exact List.take_of_length_le (by simp [hz.1])
    have c0 : ∀ z : Sg, z.cells.toArray[0]? = some (.int .u32 z.k) := fun z => rfl
    have p0 : ∀ z : Sg, (part 53 z.cells.toArray 0).run Tryd.prog w = .ok (.int .u32 z.k) w := fun z => part_one aU (c0 z)
    have p3 : ∀ z : Sg, z.ok → (part 48 z.cells.toArray 1).run Tryd.prog w = .ok (.agg (u8c z.s)) w := fun z hz => by
      simp only [part, Sem.run_bind, aH, Result.andThen_ok, if_true, sizeOfH, Sem.run_pure, cut z hz]
    have e2 : (Op.equalIn (d + 2) 53 (.int .u32 x.k) (.int .u32 y.k)).run Tryd.prog w = .ok (x.k == y.k) w := run_equalIn_int w (d + 1) 53 .u32 .u32 _ _ Tryd.underlying53
    have e3 : (Op.equalIn (d + 2) 48 (.agg (u8c x.s)) (.agg (u8c y.s))).run Tryd.prog w = .ok (x.s == y.s) w := eq_u8c d _ _ hx.1 hy.1 w
    rw [eqf_cons n0 t0 o0 (p0 x) (p0 y) e2, eqf_cons n3 t3 o3 (p3 x hx) (p3 y hy) e3, eqf_nil, two]
    unfold sIt
    rw [bed x.k, bed x.s]
theorem eq_it (x y : Sg) (hx : x.ok) (hy : y.ok) (w : World) : (Op.equalIn 10000 57 x.val y.val).run Tryd.prog w = .ok (sIt x y) w := eq_itd 9997 x y hx hy w
/-- A struct is built, its cells known. -/
theorem wpList_built {P : Program} {ops : Array Oper} {rest : List Oper} {o : Oper} {a : Act} {w : World} {Q : Exit → Act → World → Prop} (hg : o.guard = none) (t : TypeId) (parts : List (Nat × Operand)) (ho : o.op = .build t parts.toArray)
    (L : List (Nat × Value)) (hL : parts.map (fun (i, x) => (i, a.eval x)) = L) (cs : Array Value) (hb : P.built t L = some cs) (h : wpList P ops Q rest (a.put o.dst (.agg cs)) w) : wpList P ops Q (o :: rest) a w := by
  have e : (parts.toArray.map fun (i, x) => (i, a.eval x)).toList = L := by rw [← hL]; simp
  exact wpList_build hg t parts.toArray ho (by rw [e, hb]; rfl) (by rw [e, hb]; exact h)
/-- '==' and '!=' of two sums, as one step of a walk. -/
theorem wpList_eqi {w : World} {ops : Array Oper} {rest : List Oper} {o : Oper} {a : Act} {Q : Exit → Act → World → Prop} (hgd : o.guard = none) (ne : Bool) (x y : Operand) (t : TypeId) (ho : o.op = .binOp (if ne then .neq else .eql) 57 x y t)
    (u v : Sg) (hu : u.ok) (hv : v.ok) (hx : a.eval x = u.val) (hy : a.eval y = v.val)
    (h : wpList Tryd.prog ops Q rest (a.put o.dst (.bool (ne ^^ sIt u v))) w) : wpList Tryd.prog ops Q (o :: rest) a w := by
  refine wpList_plain hgd fun KK hKK => ?_
  have hE := eq_it u v hu hv w
  unfold Sg.val at hE hx hy
  unfold Oper.wp
  cases ne
  · simp only [execOp, ho, hx, hy, Sem.run_bind, Bool.false_eq_true, if_false, run_eqGuard_agg _ _ _ _ _ _ _ guardI, run_eql_struct, hE, Result.andThen_ok, Sem.run_pure, Oper.upon]
    rw [Bool.false_xor] at h
    exact hKK _ _ h
  · simp only [execOp, ho, hx, hy, Sem.run_bind, if_true, run_eqGuard_agg _ _ _ _ _ _ _ guardI, run_neq_struct, hE, Result.andThen_ok, Sem.run_pure, Oper.upon]
    rw [Bool.true_xor] at h
    exact hKK _ _ h
theorem bsI' (k : Int) (f : Nat → Int) : Tryd.prog.builtSlice 57 1 [(0, .agg (Sg.cells ⟨k, (List.range 32).map f⟩).toArray)] = some (Sg.cells ⟨k, (List.range 32).map f⟩).toArray := by kernel_rfl
theorem bsI (y : Sg) (h : y.ok) : Tryd.prog.builtSlice 57 1 [(0, .agg y.cells.toArray)] = some y.cells.toArray := by
  obtain ⟨k, s⟩ := y
  have := bsI' k (fun i => s.getD i 0)
  rwa [map_range s 32 h.1] at this
theorem wpList_bsI {w : World} {ops : Array Oper} {rest : List Oper} {o : Oper} {a : Act} {Q : Exit → Act → World → Prop} (hgd : o.guard = none) (x : Operand) (ho : o.op = .buildSlice 27 1 #[(0, x)])
    (y : Sg) (hy : y.ok) (hx : a.eval x = .agg y.cells.toArray) (h : wpList Tryd.prog ops Q rest (a.put o.dst (.slice (some ⟨w.heap.size, 0, none⟩) 1 1)) (w.alloc (.cells y.cells.toArray 57))) : wpList Tryd.prog ops Q (o :: rest) a w :=
  Great.wpList_buildSliceTo hgd 27 57 1 #[(0, x)] ho w.heap.size rfl o.dst rfl Tryd.underlying27 y.cells.toArray (by simpa [hx] using bsI y hy) h
/-- '==' or '!=' of two sums in a region that draws its order. -/
theorem yields_eqi {S : World → Prop} {ops : Array Oper} {o : Oper} {a : Act} (hw : Region.wanted o (yielded ops a.tmps) = true) (op : BinOp) (x y : Operand) (t : TypeId) (ho : o.op = .binOp op 57 x y t)
    (U V : Value) (b : Bool) (hx : a.eval x = U) (hy : a.eval y = V) (hG : ∀ w, (eqGuard op 57 x y U V).run Tryd.prog w = .ok () w) (hE : ∀ w, (binOp op 57 U V).run Tryd.prog w = .ok (.bool b) w) : YieldsIf Tryd.prog ops S o (.bool b) a :=
  .inl ⟨hw, fun w _ => by
    unfold execOp
    simp only [ho, hx, hy, Sem.run_bind, hG, hE, Result.andThen_ok, Sem.run_pure]⟩
/-- A struct is built in a region that draws its order. -/
theorem yields_built {P : Program} {S : World → Prop} {ops : Array Oper} {o : Oper} {a : Act} (hw : Region.wanted o (yielded ops a.tmps) = true) (t : TypeId) (parts : List (Nat × Operand)) (ho : o.op = .build t parts.toArray)
    (L : List (Nat × Value)) (hL : parts.map (fun (i, x) => (i, a.eval x)) = L) (cs : Array Value) (hb : P.built t L = some cs) : YieldsIf P ops S o (.agg cs) a := by
  refine .inl ⟨hw, fun w _ => ?_⟩
  have e : (parts.toArray.map fun (i, x) => (i, a.eval x)).toList = L := by rw [← hL]; simp
  have h := run_build (P := P) w t (parts.toArray.map fun (i, x) => (i, a.eval x)) cs (by rw [e]; exact hb)
  unfold execOp
  simp only [ho, Sem.run_bind, h, Result.andThen_ok, Sem.run_pure]
theorem neq_run (x y : Sg) (hx : x.ok) (hy : y.ok) (w : World) : (binOp .neq 57 x.val y.val).run Tryd.prog w = .ok (.bool (!sIt x y)) w := by
  have h := eq_it x y hx hy w
  unfold Sg.val at h ⊢
  rw [run_neq_struct, h]
  rfl
theorem eqg_run (o : BinOp) (x y : Sg) (a b : Operand) (w : World) : (eqGuard o 57 a b x.val y.val).run Tryd.prog w = .ok () w := run_eqGuard_agg _ _ _ _ _ _ _ guardI
end Go.Proofs.YtlhmpcmlpfffoaaDoor
