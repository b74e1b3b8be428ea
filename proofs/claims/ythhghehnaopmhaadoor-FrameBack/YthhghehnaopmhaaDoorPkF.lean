/-
  Which parts of a plain form are not zero.
  What Check answers.
  Spans of one's own; what build makes.
  What build makes.
  What flatten tells.
  What flatten tells.
  What flatten tells of a frame.
-/
import Derived.Test.YthhghehnaopmhaaDoorFa
import Derived.Test.YthhghehnaopmhaaDoorOrd
import Derived.Laws.StructEq
import Derived.Test.YthhghehnaopmhaaDoorPkS
import Derived.Deep.AppendSrc
namespace Go.Proofs.YthhghehnaopmhaaDoor
open Go.RowKit
set_option maxRecDepth 100000

abbrev u8c (A : List Int) : Array Value := (A.map (Value.int .u8)).toArray
theorem u8c_get (A : List Int) (i : Nat) (h : i < A.length) : (u8c A)[i]? = some (.int .u8 (A.getD i 0)) := by
  simp [u8c, List.getD, List.getElem?_eq_getElem h]
theorem all_eqL : ∀ (xs ys : List Int), xs.length = ys.length → ((List.range xs.length).all fun i => xs.getD i 0 == ys.getD i 0) = (xs == ys)
  | [], [], _ => rfl
  | x :: xs, y :: ys, h => by
    have ih := all_eqL xs ys (by simpa using h)
    rw [List.length_cons, List.range_succ_eq_map, List.all_cons, List.all_map]
    simp only [List.getD_cons_zero, Function.comp_def, List.getD_cons_succ, ih]
    simp [List.cons_beq_cons]
  | [], _ :: _, h => by simp at h
  | _ :: _, [], h => by simp at h
theorem infoU8 : (Tryd.prog.info? 5).map (fun i => (i.zero, i.size, i.bytes)) = some (some (.int .u8 0), 1, 1) := by kernel_rfl
theorem sizeOfU8 : ∀ w, (sizeOf 5).run Tryd.prog w = .ok 1 w := by
  obtain ⟨i0, hi, hz0, hz1, hz2⟩ := info_parts infoU8
  intro w
  simp [sizeOf, typeInfo, hi, hz1]
theorem eq_nc (d : Nat) (A B : List Int) (hA : A.length = 16) (hB : B.length = 16) (w : World) : (Op.equalIn (d + 2) 27 (.agg (u8c A)) (.agg (u8c B))).run Tryd.prog w = .ok (A == B) w := by
  rw [← all_eqL A B (hA.trans hB.symm), hA, List.range_eq_range', show d + 2 = (d + 1) + 1 from rfl, Op.equalIn]
  simp only [Sem.run_bind, run_underlying Tryd.underlying27, Result.andThen_ok, sizeOfU8, Std.Legacy.Range.forIn_eq_forIn_range', Std.Legacy.Range.size, Nat.sub_zero, Nat.add_sub_cancel, Nat.div_one]
  have hl : ∀ i ∈ List.range' 0 16 1, i < 16 := fun i hi => by simpa using (List.mem_range'_1.1 hi).2
  generalize List.range' 0 16 1 = l at hl ⊢
  induction l with
  | nil => simp
  | cons i l ih =>
    have hi : i < 16 := hl i (by simp)
    have px : (part 5 (u8c A) (i * 1)).run Tryd.prog w = .ok (.int .u8 (A.getD i 0)) w := by
      simp [part, isAgg, run_underlying Tryd.underlying5, u8c_get A i (by omega)]
    have py : (part 5 (u8c B) (i * 1)).run Tryd.prog w = .ok (.int .u8 (B.getD i 0)) w := by
      simp [part, isAgg, run_underlying Tryd.underlying5, u8c_get B i (by omega)]
    have pe : (Op.equalIn (d + 1) 5 (.int .u8 (A.getD i 0)) (.int .u8 (B.getD i 0))).run Tryd.prog w = .ok (A.getD i 0 == B.getD i 0) w := run_equalIn_int w d 5 .u8 .u8 _ _ Tryd.underlying5
    simp only [List.forIn_cons, Sem.run_bind, px, py, pe, Result.andThen_ok, List.all_cons]
    cases hb : (A.getD i 0 == B.getD i 0)
    · simp
    · simp only [Bool.not_true, Bool.false_eq_true, if_false, Sem.run_pure, Result.andThen_ok, Bool.true_and]
      exact ih fun j hj => hl j (by simp [hj])
theorem guardN : Tryd.prog.eqGuardType Tryd.prog.depth 27 = false := by kernel_rfl
theorem neqN_run (A B : List Int) (hA : A.length = 16) (hB : B.length = 16) (w : World) : (binOp .neq 27 (.agg (u8c A)) (.agg (u8c B))).run Tryd.prog w = .ok (.bool (!(A == B))) w := by
  have h := eq_nc 9998 A B hA hB w
  have h' : (Op.equal 27 (.agg (u8c A)) (.agg (u8c B))).run Tryd.prog w = .ok (A == B) w := h
  show (do pure (.bool (!(← Op.equal 27 (.agg (u8c A)) (.agg (u8c B))))) : Sem Value).run Tryd.prog w = _
  rw [Sem.run_bind, h']
  rfl
theorem yields_neqN {S : World → Prop} {ops : Array Oper} {o : Oper} {a : Act} (hw : Region.wanted o (yielded ops a.tmps) = true) (x y : Operand) (t : TypeId) (ho : o.op = .binOp .neq 27 x y t)
    (A B : List Int) (hA : A.length = 16) (hB : B.length = 16) (hx : a.eval x = .agg (u8c A)) (hy : a.eval y = .agg (u8c B)) : YieldsIf Tryd.prog ops S o (.bool (!(A == B))) a :=
  .inl ⟨hw, fun w _ => by
    unfold execOp
    simp only [ho, hx, hy, Sem.run_bind, run_eqGuard_agg _ _ _ _ _ _ _ guardN, neqN_run A B hA hB, Result.andThen_ok, Sem.run_pure]⟩
theorem builtN : Tryd.prog.built 27 [] = some (u8c zn) := by kernel_rfl
theorem yields_built {P : Program} {S : World → Prop} {ops : Array Oper} {o : Oper} {a : Act} (hw : Region.wanted o (yielded ops a.tmps) = true) (t : TypeId) (parts : List (Nat × Operand)) (ho : o.op = .build t parts.toArray)
    (L : List (Nat × Value)) (hL : parts.map (fun (i, x) => (i, a.eval x)) = L) (cs : Array Value) (hb : P.built t L = some cs) : YieldsIf P ops S o (.agg cs) a := by
  refine .inl ⟨hw, fun w _ => ?_⟩
  have e : (parts.toArray.map fun (i, x) => (i, a.eval x)).toList = L := by rw [← hL]; simp
  have h := run_build (P := P) w t (parts.toArray.map fun (i, x) => (i, a.eval x)) cs (by rw [e]; exact hb)
  unfold execOp
  simp only [ho, Sem.run_bind, h, Result.andThen_ok, Sem.run_pure]
theorem wpList_index {P : Program} {w : World} {ops : Array Oper} {rest : List Oper} {o : Oper} {a : Act} {Q : Exit → Act → World → Prop} (hgd : o.guard = none) (t : TypeId) (x y : Operand) (ho : o.op = .index t x y) (U V v : Value) (hx : a.eval x = U) (hy : a.eval y = V)
    (hr : (Instr.index t U V).run P w = .ok v w) (h : wpList P ops Q rest (a.put o.dst v) w) : wpList P ops Q (o :: rest) a w :=
  wpList_plain hgd fun _ hK => by
    unfold Oper.wp execOp
    simp only [ho, hx, hy, Sem.run_bind, hr, Result.andThen_ok, Sem.run_pure]
    exact hK _ _ h
/-- The parts' numbers together. -/
def pwN (j : Nat) : Int := [1, 2, 4, 8, 16, 32, 64].getD j 0
def flN (b : Nat → Bool) : Nat → Int
  | 0 => 0
  | j + 1 => if b j = true then bits .or .i64 (flN b j) (pwN j) else flN b j
def bl7 (b0 b1 b2 b3 b4 b5 b6 : Bool) (j : Nat) : Bool := [b0, b1, b2, b3, b4, b5, b6].getD j false
def fils (p : Fm) : Nat → Bool := bl7 (p.id != 0) (p.n != 0) p.fin (p.cd != 0) (!(p.nc == zn)) (!p.tx.toList.isEmpty) (decide (0 < p.sp.length))
def filM (p : Fm) : Int := flN (fils p) 7
def badB (k : Int) (b0 b1 b2 b3 b4 b5 b6 : Bool) : Bool := (b0 && !hI k) || (b1 && !hN k) || (b2 && !hF k) || (b3 && !hC k) || (b4 && !hO k) || (b5 && !hT k) || (b6 && !hS k)
theorem fil_tab : ∀ (k : Fin 11) (b0 b1 b2 b3 b4 b5 b6 : Bool), (bits .andNot .i64 (flN (bl7 b0 b1 b2 b3 b4 b5 b6) 7) (pkN (k.val : Int)) != 0) = badB k.val b0 b1 b2 b3 b4 b5 b6 := by decide +kernel
theorem fil_bad (p : Fm) (h0 : 0 ≤ p.k) (h1 : p.k ≤ 10) : (bits .andNot .i64 (filM p) (pkN p.k) != 0) = decide (badF p) := by
  have t := fil_tab ⟨p.k.toNat, by omega⟩ (p.id != 0) (p.n != 0) p.fin (p.cd != 0) (!(p.nc == zn)) (!p.tx.toList.isEmpty) (decide (0 < p.sp.length))
  simp only [Int.toNat_of_nonneg h0] at t
  unfold filM fils
  rw [t]
  rw [Bool.eq_iff_iff, decide_eq_true_iff]
  unfold badB badF
  have et : (p.tx.toList.isEmpty = false) ↔ p.tx ≠ ⟨#[]⟩ := by
    rw [Lib.toList_data, ← Bool.not_eq_true, List.isEmpty_iff]
    refine not_congr ⟨fun e => ?_, fun e => by rw [e]⟩
    have e' : p.tx.data = #[] := Array.toList_inj.1 e
    cases hh : p.tx
    rw [hh] at e'
    exact congrArg ByteArray.mk e'
  simp only [et, Bool.or_eq_true, Bool.and_eq_true, Bool.not_eq_true', bne_iff_ne, ne_eq, decide_eq_true_eq, or_assoc, beq_eq_false_iff_ne, List.length_pos_iff]
set_option maxHeartbeats 4000000 in
theorem filled_any (p : Fm) (sv : Value) (a : Option Addr) (c : Nat) (hsv : sv = .slice a p.sp.length c) (hn : p.nc.length = 16) (w : World) :
    Calls Tryd.prog 25 #[.agg (plA p sv)] w fun e w' => e = .returned (.int .i64 (filM p)) ∧ Below w.heap.size w w' := by
  obtain ⟨W1, hW1⟩ : ∃ W1, W1 = w.alloc (.cells (plA p sv) 36) := ⟨_, rfl⟩
  have b1 : Below w.heap.size w W1 := by rw [hW1]; exact al_below _ _
  have g1 : PF W1 w.heap.size 36 p sv := by rw [hW1]; exact PF.new w _ p sv
  have FK : Hid (∀ x, From W1 x → PC x w.heap.size p sv) := fun x hx => (g1.kept hx).pc hn
  have HB1 : Hid (Below w.heap.size w W1) := b1
  have HNC : Hid (p.nc.length = 16) := hn
  have HFL : Hid (filM p = flN (fils p) 7) := rfl
  subst hsv
  obtain ⟨b0, e0⟩ : ∃ b0, b0 = (p.id != 0) := ⟨_, rfl⟩
  obtain ⟨b1', e1⟩ : ∃ b1', b1' = (p.n != 0) := ⟨_, rfl⟩
  obtain ⟨b2', e2⟩ : ∃ b2', b2' = p.fin := ⟨_, rfl⟩
  obtain ⟨b3', e3⟩ : ∃ b3', b3' = (p.cd != 0) := ⟨_, rfl⟩
  obtain ⟨b4', e4⟩ : ∃ b4', b4' = (!(p.nc == zn)) := ⟨_, rfl⟩
  obtain ⟨b5', e5⟩ : ∃ b5', b5' = (!p.tx.toList.isEmpty) := ⟨_, rfl⟩
  obtain ⟨b6', e6⟩ : ∃ b6', b6' = decide (0 < p.sp.length) := ⟨_, rfl⟩
  have HFS : Hid (fils p = bl7 b0 b1' b2' b3' b4' b5' b6') := by unfold Hid fils; rw [e0, e1, e2, e3, e4, e5, e6]
  have E0 : Hid (b0 = (p.id != 0)) := e0
  have E1 : Hid (b1' = (p.n != 0)) := e1
  have E2 : Hid (b2' = p.fin) := e2
  have E3 : Hid (b3' = (p.cd != 0)) := e3
  have E4 : Hid (b4' = (!(p.nc == zn))) := e4
  have E5 : Hid (b5' = (!p.tx.toList.isEmpty)) := e5
  have E6 : Hid (b6' = decide (0 < p.sp.length)) := e6
  clear e0 e1 e2 e3 e4 e5 e6 g1 hn b1
  go_enter Tryd.func25, Tryd.ntmps25
  go_upto_region 2 with fail
  rw [← hW1]
  clear hW1
  refine wp_region_held_drew (S := From W1) (by kernel_rfl) (Below.drew (Below.refl _ _)) (fun _ => ?_)
  refine wpAnyH_name (fun u0 hu0 => ?_)
  have bu0 : Below W1.heap.size W1 u0 := by rw [hu0.out]; exact Below.drew (Below.refl _ _)
  refine wpAnyH_take (i := 0) (oi := { dst := some 6, op := Op.fieldAddr 36 (Operand.tmp 1) 1, type := 0, pos := "frame.go:386", after := #[], guard := none }) (v := ?vr1) rfl (by kernel_rfl) (by kernel_rfl) (by kernel_rfl) (fun _ _ _ h => h) (Or.inl ⟨by rfl, ?yr1⟩) bu0 ?rr1
  case yr1 => (intro w hSw; go_simp; try with_reducible rfl)
  try simp only [Act.put, List.setIfInBounds_toArray, List.set_cons_zero, List.set_cons_succ]
  refine wpAnyH_take (i := 1) (oi := { dst := some 7, op := Op.load 3 (Operand.tmp 6), type := 3, pos := "frame.go:386", after := #[{ on := 0, ground := Ground.data }], guard := none }) (v := .int .i64 p.id) rfl (by kernel_rfl) (by kernel_rfl) (by kernel_rfl) (fun _ _ _ h => h) (Or.inl ⟨by rfl, ?yr2⟩) bu0 ?rr2
  case yr2 => (intro w hSw; have := (FK.out w hSw).c1; go_simp; try with_reducible rfl)
  try simp only [Act.put, List.setIfInBounds_toArray, List.set_cons_zero, List.set_cons_succ]
  refine wpAnyH_take (i := 2) (oi := { dst := some 8, op := Op.binOp BinOp.neq 3 (Operand.tmp 7) (Operand.const (Value.int IntKind.i64 0)) 3, type := 4, pos := "frame.go:386", after := #[{ on := 1, ground := Ground.data }], guard := none }) (v := .bool b0) rfl (by kernel_rfl) (by kernel_rfl) (by kernel_rfl) (fun _ _ _ h => h) (Or.inl ⟨by rfl, ?yr3⟩) bu0 ?rr3
  case yr3 => (intro w hSw; rw [E0.out]; go_simp; try with_reducible rfl)
  try simp only [Act.put, List.setIfInBounds_toArray, List.set_cons_zero, List.set_cons_succ]
  refine wpAnyH_take (i := 3) (oi := { dst := some 9, op := Op.build 106 #[(0, Operand.const (Value.int IntKind.i64 1)), (1, Operand.tmp 8)], type := 106, pos := "frame.go:386", after := #[{ on := 2, ground := Ground.data }], guard := none }) (v := ?vr4) rfl (by kernel_rfl) (by kernel_rfl) (by kernel_rfl) (fun _ _ _ h => h) (Or.inl ⟨by rfl, ?yr4⟩) bu0 ?rr4
  case yr4 => (intro w hSw; go_simp; try with_reducible rfl)
  try simp only [Act.put, List.setIfInBounds_toArray, List.set_cons_zero, List.set_cons_succ]
  refine wpAnyH_take (i := 4) (oi := { dst := some 10, op := Op.fieldAddr 36 (Operand.tmp 1) 2, type := 0, pos := "frame.go:386", after := #[], guard := none }) (v := ?vr5) rfl (by kernel_rfl) (by kernel_rfl) (by kernel_rfl) (fun _ _ _ h => h) (Or.inl ⟨by rfl, ?yr5⟩) bu0 ?rr5
  case yr5 => (intro w hSw; go_simp; try with_reducible rfl)
  try simp only [Act.put, List.setIfInBounds_toArray, List.set_cons_zero, List.set_cons_succ]
  refine wpAnyH_take (i := 5) (oi := { dst := some 11, op := Op.load 3 (Operand.tmp 10), type := 3, pos := "frame.go:386", after := #[{ on := 4, ground := Ground.data }], guard := none }) (v := .int .i64 p.n) rfl (by kernel_rfl) (by kernel_rfl) (by kernel_rfl) (fun _ _ _ h => h) (Or.inl ⟨by rfl, ?yr6⟩) bu0 ?rr6
  case yr6 => (intro w hSw; have := (FK.out w hSw).c2; go_simp; try with_reducible rfl)
  try simp only [Act.put, List.setIfInBounds_toArray, List.set_cons_zero, List.set_cons_succ]
  refine wpAnyH_take (i := 6) (oi := { dst := some 12, op := Op.binOp BinOp.neq 3 (Operand.tmp 11) (Operand.const (Value.int IntKind.i64 0)) 3, type := 4, pos := "frame.go:386", after := #[{ on := 5, ground := Ground.data }], guard := none }) (v := .bool b1') rfl (by kernel_rfl) (by kernel_rfl) (by kernel_rfl) (fun _ _ _ h => h) (Or.inl ⟨by rfl, ?yr7⟩) bu0 ?rr7
  case yr7 => (intro w hSw; rw [E1.out]; go_simp; try with_reducible rfl)
  try simp only [Act.put, List.setIfInBounds_toArray, List.set_cons_zero, List.set_cons_succ]
  refine wpAnyH_take (i := 7) (oi := { dst := some 13, op := Op.build 106 #[(0, Operand.const (Value.int IntKind.i64 2)), (1, Operand.tmp 12)], type := 106, pos := "frame.go:386", after := #[{ on := 6, ground := Ground.data }], guard := none }) (v := ?vr8) rfl (by kernel_rfl) (by kernel_rfl) (by kernel_rfl) (fun _ _ _ h => h) (Or.inl ⟨by rfl, ?yr8⟩) bu0 ?rr8
  case yr8 => (intro w hSw; go_simp; try with_reducible rfl)
  try simp only [Act.put, List.setIfInBounds_toArray, List.set_cons_zero, List.set_cons_succ]
  refine wpAnyH_take (i := 8) (oi := { dst := some 14, op := Op.fieldAddr 36 (Operand.tmp 1) 4, type := 0, pos := "frame.go:386", after := #[], guard := none }) (v := ?vr9) rfl (by kernel_rfl) (by kernel_rfl) (by kernel_rfl) (fun _ _ _ h => h) (Or.inl ⟨by rfl, ?yr9⟩) bu0 ?rr9
  case yr9 => (intro w hSw; go_simp; try with_reducible rfl)
  try simp only [Act.put, List.setIfInBounds_toArray, List.set_cons_zero, List.set_cons_succ]
  refine wpAnyH_take (i := 9) (oi := { dst := some 15, op := Op.load 4 (Operand.tmp 14), type := 4, pos := "frame.go:386", after := #[{ on := 8, ground := Ground.data }], guard := none }) (v := .bool p.fin) rfl (by kernel_rfl) (by kernel_rfl) (by kernel_rfl) (fun _ _ _ h => h) (Or.inl ⟨by rfl, ?yr10⟩) bu0 ?rr10
  case yr10 => (intro w hSw; have := (FK.out w hSw).c4; go_simp; try with_reducible rfl)
  try simp only [Act.put, List.setIfInBounds_toArray, List.set_cons_zero, List.set_cons_succ]
  refine wpAnyH_take (i := 10) (oi := { dst := some 16, op := Op.build 106 #[(0, Operand.const (Value.int IntKind.i64 4)), (1, Operand.tmp 15)], type := 106, pos := "frame.go:386", after := #[{ on := 9, ground := Ground.data }], guard := none }) (v := ?vr11) rfl (by kernel_rfl) (by kernel_rfl) (by kernel_rfl) (fun _ _ _ h => h) (Or.inl ⟨by rfl, ?yr11⟩) bu0 ?rr11
  case yr11 => (intro w hSw; go_simp; try with_reducible rfl)
  try simp only [Act.put, List.setIfInBounds_toArray, List.set_cons_zero, List.set_cons_succ]
  refine wpAnyH_take (i := 11) (oi := { dst := some 17, op := Op.fieldAddr 36 (Operand.tmp 1) 3, type := 0, pos := "frame.go:386", after := #[], guard := none }) (v := ?vr12) rfl (by kernel_rfl) (by kernel_rfl) (by kernel_rfl) (fun _ _ _ h => h) (Or.inl ⟨by rfl, ?yr12⟩) bu0 ?rr12
  case yr12 => (intro w hSw; go_simp; try with_reducible rfl)
  try simp only [Act.put, List.setIfInBounds_toArray, List.set_cons_zero, List.set_cons_succ]
  refine wpAnyH_take (i := 12) (oi := { dst := some 18, op := Op.load 3 (Operand.tmp 17), type := 3, pos := "frame.go:386", after := #[{ on := 11, ground := Ground.data }], guard := none }) (v := .int .i64 p.cd) rfl (by kernel_rfl) (by kernel_rfl) (by kernel_rfl) (fun _ _ _ h => h) (Or.inl ⟨by rfl, ?yr13⟩) bu0 ?rr13
  case yr13 => (intro w hSw; have := (FK.out w hSw).c3; go_simp; try with_reducible rfl)
  try simp only [Act.put, List.setIfInBounds_toArray, List.set_cons_zero, List.set_cons_succ]
  refine wpAnyH_take (i := 13) (oi := { dst := some 19, op := Op.binOp BinOp.neq 3 (Operand.tmp 18) (Operand.const (Value.int IntKind.i64 0)) 3, type := 4, pos := "frame.go:386", after := #[{ on := 12, ground := Ground.data }], guard := none }) (v := .bool b3') rfl (by kernel_rfl) (by kernel_rfl) (by kernel_rfl) (fun _ _ _ h => h) (Or.inl ⟨by rfl, ?yr14⟩) bu0 ?rr14
  case yr14 => (intro w hSw; rw [E3.out]; go_simp; try with_reducible rfl)
  try simp only [Act.put, List.setIfInBounds_toArray, List.set_cons_zero, List.set_cons_succ]
  refine wpAnyH_take (i := 14) (oi := { dst := some 20, op := Op.build 106 #[(0, Operand.const (Value.int IntKind.i64 8)), (1, Operand.tmp 19)], type := 106, pos := "frame.go:386", after := #[{ on := 13, ground := Ground.data }], guard := none }) (v := ?vr15) rfl (by kernel_rfl) (by kernel_rfl) (by kernel_rfl) (fun _ _ _ h => h) (Or.inl ⟨by rfl, ?yr15⟩) bu0 ?rr15
  case yr15 => (intro w hSw; go_simp; try with_reducible rfl)
  try simp only [Act.put, List.setIfInBounds_toArray, List.set_cons_zero, List.set_cons_succ]
  refine wpAnyH_take (i := 15) (oi := { dst := some 21, op := Op.fieldAddr 36 (Operand.tmp 1) 6, type := 0, pos := "frame.go:386", after := #[], guard := none }) (v := ?vr16) rfl (by kernel_rfl) (by kernel_rfl) (by kernel_rfl) (fun _ _ _ h => h) (Or.inl ⟨by rfl, ?yr16⟩) bu0 ?rr16
  case yr16 => (intro w hSw; go_simp; try with_reducible rfl)
  try simp only [Act.put, List.setIfInBounds_toArray, List.set_cons_zero, List.set_cons_succ]
  refine wpAnyH_take (i := 16) (oi := { dst := some 22, op := Op.load 27 (Operand.tmp 21), type := 27, pos := "frame.go:386", after := #[{ on := 15, ground := Ground.data }], guard := none }) (v := .agg (u8c p.nc)) rfl (by kernel_rfl) (by kernel_rfl) (by kernel_rfl) (fun _ _ _ h => h) (yieldsIf_load_mid (by rfl) 27 _ rfl w.heap.size 6 rfl (p.nc.map (Value.int .u8)) _ (fun w hw => (FK.out w hw).nc) Tryd.underlying27 rfl (by rw [List.length_map, HNC.out]; exact infoNc)) bu0 ?_
  try simp only [Act.put, List.setIfInBounds_toArray, List.set_cons_zero, List.set_cons_succ]
  refine wpAnyH_take (i := 17) (oi := { dst := some 23, op := Op.build 27 #[], type := 27, pos := "frame.go:386", after := #[], guard := none }) (v := .agg (u8c zn)) rfl (by kernel_rfl) (by kernel_rfl) (by kernel_rfl) (fun _ _ _ h => h) (yields_built (by rfl) 27 [] rfl [] rfl _ builtN) bu0 ?_
  try simp only [Act.put, List.setIfInBounds_toArray, List.set_cons_zero, List.set_cons_succ]
  refine wpAnyH_take (i := 18) (oi := { dst := some 24, op := Op.binOp BinOp.neq 27 (Operand.tmp 22) (Operand.tmp 23) 27, type := 4, pos := "frame.go:386", after := #[{ on := 16, ground := Ground.data }, { on := 17, ground := Ground.data }], guard := none }) (v := .bool (!(p.nc == zn))) rfl (by kernel_rfl) (by kernel_rfl) (by kernel_rfl) (fun _ _ _ h => h) (yields_neqN (by rfl) _ _ _ rfl p.nc zn HNC.out rfl rfl rfl) bu0 ?_
  try simp only [Act.put, List.setIfInBounds_toArray, List.set_cons_zero, List.set_cons_succ]
  refine wpAnyH_take (i := 19) (oi := { dst := some 25, op := Op.build 106 #[(0, Operand.const (Value.int IntKind.i64 16)), (1, Operand.tmp 24)], type := 106, pos := "frame.go:386", after := #[{ on := 18, ground := Ground.data }], guard := none }) (v := ?vr20) rfl (by kernel_rfl) (by kernel_rfl) (by kernel_rfl) (fun _ _ _ h => h) (Or.inl ⟨by rfl, ?yr20⟩) bu0 ?rr20
  case yr20 => (intro w hSw; go_simp; try with_reducible rfl)
  try simp only [Act.put, List.setIfInBounds_toArray, List.set_cons_zero, List.set_cons_succ]
  refine wpAnyH_take (i := 20) (oi := { dst := some 26, op := Op.fieldAddr 36 (Operand.tmp 1) 5, type := 0, pos := "frame.go:386", after := #[], guard := none }) (v := ?vr21) rfl (by kernel_rfl) (by kernel_rfl) (by kernel_rfl) (fun _ _ _ h => h) (Or.inl ⟨by rfl, ?yr21⟩) bu0 ?rr21
  case yr21 => (intro w hSw; go_simp; try with_reducible rfl)
  try simp only [Act.put, List.setIfInBounds_toArray, List.set_cons_zero, List.set_cons_succ]
  refine wpAnyH_take (i := 21) (oi := { dst := some 27, op := Op.load 9 (Operand.tmp 26), type := 9, pos := "frame.go:386", after := #[{ on := 20, ground := Ground.data }], guard := none }) (v := .string p.tx) rfl (by kernel_rfl) (by kernel_rfl) (by kernel_rfl) (fun _ _ _ h => h) (Or.inl ⟨by rfl, ?yr22⟩) bu0 ?rr22
  case yr22 => (intro w hSw; have := (FK.out w hSw).c5; go_simp; try with_reducible rfl)
  try simp only [Act.put, List.setIfInBounds_toArray, List.set_cons_zero, List.set_cons_succ]
  refine wpAnyH_take (i := 22) (oi := { dst := some 28, op := Op.binOp BinOp.neq 9 (Operand.tmp 27) (Operand.const (Value.string { data := #[] })) 9, type := 4, pos := "frame.go:386", after := #[{ on := 21, ground := Ground.data }], guard := none }) (v := .bool b5') rfl (by kernel_rfl) (by kernel_rfl) (by kernel_rfl) (fun _ _ _ h => h) (Or.inl ⟨by rfl, ?yr23⟩) bu0 ?rr23
  case yr23 => (intro w hSw; rw [E5.out]; go_simp; try with_reducible rfl)
  try simp only [Act.put, List.setIfInBounds_toArray, List.set_cons_zero, List.set_cons_succ]
  refine wpAnyH_take (i := 23) (oi := { dst := some 29, op := Op.build 106 #[(0, Operand.const (Value.int IntKind.i64 32)), (1, Operand.tmp 28)], type := 106, pos := "frame.go:386", after := #[{ on := 22, ground := Ground.data }], guard := none }) (v := ?vr24) rfl (by kernel_rfl) (by kernel_rfl) (by kernel_rfl) (fun _ _ _ h => h) (Or.inl ⟨by rfl, ?yr24⟩) bu0 ?rr24
  case yr24 => (intro w hSw; go_simp; try with_reducible rfl)
  try simp only [Act.put, List.setIfInBounds_toArray, List.set_cons_zero, List.set_cons_succ]
  refine wpAnyH_take (i := 24) (oi := { dst := some 30, op := Op.fieldAddr 36 (Operand.tmp 1) 7, type := 0, pos := "frame.go:386", after := #[], guard := none }) (v := ?vr25) rfl (by kernel_rfl) (by kernel_rfl) (by kernel_rfl) (fun _ _ _ h => h) (Or.inl ⟨by rfl, ?yr25⟩) bu0 ?rr25
  case yr25 => (intro w hSw; go_simp; try with_reducible rfl)
  try simp only [Act.put, List.setIfInBounds_toArray, List.set_cons_zero, List.set_cons_succ]
  refine wpAnyH_take (i := 25) (oi := { dst := some 31, op := Op.load 28 (Operand.tmp 30), type := 28, pos := "frame.go:386", after := #[{ on := 24, ground := Ground.data }], guard := none }) (v := .slice a p.sp.length c) rfl (by kernel_rfl) (by kernel_rfl) (by kernel_rfl) (fun _ _ _ h => h) (Or.inl ⟨by rfl, ?yr26⟩) bu0 ?rr26
  case yr26 => (intro w hSw; have := (FK.out w hSw).c22; go_simp; try with_reducible rfl)
  try simp only [Act.put, List.setIfInBounds_toArray, List.set_cons_zero, List.set_cons_succ]
  refine wpAnyH_take (i := 26) (oi := { dst := some 32, op := Op.call { callee := Callee.builtin Builtin.len, args := #[Operand.tmp 31], argTypes := #[28] }, type := 3, pos := "frame.go:386", after := #[{ on := 25, ground := Ground.data }], guard := none }) (v := .int .i64 p.sp.length) rfl (by kernel_rfl) (by kernel_rfl) (by kernel_rfl) (fun _ _ _ h => h) (Or.inl ⟨by rfl, ?yr27⟩) bu0 ?rr27
  case yr27 => (intro w hSw; go_simp; try with_reducible rfl)
  try simp only [Act.put, List.setIfInBounds_toArray, List.set_cons_zero, List.set_cons_succ]
  refine wpAnyH_take (i := 27) (oi := { dst := some 33, op := Op.binOp BinOp.gtr 3 (Operand.tmp 32) (Operand.const (Value.int IntKind.i64 0)) 3, type := 4, pos := "frame.go:386", after := #[{ on := 26, ground := Ground.data }], guard := none }) (v := .bool b6') rfl (by kernel_rfl) (by kernel_rfl) (by kernel_rfl) (fun _ _ _ h => h) (Or.inl ⟨by rfl, ?yr28⟩) bu0 ?rr28
  case yr28 => (intro w hSw; rw [E6.out]; go_simp; try with_reducible rfl)
  try simp only [Act.put, List.setIfInBounds_toArray, List.set_cons_zero, List.set_cons_succ]
  refine wpAnyH_take (i := 28) (oi := { dst := some 34, op := Op.build 106 #[(0, Operand.const (Value.int IntKind.i64 64)), (1, Operand.tmp 33)], type := 106, pos := "frame.go:386", after := #[{ on := 27, ground := Ground.data }], guard := none }) (v := ?vr29) rfl (by kernel_rfl) (by kernel_rfl) (by kernel_rfl) (fun _ _ _ h => h) (Or.inl ⟨by rfl, ?yr29⟩) bu0 ?rr29
  case yr29 => (intro w hSw; go_simp; try with_reducible rfl)
  try simp only [Act.put, List.setIfInBounds_toArray, List.set_cons_zero, List.set_cons_succ]
  refine wpAnyH_take (i := 29) (oi := { dst := some 35, op := Op.build 107 #[(0, Operand.tmp 9), (1, Operand.tmp 13), (2, Operand.tmp 16), (3, Operand.tmp 20), (4, Operand.tmp 25), (5, Operand.tmp 29), (6, Operand.tmp 34)], type := 107, pos := "frame.go:386", after := #[{ on := 3, ground := Ground.data }, { on := 7, ground := Ground.data }, { on := 10, ground := Ground.data }, { on := 14, ground := Ground.data }, { on := 19, ground := Ground.data }, { on := 23, ground := Ground.data }, { on := 28, ground := Ground.data }], guard := none }) (v := ?vr30) rfl (by kernel_rfl) (by kernel_rfl) (by kernel_rfl) (fun _ _ _ h => h) (Or.inl ⟨by rfl, ?yr30⟩) bu0 ?rr30
  case yr30 => (intro w hSw; go_simp; try with_reducible rfl)
  try simp only [Act.put, List.setIfInBounds_toArray, List.set_cons_zero, List.set_cons_succ]
  refine wpAnyH_take (i := 30) (oi := { dst := some 36, op := Op.move (Operand.const (Value.int IntKind.i64 0)), type := 3, pos := "frame.go:386", after := #[], guard := none }) (v := ?vr31) rfl (by kernel_rfl) (by kernel_rfl) (by kernel_rfl) (fun _ _ _ h => h) (Or.inl ⟨by rfl, ?yr31⟩) bu0 ?rr31
  case yr31 => (intro w hSw; go_simp; try with_reducible rfl)
  try simp only [Act.put, List.setIfInBounds_toArray, List.set_cons_zero, List.set_cons_succ]
  refine wpAnyH_done (by kernel_rfl) ?_ _
  have BZ : Hid (Below W1.heap.size W1 u0) := bu0
  have BW : Hid (Below w.heap.size w u0) := HB1.out.trans (BZ.out.mono HB1.out.size)
  rw [← E2.out, ← E4.out]
  clear FK E0 E1 E2 E3 E4 E5 E6 HNC BZ HB1
  generalize hu : u0 = U0 at *
  clear hu hu0 bu0
  have HFQ : Hid (filM p = flN (bl7 b0 b1' b2' b3' b4' b5' b6') 7) := by unfold Hid; rw [HFL.out, HFS.out]
  have HZB : Hid (∀ j, j < 7 → flN (bl7 b0 b1' b2' b3' b4' b5' b6') (j + 1) = if bl7 b0 b1' b2' b3' b4' b5' b6' j = true then bits .or .i64 (flN (bl7 b0 b1' b2' b3' b4' b5' b6') j) (pwN j) else flN (bl7 b0 b1' b2' b3' b4' b5' b6') j) := fun j _ => rfl
  have HZ0 : Hid (flN (bl7 b0 b1' b2' b3' b4' b5' b6') 0 = 0) := rfl
  clear HFL HFS
  go_wp2
  go_loopw [3, 36] (fun s i wr => ∃ j : Nat, j ≤ 7 ∧ i = .int .i64 j ∧ s = .int .i64 (flN (bl7 b0 b1' b2' b3' b4' b5' b6') j) ∧ Below w.heap.size w wr) (fun _ i _ => 7 - (intOf i).toNat)
  case atStart => exact ⟨0, by omega, rfl, by rw [HZ0.out], BW.out⟩
  case round =>
    obtain ⟨j, hj, rfl, rfl, bel⟩ := hrel
    have HB : Hid (Below w.heap.size w wr) := bel
    clear bel BW HZ0
    by_cases hlt : j < 7
    · have HS := HZB.out j hlt
      clear HZB
      generalize hC : flN (bl7 b0 b1' b2' b3' b4' b5' b6') j = C at *
      rcases (by omega : j = 0 ∨ j = 1 ∨ j = 2 ∨ j = 3 ∨ j = 4 ∨ j = 5 ∨ j = 6) with rfl | rfl | rfl | rfl | rfl | rfl | rfl
      · cases b0
        · have HS2 : Hid (flN (bl7 false b1' b2' b3' b4' b5' b6') 1 = C) := by unfold Hid; rw [HS]; simp [bl7]
          clear HS hC HFQ
          go_wp2_with (refine wpList_index rfl _ _ _ rfl _ _ (.agg #[.int .i64 1, .bool false]) rfl rfl (by kernel_rfl) ?_)
          go_roundw
          case rel => exact ⟨1, by omega, by go_num, by rw [HS2.out], HB.out.alloc HB.out.size _⟩
          case measure => simp [intOf]
        · have HS2 : Hid (flN (bl7 true b1' b2' b3' b4' b5' b6') 1 = bits .or .i64 C 1) := by unfold Hid; rw [HS]; simp [bl7, pwN]
          clear HS hC HFQ
          go_wp2_with (refine wpList_index rfl _ _ _ rfl _ _ (.agg #[.int .i64 1, .bool true]) rfl rfl (by kernel_rfl) ?_)
          go_roundw
          case rel => exact ⟨1, by omega, by go_num, by rw [HS2.out], HB.out.alloc HB.out.size _⟩
          case measure => simp [intOf]
      · cases b1'
        · have HS2 : Hid (flN (bl7 b0 false b2' b3' b4' b5' b6') 2 = C) := by unfold Hid; rw [HS]; simp [bl7]
          clear HS hC HFQ
          go_wp2_with (refine wpList_index rfl _ _ _ rfl _ _ (.agg #[.int .i64 2, .bool false]) rfl rfl (by kernel_rfl) ?_)
          go_roundw
          case rel => exact ⟨2, by omega, by go_num, by rw [HS2.out], HB.out.alloc HB.out.size _⟩
          case measure => simp [intOf]
        · have HS2 : Hid (flN (bl7 b0 true b2' b3' b4' b5' b6') 2 = bits .or .i64 C 2) := by unfold Hid; rw [HS]; simp [bl7, pwN]
          clear HS hC HFQ
          go_wp2_with (refine wpList_index rfl _ _ _ rfl _ _ (.agg #[.int .i64 2, .bool true]) rfl rfl (by kernel_rfl) ?_)
          go_roundw
          case rel => exact ⟨2, by omega, by go_num, by rw [HS2.out], HB.out.alloc HB.out.size _⟩
          case measure => simp [intOf]
      · cases b2'
        · have HS2 : Hid (flN (bl7 b0 b1' false b3' b4' b5' b6') 3 = C) := by unfold Hid; rw [HS]; simp [bl7]
          clear HS hC HFQ
          go_wp2_with (refine wpList_index rfl _ _ _ rfl _ _ (.agg #[.int .i64 4, .bool false]) rfl rfl (by kernel_rfl) ?_)
          go_roundw
          case rel => exact ⟨3, by omega, by go_num, by rw [HS2.out], HB.out.alloc HB.out.size _⟩
          case measure => simp [intOf]
        · have HS2 : Hid (flN (bl7 b0 b1' true b3' b4' b5' b6') 3 = bits .or .i64 C 4) := by unfold Hid; rw [HS]; simp [bl7, pwN]
          clear HS hC HFQ
          go_wp2_with (refine wpList_index rfl _ _ _ rfl _ _ (.agg #[.int .i64 4, .bool true]) rfl rfl (by kernel_rfl) ?_)
          go_roundw
          case rel => exact ⟨3, by omega, by go_num, by rw [HS2.out], HB.out.alloc HB.out.size _⟩
          case measure => simp [intOf]
      · cases b3'
        · have HS2 : Hid (flN (bl7 b0 b1' b2' false b4' b5' b6') 4 = C) := by unfold Hid; rw [HS]; simp [bl7]
          clear HS hC HFQ
          go_wp2_with (refine wpList_index rfl _ _ _ rfl _ _ (.agg #[.int .i64 8, .bool false]) rfl rfl (by kernel_rfl) ?_)
          go_roundw
          case rel => exact ⟨4, by omega, by go_num, by rw [HS2.out], HB.out.alloc HB.out.size _⟩
          case measure => simp [intOf]
        · have HS2 : Hid (flN (bl7 b0 b1' b2' true b4' b5' b6') 4 = bits .or .i64 C 8) := by unfold Hid; rw [HS]; simp [bl7, pwN]
          clear HS hC HFQ
          go_wp2_with (refine wpList_index rfl _ _ _ rfl _ _ (.agg #[.int .i64 8, .bool true]) rfl rfl (by kernel_rfl) ?_)
          go_roundw
          case rel => exact ⟨4, by omega, by go_num, by rw [HS2.out], HB.out.alloc HB.out.size _⟩
          case measure => simp [intOf]
      · cases b4'
        · have HS2 : Hid (flN (bl7 b0 b1' b2' b3' false b5' b6') 5 = C) := by unfold Hid; rw [HS]; simp [bl7]
          clear HS hC HFQ
          go_wp2_with (refine wpList_index rfl _ _ _ rfl _ _ (.agg #[.int .i64 16, .bool false]) rfl rfl (by kernel_rfl) ?_)
          go_roundw
          case rel => exact ⟨5, by omega, by go_num, by rw [HS2.out], HB.out.alloc HB.out.size _⟩
          case measure => simp [intOf]
        · have HS2 : Hid (flN (bl7 b0 b1' b2' b3' true b5' b6') 5 = bits .or .i64 C 16) := by unfold Hid; rw [HS]; simp [bl7, pwN]
          clear HS hC HFQ
          go_wp2_with (refine wpList_index rfl _ _ _ rfl _ _ (.agg #[.int .i64 16, .bool true]) rfl rfl (by kernel_rfl) ?_)
          go_roundw
          case rel => exact ⟨5, by omega, by go_num, by rw [HS2.out], HB.out.alloc HB.out.size _⟩
          case measure => simp [intOf]
      · cases b5'
        · have HS2 : Hid (flN (bl7 b0 b1' b2' b3' b4' false b6') 6 = C) := by unfold Hid; rw [HS]; simp [bl7]
          clear HS hC HFQ
          go_wp2_with (refine wpList_index rfl _ _ _ rfl _ _ (.agg #[.int .i64 32, .bool false]) rfl rfl (by kernel_rfl) ?_)
          go_roundw
          case rel => exact ⟨6, by omega, by go_num, by rw [HS2.out], HB.out.alloc HB.out.size _⟩
          case measure => simp [intOf]
        · have HS2 : Hid (flN (bl7 b0 b1' b2' b3' b4' true b6') 6 = bits .or .i64 C 32) := by unfold Hid; rw [HS]; simp [bl7, pwN]
          clear HS hC HFQ
          go_wp2_with (refine wpList_index rfl _ _ _ rfl _ _ (.agg #[.int .i64 32, .bool true]) rfl rfl (by kernel_rfl) ?_)
          go_roundw
          case rel => exact ⟨6, by omega, by go_num, by rw [HS2.out], HB.out.alloc HB.out.size _⟩
          case measure => simp [intOf]
      · cases b6'
        · have HS2 : Hid (flN (bl7 b0 b1' b2' b3' b4' b5' false) 7 = C) := by unfold Hid; rw [HS]; simp [bl7]
          clear HS hC HFQ
          go_wp2_with (refine wpList_index rfl _ _ _ rfl _ _ (.agg #[.int .i64 64, .bool false]) rfl rfl (by kernel_rfl) ?_)
          go_roundw
          case rel => exact ⟨7, by omega, by go_num, by rw [HS2.out], HB.out.alloc HB.out.size _⟩
          case measure => simp [intOf]
        · have HS2 : Hid (flN (bl7 b0 b1' b2' b3' b4' b5' true) 7 = bits .or .i64 C 64) := by unfold Hid; rw [HS]; simp [bl7, pwN]
          clear HS hC HFQ
          go_wp2_with (refine wpList_index rfl _ _ _ rfl _ _ (.agg #[.int .i64 64, .bool true]) rfl rfl (by kernel_rfl) ?_)
          go_roundw
          case rel => exact ⟨7, by omega, by go_num, by rw [HS2.out], HB.out.alloc HB.out.size _⟩
          case measure => simp [intOf]
    · obtain rfl : j = 7 := by omega
      have HFE : Hid (flN (bl7 b0 b1' b2' b3' b4' b5' b6') 7 = filM p) := HFQ.out.symm
      clear HZB HFQ
      generalize flN (bl7 b0 b1' b2' b3' b4' b5' b6') 7 = FM at *
      go_wp2
      go_ret
      exact ⟨by rw [← HFE.out]; rfl, HB.out⟩
end Go.Proofs.YthhghehnaopmhaaDoor
namespace Go.Proofs.YthhghehnaopmhaaDoor
open Go.RowKit
set_option maxRecDepth 100000

/-- What the walks ask of a plain form that is handed in. -/
structure FI (w : World) (p : Fm) (sv : Value) : Prop where
  k : FK p
  s : SSp w sv p.sp
  l : p.sp.length ≤ 100000
  t : p.tx.size ≤ 140737488355328
theorem FI.kept {w w' : World} {p : Fm} {sv : Value} (h : FI w p sv) (hb : Below w.heap.size w w') : FI w' p sv := ⟨h.k, h.s.kept hb, h.l, h.t⟩
set_option maxHeartbeats 8000000 in
theorem checkF_any (p : Fm) (sv : Value) (w : World) (ht : Tb w) (hi : FI w p sv) :
    Calls Tryd.prog 15 #[.agg (plA p sv)] w fun e w' => e = .returned (.int .i64 (chkM p)) ∧ Below w.heap.size w w' := by
  obtain ⟨kn, hkn⟩ : ∃ kn : Nat, p.k = kn := ⟨p.k.toNat, by have := hi.k.k0; omega⟩
  obtain ⟨W1, hW1⟩ : ∃ W1, W1 = w.alloc (.cells (plA p sv) 36) := ⟨_, rfl⟩
  have b1 : Below w.heap.size w W1 := by rw [hW1]; exact al_below _ _
  have s1 : W1.heap.size = w.heap.size + 1 := by rw [hW1]; simp
  have g1 : PF W1 w.heap.size 36 p sv := by rw [hW1]; exact PF.new w _ p sv
  have FK1 : Hid (∀ x, Below W1.heap.size W1 x → x.cell? ⟨w.heap.size, 0, none⟩ = some (.int .u8 (kn : Int)) ∧ x.cell? ⟨w.heap.size, 1, none⟩ = some (.int .i64 p.id) ∧ x.cell? ⟨w.heap.size, 2, none⟩ = some (.int .i64 p.n) ∧ x.cell? ⟨w.heap.size, 3, none⟩ = some (.int .i64 p.cd) ∧ x.cell? ⟨w.heap.size, 5, none⟩ = some (.string p.tx) ∧ x.cell? ⟨w.heap.size, 22, none⟩ = some sv) := fun x hx => by
    have q := (g1.kept hx).pc hi.k.nl
    exact ⟨by rw [q.c0, hkn], q.c1, q.c2, q.c3, q.c5, q.c22⟩
  have FR1 : Hid (∀ x, Below W1.heap.size W1 x → x.rangeAt w.heap.size 0 (plL p sv)) := fun x hx => (g1.kept hx).range
  have HB1 : Hid (Below w.heap.size w W1) := b1
  have HS1 : Hid (W1.heap.size = w.heap.size + 1) := s1
  have HI : Hid (FI w p sv) := hi
  have HLN : Hid ((Tryd.prog.info? 36).map (·.size) = some (plL p sv).length) := by unfold Hid; rw [plL_len hi.k.nl]; exact infoP
  obtain ⟨sa, sc, rfl, hs2, hs3, hs4⟩ := hi.s.shape
  have CF : Hid (∀ W, Calls Tryd.prog 25 #[.agg (plA p (.slice sa p.sp.length sc))] W fun e w' => e = .returned (.int .i64 (filM p)) ∧ Below W.heap.size W w') := fun W => filled_any p _ sa sc rfl hi.k.nl W
  have hn0 := hi.k.n0
  have hn1 := hi.k.n1
  clear b1 s1 g1 hs2 hs3 hs4
  have ck := isK_any (kn : Int) W1
  by_cases hK : isK p.k = true
  · have HK : Hid (isK p.k = true) := hK
    have hk10 : kn ≤ 10 := by unfold isK at hK; simp at hK; omega
    have htb := (ht.below HB1.out ht.pos).s kn hk10
    have HFB := fil_bad p (by omega) (by omega)
    rw [hkn] at hK HFB
    rw [hK] at ck
    have CH : Hid (∀ W, Calls Tryd.prog 27 #[.agg #[.int .i64 (pkN kn), .int .i64 (mT kn)], .int .i64 64] W fun e w' => e = .returned (.bool (hS kn)) ∧ Below W.heap.size W w') := fun W => has_k kn (by omega) (by omega) W 64 _ (by simp)
    have hmt := mT_le (kn : Int)
    obtain ⟨t0, t1⟩ := htb
    obtain ⟨W2, hW2⟩ : ∃ W2, W2 = W1.alloc (.cells #[.int .i64 (pkN kn), .int .i64 (mT kn)] 63) := ⟨_, rfl⟩
    have b2 : Below W1.heap.size W1 W2 := by rw [hW2]; exact al_below _ _
    have g2 : W2.heap[W1.heap.size]? = some (.cells #[.int .i64 (pkN kn), .int .i64 (mT kn)] 63 (0, 0)) := by rw [hW2]; exact heap_alloc_new _ _
    have FS : Hid (∀ x, From W2 x → x.cell? ⟨W1.heap.size, 0, none⟩ = some (.int .i64 (pkN kn)) ∧ x.cell? ⟨W1.heap.size, 1, none⟩ = some (.int .i64 (mT kn))) := fun x hx => by
      have := blk_kept g2 hx (blk_lt g2)
      exact ⟨by simp [World.cell?, this], by simp [World.cell?, this]⟩
    have HB2 : Hid (Below W1.heap.size W1 W2) := b2
    have FK : Hid (∀ x, From W2 x → x.cell? ⟨w.heap.size, 0, none⟩ = some (.int .u8 (kn : Int)) ∧ x.cell? ⟨w.heap.size, 1, none⟩ = some (.int .i64 p.id) ∧ x.cell? ⟨w.heap.size, 2, none⟩ = some (.int .i64 p.n) ∧ x.cell? ⟨w.heap.size, 3, none⟩ = some (.int .i64 p.cd) ∧ x.cell? ⟨w.heap.size, 5, none⟩ = some (.string p.tx) ∧ x.cell? ⟨w.heap.size, 22, none⟩ = some (.slice sa p.sp.length sc)) := fun x hx => FK1.out x (HB2.out.trans (Below.mono hx HB2.out.size))
    have FR : Hid (∀ x, From W2 x → x.rangeAt w.heap.size 0 (plL p (.slice sa p.sp.length sc))) := fun x hx => FR1.out x (HB2.out.trans (Below.mono hx HB2.out.size))
    have hks := (FK1.out W1 (Below.refl _ _)).1
    obtain ⟨bb, hbb⟩ : ∃ bb, bb = (bits .andNot .i64 (filM p) (pkN kn) != 0) := ⟨_, rfl⟩
    have HBB : Hid (bb = (bits .andNot .i64 (filM p) (pkN kn) != 0)) := hbb
    have HBQ : Hid (bb = decide (badF p)) := hbb.trans HFB
    have hk11 : (kn : Int) < 11 := by omega
    have HM : Hid (kn ≤ 10 ∧ p.k = kn) := ⟨hk10, hkn⟩
    clear hK b2 g2 hbb HFB hkn ht hi hk10
    generalize pkN (kn : Int) = pk at *
    have HMT0 : Hid (mT (kn : Int) = mT (kn : Int)) := rfl
    obtain ⟨mt, hmt0⟩ : ∃ mt, mt = mT (kn : Int) := ⟨_, rfl⟩
    have HMT : Hid (mT (kn : Int) = mt) := hmt0.symm
    rw [← hmt0] at t1 CH hW2 FS hmt
    clear HMT0 hmt0
    go_enter Tryd.func15, Tryd.ntmps15
    go_upto_region 1 with fail
    rw [← hW1]
    clear hW1
    go_wp2_with fail
    refine ck.mono ?_
    rintro e wq ⟨rfl, eq⟩
    rw [eq]
    clear ck eq wq
    go_upto_region 4 with fail
    rw [← hW2]
    clear hW2
    refine wp_region_held_drew (S := From W2) (by kernel_rfl) (Below.drew (Below.refl _ _)) (fun _ => ?_)
    refine wpAnyH_name (fun u0 hu0 => ?_)
    have bu0 : Below W2.heap.size W2 u0 := by rw [hu0.out]; exact Below.drew (Below.refl _ _)
    refine wpAnyH_take (i := 0) (oi := { dst := some 14, op := Op.load 36 (Operand.tmp 1), type := 36, pos := "frame.go:147", after := #[], guard := none }) (v := .agg (plA p (.slice sa p.sp.length sc))) rfl (by kernel_rfl) (by kernel_rfl) (by kernel_rfl) (fun _ _ _ h => h) (yieldsIf_load_mid (by rfl) 36 _ rfl w.heap.size 0 rfl (plL p (.slice sa p.sp.length sc)) _ (fun x hx => FR.out x hx) Tryd.underlying36 rfl HLN.out) bu0 ?_
    try simp only [Act.put, List.setIfInBounds_toArray, List.set_cons_zero, List.set_cons_succ]
    refine wpAnyH_take (i := 2) (oi := { dst := some 16, op := Op.fieldAddr 63 (Operand.tmp 3) 0, type := 0, pos := "frame.go:147", after := #[], guard := none }) (v := ?vr2) rfl (by kernel_rfl) (by kernel_rfl) (by kernel_rfl) (fun _ _ _ h => h) (Or.inl ⟨by rfl, ?yr2⟩) bu0 ?rr2
    case yr2 => (intro w hSw; go_simp; try with_reducible rfl)
    try simp only [Act.put, List.setIfInBounds_toArray, List.set_cons_zero, List.set_cons_succ]
    refine wpAnyH_take (i := 3) (oi := { dst := some 17, op := Op.load 3 (Operand.tmp 16), type := 3, pos := "frame.go:147", after := #[{ on := 2, ground := Ground.data }], guard := none }) (v := .int .i64 pk) rfl (by kernel_rfl) (by kernel_rfl) (by kernel_rfl) (fun _ _ _ h => h) (Or.inl ⟨by rfl, ?yr3⟩) bu0 ?rr3
    case yr3 => (intro w hSw; have := (FS.out w hSw).1; go_simp; try with_reducible rfl)
    try simp only [Act.put, List.setIfInBounds_toArray, List.set_cons_zero, List.set_cons_succ]
    refine wpAnyH_ready (rs := [1]) (by kernel_rfl) (by simp) ?_
    refine AllReadyH.cons (o := { dst := some 15, op := Op.call { callee := Callee.value (Operand.func 25), args := #[Operand.tmp 14], argTypes := #[36] }, type := 3, pos := "frame.go:147", after := #[{ on := 0, ground := Ground.data }], guard := none }) rfl (fun KK hKK => ?_) ?_
    · go_simp
      refine (CF.out _).mono ?_
      rintro e u4' ⟨rfl, bu4'⟩
      (try go_wp2_with fail)
      refine hKK.out _ _ (bu0.trans (Below.mono (bu4') bu0.size)) (fun _ => ?_)
      clear hKK KK
      try simp only [Act.put, List.setIfInBounds_toArray, List.set_cons_zero, List.set_cons_succ]
      refine wpAnyH_name (fun u4 hu4 => ?_)
      have bu4 : Below W2.heap.size W2 u4 := by rw [hu4.out]; exact (bu0.trans (Below.mono (bu4') bu0.size))
      refine wpAnyH_take (i := 4) (oi := { dst := some 18, op := Op.binOp BinOp.andNot 3 (Operand.tmp 15) (Operand.tmp 17) 3, type := 3, pos := "frame.go:147", after := #[{ on := 1, ground := Ground.data }, { on := 3, ground := Ground.data }], guard := none }) (v := .int .i64 (bits .andNot .i64 (filM p) pk)) rfl (by kernel_rfl) (by kernel_rfl) (by kernel_rfl) (fun _ _ _ h => h) (Or.inl ⟨by rfl, ?yr5⟩) bu4 ?rr5
      case yr5 => (intro w hSw; go_simp; try with_reducible rfl)
      try simp only [Act.put, List.setIfInBounds_toArray, List.set_cons_zero, List.set_cons_succ]
      refine wpAnyH_take (i := 5) (oi := { dst := some 19, op := Op.binOp BinOp.neq 3 (Operand.tmp 18) (Operand.const (Value.int IntKind.i64 0)) 3, type := 4, pos := "frame.go:147", after := #[{ on := 4, ground := Ground.data }], guard := none }) (v := .bool bb) rfl (by kernel_rfl) (by kernel_rfl) (by kernel_rfl) (fun _ _ _ h => h) (Or.inl ⟨by rfl, ?yr6⟩) bu4 ?rr6
      case yr6 => (intro w hSw; rw [HBB.out]; go_simp; try with_reducible rfl)
      try simp only [Act.put, List.setIfInBounds_toArray, List.set_cons_zero, List.set_cons_succ]
      refine wpAnyH_take (i := 6) (oi := { dst := some 13, op := Op.assign (Operand.tmp 19), type := 4, pos := "frame.go:147", after := #[{ on := 5, ground := Ground.data }, { on := 1, ground := Ground.chain }], guard := none }) (v := ?vr7) rfl (by kernel_rfl) (by kernel_rfl) (by kernel_rfl) (fun _ _ _ h => h) (Or.inl ⟨by rfl, ?yr7⟩) bu4 ?rr7
      case yr7 => (intro w hSw; go_simp; try with_reducible rfl)
      try simp only [Act.put, List.setIfInBounds_toArray, List.set_cons_zero, List.set_cons_succ]
      refine wpAnyH_done (by kernel_rfl) ?_ _
      have BZ0 : Hid (From W2 u4) := bu4
      have HW5 : Hid (∀ x, From W2 x → Below w.heap.size w x) := fun x hx => HB1.out.trans ((HB2.out.trans (Below.mono hx HB2.out.size)).mono HB1.out.size)
      generalize hu : u4 = U0 at *
      have BZ : Hid (From W2 U0) := BZ0.out
      have BW : Hid (Below w.heap.size w U0) := HW5.out U0 BZ.out
      obtain ⟨k0, k1, k2, k3, k5, k22⟩ := FK.out U0 BZ.out
      obtain ⟨s0, s1⟩ := FS.out U0 BZ.out
      clear BZ0
      by_cases hb : badF p
      · have HR : Hid (chkM p = 4) := by unfold Hid chkM; rw [if_neg (by rw [HK.out]; decide), if_pos hb]
        obtain rfl : bb = true := by rw [HBQ.out]; simpa using hb
        go_wp2
        go_ret
        exact ⟨by rw [HR.out]; rfl, BW.out⟩
      · obtain rfl : bb = false := by rw [HBQ.out]; simpa using hb
        have cu1 := upTo_any p.id 1048576 U0
        by_cases q1 : 0 ≤ p.id ∧ p.id ≤ 1048576
        · have e1 : (decide (0 ≤ p.id) && decide (p.id ≤ 1048576)) = true := by simp [q1.1, q1.2]
          have Q1 : Hid (0 ≤ p.id ∧ p.id ≤ 1048576) := q1
          rw [e1] at cu1
          clear e1 q1
          go_wp2_with fail
          refine cu1.mono ?_
          rintro e wq ⟨rfl, eq⟩
          rw [eq]
          clear cu1 eq wq
          have cu2 := upTo_any p.cd 65536 U0
          by_cases q2 : 0 ≤ p.cd ∧ p.cd ≤ 65536
          · have e2 : (decide (0 ≤ p.cd) && decide (p.cd ≤ 65536)) = true := by simp [q2.1, q2.2]
            have Q2 : Hid (0 ≤ p.cd ∧ p.cd ≤ 65536) := q2
            rw [e2] at cu2
            clear e2 q2
            go_wp2_with fail
            refine cu2.mono ?_
            rintro e wq ⟨rfl, eq⟩
            rw [eq]
            clear cu2 eq wq
            have cu3 := upTo_any p.n 1099511627776 U0
            by_cases q3 : 0 ≤ p.n ∧ p.n ≤ 1099511627776
            · have e3 : (decide (0 ≤ p.n) && decide (p.n ≤ 1099511627776)) = true := by simp [q3.1, q3.2]
              have Q3 : Hid (0 ≤ p.n ∧ p.n ≤ 1099511627776) := q3
              rw [e3] at cu3
              clear e3 q3
              go_wp2_with fail
              refine cu3.mono ?_
              rintro e wq ⟨rfl, eq⟩
              rw [eq]
              clear cu3 eq wq
              have HNB : Hid (¬ badF p) := hb
              have HNO : Hid (¬ outF p) := by have := Q1.out; have := Q2.out; have := Q3.out; unfold Hid outF; omega
              have HNN : Hid (0 ≤ p.n ∧ p.n ≤ 1099511627776) := Q3.out
              clear hb Q1 Q2 Q3
              have ch := CH.out U0
              by_cases hs : hS (kn : Int) = true
              · rw [hs] at ch
                go_wp2_with fail
                refine ch.mono ?_
                rintro e w5 ⟨rfl, b5⟩
                have F5 : Hid (From W2 w5) := BZ.out.trans (Below.mono b5 BZ.out.size)
                have cc := check_any w5 _ p.sp (HI.out.s.kept (HW5.out w5 F5.out)) HI.out.l
                obtain ⟨k0, k1, k2, k3, k5, k22⟩ := FK.out w5 F5.out
                obtain ⟨s0, s1⟩ := FS.out w5 F5.out
                clear ch b5
                go_wp2_with fail
                refine cc.mono ?_
                rintro e w6 ⟨rfl, b6⟩
                have F6 : Hid (From W2 w6) := F5.out.trans (Below.mono b6 F5.out.size)
                clear cc b6 k0 k1 k2 k3 k5 k22 s0 s1
                obtain ⟨k0, k1, k2, k3, k5, k22⟩ := FK.out w6 F6.out
                obtain ⟨s0, s1⟩ := FS.out w6 F6.out
                have BX : Hid (Below w.heap.size w w6) := HW5.out w6 F6.out
                by_cases hc : chkL p.sp = 0
                · have HNS : Hid (¬ (hS p.k = true ∧ chkL p.sp ≠ 0)) := fun q => q.2 hc
                  have tc : (chkL p.sp != 0) = false := by rw [hc]; rfl
                  clear hc
                  by_cases h5 : mt < (p.tx.size : Int)
                  · have HR : Hid (chkM p = 5) := by unfold Hid chkM; rw [if_neg (by rw [HK.out]; decide), if_neg HNB.out, if_neg HNO.out, if_neg HNS.out, if_pos (by rw [HM.out.2, HMT.out]; exact h5)]
                    go_wp2
                    go_ret
                    exact ⟨by rw [HR.out]; rfl, BX.out⟩
                  · have h5' : ¬ mt < (p.tx.size : Int) := h5
                    by_cases h3 : (kn : Int) = 3
                    · have t3 : ((kn : Int) == 3) = true := by rw [h3]; rfl
                      have hno := HNN.out
                      have sw : IntKind.i64.wrap (p.n + (p.tx.size : Int)) = p.n + (p.tx.size : Int) := by rw [IntKind.wrap_i64]; omega
                      by_cases h6 : 1099511627776 < p.n + (p.tx.size : Int)
                      · have HR : Hid (chkM p = 13) := by unfold Hid chkM; rw [if_neg (by rw [HK.out]; decide), if_neg HNB.out, if_neg HNO.out, if_neg HNS.out, if_neg (by rw [HM.out.2, HMT.out]; exact h5), if_pos (by rw [HM.out.2]; exact ⟨h3, h6⟩)]
                        have t6 : decide (p.n + (p.tx.size : Int) > 1099511627776) = true := by simp; omega
                        clear h3
                        go_wp2
                        go_ret
                        exact ⟨by rw [HR.out]; rfl, BX.out⟩
                      · have HR : Hid (chkM p = 0) := by unfold Hid chkM; rw [if_neg (by rw [HK.out]; decide), if_neg HNB.out, if_neg HNO.out, if_neg HNS.out, if_neg (by rw [HM.out.2, HMT.out]; exact h5), if_neg (fun q => h6 q.2)]
                        have t6 : decide (p.n + (p.tx.size : Int) > 1099511627776) = false := by simp; omega
                        clear h3
                        go_wp2
                        go_ret
                        exact ⟨by rw [HR.out]; rfl, BX.out⟩
                    · have t3 : ((kn : Int) == 3) = false := by simpa using h3
                      have HR : Hid (chkM p = 0) := by unfold Hid chkM; rw [if_neg (by rw [HK.out]; decide), if_neg HNB.out, if_neg HNO.out, if_neg HNS.out, if_neg (by rw [HM.out.2, HMT.out]; exact h5), if_neg (by rw [HM.out.2]; exact fun q => h3 q.1)]
                      clear h3
                      go_wp2
                      go_ret
                      exact ⟨by rw [HR.out]; rfl, BX.out⟩
                · have HR : Hid (chkM p = chkL p.sp) := by unfold Hid chkM; rw [if_neg (by rw [HK.out]; decide), if_neg HNB.out, if_neg HNO.out, if_pos ⟨by rw [HM.out.2]; exact hs, hc⟩]
                  have tc : (chkL p.sp != 0) = true := by simpa using hc
                  clear hc
                  go_wp2
                  go_ret
                  exact ⟨by rw [HR.out]; rfl, BX.out⟩
              · have hs' : hS (kn : Int) = false := by simpa using hs
                have HNS : Hid (¬ (hS p.k = true ∧ chkL p.sp ≠ 0)) := by rw [HM.out.2]; exact fun q => hs q.1
                rw [hs'] at ch
                go_wp2_with fail
                refine ch.mono ?_
                rintro e w6 ⟨rfl, b6⟩
                have F6 : Hid (From W2 w6) := BZ.out.trans (Below.mono b6 BZ.out.size)
                clear ch b6 k0 k1 k2 k3 k5 k22 s0 s1
                obtain ⟨k0, k1, k2, k3, k5, k22⟩ := FK.out w6 F6.out
                obtain ⟨s0, s1⟩ := FS.out w6 F6.out
                have BX : Hid (Below w.heap.size w w6) := HW5.out w6 F6.out
                by_cases h5 : mt < (p.tx.size : Int)
                · have HR : Hid (chkM p = 5) := by unfold Hid chkM; rw [if_neg (by rw [HK.out]; decide), if_neg HNB.out, if_neg HNO.out, if_neg HNS.out, if_pos (by rw [HM.out.2, HMT.out]; exact h5)]
                  go_wp2
                  go_ret
                  exact ⟨by rw [HR.out]; rfl, BX.out⟩
                · have h5' : ¬ mt < (p.tx.size : Int) := h5
                  by_cases h3 : (kn : Int) = 3
                  · have t3 : ((kn : Int) == 3) = true := by rw [h3]; rfl
                    have hno := HNN.out
                    have sw : IntKind.i64.wrap (p.n + (p.tx.size : Int)) = p.n + (p.tx.size : Int) := by rw [IntKind.wrap_i64]; omega
                    by_cases h6 : 1099511627776 < p.n + (p.tx.size : Int)
                    · have HR : Hid (chkM p = 13) := by unfold Hid chkM; rw [if_neg (by rw [HK.out]; decide), if_neg HNB.out, if_neg HNO.out, if_neg HNS.out, if_neg (by rw [HM.out.2, HMT.out]; exact h5), if_pos (by rw [HM.out.2]; exact ⟨h3, h6⟩)]
                      have t6 : decide (p.n + (p.tx.size : Int) > 1099511627776) = true := by simp; omega
                      clear h3
                      go_wp2
                      go_ret
                      exact ⟨by rw [HR.out]; rfl, BX.out⟩
                    · have HR : Hid (chkM p = 0) := by unfold Hid chkM; rw [if_neg (by rw [HK.out]; decide), if_neg HNB.out, if_neg HNO.out, if_neg HNS.out, if_neg (by rw [HM.out.2, HMT.out]; exact h5), if_neg (fun q => h6 q.2)]
                      have t6 : decide (p.n + (p.tx.size : Int) > 1099511627776) = false := by simp; omega
                      clear h3
                      go_wp2
                      go_ret
                      exact ⟨by rw [HR.out]; rfl, BX.out⟩
                  · have t3 : ((kn : Int) == 3) = false := by simpa using h3
                    have HR : Hid (chkM p = 0) := by unfold Hid chkM; rw [if_neg (by rw [HK.out]; decide), if_neg HNB.out, if_neg HNO.out, if_neg HNS.out, if_neg (by rw [HM.out.2, HMT.out]; exact h5), if_neg (by rw [HM.out.2]; exact fun q => h3 q.1)]
                    clear h3
                    go_wp2
                    go_ret
                    exact ⟨by rw [HR.out]; rfl, BX.out⟩
            · have e3 : (decide (0 ≤ p.n) && decide (p.n ≤ 1099511627776)) = false := by simp; omega
              have HR : Hid (chkM p = 13) := by unfold Hid chkM; rw [if_neg (by rw [HK.out]; decide), if_neg hb, if_pos (by unfold outF; omega)]
              rw [e3] at cu3
              clear e3 q3 hb
              go_wp2_with fail
              refine cu3.mono ?_
              rintro e wq ⟨rfl, eq⟩
              rw [eq]
              clear cu3 eq wq
              go_wp2
              go_ret
              exact ⟨by rw [HR.out]; rfl, BW.out⟩
          · have e2 : (decide (0 ≤ p.cd) && decide (p.cd ≤ 65536)) = false := by simp; omega
            have HR : Hid (chkM p = 13) := by unfold Hid chkM; rw [if_neg (by rw [HK.out]; decide), if_neg hb, if_pos (by unfold outF; omega)]
            rw [e2] at cu2
            clear e2 q2 hb
            go_wp2_with fail
            refine cu2.mono ?_
            rintro e wq ⟨rfl, eq⟩
            rw [eq]
            clear cu2 eq wq
            go_wp2
            go_ret
            exact ⟨by rw [HR.out]; rfl, BW.out⟩
        · have e1 : (decide (0 ≤ p.id) && decide (p.id ≤ 1048576)) = false := by simp; omega
          have HR : Hid (chkM p = 13) := by unfold Hid chkM; rw [if_neg (by rw [HK.out]; decide), if_neg hb, if_pos (by unfold outF; omega)]
          rw [e1] at cu1
          clear e1 q1 hb
          go_wp2_with fail
          refine cu1.mono ?_
          rintro e wq ⟨rfl, eq⟩
          rw [eq]
          clear cu1 eq wq
          go_wp2
          go_ret
          exact ⟨by rw [HR.out]; rfl, BW.out⟩
    exact AllReadyH.nil
  · have hK' : isK p.k = false := by simpa using hK
    have HR : Hid (chkM p = 9) := by unfold Hid chkM; rw [if_pos hK']
    have hks := (FK1.out W1 (Below.refl _ _)).1
    rw [hkn] at hK'
    rw [hK'] at ck
    clear hK hK' hkn ht hi
    go_enter Tryd.func15, Tryd.ntmps15
    go_upto_region 1 with fail
    rw [← hW1]
    clear hW1
    go_wp2_with fail
    refine ck.mono ?_
    rintro e wq ⟨rfl, eq⟩
    rw [eq]
    clear ck eq wq
    go_wp2
    go_ret
    exact ⟨by rw [HR.out]; rfl, HB1.out⟩
end Go.Proofs.YthhghehnaopmhaaDoor
namespace Go.Proofs.YthhghehnaopmhaaDoor
open Go.RowKit
set_option maxRecDepth 100000

theorem is_flat {k : Nat} {w : World} {b off n c : Nat} {L : List (List Value)} (h : IS k w (.slice (some ⟨b, off, none⟩) n c) L) (hk : 0 < k) : ∀ j u, L.flatten[j]? = some u → w.cell? ((⟨b, off, none⟩ : Addr).add j) = some u := fun j u hj => by
  have hl : j < L.length * k := by rw [← h.cl.flat]; exact (List.getElem?_eq_some_iff.1 hj).1
  have hi : j / k < L.length := (Nat.div_lt_iff_lt_mul hk).2 hl
  have hm : j % k < k := Nat.mod_lt _ hk
  have hcl := (h.cl _ (atC_mem L _ hi)).1
  obtain ⟨v, hv⟩ : ∃ v, (atC L (j / k))[j % k]? = some v := ⟨(atC L (j / k))[j % k]'(by rw [hcl]; exact hm), List.getElem?_eq_getElem _⟩
  have e := h.cl.get hi hv
  rw [Nat.div_add_mod' j k, hj] at e
  cases e
  obtain ⟨b', off', e', hr⟩ := h.at _ hi
  cases e'
  have q := hr _ _ hv
  rw [Addr.add_lit]
  rwa [Nat.add_assoc, Nat.div_add_mod' j k] at q
theorem infoSp : (Tryd.prog.info? 109).map (fun i => (i.zero, i.size, i.bytes)) = some (some (.agg #[.int .i64 0, .int .i64 0]), 2, 16) := by kernel_rfl
set_option maxHeartbeats 1000000 in
theorem ownSpans_any (w : World) (v : Value) (l : List Sp) (h : SSp w v l) (hl : l.length ≤ 100000) :
    Calls Tryd.prog 29 #[v] w fun e w' => ∃ v', e = .returned v' ∧ RSp w' w.heap.size v' l ∧ Below w.heap.size w w' := by
  obtain ⟨a, c, rfl, h1, h2, h3⟩ := h.shape
  obtain ⟨i0, hi, hz0, hz1, hz2⟩ := info_parts infoSp
  have h0 : RSp w w.heap.size (.slice none 0 0) [] := RI.nil _ _ _ _
  cases a with
  | none =>
    obtain rfl : c = 0 := h3 rfl
    obtain rfl : l = [] := List.length_eq_zero_iff.1 (by omega)
    clear h hi hz0 hz1 hz2
    go_enter Tryd.func29, Tryd.ntmps29
    go_wp2
    go_ret
    exact ⟨_, rfl, h0, Below.refl _ _⟩
  | some x =>
    obtain ⟨b, off, sp⟩ := x
    have hsp : l ≠ [] → sp = none := fun hn => by
      obtain ⟨b', off', e, -⟩ := SSp.at h 0 (List.length_pos_iff.2 hn)
      cases e
      rfl
    have hcl : ((l.map spc).flatten).length = l.length * 2 := by rw [(spc_cl l).flat, List.length_map]
    have hc : ∀ j u, (l.map spc).flatten[j]? = some u → w.cell? ((⟨b, off, sp⟩ : Addr).add j) = some u := fun j u hj => by
      have hn : l ≠ [] := fun e => by rw [e] at hj; simp at hj
      obtain rfl := hsp hn
      exact is_flat h (by omega) j u hj
    have HO : Hid (∀ v' w', w'.ownsRow w.heap.size 109 2 v' (0 + l.length) ([] ++ (l.map spc).flatten) → RSp w' w.heap.size v' l) := fun v' w' ho => ⟨by rw [Nat.zero_add, List.nil_append] at ho; rw [List.length_map]; exact ho, spc_cl l⟩
    have h1' := (spc_cl l).ones
    have HO2 : Hid (∀ v' w', w'.ownsRow w.heap.size 109 2 v' l.length (l.map spc).flatten → RSp w' w.heap.size v' l) := fun v' w' ho => HO.out v' w' (by rw [Nat.zero_add, List.nil_append]; exact ho)
    clear HO
    generalize (l.map spc).flatten = F at *
    generalize l.length = n at *
    go_enter Tryd.func29, Tryd.ntmps29
    go_wp2_with (at_builtin; refine wpList_append_own_wide w rfl _ _ 28 rfl w.heap.size 109 i0 _ 2 16 Tryd.underlying28 hi hz0 hz1 hz2 rfl (by decide) _ 0 [] rfl (World.ownsRow_nil _ _ _ _) ⟨b, off, sp⟩ n c F rfl hcl hc h1' (by unfold maxLen; omega) (by omega) (Nat.le_refl _) (Hid.out ?_))
    unfold Hid
    intro v' w' ho hg hx
    go_wp2
    go_ret
    exact ⟨_, rfl, HO2.out _ _ ho, (Below.refl _ _).grown hg (Nat.le_refl _) (fun k e => by cases e)⟩
/-- The value of a frame, its Spans being some slice. -/
def frV (p : Fm) (sv : Value) : Value :=
  if p.k = 1 then .iface 70 (.agg #[])
  else if p.k = 2 then .iface 73 (.agg #[.int .i64 p.n, sv])
  else if p.k = 3 then .iface 46 (.agg #[.int .i64 p.id, .int .i64 p.n, .bool p.fin, .string p.tx])
  else if p.k = 4 then .iface 75 (.agg #[.int .i64 p.id, .int .i64 p.cd, .int .i64 p.n])
  else if p.k = 5 then .iface 77 (.agg #[.int .i64 p.id, .int .i64 p.cd])
  else if p.k = 6 then .iface 79 (.agg #[.int .i64 p.n])
  else if p.k = 7 then .iface 81 (.agg #[.int .i64 p.id, .int .i64 p.n])
  else if p.k = 8 then .iface 82 (.agg #[.int .i64 p.n])
  else if p.k = 9 then .iface 84 (.agg (p.nc.map (Value.int .u8) ++ [Value.string p.tx]).toArray)
  else if p.k = 10 then .iface 86 (.agg #[.int .i64 p.cd, .string p.tx])
  else .nilIface
end Go.Proofs.YthhghehnaopmhaaDoor
namespace Go.Proofs.YthhghehnaopmhaaDoor
open Go.RowKit
set_option maxRecDepth 100000

theorem nc16 : ∀ {l : List Int}, l.length = 16 → ∃ a b c d e f g h i j k m n o p q, l = [a, b, c, d, e, f, g, h, i, j, k, m, n, o, p, q]
  | [a, b, c, d, e, f, g, h, i, j, k, m, n, o, p, q], _ => ⟨a, b, c, d, e, f, g, h, i, j, k, m, n, o, p, q, rfl⟩
/-- The spans of a frame. -/
def spO (p : Fm) : List Sp := if hS p.k then p.sp else []
set_option maxHeartbeats 8000000 in
theorem buildF_any (p : Fm) (sv : Value) (w : World) (hi : FI w p sv) :
    Calls Tryd.prog 16 #[.agg (plA p sv)] w fun e w' => ∃ sv', e = .returned (frV p sv') ∧ RSp w' w.heap.size sv' (spO p) ∧ Below w.heap.size w w' := by
  obtain ⟨W1, hW1⟩ : ∃ W1, W1 = w.alloc (.cells (plA p sv) 36) := ⟨_, rfl⟩
  have b1 : Below w.heap.size w W1 := by rw [hW1]; exact al_below _ _
  have g1 : PF W1 w.heap.size 36 p sv := by rw [hW1]; exact PF.new w _ p sv
  have FK : Hid (∀ x, From W1 x → PC x w.heap.size p sv) := fun x hx => (g1.kept hx).pc hi.k.nl
  have HB1 : Hid (Below w.heap.size w W1) := b1
  have HNL : Hid (p.nc.length = 16) := hi.k.nl
  have CO : Hid (∀ x, From W1 x → Calls Tryd.prog 29 #[sv] x fun e w' => ∃ v', e = .returned v' ∧ RSp w' x.heap.size v' p.sp ∧ Below x.heap.size x w') := fun x hx => ownSpans_any x sv p.sp ((hi.s.kept b1).kept hx) hi.l
  have HNIL : Hid (∀ x, RSp x w.heap.size (.slice none 0 0) []) := fun x => RI.nil _ _ _ _
  have h0 := hi.k.k0
  have h1 := hi.k.k1
  obtain ⟨c0, c1, c2, c3, c4, c5, c22, cn⟩ := FK.out W1 (Below.refl _ _)
  obtain ⟨sa, sc, rfl, -, -, -⟩ := hi.s.shape
  clear b1 g1 hi
  have hcase : (p.k = 1 ∨ p.k = 2 ∨ p.k = 3 ∨ p.k = 4 ∨ p.k = 5 ∨ p.k = 6 ∨ p.k = 7 ∨ p.k = 8 ∨ p.k = 9 ∨ p.k = 10) ∨ (p.k ≠ 1 ∧ p.k ≠ 2 ∧ p.k ≠ 3 ∧ p.k ≠ 4 ∧ p.k ≠ 5 ∧ p.k ≠ 6 ∧ p.k ≠ 7 ∧ p.k ≠ 8 ∧ p.k ≠ 9 ∧ p.k ≠ 10) := by omega
  rcases hcase with hc | hc
  · rcases hc with hk | hk | hk | hk | hk | hk | hk | hk | hk | hk
    · have HV : Hid (frV p (.slice none 0 0) = .iface 70 (.agg #[])) := by unfold Hid frV; simp only [hk]; rfl
      have HSP : Hid (spO p = []) := by unfold spO; rw [hk]; rfl
      rw [hk] at c0
      clear FK CO hk h0 h1 cn HNL
      go_enter Tryd.func16, Tryd.ntmps16
      go_upto_region 1 with fail
      rw [← hW1]
      clear hW1
      go_wp2
      go_ret
      exact ⟨_, by rw [HV.out]; rfl, by rw [HSP.out]; exact HNIL.out W1, HB1.out⟩
    · have HSP : Hid (spO p = p.sp) := by unfold spO; rw [hk]; rfl
      have HV : Hid (∀ v, frV p v = .iface 73 (.agg #[.int .i64 p.n, v])) := fun v => by unfold frV; simp only [hk]; rfl
      rw [hk] at c0
      clear hk h0 h1 cn HNL
      go_enter Tryd.func16, Tryd.ntmps16
      go_upto_region 1 with fail
      rw [← hW1]
      clear hW1
      go_upto_region 5 with fail
      refine wp_region_held_drew (S := From W1) (by kernel_rfl) (Below.drew (Below.refl _ _)) (fun _ => ?_)
      refine wpAnyH_name (fun u0 hu0 => ?_)
      have bu0 : Below W1.heap.size W1 u0 := by rw [hu0.out]; exact Below.drew (Below.refl _ _)
      refine wpAnyH_take (i := 0) (oi := { dst := some 11, op := Op.fieldAddr 36 (Operand.tmp 1) 2, type := 0, pos := "frame.go:253", after := #[], guard := none }) (v := ?vr1) rfl (by kernel_rfl) (by kernel_rfl) (by kernel_rfl) (fun _ _ _ h => h) (Or.inl ⟨by rfl, ?yr1⟩) bu0 ?rr1
      case yr1 => (intro w hSw; go_simp; try with_reducible rfl)
      try simp only [Act.put, List.setIfInBounds_toArray, List.set_cons_zero, List.set_cons_succ]
      refine wpAnyH_take (i := 1) (oi := { dst := some 12, op := Op.load 3 (Operand.tmp 11), type := 3, pos := "frame.go:253", after := #[{ on := 0, ground := Ground.data }], guard := none }) (v := .int .i64 p.n) rfl (by kernel_rfl) (by kernel_rfl) (by kernel_rfl) (fun _ _ _ h => h) (Or.inl ⟨by rfl, ?yr2⟩) bu0 ?rr2
      case yr2 => (intro w hSw; have := (FK.out w hSw).c2; go_simp; try with_reducible rfl)
      try simp only [Act.put, List.setIfInBounds_toArray, List.set_cons_zero, List.set_cons_succ]
      refine wpAnyH_take (i := 2) (oi := { dst := some 13, op := Op.fieldAddr 36 (Operand.tmp 1) 7, type := 0, pos := "frame.go:253", after := #[], guard := none }) (v := ?vr3) rfl (by kernel_rfl) (by kernel_rfl) (by kernel_rfl) (fun _ _ _ h => h) (Or.inl ⟨by rfl, ?yr3⟩) bu0 ?rr3
      case yr3 => (intro w hSw; go_simp; try with_reducible rfl)
      try simp only [Act.put, List.setIfInBounds_toArray, List.set_cons_zero, List.set_cons_succ]
      refine wpAnyH_take (i := 3) (oi := { dst := some 14, op := Op.load 28 (Operand.tmp 13), type := 28, pos := "frame.go:253", after := #[{ on := 2, ground := Ground.data }], guard := none }) (v := .slice sa p.sp.length sc) rfl (by kernel_rfl) (by kernel_rfl) (by kernel_rfl) (fun _ _ _ h => h) (Or.inl ⟨by rfl, ?yr4⟩) bu0 ?rr4
      case yr4 => (intro w hSw; have := (FK.out w hSw).c22; go_simp; try with_reducible rfl)
      try simp only [Act.put, List.setIfInBounds_toArray, List.set_cons_zero, List.set_cons_succ]
      refine wpAnyH_ready (rs := [4]) (by kernel_rfl) (by simp) ?_
      refine AllReadyH.cons (o := { dst := some 15, op := Op.call { callee := Callee.value (Operand.func 29), args := #[Operand.tmp 14], argTypes := #[28] }, type := 28, pos := "frame.go:253", after := #[{ on := 3, ground := Ground.data }], guard := none }) rfl (fun KK hKK => ?_) ?_
      · go_simp
        refine (CO.out _ bu0).mono ?_
        rintro e u5' ⟨vu5, rfl, ou5, bu5'⟩
        obtain ⟨oa, oc, rfl, -, -, -⟩ := (RSp.is ou5).shape
        (try go_wp2_with fail)
        refine hKK.out _ _ (bu0.trans (Below.mono (bu5') bu0.size)) (fun _ => ?_)
        clear hKK KK
        try simp only [Act.put, List.setIfInBounds_toArray, List.set_cons_zero, List.set_cons_succ]
        refine wpAnyH_name (fun u5 hu5 => ?_)
        have bu5 : Below W1.heap.size W1 u5 := by rw [hu5.out]; exact (bu0.trans (Below.mono (bu5') bu0.size))
        have qu5 : Below u0.heap.size u0 u5 := by rw [hu5.out]; exact bu5'
        have OO : Hid (RSp u5 w.heap.size (.slice oa p.sp.length oc) p.sp) := by unfold Hid; rw [hu5.out]; exact RSp.mono ou5 (Nat.le_trans HB1.out.size (Below.size bu0))
        refine wpAnyH_take (i := 5) (oi := { dst := some 16, op := Op.build 73 #[(0, Operand.tmp 12), (1, Operand.tmp 15)], type := 73, pos := "frame.go:253", after := #[{ on := 1, ground := Ground.data }, { on := 4, ground := Ground.data }], guard := none }) (v := ?vr6) rfl (by kernel_rfl) (by kernel_rfl) (by kernel_rfl) (fun _ _ _ h => h) (Or.inl ⟨by rfl, ?yr6⟩) bu5 ?rr6
        case yr6 => (intro w hSw; go_simp; try with_reducible rfl)
        try simp only [Act.put, List.setIfInBounds_toArray, List.set_cons_zero, List.set_cons_succ]
        refine wpAnyH_take (i := 6) (oi := { dst := some 17, op := Op.makeInterface 73 (Operand.tmp 16), type := 32, pos := "frame.go:253", after := #[{ on := 5, ground := Ground.data }], guard := none }) (v := ?vr7) rfl (by kernel_rfl) (by kernel_rfl) (by kernel_rfl) (fun _ _ _ h => h) (Or.inl ⟨by rfl, ?yr7⟩) bu5 ?rr7
        case yr7 => (intro w hSw; go_simp; try with_reducible rfl)
        try simp only [Act.put, List.setIfInBounds_toArray, List.set_cons_zero, List.set_cons_succ]
        refine wpAnyH_take (i := 7) (oi := { dst := some 2, op := Op.assign (Operand.tmp 17), type := 32, pos := "frame.go:253", after := #[{ on := 6, ground := Ground.data }, { on := 4, ground := Ground.chain }, { on := 0, ground := Ground.phase }, { on := 1, ground := Ground.phase }, { on := 2, ground := Ground.phase }, { on := 3, ground := Ground.phase }, { on := 4, ground := Ground.phase }, { on := 5, ground := Ground.phase }, { on := 6, ground := Ground.phase }], guard := none }) (v := ?vr8) rfl (by kernel_rfl) (by kernel_rfl) (by kernel_rfl) (fun _ _ _ h => h) (Or.inl ⟨by rfl, ?yr8⟩) bu5 ?rr8
        case yr8 => (intro w hSw; go_simp; try with_reducible rfl)
        try simp only [Act.put, List.setIfInBounds_toArray, List.set_cons_zero, List.set_cons_succ]
        refine wpAnyH_done (by kernel_rfl) ?_ _
        have BZ : Hid (Below w.heap.size w u5) := HB1.out.trans (Below.mono bu5 HB1.out.size)
        clear FK CO c0 c1 c2 c3 c4 c5 c22
        go_wp2
        go_ret
        exact ⟨_, by rw [HV.out]; rfl, by rw [HSP.out]; exact OO.out, BZ.out⟩
      exact AllReadyH.nil
    · have HV : Hid (frV p (.slice none 0 0) = .iface 46 (.agg #[.int .i64 p.id, .int .i64 p.n, .bool p.fin, .string p.tx])) := by unfold Hid frV; simp only [hk]; rfl
      have HSP : Hid (spO p = []) := by unfold spO; rw [hk]; rfl
      rw [hk] at c0
      clear FK CO hk h0 h1 cn HNL
      go_enter Tryd.func16, Tryd.ntmps16
      go_upto_region 1 with fail
      rw [← hW1]
      clear hW1
      go_wp2
      go_ret
      exact ⟨_, by rw [HV.out]; rfl, by rw [HSP.out]; exact HNIL.out W1, HB1.out⟩
    · have HV : Hid (frV p (.slice none 0 0) = .iface 75 (.agg #[.int .i64 p.id, .int .i64 p.cd, .int .i64 p.n])) := by unfold Hid frV; simp only [hk]; rfl
      have HSP : Hid (spO p = []) := by unfold spO; rw [hk]; rfl
      rw [hk] at c0
      clear FK CO hk h0 h1 cn HNL
      go_enter Tryd.func16, Tryd.ntmps16
      go_upto_region 1 with fail
      rw [← hW1]
      clear hW1
      go_wp2
      go_ret
      exact ⟨_, by rw [HV.out]; rfl, by rw [HSP.out]; exact HNIL.out W1, HB1.out⟩
    · have HV : Hid (frV p (.slice none 0 0) = .iface 77 (.agg #[.int .i64 p.id, .int .i64 p.cd])) := by unfold Hid frV; simp only [hk]; rfl
      have HSP : Hid (spO p = []) := by unfold spO; rw [hk]; rfl
      rw [hk] at c0
      clear FK CO hk h0 h1 cn HNL
      go_enter Tryd.func16, Tryd.ntmps16
      go_upto_region 1 with fail
      rw [← hW1]
      clear hW1
      go_wp2
      go_ret
      exact ⟨_, by rw [HV.out]; rfl, by rw [HSP.out]; exact HNIL.out W1, HB1.out⟩
    · have HV : Hid (frV p (.slice none 0 0) = .iface 79 (.agg #[.int .i64 p.n])) := by unfold Hid frV; simp only [hk]; rfl
      have HSP : Hid (spO p = []) := by unfold spO; rw [hk]; rfl
      rw [hk] at c0
      clear FK CO hk h0 h1 cn HNL
      go_enter Tryd.func16, Tryd.ntmps16
      go_upto_region 1 with fail
      rw [← hW1]
      clear hW1
      go_wp2
      go_ret
      exact ⟨_, by rw [HV.out]; rfl, by rw [HSP.out]; exact HNIL.out W1, HB1.out⟩
    · have HV : Hid (frV p (.slice none 0 0) = .iface 81 (.agg #[.int .i64 p.id, .int .i64 p.n])) := by unfold Hid frV; simp only [hk]; rfl
      have HSP : Hid (spO p = []) := by unfold spO; rw [hk]; rfl
      rw [hk] at c0
      clear FK CO hk h0 h1 cn HNL
      go_enter Tryd.func16, Tryd.ntmps16
      go_upto_region 1 with fail
      rw [← hW1]
      clear hW1
      go_wp2
      go_ret
      exact ⟨_, by rw [HV.out]; rfl, by rw [HSP.out]; exact HNIL.out W1, HB1.out⟩
    · have HV : Hid (frV p (.slice none 0 0) = .iface 82 (.agg #[.int .i64 p.n])) := by unfold Hid frV; simp only [hk]; rfl
      have HSP : Hid (spO p = []) := by unfold spO; rw [hk]; rfl
      rw [hk] at c0
      clear FK CO hk h0 h1 cn HNL
      go_enter Tryd.func16, Tryd.ntmps16
      go_upto_region 1 with fail
      rw [← hW1]
      clear hW1
      go_wp2
      go_ret
      exact ⟨_, by rw [HV.out]; rfl, by rw [HSP.out]; exact HNIL.out W1, HB1.out⟩
    · have HV : Hid (frV p (.slice none 0 0) = .iface 84 (.agg (p.nc.map (Value.int .u8) ++ [Value.string p.tx]).toArray)) := by unfold Hid frV; simp only [hk]; rfl
      have HSP : Hid (spO p = []) := by unfold spO; rw [hk]; rfl
      rw [hk] at c0
      clear FK CO hk h0 h1
      go_enter Tryd.func16, Tryd.ntmps16
      go_upto_region 1 with fail
      rw [← hW1]
      clear hW1
      go_wp2_with (refine wpList_load_mid rfl 27 _ rfl w.heap.size 6 rfl (p.nc.map (Value.int .u8)) _ cn Tryd.underlying27 rfl (by rw [List.length_map, HNL.out]; exact infoNc) (Hid.out ?_))
      unfold Hid
      obtain ⟨x0, x1, x2, x3, x4, x5, x6, x7, x8, x9, xa, xb, xc, xd, xe, xf, hx⟩ := nc16 HNL.out
      rw [hx] at HV ⊢
      simp only [List.map_cons, List.map_nil] at HV ⊢
      clear cn HNL hx
      go_wp2
      go_ret
      exact ⟨_, by rw [HV.out]; rfl, by rw [HSP.out]; exact HNIL.out W1, HB1.out⟩
    · have HV : Hid (frV p (.slice none 0 0) = .iface 86 (.agg #[.int .i64 p.cd, .string p.tx])) := by unfold Hid frV; simp only [hk]; rfl
      have HSP : Hid (spO p = []) := by unfold spO; rw [hk]; rfl
      rw [hk] at c0
      clear FK CO hk h0 h1 cn HNL
      go_enter Tryd.func16, Tryd.ntmps16
      go_upto_region 1 with fail
      rw [← hW1]
      clear hW1
      go_wp2
      go_ret
      exact ⟨_, by rw [HV.out]; rfl, by rw [HSP.out]; exact HNIL.out W1, HB1.out⟩
  · obtain ⟨q1, q2, q3, q4, q5, q6, q7, q8, q9, q10⟩ := hc
    have HV : Hid (frV p (.slice none 0 0) = .nilIface) := by unfold Hid frV; rw [if_neg q1, if_neg q2, if_neg q3, if_neg q4, if_neg q5, if_neg q6, if_neg q7, if_neg q8, if_neg q9, if_neg q10]
    have HSP : Hid (spO p = []) := by unfold Hid spO hS; rw [if_neg (by simp [q2])]
    have t1 : (p.k == 1) = false := by simpa using q1
    have t2 : (p.k == 2) = false := by simpa using q2
    have t3 : (p.k == 3) = false := by simpa using q3
    have t4 : (p.k == 4) = false := by simpa using q4
    have t5 : (p.k == 5) = false := by simpa using q5
    have t6 : (p.k == 6) = false := by simpa using q6
    have t7 : (p.k == 7) = false := by simpa using q7
    have t8 : (p.k == 8) = false := by simpa using q8
    have t9 : (p.k == 9) = false := by simpa using q9
    have t10 : (p.k == 10) = false := by simpa using q10
    clear FK CO HNL q1 q2 q3 q4 q5 q6 q7 q8 q9 q10 c1 c2 c3 c4 c5 c22 cn h0 h1
    generalize p.k = kk at *
    go_enter Tryd.func16, Tryd.ntmps16
    go_upto_region 1 with fail
    rw [← hW1]
    clear hW1
    go_wp2
    go_ret
    exact ⟨_, by rw [HV.out]; rfl, by rw [HSP.out]; exact HNIL.out W1, HB1.out⟩
end Go.Proofs.YthhghehnaopmhaaDoor
namespace Go.Proofs.YthhghehnaopmhaaDoor
open Go.RowKit
set_option maxRecDepth 100000

set_option maxHeartbeats 8000000 in
theorem flat2 (n : Int) (sv : Value) (l : List Sp) (w : World) (hs : SSp w sv l) (hl : l.length ≤ 100000) :
    Calls Tryd.prog 17 #[.iface 73 (.agg #[.int .i64 n, sv])] w fun e w' => ∃ sv', e = .returned (.agg (plA ⟨2, 0, n, 0, false, ⟨#[]⟩, zn, l⟩ sv')) ∧ RSp w' w.heap.size sv' l ∧ Below w.heap.size w w' := by
  obtain ⟨W1, hW1⟩ : ∃ W1, W1 = w.alloc (.cells #[.int .u8 0, .int .i64 0, .int .i64 0, .int .i64 0, .bool false, .string ⟨#[]⟩, .int .u8 0, .int .u8 0, .int .u8 0, .int .u8 0, .int .u8 0, .int .u8 0, .int .u8 0, .int .u8 0, .int .u8 0, .int .u8 0, .int .u8 0, .int .u8 0, .int .u8 0, .int .u8 0, .int .u8 0, .int .u8 0, .slice none 0 0] 36) := ⟨_, rfl⟩
  have b1 : Below w.heap.size w W1 := by rw [hW1]; exact al_below _ _
  have g1 : W1.heap[w.heap.size]? = some (.cells #[.int .u8 0, .int .i64 0, .int .i64 0, .int .i64 0, .bool false, .string ⟨#[]⟩, .int .u8 0, .int .u8 0, .int .u8 0, .int .u8 0, .int .u8 0, .int .u8 0, .int .u8 0, .int .u8 0, .int .u8 0, .int .u8 0, .int .u8 0, .int .u8 0, .int .u8 0, .int .u8 0, .int .u8 0, .int .u8 0, .slice none 0 0] 36 (0, 0)) := by rw [hW1]; exact heap_alloc_new _ _
  obtain ⟨W2, hW2⟩ : ∃ W2, W2 = W1.alloc (.cells #[.int .i64 n, sv] 73) := ⟨_, rfl⟩
  have b2 : Below W1.heap.size W1 W2 := by rw [hW2]; exact al_below _ _
  have h2 : W2.heap[W1.heap.size]? = some (.cells #[.int .i64 n, sv] 73 (0, 0)) := by rw [hW2]; exact heap_alloc_new _ _
  have HG2 : Hid (W2.heap[w.heap.size]? = some (.cells #[.int .u8 0, .int .i64 0, .int .i64 0, .int .i64 0, .bool false, .string ⟨#[]⟩, .int .u8 0, .int .u8 0, .int .u8 0, .int .u8 0, .int .u8 0, .int .u8 0, .int .u8 0, .int .u8 0, .int .u8 0, .int .u8 0, .int .u8 0, .int .u8 0, .int .u8 0, .int .u8 0, .int .u8 0, .int .u8 0, .slice none 0 0] 36 (0, 0))) := blk_kept g1 b2 (blk_lt g1)
  have hlt1 : w.heap.size < W1.heap.size := blk_lt g1
  have HNE : Hid (w.heap.size ≠ W1.heap.size) := by unfold Hid; omega
  have HH2 : Hid (W2.heap[W1.heap.size]? = some (.cells #[.int .i64 n, sv] 73 (0, 0))) := h2
  have HB2 : Hid (Below w.heap.size w W2) := b1.trans (b2.mono b1.size)
  have HLT : Hid (W1.heap.size < W2.heap.size) := blk_lt h2
  have CO : Hid (∀ x, Below w.heap.size w x → Calls Tryd.prog 29 #[sv] x fun e w' => ∃ v', e = .returned v' ∧ RSp w' x.heap.size v' l ∧ Below x.heap.size x w') := fun x hx => ownSpans_any x sv l (hs.kept hx) hl
  obtain ⟨sa, sc, rfl, -, -, -⟩ := hs.shape
  have HSZ : Hid (∀ v, (Tryd.prog.info? 36).map (·.size) = some (plA ⟨2, 0, n, 0, false, ⟨#[]⟩, zn, l⟩ v).size) := fun v => infoP
  have HON : Hid (∀ (a : Option Addr) (m c : Nat), (plA ⟨2, 0, n, 0, false, ⟨#[]⟩, zn, l⟩ (.slice a m c)).all (·.oneCell') = true) := fun a m c => all_oneCell_toArray (plL_one rfl)
  have a1 : ∀ (v : Value) (W : World), (Instr.typeAssert (.iface 73 v) 32 70 true).run Tryd.prog W = .ok (.tuple #[.agg #[], .bool false]) W := fun v W => by kernel_rfl
  have a2 : ∀ (v : Value) (W : World), (Instr.typeAssert (.iface 73 v) 32 73 true).run Tryd.prog W = .ok (.tuple #[v, .bool true]) W := fun v W => by kernel_rfl
  clear b1 g1 b2 h2 hs hlt1
  go_enter Tryd.func17, Tryd.ntmps17
  go_upto_region 1 with fail
  rw [← hW1]
  clear hW1
  go_upto_region 7 with fail
  rw [← hW2]
  clear hW2
  refine wp_region_held_drew (S := fun x : World => Below w.heap.size w x ∧ W2.heap.size ≤ x.heap.size ∧ x.heap[W1.heap.size]? = some (.cells #[.int .i64 n, .slice sa l.length sc] 73 (0, 0))) (by kernel_rfl) (⟨HB2.out.drew, Nat.le_refl _, HH2.out⟩) (fun _ => ?_)
  refine wpAnyH_name (fun u0 hu0 => ?_)
  have su0 : (fun x : World => Below w.heap.size w x ∧ W2.heap.size ≤ x.heap.size ∧ x.heap[W1.heap.size]? = some (.cells #[.int .i64 n, .slice sa l.length sc] 73 (0, 0))) u0 := by rw [hu0.out]; exact (⟨HB2.out.drew, Nat.le_refl _, HH2.out⟩)
  have g0u0 : u0.heap[w.heap.size]? = some (.cells #[.int .u8 0, .int .i64 0, .int .i64 0, .int .i64 0, .bool false, .string ⟨#[]⟩, .int .u8 0, .int .u8 0, .int .u8 0, .int .u8 0, .int .u8 0, .int .u8 0, .int .u8 0, .int .u8 0, .int .u8 0, .int .u8 0, .int .u8 0, .int .u8 0, .int .u8 0, .int .u8 0, .int .u8 0, .int .u8 0, .slice none 0 0] 36 (0, 0)) := by rw [hu0.out]; exact HG2.out
  refine wpAnyH_take (i := 0) (oi := { dst := some 21, op := Op.fieldAddr 73 (Operand.tmp 4) 0, type := 0, pos := "frame.go:226", after := #[], guard := none }) (v := ?vr1) rfl (by kernel_rfl) (by kernel_rfl) (by kernel_rfl) (fun _ _ _ h => h) (Or.inl ⟨by rfl, ?yr1⟩) su0 ?rr1
  case yr1 => (intro w hSw; go_simp; try with_reducible rfl)
  try simp only [Act.put, List.setIfInBounds_toArray, List.set_cons_zero, List.set_cons_succ]
  refine wpAnyH_take (i := 1) (oi := { dst := some 22, op := Op.load 3 (Operand.tmp 21), type := 3, pos := "frame.go:226", after := #[{ on := 0, ground := Ground.data }], guard := none }) (v := .int .i64 n) rfl (by kernel_rfl) (by kernel_rfl) (by kernel_rfl) (fun _ _ _ h => h) (Or.inl ⟨by rfl, ?yr2⟩) su0 ?rr2
  case yr2 => (intro w hSw; have q7 := hSw.2.2; have q8 : w.cell? ⟨W1.heap.size, 0, none⟩ = some (.int .i64 n) := (by simp [World.cell?, q7]); go_simp; try with_reducible rfl)
  try simp only [Act.put, List.setIfInBounds_toArray, List.set_cons_zero, List.set_cons_succ]
  refine wpAnyH_take (i := 2) (oi := { dst := some 23, op := Op.fieldAddr 73 (Operand.tmp 4) 1, type := 0, pos := "frame.go:226", after := #[], guard := none }) (v := ?vr3) rfl (by kernel_rfl) (by kernel_rfl) (by kernel_rfl) (fun _ _ _ h => h) (Or.inl ⟨by rfl, ?yr3⟩) su0 ?rr3
  case yr3 => (intro w hSw; go_simp; try with_reducible rfl)
  try simp only [Act.put, List.setIfInBounds_toArray, List.set_cons_zero, List.set_cons_succ]
  refine wpAnyH_take (i := 3) (oi := { dst := some 24, op := Op.load 28 (Operand.tmp 23), type := 28, pos := "frame.go:226", after := #[{ on := 2, ground := Ground.data }], guard := none }) (v := .slice sa l.length sc) rfl (by kernel_rfl) (by kernel_rfl) (by kernel_rfl) (fun _ _ _ h => h) (Or.inl ⟨by rfl, ?yr4⟩) su0 ?rr4
  case yr4 => (intro w hSw; have q7 := hSw.2.2; have q8 : w.cell? ⟨W1.heap.size, 1, none⟩ = some (.slice sa l.length sc) := (by simp [World.cell?, q7]); go_simp; try with_reducible rfl)
  try simp only [Act.put, List.setIfInBounds_toArray, List.set_cons_zero, List.set_cons_succ]
  refine wpAnyH_ready (rs := [4]) (by kernel_rfl) (by simp) ?_
  refine AllReadyH.cons (o := { dst := some 25, op := Op.call { callee := Callee.value (Operand.func 29), args := #[Operand.tmp 24], argTypes := #[28] }, type := 28, pos := "frame.go:226", after := #[{ on := 3, ground := Ground.data }], guard := none }) rfl (fun KK hKK => ?_) ?_
  · go_simp
    refine (CO.out _ su0.1).mono ?_
    rintro e u5' ⟨vu5, rfl, ou5, bu5'⟩
    obtain ⟨oa, oc, rfl, -, -, -⟩ := (RSp.is ou5).shape
    (try go_wp2_with fail)
    refine hKK.out _ _ (⟨su0.1.trans (Below.mono bu5' su0.1.size), Nat.le_trans su0.2.1 bu5'.size, blk_kept su0.2.2 bu5' (blk_lt su0.2.2)⟩) (fun _ => ?_)
    clear hKK KK
    try simp only [Act.put, List.setIfInBounds_toArray, List.set_cons_zero, List.set_cons_succ]
    refine wpAnyH_name (fun u5 hu5 => ?_)
    have su5 : (fun x : World => Below w.heap.size w x ∧ W2.heap.size ≤ x.heap.size ∧ x.heap[W1.heap.size]? = some (.cells #[.int .i64 n, .slice sa l.length sc] 73 (0, 0))) u5 := by rw [hu5.out]; exact (⟨su0.1.trans (Below.mono bu5' su0.1.size), Nat.le_trans su0.2.1 bu5'.size, blk_kept su0.2.2 bu5' (blk_lt su0.2.2)⟩)
    have OO : Hid (RSp u5 w.heap.size (.slice oa l.length oc) l) := by unfold Hid; rw [hu5.out]; exact RSp.mono ou5 (su0.1.size)
    have GG : Hid (u5.heap[w.heap.size]? = some (.cells #[.int .u8 0, .int .i64 0, .int .i64 0, .int .i64 0, .bool false, .string ⟨#[]⟩, .int .u8 0, .int .u8 0, .int .u8 0, .int .u8 0, .int .u8 0, .int .u8 0, .int .u8 0, .int .u8 0, .int .u8 0, .int .u8 0, .int .u8 0, .int .u8 0, .int .u8 0, .int .u8 0, .int .u8 0, .int .u8 0, .slice none 0 0] 36 (0, 0))) := by unfold Hid; rw [hu5.out]; exact blk_kept g0u0 bu5' (blk_lt g0u0)
    refine wpAnyH_take (i := 5) (oi := { dst := some 26, op := Op.build 36 #[(0, Operand.const (Value.int IntKind.u8 2)), (2, Operand.tmp 22), (7, Operand.tmp 25)], type := 36, pos := "frame.go:226", after := #[{ on := 1, ground := Ground.data }, { on := 4, ground := Ground.data }], guard := none }) (v := .agg (plA ⟨2, 0, n, 0, false, ⟨#[]⟩, zn, l⟩ (.slice oa l.length oc))) rfl (by kernel_rfl) (by kernel_rfl) (by kernel_rfl) (fun _ _ _ h => h) (Or.inl ⟨by rfl, ?yr6⟩) su5 ?rr6
    case yr6 => (intro w hSw; go_simp; rfl; try with_reducible rfl)
    try simp only [Act.put, List.setIfInBounds_toArray, List.set_cons_zero, List.set_cons_succ]
    refine wpAnyH_ready (rs := [6]) (by kernel_rfl) (by simp) ?_
    refine AllReadyH.cons (o := { dst := none, op := Op.store 36 (Operand.tmp 2) (Operand.tmp 26), type := 0, pos := "frame.go:226", after := #[{ on := 5, ground := Ground.data }, { on := 4, ground := Ground.chain }, { on := 0, ground := Ground.phase }, { on := 1, ground := Ground.phase }, { on := 2, ground := Ground.phase }, { on := 3, ground := Ground.phase }, { on := 4, ground := Ground.phase }, { on := 5, ground := Ground.phase }], guard := none }) rfl (fun KK hKK => ?_) ?_
    · refine wp_store_row 36 _ _ rfl w.heap.size (plA ⟨2, 0, n, 0, false, ⟨#[]⟩, zn, l⟩ (.slice oa l.length oc)) rfl rfl 36 _ GG.out (HSZ.out _) rfl (HON.out _ _ _) ?_
      refine hKK.out _ _ (⟨below_setRow su5.1 (Nat.le_refl _) _, by rw [setRow_size]; exact su5.2.1, by rw [setRow_other _ _ _ _ (Ne.symm HNE.out)]; exact su5.2.2⟩) (fun _ => ?_)
      clear hKK KK
      try simp only [Act.put]
      refine wpAnyH_name (fun u7 hu7 => ?_)
      have su7 : (fun x : World => Below w.heap.size w x ∧ W2.heap.size ≤ x.heap.size ∧ x.heap[W1.heap.size]? = some (.cells #[.int .i64 n, .slice sa l.length sc] 73 (0, 0))) u7 := by rw [hu7.out]; exact (⟨below_setRow su5.1 (Nat.le_refl _) _, by rw [setRow_size]; exact su5.2.1, by rw [setRow_other _ _ _ _ (Ne.symm HNE.out)]; exact su5.2.2⟩)
      have OZ : Hid (RSp u7 w.heap.size (.slice oa l.length oc) l) := by unfold Hid; rw [hu7.out]; exact OO.out.keep (fun k cs hk hh => by rw [setRow_other _ _ _ _ (fun e => by rw [e, GG.out] at hh; cases hh)]; exact hh)
      have GZ : Hid (u7.heap[w.heap.size]? = some (.cells (plA ⟨2, 0, n, 0, false, ⟨#[]⟩, zn, l⟩ (.slice oa l.length oc)) 36 (0, 0))) := by unfold Hid; rw [hu7.out]; exact setRow_heap _ _ _ _ _ _ GG.out
      refine wpAnyH_done (by kernel_rfl) ?_ _
      have BZ : Hid (Below w.heap.size w u7) := su7.1
      clear CO GG OO
      go_wp2
      refine bodyPost_ret (v := .agg (plA ⟨2, 0, n, 0, false, ⟨#[]⟩, zn, l⟩ (.slice oa l.length oc))) (results_cell_row rfl _ _ w.heap.size 36 _ (0, 0) _ rfl GZ.out Tryd.underlying36 rfl (HSZ.out _)) rfl ⟨_, rfl, OZ.out, BZ.out⟩
    exact AllReadyH.nil
  exact AllReadyH.nil
set_option maxHeartbeats 8000000 in
theorem flat1 (w : World) :
    Calls Tryd.prog 17 #[.iface 70 (.agg #[])] w fun e w' => e = .returned (.agg (plA ⟨1, 0, 0, 0, false, ⟨#[]⟩, zn, []⟩ (.slice none 0 0))) ∧ Below w.heap.size w w' := by
  obtain ⟨W1, hW1⟩ : ∃ W1, W1 = w.alloc (.cells #[.int .u8 0, .int .i64 0, .int .i64 0, .int .i64 0, .bool false, .string ⟨#[]⟩, .int .u8 0, .int .u8 0, .int .u8 0, .int .u8 0, .int .u8 0, .int .u8 0, .int .u8 0, .int .u8 0, .int .u8 0, .int .u8 0, .int .u8 0, .int .u8 0, .int .u8 0, .int .u8 0, .int .u8 0, .int .u8 0, .slice none 0 0] 36) := ⟨_, rfl⟩
  have b1 : Below w.heap.size w W1 := by rw [hW1]; exact al_below _ _
  have g1 : W1.heap[w.heap.size]? = some (.cells #[.int .u8 0, .int .i64 0, .int .i64 0, .int .i64 0, .bool false, .string ⟨#[]⟩, .int .u8 0, .int .u8 0, .int .u8 0, .int .u8 0, .int .u8 0, .int .u8 0, .int .u8 0, .int .u8 0, .int .u8 0, .int .u8 0, .int .u8 0, .int .u8 0, .int .u8 0, .int .u8 0, .int .u8 0, .int .u8 0, .slice none 0 0] 36 (0, 0)) := by rw [hW1]; exact heap_alloc_new _ _
  obtain ⟨W2, hW2⟩ : ∃ W2, W2 = W1.alloc (.cells #[] 70) := ⟨_, rfl⟩
  have b2 : Below W1.heap.size W1 W2 := by rw [hW2]; exact al_below _ _
  have HG2 : Hid (W2.heap[w.heap.size]? = some (.cells #[.int .u8 0, .int .i64 0, .int .i64 0, .int .i64 0, .bool false, .string ⟨#[]⟩, .int .u8 0, .int .u8 0, .int .u8 0, .int .u8 0, .int .u8 0, .int .u8 0, .int .u8 0, .int .u8 0, .int .u8 0, .int .u8 0, .int .u8 0, .int .u8 0, .int .u8 0, .int .u8 0, .int .u8 0, .int .u8 0, .slice none 0 0] 36 (0, 0))) := blk_kept g1 b2 (blk_lt g1)
  have HB2 : Hid (Below w.heap.size w W2) := b1.trans (b2.mono b1.size)
  have HSZ : Hid ((Tryd.prog.info? 36).map (·.size) = some (plA ⟨1, 0, 0, 0, false, ⟨#[]⟩, zn, []⟩ (.slice none 0 0)).size) := infoP
  have HON : Hid ((plA ⟨1, 0, 0, 0, false, ⟨#[]⟩, zn, []⟩ (.slice none 0 0)).all (·.oneCell') = true) := all_oneCell_toArray (plL_one rfl)
  have a1 : ∀ (v : Value) (W : World), (Instr.typeAssert (.iface 70 v) 32 70 true).run Tryd.prog W = .ok (.tuple #[v, .bool true]) W := fun v W => by kernel_rfl
  clear b1 g1 b2
  go_enter Tryd.func17, Tryd.ntmps17
  go_upto_region 1 with fail
  rw [← hW1]
  clear hW1
  go_wp2_with (rw [← hW2]; refine wpList_store_row rfl 36 _ _ rfl w.heap.size (plA ⟨1, 0, 0, 0, false, ⟨#[]⟩, zn, []⟩ (.slice none 0 0)) rfl rfl 36 _ HG2.out HSZ.out rfl HON.out (Hid.out ?_))
  unfold Hid
  go_wp2
  rw [← hW2]
  refine bodyPost_ret (v := .agg (plA ⟨1, 0, 0, 0, false, ⟨#[]⟩, zn, []⟩ (.slice none 0 0))) (results_cell_row rfl _ _ w.heap.size 36 (plA ⟨1, 0, 0, 0, false, ⟨#[]⟩, zn, []⟩ (.slice none 0 0)) (0, 0) _ rfl (setRow_heap _ _ _ _ _ _ HG2.out) Tryd.underlying36 rfl HSZ.out) rfl ⟨rfl, below_setRow HB2.out (Nat.le_refl _) _⟩
set_option maxHeartbeats 8000000 in
theorem flat3 (id n : Int) (fin : Bool) (tx : ByteArray) (w : World) :
    Calls Tryd.prog 17 #[.iface 46 (.agg #[.int .i64 id, .int .i64 n, .bool fin, .string tx])] w fun e w' => e = .returned (.agg (plA ⟨3, id, n, 0, fin, tx, zn, []⟩ (.slice none 0 0))) ∧ Below w.heap.size w w' := by
  obtain ⟨W1, hW1⟩ : ∃ W1, W1 = w.alloc (.cells #[.int .u8 0, .int .i64 0, .int .i64 0, .int .i64 0, .bool false, .string ⟨#[]⟩, .int .u8 0, .int .u8 0, .int .u8 0, .int .u8 0, .int .u8 0, .int .u8 0, .int .u8 0, .int .u8 0, .int .u8 0, .int .u8 0, .int .u8 0, .int .u8 0, .int .u8 0, .int .u8 0, .int .u8 0, .int .u8 0, .slice none 0 0] 36) := ⟨_, rfl⟩
  have b1 : Below w.heap.size w W1 := by rw [hW1]; exact al_below _ _
  have g1 : W1.heap[w.heap.size]? = some (.cells #[.int .u8 0, .int .i64 0, .int .i64 0, .int .i64 0, .bool false, .string ⟨#[]⟩, .int .u8 0, .int .u8 0, .int .u8 0, .int .u8 0, .int .u8 0, .int .u8 0, .int .u8 0, .int .u8 0, .int .u8 0, .int .u8 0, .int .u8 0, .int .u8 0, .int .u8 0, .int .u8 0, .int .u8 0, .int .u8 0, .slice none 0 0] 36 (0, 0)) := by rw [hW1]; exact heap_alloc_new _ _
  obtain ⟨W2, hW2⟩ : ∃ W2, W2 = W1.alloc (.cells #[.int .i64 id, .int .i64 n, .bool fin, .string tx] 46) := ⟨_, rfl⟩
  have b2 : Below W1.heap.size W1 W2 := by rw [hW2]; exact al_below _ _
  have HG2 : Hid (W2.heap[w.heap.size]? = some (.cells #[.int .u8 0, .int .i64 0, .int .i64 0, .int .i64 0, .bool false, .string ⟨#[]⟩, .int .u8 0, .int .u8 0, .int .u8 0, .int .u8 0, .int .u8 0, .int .u8 0, .int .u8 0, .int .u8 0, .int .u8 0, .int .u8 0, .int .u8 0, .int .u8 0, .int .u8 0, .int .u8 0, .int .u8 0, .int .u8 0, .slice none 0 0] 36 (0, 0))) := blk_kept g1 b2 (blk_lt g1)
  have HB2 : Hid (Below w.heap.size w W2) := b1.trans (b2.mono b1.size)
  have HSZ : Hid ((Tryd.prog.info? 36).map (·.size) = some (plA ⟨3, id, n, 0, fin, tx, zn, []⟩ (.slice none 0 0)).size) := infoP
  have HON : Hid ((plA ⟨3, id, n, 0, fin, tx, zn, []⟩ (.slice none 0 0)).all (·.oneCell') = true) := all_oneCell_toArray (plL_one rfl)
  have a1 : ∀ (v : Value) (W : World), (Instr.typeAssert (.iface 46 v) 32 70 true).run Tryd.prog W = .ok (.tuple #[.agg #[], .bool false]) W := fun v W => by kernel_rfl
  have a2 : ∀ (v : Value) (W : World), (Instr.typeAssert (.iface 46 v) 32 73 true).run Tryd.prog W = .ok (.tuple #[.agg #[.int .i64 0, .slice none 0 0], .bool false]) W := fun v W => by kernel_rfl
  have a3 : ∀ (v : Value) (W : World), (Instr.typeAssert (.iface 46 v) 32 46 true).run Tryd.prog W = .ok (.tuple #[v, .bool true]) W := fun v W => by kernel_rfl
  clear b1 g1 b2
  go_enter Tryd.func17, Tryd.ntmps17
  go_upto_region 1 with fail
  rw [← hW1]
  clear hW1
  go_wp2_with (rw [← hW2]; refine wpList_store_row rfl 36 _ _ rfl w.heap.size (plA ⟨3, id, n, 0, fin, tx, zn, []⟩ (.slice none 0 0)) rfl rfl 36 _ HG2.out HSZ.out rfl HON.out (Hid.out ?_))
  unfold Hid
  go_wp2
  rw [← hW2]
  refine bodyPost_ret (v := .agg (plA ⟨3, id, n, 0, fin, tx, zn, []⟩ (.slice none 0 0))) (results_cell_row rfl _ _ w.heap.size 36 (plA ⟨3, id, n, 0, fin, tx, zn, []⟩ (.slice none 0 0)) (0, 0) _ rfl (setRow_heap _ _ _ _ _ _ HG2.out) Tryd.underlying36 rfl HSZ.out) rfl ⟨rfl, below_setRow HB2.out (Nat.le_refl _) _⟩
set_option maxHeartbeats 8000000 in
theorem flat4 (id n cd : Int) (w : World) :
    Calls Tryd.prog 17 #[.iface 75 (.agg #[.int .i64 id, .int .i64 cd, .int .i64 n])] w fun e w' => e = .returned (.agg (plA ⟨4, id, n, cd, false, ⟨#[]⟩, zn, []⟩ (.slice none 0 0))) ∧ Below w.heap.size w w' := by
  obtain ⟨W1, hW1⟩ : ∃ W1, W1 = w.alloc (.cells #[.int .u8 0, .int .i64 0, .int .i64 0, .int .i64 0, .bool false, .string ⟨#[]⟩, .int .u8 0, .int .u8 0, .int .u8 0, .int .u8 0, .int .u8 0, .int .u8 0, .int .u8 0, .int .u8 0, .int .u8 0, .int .u8 0, .int .u8 0, .int .u8 0, .int .u8 0, .int .u8 0, .int .u8 0, .int .u8 0, .slice none 0 0] 36) := ⟨_, rfl⟩
  have b1 : Below w.heap.size w W1 := by rw [hW1]; exact al_below _ _
  have g1 : W1.heap[w.heap.size]? = some (.cells #[.int .u8 0, .int .i64 0, .int .i64 0, .int .i64 0, .bool false, .string ⟨#[]⟩, .int .u8 0, .int .u8 0, .int .u8 0, .int .u8 0, .int .u8 0, .int .u8 0, .int .u8 0, .int .u8 0, .int .u8 0, .int .u8 0, .int .u8 0, .int .u8 0, .int .u8 0, .int .u8 0, .int .u8 0, .int .u8 0, .slice none 0 0] 36 (0, 0)) := by rw [hW1]; exact heap_alloc_new _ _
  obtain ⟨W2, hW2⟩ : ∃ W2, W2 = W1.alloc (.cells #[.int .i64 id, .int .i64 cd, .int .i64 n] 75) := ⟨_, rfl⟩
  have b2 : Below W1.heap.size W1 W2 := by rw [hW2]; exact al_below _ _
  have HG2 : Hid (W2.heap[w.heap.size]? = some (.cells #[.int .u8 0, .int .i64 0, .int .i64 0, .int .i64 0, .bool false, .string ⟨#[]⟩, .int .u8 0, .int .u8 0, .int .u8 0, .int .u8 0, .int .u8 0, .int .u8 0, .int .u8 0, .int .u8 0, .int .u8 0, .int .u8 0, .int .u8 0, .int .u8 0, .int .u8 0, .int .u8 0, .int .u8 0, .int .u8 0, .slice none 0 0] 36 (0, 0))) := blk_kept g1 b2 (blk_lt g1)
  have HB2 : Hid (Below w.heap.size w W2) := b1.trans (b2.mono b1.size)
  have HSZ : Hid ((Tryd.prog.info? 36).map (·.size) = some (plA ⟨4, id, n, cd, false, ⟨#[]⟩, zn, []⟩ (.slice none 0 0)).size) := infoP
  have HON : Hid ((plA ⟨4, id, n, cd, false, ⟨#[]⟩, zn, []⟩ (.slice none 0 0)).all (·.oneCell') = true) := all_oneCell_toArray (plL_one rfl)
  have a1 : ∀ (v : Value) (W : World), (Instr.typeAssert (.iface 75 v) 32 70 true).run Tryd.prog W = .ok (.tuple #[.agg #[], .bool false]) W := fun v W => by kernel_rfl
  have a2 : ∀ (v : Value) (W : World), (Instr.typeAssert (.iface 75 v) 32 73 true).run Tryd.prog W = .ok (.tuple #[.agg #[.int .i64 0, .slice none 0 0], .bool false]) W := fun v W => by kernel_rfl
  have a3 : ∀ (v : Value) (W : World), (Instr.typeAssert (.iface 75 v) 32 46 true).run Tryd.prog W = .ok (.tuple #[.agg #[.int .i64 0, .int .i64 0, .bool false, .string ⟨#[]⟩], .bool false]) W := fun v W => by kernel_rfl
  have a4 : ∀ (v : Value) (W : World), (Instr.typeAssert (.iface 75 v) 32 75 true).run Tryd.prog W = .ok (.tuple #[v, .bool true]) W := fun v W => by kernel_rfl
  clear b1 g1 b2
  go_enter Tryd.func17, Tryd.ntmps17
  go_upto_region 1 with fail
  rw [← hW1]
  clear hW1
  go_wp2_with (rw [← hW2]; refine wpList_store_row rfl 36 _ _ rfl w.heap.size (plA ⟨4, id, n, cd, false, ⟨#[]⟩, zn, []⟩ (.slice none 0 0)) rfl rfl 36 _ HG2.out HSZ.out rfl HON.out (Hid.out ?_))
  unfold Hid
  go_wp2
  rw [← hW2]
  refine bodyPost_ret (v := .agg (plA ⟨4, id, n, cd, false, ⟨#[]⟩, zn, []⟩ (.slice none 0 0))) (results_cell_row rfl _ _ w.heap.size 36 (plA ⟨4, id, n, cd, false, ⟨#[]⟩, zn, []⟩ (.slice none 0 0)) (0, 0) _ rfl (setRow_heap _ _ _ _ _ _ HG2.out) Tryd.underlying36 rfl HSZ.out) rfl ⟨rfl, below_setRow HB2.out (Nat.le_refl _) _⟩
set_option maxHeartbeats 8000000 in
theorem flat5 (id cd : Int) (w : World) :
    Calls Tryd.prog 17 #[.iface 77 (.agg #[.int .i64 id, .int .i64 cd])] w fun e w' => e = .returned (.agg (plA ⟨5, id, 0, cd, false, ⟨#[]⟩, zn, []⟩ (.slice none 0 0))) ∧ Below w.heap.size w w' := by
  obtain ⟨W1, hW1⟩ : ∃ W1, W1 = w.alloc (.cells #[.int .u8 0, .int .i64 0, .int .i64 0, .int .i64 0, .bool false, .string ⟨#[]⟩, .int .u8 0, .int .u8 0, .int .u8 0, .int .u8 0, .int .u8 0, .int .u8 0, .int .u8 0, .int .u8 0, .int .u8 0, .int .u8 0, .int .u8 0, .int .u8 0, .int .u8 0, .int .u8 0, .int .u8 0, .int .u8 0, .slice none 0 0] 36) := ⟨_, rfl⟩
  have b1 : Below w.heap.size w W1 := by rw [hW1]; exact al_below _ _
  have g1 : W1.heap[w.heap.size]? = some (.cells #[.int .u8 0, .int .i64 0, .int .i64 0, .int .i64 0, .bool false, .string ⟨#[]⟩, .int .u8 0, .int .u8 0, .int .u8 0, .int .u8 0, .int .u8 0, .int .u8 0, .int .u8 0, .int .u8 0, .int .u8 0, .int .u8 0, .int .u8 0, .int .u8 0, .int .u8 0, .int .u8 0, .int .u8 0, .int .u8 0, .slice none 0 0] 36 (0, 0)) := by rw [hW1]; exact heap_alloc_new _ _
  obtain ⟨W2, hW2⟩ : ∃ W2, W2 = W1.alloc (.cells #[.int .i64 id, .int .i64 cd] 77) := ⟨_, rfl⟩
  have b2 : Below W1.heap.size W1 W2 := by rw [hW2]; exact al_below _ _
  have HG2 : Hid (W2.heap[w.heap.size]? = some (.cells #[.int .u8 0, .int .i64 0, .int .i64 0, .int .i64 0, .bool false, .string ⟨#[]⟩, .int .u8 0, .int .u8 0, .int .u8 0, .int .u8 0, .int .u8 0, .int .u8 0, .int .u8 0, .int .u8 0, .int .u8 0, .int .u8 0, .int .u8 0, .int .u8 0, .int .u8 0, .int .u8 0, .int .u8 0, .int .u8 0, .slice none 0 0] 36 (0, 0))) := blk_kept g1 b2 (blk_lt g1)
  have HB2 : Hid (Below w.heap.size w W2) := b1.trans (b2.mono b1.size)
  have HSZ : Hid ((Tryd.prog.info? 36).map (·.size) = some (plA ⟨5, id, 0, cd, false, ⟨#[]⟩, zn, []⟩ (.slice none 0 0)).size) := infoP
  have HON : Hid ((plA ⟨5, id, 0, cd, false, ⟨#[]⟩, zn, []⟩ (.slice none 0 0)).all (·.oneCell') = true) := all_oneCell_toArray (plL_one rfl)
  have a1 : ∀ (v : Value) (W : World), (Instr.typeAssert (.iface 77 v) 32 70 true).run Tryd.prog W = .ok (.tuple #[.agg #[], .bool false]) W := fun v W => by kernel_rfl
  have a2 : ∀ (v : Value) (W : World), (Instr.typeAssert (.iface 77 v) 32 73 true).run Tryd.prog W = .ok (.tuple #[.agg #[.int .i64 0, .slice none 0 0], .bool false]) W := fun v W => by kernel_rfl
  have a3 : ∀ (v : Value) (W : World), (Instr.typeAssert (.iface 77 v) 32 46 true).run Tryd.prog W = .ok (.tuple #[.agg #[.int .i64 0, .int .i64 0, .bool false, .string ⟨#[]⟩], .bool false]) W := fun v W => by kernel_rfl
  have a4 : ∀ (v : Value) (W : World), (Instr.typeAssert (.iface 77 v) 32 75 true).run Tryd.prog W = .ok (.tuple #[.agg #[.int .i64 0, .int .i64 0, .int .i64 0], .bool false]) W := fun v W => by kernel_rfl
  have a5 : ∀ (v : Value) (W : World), (Instr.typeAssert (.iface 77 v) 32 77 true).run Tryd.prog W = .ok (.tuple #[v, .bool true]) W := fun v W => by kernel_rfl
  clear b1 g1 b2
  go_enter Tryd.func17, Tryd.ntmps17
  go_upto_region 1 with fail
  rw [← hW1]
  clear hW1
  go_wp2_with (rw [← hW2]; refine wpList_store_row rfl 36 _ _ rfl w.heap.size (plA ⟨5, id, 0, cd, false, ⟨#[]⟩, zn, []⟩ (.slice none 0 0)) rfl rfl 36 _ HG2.out HSZ.out rfl HON.out (Hid.out ?_))
  unfold Hid
  go_wp2
  rw [← hW2]
  refine bodyPost_ret (v := .agg (plA ⟨5, id, 0, cd, false, ⟨#[]⟩, zn, []⟩ (.slice none 0 0))) (results_cell_row rfl _ _ w.heap.size 36 (plA ⟨5, id, 0, cd, false, ⟨#[]⟩, zn, []⟩ (.slice none 0 0)) (0, 0) _ rfl (setRow_heap _ _ _ _ _ _ HG2.out) Tryd.underlying36 rfl HSZ.out) rfl ⟨rfl, below_setRow HB2.out (Nat.le_refl _) _⟩
end Go.Proofs.YthhghehnaopmhaaDoor
namespace Go.Proofs.YthhghehnaopmhaaDoor
open Go.RowKit
set_option maxRecDepth 100000

set_option maxHeartbeats 8000000 in
theorem flat0 (w : World) :
    Calls Tryd.prog 17 #[.nilIface] w fun e w' => e = .returned (.agg (plA Fm.zero (.slice none 0 0))) ∧ Below w.heap.size w w' := by
  obtain ⟨W1, hW1⟩ : ∃ W1, W1 = w.alloc (.cells #[.int .u8 0, .int .i64 0, .int .i64 0, .int .i64 0, .bool false, .string ⟨#[]⟩, .int .u8 0, .int .u8 0, .int .u8 0, .int .u8 0, .int .u8 0, .int .u8 0, .int .u8 0, .int .u8 0, .int .u8 0, .int .u8 0, .int .u8 0, .int .u8 0, .int .u8 0, .int .u8 0, .int .u8 0, .int .u8 0, .slice none 0 0] 36) := ⟨_, rfl⟩
  have b1 : Below w.heap.size w W1 := by rw [hW1]; exact al_below _ _
  have g1 : W1.heap[w.heap.size]? = some (.cells #[.int .u8 0, .int .i64 0, .int .i64 0, .int .i64 0, .bool false, .string ⟨#[]⟩, .int .u8 0, .int .u8 0, .int .u8 0, .int .u8 0, .int .u8 0, .int .u8 0, .int .u8 0, .int .u8 0, .int .u8 0, .int .u8 0, .int .u8 0, .int .u8 0, .int .u8 0, .int .u8 0, .int .u8 0, .int .u8 0, .slice none 0 0] 36 (0, 0)) := by rw [hW1]; exact heap_alloc_new _ _
  have HG1 : Hid (W1.heap[w.heap.size]? = some (.cells #[.int .u8 0, .int .i64 0, .int .i64 0, .int .i64 0, .bool false, .string ⟨#[]⟩, .int .u8 0, .int .u8 0, .int .u8 0, .int .u8 0, .int .u8 0, .int .u8 0, .int .u8 0, .int .u8 0, .int .u8 0, .int .u8 0, .int .u8 0, .int .u8 0, .int .u8 0, .int .u8 0, .int .u8 0, .int .u8 0, .slice none 0 0] 36 (0, 0))) := g1
  have HB1 : Hid (Below w.heap.size w W1) := b1
  have HSZ : Hid ((Tryd.prog.info? 36).map (·.size) = some (plA Fm.zero (.slice none 0 0)).size) := infoP
  have HON : Hid ((plA Fm.zero (.slice none 0 0)).all (·.oneCell') = true) := all_oneCell_toArray (plL_one rfl)
  have a1 : ∀ (W : World), (Instr.typeAssert .nilIface 32 70 true).run Tryd.prog W = .ok (.tuple #[.agg #[], .bool false]) W := fun W => by kernel_rfl
  have a2 : ∀ (W : World), (Instr.typeAssert .nilIface 32 73 true).run Tryd.prog W = .ok (.tuple #[.agg #[.int .i64 0, .slice none 0 0], .bool false]) W := fun W => by kernel_rfl
  have a3 : ∀ (W : World), (Instr.typeAssert .nilIface 32 46 true).run Tryd.prog W = .ok (.tuple #[.agg #[.int .i64 0, .int .i64 0, .bool false, .string ⟨#[]⟩], .bool false]) W := fun W => by kernel_rfl
  have a4 : ∀ (W : World), (Instr.typeAssert .nilIface 32 75 true).run Tryd.prog W = .ok (.tuple #[.agg #[.int .i64 0, .int .i64 0, .int .i64 0], .bool false]) W := fun W => by kernel_rfl
  have a5 : ∀ (W : World), (Instr.typeAssert .nilIface 32 77 true).run Tryd.prog W = .ok (.tuple #[.agg #[.int .i64 0, .int .i64 0], .bool false]) W := fun W => by kernel_rfl
  have a6 : ∀ (W : World), (Instr.typeAssert .nilIface 32 79 true).run Tryd.prog W = .ok (.tuple #[.agg #[.int .i64 0], .bool false]) W := fun W => by kernel_rfl
  have a7 : ∀ (W : World), (Instr.typeAssert .nilIface 32 81 true).run Tryd.prog W = .ok (.tuple #[.agg #[.int .i64 0, .int .i64 0], .bool false]) W := fun W => by kernel_rfl
  have a8 : ∀ (W : World), (Instr.typeAssert .nilIface 32 82 true).run Tryd.prog W = .ok (.tuple #[.agg #[.int .i64 0], .bool false]) W := fun W => by kernel_rfl
  have a9 : ∀ (W : World), (Instr.typeAssert .nilIface 32 84 true).run Tryd.prog W = .ok (.tuple #[.agg #[.int .u8 0, .int .u8 0, .int .u8 0, .int .u8 0, .int .u8 0, .int .u8 0, .int .u8 0, .int .u8 0, .int .u8 0, .int .u8 0, .int .u8 0, .int .u8 0, .int .u8 0, .int .u8 0, .int .u8 0, .int .u8 0, .string ⟨#[]⟩], .bool false]) W := fun W => by kernel_rfl
  have a10 : ∀ (W : World), (Instr.typeAssert .nilIface 32 86 true).run Tryd.prog W = .ok (.tuple #[.agg #[.int .i64 0, .string ⟨#[]⟩], .bool false]) W := fun W => by kernel_rfl
  clear b1 g1
  go_enter Tryd.func17, Tryd.ntmps17
  go_upto_region 1 with fail
  rw [← hW1]
  clear hW1
  go_wp2_with (refine wpList_store_row rfl 36 _ _ rfl w.heap.size (plA Fm.zero (.slice none 0 0)) rfl rfl 36 _ HG1.out HSZ.out rfl HON.out (Hid.out ?_))
  unfold Hid
  go_wp2
  refine bodyPost_ret (v := .agg (plA Fm.zero (.slice none 0 0))) (results_cell_row rfl _ _ w.heap.size 36 (plA Fm.zero (.slice none 0 0)) (0, 0) _ rfl (setRow_heap _ _ _ _ _ _ HG1.out) Tryd.underlying36 rfl HSZ.out) rfl ⟨rfl, below_setRow HB1.out (Nat.le_refl _) _⟩
set_option maxHeartbeats 8000000 in
theorem flat6 (n : Int) (w : World) :
    Calls Tryd.prog 17 #[.iface 79 (.agg #[.int .i64 n])] w fun e w' => e = .returned (.agg (plA ⟨6, 0, n, 0, false, ⟨#[]⟩, zn, []⟩ (.slice none 0 0))) ∧ Below w.heap.size w w' := by
  obtain ⟨W1, hW1⟩ : ∃ W1, W1 = w.alloc (.cells #[.int .u8 0, .int .i64 0, .int .i64 0, .int .i64 0, .bool false, .string ⟨#[]⟩, .int .u8 0, .int .u8 0, .int .u8 0, .int .u8 0, .int .u8 0, .int .u8 0, .int .u8 0, .int .u8 0, .int .u8 0, .int .u8 0, .int .u8 0, .int .u8 0, .int .u8 0, .int .u8 0, .int .u8 0, .int .u8 0, .slice none 0 0] 36) := ⟨_, rfl⟩
  have b1 : Below w.heap.size w W1 := by rw [hW1]; exact al_below _ _
  have g1 : W1.heap[w.heap.size]? = some (.cells #[.int .u8 0, .int .i64 0, .int .i64 0, .int .i64 0, .bool false, .string ⟨#[]⟩, .int .u8 0, .int .u8 0, .int .u8 0, .int .u8 0, .int .u8 0, .int .u8 0, .int .u8 0, .int .u8 0, .int .u8 0, .int .u8 0, .int .u8 0, .int .u8 0, .int .u8 0, .int .u8 0, .int .u8 0, .int .u8 0, .slice none 0 0] 36 (0, 0)) := by rw [hW1]; exact heap_alloc_new _ _
  obtain ⟨W2, hW2⟩ : ∃ W2, W2 = W1.alloc (.cells #[.int .i64 n] 79) := ⟨_, rfl⟩
  have b2 : Below W1.heap.size W1 W2 := by rw [hW2]; exact al_below _ _
  have HG2 : Hid (W2.heap[w.heap.size]? = some (.cells #[.int .u8 0, .int .i64 0, .int .i64 0, .int .i64 0, .bool false, .string ⟨#[]⟩, .int .u8 0, .int .u8 0, .int .u8 0, .int .u8 0, .int .u8 0, .int .u8 0, .int .u8 0, .int .u8 0, .int .u8 0, .int .u8 0, .int .u8 0, .int .u8 0, .int .u8 0, .int .u8 0, .int .u8 0, .int .u8 0, .slice none 0 0] 36 (0, 0))) := blk_kept g1 b2 (blk_lt g1)
  have HB2 : Hid (Below w.heap.size w W2) := b1.trans (b2.mono b1.size)
  have HSZ : Hid ((Tryd.prog.info? 36).map (·.size) = some (plA ⟨6, 0, n, 0, false, ⟨#[]⟩, zn, []⟩ (.slice none 0 0)).size) := infoP
  have HON : Hid ((plA ⟨6, 0, n, 0, false, ⟨#[]⟩, zn, []⟩ (.slice none 0 0)).all (·.oneCell') = true) := all_oneCell_toArray (plL_one rfl)
  have a1 : ∀ (v : Value) (W : World), (Instr.typeAssert (.iface 79 v) 32 70 true).run Tryd.prog W = .ok (.tuple #[.agg #[], .bool false]) W := fun v W => by kernel_rfl
  have a2 : ∀ (v : Value) (W : World), (Instr.typeAssert (.iface 79 v) 32 73 true).run Tryd.prog W = .ok (.tuple #[.agg #[.int .i64 0, .slice none 0 0], .bool false]) W := fun v W => by kernel_rfl
  have a3 : ∀ (v : Value) (W : World), (Instr.typeAssert (.iface 79 v) 32 46 true).run Tryd.prog W = .ok (.tuple #[.agg #[.int .i64 0, .int .i64 0, .bool false, .string ⟨#[]⟩], .bool false]) W := fun v W => by kernel_rfl
  have a4 : ∀ (v : Value) (W : World), (Instr.typeAssert (.iface 79 v) 32 75 true).run Tryd.prog W = .ok (.tuple #[.agg #[.int .i64 0, .int .i64 0, .int .i64 0], .bool false]) W := fun v W => by kernel_rfl
  have a5 : ∀ (v : Value) (W : World), (Instr.typeAssert (.iface 79 v) 32 77 true).run Tryd.prog W = .ok (.tuple #[.agg #[.int .i64 0, .int .i64 0], .bool false]) W := fun v W => by kernel_rfl
  have a6 : ∀ (v : Value) (W : World), (Instr.typeAssert (.iface 79 v) 32 79 true).run Tryd.prog W = .ok (.tuple #[v, .bool true]) W := fun v W => by kernel_rfl
  clear b1 g1 b2
  go_enter Tryd.func17, Tryd.ntmps17
  go_upto_region 1 with fail
  rw [← hW1]
  clear hW1
  go_wp2_with (rw [← hW2]; refine wpList_store_row rfl 36 _ _ rfl w.heap.size (plA ⟨6, 0, n, 0, false, ⟨#[]⟩, zn, []⟩ (.slice none 0 0)) rfl rfl 36 _ HG2.out HSZ.out rfl HON.out (Hid.out ?_))
  unfold Hid
  go_wp2
  rw [← hW2]
  refine bodyPost_ret (v := .agg (plA ⟨6, 0, n, 0, false, ⟨#[]⟩, zn, []⟩ (.slice none 0 0))) (results_cell_row rfl _ _ w.heap.size 36 (plA ⟨6, 0, n, 0, false, ⟨#[]⟩, zn, []⟩ (.slice none 0 0)) (0, 0) _ rfl (setRow_heap _ _ _ _ _ _ HG2.out) Tryd.underlying36 rfl HSZ.out) rfl ⟨rfl, below_setRow HB2.out (Nat.le_refl _) _⟩
set_option maxHeartbeats 8000000 in
theorem flat7 (id n : Int) (w : World) :
    Calls Tryd.prog 17 #[.iface 81 (.agg #[.int .i64 id, .int .i64 n])] w fun e w' => e = .returned (.agg (plA ⟨7, id, n, 0, false, ⟨#[]⟩, zn, []⟩ (.slice none 0 0))) ∧ Below w.heap.size w w' := by
  obtain ⟨W1, hW1⟩ : ∃ W1, W1 = w.alloc (.cells #[.int .u8 0, .int .i64 0, .int .i64 0, .int .i64 0, .bool false, .string ⟨#[]⟩, .int .u8 0, .int .u8 0, .int .u8 0, .int .u8 0, .int .u8 0, .int .u8 0, .int .u8 0, .int .u8 0, .int .u8 0, .int .u8 0, .int .u8 0, .int .u8 0, .int .u8 0, .int .u8 0, .int .u8 0, .int .u8 0, .slice none 0 0] 36) := ⟨_, rfl⟩
  have b1 : Below w.heap.size w W1 := by rw [hW1]; exact al_below _ _
  have g1 : W1.heap[w.heap.size]? = some (.cells #[.int .u8 0, .int .i64 0, .int .i64 0, .int .i64 0, .bool false, .string ⟨#[]⟩, .int .u8 0, .int .u8 0, .int .u8 0, .int .u8 0, .int .u8 0, .int .u8 0, .int .u8 0, .int .u8 0, .int .u8 0, .int .u8 0, .int .u8 0, .int .u8 0, .int .u8 0, .int .u8 0, .int .u8 0, .int .u8 0, .slice none 0 0] 36 (0, 0)) := by rw [hW1]; exact heap_alloc_new _ _
  obtain ⟨W2, hW2⟩ : ∃ W2, W2 = W1.alloc (.cells #[.int .i64 id, .int .i64 n] 81) := ⟨_, rfl⟩
  have b2 : Below W1.heap.size W1 W2 := by rw [hW2]; exact al_below _ _
  have HG2 : Hid (W2.heap[w.heap.size]? = some (.cells #[.int .u8 0, .int .i64 0, .int .i64 0, .int .i64 0, .bool false, .string ⟨#[]⟩, .int .u8 0, .int .u8 0, .int .u8 0, .int .u8 0, .int .u8 0, .int .u8 0, .int .u8 0, .int .u8 0, .int .u8 0, .int .u8 0, .int .u8 0, .int .u8 0, .int .u8 0, .int .u8 0, .int .u8 0, .int .u8 0, .slice none 0 0] 36 (0, 0))) := blk_kept g1 b2 (blk_lt g1)
  have HB2 : Hid (Below w.heap.size w W2) := b1.trans (b2.mono b1.size)
  have HSZ : Hid ((Tryd.prog.info? 36).map (·.size) = some (plA ⟨7, id, n, 0, false, ⟨#[]⟩, zn, []⟩ (.slice none 0 0)).size) := infoP
  have HON : Hid ((plA ⟨7, id, n, 0, false, ⟨#[]⟩, zn, []⟩ (.slice none 0 0)).all (·.oneCell') = true) := all_oneCell_toArray (plL_one rfl)
  have a1 : ∀ (v : Value) (W : World), (Instr.typeAssert (.iface 81 v) 32 70 true).run Tryd.prog W = .ok (.tuple #[.agg #[], .bool false]) W := fun v W => by kernel_rfl
  have a2 : ∀ (v : Value) (W : World), (Instr.typeAssert (.iface 81 v) 32 73 true).run Tryd.prog W = .ok (.tuple #[.agg #[.int .i64 0, .slice none 0 0], .bool false]) W := fun v W => by kernel_rfl
  have a3 : ∀ (v : Value) (W : World), (Instr.typeAssert (.iface 81 v) 32 46 true).run Tryd.prog W = .ok (.tuple #[.agg #[.int .i64 0, .int .i64 0, .bool false, .string ⟨#[]⟩], .bool false]) W := fun v W => by kernel_rfl
  have a4 : ∀ (v : Value) (W : World), (Instr.typeAssert (.iface 81 v) 32 75 true).run Tryd.prog W = .ok (.tuple #[.agg #[.int .i64 0, .int .i64 0, .int .i64 0], .bool false]) W := fun v W => by kernel_rfl
  have a5 : ∀ (v : Value) (W : World), (Instr.typeAssert (.iface 81 v) 32 77 true).run Tryd.prog W = .ok (.tuple #[.agg #[.int .i64 0, .int .i64 0], .bool false]) W := fun v W => by kernel_rfl
  have a6 : ∀ (v : Value) (W : World), (Instr.typeAssert (.iface 81 v) 32 79 true).run Tryd.prog W = .ok (.tuple #[.agg #[.int .i64 0], .bool false]) W := fun v W => by kernel_rfl
  have a7 : ∀ (v : Value) (W : World), (Instr.typeAssert (.iface 81 v) 32 81 true).run Tryd.prog W = .ok (.tuple #[v, .bool true]) W := fun v W => by kernel_rfl
  clear b1 g1 b2
  go_enter Tryd.func17, Tryd.ntmps17
  go_upto_region 1 with fail
  rw [← hW1]
  clear hW1
  go_wp2_with (rw [← hW2]; refine wpList_store_row rfl 36 _ _ rfl w.heap.size (plA ⟨7, id, n, 0, false, ⟨#[]⟩, zn, []⟩ (.slice none 0 0)) rfl rfl 36 _ HG2.out HSZ.out rfl HON.out (Hid.out ?_))
  unfold Hid
  go_wp2
  rw [← hW2]
  refine bodyPost_ret (v := .agg (plA ⟨7, id, n, 0, false, ⟨#[]⟩, zn, []⟩ (.slice none 0 0))) (results_cell_row rfl _ _ w.heap.size 36 (plA ⟨7, id, n, 0, false, ⟨#[]⟩, zn, []⟩ (.slice none 0 0)) (0, 0) _ rfl (setRow_heap _ _ _ _ _ _ HG2.out) Tryd.underlying36 rfl HSZ.out) rfl ⟨rfl, below_setRow HB2.out (Nat.le_refl _) _⟩
set_option maxHeartbeats 8000000 in
theorem flat8 (n : Int) (w : World) :
    Calls Tryd.prog 17 #[.iface 82 (.agg #[.int .i64 n])] w fun e w' => e = .returned (.agg (plA ⟨8, 0, n, 0, false, ⟨#[]⟩, zn, []⟩ (.slice none 0 0))) ∧ Below w.heap.size w w' := by
  obtain ⟨W1, hW1⟩ : ∃ W1, W1 = w.alloc (.cells #[.int .u8 0, .int .i64 0, .int .i64 0, .int .i64 0, .bool false, .string ⟨#[]⟩, .int .u8 0, .int .u8 0, .int .u8 0, .int .u8 0, .int .u8 0, .int .u8 0, .int .u8 0, .int .u8 0, .int .u8 0, .int .u8 0, .int .u8 0, .int .u8 0, .int .u8 0, .int .u8 0, .int .u8 0, .int .u8 0, .slice none 0 0] 36) := ⟨_, rfl⟩
  have b1 : Below w.heap.size w W1 := by rw [hW1]; exact al_below _ _
  have g1 : W1.heap[w.heap.size]? = some (.cells #[.int .u8 0, .int .i64 0, .int .i64 0, .int .i64 0, .bool false, .string ⟨#[]⟩, .int .u8 0, .int .u8 0, .int .u8 0, .int .u8 0, .int .u8 0, .int .u8 0, .int .u8 0, .int .u8 0, .int .u8 0, .int .u8 0, .int .u8 0, .int .u8 0, .int .u8 0, .int .u8 0, .int .u8 0, .int .u8 0, .slice none 0 0] 36 (0, 0)) := by rw [hW1]; exact heap_alloc_new _ _
  obtain ⟨W2, hW2⟩ : ∃ W2, W2 = W1.alloc (.cells #[.int .i64 n] 82) := ⟨_, rfl⟩
  have b2 : Below W1.heap.size W1 W2 := by rw [hW2]; exact al_below _ _
  have HG2 : Hid (W2.heap[w.heap.size]? = some (.cells #[.int .u8 0, .int .i64 0, .int .i64 0, .int .i64 0, .bool false, .string ⟨#[]⟩, .int .u8 0, .int .u8 0, .int .u8 0, .int .u8 0, .int .u8 0, .int .u8 0, .int .u8 0, .int .u8 0, .int .u8 0, .int .u8 0, .int .u8 0, .int .u8 0, .int .u8 0, .int .u8 0, .int .u8 0, .int .u8 0, .slice none 0 0] 36 (0, 0))) := blk_kept g1 b2 (blk_lt g1)
  have HB2 : Hid (Below w.heap.size w W2) := b1.trans (b2.mono b1.size)
  have HSZ : Hid ((Tryd.prog.info? 36).map (·.size) = some (plA ⟨8, 0, n, 0, false, ⟨#[]⟩, zn, []⟩ (.slice none 0 0)).size) := infoP
  have HON : Hid ((plA ⟨8, 0, n, 0, false, ⟨#[]⟩, zn, []⟩ (.slice none 0 0)).all (·.oneCell') = true) := all_oneCell_toArray (plL_one rfl)
  have a1 : ∀ (v : Value) (W : World), (Instr.typeAssert (.iface 82 v) 32 70 true).run Tryd.prog W = .ok (.tuple #[.agg #[], .bool false]) W := fun v W => by kernel_rfl
  have a2 : ∀ (v : Value) (W : World), (Instr.typeAssert (.iface 82 v) 32 73 true).run Tryd.prog W = .ok (.tuple #[.agg #[.int .i64 0, .slice none 0 0], .bool false]) W := fun v W => by kernel_rfl
  have a3 : ∀ (v : Value) (W : World), (Instr.typeAssert (.iface 82 v) 32 46 true).run Tryd.prog W = .ok (.tuple #[.agg #[.int .i64 0, .int .i64 0, .bool false, .string ⟨#[]⟩], .bool false]) W := fun v W => by kernel_rfl
  have a4 : ∀ (v : Value) (W : World), (Instr.typeAssert (.iface 82 v) 32 75 true).run Tryd.prog W = .ok (.tuple #[.agg #[.int .i64 0, .int .i64 0, .int .i64 0], .bool false]) W := fun v W => by kernel_rfl
  have a5 : ∀ (v : Value) (W : World), (Instr.typeAssert (.iface 82 v) 32 77 true).run Tryd.prog W = .ok (.tuple #[.agg #[.int .i64 0, .int .i64 0], .bool false]) W := fun v W => by kernel_rfl
  have a6 : ∀ (v : Value) (W : World), (Instr.typeAssert (.iface 82 v) 32 79 true).run Tryd.prog W = .ok (.tuple #[.agg #[.int .i64 0], .bool false]) W := fun v W => by kernel_rfl
  have a7 : ∀ (v : Value) (W : World), (Instr.typeAssert (.iface 82 v) 32 81 true).run Tryd.prog W = .ok (.tuple #[.agg #[.int .i64 0, .int .i64 0], .bool false]) W := fun v W => by kernel_rfl
  have a8 : ∀ (v : Value) (W : World), (Instr.typeAssert (.iface 82 v) 32 82 true).run Tryd.prog W = .ok (.tuple #[v, .bool true]) W := fun v W => by kernel_rfl
  clear b1 g1 b2
  go_enter Tryd.func17, Tryd.ntmps17
  go_upto_region 1 with fail
  rw [← hW1]
  clear hW1
  go_wp2_with (rw [← hW2]; refine wpList_store_row rfl 36 _ _ rfl w.heap.size (plA ⟨8, 0, n, 0, false, ⟨#[]⟩, zn, []⟩ (.slice none 0 0)) rfl rfl 36 _ HG2.out HSZ.out rfl HON.out (Hid.out ?_))
  unfold Hid
  go_wp2
  rw [← hW2]
  refine bodyPost_ret (v := .agg (plA ⟨8, 0, n, 0, false, ⟨#[]⟩, zn, []⟩ (.slice none 0 0))) (results_cell_row rfl _ _ w.heap.size 36 (plA ⟨8, 0, n, 0, false, ⟨#[]⟩, zn, []⟩ (.slice none 0 0)) (0, 0) _ rfl (setRow_heap _ _ _ _ _ _ HG2.out) Tryd.underlying36 rfl HSZ.out) rfl ⟨rfl, below_setRow HB2.out (Nat.le_refl _) _⟩
set_option maxHeartbeats 8000000 in
theorem flat9 (x0 x1 x2 x3 x4 x5 x6 x7 x8 x9 xa xb xc xd xe xf : Int) (tx : ByteArray) (w : World) :
    Calls Tryd.prog 17 #[.iface 84 (.agg #[.int .u8 x0, .int .u8 x1, .int .u8 x2, .int .u8 x3, .int .u8 x4, .int .u8 x5, .int .u8 x6, .int .u8 x7, .int .u8 x8, .int .u8 x9, .int .u8 xa, .int .u8 xb, .int .u8 xc, .int .u8 xd, .int .u8 xe, .int .u8 xf, .string tx])] w fun e w' => e = .returned (.agg (plA ⟨9, 0, 0, 0, false, tx, [x0, x1, x2, x3, x4, x5, x6, x7, x8, x9, xa, xb, xc, xd, xe, xf], []⟩ (.slice none 0 0))) ∧ Below w.heap.size w w' := by
  obtain ⟨W1, hW1⟩ : ∃ W1, W1 = w.alloc (.cells #[.int .u8 0, .int .i64 0, .int .i64 0, .int .i64 0, .bool false, .string ⟨#[]⟩, .int .u8 0, .int .u8 0, .int .u8 0, .int .u8 0, .int .u8 0, .int .u8 0, .int .u8 0, .int .u8 0, .int .u8 0, .int .u8 0, .int .u8 0, .int .u8 0, .int .u8 0, .int .u8 0, .int .u8 0, .int .u8 0, .slice none 0 0] 36) := ⟨_, rfl⟩
  have b1 : Below w.heap.size w W1 := by rw [hW1]; exact al_below _ _
  have g1 : W1.heap[w.heap.size]? = some (.cells #[.int .u8 0, .int .i64 0, .int .i64 0, .int .i64 0, .bool false, .string ⟨#[]⟩, .int .u8 0, .int .u8 0, .int .u8 0, .int .u8 0, .int .u8 0, .int .u8 0, .int .u8 0, .int .u8 0, .int .u8 0, .int .u8 0, .int .u8 0, .int .u8 0, .int .u8 0, .int .u8 0, .int .u8 0, .int .u8 0, .slice none 0 0] 36 (0, 0)) := by rw [hW1]; exact heap_alloc_new _ _
  obtain ⟨W2, hW2⟩ : ∃ W2, W2 = W1.alloc (.cells #[.int .u8 x0, .int .u8 x1, .int .u8 x2, .int .u8 x3, .int .u8 x4, .int .u8 x5, .int .u8 x6, .int .u8 x7, .int .u8 x8, .int .u8 x9, .int .u8 xa, .int .u8 xb, .int .u8 xc, .int .u8 xd, .int .u8 xe, .int .u8 xf, .string tx] 84) := ⟨_, rfl⟩
  have b2 : Below W1.heap.size W1 W2 := by rw [hW2]; exact al_below _ _
  have HG2 : Hid (W2.heap[w.heap.size]? = some (.cells #[.int .u8 0, .int .i64 0, .int .i64 0, .int .i64 0, .bool false, .string ⟨#[]⟩, .int .u8 0, .int .u8 0, .int .u8 0, .int .u8 0, .int .u8 0, .int .u8 0, .int .u8 0, .int .u8 0, .int .u8 0, .int .u8 0, .int .u8 0, .int .u8 0, .int .u8 0, .int .u8 0, .int .u8 0, .int .u8 0, .slice none 0 0] 36 (0, 0))) := blk_kept g1 b2 (blk_lt g1)
  have HB2 : Hid (Below w.heap.size w W2) := b1.trans (b2.mono b1.size)
  have HSZ : Hid ((Tryd.prog.info? 36).map (·.size) = some (plA ⟨9, 0, 0, 0, false, tx, [x0, x1, x2, x3, x4, x5, x6, x7, x8, x9, xa, xb, xc, xd, xe, xf], []⟩ (.slice none 0 0)).size) := infoP
  have HON : Hid ((plA ⟨9, 0, 0, 0, false, tx, [x0, x1, x2, x3, x4, x5, x6, x7, x8, x9, xa, xb, xc, xd, xe, xf], []⟩ (.slice none 0 0)).all (·.oneCell') = true) := all_oneCell_toArray (plL_one rfl)
  have a1 : ∀ (v : Value) (W : World), (Instr.typeAssert (.iface 84 v) 32 70 true).run Tryd.prog W = .ok (.tuple #[.agg #[], .bool false]) W := fun v W => by kernel_rfl
  have a2 : ∀ (v : Value) (W : World), (Instr.typeAssert (.iface 84 v) 32 73 true).run Tryd.prog W = .ok (.tuple #[.agg #[.int .i64 0, .slice none 0 0], .bool false]) W := fun v W => by kernel_rfl
  have a3 : ∀ (v : Value) (W : World), (Instr.typeAssert (.iface 84 v) 32 46 true).run Tryd.prog W = .ok (.tuple #[.agg #[.int .i64 0, .int .i64 0, .bool false, .string ⟨#[]⟩], .bool false]) W := fun v W => by kernel_rfl
  have a4 : ∀ (v : Value) (W : World), (Instr.typeAssert (.iface 84 v) 32 75 true).run Tryd.prog W = .ok (.tuple #[.agg #[.int .i64 0, .int .i64 0, .int .i64 0], .bool false]) W := fun v W => by kernel_rfl
  have a5 : ∀ (v : Value) (W : World), (Instr.typeAssert (.iface 84 v) 32 77 true).run Tryd.prog W = .ok (.tuple #[.agg #[.int .i64 0, .int .i64 0], .bool false]) W := fun v W => by kernel_rfl
  have a6 : ∀ (v : Value) (W : World), (Instr.typeAssert (.iface 84 v) 32 79 true).run Tryd.prog W = .ok (.tuple #[.agg #[.int .i64 0], .bool false]) W := fun v W => by kernel_rfl
  have a7 : ∀ (v : Value) (W : World), (Instr.typeAssert (.iface 84 v) 32 81 true).run Tryd.prog W = .ok (.tuple #[.agg #[.int .i64 0, .int .i64 0], .bool false]) W := fun v W => by kernel_rfl
  have a8 : ∀ (v : Value) (W : World), (Instr.typeAssert (.iface 84 v) 32 82 true).run Tryd.prog W = .ok (.tuple #[.agg #[.int .i64 0], .bool false]) W := fun v W => by kernel_rfl
  have a9 : ∀ (v : Value) (W : World), (Instr.typeAssert (.iface 84 v) 32 84 true).run Tryd.prog W = .ok (.tuple #[v, .bool true]) W := fun v W => by kernel_rfl
  clear b1 g1 b2
  go_enter Tryd.func17, Tryd.ntmps17
  go_upto_region 1 with fail
  rw [← hW1]
  clear hW1
  go_wp2_with (rw [← hW2]; refine wpList_store_row rfl 36 _ _ rfl w.heap.size (plA ⟨9, 0, 0, 0, false, tx, [x0, x1, x2, x3, x4, x5, x6, x7, x8, x9, xa, xb, xc, xd, xe, xf], []⟩ (.slice none 0 0)) rfl rfl 36 _ HG2.out HSZ.out rfl HON.out (Hid.out ?_))
  unfold Hid
  go_wp2
  rw [← hW2]
  refine bodyPost_ret (v := .agg (plA ⟨9, 0, 0, 0, false, tx, [x0, x1, x2, x3, x4, x5, x6, x7, x8, x9, xa, xb, xc, xd, xe, xf], []⟩ (.slice none 0 0))) (results_cell_row rfl _ _ w.heap.size 36 (plA ⟨9, 0, 0, 0, false, tx, [x0, x1, x2, x3, x4, x5, x6, x7, x8, x9, xa, xb, xc, xd, xe, xf], []⟩ (.slice none 0 0)) (0, 0) _ rfl (setRow_heap _ _ _ _ _ _ HG2.out) Tryd.underlying36 rfl HSZ.out) rfl ⟨rfl, below_setRow HB2.out (Nat.le_refl _) _⟩
set_option maxHeartbeats 8000000 in
theorem flat10 (cd : Int) (tx : ByteArray) (w : World) :
    Calls Tryd.prog 17 #[.iface 86 (.agg #[.int .i64 cd, .string tx])] w fun e w' => e = .returned (.agg (plA ⟨10, 0, 0, cd, false, tx, zn, []⟩ (.slice none 0 0))) ∧ Below w.heap.size w w' := by
  obtain ⟨W1, hW1⟩ : ∃ W1, W1 = w.alloc (.cells #[.int .u8 0, .int .i64 0, .int .i64 0, .int .i64 0, .bool false, .string ⟨#[]⟩, .int .u8 0, .int .u8 0, .int .u8 0, .int .u8 0, .int .u8 0, .int .u8 0, .int .u8 0, .int .u8 0, .int .u8 0, .int .u8 0, .int .u8 0, .int .u8 0, .int .u8 0, .int .u8 0, .int .u8 0, .int .u8 0, .slice none 0 0] 36) := ⟨_, rfl⟩
  have b1 : Below w.heap.size w W1 := by rw [hW1]; exact al_below _ _
  have g1 : W1.heap[w.heap.size]? = some (.cells #[.int .u8 0, .int .i64 0, .int .i64 0, .int .i64 0, .bool false, .string ⟨#[]⟩, .int .u8 0, .int .u8 0, .int .u8 0, .int .u8 0, .int .u8 0, .int .u8 0, .int .u8 0, .int .u8 0, .int .u8 0, .int .u8 0, .int .u8 0, .int .u8 0, .int .u8 0, .int .u8 0, .int .u8 0, .int .u8 0, .slice none 0 0] 36 (0, 0)) := by rw [hW1]; exact heap_alloc_new _ _
  obtain ⟨W2, hW2⟩ : ∃ W2, W2 = W1.alloc (.cells #[.int .i64 cd, .string tx] 86) := ⟨_, rfl⟩
  have b2 : Below W1.heap.size W1 W2 := by rw [hW2]; exact al_below _ _
  have HG2 : Hid (W2.heap[w.heap.size]? = some (.cells #[.int .u8 0, .int .i64 0, .int .i64 0, .int .i64 0, .bool false, .string ⟨#[]⟩, .int .u8 0, .int .u8 0, .int .u8 0, .int .u8 0, .int .u8 0, .int .u8 0, .int .u8 0, .int .u8 0, .int .u8 0, .int .u8 0, .int .u8 0, .int .u8 0, .int .u8 0, .int .u8 0, .int .u8 0, .int .u8 0, .slice none 0 0] 36 (0, 0))) := blk_kept g1 b2 (blk_lt g1)
  have HB2 : Hid (Below w.heap.size w W2) := b1.trans (b2.mono b1.size)
  have HSZ : Hid ((Tryd.prog.info? 36).map (·.size) = some (plA ⟨10, 0, 0, cd, false, tx, zn, []⟩ (.slice none 0 0)).size) := infoP
  have HON : Hid ((plA ⟨10, 0, 0, cd, false, tx, zn, []⟩ (.slice none 0 0)).all (·.oneCell') = true) := all_oneCell_toArray (plL_one rfl)
  have a1 : ∀ (v : Value) (W : World), (Instr.typeAssert (.iface 86 v) 32 70 true).run Tryd.prog W = .ok (.tuple #[.agg #[], .bool false]) W := fun v W => by kernel_rfl
  have a2 : ∀ (v : Value) (W : World), (Instr.typeAssert (.iface 86 v) 32 73 true).run Tryd.prog W = .ok (.tuple #[.agg #[.int .i64 0, .slice none 0 0], .bool false]) W := fun v W => by kernel_rfl
  have a3 : ∀ (v : Value) (W : World), (Instr.typeAssert (.iface 86 v) 32 46 true).run Tryd.prog W = .ok (.tuple #[.agg #[.int .i64 0, .int .i64 0, .bool false, .string ⟨#[]⟩], .bool false]) W := fun v W => by kernel_rfl
  have a4 : ∀ (v : Value) (W : World), (Instr.typeAssert (.iface 86 v) 32 75 true).run Tryd.prog W = .ok (.tuple #[.agg #[.int .i64 0, .int .i64 0, .int .i64 0], .bool false]) W := fun v W => by kernel_rfl
  have a5 : ∀ (v : Value) (W : World), (Instr.typeAssert (.iface 86 v) 32 77 true).run Tryd.prog W = .ok (.tuple #[.agg #[.int .i64 0, .int .i64 0], .bool false]) W := fun v W => by kernel_rfl
  have a6 : ∀ (v : Value) (W : World), (Instr.typeAssert (.iface 86 v) 32 79 true).run Tryd.prog W = .ok (.tuple #[.agg #[.int .i64 0], .bool false]) W := fun v W => by kernel_rfl
  have a7 : ∀ (v : Value) (W : World), (Instr.typeAssert (.iface 86 v) 32 81 true).run Tryd.prog W = .ok (.tuple #[.agg #[.int .i64 0, .int .i64 0], .bool false]) W := fun v W => by kernel_rfl
  have a8 : ∀ (v : Value) (W : World), (Instr.typeAssert (.iface 86 v) 32 82 true).run Tryd.prog W = .ok (.tuple #[.agg #[.int .i64 0], .bool false]) W := fun v W => by kernel_rfl
  have a9 : ∀ (v : Value) (W : World), (Instr.typeAssert (.iface 86 v) 32 84 true).run Tryd.prog W = .ok (.tuple #[.agg #[.int .u8 0, .int .u8 0, .int .u8 0, .int .u8 0, .int .u8 0, .int .u8 0, .int .u8 0, .int .u8 0, .int .u8 0, .int .u8 0, .int .u8 0, .int .u8 0, .int .u8 0, .int .u8 0, .int .u8 0, .int .u8 0, .string ⟨#[]⟩], .bool false]) W := fun v W => by kernel_rfl
  have a10 : ∀ (v : Value) (W : World), (Instr.typeAssert (.iface 86 v) 32 86 true).run Tryd.prog W = .ok (.tuple #[v, .bool true]) W := fun v W => by kernel_rfl
  clear b1 g1 b2
  go_enter Tryd.func17, Tryd.ntmps17
  go_upto_region 1 with fail
  rw [← hW1]
  clear hW1
  go_wp2_with (rw [← hW2]; refine wpList_store_row rfl 36 _ _ rfl w.heap.size (plA ⟨10, 0, 0, cd, false, tx, zn, []⟩ (.slice none 0 0)) rfl rfl 36 _ HG2.out HSZ.out rfl HON.out (Hid.out ?_))
  unfold Hid
  go_wp2
  rw [← hW2]
  refine bodyPost_ret (v := .agg (plA ⟨10, 0, 0, cd, false, tx, zn, []⟩ (.slice none 0 0))) (results_cell_row rfl _ _ w.heap.size 36 (plA ⟨10, 0, 0, cd, false, tx, zn, []⟩ (.slice none 0 0)) (0, 0) _ rfl (setRow_heap _ _ _ _ _ _ HG2.out) Tryd.underlying36 rfl HSZ.out) rfl ⟨rfl, below_setRow HB2.out (Nat.le_refl _) _⟩
end Go.Proofs.YthhghehnaopmhaaDoor
namespace Go.Proofs.YthhghehnaopmhaaDoor
open Go.RowKit
set_option maxRecDepth 100000

theorem flatF_any (p : Fm) (sv : Value) (w : World) (hK : isK p.k = true) (hb : ¬ badF p) (hn : p.nc.length = 16) (hs : hS p.k = true → SSp w sv p.sp) (hl : p.sp.length ≤ 100000) :
    Calls Tryd.prog 17 #[frV p sv] w fun e w' => ∃ sv', e = .returned (.agg (plA p sv')) ∧ RSp w' w.heap.size sv' p.sp ∧ Below w.heap.size w w' := by
  have hnil : ∀ x, RSp x w.heap.size (.slice none 0 0) [] := fun x => RI.nil _ _ _ _
  obtain ⟨k, id, n, cd, fin, tx, nc, sp⟩ := p
  simp only at hK hb hn hs hl
  unfold badF at hb
  simp only [not_or, not_and] at hb
  obtain ⟨b1, b2, b3, b4, b5, b6, b7⟩ := hb
  have hk : k = 1 ∨ k = 2 ∨ k = 3 ∨ k = 4 ∨ k = 5 ∨ k = 6 ∨ k = 7 ∨ k = 8 ∨ k = 9 ∨ k = 10 := by unfold isK at hK; simp at hK; omega
  have d1 : hI k = false → id = 0 := fun q => Classical.not_not.1 fun r => b1 r q
  have d2 : hN k = false → n = 0 := fun q => Classical.not_not.1 fun r => b2 r q
  have d3 : hF k = false → fin = false := fun q => by cases fin; rfl; exact absurd q (b3 rfl)
  have d4 : hC k = false → cd = 0 := fun q => Classical.not_not.1 fun r => b4 r q
  have d5 : hO k = false → nc = zn := fun q => Classical.not_not.1 fun r => b5 r q
  have d6 : hT k = false → tx = ⟨#[]⟩ := fun q => Classical.not_not.1 fun r => b6 r q
  have d7 : hS k = false → sp = [] := fun q => Classical.not_not.1 fun r => b7 r q
  clear b1 b2 b3 b4 b5 b6 b7 hK
  rcases hk with rfl | rfl | rfl | rfl | rfl | rfl | rfl | rfl | rfl | rfl
  · obtain rfl := d1 rfl
    obtain rfl := d2 rfl
    obtain rfl := d3 rfl
    obtain rfl := d4 rfl
    obtain rfl := d5 rfl
    obtain rfl := d6 rfl
    obtain rfl := d7 rfl
    exact (flat1  w).mono fun _ w' ⟨e, b⟩ => ⟨_, e, hnil w', b⟩
  · obtain rfl := d1 rfl
    obtain rfl := d3 rfl
    obtain rfl := d4 rfl
    obtain rfl := d5 rfl
    obtain rfl := d6 rfl
    exact flat2 n sv sp w (hs rfl) hl
  · obtain rfl := d4 rfl
    obtain rfl := d5 rfl
    obtain rfl := d7 rfl
    exact (flat3 id n fin tx w).mono fun _ w' ⟨e, b⟩ => ⟨_, e, hnil w', b⟩
  · obtain rfl := d3 rfl
    obtain rfl := d5 rfl
    obtain rfl := d6 rfl
    obtain rfl := d7 rfl
    exact (flat4 id n cd w).mono fun _ w' ⟨e, b⟩ => ⟨_, e, hnil w', b⟩
  · obtain rfl := d2 rfl
    obtain rfl := d3 rfl
    obtain rfl := d5 rfl
    obtain rfl := d6 rfl
    obtain rfl := d7 rfl
    exact (flat5 id cd w).mono fun _ w' ⟨e, b⟩ => ⟨_, e, hnil w', b⟩
  · obtain rfl := d1 rfl
    obtain rfl := d3 rfl
    obtain rfl := d4 rfl
    obtain rfl := d5 rfl
    obtain rfl := d6 rfl
    obtain rfl := d7 rfl
    exact (flat6 n w).mono fun _ w' ⟨e, b⟩ => ⟨_, e, hnil w', b⟩
  · obtain rfl := d3 rfl
    obtain rfl := d4 rfl
    obtain rfl := d5 rfl
    obtain rfl := d6 rfl
    obtain rfl := d7 rfl
    exact (flat7 id n w).mono fun _ w' ⟨e, b⟩ => ⟨_, e, hnil w', b⟩
  · obtain rfl := d1 rfl
    obtain rfl := d3 rfl
    obtain rfl := d4 rfl
    obtain rfl := d5 rfl
    obtain rfl := d6 rfl
    obtain rfl := d7 rfl
    exact (flat8 n w).mono fun _ w' ⟨e, b⟩ => ⟨_, e, hnil w', b⟩
  · obtain rfl := d1 rfl
    obtain rfl := d2 rfl
    obtain rfl := d3 rfl
    obtain rfl := d4 rfl
    obtain rfl := d7 rfl
    obtain ⟨x0, x1, x2, x3, x4, x5, x6, x7, x8, x9, xa, xb, xc, xd, xe, xf, rfl⟩ := nc16 hn
    exact (flat9 x0 x1 x2 x3 x4 x5 x6 x7 x8 x9 xa xb xc xd xe xf tx w).mono fun _ w' ⟨e, b⟩ => ⟨_, e, hnil w', b⟩
  · obtain rfl := d1 rfl
    obtain rfl := d2 rfl
    obtain rfl := d3 rfl
    obtain rfl := d5 rfl
    obtain rfl := d7 rfl
    exact (flat10 cd tx w).mono fun _ w' ⟨e, b⟩ => ⟨_, e, hnil w', b⟩
end Go.Proofs.YthhghehnaopmhaaDoor
