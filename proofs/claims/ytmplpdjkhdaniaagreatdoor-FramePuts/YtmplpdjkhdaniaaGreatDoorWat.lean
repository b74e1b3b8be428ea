/-
  Which parts of a plain form are not zero.
-/
import Derived.Laws.StructEq
import Derived.Test.YtmplpdjkhdaniaaGreatDoorWaa
import Derived.Test.YtmplpdjkhdaniaaGreatDoorWas
namespace Go.Proofs.YtmplpdjkhdaniaaGreatDoor
open Go.RowKit
set_option maxRecDepth 100000

abbrev u8c (A : List Int) : Array Value := (A.map (Value.int .u8)).toArray
theorem u8c_get (A : List Int) (i : Nat) (h : i < A.length) : (u8c A)[i]? = some (.int .u8 (A.getD i 0)) := by
  simp [u8c, List.getD, List.getElem?_eq_getElem h]
theorem all_eqL : ∀ (xs ys : List Int), xs.length = ys.length → ((List.range xs.length).all fun i => xs.getD i 0 == ys.getD i 0) = (xs == ys)
  | [], [], _ => rfl
  | x :: xs, y :: ys, h => by
    have ih := all_eqL xs ys (by simpa using h)
    rw [List.length_cons, List.range_succ_eq_map, List.all_cons, List.all_map]
    simp only [List.getD_cons_zero, Function.comp_def, List.getD_cons_succ, ih]
    simp [List.cons_beq_cons]
  | [], _ :: _, h => by simp at h
  | _ :: _, [], h => by simp at h
theorem infoU8 : (Tryz.prog.info? 5).map (fun i => (i.zero, i.size, i.bytes)) = some (some (.int .u8 0), 1, 1) := by kernel_rfl
theorem sizeOfU8 : ∀ w, (sizeOf 5).run Tryz.prog w = .ok 1 w := by
  obtain ⟨i0, hi, hz0, hz1, hz2⟩ := info_parts infoU8
  intro w
  simp [sizeOf, typeInfo, hi, hz1]
theorem eq_nc (d : Nat) (A B : List Int) (hA : A.length = 16) (hB : B.length = 16) (w : World) : (Op.equalIn (d + 2) 22 (.agg (u8c A)) (.agg (u8c B))).run Tryz.prog w = .ok (A == B) w := by
  rw [← all_eqL A B (hA.trans hB.symm), hA, List.range_eq_range', show d + 2 = (d + 1) + 1 from rfl, Op.equalIn]
  simp only [Sem.run_bind, run_underlying Tryz.underlying22, Result.andThen_ok, sizeOfU8, Std.Legacy.Range.forIn_eq_forIn_range', Std.Legacy.Range.size, Nat.sub_zero, Nat.add_sub_cancel, Nat.div_one]
  have hl : ∀ i ∈ List.range' 0 16 1, i < 16 := fun i hi => by simpa using (List.mem_range'_1.1 hi).2
  generalize List.range' 0 16 1 = l at hl ⊢
  induction l with
  | nil => simp
  | cons i l ih =>
    have hi : i < 16 := hl i (by simp)
    have px : (part 5 (u8c A) (i * 1)).run Tryz.prog w = .ok (.int .u8 (A.getD i 0)) w := by
      simp [part, isAgg, run_underlying Tryz.underlying5, u8c_get A i (by omega)]
    have py : (part 5 (u8c B) (i * 1)).run Tryz.prog w = .ok (.int .u8 (B.getD i 0)) w := by
      simp [part, isAgg, run_underlying Tryz.underlying5, u8c_get B i (by omega)]
    have pe : (Op.equalIn (d + 1) 5 (.int .u8 (A.getD i 0)) (.int .u8 (B.getD i 0))).run Tryz.prog w = .ok (A.getD i 0 == B.getD i 0) w := run_equalIn_int w d 5 .u8 .u8 _ _ Tryz.underlying5
    simp only [List.forIn_cons, Sem.run_bind, px, py, pe, Result.andThen_ok, List.all_cons]
    cases hb : (A.getD i 0 == B.getD i 0)
    · simp
    · simp only [Bool.not_true, Bool.false_eq_true, if_false, Sem.run_pure, Result.andThen_ok, Bool.true_and]
      exact ih fun j hj => hl j (by simp [hj])
theorem guardN : Tryz.prog.eqGuardType Tryz.prog.depth 22 = false := by kernel_rfl
theorem neqN_run (A B : List Int) (hA : A.length = 16) (hB : B.length = 16) (w : World) : (binOp .neq 22 (.agg (u8c A)) (.agg (u8c B))).run Tryz.prog w = .ok (.bool (!(A == B))) w := by
  have h := eq_nc 9998 A B hA hB w
  have h' : (Op.equal 22 (.agg (u8c A)) (.agg (u8c B))).run Tryz.prog w = .ok (A == B) w := h
  show (do pure (.bool (!(← Op.equal 22 (.agg (u8c A)) (.agg (u8c B))))) : Sem Value).run Tryz.prog w = _
  rw [Sem.run_bind, h']
  rfl
theorem yields_neqN {S : World → Prop} {ops : Array Oper} {o : Oper} {a : Act} (hw : Region.wanted o (yielded ops a.tmps) = true) (x y : Operand) (t : TypeId) (ho : o.op = .binOp .neq 22 x y t)
    (A B : List Int) (hA : A.length = 16) (hB : B.length = 16) (hx : a.eval x = .agg (u8c A)) (hy : a.eval y = .agg (u8c B)) : YieldsIf Tryz.prog ops S o (.bool (!(A == B))) a :=
  .inl ⟨hw, fun w _ => by
    unfold execOp
    simp only [ho, hx, hy, Sem.run_bind, run_eqGuard_agg _ _ _ _ _ _ _ guardN, neqN_run A B hA hB, Result.andThen_ok, Sem.run_pure]⟩
theorem builtN : Tryz.prog.built 22 [] = some (u8c zn) := by kernel_rfl
theorem yields_built {P : Program} {S : World → Prop} {ops : Array Oper} {o : Oper} {a : Act} (hw : Region.wanted o (yielded ops a.tmps) = true) (t : TypeId) (parts : List (Nat × Operand)) (ho : o.op = .build t parts.toArray)
    (L : List (Nat × Value)) (hL : parts.map (fun (i, x) => (i, a.eval x)) = L) (cs : Array Value) (hb : P.built t L = some cs) : YieldsIf P ops S o (.agg cs) a := by
  refine .inl ⟨hw, fun w _ => ?_⟩
  have e : (parts.toArray.map fun (i, x) => (i, a.eval x)).toList = L := by rw [← hL]; simp
  have h := run_build (P := P) w t (parts.toArray.map fun (i, x) => (i, a.eval x)) cs (by rw [e]; exact hb)
  unfold execOp
  simp only [ho, Sem.run_bind, h, Result.andThen_ok, Sem.run_pure]
theorem wpList_index {P : Program} {w : World} {ops : Array Oper} {rest : List Oper} {o : Oper} {a : Act} {Q : Exit → Act → World → Prop} (hgd : o.guard = none) (t : TypeId) (x y : Operand) (ho : o.op = .index t x y) (U V v : Value) (hx : a.eval x = U) (hy : a.eval y = V)
    (hr : (Instr.index t U V).run P w = .ok v w) (h : wpList P ops Q rest (a.put o.dst v) w) : wpList P ops Q (o :: rest) a w :=
  wpList_plain hgd fun _ hK => by
    unfold Oper.wp execOp
    simp only [ho, hx, hy, Sem.run_bind, hr, Result.andThen_ok, Sem.run_pure]
    exact hK _ _ h
/-- The parts' numbers together. -/
def pwN (j : Nat) : Int := [1, 2, 4, 8, 16, 32, 64].getD j 0
def flN (b : Nat → Bool) : Nat → Int
  | 0 => 0
  | j + 1 => if b j = true then bits .or .i64 (flN b j) (pwN j) else flN b j
def bl7 (b0 b1 b2 b3 b4 b5 b6 : Bool) (j : Nat) : Bool := [b0, b1, b2, b3, b4, b5, b6].getD j false
def fils (p : Fm) : Nat → Bool := bl7 (p.id != 0) (p.n != 0) p.fin (p.cd != 0) (!(p.nc == zn)) (!p.tx.toList.isEmpty) (decide (0 < p.sp.length))
def filM (p : Fm) : Int := flN (fils p) 7
def badB (k : Int) (b0 b1 b2 b3 b4 b5 b6 : Bool) : Bool := (b0 && !hI k) || (b1 && !hN k) || (b2 && !hF k) || (b3 && !hC k) || (b4 && !hO k) || (b5 && !hT k) || (b6 && !hS k)
theorem fil_tab : ∀ (k : Fin 11) (b0 b1 b2 b3 b4 b5 b6 : Bool), (bits .andNot .i64 (flN (bl7 b0 b1 b2 b3 b4 b5 b6) 7) (pkN (k.val : Int)) != 0) = badB k.val b0 b1 b2 b3 b4 b5 b6 := by decide +kernel
theorem fil_bad (p : Fm) (h0 : 0 ≤ p.k) (h1 : p.k ≤ 10) : (bits .andNot .i64 (filM p) (pkN p.k) != 0) = decide (badF p) := by
  have t := fil_tab ⟨p.k.toNat, by omega⟩ (p.id != 0) (p.n != 0) p.fin (p.cd != 0) (!(p.nc == zn)) (!p.tx.toList.isEmpty) (decide (0 < p.sp.length))
  simp only [Int.toNat_of_nonneg h0] at t
  unfold filM fils
  rw [t]
  rw [Bool.eq_iff_iff, decide_eq_true_iff]
  unfold badB badF
  have et : (p.tx.toList.isEmpty = false) ↔ p.tx ≠ ⟨#[]⟩ := by
    rw [Lib.toList_data, ← Bool.not_eq_true, List.isEmpty_iff]
    refine not_congr ⟨fun e => ?_, fun e => by rw [e]⟩
    have e' : p.tx.data = #[] := Array.toList_inj.1 e
    cases hh : p.tx
    rw [hh] at e'
    exact congrArg ByteArray.mk e'
  simp only [et, Bool.or_eq_true, Bool.and_eq_true, Bool.not_eq_true', bne_iff_ne, ne_eq, decide_eq_true_eq, or_assoc, beq_eq_false_iff_ne, List.length_pos_iff]
set_option maxHeartbeats 4000000 in
theorem filled_any (p : Fm) (sv : Value) (a : Option Addr) (c : Nat) (hsv : sv = .slice a p.sp.length c) (hn : p.nc.length = 16) (w : World) :
    Calls Tryz.prog 26 #[.agg (plA p sv)] w fun e w' => e = .returned (.int .i64 (filM p)) ∧ Below w.heap.size w w' := by
  obtain ⟨W1, hW1⟩ : ∃ W1, W1 = w.alloc (.cells (plA p sv) 33) := ⟨_, rfl⟩
  have b1 : Below w.heap.size w W1 := by rw [hW1]; exact al_below _ _
  have g1 : PF W1 w.heap.size 33 p sv := by rw [hW1]; exact PF.new w _ p sv
  have FK : Hid (∀ x, From W1 x → PC x w.heap.size p sv) := fun x hx => (g1.kept hx).pc hn
  have HB1 : Hid (Below w.heap.size w W1) := b1
  have HNC : Hid (p.nc.length = 16) := hn
  have HFL : Hid (filM p = flN (fils p) 7) := rfl
  subst hsv
  obtain ⟨b0, e0⟩ : ∃ b0, b0 = (p.id != 0) := ⟨_, rfl⟩
  obtain ⟨b1', e1⟩ : ∃ b1', b1' = (p.n != 0) := ⟨_, rfl⟩
  obtain ⟨b2', e2⟩ : ∃ b2', b2' = p.fin := ⟨_, rfl⟩
  obtain ⟨b3', e3⟩ : ∃ b3', b3' = (p.cd != 0) := ⟨_, rfl⟩
  obtain ⟨b4', e4⟩ : ∃ b4', b4' = (!(p.nc == zn)) := ⟨_, rfl⟩
  obtain ⟨b5', e5⟩ : ∃ b5', b5' = (!p.tx.toList.isEmpty) := ⟨_, rfl⟩
  obtain ⟨b6', e6⟩ : ∃ b6', b6' = decide (0 < p.sp.length) := ⟨_, rfl⟩
  have HFS : Hid (fils p = bl7 b0 b1' b2' b3' b4' b5' b6') := by unfold Hid fils; rw [e0, e1, e2, e3, e4, e5, e6]
  have E0 : Hid (b0 = (p.id != 0)) := e0
  have E1 : Hid (b1' = (p.n != 0)) := e1
  have E2 : Hid (b2' = p.fin) := e2
  have E3 : Hid (b3' = (p.cd != 0)) := e3
  have E4 : Hid (b4' = (!(p.nc == zn))) := e4
  have E5 : Hid (b5' = (!p.tx.toList.isEmpty)) := e5
  have E6 : Hid (b6' = decide (0 < p.sp.length)) := e6
  clear e0 e1 e2 e3 e4 e5 e6 g1 hn b1
  go_enter Tryz.func26, Tryz.ntmps26
  go_upto_region 2 with fail
  rw [← hW1]
  clear hW1
  refine wp_region_held_drew (S := From W1) (by kernel_rfl) (Below.drew (Below.refl _ _)) (fun _ => ?_)
  refine wpAnyH_name (fun u0 hu0 => ?_)
  have bu0 : Below W1.heap.size W1 u0 := by rw [hu0.out]; exact Below.drew (Below.refl _ _)
  refine wpAnyH_take (i := 0) (oi := { dst := some 6, op := Op.fieldAddr 33 (Operand.tmp 1) 1, type := 0, pos := "frame.go:386", after := #[], guard := none }) (v := ?vr1) rfl (by kernel_rfl) (by kernel_rfl) (by kernel_rfl) (fun _ _ _ h => h) (Or.inl ⟨by rfl, ?yr1⟩) bu0 ?rr1
  case yr1 => (intro w hSw; go_simp; try with_reducible rfl)
  try simp only [Act.put, List.setIfInBounds_toArray, List.set_cons_zero, List.set_cons_succ]
  refine wpAnyH_take (i := 1) (oi := { dst := some 7, op := Op.load 3 (Operand.tmp 6), type := 3, pos := "frame.go:386", after := #[{ on := 0, ground := Ground.data }], guard := none }) (v := .int .i64 p.id) rfl (by kernel_rfl) (by kernel_rfl) (by kernel_rfl) (fun _ _ _ h => h) (Or.inl ⟨by rfl, ?yr2⟩) bu0 ?rr2
  case yr2 => (intro w hSw; have := (FK.out w hSw).c1; go_simp; try with_reducible rfl)
  try simp only [Act.put, List.setIfInBounds_toArray, List.set_cons_zero, List.set_cons_succ]
  refine wpAnyH_take (i := 2) (oi := { dst := some 8, op := Op.binOp BinOp.neq 3 (Operand.tmp 7) (Operand.const (Value.int IntKind.i64 0)) 3, type := 4, pos := "frame.go:386", after := #[{ on := 1, ground := Ground.data }], guard := none }) (v := .bool b0) rfl (by kernel_rfl) (by kernel_rfl) (by kernel_rfl) (fun _ _ _ h => h) (Or.inl ⟨by rfl, ?yr3⟩) bu0 ?rr3
  case yr3 => (intro w hSw; rw [E0.out]; go_simp; try with_reducible rfl)
  try simp only [Act.put, List.setIfInBounds_toArray, List.set_cons_zero, List.set_cons_succ]
  refine wpAnyH_take (i := 3) (oi := { dst := some 9, op := Op.build 90 #[(0, Operand.const (Value.int IntKind.i64 1)), (1, Operand.tmp 8)], type := 90, pos := "frame.go:386", after := #[{ on := 2, ground := Ground.data }], guard := none }) (v := ?vr4) rfl (by kernel_rfl) (by kernel_rfl) (by kernel_rfl) (fun _ _ _ h => h) (Or.inl ⟨by rfl, ?yr4⟩) bu0 ?rr4
  case yr4 => (intro w hSw; go_simp; try with_reducible rfl)
  try simp only [Act.put, List.setIfInBounds_toArray, List.set_cons_zero, List.set_cons_succ]
  refine wpAnyH_take (i := 4) (oi := { dst := some 10, op := Op.fieldAddr 33 (Operand.tmp 1) 2, type := 0, pos := "frame.go:386", after := #[], guard := none }) (v := ?vr5) rfl (by kernel_rfl) (by kernel_rfl) (by kernel_rfl) (fun _ _ _ h => h) (Or.inl ⟨by rfl, ?yr5⟩) bu0 ?rr5
  case yr5 => (intro w hSw; go_simp; try with_reducible rfl)
  try simp only [Act.put, List.setIfInBounds_toArray, List.set_cons_zero, List.set_cons_succ]
  refine wpAnyH_take (i := 5) (oi := { dst := some 11, op := Op.load 3 (Operand.tmp 10), type := 3, pos := "frame.go:386", after := #[{ on := 4, ground := Ground.data }], guard := none }) (v := .int .i64 p.n) rfl (by kernel_rfl) (by kernel_rfl) (by kernel_rfl) (fun _ _ _ h => h) (Or.inl ⟨by rfl, ?yr6⟩) bu0 ?rr6
  case yr6 => (intro w hSw; have := (FK.out w hSw).c2; go_simp; try with_reducible rfl)
  try simp only [Act.put, List.setIfInBounds_toArray, List.set_cons_zero, List.set_cons_succ]
  refine wpAnyH_take (i := 6) (oi := { dst := some 12, op := Op.binOp BinOp.neq 3 (Operand.tmp 11) (Operand.const (Value.int IntKind.i64 0)) 3, type := 4, pos := "frame.go:386", after := #[{ on := 5, ground := Ground.data }], guard := none }) (v := .bool b1') rfl (by kernel_rfl) (by kernel_rfl) (by kernel_rfl) (fun _ _ _ h => h) (Or.inl ⟨by rfl, ?yr7⟩) bu0 ?rr7
  case yr7 => (intro w hSw; rw [E1.out]; go_simp; try with_reducible rfl)
  try simp only [Act.put, List.setIfInBounds_toArray, List.set_cons_zero, List.set_cons_succ]
  refine wpAnyH_take (i := 7) (oi := { dst := some 13, op := Op.build 90 #[(0, Operand.const (Value.int IntKind.i64 2)), (1, Operand.tmp 12)], type := 90, pos := "frame.go:386", after := #[{ on := 6, ground := Ground.data }], guard := none }) (v := ?vr8) rfl (by kernel_rfl) (by kernel_rfl) (by kernel_rfl) (fun _ _ _ h => h) (Or.inl ⟨by rfl, ?yr8⟩) bu0 ?rr8
  case yr8 => (intro w hSw; go_simp; try with_reducible rfl)
  try simp only [Act.put, List.setIfInBounds_toArray, List.set_cons_zero, List.set_cons_succ]
  refine wpAnyH_take (i := 8) (oi := { dst := some 14, op := Op.fieldAddr 33 (Operand.tmp 1) 4, type := 0, pos := "frame.go:386", after := #[], guard := none }) (v := ?vr9) rfl (by kernel_rfl) (by kernel_rfl) (by kernel_rfl) (fun _ _ _ h => h) (Or.inl ⟨by rfl, ?yr9⟩) bu0 ?rr9
  case yr9 => (intro w hSw; go_simp; try with_reducible rfl)
  try simp only [Act.put, List.setIfInBounds_toArray, List.set_cons_zero, List.set_cons_succ]
  refine wpAnyH_take (i := 9) (oi := { dst := some 15, op := Op.load 4 (Operand.tmp 14), type := 4, pos := "frame.go:386", after := #[{ on := 8, ground := Ground.data }], guard := none }) (v := .bool p.fin) rfl (by kernel_rfl) (by kernel_rfl) (by kernel_rfl) (fun _ _ _ h => h) (Or.inl ⟨by rfl, ?yr10⟩) bu0 ?rr10
  case yr10 => (intro w hSw; have := (FK.out w hSw).c4; go_simp; try with_reducible rfl)
  try simp only [Act.put, List.setIfInBounds_toArray, List.set_cons_zero, List.set_cons_succ]
  refine wpAnyH_take (i := 10) (oi := { dst := some 16, op := Op.build 90 #[(0, Operand.const (Value.int IntKind.i64 4)), (1, Operand.tmp 15)], type := 90, pos := "frame.go:386", after := #[{ on := 9, ground := Ground.data }], guard := none }) (v := ?vr11) rfl (by kernel_rfl) (by kernel_rfl) (by kernel_rfl) (fun _ _ _ h => h) (Or.inl ⟨by rfl, ?yr11⟩) bu0 ?rr11
  case yr11 => (intro w hSw; go_simp; try with_reducible rfl)
  try simp only [Act.put, List.setIfInBounds_toArray, List.set_cons_zero, List.set_cons_succ]
  refine wpAnyH_take (i := 11) (oi := { dst := some 17, op := Op.fieldAddr 33 (Operand.tmp 1) 3, type := 0, pos := "frame.go:386", after := #[], guard := none }) (v := ?vr12) rfl (by kernel_rfl) (by kernel_rfl) (by kernel_rfl) (fun _ _ _ h => h) (Or.inl ⟨by rfl, ?yr12⟩) bu0 ?rr12
  case yr12 => (intro w hSw; go_simp; try with_reducible rfl)
  try simp only [Act.put, List.setIfInBounds_toArray, List.set_cons_zero, List.set_cons_succ]
  refine wpAnyH_take (i := 12) (oi := { dst := some 18, op := Op.load 3 (Operand.tmp 17), type := 3, pos := "frame.go:386", after := #[{ on := 11, ground := Ground.data }], guard := none }) (v := .int .i64 p.cd) rfl (by kernel_rfl) (by kernel_rfl) (by kernel_rfl) (fun _ _ _ h => h) (Or.inl ⟨by rfl, ?yr13⟩) bu0 ?rr13
  case yr13 => (intro w hSw; have := (FK.out w hSw).c3; go_simp; try with_reducible rfl)
  try simp only [Act.put, List.setIfInBounds_toArray, List.set_cons_zero, List.set_cons_succ]
  refine wpAnyH_take (i := 13) (oi := { dst := some 19, op := Op.binOp BinOp.neq 3 (Operand.tmp 18) (Operand.const (Value.int IntKind.i64 0)) 3, type := 4, pos := "frame.go:386", after := #[{ on := 12, ground := Ground.data }], guard := none }) (v := .bool b3') rfl (by kernel_rfl) (by kernel_rfl) (by kernel_rfl) (fun _ _ _ h => h) (Or.inl ⟨by rfl, ?yr14⟩) bu0 ?rr14
  case yr14 => (intro w hSw; rw [E3.out]; go_simp; try with_reducible rfl)
  try simp only [Act.put, List.setIfInBounds_toArray, List.set_cons_zero, List.set_cons_succ]
  refine wpAnyH_take (i := 14) (oi := { dst := some 20, op := Op.build 90 #[(0, Operand.const (Value.int IntKind.i64 8)), (1, Operand.tmp 19)], type := 90, pos := "frame.go:386", after := #[{ on := 13, ground := Ground.data }], guard := none }) (v := ?vr15) rfl (by kernel_rfl) (by kernel_rfl) (by kernel_rfl) (fun _ _ _ h => h) (Or.inl ⟨by rfl, ?yr15⟩) bu0 ?rr15
  case yr15 => (intro w hSw; go_simp; try with_reducible rfl)
  try simp only [Act.put, List.setIfInBounds_toArray, List.set_cons_zero, List.set_cons_succ]
  refine wpAnyH_take (i := 15) (oi := { dst := some 21, op := Op.fieldAddr 33 (Operand.tmp 1) 6, type := 0, pos := "frame.go:386", after := #[], guard := none }) (v := ?vr16) rfl (by kernel_rfl) (by kernel_rfl) (by kernel_rfl) (fun _ _ _ h => h) (Or.inl ⟨by rfl, ?yr16⟩) bu0 ?rr16
  case yr16 => (intro w hSw; go_simp; try with_reducible rfl)
  try simp only [Act.put, List.setIfInBounds_toArray, List.set_cons_zero, List.set_cons_succ]
  refine wpAnyH_take (i := 16) (oi := { dst := some 22, op := Op.load 22 (Operand.tmp 21), type := 22, pos := "frame.go:386", after := #[{ on := 15, ground := Ground.data }], guard := none }) (v := .agg (u8c p.nc)) rfl (by kernel_rfl) (by kernel_rfl) (by kernel_rfl) (fun _ _ _ h => h) (yieldsIf_load_mid (by rfl) 22 _ rfl w.heap.size 6 rfl (p.nc.map (Value.int .u8)) _ (fun w hw => (FK.out w hw).nc) Tryz.underlying22 rfl (by rw [List.length_map, HNC.out]; exact infoNc)) bu0 ?_
  try simp only [Act.put, List.setIfInBounds_toArray, List.set_cons_zero, List.set_cons_succ]
  refine wpAnyH_take (i := 17) (oi := { dst := some 23, op := Op.build 22 #[], type := 22, pos := "frame.go:386", after := #[], guard := none }) (v := .agg (u8c zn)) rfl (by kernel_rfl) (by kernel_rfl) (by kernel_rfl) (fun _ _ _ h => h) (yields_built (by rfl) 22 [] rfl [] rfl _ builtN) bu0 ?_
  try simp only [Act.put, List.setIfInBounds_toArray, List.set_cons_zero, List.set_cons_succ]
  refine wpAnyH_take (i := 18) (oi := { dst := some 24, op := Op.binOp BinOp.neq 22 (Operand.tmp 22) (Operand.tmp 23) 22, type := 4, pos := "frame.go:386", after := #[{ on := 16, ground := Ground.data }, { on := 17, ground := Ground.data }], guard := none }) (v := .bool (!(p.nc == zn))) rfl (by kernel_rfl) (by kernel_rfl) (by kernel_rfl) (fun _ _ _ h => h) (yields_neqN (by rfl) _ _ _ rfl p.nc zn HNC.out rfl rfl rfl) bu0 ?_
  try simp only [Act.put, List.setIfInBounds_toArray, List.set_cons_zero, List.set_cons_succ]
  refine wpAnyH_take (i := 19) (oi := { dst := some 25, op := Op.build 90 #[(0, Operand.const (Value.int IntKind.i64 16)), (1, Operand.tmp 24)], type := 90, pos := "frame.go:386", after := #[{ on := 18, ground := Ground.data }], guard := none }) (v := ?vr20) rfl (by kernel_rfl) (by kernel_rfl) (by kernel_rfl) (fun _ _ _ h => h) (Or.inl ⟨by rfl, ?yr20⟩) bu0 ?rr20
  case yr20 => (intro w hSw; go_simp; try with_reducible rfl)
  try simp only [Act.put, List.setIfInBounds_toArray, List.set_cons_zero, List.set_cons_succ]
  refine wpAnyH_take (i := 20) (oi := { dst := some 26, op := Op.fieldAddr 33 (Operand.tmp 1) 5, type := 0, pos := "frame.go:386", after := #[], guard := none }) (v := ?vr21) rfl (by kernel_rfl) (by kernel_rfl) (by kernel_rfl) (fun _ _ _ h => h) (Or.inl ⟨by rfl, ?yr21⟩) bu0 ?rr21
  case yr21 => (intro w hSw; go_simp; try with_reducible rfl)
  try simp only [Act.put, List.setIfInBounds_toArray, List.set_cons_zero, List.set_cons_succ]
  refine wpAnyH_take (i := 21) (oi := { dst := some 27, op := Op.load 9 (Operand.tmp 26), type := 9, pos := "frame.go:386", after := #[{ on := 20, ground := Ground.data }], guard := none }) (v := .string p.tx) rfl (by kernel_rfl) (by kernel_rfl) (by kernel_rfl) (fun _ _ _ h => h) (Or.inl ⟨by rfl, ?yr22⟩) bu0 ?rr22
  case yr22 => (intro w hSw; have := (FK.out w hSw).c5; go_simp; try with_reducible rfl)
  try simp only [Act.put, List.setIfInBounds_toArray, List.set_cons_zero, List.set_cons_succ]
  refine wpAnyH_take (i := 22) (oi := { dst := some 28, op := Op.binOp BinOp.neq 9 (Operand.tmp 27) (Operand.const (Value.string { data := #[] })) 9, type := 4, pos := "frame.go:386", after := #[{ on := 21, ground := Ground.data }], guard := none }) (v := .bool b5') rfl (by kernel_rfl) (by kernel_rfl) (by kernel_rfl) (fun _ _ _ h => h) (Or.inl ⟨by rfl, ?yr23⟩) bu0 ?rr23
  case yr23 => (intro w hSw; rw [E5.out]; go_simp; try with_reducible rfl)
  try simp only [Act.put, List.setIfInBounds_toArray, List.set_cons_zero, List.set_cons_succ]
  refine wpAnyH_take (i := 23) (oi := { dst := some 29, op := Op.build 90 #[(0, Operand.const (Value.int IntKind.i64 32)), (1, Operand.tmp 28)], type := 90, pos := "frame.go:386", after := #[{ on := 22, ground := Ground.data }], guard := none }) (v := ?vr24) rfl (by kernel_rfl) (by kernel_rfl) (by kernel_rfl) (fun _ _ _ h => h) (Or.inl ⟨by rfl, ?yr24⟩) bu0 ?rr24
  case yr24 => (intro w hSw; go_simp; try with_reducible rfl)
  try simp only [Act.put, List.setIfInBounds_toArray, List.set_cons_zero, List.set_cons_succ]
  refine wpAnyH_take (i := 24) (oi := { dst := some 30, op := Op.fieldAddr 33 (Operand.tmp 1) 7, type := 0, pos := "frame.go:386", after := #[], guard := none }) (v := ?vr25) rfl (by kernel_rfl) (by kernel_rfl) (by kernel_rfl) (fun _ _ _ h => h) (Or.inl ⟨by rfl, ?yr25⟩) bu0 ?rr25
  case yr25 => (intro w hSw; go_simp; try with_reducible rfl)
  try simp only [Act.put, List.setIfInBounds_toArray, List.set_cons_zero, List.set_cons_succ]
  refine wpAnyH_take (i := 25) (oi := { dst := some 31, op := Op.load 23 (Operand.tmp 30), type := 23, pos := "frame.go:386", after := #[{ on := 24, ground := Ground.data }], guard := none }) (v := .slice a p.sp.length c) rfl (by kernel_rfl) (by kernel_rfl) (by kernel_rfl) (fun _ _ _ h => h) (Or.inl ⟨by rfl, ?yr26⟩) bu0 ?rr26
  case yr26 => (intro w hSw; have := (FK.out w hSw).c22; go_simp; try with_reducible rfl)
  try simp only [Act.put, List.setIfInBounds_toArray, List.set_cons_zero, List.set_cons_succ]
  refine wpAnyH_take (i := 26) (oi := { dst := some 32, op := Op.call { callee := Callee.builtin Builtin.len, args := #[Operand.tmp 31], argTypes := #[23] }, type := 3, pos := "frame.go:386", after := #[{ on := 25, ground := Ground.data }], guard := none }) (v := .int .i64 p.sp.length) rfl (by kernel_rfl) (by kernel_rfl) (by kernel_rfl) (fun _ _ _ h => h) (Or.inl ⟨by rfl, ?yr27⟩) bu0 ?rr27
  case yr27 => (intro w hSw; go_simp; try with_reducible rfl)
  try simp only [Act.put, List.setIfInBounds_toArray, List.set_cons_zero, List.set_cons_succ]
  refine wpAnyH_take (i := 27) (oi := { dst := some 33, op := Op.binOp BinOp.gtr 3 (Operand.tmp 32) (Operand.const (Value.int IntKind.i64 0)) 3, type := 4, pos := "frame.go:386", after := #[{ on := 26, ground := Ground.data }], guard := none }) (v := .bool b6') rfl (by kernel_rfl) (by kernel_rfl) (by kernel_rfl) (fun _ _ _ h => h) (Or.inl ⟨by rfl, ?yr28⟩) bu0 ?rr28
  case yr28 => (intro w hSw; rw [E6.out]; go_simp; try with_reducible rfl)
  try simp only [Act.put, List.setIfInBounds_toArray, List.set_cons_zero, List.set_cons_succ]
  refine wpAnyH_take (i := 28) (oi := { dst := some 34, op := Op.build 90 #[(0, Operand.const (Value.int IntKind.i64 64)), (1, Operand.tmp 33)], type := 90, pos := "frame.go:386", after := #[{ on := 27, ground := Ground.data }], guard := none }) (v := ?vr29) rfl (by kernel_rfl) (by kernel_rfl) (by kernel_rfl) (fun _ _ _ h => h) (Or.inl ⟨by rfl, ?yr29⟩) bu0 ?rr29
  case yr29 => (intro w hSw; go_simp; try with_reducible rfl)
  try simp only [Act.put, List.setIfInBounds_toArray, List.set_cons_zero, List.set_cons_succ]
  refine wpAnyH_take (i := 29) (oi := { dst := some 35, op := Op.build 91 #[(0, Operand.tmp 9), (1, Operand.tmp 13), (2, Operand.tmp 16), (3, Operand.tmp 20), (4, Operand.tmp 25), (5, Operand.tmp 29), (6, Operand.tmp 34)], type := 91, pos := "frame.go:386", after := #[{ on := 3, ground := Ground.data }, { on := 7, ground := Ground.data }, { on := 10, ground := Ground.data }, { on := 14, ground := Ground.data }, { on := 19, ground := Ground.data }, { on := 23, ground := Ground.data }, { on := 28, ground := Ground.data }], guard := none }) (v := ?vr30) rfl (by kernel_rfl) (by kernel_rfl) (by kernel_rfl) (fun _ _ _ h => h) (Or.inl ⟨by rfl, ?yr30⟩) bu0 ?rr30
  case yr30 => (intro w hSw; go_simp; try with_reducible rfl)
  try simp only [Act.put, List.setIfInBounds_toArray, List.set_cons_zero, List.set_cons_succ]
  refine wpAnyH_take (i := 30) (oi := { dst := some 36, op := Op.move (Operand.const (Value.int IntKind.i64 0)), type := 3, pos := "frame.go:386", after := #[], guard := none }) (v := ?vr31) rfl (by kernel_rfl) (by kernel_rfl) (by kernel_rfl) (fun _ _ _ h => h) (Or.inl ⟨by rfl, ?yr31⟩) bu0 ?rr31
  case yr31 => (intro w hSw; go_simp; try with_reducible rfl)
  try simp only [Act.put, List.setIfInBounds_toArray, List.set_cons_zero, List.set_cons_succ]
  refine wpAnyH_done (by kernel_rfl) ?_ _
  have BZ : Hid (Below W1.heap.size W1 u0) := bu0
  have BW : Hid (Below w.heap.size w u0) := HB1.out.trans (BZ.out.mono HB1.out.size)
  rw [← E2.out, ← E4.out]
  clear FK E0 E1 E2 E3 E4 E5 E6 HNC BZ HB1
  generalize hu : u0 = U0 at *
  clear hu hu0 bu0
  have HFQ : Hid (filM p = flN (bl7 b0 b1' b2' b3' b4' b5' b6') 7) := by unfold Hid; rw [HFL.out, HFS.out]
  have HZB : Hid (∀ j, j < 7 → flN (bl7 b0 b1' b2' b3' b4' b5' b6') (j + 1) = if bl7 b0 b1' b2' b3' b4' b5' b6' j = true then bits .or .i64 (flN (bl7 b0 b1' b2' b3' b4' b5' b6') j) (pwN j) else flN (bl7 b0 b1' b2' b3' b4' b5' b6') j) := fun j _ => rfl
  have HZ0 : Hid (flN (bl7 b0 b1' b2' b3' b4' b5' b6') 0 = 0) := rfl
  clear HFL HFS
  go_wp2
  go_loopw [3, 36] (fun s i wr => ∃ j : Nat, j ≤ 7 ∧ i = .int .i64 j ∧ s = .int .i64 (flN (bl7 b0 b1' b2' b3' b4' b5' b6') j) ∧ Below w.heap.size w wr) (fun _ i _ => 7 - (intOf i).toNat)
  case atStart => exact ⟨0, by omega, rfl, by rw [HZ0.out], BW.out⟩
  case round =>
    obtain ⟨j, hj, rfl, rfl, bel⟩ := hrel
    have HB : Hid (Below w.heap.size w wr) := bel
    clear bel BW HZ0
    by_cases hlt : j < 7
    · have HS := HZB.out j hlt
      clear HZB
      generalize hC : flN (bl7 b0 b1' b2' b3' b4' b5' b6') j = C at *
      rcases (by omega : j = 0 ∨ j = 1 ∨ j = 2 ∨ j = 3 ∨ j = 4 ∨ j = 5 ∨ j = 6) with rfl | rfl | rfl | rfl | rfl | rfl | rfl
      · cases b0
        · have HS2 : Hid (flN (bl7 false b1' b2' b3' b4' b5' b6') 1 = C) := by unfold Hid; rw [HS]; simp [bl7]
          clear HS hC HFQ
          go_wp2_with (refine wpList_index rfl _ _ _ rfl _ _ (.agg #[.int .i64 1, .bool false]) rfl rfl (by kernel_rfl) ?_)
          go_roundw
          case rel => exact ⟨1, by omega, by go_num, by rw [HS2.out], HB.out.alloc HB.out.size _⟩
          case measure => simp [intOf]
        · have HS2 : Hid (flN (bl7 true b1' b2' b3' b4' b5' b6') 1 = bits .or .i64 C 1) := by unfold Hid; rw [HS]; simp [bl7, pwN]
          clear HS hC HFQ
          go_wp2_with (refine wpList_index rfl _ _ _ rfl _ _ (.agg #[.int .i64 1, .bool true]) rfl rfl (by kernel_rfl) ?_)
          go_roundw
          case rel => exact ⟨1, by omega, by go_num, by rw [HS2.out], HB.out.alloc HB.out.size _⟩
          case measure => simp [intOf]
      · cases b1'
        · have HS2 : Hid (flN (bl7 b0 false b2' b3' b4' b5' b6') 2 = C) := by unfold Hid; rw [HS]; simp [bl7]
          clear HS hC HFQ
          go_wp2_with (refine wpList_index rfl _ _ _ rfl _ _ (.agg #[.int .i64 2, .bool false]) rfl rfl (by kernel_rfl) ?_)
          go_roundw
          case rel => exact ⟨2, by omega, by go_num, by rw [HS2.out], HB.out.alloc HB.out.size _⟩
          case measure => simp [intOf]
        · have HS2 : Hid (flN (bl7 b0 true b2' b3' b4' b5' b6') 2 = bits .or .i64 C 2) := by unfold Hid; rw [HS]; simp [bl7, pwN]
          clear HS hC HFQ
          go_wp2_with (refine wpList_index rfl _ _ _ rfl _ _ (.agg #[.int .i64 2, .bool true]) rfl rfl (by kernel_rfl) ?_)
          go_roundw
          case rel => exact ⟨2, by omega, by go_num, by rw [HS2.out], HB.out.alloc HB.out.size _⟩
          case measure => simp [intOf]
      · cases b2'
        · have HS2 : Hid (flN (bl7 b0 b1' false b3' b4' b5' b6') 3 = C) := by unfold Hid; rw [HS]; simp [bl7]
          clear HS hC HFQ
          go_wp2_with (refine wpList_index rfl _ _ _ rfl _ _ (.agg #[.int .i64 4, .bool false]) rfl rfl (by kernel_rfl) ?_)
          go_roundw
          case rel => exact ⟨3, by omega, by go_num, by rw [HS2.out], HB.out.alloc HB.out.size _⟩
          case measure => simp [intOf]
        · have HS2 : Hid (flN (bl7 b0 b1' true b3' b4' b5' b6') 3 = bits .or .i64 C 4) := by unfold Hid; rw [HS]; simp [bl7, pwN]
          clear HS hC HFQ
          go_wp2_with (refine wpList_index rfl _ _ _ rfl _ _ (.agg #[.int .i64 4, .bool true]) rfl rfl (by kernel_rfl) ?_)
          go_roundw
          case rel => exact ⟨3, by omega, by go_num, by rw [HS2.out], HB.out.alloc HB.out.size _⟩
          case measure => simp [intOf]
      · cases b3'
        · have HS2 : Hid (flN (bl7 b0 b1' b2' false b4' b5' b6') 4 = C) := by unfold Hid; rw [HS]; simp [bl7]
          clear HS hC HFQ
          go_wp2_with (refine wpList_index rfl _ _ _ rfl _ _ (.agg #[.int .i64 8, .bool false]) rfl rfl (by kernel_rfl) ?_)
          go_roundw
          case rel => exact ⟨4, by omega, by go_num, by rw [HS2.out], HB.out.alloc HB.out.size _⟩
          case measure => simp [intOf]
        · have HS2 : Hid (flN (bl7 b0 b1' b2' true b4' b5' b6') 4 = bits .or .i64 C 8) := by unfold Hid; rw [HS]; simp [bl7, pwN]
          clear HS hC HFQ
          go_wp2_with (refine wpList_index rfl _ _ _ rfl _ _ (.agg #[.int .i64 8, .bool true]) rfl rfl (by kernel_rfl) ?_)
          go_roundw
          case rel => exact ⟨4, by omega, by go_num, by rw [HS2.out], HB.out.alloc HB.out.size _⟩
          case measure => simp [intOf]
      · cases b4'
        · have HS2 : Hid (flN (bl7 b0 b1' b2' b3' false b5' b6') 5 = C) := by unfold Hid; rw [HS]; simp [bl7]
          clear HS hC HFQ
          go_wp2_with (refine wpList_index rfl _ _ _ rfl _ _ (.agg #[.int .i64 16, .bool false]) rfl rfl (by kernel_rfl) ?_)
          go_roundw
          case rel => exact ⟨5, by omega, by go_num, by rw [HS2.out], HB.out.alloc HB.out.size _⟩
          case measure => simp [intOf]
        · have HS2 : Hid (flN (bl7 b0 b1' b2' b3' true b5' b6') 5 = bits .or .i64 C 16) := by unfold Hid; rw [HS]; simp [bl7, pwN]
          clear HS hC HFQ
          go_wp2_with (refine wpList_index rfl _ _ _ rfl _ _ (.agg #[.int .i64 16, .bool true]) rfl rfl (by kernel_rfl) ?_)
          go_roundw
          case rel => exact ⟨5, by omega, by go_num, by rw [HS2.out], HB.out.alloc HB.out.size _⟩
          case measure => simp [intOf]
      · cases b5'
        · have HS2 : Hid (flN (bl7 b0 b1' b2' b3' b4' false b6') 6 = C) := by unfold Hid; rw [HS]; simp [bl7]
          clear HS hC HFQ
          go_wp2_with (refine wpList_index rfl _ _ _ rfl _ _ (.agg #[.int .i64 32, .bool false]) rfl rfl (by kernel_rfl) ?_)
          go_roundw
          case rel => exact ⟨6, by omega, by go_num, by rw [HS2.out], HB.out.alloc HB.out.size _⟩
          case measure => simp [intOf]
        · have HS2 : Hid (flN (bl7 b0 b1' b2' b3' b4' true b6') 6 = bits .or .i64 C 32) := by unfold Hid; rw [HS]; simp [bl7, pwN]
          clear HS hC HFQ
          go_wp2_with (refine wpList_index rfl _ _ _ rfl _ _ (.agg #[.int .i64 32, .bool true]) rfl rfl (by kernel_rfl) ?_)
          go_roundw
          case rel => exact ⟨6, by omega, by go_num, by rw [HS2.out], HB.out.alloc HB.out.size _⟩
          case measure => simp [intOf]
      · cases b6'
        · have HS2 : Hid (flN (bl7 b0 b1' b2' b3' b4' b5' false) 7 = C) := by unfold Hid; rw [HS]; simp [bl7]
          clear HS hC HFQ
          go_wp2_with (refine wpList_index rfl _ _ _ rfl _ _ (.agg #[.int .i64 64, .bool false]) rfl rfl (by kernel_rfl) ?_)
          go_roundw
          case rel => exact ⟨7, by omega, by go_num, by rw [HS2.out], HB.out.alloc HB.out.size _⟩
          case measure => simp [intOf]
        · have HS2 : Hid (flN (bl7 b0 b1' b2' b3' b4' b5' true) 7 = bits .or .i64 C 64) := by unfold Hid; rw [HS]; simp [bl7, pwN]
          clear HS hC HFQ
          go_wp2_with (refine wpList_index rfl _ _ _ rfl _ _ (.agg #[.int .i64 64, .bool true]) rfl rfl (by kernel_rfl) ?_)
          go_roundw
          case rel => exact ⟨7, by omega, by go_num, by rw [HS2.out], HB.out.alloc HB.out.size _⟩
          case measure => simp [intOf]
    · obtain rfl : j = 7 := by omega
      have HFE : Hid (flN (bl7 b0 b1' b2' b3' b4' b5' b6') 7 = filM p) := HFQ.out.symm
      clear HZB HFQ
      generalize flN (bl7 b0 b1' b2' b3' b4' b5' b6') 7 = FM at *
      go_wp2
      go_ret
      exact ⟨by rw [← HFE.out]; rfl, HB.out⟩
end Go.Proofs.YtmplpdjkhdaniaaGreatDoor
