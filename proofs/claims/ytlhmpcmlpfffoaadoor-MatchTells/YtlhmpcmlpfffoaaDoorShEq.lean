/-
  Two sums compared; a variable that holds a sum.
-/
import Derived.Test.YtlhmpcmlpfffoaaDoorShOf
import Derived.Laws.StructEq
namespace Go.Proofs.YtlhmpcmlpfffoaaDoor.Sh
open Go.RowKit
set_option maxRecDepth 100000

theorem all_eq : ∀ (xs ys : List Int), xs.length = ys.length → ((List.range xs.length).all fun i => xs.getD i 0 == ys.getD i 0) = (xs == ys)
  | [], [], _ => rfl
  | x :: xs, y :: ys, h => by
    have ih := all_eq xs ys (by simpa using h)
    rw [List.length_cons, List.range_succ_eq_map, List.all_cons, List.all_map]
    simp only [List.getD_cons_zero, Function.comp_def, List.getD_cons_succ, ih]
    simp [List.cons_beq_cons]
  | [], _ :: _, h => by simp at h
  | _ :: _, [], h => by simp at h
theorem sizeOf5 : ∀ w, (sizeOf 5).run Tryd.prog w = .ok 1 w := by
  obtain ⟨i0, hi, hz0, hz1, hz2⟩ := info_parts info5'
  intro w
  simp [sizeOf, typeInfo, hi, hz1]
theorem eq_u8s (A B : List Int) (hA : A.length = 32) (hB : B.length = 32) (w : World) : (Op.equalIn 10000 48 (.agg (u8s A)) (.agg (u8s B))).run Tryd.prog w = .ok (A == B) w := by
  rw [← all_eq A B (hA.trans hB.symm), hA, List.range_eq_range', show (10000 : Nat) = 9999 + 1 from rfl, Op.equalIn]
  simp only [Sem.run_bind, run_underlying Tryd.underlying48, Result.andThen_ok, sizeOf5, Std.Legacy.Range.forIn_eq_forIn_range', Std.Legacy.Range.size, Nat.sub_zero, Nat.add_sub_cancel, Nat.div_one]
  have hl : ∀ i ∈ List.range' 0 32 1, i < 32 := fun i hi => by simpa using (List.mem_range'_1.1 hi).2
  generalize List.range' 0 32 1 = l at hl ⊢
  induction l with
  | nil => simp
  | cons i l ih =>
    have hi : i < 32 := hl i (by simp)
    have px : (part 5 (u8s A) (i * 1)).run Tryd.prog w = .ok (.int .u8 (A.getD i 0)) w := by
      simp [part, isAgg, run_underlying Tryd.underlying5, u8s_get A i (by omega)]
    have py : (part 5 (u8s B) (i * 1)).run Tryd.prog w = .ok (.int .u8 (B.getD i 0)) w := by
      simp [part, isAgg, run_underlying Tryd.underlying5, u8s_get B i (by omega)]
    have pe : (Op.equalIn 9999 5 (.int .u8 (A.getD i 0)) (.int .u8 (B.getD i 0))).run Tryd.prog w = .ok (A.getD i 0 == B.getD i 0) w := run_equalIn_int w 9998 5 .u8 .u8 _ _ Tryd.underlying5
    simp only [List.forIn_cons, Sem.run_bind, px, py, pe, Result.andThen_ok, List.all_cons]
    cases hb : (A.getD i 0 == B.getD i 0)
    · simp
    · simp only [Bool.not_true, Bool.false_eq_true, if_false, Sem.run_pure, Result.andThen_ok, Bool.true_and]
      exact ih fun j hj => hl j (by simp [hj])

/-- A variable that holds a sum. -/
def SX (X : Nat) (A : List Int) (x : World) : Prop := x.heap[X]? = some (.cells (u8s A) 48 (0, 0))
theorem SX.load {X : Nat} {A : List Int} (hA : A.length = 32) (x : World) (h : SX X A x) : (Instr.loadAt 48 (.pointer (some ⟨X, 0, none⟩))).run Tryd.prog x = .ok (.agg (u8s A)) x := by
  simp only [Instr.loadAt, Instr.sureAddr, Sem.run_bind, Sem.run_pure, Result.andThen_ok]
  exact run_loadVar_row x X 48 48 (u8s A) (0, 0) _ h Tryd.underlying48 rfl (by rw [u8s_size, hA]; exact size26)
theorem SX.alloc {X : Nat} {A : List Int} {x : World} (h : SX X A x) (o : Obj) : SX X A (x.alloc o) := by
  unfold SX at *
  have hl : X < x.heap.size := (Array.getElem?_eq_some_iff.1 h).1
  rw [Below.heap_alloc _ _ _ hl]; exact h
theorem SX.drew {X : Nat} {A : List Int} {x : World} (h : SX X A x) : SX X A x.drew := h
theorem SX.below {X B : Nat} {A : List Int} {x y : World} (h : SX X A x) (hb : Below B x y) (hX : X < B) : SX X A y := (hb.block X hX).trans h
theorem SX.lt {X : Nat} {A : List Int} {x : World} (h : SX X A x) : X < x.heap.size := (Array.getElem?_eq_some_iff.1 h).1

/-- The sum that everybody knows. -/
def abcL : List Int := [0xba, 0x78, 0x16, 0xbf, 0x8f, 0x01, 0xcf, 0xea, 0x41, 0x41, 0x40, 0xde, 0x5d, 0xae, 0x22, 0x23, 0xb0, 0x03, 0x61, 0xa3, 0x96, 0x17, 0x7a, 0x9c, 0xb4, 0x10, 0xff, 0x61, 0xf2, 0x00, 0x15, 0xad]
set_option maxRecDepth 1000000 in
theorem abc_sum : Pl.sha [97, 98, 99] = abcL := by decide +kernel
theorem abc_len : abcL.length = 32 := rfl
theorem abc_ne : (abcL == List.replicate 32 0) = false := by decide
end Go.Proofs.YtlhmpcmlpfffoaaDoor.Sh
