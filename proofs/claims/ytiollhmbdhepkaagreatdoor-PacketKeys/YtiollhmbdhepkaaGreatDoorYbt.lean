/-
  What the document's turn, first and words answer.
-/
import Derived.Deep.QuietTactic
import Derived.BigQuiet
import Derived.Test.YtiollhmbdhepkaaGreatDoorYbk
namespace Go.Proofs.YtiollhmbdhepkaaGreatDoor.Sh
open Go.RowKit
set_option maxRecDepth 100000

set_option maxHeartbeats 1000000 in
theorem rturn_any (k x : Nat) (w : World) (h0 : 0 < k) (h1 : k < 32) (hx : x < 4294967296) :
    Calls Tryz.prog 154 #[.int .u32 x, .int .i64 k] w fun e w' => e = .returned (.int .u32 (Pl.rotr k x : Nat)) ∧ ∃ m, w' = w.drewN m := by
  have hw2 : IntKind.i64.wrap (32 - (k : Int)) = ((32 - k : Nat) : Int) := by simp [IntKind.wrap, IntKind.bits, IntKind.signed]; omega
  have hl := shl32 x (32 - k) (by omega)
  have hr := shr32 x k h1
  have ho := u32_or_nat (x / 2 ^ k) (x * 2 ^ (32 - k) % 4294967296) (Nat.lt_of_le_of_lt (Nat.div_le_self _ _) hx) (Nat.mod_lt _ (by decide))
  have hf : Pl.rotr k x = x / 2 ^ k ||| x * 2 ^ (32 - k) % 4294967296 := Nat.or_comm _ _
  rw [hf]
  clear hf
  have p1 : (0 : Int) ≤ (k : Int) := by omega
  have p2 : (0 : Int) ≤ ((32 - k : Nat) : Int) := by omega
  generalize x / 2 ^ k ||| x * 2 ^ (32 - k) % 4294967296 = r at *
  generalize x * 2 ^ (32 - k) % 4294967296 = p at *
  generalize x / 2 ^ k = q at *
  generalize 32 - k = s at *
  clear h0 h1 hx
  go_enter Tryz.func154, Tryz.ntmps154
  go_wp2
  go_quiet (fail)
  go_wp2
  go_ret
  exact ⟨rfl, _, rfl⟩

/-- A call that reads alone, as a region that is walked once asks it. -/
theorem quiet_of {P : Program} {f : FuncId} {args : Array Value} {w : World} {n : Nat} {v : Value}
    (h : Calls P f args (w.drewN n) fun e w' => e = .returned v ∧ ∃ m, w' = (w.drewN n).drewN m) : Calls P f args (w.drewN n) fun e w'' => e = .returned v ∧ ∃ m, w'' = w.drewN m := by
  refine h.mono ?_
  rintro e w' ⟨rfl, m, rfl⟩
  exact ⟨rfl, n + m, by rw [World.drewN_drewN]⟩

set_option maxHeartbeats 1000000 in
set_option maxRecDepth 100000 in
theorem rfirst_any (w : World) : Calls Tryz.prog 137 #[] w fun e w' => e = .returned (.agg (u32s (Pl.words Pl.init))) ∧ Below w.heap.size w w' := by
  have GZ : Hid ((w.alloc (.cells (u32s (List.replicate 8 0)) 192)).heap[w.heap.size]? = some (.cells (u32s (List.replicate 8 0)) 192 (0, 0))) := heap_alloc_new _ _
  have HI : Hid ((Tryz.prog.info? 192).map (·.size) = some (u32s (Pl.words Pl.init)).size) := size47
  go_enter Tryz.func137, Tryz.ntmps137
  go_wp2_with (refine wpList_store_row rfl 192 _ _ rfl w.heap.size (u32s (Pl.words Pl.init)) rfl rfl 192 _ GZ.out HI.out rfl (u32s_one _) ?_)
  refine bodyPost_ret (v := .agg (u32s (Pl.words Pl.init))) (results_cell_row rfl _ _ w.heap.size 192 (u32s (Pl.words Pl.init)) (0, 0) _ rfl (setRow_heap _ _ _ _ _ _ GZ.out) Tryz.underlying192 rfl HI.out) rfl ⟨rfl, below_setRow ((Below.refl _ _).alloc (Nat.le_refl _) _) (Nat.le_refl _) _⟩

set_option maxHeartbeats 4000000 in
set_option maxRecDepth 100000 in
theorem rwords_any (w : World) : Calls Tryz.prog 138 #[] w fun e w' => e = .returned (.agg (u32s Pl.K)) ∧ Below w.heap.size w w' := by
  have GZ : Hid ((w.alloc (.cells (u32s (List.replicate 64 0)) 195)).heap[w.heap.size]? = some (.cells (u32s (List.replicate 64 0)) 195 (0, 0))) := heap_alloc_new _ _
  have HI : Hid ((Tryz.prog.info? 195).map (·.size) = some (u32s Pl.K).size) := size50
  go_enter Tryz.func138, Tryz.ntmps138
  go_wp2_with (refine wpList_store_row rfl 195 _ _ rfl w.heap.size (u32s Pl.K) rfl rfl 195 _ GZ.out HI.out rfl (u32s_one _) ?_)
  refine bodyPost_ret (v := .agg (u32s Pl.K)) (results_cell_row rfl _ _ w.heap.size 195 (u32s Pl.K) (0, 0) _ rfl (setRow_heap _ _ _ _ _ _ GZ.out) Tryz.underlying195 rfl HI.out) rfl ⟨rfl, below_setRow ((Below.refl _ _).alloc (Nat.le_refl _) _) (Nat.le_refl _) _⟩
end Go.Proofs.YtiollhmbdhepkaaGreatDoor.Sh
