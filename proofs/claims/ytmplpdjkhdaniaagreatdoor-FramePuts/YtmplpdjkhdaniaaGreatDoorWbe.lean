/-
  What flatten tells.
-/
import Derived.Test.YtmplpdjkhdaniaaGreatDoorWaz
namespace Go.Proofs.YtmplpdjkhdaniaaGreatDoor
open Go.RowKit
set_option maxRecDepth 100000

set_option maxHeartbeats 8000000 in
theorem flat6 (n : Int) (w : World) :
    Calls Tryz.prog 32 #[.iface 78 (.agg #[.int .i64 n])] w fun e w' => e = .returned (.agg (plA ⟨6, 0, n, 0, false, ⟨#[]⟩, zn, []⟩ (.slice none 0 0))) ∧ Below w.heap.size w w' := by
  obtain ⟨W1, hW1⟩ : ∃ W1, W1 = w.alloc (.cells #[.int .u8 0, .int .i64 0, .int .i64 0, .int .i64 0, .bool false, .string ⟨#[]⟩, .int .u8 0, .int .u8 0, .int .u8 0, .int .u8 0, .int .u8 0, .int .u8 0, .int .u8 0, .int .u8 0, .int .u8 0, .int .u8 0, .int .u8 0, .int .u8 0, .int .u8 0, .int .u8 0, .int .u8 0, .int .u8 0, .slice none 0 0] 33) := ⟨_, rfl⟩
  have b1 : Below w.heap.size w W1 := by rw [hW1]; exact al_below _ _
  have g1 : W1.heap[w.heap.size]? = some (.cells #[.int .u8 0, .int .i64 0, .int .i64 0, .int .i64 0, .bool false, .string ⟨#[]⟩, .int .u8 0, .int .u8 0, .int .u8 0, .int .u8 0, .int .u8 0, .int .u8 0, .int .u8 0, .int .u8 0, .int .u8 0, .int .u8 0, .int .u8 0, .int .u8 0, .int .u8 0, .int .u8 0, .int .u8 0, .int .u8 0, .slice none 0 0] 33 (0, 0)) := by rw [hW1]; exact heap_alloc_new _ _
  obtain ⟨W2, hW2⟩ : ∃ W2, W2 = W1.alloc (.cells #[.int .i64 n] 78) := ⟨_, rfl⟩
  have b2 : Below W1.heap.size W1 W2 := by rw [hW2]; exact al_below _ _
  have HG2 : Hid (W2.heap[w.heap.size]? = some (.cells #[.int .u8 0, .int .i64 0, .int .i64 0, .int .i64 0, .bool false, .string ⟨#[]⟩, .int .u8 0, .int .u8 0, .int .u8 0, .int .u8 0, .int .u8 0, .int .u8 0, .int .u8 0, .int .u8 0, .int .u8 0, .int .u8 0, .int .u8 0, .int .u8 0, .int .u8 0, .int .u8 0, .int .u8 0, .int .u8 0, .slice none 0 0] 33 (0, 0))) := blk_kept g1 b2 (blk_lt g1)
  have HB2 : Hid (Below w.heap.size w W2) := b1.trans (b2.mono b1.size)
  have HSZ : Hid ((Tryz.prog.info? 33).map (·.size) = some (plA ⟨6, 0, n, 0, false, ⟨#[]⟩, zn, []⟩ (.slice none 0 0)).size) := infoP
  have HON : Hid ((plA ⟨6, 0, n, 0, false, ⟨#[]⟩, zn, []⟩ (.slice none 0 0)).all (·.oneCell') = true) := all_oneCell_toArray (plL_one rfl)
  have a1 : ∀ (v : Value) (W : World), (Instr.typeAssert (.iface 78 v) 29 69 true).run Tryz.prog W = .ok (.tuple #[.agg #[], .bool false]) W := fun v W => by kernel_rfl
  have a2 : ∀ (v : Value) (W : World), (Instr.typeAssert (.iface 78 v) 29 72 true).run Tryz.prog W = .ok (.tuple #[.agg #[.int .i64 0, .slice none 0 0], .bool false]) W := fun v W => by kernel_rfl
  have a3 : ∀ (v : Value) (W : World), (Instr.typeAssert (.iface 78 v) 29 42 true).run Tryz.prog W = .ok (.tuple #[.agg #[.int .i64 0, .int .i64 0, .bool false, .string ⟨#[]⟩], .bool false]) W := fun v W => by kernel_rfl
  have a4 : ∀ (v : Value) (W : World), (Instr.typeAssert (.iface 78 v) 29 74 true).run Tryz.prog W = .ok (.tuple #[.agg #[.int .i64 0, .int .i64 0, .int .i64 0], .bool false]) W := fun v W => by kernel_rfl
  have a5 : ∀ (v : Value) (W : World), (Instr.typeAssert (.iface 78 v) 29 76 true).run Tryz.prog W = .ok (.tuple #[.agg #[.int .i64 0, .int .i64 0], .bool false]) W := fun v W => by kernel_rfl
  have a6 : ∀ (v : Value) (W : World), (Instr.typeAssert (.iface 78 v) 29 78 true).run Tryz.prog W = .ok (.tuple #[v, .bool true]) W := fun v W => by kernel_rfl
  clear b1 g1 b2
  go_enter Tryz.func32, Tryz.ntmps32
  go_upto_region 1 with fail
  rw [← hW1]
  clear hW1
  go_wp2_with (rw [← hW2]; refine wpList_store_row rfl 33 _ _ rfl w.heap.size (plA ⟨6, 0, n, 0, false, ⟨#[]⟩, zn, []⟩ (.slice none 0 0)) rfl rfl 33 _ HG2.out HSZ.out rfl HON.out (Hid.out ?_))
  unfold Hid
  go_wp2
  rw [← hW2]
  refine bodyPost_ret (v := .agg (plA ⟨6, 0, n, 0, false, ⟨#[]⟩, zn, []⟩ (.slice none 0 0))) (results_cell_row rfl _ _ w.heap.size 33 (plA ⟨6, 0, n, 0, false, ⟨#[]⟩, zn, []⟩ (.slice none 0 0)) (0, 0) _ rfl (setRow_heap _ _ _ _ _ _ HG2.out) Tryz.underlying33 rfl HSZ.out) rfl ⟨rfl, below_setRow HB2.out (Nat.le_refl _) _⟩
set_option maxHeartbeats 8000000 in
theorem flat7 (id n : Int) (w : World) :
    Calls Tryz.prog 32 #[.iface 80 (.agg #[.int .i64 id, .int .i64 n])] w fun e w' => e = .returned (.agg (plA ⟨7, id, n, 0, false, ⟨#[]⟩, zn, []⟩ (.slice none 0 0))) ∧ Below w.heap.size w w' := by
  obtain ⟨W1, hW1⟩ : ∃ W1, W1 = w.alloc (.cells #[.int .u8 0, .int .i64 0, .int .i64 0, .int .i64 0, .bool false, .string ⟨#[]⟩, .int .u8 0, .int .u8 0, .int .u8 0, .int .u8 0, .int .u8 0, .int .u8 0, .int .u8 0, .int .u8 0, .int .u8 0, .int .u8 0, .int .u8 0, .int .u8 0, .int .u8 0, .int .u8 0, .int .u8 0, .int .u8 0, .slice none 0 0] 33) := ⟨_, rfl⟩
  have b1 : Below w.heap.size w W1 := by rw [hW1]; exact al_below _ _
  have g1 : W1.heap[w.heap.size]? = some (.cells #[.int .u8 0, .int .i64 0, .int .i64 0, .int .i64 0, .bool false, .string ⟨#[]⟩, .int .u8 0, .int .u8 0, .int .u8 0, .int .u8 0, .int .u8 0, .int .u8 0, .int .u8 0, .int .u8 0, .int .u8 0, .int .u8 0, .int .u8 0, .int .u8 0, .int .u8 0, .int .u8 0, .int .u8 0, .int .u8 0, .slice none 0 0] 33 (0, 0)) := by rw [hW1]; exact heap_alloc_new _ _
  obtain ⟨W2, hW2⟩ : ∃ W2, W2 = W1.alloc (.cells #[.int .i64 id, .int .i64 n] 80) := ⟨_, rfl⟩
  have b2 : Below W1.heap.size W1 W2 := by rw [hW2]; exact al_below _ _
  have HG2 : Hid (W2.heap[w.heap.size]? = some (.cells #[.int .u8 0, .int .i64 0, .int .i64 0, .int .i64 0, .bool false, .string ⟨#[]⟩, .int .u8 0, .int .u8 0, .int .u8 0, .int .u8 0, .int .u8 0, .int .u8 0, .int .u8 0, .int .u8 0, .int .u8 0, .int .u8 0, .int .u8 0, .int .u8 0, .int .u8 0, .int .u8 0, .int .u8 0, .int .u8 0, .slice none 0 0] 33 (0, 0))) := blk_kept g1 b2 (blk_lt g1)
  have HB2 : Hid (Below w.heap.size w W2) := b1.trans (b2.mono b1.size)
  have HSZ : Hid ((Tryz.prog.info? 33).map (·.size) = some (plA ⟨7, id, n, 0, false, ⟨#[]⟩, zn, []⟩ (.slice none 0 0)).size) := infoP
  have HON : Hid ((plA ⟨7, id, n, 0, false, ⟨#[]⟩, zn, []⟩ (.slice none 0 0)).all (·.oneCell') = true) := all_oneCell_toArray (plL_one rfl)
  have a1 : ∀ (v : Value) (W : World), (Instr.typeAssert (.iface 80 v) 29 69 true).run Tryz.prog W = .ok (.tuple #[.agg #[], .bool false]) W := fun v W => by kernel_rfl
  have a2 : ∀ (v : Value) (W : World), (Instr.typeAssert (.iface 80 v) 29 72 true).run Tryz.prog W = .ok (.tuple #[.agg #[.int .i64 0, .slice none 0 0], .bool false]) W := fun v W => by kernel_rfl
  have a3 : ∀ (v : Value) (W : World), (Instr.typeAssert (.iface 80 v) 29 42 true).run Tryz.prog W = .ok (.tuple #[.agg #[.int .i64 0, .int .i64 0, .bool false, .string ⟨#[]⟩], .bool false]) W := fun v W => by kernel_rfl
  have a4 : ∀ (v : Value) (W : World), (Instr.typeAssert (.iface 80 v) 29 74 true).run Tryz.prog W = .ok (.tuple #[.agg #[.int .i64 0, .int .i64 0, .int .i64 0], .bool false]) W := fun v W => by kernel_rfl
  have a5 : ∀ (v : Value) (W : World), (Instr.typeAssert (.iface 80 v) 29 76 true).run Tryz.prog W = .ok (.tuple #[.agg #[.int .i64 0, .int .i64 0], .bool false]) W := fun v W => by kernel_rfl
  have a6 : ∀ (v : Value) (W : World), (Instr.typeAssert (.iface 80 v) 29 78 true).run Tryz.prog W = .ok (.tuple #[.agg #[.int .i64 0], .bool false]) W := fun v W => by kernel_rfl
  have a7 : ∀ (v : Value) (W : World), (Instr.typeAssert (.iface 80 v) 29 80 true).run Tryz.prog W = .ok (.tuple #[v, .bool true]) W := fun v W => by kernel_rfl
  clear b1 g1 b2
  go_enter Tryz.func32, Tryz.ntmps32
  go_upto_region 1 with fail
  rw [← hW1]
  clear hW1
  go_wp2_with (rw [← hW2]; refine wpList_store_row rfl 33 _ _ rfl w.heap.size (plA ⟨7, id, n, 0, false, ⟨#[]⟩, zn, []⟩ (.slice none 0 0)) rfl rfl 33 _ HG2.out HSZ.out rfl HON.out (Hid.out ?_))
  unfold Hid
  go_wp2
  rw [← hW2]
  refine bodyPost_ret (v := .agg (plA ⟨7, id, n, 0, false, ⟨#[]⟩, zn, []⟩ (.slice none 0 0))) (results_cell_row rfl _ _ w.heap.size 33 (plA ⟨7, id, n, 0, false, ⟨#[]⟩, zn, []⟩ (.slice none 0 0)) (0, 0) _ rfl (setRow_heap _ _ _ _ _ _ HG2.out) Tryz.underlying33 rfl HSZ.out) rfl ⟨rfl, below_setRow HB2.out (Nat.le_refl _) _⟩
set_option maxHeartbeats 8000000 in
theorem flat8 (n : Int) (w : World) :
    Calls Tryz.prog 32 #[.iface 81 (.agg #[.int .i64 n])] w fun e w' => e = .returned (.agg (plA ⟨8, 0, n, 0, false, ⟨#[]⟩, zn, []⟩ (.slice none 0 0))) ∧ Below w.heap.size w w' := by
  obtain ⟨W1, hW1⟩ : ∃ W1, W1 = w.alloc (.cells #[.int .u8 0, .int .i64 0, .int .i64 0, .int .i64 0, .bool false, .string ⟨#[]⟩, .int .u8 0, .int .u8 0, .int .u8 0, .int .u8 0, .int .u8 0, .int .u8 0, .int .u8 0, .int .u8 0, .int .u8 0, .int .u8 0, .int .u8 0, .int .u8 0, .int .u8 0, .int .u8 0, .int .u8 0, .int .u8 0, .slice none 0 0] 33) := ⟨_, rfl⟩
  have b1 : Below w.heap.size w W1 := by rw [hW1]; exact al_below _ _
  have g1 : W1.heap[w.heap.size]? = some (.cells #[.int .u8 0, .int .i64 0, .int .i64 0, .int .i64 0, .bool false, .string ⟨#[]⟩, .int .u8 0, .int .u8 0, .int .u8 0, .int .u8 0, .int .u8 0, .int .u8 0, .int .u8 0, .int .u8 0, .int .u8 0, .int .u8 0, .int .u8 0, .int .u8 0, .int .u8 0, .int .u8 0, .int .u8 0, .int .u8 0, .slice none 0 0] 33 (0, 0)) := by rw [hW1]; exact heap_alloc_new _ _
  obtain ⟨W2, hW2⟩ : ∃ W2, W2 = W1.alloc (.cells #[.int .i64 n] 81) := ⟨_, rfl⟩
  have b2 : Below W1.heap.size W1 W2 := by rw [hW2]; exact al_below _ _
  have HG2 : Hid (W2.heap[w.heap.size]? = some (.cells #[.int .u8 0, .int .i64 0, .int .i64 0, .int .i64 0, .bool false, .string ⟨#[]⟩, .int .u8 0, .int .u8 0, .int .u8 0, .int .u8 0, .int .u8 0, .int .u8 0, .int .u8 0, .int .u8 0, .int .u8 0, .int .u8 0, .int .u8 0, .int .u8 0, .int .u8 0, .int .u8 0, .int .u8 0, .int .u8 0, .slice none 0 0] 33 (0, 0))) := blk_kept g1 b2 (blk_lt g1)
  have HB2 : Hid (Below w.heap.size w W2) := b1.trans (b2.mono b1.size)
  have HSZ : Hid ((Tryz.prog.info? 33).map (·.size) = some (plA ⟨8, 0, n, 0, false, ⟨#[]⟩, zn, []⟩ (.slice none 0 0)).size) := infoP
  have HON : Hid ((plA ⟨8, 0, n, 0, false, ⟨#[]⟩, zn, []⟩ (.slice none 0 0)).all (·.oneCell') = true) := all_oneCell_toArray (plL_one rfl)
  have a1 : ∀ (v : Value) (W : World), (Instr.typeAssert (.iface 81 v) 29 69 true).run Tryz.prog W = .ok (.tuple #[.agg #[], .bool false]) W := fun v W => by kernel_rfl
  have a2 : ∀ (v : Value) (W : World), (Instr.typeAssert (.iface 81 v) 29 72 true).run Tryz.prog W = .ok (.tuple #[.agg #[.int .i64 0, .slice none 0 0], .bool false]) W := fun v W => by kernel_rfl
  have a3 : ∀ (v : Value) (W : World), (Instr.typeAssert (.iface 81 v) 29 42 true).run Tryz.prog W = .ok (.tuple #[.agg #[.int .i64 0, .int .i64 0, .bool false, .string ⟨#[]⟩], .bool false]) W := fun v W => by kernel_rfl
  have a4 : ∀ (v : Value) (W : World), (Instr.typeAssert (.iface 81 v) 29 74 true).run Tryz.prog W = .ok (.tuple #[.agg #[.int .i64 0, .int .i64 0, .int .i64 0], .bool false]) W := fun v W => by kernel_rfl
  have a5 : ∀ (v : Value) (W : World), (Instr.typeAssert (.iface 81 v) 29 76 true).run Tryz.prog W = .ok (.tuple #[.agg #[.int .i64 0, .int .i64 0], .bool false]) W := fun v W => by kernel_rfl
  have a6 : ∀ (v : Value) (W : World), (Instr.typeAssert (.iface 81 v) 29 78 true).run Tryz.prog W = .ok (.tuple #[.agg #[.int .i64 0], .bool false]) W := fun v W => by kernel_rfl
  have a7 : ∀ (v : Value) (W : World), (Instr.typeAssert (.iface 81 v) 29 80 true).run Tryz.prog W = .ok (.tuple #[.agg #[.int .i64 0, .int .i64 0], .bool false]) W := fun v W => by kernel_rfl
  have a8 : ∀ (v : Value) (W : World), (Instr.typeAssert (.iface 81 v) 29 81 true).run Tryz.prog W = .ok (.tuple #[v, .bool true]) W := fun v W => by kernel_rfl
  clear b1 g1 b2
  go_enter Tryz.func32, Tryz.ntmps32
  go_upto_region 1 with fail
  rw [← hW1]
  clear hW1
  go_wp2_with (rw [← hW2]; refine wpList_store_row rfl 33 _ _ rfl w.heap.size (plA ⟨8, 0, n, 0, false, ⟨#[]⟩, zn, []⟩ (.slice none 0 0)) rfl rfl 33 _ HG2.out HSZ.out rfl HON.out (Hid.out ?_))
  unfold Hid
  go_wp2
  rw [← hW2]
  refine bodyPost_ret (v := .agg (plA ⟨8, 0, n, 0, false, ⟨#[]⟩, zn, []⟩ (.slice none 0 0))) (results_cell_row rfl _ _ w.heap.size 33 (plA ⟨8, 0, n, 0, false, ⟨#[]⟩, zn, []⟩ (.slice none 0 0)) (0, 0) _ rfl (setRow_heap _ _ _ _ _ _ HG2.out) Tryz.underlying33 rfl HSZ.out) rfl ⟨rfl, below_setRow HB2.out (Nat.le_refl _) _⟩
set_option maxHeartbeats 8000000 in
theorem flat9 (x0 x1 x2 x3 x4 x5 x6 x7 x8 x9 xa xb xc xd xe xf : Int) (tx : ByteArray) (w : World) :
    Calls Tryz.prog 32 #[.iface 83 (.agg #[.int .u8 x0, .int .u8 x1, .int .u8 x2, .int .u8 x3, .int .u8 x4, .int .u8 x5, .int .u8 x6, .int .u8 x7, .int .u8 x8, .int .u8 x9, .int .u8 xa, .int .u8 xb, .int .u8 xc, .int .u8 xd, .int .u8 xe, .int .u8 xf, .string tx])] w fun e w' => e = .returned (.agg (plA ⟨9, 0, 0, 0, false, tx, [x0, x1, x2, x3, x4, x5, x6, x7, x8, x9, xa, xb, xc, xd, xe, xf], []⟩ (.slice none 0 0))) ∧ Below w.heap.size w w' := by
  obtain ⟨W1, hW1⟩ : ∃ W1, W1 = w.alloc (.cells #[.int .u8 0, .int .i64 0, .int .i64 0, .int .i64 0, .bool false, .string ⟨#[]⟩, .int .u8 0, .int .u8 0, .int .u8 0, .int .u8 0, .int .u8 0, .int .u8 0, .int .u8 0, .int .u8 0, .int .u8 0, .int .u8 0, .int .u8 0, .int .u8 0, .int .u8 0, .int .u8 0, .int .u8 0, .int .u8 0, .slice none 0 0] 33) := ⟨_, rfl⟩
  have b1 : Below w.heap.size w W1 := by rw [hW1]; exact al_below _ _
  have g1 : W1.heap[w.heap.size]? = some (.cells #[.int .u8 0, .int .i64 0, .int .i64 0, .int .i64 0, .bool false, .string ⟨#[]⟩, .int .u8 0, .int .u8 0, .int .u8 0, .int .u8 0, .int .u8 0, .int .u8 0, .int .u8 0, .int .u8 0, .int .u8 0, .int .u8 0, .int .u8 0, .int .u8 0, .int .u8 0, .int .u8 0, .int .u8 0, .int .u8 0, .slice none 0 0] 33 (0, 0)) := by rw [hW1]; exact heap_alloc_new _ _
  obtain ⟨W2, hW2⟩ : ∃ W2, W2 = W1.alloc (.cells #[.int .u8 x0, .int .u8 x1, .int .u8 x2, .int .u8 x3, .int .u8 x4, .int .u8 x5, .int .u8 x6, .int .u8 x7, .int .u8 x8, .int .u8 x9, .int .u8 xa, .int .u8 xb, .int .u8 xc, .int .u8 xd, .int .u8 xe, .int .u8 xf, .string tx] 83) := ⟨_, rfl⟩
  have b2 : Below W1.heap.size W1 W2 := by rw [hW2]; exact al_below _ _
  have HG2 : Hid (W2.heap[w.heap.size]? = some (.cells #[.int .u8 0, .int .i64 0, .int .i64 0, .int .i64 0, .bool false, .string ⟨#[]⟩, .int .u8 0, .int .u8 0, .int .u8 0, .int .u8 0, .int .u8 0, .int .u8 0, .int .u8 0, .int .u8 0, .int .u8 0, .int .u8 0, .int .u8 0, .int .u8 0, .int .u8 0, .int .u8 0, .int .u8 0, .int .u8 0, .slice none 0 0] 33 (0, 0))) := blk_kept g1 b2 (blk_lt g1)
  have HB2 : Hid (Below w.heap.size w W2) := b1.trans (b2.mono b1.size)
  have HSZ : Hid ((Tryz.prog.info? 33).map (·.size) = some (plA ⟨9, 0, 0, 0, false, tx, [x0, x1, x2, x3, x4, x5, x6, x7, x8, x9, xa, xb, xc, xd, xe, xf], []⟩ (.slice none 0 0)).size) := infoP
  have HON : Hid ((plA ⟨9, 0, 0, 0, false, tx, [x0, x1, x2, x3, x4, x5, x6, x7, x8, x9, xa, xb, xc, xd, xe, xf], []⟩ (.slice none 0 0)).all (·.oneCell') = true) := all_oneCell_toArray (plL_one rfl)
  have a1 : ∀ (v : Value) (W : World), (Instr.typeAssert (.iface 83 v) 29 69 true).run Tryz.prog W = .ok (.tuple #[.agg #[], .bool false]) W := fun v W => by kernel_rfl
  have a2 : ∀ (v : Value) (W : World), (Instr.typeAssert (.iface 83 v) 29 72 true).run Tryz.prog W = .ok (.tuple #[.agg #[.int .i64 0, .slice none 0 0], .bool false]) W := fun v W => by kernel_rfl
  have a3 : ∀ (v : Value) (W : World), (Instr.typeAssert (.iface 83 v) 29 42 true).run Tryz.prog W = .ok (.tuple #[.agg #[.int .i64 0, .int .i64 0, .bool false, .string ⟨#[]⟩], .bool false]) W := fun v W => by kernel_rfl
  have a4 : ∀ (v : Value) (W : World), (Instr.typeAssert (.iface 83 v) 29 74 true).run Tryz.prog W = .ok (.tuple #[.agg #[.int .i64 0, .int .i64 0, .int .i64 0], .bool false]) W := fun v W => by kernel_rfl
  have a5 : ∀ (v : Value) (W : World), (Instr.typeAssert (.iface 83 v) 29 76 true).run Tryz.prog W = .ok (.tuple #[.agg #[.int .i64 0, .int .i64 0], .bool false]) W := fun v W => by kernel_rfl
  have a6 : ∀ (v : Value) (W : World), (Instr.typeAssert (.iface 83 v) 29 78 true).run Tryz.prog W = .ok (.tuple #[.agg #[.int .i64 0], .bool false]) W := fun v W => by kernel_rfl
  have a7 : ∀ (v : Value) (W : World), (Instr.typeAssert (.iface 83 v) 29 80 true).run Tryz.prog W = .ok (.tuple #[.agg #[.int .i64 0, .int .i64 0], .bool false]) W := fun v W => by kernel_rfl
  have a8 : ∀ (v : Value) (W : World), (Instr.typeAssert (.iface 83 v) 29 81 true).run Tryz.prog W = .ok (.tuple #[.agg #[.int .i64 0], .bool false]) W := fun v W => by kernel_rfl
  have a9 : ∀ (v : Value) (W : World), (Instr.typeAssert (.iface 83 v) 29 83 true).run Tryz.prog W = .ok (.tuple #[v, .bool true]) W := fun v W => by kernel_rfl
  clear b1 g1 b2
  go_enter Tryz.func32, Tryz.ntmps32
  go_upto_region 1 with fail
  rw [← hW1]
  clear hW1
  go_wp2_with (rw [← hW2]; refine wpList_store_row rfl 33 _ _ rfl w.heap.size (plA ⟨9, 0, 0, 0, false, tx, [x0, x1, x2, x3, x4, x5, x6, x7, x8, x9, xa, xb, xc, xd, xe, xf], []⟩ (.slice none 0 0)) rfl rfl 33 _ HG2.out HSZ.out rfl HON.out (Hid.out ?_))
  unfold Hid
  go_wp2
  rw [← hW2]
  refine bodyPost_ret (v := .agg (plA ⟨9, 0, 0, 0, false, tx, [x0, x1, x2, x3, x4, x5, x6, x7, x8, x9, xa, xb, xc, xd, xe, xf], []⟩ (.slice none 0 0))) (results_cell_row rfl _ _ w.heap.size 33 (plA ⟨9, 0, 0, 0, false, tx, [x0, x1, x2, x3, x4, x5, x6, x7, x8, x9, xa, xb, xc, xd, xe, xf], []⟩ (.slice none 0 0)) (0, 0) _ rfl (setRow_heap _ _ _ _ _ _ HG2.out) Tryz.underlying33 rfl HSZ.out) rfl ⟨rfl, below_setRow HB2.out (Nat.le_refl _) _⟩
set_option maxHeartbeats 8000000 in
theorem flat10 (cd : Int) (tx : ByteArray) (w : World) :
    Calls Tryz.prog 32 #[.iface 85 (.agg #[.int .i64 cd, .string tx])] w fun e w' => e = .returned (.agg (plA ⟨10, 0, 0, cd, false, tx, zn, []⟩ (.slice none 0 0))) ∧ Below w.heap.size w w' := by
  obtain ⟨W1, hW1⟩ : ∃ W1, W1 = w.alloc (.cells #[.int .u8 0, .int .i64 0, .int .i64 0, .int .i64 0, .bool false, .string ⟨#[]⟩, .int .u8 0, .int .u8 0, .int .u8 0, .int .u8 0, .int .u8 0, .int .u8 0, .int .u8 0, .int .u8 0, .int .u8 0, .int .u8 0, .int .u8 0, .int .u8 0, .int .u8 0, .int .u8 0, .int .u8 0, .int .u8 0, .slice none 0 0] 33) := ⟨_, rfl⟩
  have b1 : Below w.heap.size w W1 := by rw [hW1]; exact al_below _ _
  have g1 : W1.heap[w.heap.size]? = some (.cells #[.int .u8 0, .int .i64 0, .int .i64 0, .int .i64 0, .bool false, .string ⟨#[]⟩, .int .u8 0, .int .u8 0, .int .u8 0, .int .u8 0, .int .u8 0, .int .u8 0, .int .u8 0, .int .u8 0, .int .u8 0, .int .u8 0, .int .u8 0, .int .u8 0, .int .u8 0, .int .u8 0, .int .u8 0, .int .u8 0, .slice none 0 0] 33 (0, 0)) := by rw [hW1]; exact heap_alloc_new _ _
  obtain ⟨W2, hW2⟩ : ∃ W2, W2 = W1.alloc (.cells #[.int .i64 cd, .string tx] 85) := ⟨_, rfl⟩
  have b2 : Below W1.heap.size W1 W2 := by rw [hW2]; exact al_below _ _
  have HG2 : Hid (W2.heap[w.heap.size]? = some (.cells #[.int .u8 0, .int .i64 0, .int .i64 0, .int .i64 0, .bool false, .string ⟨#[]⟩, .int .u8 0, .int .u8 0, .int .u8 0, .int .u8 0, .int .u8 0, .int .u8 0, .int .u8 0, .int .u8 0, .int .u8 0, .int .u8 0, .int .u8 0, .int .u8 0, .int .u8 0, .int .u8 0, .int .u8 0, .int .u8 0, .slice none 0 0] 33 (0, 0))) := blk_kept g1 b2 (blk_lt g1)
  have HB2 : Hid (Below w.heap.size w W2) := b1.trans (b2.mono b1.size)
  have HSZ : Hid ((Tryz.prog.info? 33).map (·.size) = some (plA ⟨10, 0, 0, cd, false, tx, zn, []⟩ (.slice none 0 0)).size) := infoP
  have HON : Hid ((plA ⟨10, 0, 0, cd, false, tx, zn, []⟩ (.slice none 0 0)).all (·.oneCell') = true) := all_oneCell_toArray (plL_one rfl)
  have a1 : ∀ (v : Value) (W : World), (Instr.typeAssert (.iface 85 v) 29 69 true).run Tryz.prog W = .ok (.tuple #[.agg #[], .bool false]) W := fun v W => by kernel_rfl
  have a2 : ∀ (v : Value) (W : World), (Instr.typeAssert (.iface 85 v) 29 72 true).run Tryz.prog W = .ok (.tuple #[.agg #[.int .i64 0, .slice none 0 0], .bool false]) W := fun v W => by kernel_rfl
  have a3 : ∀ (v : Value) (W : World), (Instr.typeAssert (.iface 85 v) 29 42 true).run Tryz.prog W = .ok (.tuple #[.agg #[.int .i64 0, .int .i64 0, .bool false, .string ⟨#[]⟩], .bool false]) W := fun v W => by kernel_rfl
  have a4 : ∀ (v : Value) (W : World), (Instr.typeAssert (.iface 85 v) 29 74 true).run Tryz.prog W = .ok (.tuple #[.agg #[.int .i64 0, .int .i64 0, .int .i64 0], .bool false]) W := fun v W => by kernel_rfl
  have a5 : ∀ (v : Value) (W : World), (Instr.typeAssert (.iface 85 v) 29 76 true).run Tryz.prog W = .ok (.tuple #[.agg #[.int .i64 0, .int .i64 0], .bool false]) W := fun v W => by kernel_rfl
  have a6 : ∀ (v : Value) (W : World), (Instr.typeAssert (.iface 85 v) 29 78 true).run Tryz.prog W = .ok (.tuple #[.agg #[.int .i64 0], .bool false]) W := fun v W => by kernel_rfl
  have a7 : ∀ (v : Value) (W : World), (Instr.typeAssert (.iface 85 v) 29 80 true).run Tryz.prog W = .ok (.tuple #[.agg #[.int .i64 0, .int .i64 0], .bool false]) W := fun v W => by kernel_rfl
  have a8 : ∀ (v : Value) (W : World), (Instr.typeAssert (.iface 85 v) 29 81 true).run Tryz.prog W = .ok (.tuple #[.agg #[.int .i64 0], .bool false]) W := fun v W => by kernel_rfl
  have a9 : ∀ (v : Value) (W : World), (Instr.typeAssert (.iface 85 v) 29 83 true).run Tryz.prog W = .ok (.tuple #[.agg #[.int .u8 0, .int .u8 0, .int .u8 0, .int .u8 0, .int .u8 0, .int .u8 0, .int .u8 0, .int .u8 0, .int .u8 0, .int .u8 0, .int .u8 0, .int .u8 0, .int .u8 0, .int .u8 0, .int .u8 0, .int .u8 0, .string ⟨#[]⟩], .bool false]) W := fun v W => by kernel_rfl
  have a10 : ∀ (v : Value) (W : World), (Instr.typeAssert (.iface 85 v) 29 85 true).run Tryz.prog W = .ok (.tuple #[v, .bool true]) W := fun v W => by kernel_rfl
  clear b1 g1 b2
  go_enter Tryz.func32, Tryz.ntmps32
  go_upto_region 1 with fail
  rw [← hW1]
  clear hW1
  go_wp2_with (rw [← hW2]; refine wpList_store_row rfl 33 _ _ rfl w.heap.size (plA ⟨10, 0, 0, cd, false, tx, zn, []⟩ (.slice none 0 0)) rfl rfl 33 _ HG2.out HSZ.out rfl HON.out (Hid.out ?_))
  unfold Hid
  go_wp2
  rw [← hW2]
  refine bodyPost_ret (v := .agg (plA ⟨10, 0, 0, cd, false, tx, zn, []⟩ (.slice none 0 0))) (results_cell_row rfl _ _ w.heap.size 33 (plA ⟨10, 0, 0, cd, false, tx, zn, []⟩ (.slice none 0 0)) (0, 0) _ rfl (setRow_heap _ _ _ _ _ _ HG2.out) Tryz.underlying33 rfl HSZ.out) rfl ⟨rfl, below_setRow HB2.out (Nat.le_refl _) _⟩
end Go.Proofs.YtmplpdjkhdaniaaGreatDoor
