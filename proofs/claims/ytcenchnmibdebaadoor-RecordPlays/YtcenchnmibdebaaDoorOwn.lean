/-
  What own answers.
-/
import Derived.Test.YtcenchnmibdebaaDoorCh
namespace Go.Proofs.YtcenchnmibdebaaDoor
open Go.RowKit
set_option maxRecDepth 100000

set_option maxHeartbeats 2000000 in
theorem own_any (r : Rc) (w : World) (hr : r.ok) :
    Calls Tryd.prog 7 #[r.val] w fun e w' => e = .returned r.val ∧ Below w.heap.size w w' := by
  obtain ⟨W0, hW0⟩ : ∃ W0, W0 = w.alloc (.cells r.cells.toArray 25) := ⟨_, rfl⟩
  have b0 : Below w.heap.size w W0 := by rw [hW0]; exact al_below _ _
  have z0 : W0.heap.size = w.heap.size + 1 := by rw [hW0]; simp
  have r0 : W0.rangeAt w.heap.size 0 r.cells := by rw [hW0]; exact blk_range (heap_alloc_new _ _)
  obtain ⟨W1, hW1⟩ : ∃ W1, W1 = W0.alloc (.cells rzc 33) := ⟨_, rfl⟩
  have b1 : Below W0.heap.size W0 W1 := by rw [hW1]; exact al_below _ _
  have g1 : W1.heap[W0.heap.size]? = some (.cells rzc 33 (0, 0)) := by rw [hW1]; exact heap_alloc_new _ _
  have hw0 := hW0.symm
  have hw1 : W0.alloc (.cells #[.int .u8 0, .int .i64 0, .string ⟨#[]⟩, .int .u8 0, .int .u8 0, .int .u8 0, .int .u8 0, .int .u8 0, .int .u8 0, .int .u8 0, .int .u8 0, .int .u8 0, .int .u8 0, .int .u8 0, .int .u8 0, .int .u8 0, .int .u8 0, .int .u8 0, .int .u8 0, .int .u8 0, .int .u8 0, .int .u8 0, .int .u8 0, .int .u8 0, .int .u8 0, .int .u8 0, .int .u8 0, .int .u8 0, .int .u8 0, .int .u8 0, .int .u8 0, .int .u8 0, .int .u8 0, .int .u8 0, .int .u8 0, .int .i64 0, .int .i64 0] 33) = W1 := hW1.symm
  have r1 := range_kept r0 b1
  obtain ⟨k0, k1, k2, k3, k4, k5⟩ := rcC r1 hr
  simp only [Nat.zero_add] at k0 k1 k2 k3 k4 k5
  have K3 : Hid (W1.rangeAt w.heap.size 3 (r.x.s.map (Value.int .u8))) := k3
  have HZ : Hid ((Tryd.prog.info? 23).map (·.size) = some (r.x.s.map (Value.int .u8)).length) := by unfold Hid; rw [sizeHs, List.length_map, hr.2.2.1]
  have BB : Hid (Tryd.prog.built 33 [(0, .int .u8 r.k), (1, .int .i64 r.x.i), (2, .string r.x.p), (3, .agg (u8c r.x.s)), (4, .int .i64 r.x.n), (5, .int .i64 r.x.o)] = some r.cells.toArray) := bR r hr
  have B1 : Hid (Below w.heap.size w W1) := b0.trans (b1.mono b0.size)
  have G1 : Hid (W1.heap[W0.heap.size]? = some (.cells rzc 33 (0, 0))) := g1
  have HOK : Hid r.ok := hr
  have HSZ : Hid (w.heap.size ≤ W0.heap.size) := by unfold Hid; omega
  unfold u8c at BB
  unfold Rc.val
  clear hW0 b0 z0 r0 hW1 b1 g1 r1 k3 hr
  go_enter Tryd.func7, Tryd.ntmps7
  go_wp2_with (first
    | refine wpList_load_mid rfl 23 _ rfl w.heap.size 3 rfl (r.x.s.map (Value.int .u8)) _ K3.out Tryd.underlying23 rfl HZ.out ?_
    | refine wpList_built rfl 33 _ rfl [(0, .int .u8 r.k), (1, .int .i64 r.x.i), (2, .string r.x.p), (3, .agg (r.x.s.map (Value.int .u8)).toArray), (4, .int .i64 r.x.n), (5, .int .i64 r.x.o)] rfl r.cells.toArray BB.out ?_
    | refine wpList_store_row rfl 33 _ _ rfl W0.heap.size r.cells.toArray rfl rfl 33 rzc G1.out (Rc.infoA r HOK.out) (rzc_size.trans (Rc.size r HOK.out).symm) (Rc.ones r) ?_)
  exact bodyPost_ret (v := .agg r.cells.toArray) (results_cell_row rfl _ _ W0.heap.size 33 r.cells.toArray (0, 0) _ rfl (setRow_heap _ _ _ _ _ _ G1.out) Tryd.underlying33 rfl (Rc.infoA r HOK.out)) rfl ⟨rfl, below_setRow B1.out HSZ.out _⟩
end Go.Proofs.YtcenchnmibdebaaDoor
