/-
  Variables that hold sums; bytes of a sum; the tables; sums of one text.
-/
import Derived.Test.YtlhmpcmlpfffoaaDoorBr
import Derived.Deep.WholeRow
namespace Go.Proofs.YtlhmpcmlpfffoaaDoor
open Go.RowKit
set_option maxRecDepth 100000

def izc : Array Value := it0.cells.toArray
theorem Sg.size (x : Sg) (h : x.ok) : x.cells.toArray.size = 33 := by rw [List.size_toArray]; exact Sg.len h
theorem Sg.ones (x : Sg) : x.cells.toArray.all (·.oneCell') = true := all_oneCell_toArray (Sg.one x)
theorem Sg.info (x : Sg) (h : x.ok) : (Tryd.prog.info? 57).map (·.size) = some x.cells.toArray.size := by rw [Sg.size x h]; exact sizeI
theorem izc_size : izc.size = 33 := Sg.size it0 it0_ok
theorem alloc_it (w : World) (x : Sg) : (w.alloc (.cells #[.int .u32 0, .int .u8 0, .int .u8 0, .int .u8 0, .int .u8 0, .int .u8 0, .int .u8 0, .int .u8 0, .int .u8 0, .int .u8 0, .int .u8 0, .int .u8 0, .int .u8 0, .int .u8 0, .int .u8 0, .int .u8 0, .int .u8 0, .int .u8 0, .int .u8 0, .int .u8 0, .int .u8 0, .int .u8 0, .int .u8 0, .int .u8 0, .int .u8 0, .int .u8 0, .int .u8 0, .int .u8 0, .int .u8 0, .int .u8 0, .int .u8 0, .int .u8 0, .int .u8 0] 57)).setRow w.heap.size x.cells.toArray = w.alloc (.cells x.cells.toArray 57) := World.setRow_alloc_new _ _ _ _
theorem new_it (w : World) : (w.alloc (.cells #[.int .u32 0, .int .u8 0, .int .u8 0, .int .u8 0, .int .u8 0, .int .u8 0, .int .u8 0, .int .u8 0, .int .u8 0, .int .u8 0, .int .u8 0, .int .u8 0, .int .u8 0, .int .u8 0, .int .u8 0, .int .u8 0, .int .u8 0, .int .u8 0, .int .u8 0, .int .u8 0, .int .u8 0, .int .u8 0, .int .u8 0, .int .u8 0, .int .u8 0, .int .u8 0, .int .u8 0, .int .u8 0, .int .u8 0, .int .u8 0, .int .u8 0, .int .u8 0, .int .u8 0] 57)).heap[w.heap.size]? = some (.cells izc 57 (0, 0)) := heap_alloc_new _ _
theorem takeI_at (l : List Sg) (j : Nat) (h : j < l.length) : l.take (j + 1) = l.take j ++ [atI l j] := by
  rw [List.take_add_one, List.getElem?_eq_getElem h]
  simp [atI, List.getD, List.getElem?_eq_getElem h]
def hzc : Array Value := u8c z32
theorem u8c_size (l : List Int) : (u8c l).size = l.length := by simp [u8c]
theorem infoH (A : List Int) (h : A.length = 32) : (Tryd.prog.info? 48).map (·.size) = some (u8c A).size := by rw [u8c_size, h]; exact sizeH
theorem infoHl (A : List Int) (h : A.length = 32) : (Tryd.prog.info? 48).map (·.size) = some (A.map (Value.int .u8)).length := by rw [List.length_map, h]; exact sizeH
theorem u8c_ones (A : List Int) : (u8c A).all (·.oneCell') = true := all_oneCell_toArray (ints_one A)
theorem new_h (w : World) : (w.alloc (.cells #[.int .u8 0, .int .u8 0, .int .u8 0, .int .u8 0, .int .u8 0, .int .u8 0, .int .u8 0, .int .u8 0, .int .u8 0, .int .u8 0, .int .u8 0, .int .u8 0, .int .u8 0, .int .u8 0, .int .u8 0, .int .u8 0, .int .u8 0, .int .u8 0, .int .u8 0, .int .u8 0, .int .u8 0, .int .u8 0, .int .u8 0, .int .u8 0, .int .u8 0, .int .u8 0, .int .u8 0, .int .u8 0, .int .u8 0, .int .u8 0, .int .u8 0, .int .u8 0] 48)).heap[w.heap.size]? = some (.cells hzc 48 (0, 0)) := heap_alloc_new _ _
theorem alloc_h (w : World) (A : List Int) : (w.alloc (.cells #[.int .u8 0, .int .u8 0, .int .u8 0, .int .u8 0, .int .u8 0, .int .u8 0, .int .u8 0, .int .u8 0, .int .u8 0, .int .u8 0, .int .u8 0, .int .u8 0, .int .u8 0, .int .u8 0, .int .u8 0, .int .u8 0, .int .u8 0, .int .u8 0, .int .u8 0, .int .u8 0, .int .u8 0, .int .u8 0, .int .u8 0, .int .u8 0, .int .u8 0, .int .u8 0, .int .u8 0, .int .u8 0, .int .u8 0, .int .u8 0, .int .u8 0, .int .u8 0] 48)).setRow w.heap.size (u8c A) = w.alloc (.cells (u8c A) 48) := World.setRow_alloc_new _ _ _ _
theorem hzc_size : hzc.size = 32 := by unfold hzc; rw [u8c_size, z32_len]
theorem sl_u8c {w : World} {g : Nat} {A : List Int} (h : w.heap[g]? = some (.cells (u8c A) 48 (0, 0))) (hl : A.length = 32) (hb : ∀ k, 0 ≤ A.getD k 0 ∧ A.getD k 0 < 256) : Sl w (.slice (some ⟨g, 0, none⟩) 32 32) A := by
  refine sl_range (A := A) (fun j v hv => ?_) hb hl.symm (Nat.le_refl _) (by unfold maxLen; omega)
  rw [Nat.zero_add, cell_of_row _ _ _ _ _ _ h]
  simpa [u8c] using hv
theorem parts1 {w : World} {v : Value} {X : List Int} (s : Sl w v X) : Sh.Parts (w.alloc (.cells #[v] 22)) (some ⟨w.heap.size, 0, none⟩) [X] := by
  refine ⟨by simp, .inr ⟨w.heap.size, 0, rfl, fun i hi => ?_⟩⟩
  obtain rfl : i = 0 := by simpa using hi
  refine ⟨v, ?_, s.kept (al_below _ _)⟩
  rw [World.cell?_alloc_at _ _ _ _ rfl]
  rfl
theorem of1 (X : List Int) (W : World) (g : Nat) (hT : Sh.Tab W) (hP : Sh.Parts W (some ⟨g, 0, none⟩) [X]) (hX : X.length ≤ 100000000000000000) :
    Calls Tryd.prog 23 #[.slice (some ⟨g, 0, none⟩) 1 1] W fun e w' => e = .returned (.agg (u8c (Sh.Pl.sha X))) ∧ Below W.heap.size W w' := by
  have := Sh.of_any (some ⟨g, 0, none⟩) 1 [X] W hT hP (by simpa using hX)
  rw [show [X].flatten = X by simp] at this
  exact this
theorem below_setRow {w w' : World} {B k : Nat} (h : Below B w w') (hk : B ≤ k) (cs : Array Value) : Below B w (w'.setRow k cs) :=
  ⟨h.os, h.tape, h.output, by rw [setRow_size]; exact h.size, fun j hj => by rw [setRow_other w' k j cs (by omega)]; exact h.block j hj⟩
/-- The sums of a block. -/
def sumB (X : List Int) : Sg := ⟨Ro.rs X, Sh.Pl.sha X⟩
theorem sumB_ok (X : List Int) : (sumB X).ok := ⟨Sh.sha_len _, Sh.sha_byt _, (Ro.rs_range X).1, (Ro.rs_range X).2⟩
set_option maxHeartbeats 2000000 in
theorem sumsOf_any (v : Value) (X : List Int) (w : World) (s : Sl w v X) (ht : Ta w) (hX : X.length ≤ 100000000000000000) :
    Calls Tryd.prog 45 #[v] w fun e w' => e = .returned (sumB X).val ∧ Below w.heap.size w w' := by
  obtain ⟨W1, hW1⟩ : ∃ W1, W1 = w.alloc (.cells izc 57) := ⟨_, rfl⟩
  have hwz : w.alloc (.cells #[.int .u32 0, .int .u8 0, .int .u8 0, .int .u8 0, .int .u8 0, .int .u8 0, .int .u8 0, .int .u8 0, .int .u8 0, .int .u8 0, .int .u8 0, .int .u8 0, .int .u8 0, .int .u8 0, .int .u8 0, .int .u8 0, .int .u8 0, .int .u8 0, .int .u8 0, .int .u8 0, .int .u8 0, .int .u8 0, .int .u8 0, .int .u8 0, .int .u8 0, .int .u8 0, .int .u8 0, .int .u8 0, .int .u8 0, .int .u8 0, .int .u8 0, .int .u8 0, .int .u8 0] 57) = W1 := hW1.symm
  have b1 : Below w.heap.size w W1 := by rw [hW1]; exact al_below _ _
  have s1 : W1.heap.size = w.heap.size + 1 := by rw [hW1]; simp
  have g1 : W1.heap[w.heap.size]? = some (.cells izc 57 (0, 0)) := by rw [hW1]; exact heap_alloc_new _ _
  have C1 := Ro.sum_any v X W1 (s.kept b1)
  obtain ⟨W2, hW2⟩ : ∃ W2, W2 = W1.alloc (.cells #[v] 22) := ⟨_, rfl⟩
  have b2 : Below W1.heap.size W1 W2 := by rw [hW2]; exact al_below _ _
  have C2 := of1 X W2 W1.heap.size (ht.kept (b1.trans (b2.mono b1.size))) (by rw [hW2]; exact parts1 (s.kept b1)) hX
  have G2 : Hid (W2.heap[w.heap.size]? = some (.cells izc 57 (0, 0))) := (b2.block _ (by omega)).trans g1
  have B2 : Hid (Below w.heap.size w W2) := b1.trans (b2.mono b1.size)
  have L2 : Hid (w.heap.size < W2.heap.size) := by have := b2.size; unfold Hid; omega
  have HB : Hid (Tryd.prog.built 57 [(0, .int .u32 (Ro.rs X)), (1, .agg (u8c (Sh.Pl.sha X)))] = some (sumB X).cells.toArray) := builtF _ _ (Sh.sha_len _)
  have HI := sumB_ok X
  obtain ⟨a, c, rfl, -⟩ := id s
  have hw2 : W1.alloc (.cells #[.slice a X.length c] 22) = W2 := hW2.symm
  clear hW1 b1 s1 g1 b2 s ht hX hW2
  generalize sumB X = y at *
  generalize Ro.rs X = k at *
  generalize Sh.Pl.sha X = A at *
  generalize X.length = n at *
  unfold Sg.val
  go_enter Tryd.func45, Tryd.ntmps45
  go_wp2_with fail
  try rw [hwz]
  clear hwz
  refine C1.mono ?_
  rintro e w1 ⟨rfl, hq⟩
  replace hq := hq.symm
  subst hq
  clear C1
  go_wp2_with fail
  try rw [hw2]
  clear hw2
  refine C2.mono ?_
  rintro e w3 ⟨rfl, b3⟩
  clear C2
  have G3 : Hid (w3.heap[w.heap.size]? = some (.cells izc 57 (0, 0))) := (b3.block _ L2.out).trans G2.out
  have B3 : Hid (Below w.heap.size w w3) := B2.out.trans (b3.mono B2.out.size)
  clear b3 G2 B2 L2
  go_wp2_with (refine wpList_built rfl 57 [(0, _), (1, _)] rfl _ rfl y.cells.toArray HB.out (Hid.out ?_))
  unfold Hid
  go_wp2_with (refine wpList_store_row rfl 57 _ _ rfl w.heap.size y.cells.toArray rfl rfl 57 _ G3.out (Sg.info _ HI) (izc_size.trans (Sg.size _ HI).symm) (Sg.ones _) ?_)
  exact bodyPost_ret (v := y.val) (results_cell_row rfl _ _ w.heap.size 57 y.cells.toArray (0, 0) _ rfl (setRow_heap _ _ _ _ _ _ G3.out) Tryd.underlying57 rfl (Sg.info _ HI)) rfl ⟨rfl, below_setRow B3.out (Nat.le_refl _) _⟩
end Go.Proofs.YtlhmpcmlpfffoaaDoor
