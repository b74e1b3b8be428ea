/-
  What the document's block answers: the block worked into the state.
-/
import Derived.Deep.RegionHeld3
import Derived.Test.YtiollhmbdhepkaaGreatDoorYbt
import Derived.Test.YtiollhmbdhepkaaGreatDoorYbh
namespace Go.Proofs.YtiollhmbdhepkaaGreatDoor.Sh
open Go.RowKit
set_option maxRecDepth 100000

/-- Four rows that a call has laid: the fourth one is written. -/
def Q4 (B : Nat) (c0 c1 c2 c3 : Array Value) (w wr : World) : Prop :=
  wr.heap[B]? = some (.cells c0 192 (0, 0)) ∧ wr.heap[B + 1]? = some (.cells c1 195 (0, 0)) ∧ wr.heap[B + 1 + 1]? = some (.cells c2 192 (0, 0)) ∧ wr.heap[B + 1 + 1 + 1]? = some (.cells c3 195 (0, 0)) ∧ wr.heap.size = B + 1 + 1 + 1 + 1 ∧ Below B w wr
theorem Q4.set {B : Nat} {c0 c1 c2 c3 : Array Value} {w wr : World} (h : Q4 B c0 c1 c2 c3 w wr) (j : Nat) (v : Value) : Q4 B c0 c1 c2 (c3.setIfInBounds j v) w (wr.setCell ⟨B + 1 + 1 + 1, j, none⟩ v) :=
  ⟨(heap_setCell_other _ _ _ _ (by simp; omega)).trans h.1, (heap_setCell_other _ _ _ _ (by simp)).trans h.2.1, (heap_setCell_other _ _ _ _ (by simp)).trans h.2.2.1, heap_setCell_same _ _ _ _ _ _ h.2.2.2.1, by simpa [World.setCell] using h.2.2.2.2.1, h.2.2.2.2.2.setCell (by simp; omega) _⟩
theorem Q4.drewN {B : Nat} {c0 c1 c2 c3 : Array Value} {w wr : World} (h : Q4 B c0 c1 c2 c3 w wr) (m : Nat) : Q4 B c0 c1 c2 c3 w (wr.drewN m) :=
  ⟨h.1, h.2.1, h.2.2.1, h.2.2.2.1, h.2.2.2.2.1, ⟨h.2.2.2.2.2.os, h.2.2.2.2.2.tape, h.2.2.2.2.2.output, h.2.2.2.2.2.size, h.2.2.2.2.2.block⟩⟩
theorem Q4.cell {B : Nat} {c0 c1 c2 c3 : Array Value} {w wr : World} (h : Q4 B c0 c1 c2 c3 w wr) (j : Nat) : wr.cell? ⟨B + 1 + 1 + 1, j, none⟩ = c3[j]? := cell_of_row _ _ _ _ _ _ h.2.2.2.1
theorem Q4.frozen {B : Nat} {c0 c1 c2 c3 : Array Value} {w wr : World} (h : Q4 B c0 c1 c2 c3 w wr) (j : Nat) : wr.frozen? ⟨B + 1 + 1 + 1, j, none⟩ = false := frozen_of_row _ _ _ _ _ h.2.2.2.1
theorem Q4.four (w : World) (c0 c1 c2 c3 : Array Value) : Q4 w.heap.size c0 c1 c2 c3 w ((((w.alloc (.cells c0 192)).alloc (.cells c1 195)).alloc (.cells c2 192)).alloc (.cells c3 195)) := by
  have hs1 : (w.alloc (.cells c0 192)).heap.size = w.heap.size + 1 := by show (w.heap.push _).size = _; simp
  have hs2 : ((w.alloc (.cells c0 192)).alloc (.cells c1 195)).heap.size = w.heap.size + 1 + 1 := by show ((w.heap.push _).push _).size = _; simp
  have hs3 : (((w.alloc (.cells c0 192)).alloc (.cells c1 195)).alloc (.cells c2 192)).heap.size = w.heap.size + 1 + 1 + 1 := by show (((w.heap.push _).push _).push _).size = _; simp
  refine ⟨?_, ?_, ?_, ?_, by show ((((w.heap.push _).push _).push _).push _).size = _; simp, ((((Below.refl _ _).alloc (Nat.le_refl _) _).alloc (by omega) _).alloc (by omega) _).alloc (by omega) _⟩
  · rw [Below.heap_alloc _ _ _ (by omega), Below.heap_alloc _ _ _ (by omega), Below.heap_alloc _ _ _ (by omega)]; exact heap_alloc_new _ _
  · rw [Below.heap_alloc _ _ _ (by omega), Below.heap_alloc _ _ _ (by omega), ← hs1]; exact heap_alloc_new _ _
  · rw [Below.heap_alloc _ _ _ (by omega), ← hs2]; exact heap_alloc_new _ _
  · rw [← hs3]; exact heap_alloc_new _ _

/-- The rows behind the words' loop. -/
def Lp (B V : Nat) (c0 c1 c3 cv : Array Value) (w wr : World) : Prop :=
  wr.heap[B]? = some (.cells c0 192 (0, 0)) ∧ wr.heap[B + 1]? = some (.cells c1 195 (0, 0)) ∧ wr.heap[B + 1 + 1]? = some (.cells (u32s (List.replicate 8 0)) 192 (0, 0)) ∧ wr.heap[B + 1 + 1 + 1]? = some (.cells c3 195 (0, 0)) ∧ wr.heap[V]? = some (.cells cv 192 (0, 0)) ∧ Below B w wr

theorem Lp.setV {B V : Nat} {c0 c1 c3 cv : Array Value} {w wr : World} (h : Lp B V c0 c1 c3 cv w wr) (hV : V = B + 1 + 1 + 1 + 1) (n : Nat) (cs : Array Value) : Lp B V c0 c1 c3 cs w ((wr.drewN n).setRow V cs) := by
  obtain ⟨h0, h1, h2, h3, h4, h5⟩ := h
  exact ⟨(setRow_other _ _ _ _ (by omega)).trans h0, (setRow_other _ _ _ _ (by omega)).trans h1, (setRow_other _ _ _ _ (by omega)).trans h2, (setRow_other _ _ _ _ (by omega)).trans h3, setRow_heap _ _ _ _ _ _ h4, below_setRow (w := wr.drewN n) ⟨h5.os, h5.tape, h5.output, h5.size, h5.block⟩ (show B ≤ V by omega) _⟩
theorem Lp.setB {B V : Nat} {c0 c1 c3 cv : Array Value} {w wr : World} (h : Lp B V c0 c1 c3 cv w wr) (hV : V = B + 1 + 1 + 1 + 1) (j : Nat) (v : Value) : Lp B V (c0.setIfInBounds j v) c1 c3 cv w (wr.setCell ⟨B, j, none⟩ v).drew := by
  obtain ⟨h0, h1, h2, h3, h4, h5⟩ := h
  exact ⟨heap_setCell_same _ _ _ _ _ _ h0, (heap_setCell_other _ _ _ _ (by simp)).trans h1, (heap_setCell_other _ _ _ _ (by simp; omega)).trans h2, (heap_setCell_other _ _ _ _ (by simp; omega)).trans h3, (heap_setCell_other _ _ _ _ (by simp; omega)).trans h4, (h5.setCell (by simp) _).drew⟩

set_option maxHeartbeats 4000000 in
set_option maxRecDepth 100000 in
theorem rblock_any (s : Pl.S8) (v : Value) (xs : List Int) (w : World) (hs : Pl.ok s) (sl : Sl w v xs) (hl : xs.length = 64) :
    Calls Tryz.prog 139 #[.agg (u32s (Pl.words s)), v, .agg (u32s Pl.K)] w fun e w' => e = .returned (.agg (u32s (Pl.words (Pl.comp s xs)))) ∧ Below w.heap.size w w' := by
  have hby : Pl.Byt xs := sl.bytes
  obtain ⟨a, cap, rfl, h1, h2, h3, h4⟩ := sl
  rw [hl] at h1 h4 ⊢
  rcases h4 with h4 | ⟨-, b, off, rfl, -, -, hcell, -⟩
  · omega
  have hlt : b < w.heap.size := World.block_lt_of_cell? _ _ (hcell 0 (by omega))
  have HBL : Hid (b < w.heap.size) := hlt
  have HC : Hid (∀ i, i < 64 → w.cell? ⟨b, off + i, none⟩ = some (.int .u8 ((xs.getD i 0).toNat : Int))) := fun i hi => by
    rw [hcell i hi, Int.toNat_of_nonneg (hby i).1]
  have HB : Hid (∀ i, (xs.getD i 0).toNat < 256) := fun i => by have := hby i; omega
  obtain ⟨W, hW⟩ : ∃ W, W = Pl.sched xs := ⟨_, rfl⟩
  have HLW : Hid (W.length = 64) := by unfold Hid; rw [hW, Pl.sched_len]
  have HW1 : Hid (∀ i, i < 16 → W.getD i 0 = Pl.word xs i) := fun i hi => by rw [hW, Pl.sched_word _ _ hi]
  have HW2 : Hid (∀ i, 16 ≤ i → i < 64 → W.getD i 0 = Pl.nxt W i) := fun i h0 h1 => by rw [hW, Pl.sched_nxt _ _ h0 h1]
  have HWL : Hid (∀ i, W.getD i 0 < 4294967296) := fun i => by rw [hW]; exact Pl.sched_lt hby i
  have HX : Hid (Pl.comp s xs = Pl.add s (Pl.rnd Pl.K W s 64)) := by unfold Hid; rw [hW]; rfl
  have HOK : Hid (Pl.ok s) := hs
  have HKL : Hid (Pl.K.length = 64) := rfl
  have HKI : Hid (∀ i, Pl.K.getD i 0 < 4294967296) := Pl.K_lt
  have hcm : cap ≤ 9223372036854775807 := by unfold maxLen at h2; omega
  obtain ⟨U, hU⟩ : ∃ U, U = u32s (Pl.words s) := ⟨_, rfl⟩
  have HU : Hid (U = u32s (Pl.words s)) := hU
  rw [← hU]
  obtain ⟨KK, hKK⟩ : ∃ KK, KK = u32s Pl.K := ⟨_, rfl⟩
  have HKK : Hid (KK = u32s Pl.K) := hKK
  rw [← hKK]
  clear hW hcell hby h2 h3 hU hKK hs hlt
  go_enter Tryz.func139, Tryz.ntmps139
  go_wp2
  go_loopw [8] (fun i wr => ∃ j : Nat, j ≤ 64 ∧ i = .int .i64 j ∧ Q4 w.heap.size U KK (u32s (List.replicate 8 0)) (u32s (Pl.part W j)) w wr) (fun i _ => 64 - (intOf i).toNat)
  case atStart =>
    refine ⟨0, by omega, rfl, ?_⟩
    rw [Pl.part_zero, HLW.out]
    exact Q4.four w _ _ _ _
  case round =>
    obtain ⟨j, hj, rfl, g⟩ := hrel
    have G : Hid (Q4 w.heap.size U KK (u32s (List.replicate 8 0)) (u32s (Pl.part W j)) w wr) := g
    clear g
    by_cases hlt : j < 64
    · have lt2 : (j : Int) < 64 := by omega
      have kf := G.out.frozen j
      have kc := (G.out.cell j).trans (u32s_get _ j (by rw [Pl.part_len, HLW.out]; omega))
      have NS : Hid (∀ (z : Int) (m : Nat), z = ((W.getD j 0 : Nat) : Int) → Q4 w.heap.size U KK (u32s (List.replicate 8 0)) (u32s (Pl.part W (j + 1))) w ((wr.drewN m).setCell ⟨w.heap.size + 1 + 1 + 1, j, none⟩ (.int .u32 z))) := by
        rintro z m rfl
        have := (G.out.drewN m).set j (.int .u32 (W.getD j 0 : Nat))
        rwa [u32s_set, Pl.part_set _ _ (by rw [HLW.out]; omega)] at this
      generalize (Pl.part W j).getD j 0 = old at *
      by_cases hl16 : j < 16
      · have lt3 : (j : Int) < 16 := by omega
        have k0 := (G.out.2.2.2.2.2.cell (p := ⟨b, off + 4 * j, none⟩) HBL.out).trans (HC.out (4 * j) (by omega))
        have k1 := (G.out.2.2.2.2.2.cell (p := ⟨b, off + (4 * j + 1), none⟩) HBL.out).trans (HC.out (4 * j + 1) (by omega))
        have k2 := (G.out.2.2.2.2.2.cell (p := ⟨b, off + (4 * j + 2), none⟩) HBL.out).trans (HC.out (4 * j + 2) (by omega))
        have k3 := (G.out.2.2.2.2.2.cell (p := ⟨b, off + (4 * j + 3), none⟩) HBL.out).trans (HC.out (4 * j + 3) (by omega))
        have hwd := word4 _ _ _ _ (HB.out (4 * j)) (HB.out (4 * j + 1)) (HB.out (4 * j + 2)) (HB.out (4 * j + 3))
        have hws : W.getD j 0 = (xs.getD (4 * j) 0).toNat * 16777216 ||| (xs.getD (4 * j + 1) 0).toNat * 65536 ||| (xs.getD (4 * j + 2) 0).toNat * 256 ||| (xs.getD (4 * j + 3) 0).toNat := HW1.out j hl16
        rw [← hws] at hwd
        clear hws
        have b0 := HB.out (4 * j)
        have b1 := HB.out (4 * j + 1)
        have b2 := HB.out (4 * j + 2)
        have b3 := HB.out (4 * j + 3)
        generalize (xs.getD (4 * j) 0).toNat = z0 at *
        generalize (xs.getD (4 * j + 1) 0).toNat = z1 at *
        generalize (xs.getD (4 * j + 2) 0).toNat = z2 at *
        generalize (xs.getD (4 * j + 3) 0).toNat = z3 at *
        generalize W.getD j 0 = q at *
        have q0 : IntKind.i64.wrap (4 * (j : Int)) = ((4 * j : Nat) : Int) := by simp [IntKind.wrap, IntKind.bits, IntKind.signed]; omega
        have q1 : IntKind.i64.wrap (((4 * j : Nat) : Int) + 1) = ((4 * j + 1 : Nat) : Int) := by simp [IntKind.wrap, IntKind.bits, IntKind.signed]; omega
        have q2 : IntKind.i64.wrap (((4 * j : Nat) : Int) + 2) = ((4 * j + 2 : Nat) : Int) := by simp [IntKind.wrap, IntKind.bits, IntKind.signed]; omega
        have q3 : IntKind.i64.wrap (((4 * j : Nat) : Int) + 3) = ((4 * j + 3 : Nat) : Int) := by simp [IntKind.wrap, IntKind.bits, IntKind.signed]; omega
        have t0 : ((4 * j : Nat) : Int) < 64 := by omega
        have t1 : ((4 * j + 1 : Nat) : Int) < 64 := by omega
        have t2 : ((4 * j + 2 : Nat) : Int) < 64 := by omega
        have t3 : ((4 * j + 3 : Nat) : Int) < 64 := by omega
        generalize 4 * j + 1 = m1 at *
        generalize 4 * j + 2 = m2 at *
        generalize 4 * j + 3 = m3 at *
        generalize 4 * j = m0 at *
        clear h1
        go_wp2_with fail
        go_region
        go_wp2
        exact ⟨⟨j + 1, by omega, by go_num, NS.out _ 1 rfl⟩, by simp [intOf]; omega⟩
      · have lt3 : ¬ (j : Int) < 16 := by omega
        have get : ∀ i, i < j → wr.cell? ⟨w.heap.size + 1 + 1 + 1, i, none⟩ = some (.int .u32 (W.getD i 0 : Nat)) := fun i hi => by
          rw [G.out.cell i, u32s_get _ i (by rw [Pl.part_len, HLW.out]; omega), Pl.part_get _ _ _ hi (by rw [HLW.out]; omega)]
        have k2 := get (j - 2) (by omega)
        have k15 := get (j - 15) (by omega)
        have k7 := get (j - 7) (by omega)
        have k16 := get (j - 16) (by omega)
        have hn : W.getD j 0 = (Pl.sig1 (W.getD (j - 2) 0) + W.getD (j - 7) 0 + Pl.sig0 (W.getD (j - 15) 0) + W.getD (j - 16) 0) % 4294967296 := HW2.out j (by omega) hlt
        have b2 := HWL.out (j - 2)
        have b15 := HWL.out (j - 15)
        have b7 := HWL.out (j - 7)
        have b16 := HWL.out (j - 16)
        clear get
        generalize W.getD (j - 2) 0 = x2 at *
        generalize W.getD (j - 15) 0 = x15 at *
        generalize W.getD (j - 7) 0 = x7 at *
        generalize W.getD (j - 16) 0 = x16 at *
        have n1 := u32_xor_nat (Pl.rotr 17 x2) (Pl.rotr 19 x2) (Pl.rotr_lt _ _ b2) (Pl.rotr_lt _ _ b2)
        have n2 := u32_xor_nat (Pl.rotr 17 x2 ^^^ Pl.rotr 19 x2) (x2 / 1024) (Pl.xor_lt (Pl.rotr_lt _ _ b2) (Pl.rotr_lt _ _ b2)) (by omega)
        rw [show Pl.rotr 17 x2 ^^^ Pl.rotr 19 x2 ^^^ x2 / 1024 = Pl.sig1 x2 from rfl, Int.natCast_ediv, show ((1024 : Nat) : Int) = 1024 from rfl] at n2
        have f1 := u32_xor_nat (Pl.rotr 7 x15) (Pl.rotr 18 x15) (Pl.rotr_lt _ _ b15) (Pl.rotr_lt _ _ b15)
        have f2 := u32_xor_nat (Pl.rotr 7 x15 ^^^ Pl.rotr 18 x15) (x15 / 8) (Pl.xor_lt (Pl.rotr_lt _ _ b15) (Pl.rotr_lt _ _ b15)) (by omega)
        rw [show Pl.rotr 7 x15 ^^^ Pl.rotr 18 x15 ^^^ x15 / 8 = Pl.sig0 x15 from rfl, Int.natCast_ediv, show ((8 : Nat) : Int) = 8 from rfl] at f2
        have c1 : ∀ w', Calls Tryz.prog 154 #[.int .u32 x15, .int .i64 7] w' _ := fun w' => rturn_any 7 x15 w' (by omega) (by omega) b15
        have c2 : ∀ w', Calls Tryz.prog 154 #[.int .u32 x15, .int .i64 18] w' _ := fun w' => rturn_any 18 x15 w' (by omega) (by omega) b15
        have c3 : ∀ w', Calls Tryz.prog 154 #[.int .u32 x2, .int .i64 17] w' _ := fun w' => rturn_any 17 x2 w' (by omega) (by omega) b2
        have c4 : ∀ w', Calls Tryz.prog 154 #[.int .u32 x2, .int .i64 19] w' _ := fun w' => rturn_any 19 x2 w' (by omega) (by omega) b2
        generalize Pl.rotr 17 x2 ^^^ Pl.rotr 19 x2 = y1 at *
        generalize Pl.rotr 7 x15 ^^^ Pl.rotr 18 x15 = y2 at *
        generalize Pl.rotr 17 x2 = r17 at *
        generalize Pl.rotr 19 x2 = r19 at *
        generalize Pl.rotr 7 x15 = r7 at *
        generalize Pl.rotr 18 x15 = r18 at *
        generalize Pl.sig1 x2 = g1 at *
        generalize Pl.sig0 x15 = g0 at *
        have HN : Hid (W.getD j 0 = (g1 + x7 + g0 + x16) % 4294967296) := hn
        clear hn
        generalize W.getD j 0 = q at *
        have C1 : Hid (∀ w', Calls Tryz.prog 154 #[.int .u32 x15, .int .i64 7] w' fun e w1 => e = .returned (.int .u32 (r7 : Nat)) ∧ ∃ m, w1 = w'.drewN m) := c1
        have C2 : Hid (∀ w', Calls Tryz.prog 154 #[.int .u32 x15, .int .i64 18] w' fun e w1 => e = .returned (.int .u32 (r18 : Nat)) ∧ ∃ m, w1 = w'.drewN m) := c2
        have C3 : Hid (∀ w', Calls Tryz.prog 154 #[.int .u32 x2, .int .i64 17] w' fun e w1 => e = .returned (.int .u32 (r17 : Nat)) ∧ ∃ m, w1 = w'.drewN m) := c3
        have C4 : Hid (∀ w', Calls Tryz.prog 154 #[.int .u32 x2, .int .i64 19] w' fun e w1 => e = .returned (.int .u32 (r19 : Nat)) ∧ ∃ m, w1 = w'.drewN m) := c4
        clear c1 c2 c3 c4
        have q2 : IntKind.i64.wrap ((j : Int) - 2) = ((j - 2 : Nat) : Int) := by simp [IntKind.wrap, IntKind.bits, IntKind.signed]; omega
        have t2 : ((j - 2 : Nat) : Int) < 64 := by omega
        have t2' : j - 2 < 64 := by omega
        generalize j - 2 = a2 at *
        have q15 : IntKind.i64.wrap ((j : Int) - 15) = ((j - 15 : Nat) : Int) := by simp [IntKind.wrap, IntKind.bits, IntKind.signed]; omega
        have t15 : ((j - 15 : Nat) : Int) < 64 := by omega
        have t15' : j - 15 < 64 := by omega
        generalize j - 15 = a15 at *
        have l7 : j - 7 < j := by omega
        have q7 : IntKind.i64.wrap ((j : Int) - 7) = ((j - 7 : Nat) : Int) := by simp [IntKind.wrap, IntKind.bits, IntKind.signed]; omega
        have t7 : ((j - 7 : Nat) : Int) < 64 := by omega
        have t7' : j - 7 < 64 := by omega
        generalize j - 7 = a7 at *
        have l16 : j - 16 < j := by omega
        have q16 : IntKind.i64.wrap ((j : Int) - 16) = ((j - 16 : Nat) : Int) := by simp [IntKind.wrap, IntKind.bits, IntKind.signed]; omega
        have t16 : ((j - 16 : Nat) : Int) < 64 := by omega
        have t16' : j - 16 < 64 := by omega
        generalize j - 16 = a16 at *
        have ne16 : (⟨w.heap.size + 1 + 1 + 1, j, none⟩ : Addr) ≠ ⟨w.heap.size + 1 + 1 + 1, a16, none⟩ := by intro h; injection h with _ h2 _; omega
        have ne7 : (⟨w.heap.size + 1 + 1 + 1, j, none⟩ : Addr) ≠ ⟨w.heap.size + 1 + 1 + 1, a7, none⟩ := by intro h; injection h with _ h2 _; omega
        clear h1 l16 l7
        go_wp2_with fail
        go_region
        go_wp2_with fail
        go_region_held3 (fun x => x.cell? ⟨w.heap.size + 1 + 1 + 1, a16, none⟩ = some (.int .u32 x16) ∧ x.cell? ⟨w.heap.size + 1 + 1 + 1, a7, none⟩ = some (.int .u32 x7)) (first | exact ⟨k16, k7⟩ | (simp; exact ⟨k16, k7⟩) | exact ⟨(World.cell?_setCell_other _ _ _ _ ne16).trans k16, (World.cell?_setCell_other _ _ _ _ ne7).trans k7⟩) (first
          | (go_at_call_of 154 (Value.int IntKind.i64 7); refine (C1.out _).mono ?_; rintro e w1 ⟨rfl, m1, e1⟩; subst e1)
          | (go_at_call_of 154 (Value.int IntKind.i64 18); refine (C2.out _).mono ?_; rintro e w1 ⟨rfl, m2, e1⟩; subst e1)
          | (go_at_call_of 154 (Value.int IntKind.i64 17); refine (C3.out _).mono ?_; rintro e w1 ⟨rfl, m3, e1⟩; subst e1)
          | (go_at_call_of 154 (Value.int IntKind.i64 19); refine (C4.out _).mono ?_; rintro e w1 ⟨rfl, m4, e1⟩; subst e1))
        go_wp2
        exact ⟨⟨j + 1, by omega, by go_num, NS.out _ _ (by first | (rw [HN.out]; omega) | (simp only [wrap32]; rw [HN.out]; omega))⟩, by simp [intOf]; omega⟩
    · obtain rfl : j = 64 := by omega
      obtain ⟨g0, g1, g2, g3, gs, gb⟩ := G.out
      rw [show Pl.part W 64 = W by rw [← HLW.out]; exact Pl.part_all W] at g3
      have G0 : Hid (wr.heap[w.heap.size]? = some (.cells U 192 (0, 0))) := g0
      have HI : Hid ((Tryz.prog.info? 192).map (·.size) = some U.size) := by unfold Hid; rw [HU.out]; exact size47
      have HO : Hid (U.all (·.oneCell') = true) := by unfold Hid; rw [HU.out]; exact u32s_one _
      have HZ : Hid (U.size = 8) := by unfold Hid; rw [HU.out]; rfl
      have GA : Hid (wr.heap[w.heap.size + 1]? = some (.cells KK 195 (0, 0)) ∧ wr.heap[w.heap.size + 1 + 1]? = some (.cells (u32s (List.replicate 8 0)) 192 (0, 0)) ∧ wr.heap[w.heap.size + 1 + 1 + 1]? = some (.cells (u32s W) 195 (0, 0)) ∧ wr.heap.size = w.heap.size + 1 + 1 + 1 + 1 ∧ Below w.heap.size w wr) := ⟨g1, g2, g3, gs, gb⟩
      clear g0 g1 g2 g3 gs gb G h1
      go_wp2_with (first
        | refine wpList_load_row rfl 192 _ rfl w.heap.size rfl 192 U (0, 0) _ G0.out Tryz.underlying192 rfl HI.out ?_
        | (refine wpList_store_row rfl 192 _ _ rfl wr.heap.size U rfl rfl 192 _ (heap_alloc_new _ _) HI.out (by rw [HZ.out]; rfl) HO.out ?_; rw [World.setRow_alloc_new]; obtain ⟨w2, hw2⟩ : ∃ w2, w2 = wr.alloc (.cells U 192) := ⟨_, rfl⟩; rw [← hw2]; have HW2 : Hid (w2 = wr.alloc (.cells U 192)) := hw2; clear hw2))
      obtain ⟨V, hV⟩ : ∃ V, V = wr.heap.size := ⟨_, rfl⟩
      have HVe : Hid (V = w.heap.size + 1 + 1 + 1 + 1) := by unfold Hid; rw [hV]; exact GA.out.2.2.2.1
      have L0 : Hid (Lp w.heap.size V U KK (u32s W) U w w2) := by
        unfold Hid
        rw [HW2.out]
        have hs := GA.out.2.2.2.1
        refine ⟨?_, ?_, ?_, ?_, ?_, GA.out.2.2.2.2.alloc (by omega) _⟩
        · rw [Below.heap_alloc _ _ _ (by omega)]; exact G0.out
        · rw [Below.heap_alloc _ _ _ (by omega)]; exact GA.out.1
        · rw [Below.heap_alloc _ _ _ (by omega)]; exact GA.out.2.1
        · rw [Below.heap_alloc _ _ _ (by omega)]; exact GA.out.2.2.1
        · rw [hV]; exact heap_alloc_new _ _
      rw [← hV]
      clear hV HW2 GA G0 HI HO HZ
      go_loopw [12] (fun i wq => ∃ (j : Nat) (r : Pl.S8), j ≤ 64 ∧ r = Pl.rnd Pl.K W s j ∧ i = .int .i64 j ∧ Lp w.heap.size V U KK (u32s W) (u32s (Pl.words r)) w wq) (fun i _ => 64 - (intOf i).toNat)
      case atStart => exact ⟨0, s, by omega, rfl, rfl, by rw [← HU.out]; exact L0.out⟩
      case round =>
        clear L0
        obtain ⟨j, ⟨a, b', c, d, e, f, g, h8⟩, hj, hr, rfl, lp⟩ := hrel
        have HR : Hid (Pl.S8.mk a b' c d e f g h8 = Pl.rnd Pl.K W s j) := hr
        have LP : Hid (Lp w.heap.size V U KK (u32s W) (u32s [a, b', c, d, e, f, g, h8]) w wr) := lp
        have okr := Pl.ok_rnd (K := Pl.K) (W := W) HOK.out j
        rw [← hr] at okr
        obtain ⟨oa, ob, oc, od, oe, of, og, oh⟩ := okr
        dsimp only at oa ob oc od oe of og oh
        clear hr lp
        by_cases hlt : j < 64
        · have lt2 : (j : Int) < 64 := by omega
          have v0 : wr.cell? ⟨V, 0, none⟩ = some (.int .u32 a) := cell_of_row _ _ 0 _ _ _ LP.out.2.2.2.2.1
          have v1 : wr.cell? ⟨V, 1, none⟩ = some (.int .u32 b') := cell_of_row _ _ 1 _ _ _ LP.out.2.2.2.2.1
          have v2 : wr.cell? ⟨V, 2, none⟩ = some (.int .u32 c) := cell_of_row _ _ 2 _ _ _ LP.out.2.2.2.2.1
          have v3 : wr.cell? ⟨V, 3, none⟩ = some (.int .u32 d) := cell_of_row _ _ 3 _ _ _ LP.out.2.2.2.2.1
          have v4 : wr.cell? ⟨V, 4, none⟩ = some (.int .u32 e) := cell_of_row _ _ 4 _ _ _ LP.out.2.2.2.2.1
          have v5 : wr.cell? ⟨V, 5, none⟩ = some (.int .u32 f) := cell_of_row _ _ 5 _ _ _ LP.out.2.2.2.2.1
          have v6 : wr.cell? ⟨V, 6, none⟩ = some (.int .u32 g) := cell_of_row _ _ 6 _ _ _ LP.out.2.2.2.2.1
          have v7 : wr.cell? ⟨V, 7, none⟩ = some (.int .u32 h8) := cell_of_row _ _ 7 _ _ _ LP.out.2.2.2.2.1
          have k1 : wr.cell? ⟨w.heap.size + 1, j, none⟩ = some (.int .u32 (Pl.K.getD j 0 : Nat)) := by
            rw [cell_of_row _ _ j _ _ _ LP.out.2.1, HKK.out]
            exact u32s_get _ j (by rw [HKL.out]; exact hlt)
          have k2 : wr.cell? ⟨w.heap.size + 1 + 1 + 1, j, none⟩ = some (.int .u32 (W.getD j 0 : Nat)) := by
            rw [cell_of_row _ _ j _ _ _ LP.out.2.2.2.1]
            exact u32s_get _ j (by rw [HLW.out]; exact hlt)
          have t6 := fun w' => rturn_any 6 e w' (by omega) (by omega) oe
          have t11 := fun w' => rturn_any 11 e w' (by omega) (by omega) oe
          have t25 := fun w' => rturn_any 25 e w' (by omega) (by omega) oe
          have t2 := fun w' => rturn_any 2 a w' (by omega) (by omega) oa
          have t13 := fun w' => rturn_any 13 a w' (by omega) (by omega) oa
          have t22 := fun w' => rturn_any 22 a w' (by omega) (by omega) oa
          have x1 := chs e f g oe of og
          have x2 := majs a b' c oa ob oc
          have y1 := u32_xor_nat (Pl.rotr 6 e) (Pl.rotr 11 e) (Pl.rotr_lt _ _ oe) (Pl.rotr_lt _ _ oe)
          have y2 := u32_xor_nat (Pl.rotr 6 e ^^^ Pl.rotr 11 e) (Pl.rotr 25 e) (Pl.xor_lt (Pl.rotr_lt _ _ oe) (Pl.rotr_lt _ _ oe)) (Pl.rotr_lt _ _ oe)
          rw [show Pl.rotr 6 e ^^^ Pl.rotr 11 e ^^^ Pl.rotr 25 e = Pl.tri 6 11 25 e from rfl] at y2
          have y3 := u32_xor_nat (Pl.rotr 2 a) (Pl.rotr 13 a) (Pl.rotr_lt _ _ oa) (Pl.rotr_lt _ _ oa)
          have y4 := u32_xor_nat (Pl.rotr 2 a ^^^ Pl.rotr 13 a) (Pl.rotr 22 a) (Pl.xor_lt (Pl.rotr_lt _ _ oa) (Pl.rotr_lt _ _ oa)) (Pl.rotr_lt _ _ oa)
          rw [show Pl.rotr 2 a ^^^ Pl.rotr 13 a ^^^ Pl.rotr 22 a = Pl.tri 2 13 22 a from rfl] at y4
          have HN : Hid (Pl.rnd Pl.K W s (j + 1) = ⟨((h8 + Pl.tri 6 11 25 e + Pl.ch e f g + Pl.K.getD j 0 + W.getD j 0) % 4294967296 + (Pl.tri 2 13 22 a + Pl.maj a b' c) % 4294967296) % 4294967296, a, b', c, (d + (h8 + Pl.tri 6 11 25 e + Pl.ch e f g + Pl.K.getD j 0 + W.getD j 0) % 4294967296) % 4294967296, e, f, g⟩) := by
            show Pl.step _ _ (Pl.rnd Pl.K W s j) = _
            rw [← HR.out]; rfl
          clear HR
          generalize Pl.K.getD j 0 = kj at *
          generalize W.getD j 0 = wj at *
          generalize Pl.ch e f g = q1 at *
          generalize Pl.maj a b' c = q2 at *
          generalize Pl.tri 6 11 25 e = q3 at *
          generalize Pl.tri 2 13 22 a = q4 at *
          generalize Pl.rotr 6 e ^^^ Pl.rotr 11 e = r611 at *
          generalize Pl.rotr 2 a ^^^ Pl.rotr 13 a = r213 at *
          generalize Pl.rotr 6 e = r6 at *
          generalize Pl.rotr 11 e = r11 at *
          generalize Pl.rotr 25 e = r25 at *
          generalize Pl.rotr 2 a = r2 at *
          generalize Pl.rotr 13 a = r13 at *
          generalize Pl.rotr 22 a = r22 at *
          have T6 : Hid (∀ w', Calls Tryz.prog 154 #[.int .u32 e, .int .i64 6] w' fun x y => x = .returned (.int .u32 (r6 : Nat)) ∧ ∃ m, y = w'.drewN m) := t6
          have T11 : Hid (∀ w', Calls Tryz.prog 154 #[.int .u32 e, .int .i64 11] w' fun x y => x = .returned (.int .u32 (r11 : Nat)) ∧ ∃ m, y = w'.drewN m) := t11
          have T25 : Hid (∀ w', Calls Tryz.prog 154 #[.int .u32 e, .int .i64 25] w' fun x y => x = .returned (.int .u32 (r25 : Nat)) ∧ ∃ m, y = w'.drewN m) := t25
          have T2 : Hid (∀ w', Calls Tryz.prog 154 #[.int .u32 a, .int .i64 2] w' fun x y => x = .returned (.int .u32 (r2 : Nat)) ∧ ∃ m, y = w'.drewN m) := t2
          have T13 : Hid (∀ w', Calls Tryz.prog 154 #[.int .u32 a, .int .i64 13] w' fun x y => x = .returned (.int .u32 (r13 : Nat)) ∧ ∃ m, y = w'.drewN m) := t13
          have T22 : Hid (∀ w', Calls Tryz.prog 154 #[.int .u32 a, .int .i64 22] w' fun x y => x = .returned (.int .u32 (r22 : Nat)) ∧ ∃ m, y = w'.drewN m) := t22
          clear t6 t11 t25 t2 t13 t22
          go_wp2_with fail
          go_quiet (fail)
          go_wp2_with fail
          go_quiet ((first
            | (go_at_call_of 154 (Value.int IntKind.i64 6); first | exact quiet_of (T6.out _) | (refine (T6.out _).mono ?_; rintro x y ⟨rfl, m, rfl⟩; refine ⟨rfl, ?_⟩; simp only [World.drewN_drewN]; exact ⟨_, by rw [Nat.add_assoc]⟩))
            | (go_at_call_of 154 (Value.int IntKind.i64 11); first | exact quiet_of (T11.out _) | (refine (T11.out _).mono ?_; rintro x y ⟨rfl, m, rfl⟩; refine ⟨rfl, ?_⟩; simp only [World.drewN_drewN]; exact ⟨_, by rw [Nat.add_assoc]⟩))
            | (go_at_call_of 154 (Value.int IntKind.i64 25); first | exact quiet_of (T25.out _) | (refine (T25.out _).mono ?_; rintro x y ⟨rfl, m, rfl⟩; refine ⟨rfl, ?_⟩; simp only [World.drewN_drewN]; exact ⟨_, by rw [Nat.add_assoc]⟩))))
          go_wp2_with fail
          go_quiet ((first
            | (go_at_call_of 154 (Value.int IntKind.i64 2); first | exact quiet_of (T2.out _) | (refine (T2.out _).mono ?_; rintro x y ⟨rfl, m, rfl⟩; refine ⟨rfl, ?_⟩; simp only [World.drewN_drewN]; exact ⟨_, by rw [Nat.add_assoc]⟩))
            | (go_at_call_of 154 (Value.int IntKind.i64 13); first | exact quiet_of (T13.out _) | (refine (T13.out _).mono ?_; rintro x y ⟨rfl, m, rfl⟩; refine ⟨rfl, ?_⟩; simp only [World.drewN_drewN]; exact ⟨_, by rw [Nat.add_assoc]⟩))
            | (go_at_call_of 154 (Value.int IntKind.i64 22); first | exact quiet_of (T22.out _) | (refine (T22.out _).mono ?_; rintro x y ⟨rfl, m, rfl⟩; refine ⟨rfl, ?_⟩; simp only [World.drewN_drewN]; exact ⟨_, by rw [Nat.add_assoc]⟩))))
          go_wp2_with (refine wpList_store_row rfl 192 _ _ rfl V _ rfl rfl 192 _ LP.out.2.2.2.2.1 size47 (by rw [u32s_size]; rfl) (by refine all_oneCell_toArray (fun v hv => ?_); simp at hv; rcases hv with h | h | h | h | h | h | h | h <;> (rw [h]; rfl)) (Hid.out ?_))
          unfold Hid
          have ee : ∀ (A0 A4 : Int), A0 = ((((h8 + q3 + q1 + kj + wj) % 4294967296 + (q4 + q2) % 4294967296) % 4294967296 : Nat) : Int) → A4 = (((d + (h8 + q3 + q1 + kj + wj) % 4294967296) % 4294967296 : Nat) : Int) → (#[.int .u32 A0, .int .u32 a, .int .u32 b', .int .u32 c, .int .u32 A4, .int .u32 e, .int .u32 f, .int .u32 g] : Array Value) = u32s (Pl.words ⟨((h8 + q3 + q1 + kj + wj) % 4294967296 + (q4 + q2) % 4294967296) % 4294967296, a, b', c, (d + (h8 + q3 + q1 + kj + wj) % 4294967296) % 4294967296, e, f, g⟩) := by
            rintro A0 A4 rfl rfl
            rfl
          have HEE : Hid (∀ (A0 A4 : Int), A0 = ((((h8 + q3 + q1 + kj + wj) % 4294967296 + (q4 + q2) % 4294967296) % 4294967296 : Nat) : Int) → A4 = (((d + (h8 + q3 + q1 + kj + wj) % 4294967296) % 4294967296 : Nat) : Int) → (#[.int .u32 A0, .int .u32 a, .int .u32 b', .int .u32 c, .int .u32 A4, .int .u32 e, .int .u32 f, .int .u32 g] : Array Value) = u32s (Pl.words ⟨((h8 + q3 + q1 + kj + wj) % 4294967296 + (q4 + q2) % 4294967296) % 4294967296, a, b', c, (d + (h8 + q3 + q1 + kj + wj) % 4294967296) % 4294967296, e, f, g⟩)) := ee
          clear ee
          go_wp2
          refine ⟨⟨j + 1, _, by omega, HN.out.symm, by go_num, ?_⟩, by simp [intOf]; omega⟩
          rw [HEE.out _ _ (by omega) (by omega)]
          exact LP.out.setV HVe.out _ _
        · obtain rfl : j = 64 := by omega
          have HC2 : Hid (Pl.words (Pl.comp s xs) = Pl.words (Pl.add s ⟨a, b', c, d, e, f, g, h8⟩)) := by unfold Hid; rw [HX.out, HR.out]
          have HW' : Hid (Pl.words ⟨a, b', c, d, e, f, g, h8⟩ = [a, b', c, d, e, f, g, h8]) := rfl
          have HA : Hid (∀ i, i < 8 → (Pl.words (Pl.comp s xs)).getD i 0 = ((Pl.words s).getD i 0 + [a, b', c, d, e, f, g, h8].getD i 0) % 4294967296) := fun i hi => by rw [HC2.out, words_add _ _ i hi, HW'.out]
          obtain ⟨Y, hY⟩ : ∃ Y, Y = Pl.words (Pl.comp s xs) := ⟨_, rfl⟩
          have HY : Hid (Pl.words (Pl.comp s xs) = Y) := hY.symm
          have HYL : Hid (Y.length = 8) := by unfold Hid; rw [hY]; rfl
          obtain ⟨X, hX⟩ : ∃ X, X = Pl.words s := ⟨_, rfl⟩
          have HXe : Hid (U = u32s X) := by unfold Hid; rw [hX]; exact HU.out
          have HXL : Hid (X.length = 8) := by unfold Hid; rw [hX]; rfl
          obtain ⟨T, hT⟩ : ∃ T, T = [a, b', c, d, e, f, g, h8] := ⟨_, rfl⟩
          have HTL : Hid (T.length = 8) := by unfold Hid; rw [hT]; rfl
          rw [← hY, ← hX, ← hT] at HA
          rw [← hT] at LP
          have LP0 : Hid (Lp w.heap.size V (u32s (mix Y X 0)) KK (u32s W) (u32s T) w wr) := by unfold Hid; rw [mix_zero, ← HXe.out]; exact LP.out
          clear hY hX hT HW' HC2 HR LP oa ob oc od oe of og oh
          go_wp2_with fail
          go_loopw [17] (fun i wq => ∃ j : Nat, j ≤ 8 ∧ i = .int .i64 j ∧ Lp w.heap.size V (u32s (mix Y X j)) KK (u32s W) (u32s T) w wq) (fun i _ => 8 - (intOf i).toNat)
          case atStart => exact ⟨0, by omega, rfl, LP0.out⟩
          case round =>
            clear LP0
            obtain ⟨j, hj, rfl, lp⟩ := hrel
            have LP : Hid (Lp w.heap.size V (u32s (mix Y X j)) KK (u32s W) (u32s T) w wr) := lp
            clear lp
            have hml : (mix Y X j).length = 8 := by unfold mix; simp; have := HXL.out; have := HYL.out; omega
            by_cases hlt : j < 8
            · have lt2 : (j : Int) < 8 := by omega
              have k := (cell_of_row _ _ j _ _ _ LP.out.1).trans (u32s_get _ j (by rw [hml]; exact hlt))
              rw [mix_get _ _ _ (by rw [HYL.out, HXL.out]) (by rw [HXL.out]; exact hlt)] at k
              have kv := (cell_of_row _ _ j _ _ _ LP.out.2.2.2.2.1).trans (u32s_get _ j (by rw [HTL.out]; exact hlt))
              have kf := frozen_of_row _ _ j _ _ LP.out.1
              have NS : Hid (∀ z : Int, z = ((X.getD j 0 : Nat) + (T.getD j 0 : Nat) : Int) % 4294967296 → Lp w.heap.size V (u32s (mix Y X (j + 1))) KK (u32s W) (u32s T) w (wr.setCell ⟨w.heap.size, j, none⟩ (.int .u32 z)).drew) := by
                rintro z rfl
                have e := LP.out.setB HVe.out j (.int .u32 (Y.getD j 0 : Nat))
                rw [u32s_set, mix_set _ _ _ (by rw [HYL.out, HXL.out]) (by rw [HXL.out]; exact hlt), HA.out j hlt, Int.natCast_emod, Int.natCast_add] at e
                exact e
              generalize X.getD j 0 = xj at *
              generalize T.getD j 0 = tj at *
              clear HA hml
              go_wp2_with fail
              go_region
              go_wp2
              exact ⟨⟨j + 1, by omega, by go_num, NS.out _ rfl⟩, by simp [intOf]; omega⟩
            · obtain rfl : j = 8 := by omega
              rw [show mix Y X 8 = Y by rw [← HYL.out]; exact mix_all _ _ (by rw [HYL.out, HXL.out])] at LP
              have G0 : Hid (wr.heap[w.heap.size]? = some (.cells (u32s Y) 192 (0, 0))) := LP.out.1
              have G2 : Hid (wr.heap[w.heap.size + 1 + 1]? = some (.cells (u32s (List.replicate 8 0)) 192 (0, 0))) := LP.out.2.2.1
              have GB : Hid (Below w.heap.size w wr) := LP.out.2.2.2.2.2
              have HI : Hid ((Tryz.prog.info? 192).map (·.size) = some (u32s Y).size) := by unfold Hid; rw [u32s_size, HYL.out]; exact size47
              have HO : Hid ((u32s (List.replicate 8 0)).size = (u32s Y).size) := by unfold Hid; rw [u32s_size, u32s_size, HYL.out]; simp
              clear LP hml HA
              go_wp2_with (first
                | refine wpList_load_row rfl 192 _ rfl w.heap.size rfl 192 (u32s Y) (0, 0) _ G0.out Tryz.underlying192 rfl HI.out ?_
                | refine wpList_store_row rfl 192 _ _ rfl (w.heap.size + 1 + 1) (u32s Y) rfl rfl 192 _ G2.out HI.out HO.out (u32s_one _) ?_)
              refine bodyPost_ret (v := .agg (u32s Y)) (results_cell_row rfl _ _ (w.heap.size + 1 + 1) 192 (u32s Y) (0, 0) _ rfl (setRow_heap _ _ _ _ _ _ G2.out) Tryz.underlying192 rfl HI.out) rfl ⟨by rw [HY.out], below_setRow GB.out (by omega) _⟩
end Go.Proofs.YtiollhmbdhepkaaGreatDoor.Sh
