/-
  What bytes.Repeat answers at the one call of it.
-/
import Derived.Test.YtcenchnmibdebaaDoorBr
import Derived.Lib.MakeNoZero
import Derived.Laws.CopyOwn
import Derived.Deep.RegionLaw
namespace Go.Proofs.YtcenchnmibdebaaDoor
open Go.RowKit
set_option maxRecDepth 100000

set_option maxHeartbeats 1000000 in
theorem mul64_any (w : World) : Calls Tryd.prog 92 #[.int .u64 1, .int .u64 8] w fun e w' => e = .returned (.tuple #[.int .u64 0, .int .u64 8]) ∧ w' = w := by
  have a1 : bits .and .u64 1 4294967295 = 1 := by decide
  have a2 : bits .and .u64 8 4294967295 = 8 := by decide
  have a0 : bits .and .u64 0 4294967295 = 0 := by decide
  go_enter Tryd.func92, Tryd.ntmps92
  go_wp2
  go_ret2
  exact ⟨rfl, rfl⟩
set_option maxHeartbeats 1000000 in
theorem mul_any (w : World) : Calls Tryd.prog 81 #[.int .u64 1, .int .u64 8] w fun e w' => e = .returned (.tuple #[.int .u64 0, .int .u64 8]) ∧ w' = w := by
  have c := mul64_any w
  go_enter Tryd.func81, Tryd.ntmps81
  go_wp2_with fail
  refine c.mono ?_
  rintro e w1 ⟨rfl, e1⟩
  subst e1
  clear c
  go_wp2
  go_ret2
  exact ⟨rfl, rfl⟩
/-- A block whose first k cells are 255. -/
def BK (w : World) (g N k : Nat) : Prop := ∃ cur : List Value, w.heap[g]? = some (.cells cur.toArray 5 (0, 0)) ∧ cur.length = N ∧ ∀ i, i < k → cur[i]? = some (.int .u8 255)
theorem splice_get {α : Type} (L : List α) (o : Nat) (cs : List α) (x : α) (h1 : o + cs.length ≤ L.length) (h2 : ∀ i, i < o → L[i]? = some x) (h3 : ∀ i, i < cs.length → cs[i]? = some x) : ∀ i, i < o + cs.length → (splice L o cs)[i]? = some x := fun i hi => by
  unfold splice
  rcases Nat.lt_or_ge i o with h | h
  · rw [List.getElem?_append_left (by rw [List.length_take]; omega), List.getElem?_take, if_pos h]
    exact h2 i h
  · rw [List.getElem?_append_right (by rw [List.length_take]; omega), List.length_take, Nat.min_eq_left (by omega), List.getElem?_append_left (by omega)]
    exact h3 _ (by omega)
theorem size5 : (Tryd.prog.info? 5).map (·.size) = some 1 := by
  obtain ⟨i0, hi, _, hz1, _⟩ := info_parts info5'
  rw [hi]; simp [hz1]
theorem BK.cell {w : World} {g N k : Nat} (h : BK w g N k) (i : Nat) (hi : i < k) : w.cell? ⟨g, i, none⟩ = some (.int .u8 255) := by
  obtain ⟨cur, h1, h2, h3⟩ := h
  have := h3 i hi
  simp [World.cell?, h1]
  exact this
theorem rep_get (k i : Nat) (h : i < k) : (List.replicate k (Value.int .u8 255))[i]? = some (.int .u8 255) := by
  rw [List.getElem?_replicate, if_pos h]
set_option maxHeartbeats 2000000 in
theorem repeat_any (b : Nat) (w : World) (hc : w.cell? ⟨b, 0, none⟩ = some (.int .u8 255)) :
    Calls Tryd.prog 64 #[.slice (some ⟨b, 0, none⟩) 1 1, .int .i64 8] w fun e w' => ∃ v, e = .returned v ∧ Sl w' v (List.replicate 8 255) ∧ Below w.heap.size w w' := by
  obtain ⟨cs, hrunM, hle, hmax⟩ := Lib.run_makeNoZero (P := Tryd.prog) w #[3] 27 5 Tryd.underlying27 8 (by omega)
  obtain ⟨W1, hW1⟩ : ∃ W1, W1 = (w.alloc (.cells cs 5)).drewN 2 := ⟨_, rfl⟩
  have hcall : (callFunc 82 #[.int .i64 8]).run Tryd.prog w = .ok (.value (.slice (some ⟨w.heap.size, 0, none⟩) 8 cs.size)) W1 := by
    rw [run_callFunc_extern Tryd.func82 (by kernel_rfl) (by kernel_rfl) (by kernel_rfl) (e := Extern.BytealgMakeNoZero.makeNoZero #[3] #[27]) (by kernel_rfl)]
    have h8 : ((8 : Nat) : Int) = 8 := rfl
    rw [h8] at hrunM
    rw [hrunM, hW1]
    rfl
  have b1 : Below w.heap.size w W1 := by rw [hW1]; exact ⟨rfl, rfl, rfl, (al_below w (.cells cs 5)).size, fun k hk => (al_below w (.cells cs 5)).block k hk⟩
  have g1 : W1.heap[w.heap.size]? = some (.cells cs.toList.toArray 5 (0, 0)) := by rw [hW1]; exact heap_alloc_new _ _
  have c1 : W1.cell? ⟨b, 0, none⟩ = some (.int .u8 255) := (b1.cell (World.block_lt_of_cell? _ _ hc)).trans hc
  have G1 : Hid (W1.heap[w.heap.size]? = some (.cells cs.toList.toArray 5 (0, 0))) := g1
  have C1 : Hid (W1.cell? ⟨b, 0, none⟩ = some (.int .u8 255)) := c1
  have B1 : Hid (Below w.heap.size w W1) := b1
  have i1 : (8 : Int) ≤ (cs.size : Int) := by omega
  have HL : Hid (cs.toList.length = cs.size ∧ 8 ≤ cs.size) := ⟨Array.length_toList, hle⟩
  have CM := mul_any w
  generalize cs.size = N at *
  generalize cs.toList = CL0 at *
  clear hrunM hW1 b1 g1 c1 hc hmax hle
  go_enter Tryd.func64, Tryd.ntmps64
  go_wp2_with fail
  refine CM.mono ?_
  rintro e w1 ⟨rfl, e1⟩
  replace e1 := e1.symm
  subst e1
  clear CM
  go_wp2_with (refine wpList_copy_splice rfl _ _ 27 27 rfl 5 Tryd.underlying27 size5 (some ⟨w.heap.size, 0, none⟩) (some ⟨b, 0, none⟩) 8 8 1 1 (by simp [Act.eval]) (by simp [Act.eval]) w.heap.size 0 CL0 5 G1.out [.int .u8 255] (by decide) (fun _ => ⟨rfl, ⟨b, 0, none⟩, rfl, fun j u hj => by
      have h9 := (List.getElem?_eq_some_iff.1 hj).1
      obtain rfl : j = 0 := by simpa using h9
      cases hj
      rw [Addr.add_lit]
      exact C1.out⟩) (by have := HL.out; simp; omega) (fun u hu => by simp at hu; subst hu; rfl) w.heap.size w B1.out (Nat.le_refl _) (Hid.out ?_))
  unfold Hid
  intro w3 hg3 hb3
  have BK3 : Hid (BK w3 w.heap.size N 1 ∧ Below w.heap.size w w3) := ⟨⟨_, hg3, by rw [length_splice _ _ _ (by have := HL.out; simp; omega)]; exact HL.out.1, fun i hi => splice_get CL0 0 [.int .u8 255] _ (by have := HL.out; simp; omega) (fun i hi => by omega) (fun i hi => by
    obtain rfl : i = 0 := by simpa using hi
    rfl) i (by simpa using hi)⟩, hb3⟩
  clear hg3 hb3 G1 C1 B1 hcall
  go_wp2_with fail
  go_loopw [10] (fun q wr => ∃ k : Nat, (k = 1 ∨ k = 2 ∨ k = 4 ∨ k = 8) ∧ q = .int .i64 k ∧ BK wr w.heap.size N k ∧ Below w.heap.size w wr) (fun q _ => 8 - (intOf q).toNat)
  case atStart => exact ⟨1, by omega, rfl, BK3.out⟩
  case round =>
    obtain ⟨k, hk, rfl, hbk, hbl⟩ := hrel
    have HB : Hid (Below w.heap.size w wr) := hbl
    clear hbl BK3
    rcases hk with rfl | rfl | rfl | rfl
    · have hmn : min (1 : Int) 8 = 1 := by decide
      have mixed : Tryd.prog.follows Departure.mixedOrders = true := by kernel_rfl
      have hwr : IntKind.i64.wrap 2 = 2 := by decide
      have HK : BK wr w.heap.size N 1 := hbk
      obtain ⟨cur, hg, hl, h255⟩ := hbk
      have HG : Hid (wr.heap[w.heap.size]? = some (.cells cur.toArray 5 (0, 0))) := hg
      have HC : Hid (∀ i, i < 1 → wr.cell? ⟨w.heap.size, i, none⟩ = some (.int .u8 255)) := fun i hi => HK.cell i hi
      have HN : Hid (cur.length = N ∧ ∀ i, i < 1 → cur[i]? = some (.int .u8 255)) := ⟨hl, h255⟩
      clear hg hl h255 HK
      go_wp2_with fail
      go_region_law_o (refine step_copy_splice rfl _ _ 27 27 rfl 5 Tryd.underlying27 size5 (some ⟨w.heap.size, 1, none⟩) (some ⟨w.heap.size, 0, none⟩) 7 7 1 8 (by simp [Act.eval, Act.put]) (by simp [Act.eval, Act.put]) w.heap.size 1 cur 5 HG.out (List.replicate 1 (.int .u8 255)) (by decide) (fun _ => ⟨rfl, ⟨w.heap.size, 0, none⟩, rfl, fun j u hj => by
        have h9 := (List.getElem?_eq_some_iff.1 hj).1
        rw [List.length_replicate] at h9
        rw [rep_get _ _ h9] at hj
        cases hj
        rw [Addr.add_lit, Nat.zero_add]
        exact HC.out j h9⟩) (by rw [List.length_replicate, HN.out.1]; have := HL.out; omega) (fun u hu => by rw [List.eq_of_mem_replicate hu]; rfl) w.heap.size w HB.out.drew (Nat.le_refl _) ?_; intro w4 hg4 hb4)
      have HZ : Hid (BK w4 w.heap.size N 2 ∧ Below w.heap.size w w4) := ⟨⟨_, hg4.out, by rw [length_splice _ _ _ (by rw [List.length_replicate, HN.out.1]; have := HL.out; omega)]; exact HN.out.1, fun i hi => splice_get cur 1 (List.replicate 1 (.int .u8 255)) _ (by rw [List.length_replicate, HN.out.1]; have := HL.out; omega) HN.out.2 (fun i hi => rep_get _ _ (by simpa using hi)) i (by simpa using hi)⟩, hb4⟩
      clear hg4 hb4 HG HC HN
      try go_wp2_with fail
      try simp only [Act.put]
      go_roundw
      case rel => exact ⟨_, _, _, _, _, _, _, _, _, _, _, _, _, _, _, _, _, ⟨2, by omega, rfl, HZ.out⟩, rfl⟩
      case measure => simp [intOf]
    · have hmn : min (2 : Int) 8 = 2 := by decide
      have mixed : Tryd.prog.follows Departure.mixedOrders = true := by kernel_rfl
      have hwr : IntKind.i64.wrap 4 = 4 := by decide
      have HK : BK wr w.heap.size N 2 := hbk
      obtain ⟨cur, hg, hl, h255⟩ := hbk
      have HG : Hid (wr.heap[w.heap.size]? = some (.cells cur.toArray 5 (0, 0))) := hg
      have HC : Hid (∀ i, i < 2 → wr.cell? ⟨w.heap.size, i, none⟩ = some (.int .u8 255)) := fun i hi => HK.cell i hi
      have HN : Hid (cur.length = N ∧ ∀ i, i < 2 → cur[i]? = some (.int .u8 255)) := ⟨hl, h255⟩
      clear hg hl h255 HK
      go_wp2_with fail
      go_region_law_o (refine step_copy_splice rfl _ _ 27 27 rfl 5 Tryd.underlying27 size5 (some ⟨w.heap.size, 2, none⟩) (some ⟨w.heap.size, 0, none⟩) 6 6 2 8 (by simp [Act.eval, Act.put]) (by simp [Act.eval, Act.put]) w.heap.size 2 cur 5 HG.out (List.replicate 2 (.int .u8 255)) (by decide) (fun _ => ⟨rfl, ⟨w.heap.size, 0, none⟩, rfl, fun j u hj => by
        have h9 := (List.getElem?_eq_some_iff.1 hj).1
        rw [List.length_replicate] at h9
        rw [rep_get _ _ h9] at hj
        cases hj
        rw [Addr.add_lit, Nat.zero_add]
        exact HC.out j h9⟩) (by rw [List.length_replicate, HN.out.1]; have := HL.out; omega) (fun u hu => by rw [List.eq_of_mem_replicate hu]; rfl) w.heap.size w HB.out.drew (Nat.le_refl _) ?_; intro w4 hg4 hb4)
      have HZ : Hid (BK w4 w.heap.size N 4 ∧ Below w.heap.size w w4) := ⟨⟨_, hg4.out, by rw [length_splice _ _ _ (by rw [List.length_replicate, HN.out.1]; have := HL.out; omega)]; exact HN.out.1, fun i hi => splice_get cur 2 (List.replicate 2 (.int .u8 255)) _ (by rw [List.length_replicate, HN.out.1]; have := HL.out; omega) HN.out.2 (fun i hi => rep_get _ _ (by simpa using hi)) i (by simpa using hi)⟩, hb4⟩
      clear hg4 hb4 HG HC HN
      try go_wp2_with fail
      try simp only [Act.put]
      go_roundw
      case rel => exact ⟨_, _, _, _, _, _, _, _, _, _, _, _, _, _, _, _, _, ⟨4, by omega, rfl, HZ.out⟩, rfl⟩
      case measure => simp [intOf]
    · have hmn : min (4 : Int) 8 = 4 := by decide
      have mixed : Tryd.prog.follows Departure.mixedOrders = true := by kernel_rfl
      have hwr : IntKind.i64.wrap 8 = 8 := by decide
      have HK : BK wr w.heap.size N 4 := hbk
      obtain ⟨cur, hg, hl, h255⟩ := hbk
      have HG : Hid (wr.heap[w.heap.size]? = some (.cells cur.toArray 5 (0, 0))) := hg
      have HC : Hid (∀ i, i < 4 → wr.cell? ⟨w.heap.size, i, none⟩ = some (.int .u8 255)) := fun i hi => HK.cell i hi
      have HN : Hid (cur.length = N ∧ ∀ i, i < 4 → cur[i]? = some (.int .u8 255)) := ⟨hl, h255⟩
      clear hg hl h255 HK
      go_wp2_with fail
      go_region_law_o (refine step_copy_splice rfl _ _ 27 27 rfl 5 Tryd.underlying27 size5 (some ⟨w.heap.size, 4, none⟩) (some ⟨w.heap.size, 0, none⟩) 4 4 4 8 (by simp [Act.eval, Act.put]) (by simp [Act.eval, Act.put]) w.heap.size 4 cur 5 HG.out (List.replicate 4 (.int .u8 255)) (by decide) (fun _ => ⟨rfl, ⟨w.heap.size, 0, none⟩, rfl, fun j u hj => by
        have h9 := (List.getElem?_eq_some_iff.1 hj).1
        rw [List.length_replicate] at h9
        rw [rep_get _ _ h9] at hj
        cases hj
        rw [Addr.add_lit, Nat.zero_add]
        exact HC.out j h9⟩) (by rw [List.length_replicate, HN.out.1]; have := HL.out; omega) (fun u hu => by rw [List.eq_of_mem_replicate hu]; rfl) w.heap.size w HB.out.drew (Nat.le_refl _) ?_; intro w4 hg4 hb4)
      have HZ : Hid (BK w4 w.heap.size N 8 ∧ Below w.heap.size w w4) := ⟨⟨_, hg4.out, by rw [length_splice _ _ _ (by rw [List.length_replicate, HN.out.1]; have := HL.out; omega)]; exact HN.out.1, fun i hi => splice_get cur 4 (List.replicate 4 (.int .u8 255)) _ (by rw [List.length_replicate, HN.out.1]; have := HL.out; omega) HN.out.2 (fun i hi => rep_get _ _ (by simpa using hi)) i (by simpa using hi)⟩, hb4⟩
      clear hg4 hb4 HG HC HN
      try go_wp2_with fail
      try simp only [Act.put]
      go_roundw
      case rel => exact ⟨_, _, _, _, _, _, _, _, _, _, _, _, _, _, _, _, _, ⟨8, by omega, rfl, HZ.out⟩, rfl⟩
      case measure => simp [intOf]
    · have HZ : Hid (Sl wr (.slice (some ⟨w.heap.size, 0, none⟩) 8 8) (List.replicate 8 255)) := by
        refine ⟨_, 8, rfl, by decide, by decide, fun e => (by cases e), .inr ⟨by decide, w.heap.size, 0, rfl, by decide, by decide, fun i hi => ?_, fun i => ?_⟩⟩
        · have h8 : i < 8 := by simpa using hi
          rw [Nat.zero_add, hbk.cell i h8, List.getD, List.getElem?_replicate, if_pos h8]
          rfl
        · rw [List.getD, List.getElem?_replicate]
          split <;> decide
      clear hbk
      go_wp2
      go_ret
      exact ⟨_, rfl, HZ.out, HB.out⟩
end Go.Proofs.YtcenchnmibdebaaDoor
