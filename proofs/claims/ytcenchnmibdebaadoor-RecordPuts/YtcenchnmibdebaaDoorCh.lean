/-
  What ofFile, checkFile and Check answer.
-/
import Derived.Test.YtcenchnmibdebaaDoorPs
import Derived.Test.YtcenchnmibdebaaDoorCk
import Derived.Deep.WholeRow
namespace Go.Proofs.YtcenchnmibdebaaDoor
open Go.RowKit
set_option maxRecDepth 100000

/-- A file may have so many bytes. -/
def inF (n : Int) : Bool := decide (0 ≤ n) && decide (n ≤ 65536)
/-- What a record that is no Begin may be. -/
def bareR (r : Rc) : Rc := ⟨r.k, ⟨r.x.i, ⟨#[]⟩, z32, 0, r.x.o⟩⟩
def ckf (r : Rc) : Int := if r.k = 0 then (if chk (dl r.x.p) ≠ 0 then chk (dl r.x.p) else if res (dl r.x.p) = true then 6 else if inF r.x.n = true then 0 else 13) else (if sRc r (bareR r) = true then 0 else 4)
def rck (r : Rc) : Int := if 4 < r.k ∨ r.x.i < 0 ∨ 1099511627776 < r.x.i then 2 else if ckf r ≠ 0 then ckf r else if inF r.x.o = false then 13 else if r.x.o ≠ 0 ∧ r.k ≠ 1 then 4 else 0
theorem bareR_ok (r : Rc) (h : r.ok) : (bareR r).ok := ⟨h.1, h.2.1, z32_len, z32_bytes, h.2.2.2.2.1, i64_0, h.2.2.2.2.2.2⟩
theorem ofFile_any (n : Int) (w : World) :
    Calls Tryd.prog 27 #[.int .i64 n] w fun e w' => e = .returned (.bool (inF n)) ∧ w' = w := by
  have HO : Hid (inF n = (decide (0 ≤ n) && decide (n ≤ 65536))) := rfl
  generalize inF n = r at *
  by_cases h : 0 ≤ n
  · have h2 : decide (0 ≤ n) = true := by simp [h]
    have HR : Hid (r = decide (n ≤ 65536)) := by unfold Hid; have := HO.out; rw [h2] at this; simpa using this
    clear HO
    go_enter Tryd.func27, Tryd.ntmps27
    go_wp2
    go_ret
    exact ⟨by rw [HR.out]; rfl, rfl⟩
  · have h2 : decide (0 ≤ n) = false := by simp [h]
    have HR : Hid (r = false) := by unfold Hid; have := HO.out; rw [h2] at this; simpa using this
    clear HO
    go_enter Tryd.func27, Tryd.ntmps27
    go_wp2
    go_ret
    exact ⟨by rw [HR.out]; rfl, rfl⟩
theorem new_rc (w : World) : (w.alloc (.cells #[.int .u8 0, .int .i64 0, .string ⟨#[]⟩, .int .u8 0, .int .u8 0, .int .u8 0, .int .u8 0, .int .u8 0, .int .u8 0, .int .u8 0, .int .u8 0, .int .u8 0, .int .u8 0, .int .u8 0, .int .u8 0, .int .u8 0, .int .u8 0, .int .u8 0, .int .u8 0, .int .u8 0, .int .u8 0, .int .u8 0, .int .u8 0, .int .u8 0, .int .u8 0, .int .u8 0, .int .u8 0, .int .u8 0, .int .u8 0, .int .u8 0, .int .u8 0, .int .u8 0, .int .u8 0, .int .u8 0, .int .u8 0, .int .i64 0, .int .i64 0] 33)).heap[w.heap.size]? = some (.cells rzc 33 (0, 0)) := heap_alloc_new _ _
theorem alloc_rc (w : World) (x : Rc) : (w.alloc (.cells #[.int .u8 0, .int .i64 0, .string ⟨#[]⟩, .int .u8 0, .int .u8 0, .int .u8 0, .int .u8 0, .int .u8 0, .int .u8 0, .int .u8 0, .int .u8 0, .int .u8 0, .int .u8 0, .int .u8 0, .int .u8 0, .int .u8 0, .int .u8 0, .int .u8 0, .int .u8 0, .int .u8 0, .int .u8 0, .int .u8 0, .int .u8 0, .int .u8 0, .int .u8 0, .int .u8 0, .int .u8 0, .int .u8 0, .int .u8 0, .int .u8 0, .int .u8 0, .int .u8 0, .int .u8 0, .int .u8 0, .int .u8 0, .int .i64 0, .int .i64 0] 33)).setRow w.heap.size x.cells.toArray = w.alloc (.cells x.cells.toArray 33) := World.setRow_alloc_new _ _ _ _
theorem rc_new (w : World) (x : Rc) : (w.alloc (.cells x.cells.toArray 33)).rangeAt w.heap.size 0 x.cells := blk_range (heap_alloc_new _ _)
theorem new_pa (w : World) : (w.alloc (.cells #[.int .i64 0, .string ⟨#[]⟩, .int .u8 0, .int .u8 0, .int .u8 0, .int .u8 0, .int .u8 0, .int .u8 0, .int .u8 0, .int .u8 0, .int .u8 0, .int .u8 0, .int .u8 0, .int .u8 0, .int .u8 0, .int .u8 0, .int .u8 0, .int .u8 0, .int .u8 0, .int .u8 0, .int .u8 0, .int .u8 0, .int .u8 0, .int .u8 0, .int .u8 0, .int .u8 0, .int .u8 0, .int .u8 0, .int .u8 0, .int .u8 0, .int .u8 0, .int .u8 0, .int .u8 0, .int .u8 0, .int .i64 0, .int .i64 0] 58)).heap[w.heap.size]? = some (.cells pzc 58 (0, 0)) := heap_alloc_new _ _
theorem alloc_pa (w : World) (x : Pa) : (w.alloc (.cells #[.int .i64 0, .string ⟨#[]⟩, .int .u8 0, .int .u8 0, .int .u8 0, .int .u8 0, .int .u8 0, .int .u8 0, .int .u8 0, .int .u8 0, .int .u8 0, .int .u8 0, .int .u8 0, .int .u8 0, .int .u8 0, .int .u8 0, .int .u8 0, .int .u8 0, .int .u8 0, .int .u8 0, .int .u8 0, .int .u8 0, .int .u8 0, .int .u8 0, .int .u8 0, .int .u8 0, .int .u8 0, .int .u8 0, .int .u8 0, .int .u8 0, .int .u8 0, .int .u8 0, .int .u8 0, .int .u8 0, .int .i64 0, .int .i64 0] 58)).setRow w.heap.size x.cells.toArray = w.alloc (.cells x.cells.toArray 58) := World.setRow_alloc_new _ _ _ _
theorem pa_new (w : World) (x : Pa) : (w.alloc (.cells x.cells.toArray 58)).rangeAt w.heap.size 0 x.cells := blk_range (heap_alloc_new _ _)
set_option maxHeartbeats 1000000 in
theorem checkFile_any (r : Rc) (w : World) (hr : r.ok) (hm : Mx w) (hp : r.x.p.size ≤ maxLen) :
    Calls Tryd.prog 26 #[r.val] w fun e w' => e = .returned (.int .i64 (ckf r)) ∧ Below w.heap.size w w' := by
  obtain ⟨W1, hW1⟩ : ∃ W1, W1 = w.alloc (.cells r.cells.toArray 33) := ⟨_, rfl⟩
  have b1 : Below w.heap.size w W1 := by rw [hW1]; exact al_below _ _
  have r1 : W1.rangeAt w.heap.size 0 r.cells := by rw [hW1]; exact rc_new w r
  obtain ⟨k0, k1, k2, _, k4, k5⟩ := rcC r1 hr
  simp only [Nat.zero_add] at k0 k1 k2 k4 k5
  have B1 : Hid (Below w.heap.size w W1) := b1
  have hW1' : w.alloc (.cells r.cells.toArray 33) = W1 := hW1.symm
  have HO : Hid (ckf r = if r.k = 0 then (if chk (dl r.x.p) ≠ 0 then chk (dl r.x.p) else if res (dl r.x.p) = true then 6 else if inF r.x.n = true then 0 else 13) else (if sRc r (bareR r) = true then 0 else 4)) := rfl
  unfold Rc.val
  by_cases hk : r.k = 0
  · have C1 := check_any r.x.p W1 (hm.kept b1) hp
    have C2 : Hid (∀ W, Calls Tryd.prog 43 #[.string r.x.p] W fun e w' => e = .returned (.bool (res (dl r.x.p))) ∧ w' = W) := fun W => reserved_any r.x.p W
    have C3 : Hid (∀ W, Calls Tryd.prog 27 #[.int .i64 r.x.n] W fun e w' => e = .returned (.bool (inF r.x.n)) ∧ w' = W) := fun W => ofFile_any r.x.n W
    rw [if_pos hk] at HO
    rw [hk] at k0
    have G : Hid (∀ W, Below W1.heap.size W1 W → W.cell? ⟨w.heap.size, 2, none⟩ = some (.string r.x.p) ∧ W.cell? ⟨w.heap.size, 35, none⟩ = some (.int .i64 r.x.n)) := fun W hb => ⟨(hb.cell (World.block_lt_of_cell? _ _ k2)).trans k2, (hb.cell (World.block_lt_of_cell? _ _ k4)).trans k4⟩
    clear hr hm hp b1 r1 hW1 hk k1 k5 k4
    generalize ckf r = R at *
    generalize r.cells.toArray = cs at *
    generalize r.x.p = p at *
    generalize r.x.n = n at *
    generalize chk (dl p) = c at *
    generalize res (dl p) = q at *
    generalize inF n = f at *
    go_enter Tryd.func26, Tryd.ntmps26
    go_wp2_with fail
    try clear hW1'
    go_wp2_with fail
    refine C1.mono ?_
    rintro e w2 ⟨rfl, b2⟩
    obtain ⟨g2, g4⟩ := G.out w2 b2
    have B2 : Hid (Below w.heap.size w w2) := B1.out.trans (b2.mono B1.out.size)
    clear C1 b2 B1 G k2 k0
    by_cases hc : c = 0
    · subst hc
      have HO2 : Hid (R = if q = true then 6 else if f = true then 0 else 13) := by unfold Hid; have := HO.out; simpa using this
      clear HO
      have c2 := C2.out w2
      go_wp2_with fail
      refine c2.mono ?_
      rintro e w3 ⟨rfl, e3⟩
      subst e3
      clear c2 C2
      cases q with
      | true =>
        have HR : Hid (R = 6) := by unfold Hid; have := HO2.out; simpa using this
        go_wp2
        go_ret
        exact ⟨by rw [HR.out]; rfl, B2.out⟩
      | false =>
        have HO3 : Hid (R = if f = true then 0 else 13) := by unfold Hid; have := HO2.out; simpa using this
        clear HO2
        have c3 := C3.out w3
        go_wp2_with fail
        refine c3.mono ?_
        rintro e w4 ⟨rfl, e4⟩
        subst e4
        clear c3 C3
        cases f with
        | true =>
          have HR : Hid (R = 0) := by unfold Hid; have := HO3.out; simpa using this
          go_wp2
          go_ret
          exact ⟨by rw [HR.out]; rfl, B2.out⟩
        | false =>
          have HR : Hid (R = 13) := by unfold Hid; have := HO3.out; simpa using this
          go_wp2
          go_ret
          exact ⟨by rw [HR.out]; rfl, B2.out⟩
    · have HR : Hid (R = c) := by unfold Hid; have := HO.out; rwa [if_pos hc] at this
      have hc2 : (c != 0) = true := by simpa using hc
      clear HO
      go_wp2
      go_ret
      exact ⟨by rw [HR.out]; rfl, B2.out⟩
  · rw [if_neg hk] at HO
    have hk2 : (r.k != 0) = true := by simpa using hk
    obtain ⟨y, hy⟩ : ∃ y, y = bareR r := ⟨_, rfl⟩
    have yok : y.ok := by rw [hy]; exact bareR_ok r hr
    have BB : Hid (Tryd.prog.built 33 [(0, .int .u8 r.k), (1, .int .i64 r.x.i), (5, .int .i64 r.x.o)] = some y.cells.toArray) := by unfold Hid; rw [hy]; exact bRM r.k r.x.i r.x.o
    have HI : Hid ((Tryd.prog.info? 33).map (·.size) = some y.cells.toArray.size) := Rc.infoA y yok
    have HE : Hid (rzc.size = y.cells.toArray.size) := rzc_size.trans (Rc.size y yok).symm
    have H1 : Hid (y.cells.toArray.all (·.oneCell') = true) := Rc.ones y
    obtain ⟨W2, hW2⟩ : ∃ W2, W2 = W1.alloc (.cells y.cells.toArray 33) := ⟨_, rfl⟩
    have b2 : Below W1.heap.size W1 W2 := by rw [hW2]; exact al_below _ _
    have R2 : Hid (W2.rangeAt W1.heap.size 0 y.cells) := by unfold Hid; rw [hW2]; exact rc_new W1 y
    have R1 : Hid (W2.rangeAt w.heap.size 0 r.cells) := range_kept r1 b2
    have B2 : Hid (Below w.heap.size w W2) := b1.trans (b2.mono b1.size)
    have HA : Hid ((W1.alloc (.cells #[.int .u8 0, .int .i64 0, .string ⟨#[]⟩, .int .u8 0, .int .u8 0, .int .u8 0, .int .u8 0, .int .u8 0, .int .u8 0, .int .u8 0, .int .u8 0, .int .u8 0, .int .u8 0, .int .u8 0, .int .u8 0, .int .u8 0, .int .u8 0, .int .u8 0, .int .u8 0, .int .u8 0, .int .u8 0, .int .u8 0, .int .u8 0, .int .u8 0, .int .u8 0, .int .u8 0, .int .u8 0, .int .u8 0, .int .u8 0, .int .u8 0, .int .u8 0, .int .u8 0, .int .u8 0, .int .u8 0, .int .u8 0, .int .i64 0, .int .i64 0] 33)).setRow W1.heap.size y.cells.toArray = W2) := by unfold Hid; rw [hW2]; exact alloc_rc W1 y
    have ZR : Hid ((Tryd.prog.info? 33).map (·.size) = some r.cells.length) := Rc.infoL r hr
    have ZY : Hid ((Tryd.prog.info? 33).map (·.size) = some y.cells.length) := Rc.infoL y yok
    have EQ : Hid ((Op.equalIn 10000 33 (.agg r.cells.toArray) (.agg y.cells.toArray)).run Tryd.prog W2 = .ok (sRc r y) W2) := eqR r y hr yok W2
    rw [← hy] at HO
    clear hr hm hp b1 b2 r1 hW1 hW2 hk yok k2 k4 B1
    generalize ckf r = R at *
    generalize sRc r y = q at *
    generalize r.cells = cs at *
    generalize y.cells = ds at *
    generalize r.k = k at *
    generalize r.x.i = i at *
    generalize r.x.o = o at *
    go_enter Tryd.func26, Tryd.ntmps26
    go_wp2_with (refine wpList_built rfl 33 _ rfl [(0, .int .u8 k), (1, .int .i64 i), (5, .int .i64 o)] rfl ds.toArray BB.out (Hid.out ?_))
    unfold Hid
    go_wp2_with (refine wpList_store_row rfl 33 _ _ rfl W1.heap.size ds.toArray rfl rfl 33 rzc (new_rc W1) HI.out HE.out H1.out (Hid.out ?_))
    unfold Hid
    rw [HA.out]
    cases q with
    | true =>
      have HR : Hid (R = 0) := by unfold Hid; have := HO.out; simpa using this
      go_wp2_with (first
        | refine wpList_load_mid rfl 33 _ rfl w.heap.size 0 rfl cs _ R1.out Tryd.underlying33 rfl ZR.out ?_
        | refine wpList_load_mid rfl 33 _ rfl W1.heap.size 0 rfl ds _ R2.out Tryd.underlying33 rfl ZY.out ?_
        | refine wpList_eqi rfl true 33 _ _ _ rfl cs.toArray ds.toArray true guardR EQ.out rfl rfl ?_)
      go_ret
      exact ⟨by rw [HR.out]; rfl, B2.out⟩
    | false =>
      have HR : Hid (R = 4) := by unfold Hid; have := HO.out; simpa using this
      go_wp2_with (first
        | refine wpList_load_mid rfl 33 _ rfl w.heap.size 0 rfl cs _ R1.out Tryd.underlying33 rfl ZR.out ?_
        | refine wpList_load_mid rfl 33 _ rfl W1.heap.size 0 rfl ds _ R2.out Tryd.underlying33 rfl ZY.out ?_
        | refine wpList_eqi rfl true 33 _ _ _ rfl cs.toArray ds.toArray false guardR EQ.out rfl rfl ?_)
      go_ret
      exact ⟨by rw [HR.out]; rfl, B2.out⟩
end Go.Proofs.YtcenchnmibdebaaDoor
