/-
  What Check answers.
-/
import Derived.Test.YtcenchnmibdebaaDoorCh
namespace Go.Proofs.YtcenchnmibdebaaDoor
open Go.RowKit
set_option maxRecDepth 100000

set_option maxHeartbeats 1000000 in
theorem rcheck_any (r : Rc) (w : World) (hr : r.ok) (hm : Mx w) (hp : r.x.p.size ≤ maxLen) :
    Calls Tryd.prog 9 #[r.val] w fun e w' => e = .returned (.int .i64 (rck r)) ∧ Below w.heap.size w w' := by
  obtain ⟨W1, hW1⟩ : ∃ W1, W1 = w.alloc (.cells r.cells.toArray 33) := ⟨_, rfl⟩
  have b1 : Below w.heap.size w W1 := by rw [hW1]; exact al_below _ _
  have r1 : W1.rangeAt w.heap.size 0 r.cells := by rw [hW1]; exact rc_new w r
  obtain ⟨k0, k1, _, _, _, k5⟩ := rcC r1 hr
  simp only [Nat.zero_add] at k0 k1 k5
  have B1 : Hid (Below w.heap.size w W1) := b1
  have hW1' : w.alloc (.cells r.cells.toArray 33) = W1 := hW1.symm
  have HO : Hid (rck r = if 4 < r.k ∨ r.x.i < 0 ∨ 1099511627776 < r.x.i then 2 else if ckf r ≠ 0 then ckf r else if inF r.x.o = false then 13 else if r.x.o ≠ 0 ∧ r.k ≠ 1 then 4 else 0) := rfl
  have C1 : Hid (Calls Tryd.prog 26 #[.agg r.cells.toArray] W1 fun e w' => e = .returned (.int .i64 (ckf r)) ∧ Below W1.heap.size W1 w') := checkFile_any r W1 hr (hm.kept b1) hp
  have C3 : Hid (∀ W, Calls Tryd.prog 27 #[.int .i64 r.x.o] W fun e w' => e = .returned (.bool (inF r.x.o)) ∧ w' = W) := fun W => ofFile_any r.x.o W
  have G : Hid (∀ W, Below W1.heap.size W1 W → W.cell? ⟨w.heap.size, 0, none⟩ = some (.int .u8 r.k) ∧ W.cell? ⟨w.heap.size, 36, none⟩ = some (.int .i64 r.x.o)) := fun W hb => ⟨(hb.cell (World.block_lt_of_cell? _ _ k0)).trans k0, (hb.cell (World.block_lt_of_cell? _ _ k5)).trans k5⟩
  have RN : Hid (W1.rangeAt w.heap.size 0 r.cells) := r1
  have ZR : Hid ((Tryd.prog.info? 33).map (·.size) = some r.cells.length) := Rc.infoL r hr
  unfold Rc.val
  clear hr hm hp b1 r1 hW1 k5
  generalize rck r = R at *
  generalize ckf r = c at *
  generalize inF r.x.o = f at *
  generalize r.cells = cs at *
  generalize r.k = k at *
  generalize r.x.i = i at *
  generalize r.x.o = o at *
  by_cases hA : 4 < k
  · have HR : Hid (R = 2) := by unfold Hid; have := HO.out; rwa [if_pos (.inl hA)] at this
    have d1 : decide (4 < k) = true := by simpa using hA
    go_enter Tryd.func9, Tryd.ntmps9
    go_wp2
    go_ret
    exact ⟨by rw [HR.out]; rfl, B1.out⟩
  have d1 : decide (4 < k) = false := by simpa using hA
  by_cases hB : i < 0
  · have HR : Hid (R = 2) := by unfold Hid; have := HO.out; rwa [if_pos (.inr (.inl hB))] at this
    have d2 : decide (i < 0) = true := by simpa using hB
    go_enter Tryd.func9, Tryd.ntmps9
    go_wp2
    go_ret
    exact ⟨by rw [HR.out]; rfl, B1.out⟩
  have d2 : decide (i < 0) = false := by simpa using hB
  by_cases hC : 1099511627776 < i
  · have HR : Hid (R = 2) := by unfold Hid; have := HO.out; rwa [if_pos (.inr (.inr hC))] at this
    have d3 : decide (1099511627776 < i) = true := by simpa using hC
    go_enter Tryd.func9, Tryd.ntmps9
    go_wp2
    go_ret
    exact ⟨by rw [HR.out]; rfl, B1.out⟩
  have d3 : decide (1099511627776 < i) = false := by simpa using hC
  have HO2 : Hid (R = if c ≠ 0 then c else if f = false then 13 else if o ≠ 0 ∧ k ≠ 1 then 4 else 0) := by unfold Hid; have := HO.out; rwa [if_neg (by omega)] at this
  clear HO
  have c1 := C1.out
  clear C1
  go_enter Tryd.func9, Tryd.ntmps9
  go_wp2_with (refine wpList_load_mid rfl 33 _ rfl w.heap.size 0 rfl cs _ RN.out Tryd.underlying33 rfl ZR.out ?_)
  refine c1.mono ?_
  rintro e w2 ⟨rfl, b2⟩
  obtain ⟨g0, g5⟩ := G.out w2 b2
  have B2 : Hid (Below w.heap.size w w2) := B1.out.trans (b2.mono B1.out.size)
  clear c1 b2 B1 G k0 k1 hW1' RN
  by_cases hc : c = 0
  · subst hc
    have HO3 : Hid (R = if f = false then 13 else if o ≠ 0 ∧ k ≠ 1 then 4 else 0) := by unfold Hid; have := HO2.out; simpa using this
    clear HO2
    have c3 := C3.out w2
    go_wp2_with fail
    refine c3.mono ?_
    rintro e w4 ⟨rfl, e4⟩
    subst e4
    clear c3 C3
    cases f with
    | false =>
      have HR : Hid (R = 13) := by unfold Hid; have := HO3.out; simpa using this
      go_wp2
      go_ret
      exact ⟨by rw [HR.out]; rfl, B2.out⟩
    | true =>
      by_cases ho : o = 0
      · have HR : Hid (R = 0) := by unfold Hid; have := HO3.out; simpa [ho] using this
        have d4 : (o != 0) = false := by simpa using ho
        clear HO3
        go_wp2
        go_ret
        exact ⟨by rw [HR.out]; rfl, B2.out⟩
      · have d4 : (o != 0) = true := by simpa using ho
        by_cases hk : k = 1
        · have HR : Hid (R = 0) := by unfold Hid; have := HO3.out; simpa [hk] using this
          have d5 : (k != 1) = false := by simpa using hk
          clear HO3
          go_wp2
          go_ret
          exact ⟨by rw [HR.out]; rfl, B2.out⟩
        · have HR : Hid (R = 4) := by unfold Hid; have := HO3.out; simpa [hk, ho] using this
          have d5 : (k != 1) = true := by simpa using hk
          clear HO3
          go_wp2
          go_ret
          exact ⟨by rw [HR.out]; rfl, B2.out⟩
  · have HR : Hid (R = c) := by unfold Hid; have := HO2.out; rwa [if_pos hc] at this
    have hc2 : (c != 0) = true := by simpa using hc
    clear HO2
    go_wp2
    go_ret
    exact ⟨by rw [HR.out]; rfl, B2.out⟩
end Go.Proofs.YtcenchnmibdebaaDoor
