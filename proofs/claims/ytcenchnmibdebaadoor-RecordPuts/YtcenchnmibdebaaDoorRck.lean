/-
  What the document's Check answers.
-/
import Derived.Test.YtcenchnmibdebaaDoorCi
import Derived.Test.YtcenchnmibdebaaDoorRc
import Derived.Test.YtcenchnmibdebaaDoorGd
namespace Go.Proofs.YtcenchnmibdebaaDoor
open Go.RowKit
set_option maxRecDepth 100000

set_option maxHeartbeats 400000 in
theorem rsize_any (n : Int) (w : World) : Calls Tryd.prog 38 #[.int .i64 n] w fun e w' => e = .returned (.bool (inF n)) ∧ w' = w := by
  have HI : Hid (inF n = (decide (0 ≤ n) && decide (n ≤ 65536))) := rfl
  generalize inF n = R at *
  by_cases h1 : 0 ≤ n
  · have d1 : decide (0 ≤ n) = true := by simpa using h1
    by_cases h2 : n ≤ 65536
    · have d2 : decide (n ≤ 65536) = true := by simpa using h2
      have HR : Hid (R = true) := by unfold Hid; rw [HI.out, d1, d2]; rfl
      clear HI
      go_enter Tryd.func38, Tryd.ntmps38
      go_wp2
      go_ret
      exact ⟨by rw [HR.out]; rfl, rfl⟩
    · have d2 : decide (n ≤ 65536) = false := by simpa using h2
      have HR : Hid (R = false) := by unfold Hid; rw [HI.out, d2, Bool.and_false]
      clear HI
      go_enter Tryd.func38, Tryd.ntmps38
      go_wp2
      go_ret
      exact ⟨by rw [HR.out]; rfl, rfl⟩
  · have d1 : decide (0 ≤ n) = false := by simpa using h1
    have HR : Hid (R = false) := by unfold Hid; rw [HI.out, d1]; rfl
    clear HI
    go_enter Tryd.func38, Tryd.ntmps38
    go_wp2
    go_ret
    exact ⟨by rw [HR.out]; rfl, rfl⟩
theorem guardH : Tryd.prog.eqGuardType Tryd.prog.depth 23 = false := by kernel_rfl
theorem rq_new (w : World) (r : Rc) : (w.alloc (.cells r.cells.toArray 25)).rangeAt w.heap.size 0 r.cells := blk_range (heap_alloc_new _ _)
theorem sRc_bare (r : Rc) : sRc r (bareR r) = (decide (r.x.p = ⟨#[]⟩) && decide (r.x.s = z32) && decide (r.x.n = 0)) := by
  unfold sRc bareR
  simp [Bool.and_assoc]
theorem empty_iff (p : ByteArray) : p = ⟨#[]⟩ ↔ p.toList.isEmpty = true := by
  constructor
  · rintro rfl
    rw [ByteArray.toList_eq]
    rfl
  · intro h
    have h2 : p.toList = [] := by simpa using h
    have h3 : p.data.toList = [] := by rw [← ByteArray.toList_eq p]; exact h2
    cases p with
    | mk d =>
      simp at h3
      simp [h3]
set_option maxHeartbeats 2000000 in
theorem rchk_any (r : Rc) (w : World) (hr : r.ok) (hp : r.x.p.size ≤ maxLen) :
    Calls Tryd.prog 22 #[r.val] w fun e w' => e = .returned (.int .i64 (rck r)) ∧ Below w.heap.size w w' := by
  obtain ⟨W1, hW1⟩ : ∃ W1, W1 = w.alloc (.cells r.cells.toArray 25) := ⟨_, rfl⟩
  have b1 : Below w.heap.size w W1 := by rw [hW1]; exact al_below _ _
  have r1 : W1.rangeAt w.heap.size 0 r.cells := by rw [hW1]; exact rq_new w r
  obtain ⟨k0, k1, k2, k3, k4, k5⟩ := rcC r1 hr
  simp only [Nat.zero_add] at k0 k1 k2 k3 k4 k5
  have B1 : Hid (Below w.heap.size w W1) := b1
  have hW1' : w.alloc (.cells r.cells.toArray 25) = W1 := hW1.symm
  have HO : Hid (rck r = if 4 < r.k ∨ r.x.i < 0 ∨ 1099511627776 < r.x.i then 2 else if ckf r ≠ 0 then ckf r else if inF r.x.o = false then 13 else if r.x.o ≠ 0 ∧ r.k ≠ 1 then 4 else 0) := rfl
  have HK : Hid (ckf r = if r.k = 0 then (if chk (dl r.x.p) ≠ 0 then chk (dl r.x.p) else if res (dl r.x.p) = true then 6 else if inF r.x.n = true then 0 else 13) else (if (decide (r.x.p = ⟨#[]⟩) && decide (r.x.s = z32) && decide (r.x.n = 0)) = true then 0 else 4)) := by unfold Hid ckf; rw [sRc_bare]
  have C1 : Hid (Calls Tryd.prog 36 #[.string r.x.p] W1 fun e w' => e = .returned (.int .i64 (chk (dl r.x.p))) ∧ Below W1.heap.size W1 w') := rpcheck_any r.x.p W1 hp
  have C2 : Hid (∀ W, Calls Tryd.prog 37 #[.string r.x.p] W fun e w' => e = .returned (.bool (res (dl r.x.p))) ∧ w' = W) := fun W => rreserved_any r.x.p W
  have C4 : Hid (∀ W, Calls Tryd.prog 38 #[.int .i64 r.x.n] W fun e w' => e = .returned (.bool (inF r.x.n)) ∧ w' = W) := fun W => rsize_any r.x.n W
  have C3 : Hid (∀ W, Calls Tryd.prog 38 #[.int .i64 r.x.o] W fun e w' => e = .returned (.bool (inF r.x.o)) ∧ w' = W) := fun W => rsize_any r.x.o W
  have G : Hid (∀ W, Below W1.heap.size W1 W → W.cell? ⟨w.heap.size, 0, none⟩ = some (.int .u8 r.k) ∧ W.cell? ⟨w.heap.size, 2, none⟩ = some (.string r.x.p) ∧ W.cell? ⟨w.heap.size, 35, none⟩ = some (.int .i64 r.x.n) ∧ W.cell? ⟨w.heap.size, 36, none⟩ = some (.int .i64 r.x.o)) := fun W hb => ⟨(hb.cell (World.block_lt_of_cell? _ _ k0)).trans k0, (hb.cell (World.block_lt_of_cell? _ _ k2)).trans k2, (hb.cell (World.block_lt_of_cell? _ _ k4)).trans k4, (hb.cell (World.block_lt_of_cell? _ _ k5)).trans k5⟩
  have RH : Hid (W1.rangeAt w.heap.size 3 (r.x.s.map (Value.int .u8))) := k3
  have ZH : Hid ((Tryd.prog.info? 23).map (·.size) = some (r.x.s.map (Value.int .u8)).length) := by unfold Hid; rw [sizeHs, List.length_map, hr.2.2.1]
  have EQ : Hid (∀ W, (Op.equalIn 10000 23 (.agg (u8c r.x.s)) (.agg (u8c z32))).run Tryd.prog W = .ok (r.x.s == z32) W) := fun W => eq_u8c 9998 r.x.s z32 hr.2.2.1 z32_len W
  have HPE : Hid (r.x.p = ⟨#[]⟩ ↔ r.x.p.toList.isEmpty = true) := empty_iff _
  unfold Rc.val
  clear hr hp b1 r1 hW1 k3
  generalize rck r = R at *
  generalize ckf r = c at *
  generalize inF r.x.o = f at *
  generalize inF r.x.n = fn at *
  generalize chk (dl r.x.p) = ck at *
  generalize res (dl r.x.p) = rs at *
  generalize r.cells = cs at *
  generalize r.k = k at *
  generalize r.x.i = i at *
  generalize r.x.o = o at *
  generalize r.x.n = n at *
  generalize r.x.p = p at *
  generalize r.x.s = sm at *
  by_cases hA : 4 < k
  · have HR : Hid (R = 2) := by unfold Hid; have := HO.out; rwa [if_pos (.inl hA)] at this
    have d1 : decide (4 < k) = true := by simpa using hA
    go_enter Tryd.func22, Tryd.ntmps22
    go_wp2
    go_ret
    exact ⟨by rw [HR.out]; rfl, B1.out⟩
  have d1 : decide (4 < k) = false := by simpa using hA
  by_cases hB : i < 0
  · have HR : Hid (R = 2) := by unfold Hid; have := HO.out; rwa [if_pos (.inr (.inl hB))] at this
    have d2 : decide (i < 0) = true := by simpa using hB
    go_enter Tryd.func22, Tryd.ntmps22
    go_wp2
    go_ret
    exact ⟨by rw [HR.out]; rfl, B1.out⟩
  have d2 : decide (i < 0) = false := by simpa using hB
  by_cases hC : 1099511627776 < i
  · have HR : Hid (R = 2) := by unfold Hid; have := HO.out; rwa [if_pos (.inr (.inr hC))] at this
    have d3 : decide (1099511627776 < i) = true := by simpa using hC
    go_enter Tryd.func22, Tryd.ntmps22
    go_wp2
    go_ret
    exact ⟨by rw [HR.out]; rfl, B1.out⟩
  have d3 : decide (1099511627776 < i) = false := by simpa using hC
  have HO2 : Hid (R = if c ≠ 0 then c else if f = false then 13 else if o ≠ 0 ∧ k ≠ 1 then 4 else 0) := by unfold Hid; have := HO.out; rwa [if_neg (by omega)] at this
  clear HO
  by_cases hk : k = 0
  · have dk : (k == 0) = true := by simpa using hk
    have HK2 : Hid (c = if ck ≠ 0 then ck else if rs = true then 6 else if fn = true then 0 else 13) := by unfold Hid; rw [HK.out, if_pos hk]
    have c1 := C1.out
    clear C1 HK EQ ZH RH HPE
    go_enter Tryd.func22, Tryd.ntmps22
    go_wp2_with fail
    refine c1.mono ?_
    rintro e w2 ⟨rfl, b2⟩
    obtain ⟨g0, g2, g4, g5⟩ := G.out w2 b2
    have H2 : Hid (Below W1.heap.size W1 w2) := b2
    have B2 : Hid (Below w.heap.size w w2) := B1.out.trans (b2.mono B1.out.size)
    clear c1 b2 k0 k1 k2 k4 k5 hW1'
    by_cases hck : ck = 0
    · have HK3 : Hid (c = if rs = true then 6 else if fn = true then 0 else 13) := by unfold Hid; have := HK2.out; simpa [hck] using this
      subst hck
      have c2 := C2.out w2
      clear HK2 C2
      go_wp2_with fail
      refine c2.mono ?_
      rintro e w3 ⟨rfl, e3⟩
      subst e3
      clear c2
      cases rs with
      | true =>
        have HR : Hid (R = 6) := by unfold Hid; have h1 := HO2.out; have h2 := HK3.out; simp at h2; simpa [h2] using h1
        clear HO2 HK3
        go_wp2
        go_ret
        exact ⟨by rw [HR.out]; rfl, B2.out⟩
      | false =>
        have c4 := C4.out w3
        clear C4
        go_wp2_with fail
        refine c4.mono ?_
        rintro e w4 ⟨rfl, e4⟩
        subst e4
        clear c4
        cases fn with
        | false =>
          have HR : Hid (R = 13) := by unfold Hid; have h1 := HO2.out; have h2 := HK3.out; simp at h2; simpa [h2] using h1
          clear HO2 HK3
          go_wp2
          go_ret
          exact ⟨by rw [HR.out]; rfl, B2.out⟩
        | true =>
          have HO3 : Hid (R = if f = false then 13 else if o ≠ 0 ∧ k ≠ 1 then 4 else 0) := by unfold Hid; have h1 := HO2.out; have h2 := HK3.out; simp at h2; simpa [h2] using h1
          clear HO2 HK3 g0 g2 g4 g5
          obtain ⟨g0, -, -, g5⟩ := G.out w4 H2.out
          have BW : Hid (Below w.heap.size w w4) := B1.out.trans (Below.mono H2.out B1.out.size)
          clear G
          have c3 := C3.out w4
          go_wp2_with fail
          refine c3.mono ?_
          rintro e w9 ⟨rfl, e9⟩
          subst e9
          clear c3 C3
          cases f with
          | false =>
            have HR : Hid (R = 13) := by unfold Hid; have := HO3.out; simpa using this
            clear HO3
            go_wp2
            go_ret
            exact ⟨by rw [HR.out]; rfl, BW.out⟩
          | true =>
            by_cases ho : o = 0
            · have HR : Hid (R = 0) := by unfold Hid; have := HO3.out; simpa [ho] using this
              have d4 : (o != 0) = false := by simpa using ho
              clear HO3
              go_wp2
              go_ret
              exact ⟨by rw [HR.out]; rfl, BW.out⟩
            · have d4 : (o != 0) = true := by simpa using ho
              by_cases hk1 : k = 1
              · omega
              · have HR : Hid (R = 4) := by unfold Hid; have := HO3.out; simpa [hk1, ho] using this
                have d5 : (k != 1) = true := by simpa using hk1
                clear HO3
                go_wp2
                go_ret
                exact ⟨by rw [HR.out]; rfl, BW.out⟩
    · have HR : Hid (R = ck) := by unfold Hid; have h1 := HO2.out; have h2 := HK2.out; rw [if_pos hck] at h2; rw [h2, if_pos hck] at h1; exact h1
      have hc2 : (ck != 0) = true := by simpa using hck
      clear HO2 HK2
      go_wp2
      go_ret
      exact ⟨by rw [HR.out]; rfl, B2.out⟩
  · have dk : (k == 0) = false := by simpa using hk
    have HK2 : Hid (c = if (decide (p = ⟨#[]⟩) && decide (sm = z32) && decide (n = 0)) = true then 0 else 4) := by unfold Hid; rw [HK.out, if_neg hk]
    clear C1 C2 C4 HK
    by_cases hpe : p = ⟨#[]⟩
    · have e1 : p.toList.isEmpty = true := HPE.out.1 hpe
      have d6 : decide (p = ⟨#[]⟩) = true := by simpa using hpe
      clear HPE
      by_cases hse : sm = z32
      · have e2 : (sm == z32) = true := by simpa using hse
        have EQ2 : Hid (∀ W, (Op.equalIn 10000 23 (.agg (u8c sm)) (.agg (u8c z32))).run Tryd.prog W = .ok true W) := by unfold Hid; intro W; rw [← e2]; exact EQ.out W
        clear EQ e2
        by_cases hne : n = 0
        · have e3 : (n != 0) = false := by simpa using hne
          have HO3 : Hid (R = if f = false then 13 else if o ≠ 0 ∧ k ≠ 1 then 4 else 0) := by unfold Hid; have h1 := HO2.out; have h2 := HK2.out; rw [d6, decide_eq_true hse, decide_eq_true hne] at h2; simp at h2; simpa [h2] using h1
          clear HO2 HK2 hse d6
          go_enter Tryd.func22, Tryd.ntmps22
          go_wp2_with (first
            | refine wpList_load_midG (by rfl) 23 _ rfl w.heap.size 3 rfl (sm.map (Value.int .u8)) _ RH.out Tryd.underlying23 rfl ZH.out ?_
            | refine wpList_eqiG (by rfl) 23 _ _ _ rfl (u8c sm) (u8c z32) true guardH (EQ2.out _) rfl rfl ?_)
          clear k0 k1 k2 k4 k5 hW1'
          have HW : Hid (Below W1.heap.size W1 W1) := Below.refl _ _
          obtain ⟨g0, -, -, g5⟩ := G.out W1 HW.out
          have BW : Hid (Below w.heap.size w W1) := B1.out.trans (Below.mono HW.out B1.out.size)
          clear G
          have c3 := C3.out W1
          go_wp2_with fail
          refine c3.mono ?_
          rintro e w9 ⟨rfl, e9⟩
          subst e9
          clear c3 C3
          cases f with
          | false =>
            have HR : Hid (R = 13) := by unfold Hid; have := HO3.out; simpa using this
            clear HO3
            go_wp2
            go_ret
            exact ⟨by rw [HR.out]; rfl, BW.out⟩
          | true =>
            by_cases ho : o = 0
            · have HR : Hid (R = 0) := by unfold Hid; have := HO3.out; simpa [ho] using this
              have d4 : (o != 0) = false := by simpa using ho
              clear HO3
              go_wp2
              go_ret
              exact ⟨by rw [HR.out]; rfl, BW.out⟩
            · have d4 : (o != 0) = true := by simpa using ho
              by_cases hk1 : k = 1
              · have HR : Hid (R = 0) := by unfold Hid; have := HO3.out; simpa [hk1] using this
                have d5 : (k != 1) = false := by simpa using hk1
                clear HO3
                go_wp2
                go_ret
                exact ⟨by rw [HR.out]; rfl, BW.out⟩
              · have HR : Hid (R = 4) := by unfold Hid; have := HO3.out; simpa [hk1, ho] using this
                have d5 : (k != 1) = true := by simpa using hk1
                clear HO3
                go_wp2
                go_ret
                exact ⟨by rw [HR.out]; rfl, BW.out⟩
        · have e3 : (n != 0) = true := by simpa using hne
          have HR : Hid (R = 4) := by unfold Hid; have h1 := HO2.out; have h2 := HK2.out; rw [decide_eq_false hne, Bool.and_false] at h2; simp at h2; simpa [h2] using h1
          clear HO2 HK2 hse d6
          go_enter Tryd.func22, Tryd.ntmps22
          go_wp2_with (first
            | refine wpList_load_midG (by rfl) 23 _ rfl w.heap.size 3 rfl (sm.map (Value.int .u8)) _ RH.out Tryd.underlying23 rfl ZH.out ?_
            | refine wpList_eqiG (by rfl) 23 _ _ _ rfl (u8c sm) (u8c z32) true guardH (EQ2.out _) rfl rfl ?_)
          go_ret
          exact ⟨by rw [HR.out]; rfl, B1.out⟩
      · have e2 : (sm == z32) = false := by simpa using hse
        have EQ2 : Hid (∀ W, (Op.equalIn 10000 23 (.agg (u8c sm)) (.agg (u8c z32))).run Tryd.prog W = .ok false W) := by unfold Hid; intro W; rw [← e2]; exact EQ.out W
        have HR : Hid (R = 4) := by unfold Hid; have h1 := HO2.out; have h2 := HK2.out; rw [decide_eq_false hse, Bool.and_false, Bool.false_and] at h2; simp at h2; simpa [h2] using h1
        clear EQ e2 HO2 HK2 hse d6
        go_enter Tryd.func22, Tryd.ntmps22
        go_wp2_with (first
          | refine wpList_load_midG (by rfl) 23 _ rfl w.heap.size 3 rfl (sm.map (Value.int .u8)) _ RH.out Tryd.underlying23 rfl ZH.out ?_
          | refine wpList_eqiG (by rfl) 23 _ _ _ rfl (u8c sm) (u8c z32) false guardH (EQ2.out _) rfl rfl ?_)
        go_ret
        exact ⟨by rw [HR.out]; rfl, B1.out⟩
    · have e1 : p.toList.isEmpty = false := by
        cases h : p.toList.isEmpty with
        | false => rfl
        | true => exact absurd (HPE.out.2 h) hpe
      have HR : Hid (R = 4) := by unfold Hid; have h1 := HO2.out; have h2 := HK2.out; rw [decide_eq_false hpe, Bool.false_and, Bool.false_and] at h2; simp at h2; simpa [h2] using h1
      clear HO2 HK2 EQ ZH RH HPE
      go_enter Tryd.func22, Tryd.ntmps22
      go_wp2
      go_ret
      exact ⟨by rw [HR.out]; rfl, B1.out⟩
end Go.Proofs.YtcenchnmibdebaaDoor
