/-
  Whether a number is in spans; the closure of Ack.
-/
import Derived.Test.YtamjbmbflllbfaaLm
import Derived.Test.YtamjbmbflllbfaaSo
namespace Go.Proofs.Ytamjbmbflllbfaa
open Go.RowKit Go.Shelf
set_option maxRecDepth 100000

theorem inS_eq {l : List Sp} (h : Canon l) (n : Int) : inS l n = (decide (fE l n < l.length) && decide ((atS l (fE l n)).1 ≤ n)) := by
  rw [Bool.eq_iff_iff]
  unfold inS
  simp only [List.any_eq_true, Bool.and_eq_true, decide_eq_true_eq]
  constructor
  · rintro ⟨x, hx, h1, h2⟩
    obtain ⟨j, hj, rfl⟩ := mem_idx hx
    have hle := (fE_lt h n hj).2 h2
    have hlt : fE l n < l.length := by omega
    have h3 := (fE_lt h n hlt).1 (Nat.le_refl _)
    by_cases e : fE l n = j
    · rw [e]; exact ⟨hj, h1⟩
    · have := h.rise (show fE l n < j by omega) hj
      omega
  · rintro ⟨hlt, h1⟩
    exact ⟨_, atS_mem l _ hlt, h1, (fE_lt h n hlt).1 (Nat.le_refl _)⟩
/-- Two variables that a closure captured: spans and a number. -/
def C2i (w : World) (b : Nat) (v : Value) (n : Int) : Prop := w.heap[b]? = some (.cells #[v] 35 (0, 0)) ∧ w.heap[b + 1]? = some (.cells #[.int .i64 n] 3 (0, 0))
theorem C2i.kept {w w' : World} {b : Nat} {v : Value} {n : Int} (h : C2i w b v n) (hb : Below w.heap.size w w') : C2i w' b v n := ⟨blk_kept h.1 hb (blk_lt h.1), blk_kept h.2 hb (blk_lt h.2)⟩
set_option maxHeartbeats 2000000 in
theorem in1_any (w : World) (b : Nat) (v : Value) (l : List Sp) (n : Int) (i : Nat) (hc : C2i w b v n) (hv : SSp w v l) (_ : l.length ≤ 100000) (hi : i < l.length) :
    Calls Try.prog 47 #[.int .i64 (i : Int), .pointer (some ⟨b, 0, none⟩), .pointer (some ⟨b + 1, 0, none⟩)] w fun e w' => e = .returned (.bool (decide (n ≤ (atS l i).2))) ∧ Below w.heap.size w w' := by
  obtain ⟨a, c, rfl, h2, h3, h4⟩ := hv.shape
  obtain ⟨bb, off, rfl, hr⟩ := hv.at i hi
  obtain ⟨k0, k1⟩ := spC hr
  have d0 : w.cell? ⟨b, 0, none⟩ = some (.slice (some ⟨bb, off, none⟩) l.length c) := by have := hc.1; simp [World.cell?, this]
  have d1 : w.cell? ⟨b + 1, 0, none⟩ = some (.int .i64 n) := by have := hc.2; simp [World.cell?, this]
  have hlt : (i : Int) < (l.length : Int) := by omega
  have hl0 : (0 : Int) ≤ (i : Int) := by omega
  clear hc hv hr h4
  generalize atS l i = x at *
  generalize l.length = n9 at *
  go_enter Try.func47, Try.ntmps47
  go_wp2_with fail
  go_quiet (fail)
  have BD : Hid (Below w.heap.size w (w.drewN nq)) := drn w nq
  generalize w.drewN nq = DW at *
  go_wp2
  go_ret
  exact ⟨rfl, BD.out⟩
set_option maxHeartbeats 2000000 in
theorem inS_any (w : World) (b : Nat) (v : Value) (l : List Sp) (n : Int) (hc : C2i w b v n) (hv : SSp w v l) (hcn : Canon l) (hl : l.length ≤ 100000) :
    Calls Try.prog 46 #[.int .i64 (l.length : Int), .func (.func 47) #[] #[.pointer (some ⟨b, 0, none⟩), .pointer (some ⟨b + 1, 0, none⟩)]] w fun e w' => e = .returned (.int .i64 (fE l n : Nat)) ∧ Below w.heap.size w w' := by
  have q1 : fE l n ≤ l.length := fE_le l n
  have CF : Hid (∀ W i, Below w.heap.size w W → i < l.length → Calls Try.prog 47 #[.int .i64 (i : Int), .pointer (some ⟨b, 0, none⟩), .pointer (some ⟨b + 1, 0, none⟩)] W fun e w' => e = .returned (.bool (decide (fE l n ≤ i))) ∧ Below W.heap.size W w') := fun W i hb hi => by
    have := in1_any W b v l n i (hc.kept hb) (hv.kept hb) hl hi
    have e : (decide (n ≤ (atS l i).2)) = decide (fE l n ≤ i) := by rw [Bool.eq_iff_iff, decide_eq_true_eq, decide_eq_true_eq, fE_lt hcn n hi]
    rwa [e] at this
  clear hc hv hcn
  generalize fE l n = m at *
  generalize l.length = n9 at *
  go_enter Try.func46, Try.ntmps46
  go_wp2
  go_loopw [5, 6] (fun u v wr => ∃ i j : Nat, i ≤ m ∧ m ≤ j ∧ j ≤ n9 ∧ u = .int .i64 i ∧ v = .int .i64 j ∧ Below w.heap.size w wr) (fun u v _ => (intOf v).toNat - (intOf u).toNat)
  case atStart => exact ⟨0, n9, by omega, q1, Nat.le_refl _, rfl, rfl, Below.refl _ _⟩
  case round =>
    obtain ⟨i, j, h1, h2, h3, rfl, rfl, bel⟩ := hrel
    have HB : Hid (Below w.heap.size w wr) := bel
    clear bel
    by_cases hlt : i < j
    · have lt2 : (i : Int) < (j : Int) := by omega
      have CS := CF.out wr ((i + j) / 2) HB.out (by omega)
      rw [show (((i + j) / 2 : Nat) : Int) = ((i : Int) + (j : Int)) / 2 by omega] at CS
      by_cases hm : m ≤ (i + j) / 2
      · rw [decide_eq_true hm] at CS
        go_wp2_with fail
        refine CS.mono ?_
        rintro e w2 ⟨rfl, b2⟩
        have B2 : Hid (Below w.heap.size w w2) := HB.out.trans (b2.mono HB.out.size)
        clear CS b2
        go_wp2
        go_roundw
        case rel => exact ⟨i, (i + j) / 2, h1, hm, by omega, rfl, by rw [show (((i + j) / 2 : Nat) : Int) = ((i : Int) + (j : Int)) / 2 by omega], B2.out⟩
        case measure => simp [intOf]; omega
      · rw [decide_eq_false hm] at CS
        go_wp2_with fail
        refine CS.mono ?_
        rintro e w2 ⟨rfl, b2⟩
        have B2 : Hid (Below w.heap.size w w2) := HB.out.trans (b2.mono HB.out.size)
        clear CS b2
        go_wp2
        go_roundw
        case rel => exact ⟨(i + j) / 2 + 1, j, by omega, h2, h3, by rw [show (((i + j) / 2 + 1 : Nat) : Int) = ((i : Int) + (j : Int)) / 2 + 1 by omega], rfl, B2.out⟩
        case measure => simp [intOf]; omega
    · obtain rfl : i = j := by omega
      obtain rfl : m = i := by omega
      have lt2 : ¬ (m : Int) < (m : Int) := by omega
      go_wp2
      go_ret
      exact ⟨rfl, HB.out⟩
set_option maxHeartbeats 2000000 in
theorem isIn_any (w : World) (v : Value) (l : List Sp) (n : Int) (hv : SSp w v l) (hcn : Canon l) (hl : l.length ≤ 1000) :
    Calls Try.prog 34 #[v, .int .i64 n] w fun e w' => e = .returned (.bool (inS l n)) ∧ Below w.heap.size w w' := by
  obtain ⟨W0, hW0⟩ : ∃ W0, W0 = w.alloc (.cells #[v] 35) := ⟨_, rfl⟩
  obtain ⟨W1, hW1⟩ : ∃ W1, W1 = W0.alloc (.cells #[.int .i64 n] 3) := ⟨_, rfl⟩
  have z0 : W0.heap.size = w.heap.size + 1 := by rw [hW0]; simp
  have b0 : Below w.heap.size w W0 := by rw [hW0]; exact al_b _ _
  have b1 : Below W0.heap.size W0 W1 := by rw [hW1]; exact al_b _ _
  have g0 : W0.heap[w.heap.size]? = some (.cells #[v] 35 (0, 0)) := by rw [hW0]; exact heap_alloc_new _ _
  have c2 : C2i W1 w.heap.size v n := ⟨blk_kept g0 b1 (blk_lt g0), by rw [hW1, ← z0]; exact heap_alloc_new _ _⟩
  have b01 : Below w.heap.size w W1 := b0.trans (b1.mono b0.size)
  have v1 := hv.kept b01
  have cs := inS_any W1 w.heap.size v l n c2 v1 hcn (by omega)
  obtain ⟨a, c, rfl, h2, h3, h4⟩ := hv.shape
  have HC : Hid (C2i W1 w.heap.size (.slice a l.length c) n ∧ SSp W1 (.slice a l.length c) l) := ⟨c2, v1⟩
  have d0 : W1.cell? ⟨w.heap.size, 0, none⟩ = some (.slice a l.length c) := by have := c2.1; simp [World.cell?, this]
  have HB : Hid (Below w.heap.size w W1) := b01
  have hw0 := hW0.symm
  have hw1 := hW1.symm
  have HZ : Hid (W0.heap.size = w.heap.size + 1) := z0
  have HE : Hid (inS l n = (decide (fE l n < l.length) && decide ((atS l (fE l n)).1 ≤ n))) := inS_eq hcn n
  have hfl := fE_le l n
  generalize inS l n = R at *
  obtain ⟨m, hm⟩ : ∃ m, m = fE l n := ⟨_, rfl⟩
  rw [← hm] at cs HE hfl
  clear hv hcn v1 c2 g0 b0 b1 b01 hW0 hW1 z0 hm h4
  obtain ⟨n9, hn9⟩ : ∃ n9, n9 = l.length := ⟨_, rfl⟩
  have HN9 : Hid (n9 = l.length) := hn9
  rw [← hn9] at cs HC d0 hfl HE hl h2 hw0 ⊢
  clear hn9
  obtain ⟨gp, hgp⟩ : ∃ gp, gp = w.heap.size := ⟨_, rfl⟩
  have HGP : Hid (gp = w.heap.size) := hgp
  rw [← hgp] at cs HC d0 HZ
  go_enter Try.func34, Try.ntmps34
  go_upto_region 1 with fail
  try rw [hw0]
  try rw [hw1]
  try rw [HZ.out]
  try rw [← hgp]
  clear hw0 hw1 hgp
  go_wp2_with fail
  refine cs.mono ?_
  rintro e w2 ⟨rfl, b2⟩
  have B2 : Hid (Below w.heap.size w w2) := HB.out.trans (b2.mono HB.out.size)
  obtain ⟨hc2, hv2⟩ := HC.out
  have hc2 := hc2.kept b2
  have hv2 := hv2.kept b2
  have d0 : w2.cell? ⟨gp, 0, none⟩ = some (.slice a n9 c) := by have := hc2.1; simp [World.cell?, this]
  have d1 : w2.cell? ⟨gp + 1, 0, none⟩ = some (.int .i64 n) := by have := hc2.2; simp [World.cell?, this]
  by_cases hmn : m < n9
  · obtain ⟨bb, off, rfl, hr⟩ := hv2.at m (by rw [← HN9.out]; exact hmn)
    obtain ⟨k0, k1⟩ := spC hr
    have lt2 : decide ((m : Int) < (n9 : Int)) = true := by simp; omega
    have lt3 : (m : Int) < (n9 : Int) := by omega
    have l0 : (0 : Int) ≤ (m : Int) := by omega
    have HR : Hid (R = decide ((atS l m).1 ≤ n)) := by unfold Hid; rw [HE.out, decide_eq_true hmn, Bool.true_and]
    clear cs b2 hc2 hv2 hr HE HC
    generalize atS l m = x at *
    go_wp2_with fail
    go_quiet (fail)
    have BD : Hid (Below w.heap.size w (w2.drewN nq)) := B2.out.trans ((drn w2 nq).mono B2.out.size)
    generalize w2.drewN nq = DW at *
    go_wp2
    go_ret
    exact ⟨by rw [HR.out]; rfl, BD.out⟩
  · have lt2 : decide ((m : Int) < (n9 : Int)) = false := by simp; omega
    have lt3 : ¬ (m : Int) < (n9 : Int) := by omega
    have HR : Hid (R = false) := by unfold Hid; rw [HE.out, decide_eq_false hmn]; rfl
    clear cs b2 hc2 hv2 HE HC
    go_wp2_with fail
    go_quiet (fail)
    have BD : Hid (Below w.heap.size w (w2.drewN nq)) := B2.out.trans ((drn w2 nq).mono B2.out.size)
    generalize w2.drewN nq = DW at *
    go_wp2
    go_ret
    exact ⟨by rw [HR.out]; rfl, BD.out⟩
set_option maxHeartbeats 1000000 in
theorem ack1_any (w : World) (b : Nat) (v : Value) (l : List Sp) (p : Pk) (hc : w.heap[b]? = some (.cells #[v] 35 (0, 0))) (hv : SSp w v l) (hcn : Canon l) (hl : l.length ≤ 1000) :
    Calls Try.prog 33 #[p.v, .pointer (some ⟨b, 0, none⟩)] w fun e w' => e = .returned (.bool (inS l p.n)) ∧ Below w.heap.size w w' := by
  obtain ⟨W1, hW1⟩ : ∃ W1, W1 = w.alloc (.cells #[.int .i64 p.n, .int .i64 p.t, .int .i64 p.z, .bool p.a] 48) := ⟨_, rfl⟩
  have b1 : Below w.heap.size w W1 := by rw [hW1]; exact al_b _ _
  have g1 : PB W1 w.heap.size 48 p := by rw [hW1]; exact PB.new _ _ _
  have ci := isIn_any W1 v l p.n (hv.kept b1) hcn hl
  have HB : Hid (Below w.heap.size w W1) := b1
  obtain ⟨c0, c1, c2, c3⟩ := g1.pc
  simp only [Nat.zero_add] at c0 c1 c2 c3
  have d0 : W1.cell? ⟨b, 0, none⟩ = some v := by have := blk_kept hc b1 (blk_lt hc); simp [World.cell?, this]
  obtain ⟨a, c, rfl, -⟩ := hv.shape
  clear b1 g1 hc hv hcn
  generalize inS l p.n = R at *
  generalize l.length = n9 at *
  go_enter Try.func33, Try.ntmps33
  go_upto_region 1 with fail
  rw [← hW1]
  clear hW1
  go_wp2_with fail
  refine ci.mono ?_
  rintro e w2 ⟨rfl, b2⟩
  have B2 : Hid (Below w.heap.size w w2) := HB.out.trans (b2.mono HB.out.size)
  clear ci b2
  go_wp2
  go_ret
  exact ⟨rfl, B2.out⟩
end Go.Proofs.Ytamjbmbflllbfaa
