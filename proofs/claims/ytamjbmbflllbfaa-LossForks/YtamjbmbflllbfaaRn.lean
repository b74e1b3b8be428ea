/-
  What the document's Next answers.
-/
import Derived.Test.YtamjbmbflllbfaaRh
namespace Go.Proofs.Ytamjbmbflllbfaa
open Go.RowKit Go.Shelf
set_option maxRecDepth 100000

/-- What is known behind i rounds. -/
def nx (l : List Pk) (g late : Int) (i : Nat) : Int × Bool := if 0 < i ∧ (atP l 0).n < g then ((atP l 0).t + late, true) else (0, false)
theorem nx_end {s : Lg} {late : Int} (h : tm late = true) : nx s.o s.g late s.o.length = nxt s late := by
  unfold nx nxt
  by_cases hz : s.o = []
  · rw [hz]; simp
  · have := List.length_pos_iff.2 hz
    by_cases hg : (atP s.o 0).n < s.g
    · rw [if_pos ⟨this, hg⟩, if_pos ⟨hz, hg, h⟩]
    · rw [if_neg (fun e => hg e.2), if_neg (fun e => hg e.2.1)]
set_option maxHeartbeats 4000000 in
theorem rnext_any (w : World) (B : Nat) (v : Value) (k : Int) (q : Pk) (s : Lg) (late : Int) (h : DS w B v k q s) (hok : s.ok) :
    Calls Try.prog 27 #[.agg (dc v k q s.g), .int .i64 late] w fun e w' => e = .returned (.tuple #[.int .i64 (nxt s late).1, .bool (nxt s late).2]) ∧ Below w.heap.size w w' := by
  obtain ⟨W1, hW1⟩ : ∃ W1, W1 = w.alloc (.cells (dc v k q s.g) 31) := ⟨_, rfl⟩
  have b1 : Below w.heap.size w W1 := by rw [hW1]; exact al_b _ _
  have g1 : DB W1 w.heap.size v k q s.g := by rw [hW1]; exact DB.new _ _ _ _ _
  have HB1 : Hid (Below w.heap.size w W1) := b1
  have h1 := h.below b1
  obtain ⟨a, c, rfl, -⟩ := id h.rs.is.shape
  have HC0 : Hid (∀ W, Below W1.heap.size W1 W → W.cell? ⟨w.heap.size, 0, none⟩ = some (.slice a s.o.length c) ∧ W.cell? ⟨w.heap.size, 6, none⟩ = some (.int .i64 s.g)) := fun W hb => ⟨(g1.kept hb).dc.c0, (g1.kept hb).dc.c6⟩
  have HAT : Hid (∀ j, j < s.o.length → ∀ W, Below W1.heap.size W1 W → ∃ b off, a = some ⟨b, off, none⟩ ∧ PC W b (off + j * 4) (atP s.o j)) := fun j hj W hb => (h1.rs.is.kept hb).at j hj
  have hln := hok.ln
  cases hl : tm late with
  | false =>
    have e : nxt s late = (0, false) := by unfold nxt; rw [if_neg (fun e => by rw [hl] at e; cases e.2.2)]
    rw [e]
    have CT : Hid (∀ W, Calls Try.prog 44 #[.int .i64 late] W fun e w' => e = .returned (.bool false) ∧ w' = W) := fun W => by have := rtime_any late W; rwa [hl] at this
    clear h h1 g1 b1 hok e
    obtain ⟨n9, hn9⟩ : ∃ n9, n9 = s.o.length := ⟨_, rfl⟩
    rw [← hn9] at HAT HC0 hln hW1 ⊢
    clear hn9
    obtain ⟨d0, d6⟩ := HC0.out W1 (Below.refl _ _)
    go_enter Try.func27, Try.ntmps27
    go_upto_region 1 with fail
    try rw [← hW1]
    clear hW1
    go_wp2_with fail
    go_loopw [6, 7, 8] (fun u6 u7 u wr => wr = W1 ∧ u6 = .int .i64 0 ∧ u7 = .bool false ∧ u = .int .i64 0) (fun _ _ _ _ => 0)
    case atStart => exact ⟨rfl, rfl, rfl, rfl⟩
    case round =>
      obtain ⟨rfl, rfl, rfl, rfl⟩ := hrel
      by_cases hz : 0 < n9
      · have lt2 : decide ((0 : Int) < (n9 : Int)) = true := decide_eq_true (by omega)
        have lt3 : (0 : Int) < (n9 : Int) := by omega
        have ct := CT.out wr
        go_wp2_with fail
        refine ct.mono ?_
        rintro e w2 ⟨rfl, e1⟩
        rw [e1]
        clear ct e1 w2
        go_wp2
        exact bodyPost_ret (results_tmp2 rfl _ _ _) rfl ⟨rfl, HB1.out⟩
      · have lt2 : decide ((0 : Int) < (n9 : Int)) = false := decide_eq_false (by omega)
        have lt3 : ¬ (0 : Int) < (n9 : Int) := by omega
        go_wp2
        exact bodyPost_ret (results_tmp2 rfl _ _ _) rfl ⟨rfl, HB1.out⟩
  | true =>
    obtain ⟨u0, u1⟩ := tm_iff.1 hl
    have HE : Hid (nx s.o s.g late s.o.length = nxt s late) := nx_end hl
    have CT : Hid (∀ W, Calls Try.prog 44 #[.int .i64 late] W fun e w' => e = .returned (.bool true) ∧ w' = W) := fun W => by have := rtime_any late W; rwa [hl] at this
    have HN0 : Hid (nx s.o s.g late 0 = (0, false)) := by unfold Hid nx; rw [if_neg (by omega)]
    have HFST : Hid (∀ i, i < s.o.length → (atP s.o i).n < s.g → nx s.o s.g late (i + 1) = ((atP s.o 0).t + late, true) ∧ (0 < i → nx s.o s.g late i = ((atP s.o 0).t + late, true)) ∧ (atP s.o 0).t ≤ (atP s.o i).t) := fun i hi hg => by
      have h0 : (atP s.o 0).n ≤ (atP s.o i).n ∧ (atP s.o 0).t ≤ (atP s.o i).t := by
        rcases Nat.eq_zero_or_pos i with rfl | hp
        · exact ⟨Int.le_refl _, Int.le_refl _⟩
        · rw [atP_eq s.o 0 (by omega), atP_eq s.o i hi]
          have := List.pairwise_iff_getElem.1 hok.ri 0 i (by omega) hi hp
          exact ⟨by omega, this.2⟩
      refine ⟨by unfold nx; rw [if_pos ⟨by omega, by omega⟩], fun hp => by unfold nx; rw [if_pos ⟨hp, by omega⟩], h0.2⟩
    have HSND : Hid (∀ i, i < s.o.length → s.g ≤ (atP s.o i).n → nx s.o s.g late (i + 1) = nx s.o s.g late i) := fun i hi hg => by
      unfold nx
      rcases Nat.eq_zero_or_pos i with rfl | hp
      · rw [if_neg (fun e => by omega), if_neg (fun e => by omega)]
      · by_cases h0 : (atP s.o 0).n < s.g
        · rw [if_pos ⟨by omega, h0⟩, if_pos ⟨hp, h0⟩]
        · rw [if_neg (fun e => h0 e.2), if_neg (fun e => h0 e.2)]
    have HTB : Hid (∀ i, i < s.o.length → 0 ≤ (atP s.o i).t ∧ (atP s.o i).t ≤ 1099511627776) := fun i hi => by
      have := hok.ea _ (atP_mem s.o i hi)
      have := this.t0
      have := (hok.ea _ (atP_mem s.o i hi)).t1
      have := hok.t1
      omega
    clear h h1 g1 b1 hok hl
    generalize nxt s late = R at *
    generalize hNX : nx s.o s.g late = NX at *
    clear hNX
    generalize hAv : atP s.o = Av at *
    clear hAv
    obtain ⟨n9, hn9⟩ : ∃ n9, n9 = s.o.length := ⟨_, rfl⟩
    rw [← hn9] at HAT HC0 hln hW1 HE HFST HSND HTB ⊢
    clear hn9
    go_enter Try.func27, Try.ntmps27
    go_upto_region 1 with fail
    try rw [← hW1]
    clear hW1
    go_wp2_with fail
    go_loopw [6, 7, 8] (fun u6 u7 u wr => ∃ i : Nat, i ≤ n9 ∧ u = .int .i64 i ∧ u6 = .int .i64 (NX i).1 ∧ u7 = .bool (NX i).2 ∧ Below W1.heap.size W1 wr) (fun _ _ u _ => n9 - (intOf u).toNat)
    case atStart => exact ⟨0, by omega, rfl, by rw [HN0.out], by rw [HN0.out], Below.refl _ _⟩
    case round =>
      obtain ⟨i, hi, rfl, rfl, rfl, bel⟩ := hrel
      have HB : Hid (Below W1.heap.size W1 wr) := bel
      obtain ⟨d0, d6⟩ := HC0.out wr bel
      have hwr := World.block_lt_of_cell? _ _ d0
      simp only at hwr
      have hwn : ¬ w.heap.size = wr.heap.size := by omega
      clear bel
      by_cases hin : i < n9
      · have lt2 : decide ((i : Int) < (n9 : Int)) = true := decide_eq_true (by omega)
        have lt3 : (i : Int) < (n9 : Int) := by omega
        have l0 : (0 : Int) ≤ (i : Int) := by omega
        have ct := CT.out wr
        obtain ⟨b, off, rfl, c0, c1, c2, c3⟩ := HAT.out i hin wr HB.out
        have HB2 : Hid (Below W1.heap.size W1 (wr.alloc (.cells #[.int .i64 (Av i).n, .int .i64 (Av i).t, .int .i64 (Av i).z, .bool (Av i).a] 29))) := HB.out.trans ((al_b _ _).mono HB.out.size)
        obtain ⟨y0, y1⟩ := HTB.out i hin
        by_cases hg : (Av i).n < s.g
        · have z1 : decide ((Av i).n < s.g) = true := decide_eq_true hg
          obtain ⟨f1, f2, f3⟩ := HFST.out i hin hg
          rcases Nat.eq_zero_or_pos i with rfl | hp
          · have HF1 : Hid (NX (0 + 1) = ((Av 0).t + late, true)) := f1
            have x1 : wrap64 ((Av 0).t + late) = (Av 0).t + late := by unfold wrap64; omega
            have n0 := HN0.out
            rw [n0]
            simp only [Nat.zero_mul, Nat.add_zero] at c0 c1 c2 c3
            clear f1 f2 f3 n0 hg
            generalize Av 0 = p at *
            go_wp2_with fail
            refine ct.mono ?_
            rintro e w2 ⟨rfl, e1⟩
            rw [e1]
            clear ct e1 w2
            go_wp2
            go_roundw
            case rel => exact ⟨0 + 1, by omega, by go_num, by rw [HF1.out], by rw [HF1.out], HB2.out⟩
            case measure => simp [intOf]; omega
          · have HF1 : Hid (NX (i + 1) = ((Av 0).t + late, true)) := f1
            have n0 := f2 hp
            obtain ⟨t0, ht0⟩ : ∃ t0, t0 = (Av 0).t := ⟨_, rfl⟩
            rw [← ht0] at HF1 n0 f3
            rw [n0]
            have x1 : wrap64 ((Av i).t + late) = (Av i).t + late := by unfold wrap64; omega
            have z2 : decide ((Av i).t + late < t0 + late) = false := decide_eq_false (by omega)
            have z3 : ¬ (Av i).t + late < t0 + late := by omega
            clear f1 f2 f3 n0 hg ht0
            generalize Av i = p at *
            go_wp2_with fail
            refine ct.mono ?_
            rintro e w2 ⟨rfl, e1⟩
            rw [e1]
            clear ct e1 w2
            go_wp2
            go_roundw
            case rel => exact ⟨i + 1, by omega, by go_num, by rw [HF1.out], by rw [HF1.out], HB2.out⟩
            case measure => simp [intOf]; omega
        · have z1 : decide ((Av i).n < s.g) = false := decide_eq_false hg
          have HS1 : Hid (NX (i + 1) = NX i) := HSND.out i hin (by omega)
          generalize hNI : NX i = ni at *
          clear hNI
          obtain ⟨na, nb⟩ := ni
          clear hg
          generalize Av i = p at *
          go_wp2_with fail
          refine ct.mono ?_
          rintro e w2 ⟨rfl, e1⟩
          rw [e1]
          clear ct e1 w2
          go_wp2
          go_roundw
          case rel => exact ⟨i + 1, by omega, by go_num, by rw [HS1.out], by rw [HS1.out], HB2.out⟩
          case measure => simp [intOf]; omega
      · obtain rfl : i = n9 := by omega
        have lt2 : decide ((i : Int) < (i : Int)) = false := decide_eq_false (by omega)
        have lt3 : ¬ (i : Int) < (i : Int) := by omega
        rw [HE.out]
        obtain ⟨ra, rb⟩ := R
        go_wp2
        exact bodyPost_ret (results_tmp2 rfl _ _ _) rfl ⟨rfl, HB1.out.trans (HB.out.mono HB1.out.size)⟩
end Go.Proofs.Ytamjbmbflllbfaa
