/-
  What New and Sent answer.
-/
import Derived.Test.YtamjbmbflllbfaaLm
import Derived.Test.YtamjbmbflllbfaaOrd
import Derived.Deep.Cut
import Derived.Deep.AppendLies
import Derived.Deep.QuietTactic
import Derived.BigQuiet
namespace Go.Proofs.Ytamjbmbflllbfaa
open Go.RowKit
set_option maxRecDepth 100000

theorem isTime_any (n : Int) (w : World) : Calls Try.prog 37 #[.int .i64 n] w fun e w' => e = .returned (.bool (tm n)) ∧ w' = w := by
  by_cases h0 : 0 ≤ n
  · by_cases h1 : n ≤ 1099511627776
    · have e : tm n = true := tm_iff.2 ⟨h0, h1⟩
      rw [e]
      go_enter Try.func37, Try.ntmps37
      go_wp2
      go_ret
      exact ⟨rfl, rfl⟩
    · have e : tm n = false := by unfold tm; simp [h1]
      rw [e]
      go_enter Try.func37, Try.ntmps37
      go_wp2
      go_ret
      exact ⟨rfl, rfl⟩
  · have e : tm n = false := by unfold tm; simp [h0]
    rw [e]
    go_enter Try.func37, Try.ntmps37
    go_wp2
    go_ret
    exact ⟨rfl, rfl⟩
theorem rtime_any (n : Int) (w : World) : Calls Try.prog 44 #[.int .i64 n] w fun e w' => e = .returned (.bool (tm n)) ∧ w' = w := by
  by_cases h0 : 0 ≤ n
  · by_cases h1 : n ≤ 1099511627776
    · have e : tm n = true := tm_iff.2 ⟨h0, h1⟩
      rw [e]
      go_enter Try.func44, Try.ntmps44
      go_wp2
      go_ret
      exact ⟨rfl, rfl⟩
    · have e : tm n = false := by unfold tm; simp [h1]
      rw [e]
      go_enter Try.func44, Try.ntmps44
      go_wp2
      go_ret
      exact ⟨rfl, rfl⟩
  · have e : tm n = false := by unfold tm; simp [h0]
    rw [e]
    go_enter Try.func44, Try.ntmps44
    go_wp2
    go_ret
    exact ⟨rfl, rfl⟩
theorem lnew_any (w : World) (B : Nat) : Calls Try.prog 10 #[] w fun e w' => e = .returned (.pointer (some ⟨w.heap.size, 0, none⟩)) ∧ w' = w.alloc (.cells #[.slice none 0 0, .int .i64 (-1), .int .i64 0, .int .i64 (-1)] 62) ∧ LS w' B w.heap.size (.slice none 0 0) lg0 := by
  have HS : Hid (LS (w.alloc (.cells #[.slice none 0 0, .int .i64 (-1), .int .i64 0, .int .i64 (-1)] 62)) B w.heap.size (.slice none 0 0) lg0) := ⟨heap_alloc_new _ _, RP.nil _ _ _, lg0_ok⟩
  go_enter Try.func10, Try.ntmps10
  go_wp2
  go_ret
  exact ⟨rfl, rfl, HS.out⟩
set_option maxHeartbeats 8000000 in
theorem mayGo_any (w : World) (g : Nat) (v : Value) (s : Lg) (p : Pk) (h : LB w g v s) : Calls Try.prog 40 #[.pointer (some ⟨g, 0, none⟩), p.v] w fun e w' => e = .returned (.bool (mgo s p)) ∧ Below w.heap.size w w' := by
  obtain ⟨W1, hW1⟩ : ∃ W1, W1 = w.alloc (.cells #[.int .i64 p.n, .int .i64 p.t, .int .i64 p.z, .bool p.a] 48) := ⟨_, rfl⟩
  have b1 : Below w.heap.size w W1 := by rw [hW1]; exact al_b _ _
  have g1 : PB W1 w.heap.size 48 p := by rw [hW1]; exact PB.new _ _ _
  have HB : Hid (Below w.heap.size w W1) := b1
  obtain ⟨c0, c1, c2, c3⟩ := g1.pc
  obtain ⟨d0, d1, d2, d3, -, -, -, -⟩ := (h.kept b1).lc
  simp only [Nat.zero_add] at c0 c1 c2 c3
  have HM : Hid (mgo s p = (tm p.n && tm p.t && decide (s.n < p.n) && decide (s.t ≤ p.t) && decide (1 ≤ p.z) && decide (p.z ≤ 1200))) := rfl
  clear b1 g1 h
  generalize mgo s p = R at *
  obtain ⟨pn, pt, pz, pa⟩ := p
  obtain ⟨so, sn, st, sg⟩ := s
  simp only at *
  cases y0 : tm pn with
  | false =>
    have HR : Hid (R = false) := by unfold Hid; rw [HM.out]; simp [*]
    clear HM
    go_enter Try.func40, Try.ntmps40
    go_upto_region 1 with fail
    rw [← hW1]
    clear hW1
    go_quiet (first | (go_at_call_of 37 (Value.int .i64 pn); exact Calls.quiet_of_same (isTime_any pn _)) | (go_at_call_of 37 (Value.int .i64 pt); exact Calls.quiet_of_same (isTime_any pt _)))
    have HB2 : Hid (Below w.heap.size w (W1.drewN nq)) := HB.out.trans ((drw W1 nq).mono HB.out.size)
    generalize W1.drewN nq = DW at *
    go_wp2
    go_ret
    exact ⟨by rw [HR.out]; rfl, HB2.out⟩
  | true =>
    cases y1 : tm pt with
    | false =>
      have HR : Hid (R = false) := by unfold Hid; rw [HM.out]; simp [*]
      clear HM
      go_enter Try.func40, Try.ntmps40
      go_upto_region 1 with fail
      rw [← hW1]
      clear hW1
      go_quiet (first | (go_at_call_of 37 (Value.int .i64 pn); exact Calls.quiet_of_same (isTime_any pn _)) | (go_at_call_of 37 (Value.int .i64 pt); exact Calls.quiet_of_same (isTime_any pt _)))
      have HB2 : Hid (Below w.heap.size w (W1.drewN nq)) := HB.out.trans ((drw W1 nq).mono HB.out.size)
      generalize W1.drewN nq = DW at *
      go_wp2
      go_ret
      exact ⟨by rw [HR.out]; rfl, HB2.out⟩
    | true =>
      by_cases y2 : sn < pn
      · have z2 : decide (sn < pn) = true := decide_eq_true y2
        by_cases y3 : st ≤ pt
        · have z3 : decide (st ≤ pt) = true := decide_eq_true y3
          by_cases y4 : 1 ≤ pz
          · have z4 : decide (1 ≤ pz) = true := decide_eq_true y4
            by_cases y5 : pz ≤ 1200
            · have z5 : decide (pz ≤ 1200) = true := decide_eq_true y5
              have HR : Hid (R = true) := by unfold Hid; rw [HM.out]; simp [*]
              clear HM
              go_enter Try.func40, Try.ntmps40
              go_upto_region 1 with fail
              rw [← hW1]
              clear hW1
              go_quiet (first | (go_at_call_of 37 (Value.int .i64 pn); exact Calls.quiet_of_same (isTime_any pn _)) | (go_at_call_of 37 (Value.int .i64 pt); exact Calls.quiet_of_same (isTime_any pt _)))
              have HB2 : Hid (Below w.heap.size w (W1.drewN nq)) := HB.out.trans ((drw W1 nq).mono HB.out.size)
              generalize W1.drewN nq = DW at *
              go_wp2
              go_ret
              exact ⟨by rw [HR.out]; rfl, HB2.out⟩
            · have z5 : decide (pz ≤ 1200) = false := decide_eq_false y5
              have HR : Hid (R = false) := by unfold Hid; rw [HM.out]; simp [*]
              clear HM
              go_enter Try.func40, Try.ntmps40
              go_upto_region 1 with fail
              rw [← hW1]
              clear hW1
              go_quiet (first | (go_at_call_of 37 (Value.int .i64 pn); exact Calls.quiet_of_same (isTime_any pn _)) | (go_at_call_of 37 (Value.int .i64 pt); exact Calls.quiet_of_same (isTime_any pt _)))
              have HB2 : Hid (Below w.heap.size w (W1.drewN nq)) := HB.out.trans ((drw W1 nq).mono HB.out.size)
              generalize W1.drewN nq = DW at *
              go_wp2
              go_ret
              exact ⟨by rw [HR.out]; rfl, HB2.out⟩
          · have z4 : decide (1 ≤ pz) = false := decide_eq_false y4
            have HR : Hid (R = false) := by unfold Hid; rw [HM.out]; simp [*]
            clear HM
            go_enter Try.func40, Try.ntmps40
            go_upto_region 1 with fail
            rw [← hW1]
            clear hW1
            go_quiet (first | (go_at_call_of 37 (Value.int .i64 pn); exact Calls.quiet_of_same (isTime_any pn _)) | (go_at_call_of 37 (Value.int .i64 pt); exact Calls.quiet_of_same (isTime_any pt _)))
            have HB2 : Hid (Below w.heap.size w (W1.drewN nq)) := HB.out.trans ((drw W1 nq).mono HB.out.size)
            generalize W1.drewN nq = DW at *
            go_wp2
            go_ret
            exact ⟨by rw [HR.out]; rfl, HB2.out⟩
        · have z3 : decide (st ≤ pt) = false := decide_eq_false y3
          have HR : Hid (R = false) := by unfold Hid; rw [HM.out]; simp [*]
          clear HM
          go_enter Try.func40, Try.ntmps40
          go_upto_region 1 with fail
          rw [← hW1]
          clear hW1
          go_quiet (first | (go_at_call_of 37 (Value.int .i64 pn); exact Calls.quiet_of_same (isTime_any pn _)) | (go_at_call_of 37 (Value.int .i64 pt); exact Calls.quiet_of_same (isTime_any pt _)))
          have HB2 : Hid (Below w.heap.size w (W1.drewN nq)) := HB.out.trans ((drw W1 nq).mono HB.out.size)
          generalize W1.drewN nq = DW at *
          go_wp2
          go_ret
          exact ⟨by rw [HR.out]; rfl, HB2.out⟩
      · have z2 : decide (sn < pn) = false := decide_eq_false y2
        have HR : Hid (R = false) := by unfold Hid; rw [HM.out]; simp [*]
        clear HM
        go_enter Try.func40, Try.ntmps40
        go_upto_region 1 with fail
        rw [← hW1]
        clear hW1
        go_quiet (first | (go_at_call_of 37 (Value.int .i64 pn); exact Calls.quiet_of_same (isTime_any pn _)) | (go_at_call_of 37 (Value.int .i64 pt); exact Calls.quiet_of_same (isTime_any pt _)))
        have HB2 : Hid (Below w.heap.size w (W1.drewN nq)) := HB.out.trans ((drw W1 nq).mono HB.out.size)
        generalize W1.drewN nq = DW at *
        go_wp2
        go_ret
        exact ⟨by rw [HR.out]; rfl, HB2.out⟩
end Go.Proofs.Ytamjbmbflllbfaa
