/-
  What the document's Sample answers.
-/
import Derived.Test.YtbomkapnkpjjbaaSm
namespace Go.Proofs.Ytbomkapnkpjjbaa
open Go.RowKit

theorem infoR : (Try.prog.info? 23).map (·.size) = some 5 := by kernel_rfl
set_option maxHeartbeats 8000000 in
theorem rsample_any (h : Bool) (l m s v a d : Int) (w : World) : Calls Try.prog 9 #[.agg #[.bool h, .int .i64 l, .int .i64 m, .int .i64 s, .int .i64 v], .int .i64 a, .int .i64 d] w fun e w' => e = .returned (.agg (smp ⟨h, l, m, s, v⟩ a d).c) ∧ Below w.heap.size w w' := by
  obtain ⟨W2, hW2⟩ : ∃ W2, W2 = (w.alloc (.cells #[.bool h, .int .i64 l, .int .i64 m, .int .i64 s, .int .i64 v] 23)).alloc (.cells #[.bool false, .int .i64 0, .int .i64 0, .int .i64 0, .int .i64 0] 23) := ⟨_, rfl⟩
  have b0 : Below w.heap.size w (w.alloc (.cells #[.bool h, .int .i64 l, .int .i64 m, .int .i64 s, .int .i64 v] 23)) := al_below _ _
  have z0 : (w.alloc (.cells #[.bool h, .int .i64 l, .int .i64 m, .int .i64 s, .int .i64 v] 23)).heap.size = w.heap.size + 1 := by simp
  have b2 : Below w.heap.size w W2 := by rw [hW2]; exact b0.trans ((al_below _ _).mono b0.size)
  have s2 : SB W2 w.heap.size 23 ⟨h, l, m, s, v⟩ := by rw [hW2]; exact SB.kept (heap_new _ _) (al_below _ _)
  have r2 : SB W2 (w.heap.size + 1) 23 Sta.z := by rw [hW2, ← z0]; exact heap_new _ _
  have HB : Hid (Below w.heap.size w W2) := b2
  have HS : Hid (SB W2 w.heap.size 23 ⟨h, l, m, s, v⟩) := s2
  have HR : Hid (SB W2 (w.heap.size + 1) 23 Sta.z) := r2
  clear b0 z0 b2 s2 r2
  by_cases ta' : tm a = false
  · have er : smp ⟨h, l, m, s, v⟩ a d = ⟨h, l, m, s, v⟩ := by unfold smp; rw [if_pos (.inl ta')]
    rw [er]
    clear er
    go_enter Try.func9, Try.ntmps9
    go_upto_region 1 with fail
    rw [← hW2]
    clear hW2
    go_wp2_with fail
    refine (rtime_any _ _).mono ?_
    rintro e w' ⟨rfl, rfl⟩
    go_wp2_with (first | refine wpList_load_row rfl 23 _ rfl w.heap.size rfl 23 #[.bool h, .int .i64 l, .int .i64 m, .int .i64 s, .int .i64 v] (0, 0) _ HS.out Try.underlying23 rfl infoR ?_ | refine wpList_store_row rfl 23 _ _ rfl (w.heap.size + 1) #[.bool h, .int .i64 l, .int .i64 m, .int .i64 s, .int .i64 v] rfl rfl 23 _ HR.out infoR rfl (st5_one _ _ _ _ _) (Hid.out ?_))
    unfold Hid
    go_wp2
    refine bodyPost_ret (v := .agg #[.bool h, .int .i64 l, .int .i64 m, .int .i64 s, .int .i64 v]) (results_cell_row rfl _ _ (w.heap.size + 1) 23 #[.bool h, .int .i64 l, .int .i64 m, .int .i64 s, .int .i64 v] (0, 0) _ rfl (setRow_heap _ _ _ _ _ _ HR.out) Try.underlying23 rfl infoR) rfl ?_
    exact ⟨rfl, below_setRow HB.out (Nat.le_succ _) _⟩
  have ta0 : tm a = true := by simpa using ta'
  by_cases td' : tm d = false
  · have er : smp ⟨h, l, m, s, v⟩ a d = ⟨h, l, m, s, v⟩ := by unfold smp; rw [if_pos (.inr td')]
    rw [er]
    clear er
    go_enter Try.func9, Try.ntmps9
    go_upto_region 1 with fail
    rw [← hW2]
    clear hW2
    go_wp2_with fail
    refine (rtime_any _ _).mono ?_
    rintro e w' ⟨rfl, rfl⟩
    go_wp2_with fail
    refine (rtime_any _ _).mono ?_
    rintro e w' ⟨rfl, rfl⟩
    go_wp2_with (first | refine wpList_load_row rfl 23 _ rfl w.heap.size rfl 23 #[.bool h, .int .i64 l, .int .i64 m, .int .i64 s, .int .i64 v] (0, 0) _ HS.out Try.underlying23 rfl infoR ?_ | refine wpList_store_row rfl 23 _ _ rfl (w.heap.size + 1) #[.bool h, .int .i64 l, .int .i64 m, .int .i64 s, .int .i64 v] rfl rfl 23 _ HR.out infoR rfl (st5_one _ _ _ _ _) (Hid.out ?_))
    unfold Hid
    go_wp2
    refine bodyPost_ret (v := .agg #[.bool h, .int .i64 l, .int .i64 m, .int .i64 s, .int .i64 v]) (results_cell_row rfl _ _ (w.heap.size + 1) 23 #[.bool h, .int .i64 l, .int .i64 m, .int .i64 s, .int .i64 v] (0, 0) _ rfl (setRow_heap _ _ _ _ _ _ HR.out) Try.underlying23 rfl infoR) rfl ?_
    exact ⟨rfl, below_setRow HB.out (Nat.le_succ _) _⟩
  have ta : tm a = true := ta0
  have td : tm d = true := by simpa using td'
  clear ta' td' ta0
  obtain ⟨a0, a1⟩ := tm_iff.1 ta
  obtain ⟨d0, d1⟩ := tm_iff.1 td
  cases h
  · have er : smp ⟨false, l, m, s, v⟩ a d = ⟨true, a, a, a, a / 2⟩ := by unfold smp; rw [if_neg (by simp [ta, td]), if_pos (show kn ⟨false, l, m, s, v⟩ = false from rfl)]
    rw [er]
    have q1 : Int.tdiv a 2 = a / 2 := Int.tdiv_eq_ediv_of_nonneg a0
    have q2 := wrS (x := a / 2) (by omega) (by omega)
    clear er
    go_enter Try.func9, Try.ntmps9
    go_upto_region 1 with fail
    rw [← hW2]
    clear hW2
    go_wp2_with fail
    refine (rtime_any _ _).mono ?_
    rintro e w' ⟨rfl, rfl⟩
    go_wp2_with fail
    refine (rtime_any _ _).mono ?_
    rintro e w' ⟨rfl, rfl⟩
    obtain ⟨c0, c1, c2, c3, c4⟩ := HS.out.sc
    go_wp2_with (first | refine wpList_store_row rfl 23 _ _ rfl (w.heap.size + 1) #[.bool true, .int .i64 a, .int .i64 a, .int .i64 a, .int .i64 (a / 2)] rfl rfl 23 _ HR.out infoR rfl (st5_one _ _ _ _ _) (Hid.out ?_))
    unfold Hid
    go_wp2
    refine bodyPost_ret (v := .agg #[.bool true, .int .i64 a, .int .i64 a, .int .i64 a, .int .i64 (a / 2)]) (results_cell_row rfl _ _ (w.heap.size + 1) 23 #[.bool true, .int .i64 a, .int .i64 a, .int .i64 a, .int .i64 (a / 2)] (0, 0) _ rfl (setRow_heap _ _ _ _ _ _ HR.out) Try.underlying23 rfl infoR) rfl ?_
    exact ⟨rfl, below_setRow HB.out (Nat.le_succ _) _⟩
  by_cases tk' : chk ⟨true, l, m, s, v⟩ = false
  · have tk2 : kn ⟨true, l, m, s, v⟩ = false := by unfold kn; rw [tk']; rfl
    have er : smp ⟨true, l, m, s, v⟩ a d = ⟨true, a, a, a, a / 2⟩ := by unfold smp; rw [if_neg (by simp [ta, td]), if_pos tk2]
    rw [er]
    have q1 : Int.tdiv a 2 = a / 2 := Int.tdiv_eq_ediv_of_nonneg a0
    have q2 := wrS (x := a / 2) (by omega) (by omega)
    clear er
    clear tk2
    go_enter Try.func9, Try.ntmps9
    go_upto_region 1 with fail
    rw [← hW2]
    clear hW2
    go_wp2_with fail
    refine (rtime_any _ _).mono ?_
    rintro e w' ⟨rfl, rfl⟩
    go_wp2_with fail
    refine (rtime_any _ _).mono ?_
    rintro e w' ⟨rfl, rfl⟩
    obtain ⟨c0, c1, c2, c3, c4⟩ := HS.out.sc
    go_wp2_with (refine wpList_load_row rfl 23 _ rfl w.heap.size rfl 23 #[.bool true, .int .i64 l, .int .i64 m, .int .i64 s, .int .i64 v] (0, 0) _ HS.out Try.underlying23 rfl infoR ?_)
    refine (rcheck_any true l m s v _).mono ?_
    rintro e w3 ⟨rfl, b3⟩
    have HB3 : Hid (Below w.heap.size w w3) := HB.out.trans (b3.mono HB.out.size)
    have HS3 : Hid (SB w3 w.heap.size 23 ⟨true, l, m, s, v⟩) := HS.out.kept b3
    have HR3 : Hid (SB w3 (w.heap.size + 1) 23 Sta.z) := HR.out.kept b3
    clear b3 HB HS HR c0 c1 c2 c3 c4
    go_wp2_with (first | refine wpList_store_row rfl 23 _ _ rfl (w.heap.size + 1) #[.bool true, .int .i64 a, .int .i64 a, .int .i64 a, .int .i64 (a / 2)] rfl rfl 23 _ HR3.out infoR rfl (st5_one _ _ _ _ _) (Hid.out ?_))
    unfold Hid
    go_wp2
    refine bodyPost_ret (v := .agg #[.bool true, .int .i64 a, .int .i64 a, .int .i64 a, .int .i64 (a / 2)]) (results_cell_row rfl _ _ (w.heap.size + 1) 23 #[.bool true, .int .i64 a, .int .i64 a, .int .i64 a, .int .i64 (a / 2)] (0, 0) _ rfl (setRow_heap _ _ _ _ _ _ HR3.out) Try.underlying23 rfl infoR) rfl ?_
    exact ⟨rfl, below_setRow HB3.out (Nat.le_succ _) _⟩
  have tk : kn ⟨true, l, m, s, v⟩ = true := by unfold kn; simpa using tk'
  have tc : chk ⟨true, l, m, s, v⟩ = true := by simpa using tk'
  obtain ⟨-, hl, hm, hs, hv, hml⟩ := kn_tm tk
  obtain ⟨q, hq⟩ : ∃ q, q = min m a := ⟨_, rfl⟩
  obtain ⟨b, hb⟩ : ∃ b, b = adj a d q := ⟨_, rfl⟩
  have hqb : 0 ≤ q ∧ q ≤ 1099511627776 := by omega
  have hbb : 0 ≤ b ∧ b ≤ 1099511627776 := by rw [hb]; unfold adj; split <;> omega
  obtain ⟨p, hp⟩ : ∃ p, p = apt s b := ⟨_, rfl⟩
  have hpb : 0 ≤ p ∧ p ≤ 1099511627776 := by rw [hp]; unfold apt; split <;> omega
  obtain ⟨S, hS⟩ : ∃ S, S = (7 * s + b) / 8 := ⟨_, rfl⟩
  obtain ⟨V, hV⟩ : ∃ V, V = (3 * v + p) / 4 := ⟨_, rfl⟩
  have er : smp ⟨true, l, m, s, v⟩ a d = ⟨true, a, q, S, V⟩ := by
    unfold smp
    rw [if_neg (by simp [ta, td]), if_neg (by rw [tk]; decide), hS, hV, hp, hb, hq]
  rw [er]
  have k0 := wrS (x := a - d) (by omega) (by omega)
  have k1 := wrS (x := 7 * s) (by omega) (by omega)
  have k2 := wrS (x := 7 * s + b) (by omega) (by omega)
  have k3 : Int.tdiv (7 * s + b) 8 = S := by rw [hS]; exact Int.tdiv_eq_ediv_of_nonneg (by omega)
  have k4 := wrS (x := S) (by omega) (by omega)
  have k5 := wrS (x := 3 * v) (by omega) (by omega)
  have k6 := wrS (x := 3 * v + p) (by omega) (by omega)
  have k7 : Int.tdiv (3 * v + p) 4 = V := by rw [hV]; exact Int.tdiv_eq_ediv_of_nonneg (by omega)
  have k8 := wrS (x := V) (by omega) (by omega)
  have k9 := wrS (x := s - b) (by omega) (by omega)
  have k10 := wrS (x := b - s) (by omega) (by omega)
  have k11 : max (s - b) (b - s) = p := by rw [hp]; unfold apt; split <;> omega
  have HQ : Hid (min m a = q) := hq.symm
  have HW : Hid (q ≤ a - d ∧ b = a - d ∨ ¬ q ≤ a - d ∧ b = a) := by
    unfold Hid
    rw [hb]
    unfold adj
    split
    · exact .inr ⟨by omega, rfl⟩
    · exact .inl ⟨by omega, rfl⟩
  clear hS hV hp hb hq er hpb hbb hqb hl hm hs hv hml a0 a1 d0 d1
  rcases HW.out with ⟨hw, rfl⟩ | ⟨hw, rfl⟩
  · go_enter Try.func9, Try.ntmps9
    go_upto_region 1 with fail
    rw [← hW2]
    clear hW2
    go_wp2_with fail
    refine (rtime_any _ _).mono ?_
    rintro e w' ⟨rfl, rfl⟩
    go_wp2_with fail
    refine (rtime_any _ _).mono ?_
    rintro e w' ⟨rfl, rfl⟩
    obtain ⟨c0, c1, c2, c3, c4⟩ := HS.out.sc
    go_wp2_with (refine wpList_load_row rfl 23 _ rfl w.heap.size rfl 23 #[.bool true, .int .i64 l, .int .i64 m, .int .i64 s, .int .i64 v] (0, 0) _ HS.out Try.underlying23 rfl infoR ?_)
    refine (rcheck_any true l m s v _).mono ?_
    rintro e w3 ⟨rfl, b3⟩
    have HB3 : Hid (Below w.heap.size w w3) := HB.out.trans (b3.mono HB.out.size)
    have HS3 : Hid (SB w3 w.heap.size 23 ⟨true, l, m, s, v⟩) := HS.out.kept b3
    have HR3 : Hid (SB w3 (w.heap.size + 1) 23 Sta.z) := HR.out.kept b3
    clear b3 HB HS HR c0 c1 c2 c3 c4
    obtain ⟨c0, c1, c2, c3, c4⟩ := HS3.out.sc
    have hq := HQ.out
    go_wp2_with (first | refine wpList_store_row rfl 23 _ _ rfl (w.heap.size + 1) #[.bool true, .int .i64 a, .int .i64 q, .int .i64 S, .int .i64 V] rfl rfl 23 _ HR3.out infoR rfl (st5_one _ _ _ _ _) (Hid.out ?_))
    unfold Hid
    go_wp2
    refine bodyPost_ret (v := .agg #[.bool true, .int .i64 a, .int .i64 q, .int .i64 S, .int .i64 V]) (results_cell_row rfl _ _ (w.heap.size + 1) 23 #[.bool true, .int .i64 a, .int .i64 q, .int .i64 S, .int .i64 V] (0, 0) _ rfl (setRow_heap _ _ _ _ _ _ HR3.out) Try.underlying23 rfl infoR) rfl ?_
    exact ⟨rfl, below_setRow HB3.out (Nat.le_succ _) _⟩
  · go_enter Try.func9, Try.ntmps9
    go_upto_region 1 with fail
    rw [← hW2]
    clear hW2
    go_wp2_with fail
    refine (rtime_any _ _).mono ?_
    rintro e w' ⟨rfl, rfl⟩
    go_wp2_with fail
    refine (rtime_any _ _).mono ?_
    rintro e w' ⟨rfl, rfl⟩
    obtain ⟨c0, c1, c2, c3, c4⟩ := HS.out.sc
    go_wp2_with (refine wpList_load_row rfl 23 _ rfl w.heap.size rfl 23 #[.bool true, .int .i64 l, .int .i64 m, .int .i64 s, .int .i64 v] (0, 0) _ HS.out Try.underlying23 rfl infoR ?_)
    refine (rcheck_any true l m s v _).mono ?_
    rintro e w3 ⟨rfl, b3⟩
    have HB3 : Hid (Below w.heap.size w w3) := HB.out.trans (b3.mono HB.out.size)
    have HS3 : Hid (SB w3 w.heap.size 23 ⟨true, l, m, s, v⟩) := HS.out.kept b3
    have HR3 : Hid (SB w3 (w.heap.size + 1) 23 Sta.z) := HR.out.kept b3
    clear b3 HB HS HR c0 c1 c2 c3 c4
    obtain ⟨c0, c1, c2, c3, c4⟩ := HS3.out.sc
    have hq := HQ.out
    go_wp2_with (first | refine wpList_store_row rfl 23 _ _ rfl (w.heap.size + 1) #[.bool true, .int .i64 b, .int .i64 q, .int .i64 S, .int .i64 V] rfl rfl 23 _ HR3.out infoR rfl (st5_one _ _ _ _ _) (Hid.out ?_))
    unfold Hid
    go_wp2
    refine bodyPost_ret (v := .agg #[.bool true, .int .i64 b, .int .i64 q, .int .i64 S, .int .i64 V]) (results_cell_row rfl _ _ (w.heap.size + 1) 23 #[.bool true, .int .i64 b, .int .i64 q, .int .i64 S, .int .i64 V] (0, 0) _ rfl (setRow_heap _ _ _ _ _ _ HR3.out) Try.underlying23 rfl infoR) rfl ?_
    exact ⟨rfl, below_setRow HB3.out (Nat.le_succ _) _⟩
end Go.Proofs.Ytbomkapnkpjjbaa
