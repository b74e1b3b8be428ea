/-
  What Size, sizeMayBe, count and check answer, and the document's Size and Check; nothing is changed.
-/
import Derived.Test.YtjiefndjgkhcjaaDoorSb
namespace Go.Proofs.YtjiefndjgkhcjaaDoor
open Go.RowKit
set_option maxRecDepth 100000

/-- A size for so many bytes. -/
def bsz (n : Int) : Int := if n ≤ 256 then 16 else if n ≤ 1024 then 32 else if n ≤ 4096 then 64 else if n ≤ 16384 then 128 else if n ≤ 65536 then 256 else if n ≤ 262144 then 512 else if n ≤ 1048576 then 1024 else if n ≤ 4194304 then 2048 else 4096
def pw (z : Int) : Prop := z = 16 ∨ z = 32 ∨ z = 64 ∨ z = 128 ∨ z = 256 ∨ z = 512 ∨ z = 1024 ∨ z = 2048 ∨ z = 4096
theorem bsz_of (n z : Int) (hz : pw z) (hl : z = 16 ∨ z / 2 * (z / 2) < n) (hu : z = 4096 ∨ n ≤ z * z) : bsz n = z := by
  rcases hz with rfl | rfl | rfl | rfl | rfl | rfl | rfl | rfl | rfl <;> simp at hl hu <;> unfold bsz <;> repeat' split <;> omega
set_option maxHeartbeats 2000000 in
theorem size_any (n : Int) (w : World) : Calls Tryd.prog 12 #[.int .i64 n] w fun e w' => e = .returned (.int .i64 (bsz n)) ∧ w' = w := by
  have HZ : Hid (∀ z, pw z → (z = 16 ∨ z / 2 * (z / 2) < n) → (z = 4096 ∨ n ≤ z * z) → bsz n = z) := bsz_of n
  generalize bsz n = R at *
  go_enter Tryd.func12, Tryd.ntmps12
  go_wp2
  go_loop [3] (fun s => ∃ z : Int, Hid (pw z) ∧ s = .int .i64 z ∧ Hid (z = 16 ∨ z / 2 * (z / 2) < n)) (fun s => (4096 - intOf s).toNat)
  case atStart => exact ⟨16, .inl rfl, rfl, .inl rfl⟩
  case round =>
    obtain ⟨z, hp, rfl, hl⟩ := hrel
    rcases hp.out with rfl | rfl | rfl | rfl | rfl | rfl | rfl | rfl | rfl
    case inr.inr.inr.inr.inr.inr.inr.inr =>
      obtain rfl := HZ.out _ hp.out hl.out (.inl rfl)
      clear HZ hp hl
      go_wp2
      go_ret
      exact ⟨rfl, rfl⟩
    all_goals
      clear hp
    · by_cases h : (256 : Int) < n
      · clear hl
        go_wp2
        go_round
        case rel => exact ⟨32, by unfold Hid pw; decide, by go_num, .inr (by omega)⟩
        case measure => simp [intOf]
      · obtain rfl := HZ.out _ (by unfold pw; decide) hl.out (.inr (by show n ≤ (16 : Int) * 16; omega))
        clear HZ hl
        go_wp2
        go_ret
        exact ⟨rfl, rfl⟩
    · by_cases h : (1024 : Int) < n
      · clear hl
        go_wp2
        go_round
        case rel => exact ⟨64, by unfold Hid pw; decide, by go_num, .inr (by omega)⟩
        case measure => simp [intOf]
      · obtain rfl := HZ.out _ (by unfold pw; decide) hl.out (.inr (by show n ≤ (32 : Int) * 32; omega))
        clear HZ hl
        go_wp2
        go_ret
        exact ⟨rfl, rfl⟩
    · by_cases h : (4096 : Int) < n
      · clear hl
        go_wp2
        go_round
        case rel => exact ⟨128, by unfold Hid pw; decide, by go_num, .inr (by omega)⟩
        case measure => simp [intOf]
      · obtain rfl := HZ.out _ (by unfold pw; decide) hl.out (.inr (by show n ≤ (64 : Int) * 64; omega))
        clear HZ hl
        go_wp2
        go_ret
        exact ⟨rfl, rfl⟩
    · by_cases h : (16384 : Int) < n
      · clear hl
        go_wp2
        go_round
        case rel => exact ⟨256, by unfold Hid pw; decide, by go_num, .inr (by omega)⟩
        case measure => simp [intOf]
      · obtain rfl := HZ.out _ (by unfold pw; decide) hl.out (.inr (by show n ≤ (128 : Int) * 128; omega))
        clear HZ hl
        go_wp2
        go_ret
        exact ⟨rfl, rfl⟩
    · by_cases h : (65536 : Int) < n
      · clear hl
        go_wp2
        go_round
        case rel => exact ⟨512, by unfold Hid pw; decide, by go_num, .inr (by omega)⟩
        case measure => simp [intOf]
      · obtain rfl := HZ.out _ (by unfold pw; decide) hl.out (.inr (by show n ≤ (256 : Int) * 256; omega))
        clear HZ hl
        go_wp2
        go_ret
        exact ⟨rfl, rfl⟩
    · by_cases h : (262144 : Int) < n
      · clear hl
        go_wp2
        go_round
        case rel => exact ⟨1024, by unfold Hid pw; decide, by go_num, .inr (by omega)⟩
        case measure => simp [intOf]
      · obtain rfl := HZ.out _ (by unfold pw; decide) hl.out (.inr (by show n ≤ (512 : Int) * 512; omega))
        clear HZ hl
        go_wp2
        go_ret
        exact ⟨rfl, rfl⟩
    · by_cases h : (1048576 : Int) < n
      · clear hl
        go_wp2
        go_round
        case rel => exact ⟨2048, by unfold Hid pw; decide, by go_num, .inr (by omega)⟩
        case measure => simp [intOf]
      · obtain rfl := HZ.out _ (by unfold pw; decide) hl.out (.inr (by show n ≤ (1024 : Int) * 1024; omega))
        clear HZ hl
        go_wp2
        go_ret
        exact ⟨rfl, rfl⟩
    · by_cases h : (4194304 : Int) < n
      · clear hl
        go_wp2
        go_round
        case rel => exact ⟨4096, by unfold Hid pw; decide, by go_num, .inr (by omega)⟩
        case measure => simp [intOf]
      · obtain rfl := HZ.out _ (by unfold pw; decide) hl.out (.inr (by show n ≤ (2048 : Int) * 2048; omega))
        clear HZ hl
        go_wp2
        go_ret
        exact ⟨rfl, rfl⟩
set_option maxHeartbeats 2000000 in
theorem rsize_any (n : Int) (w : World) : Calls Tryd.prog 13 #[.int .i64 n] w fun e w' => e = .returned (.int .i64 (bsz n)) ∧ w' = w := by
  have HZ : Hid (∀ z, pw z → (z = 16 ∨ z / 2 * (z / 2) < n) → (z = 4096 ∨ n ≤ z * z) → bsz n = z) := bsz_of n
  generalize bsz n = R at *
  go_enter Tryd.func13, Tryd.ntmps13
  go_wp2
  go_loop [3] (fun s => ∃ z : Int, Hid (pw z) ∧ s = .int .i64 z ∧ Hid (z = 16 ∨ z / 2 * (z / 2) < n)) (fun s => (4096 - intOf s).toNat)
  case atStart => exact ⟨16, .inl rfl, rfl, .inl rfl⟩
  case round =>
    obtain ⟨z, hp, rfl, hl⟩ := hrel
    rcases hp.out with rfl | rfl | rfl | rfl | rfl | rfl | rfl | rfl | rfl
    case inr.inr.inr.inr.inr.inr.inr.inr =>
      obtain rfl := HZ.out _ hp.out hl.out (.inl rfl)
      clear HZ hp hl
      go_wp2
      go_ret
      exact ⟨rfl, rfl⟩
    all_goals
      clear hp
    · by_cases h : (256 : Int) < n
      · clear hl
        go_wp2
        go_round
        case rel => exact ⟨32, by unfold Hid pw; decide, by go_num, .inr (by omega)⟩
        case measure => simp [intOf]
      · obtain rfl := HZ.out _ (by unfold pw; decide) hl.out (.inr (by show n ≤ (16 : Int) * 16; omega))
        clear HZ hl
        go_wp2
        go_ret
        exact ⟨rfl, rfl⟩
    · by_cases h : (1024 : Int) < n
      · clear hl
        go_wp2
        go_round
        case rel => exact ⟨64, by unfold Hid pw; decide, by go_num, .inr (by omega)⟩
        case measure => simp [intOf]
      · obtain rfl := HZ.out _ (by unfold pw; decide) hl.out (.inr (by show n ≤ (32 : Int) * 32; omega))
        clear HZ hl
        go_wp2
        go_ret
        exact ⟨rfl, rfl⟩
    · by_cases h : (4096 : Int) < n
      · clear hl
        go_wp2
        go_round
        case rel => exact ⟨128, by unfold Hid pw; decide, by go_num, .inr (by omega)⟩
        case measure => simp [intOf]
      · obtain rfl := HZ.out _ (by unfold pw; decide) hl.out (.inr (by show n ≤ (64 : Int) * 64; omega))
        clear HZ hl
        go_wp2
        go_ret
        exact ⟨rfl, rfl⟩
    · by_cases h : (16384 : Int) < n
      · clear hl
        go_wp2
        go_round
        case rel => exact ⟨256, by unfold Hid pw; decide, by go_num, .inr (by omega)⟩
        case measure => simp [intOf]
      · obtain rfl := HZ.out _ (by unfold pw; decide) hl.out (.inr (by show n ≤ (128 : Int) * 128; omega))
        clear HZ hl
        go_wp2
        go_ret
        exact ⟨rfl, rfl⟩
    · by_cases h : (65536 : Int) < n
      · clear hl
        go_wp2
        go_round
        case rel => exact ⟨512, by unfold Hid pw; decide, by go_num, .inr (by omega)⟩
        case measure => simp [intOf]
      · obtain rfl := HZ.out _ (by unfold pw; decide) hl.out (.inr (by show n ≤ (256 : Int) * 256; omega))
        clear HZ hl
        go_wp2
        go_ret
        exact ⟨rfl, rfl⟩
    · by_cases h : (262144 : Int) < n
      · clear hl
        go_wp2
        go_round
        case rel => exact ⟨1024, by unfold Hid pw; decide, by go_num, .inr (by omega)⟩
        case measure => simp [intOf]
      · obtain rfl := HZ.out _ (by unfold pw; decide) hl.out (.inr (by show n ≤ (512 : Int) * 512; omega))
        clear HZ hl
        go_wp2
        go_ret
        exact ⟨rfl, rfl⟩
    · by_cases h : (1048576 : Int) < n
      · clear hl
        go_wp2
        go_round
        case rel => exact ⟨2048, by unfold Hid pw; decide, by go_num, .inr (by omega)⟩
        case measure => simp [intOf]
      · obtain rfl := HZ.out _ (by unfold pw; decide) hl.out (.inr (by show n ≤ (1024 : Int) * 1024; omega))
        clear HZ hl
        go_wp2
        go_ret
        exact ⟨rfl, rfl⟩
    · by_cases h : (4194304 : Int) < n
      · clear hl
        go_wp2
        go_round
        case rel => exact ⟨4096, by unfold Hid pw; decide, by go_num, .inr (by omega)⟩
        case measure => simp [intOf]
      · obtain rfl := HZ.out _ (by unfold pw; decide) hl.out (.inr (by show n ≤ (2048 : Int) * 2048; omega))
        clear HZ hl
        go_wp2
        go_ret
        exact ⟨rfl, rfl⟩
set_option maxHeartbeats 1000000 in
theorem maybe_any (z : Int) (w : World) : Calls Tryd.prog 27 #[.int .i64 z] w fun e w' => e = .returned (.bool (decide (1 ≤ z ∧ z ≤ 4096))) ∧ w' = w := by
  by_cases h : 1 ≤ z
  · by_cases k : z ≤ 4096
    · rw [decide_eq_true ⟨h, k⟩]
      go_enter Tryd.func27, Tryd.ntmps27
      go_wp2
      go_ret
      exact ⟨rfl, rfl⟩
    · rw [decide_eq_false (fun q => k q.2)]
      go_enter Tryd.func27, Tryd.ntmps27
      go_wp2
      go_ret
      exact ⟨rfl, rfl⟩
  · rw [decide_eq_false (fun q => h q.1)]
    go_enter Tryd.func27, Tryd.ntmps27
    go_wp2
    go_ret
    exact ⟨rfl, rfl⟩
set_option maxHeartbeats 1000000 in
theorem count_any (z n : Nat) (w : World) (hz : z ≤ 9223372036854775807) (hn : n ≤ 9223372036854775807) : Calls Tryd.prog 28 #[.int .i64 z, .int .i64 n] w fun e w' => e = .returned (.int .i64 ((n / z : Nat) : Int)) ∧ w' = w := by
  by_cases h : z = 0
  · subst h
    rw [Nat.div_zero]
    go_enter Tryd.func28, Tryd.ntmps28
    go_wp2
    go_ret
    exact ⟨rfl, rfl⟩
  · have h1 : ((z : Int) == 0) = false := by simpa using h
    have h2 : ¬ (z : Int) = 0 := by omega
    have h3 : Int.tdiv (n : Int) (z : Int) = ((n / z : Nat) : Int) := (Int.ofNat_tdiv n z).symm
    have h4 : n / z ≤ n := Nat.div_le_self n z
    generalize n / z = q at *
    go_enter Tryd.func28, Tryd.ntmps28
    go_wp2
    go_ret
    exact ⟨by go_num, rfl⟩
/-- Whether sums may be those of n bytes. -/
def chk (z n : Int) (L : Nat) : Int := if z < 1 ∨ 4096 < z then 2 else if n < 0 ∨ 65536 < n then 5 else if L ≠ n.toNat / z.toNat ∨ 4096 < L then 13 else 0
set_option maxHeartbeats 2000000 in
theorem check_any (z n : Int) (a : Option Addr) (L c : Nat) (w : World) (hL : L ≤ 9223372036854775807) :
    Calls Tryd.prog 32 #[.int .i64 z, .int .i64 n, .slice a L c] w fun e w' => e = .returned (.int .i64 (chk z n L)) ∧ w' = w := by
  have CM := maybe_any z w
  unfold chk
  by_cases h1 : z < 1 ∨ 4096 < z
  · rw [if_pos h1]
    rw [decide_eq_false (by omega)] at CM
    clear h1
    go_enter Tryd.func32, Tryd.ntmps32
    go_wp2_with fail
    refine CM.mono ?_
    rintro e w1 ⟨rfl, rfl⟩
    clear CM
    go_wp2
    go_ret
    exact ⟨rfl, rfl⟩
  rw [if_neg h1]
  rw [decide_eq_true (by omega)] at CM
  by_cases h2 : n < 0 ∨ 65536 < n
  · rw [if_pos h2]
    by_cases h3 : n < 0
    · clear h1 h2
      go_enter Tryd.func32, Tryd.ntmps32
      go_wp2_with fail
      refine CM.mono ?_
      rintro e w1 ⟨rfl, rfl⟩
      clear CM
      go_wp2
      go_ret
      exact ⟨rfl, rfl⟩
    · have h4 : 65536 < n := by omega
      clear h1 h2
      go_enter Tryd.func32, Tryd.ntmps32
      go_wp2_with fail
      refine CM.mono ?_
      rintro e w1 ⟨rfl, rfl⟩
      clear CM
      go_wp2
      go_ret
      exact ⟨rfl, rfl⟩
  rw [if_neg h2]
  obtain ⟨zn, rfl⟩ : ∃ k : Nat, z = k := ⟨z.toNat, by omega⟩
  obtain ⟨nn, rfl⟩ : ∃ k : Nat, n = k := ⟨n.toNat, by omega⟩
  have CC := count_any zn nn w (by omega) (by omega)
  rw [Int.toNat_natCast, Int.toNat_natCast]
  have g1 : ¬ (nn : Int) < 0 := by omega
  have g2 : ¬ 65536 < (nn : Int) := by omega
  clear h1 h2
  generalize nn / zn = q at *
  by_cases h5 : L = q
  · subst h5
    by_cases h6 : 4096 < L
    · rw [if_pos (.inr h6)]
      have h7 : 4096 < (L : Int) := by omega
      go_enter Tryd.func32, Tryd.ntmps32
      go_wp2_with fail
      refine CM.mono ?_
      rintro e w1 ⟨rfl, rfl⟩
      clear CM
      go_wp2_with fail
      refine CC.mono ?_
      rintro e w1 ⟨rfl, rfl⟩
      clear CC
      go_wp2
      go_ret
      exact ⟨rfl, rfl⟩
    · rw [if_neg (by omega)]
      have h7 : ¬ 4096 < (L : Int) := by omega
      go_enter Tryd.func32, Tryd.ntmps32
      go_wp2_with fail
      refine CM.mono ?_
      rintro e w1 ⟨rfl, rfl⟩
      clear CM
      go_wp2_with fail
      refine CC.mono ?_
      rintro e w1 ⟨rfl, rfl⟩
      clear CC
      go_wp2
      go_ret
      exact ⟨rfl, rfl⟩
  · rw [if_pos (.inl h5)]
    have h7 : ((L : Int) != (q : Int)) = true := by
      have : ¬ (L : Int) = q := by omega
      simpa using this
    go_enter Tryd.func32, Tryd.ntmps32
    go_wp2_with fail
    refine CM.mono ?_
    rintro e w1 ⟨rfl, rfl⟩
    clear CM
    go_wp2_with fail
    refine CC.mono ?_
    rintro e w1 ⟨rfl, rfl⟩
    clear CC
    go_wp2
    go_ret
    exact ⟨rfl, rfl⟩
set_option maxHeartbeats 2000000 in
theorem rcheck_any (z n : Int) (a : Option Addr) (L c : Nat) (w : World) (hL : L ≤ 9223372036854775807) :
    Calls Tryd.prog 20 #[.int .i64 z, .int .i64 n, .slice a L c] w fun e w' => e = .returned (.int .i64 (chk z n L)) ∧ w' = w := by
  unfold chk
  by_cases h1 : z < 1 ∨ 4096 < z
  · rw [if_pos h1]
    by_cases h3 : z < 1
    · clear h1
      go_enter Tryd.func20, Tryd.ntmps20
      go_wp2
      go_ret
      exact ⟨rfl, rfl⟩
    · have h4 : 4096 < z := by omega
      clear h1
      go_enter Tryd.func20, Tryd.ntmps20
      go_wp2
      go_ret
      exact ⟨rfl, rfl⟩
  rw [if_neg h1]
  have f1 : ¬ z < 1 := by omega
  have f2 : ¬ 4096 < z := by omega
  by_cases h2 : n < 0 ∨ 65536 < n
  · rw [if_pos h2]
    by_cases h3 : 65536 < n
    · clear h1 h2
      go_enter Tryd.func20, Tryd.ntmps20
      go_wp2
      go_ret
      exact ⟨rfl, rfl⟩
    · have h4 : n < 0 := by omega
      clear h1 h2
      go_enter Tryd.func20, Tryd.ntmps20
      go_wp2
      go_ret
      exact ⟨rfl, rfl⟩
  rw [if_neg h2]
  obtain ⟨zn, rfl⟩ : ∃ k : Nat, z = k := ⟨z.toNat, by omega⟩
  obtain ⟨nn, rfl⟩ : ∃ k : Nat, n = k := ⟨n.toNat, by omega⟩
  rw [Int.toNat_natCast, Int.toNat_natCast]
  have g1 : ¬ (nn : Int) < 0 := by omega
  have g2 : ¬ 65536 < (nn : Int) := by omega
  have g3 : ¬ (zn : Int) = 0 := by omega
  have g4 : Int.tdiv (nn : Int) (zn : Int) = ((nn / zn : Nat) : Int) := (Int.ofNat_tdiv nn zn).symm
  have g5 : nn / zn ≤ nn := Nat.div_le_self nn zn
  have g6 : nn ≤ 65536 := by omega
  clear h1 h2
  generalize nn / zn = q at *
  by_cases h5 : L = q
  · subst h5
    by_cases h6 : 4096 < L
    · rw [if_pos (.inr h6)]
      have h7 : 4096 < (L : Int) := by omega
      go_enter Tryd.func20, Tryd.ntmps20
      go_wp2
      go_ret
      exact ⟨rfl, rfl⟩
    · rw [if_neg (by omega)]
      have h7 : ¬ 4096 < (L : Int) := by omega
      go_enter Tryd.func20, Tryd.ntmps20
      go_wp2
      go_ret
      exact ⟨rfl, rfl⟩
  · rw [if_pos (.inl h5)]
    have h7 : ((L : Int) != (q : Int)) = true := by
      have : ¬ (L : Int) = q := by omega
      simpa using this
    go_enter Tryd.func20, Tryd.ntmps20
    go_wp2
    go_ret
    exact ⟨rfl, rfl⟩
end Go.Proofs.YtjiefndjgkhcjaaDoor
