/-
  What sizeMayBe, count and check answer; nothing is changed.
-/
import Derived.Test.YtlhmpcmlpfffoaaDoorSb
namespace Go.Proofs.YtlhmpcmlpfffoaaDoor
open Go.RowKit
set_option maxRecDepth 100000

set_option maxHeartbeats 1000000 in
theorem maybe_any (z : Int) (w : World) : Calls Tryd.prog 43 #[.int .i64 z] w fun e w' => e = .returned (.bool (decide (1 ≤ z ∧ z ≤ 4096))) ∧ w' = w := by
  by_cases h : 1 ≤ z
  · by_cases k : z ≤ 4096
    · rw [decide_eq_true ⟨h, k⟩]
      go_enter Tryd.func43, Tryd.ntmps43
      go_wp2
      go_ret
      exact ⟨rfl, rfl⟩
    · rw [decide_eq_false (fun q => k q.2)]
      go_enter Tryd.func43, Tryd.ntmps43
      go_wp2
      go_ret
      exact ⟨rfl, rfl⟩
  · rw [decide_eq_false (fun q => h q.1)]
    go_enter Tryd.func43, Tryd.ntmps43
    go_wp2
    go_ret
    exact ⟨rfl, rfl⟩
set_option maxHeartbeats 1000000 in
theorem count_any (z n : Nat) (w : World) (hz : z ≤ 9223372036854775807) (hn : n ≤ 9223372036854775807) : Calls Tryd.prog 44 #[.int .i64 z, .int .i64 n] w fun e w' => e = .returned (.int .i64 ((n / z : Nat) : Int)) ∧ w' = w := by
  by_cases h : z = 0
  · subst h
    rw [Nat.div_zero]
    go_enter Tryd.func44, Tryd.ntmps44
    go_wp2
    go_ret
    exact ⟨rfl, rfl⟩
  · have h1 : ((z : Int) == 0) = false := by simpa using h
    have h2 : ¬ (z : Int) = 0 := by omega
    have h3 : Int.tdiv (n : Int) (z : Int) = ((n / z : Nat) : Int) := (Int.ofNat_tdiv n z).symm
    have h4 : n / z ≤ n := Nat.div_le_self n z
    generalize n / z = q at *
    go_enter Tryd.func44, Tryd.ntmps44
    go_wp2
    go_ret
    exact ⟨by go_num, rfl⟩
/-- Whether sums may be those of n bytes. -/
def chk (z n : Int) (L : Nat) : Int := if z < 1 ∨ 4096 < z then 2 else if n < 0 ∨ 65536 < n then 5 else if L ≠ n.toNat / z.toNat ∨ 4096 < L then 13 else 0
set_option maxHeartbeats 2000000 in
theorem check_any (z n : Int) (a : Option Addr) (L c : Nat) (w : World) (hL : L ≤ 9223372036854775807) :
    Calls Tryd.prog 35 #[.int .i64 z, .int .i64 n, .slice a L c] w fun e w' => e = .returned (.int .i64 (chk z n L)) ∧ w' = w := by
  have CM := maybe_any z w
  unfold chk
  by_cases h1 : z < 1 ∨ 4096 < z
  · rw [if_pos h1]
    rw [decide_eq_false (by omega)] at CM
    clear h1
    go_enter Tryd.func35, Tryd.ntmps35
    go_wp2_with fail
    refine CM.mono ?_
    rintro e w1 ⟨rfl, rfl⟩
    clear CM
    go_wp2
    go_ret
    exact ⟨rfl, rfl⟩
  rw [if_neg h1]
  rw [decide_eq_true (by omega)] at CM
  by_cases h2 : n < 0 ∨ 65536 < n
  · rw [if_pos h2]
    by_cases h3 : n < 0
    · clear h1 h2
      go_enter Tryd.func35, Tryd.ntmps35
      go_wp2_with fail
      refine CM.mono ?_
      rintro e w1 ⟨rfl, rfl⟩
      clear CM
      go_wp2
      go_ret
      exact ⟨rfl, rfl⟩
    · have h4 : 65536 < n := by omega
      clear h1 h2
      go_enter Tryd.func35, Tryd.ntmps35
      go_wp2_with fail
      refine CM.mono ?_
      rintro e w1 ⟨rfl, rfl⟩
      clear CM
      go_wp2
      go_ret
      exact ⟨rfl, rfl⟩
  rw [if_neg h2]
  obtain ⟨zn, rfl⟩ : ∃ k : Nat, z = k := ⟨z.toNat, by omega⟩
  obtain ⟨nn, rfl⟩ : ∃ k : Nat, n = k := ⟨n.toNat, by omega⟩
  have CC := count_any zn nn w (by omega) (by omega)
  rw [Int.toNat_natCast, Int.toNat_natCast]
  have g1 : ¬ (nn : Int) < 0 := by omega
  have g2 : ¬ 65536 < (nn : Int) := by omega
  clear h1 h2
  generalize nn / zn = q at *
  by_cases h5 : L = q
  · subst h5
    by_cases h6 : 4096 < L
    · rw [if_pos (.inr h6)]
      have h7 : 4096 < (L : Int) := by omega
      go_enter Tryd.func35, Tryd.ntmps35
      go_wp2_with fail
      refine CM.mono ?_
      rintro e w1 ⟨rfl, rfl⟩
      clear CM
      go_wp2_with fail
      refine CC.mono ?_
      rintro e w1 ⟨rfl, rfl⟩
      clear CC
      go_wp2
      go_ret
      exact ⟨rfl, rfl⟩
    · rw [if_neg (by omega)]
      have h7 : ¬ 4096 < (L : Int) := by omega
      go_enter Tryd.func35, Tryd.ntmps35
      go_wp2_with fail
      refine CM.mono ?_
      rintro e w1 ⟨rfl, rfl⟩
      clear CM
      go_wp2_with fail
      refine CC.mono ?_
      rintro e w1 ⟨rfl, rfl⟩
      clear CC
      go_wp2
      go_ret
      exact ⟨rfl, rfl⟩
  · rw [if_pos (.inl h5)]
    have h7 : ((L : Int) != (q : Int)) = true := by
      have : ¬ (L : Int) = q := by omega
      simpa using this
    go_enter Tryd.func35, Tryd.ntmps35
    go_wp2_with fail
    refine CM.mono ?_
    rintro e w1 ⟨rfl, rfl⟩
    clear CM
    go_wp2_with fail
    refine CC.mono ?_
    rintro e w1 ⟨rfl, rfl⟩
    clear CC
    go_wp2
    go_ret
    exact ⟨rfl, rfl⟩
end Go.Proofs.YtlhmpcmlpfffoaaDoor
