/-
  What mayBe and makes answer, delta's and the document's.
-/
import Derived.Test.YtfccjeepmhgckaaDoorDp
import Derived.Test.YtfccjeepmhgckaaDoorXw
import Derived.Deep.QuietTactic
import Derived.BigQuiet
import Derived.WalkSmall
namespace Go.Proofs.YtfccjeepmhgckaaDoor
open Go.RowKit
set_option maxRecDepth 100000

/-- A value that is an operation; its bytes' slice. -/
abbrev xval (x : Xp) (ua : Option Addr) (un uc : Nat) : Value := .agg #[.bool x.c, .int .i64 x.a, .int .i64 x.n, .slice ua un uc]
theorem box_below (w : World) (o : Obj) : Below w.heap.size w (w.alloc o) := (Below.refl _ _).alloc (Nat.le_refl _) _

set_option maxHeartbeats 2000000 in
theorem may_any (x : Xp) (old : Int) (ua : Option Addr) (un uc : Nat) (w : World) (hun : un = x.d.length) (ho : old ≤ 9223372036854775807) :
    Calls Tryd.prog 31 #[xval x ua un uc, .int .i64 old] w fun e w' => e = .returned (.bool (mayX x old)) ∧ Below w.heap.size w w' := by
  obtain ⟨c, a, n, d⟩ := x
  simp only at hun
  have HB : Hid (Below w.heap.size w (w.alloc (.cells #[.bool c, .int .i64 a, .int .i64 n, .slice ua un uc] 46))) := box_below w _
  cases c with
  | false =>
    by_cases h3 : 0 < (un : Int)
    · have t3 : decide (0 < (un : Int)) = true := by simpa using h3
      by_cases h2 : a = 0
      · obtain rfl : a = 0 := by omega
        clear h2
        by_cases h1 : n = 0
        · obtain rfl : n = 0 := by omega
          clear h1
          have HR : Hid (mayX ⟨false, 0, 0, d⟩ old = true) := (mayX_data rfl).2 ⟨by simp only; omega, rfl, rfl⟩
          clear hun 
          go_enter Tryd.func31, Tryd.ntmps31
          go_wp2
          go_ret
          exact ⟨by rw [HR.out]; rfl, HB.out⟩
        · have t1 : (n == 0) = false := by simpa using h1
          have HR : Hid (mayX ⟨false, 0, n, d⟩ old = false) := by
            unfold Hid
            rw [← Bool.not_eq_true, mayX_data rfl]
            simp only
            omega
          clear hun 
          go_enter Tryd.func31, Tryd.ntmps31
          go_wp2
          go_ret
          exact ⟨by rw [HR.out]; rfl, HB.out⟩
      · have t2 : (a == 0) = false := by simpa using h2
        have HR : Hid (mayX ⟨false, a, n, d⟩ old = false) := by
          unfold Hid
          rw [← Bool.not_eq_true, mayX_data rfl]
          simp only
          omega
        clear hun 
        go_enter Tryd.func31, Tryd.ntmps31
        go_wp2
        go_ret
        exact ⟨by rw [HR.out]; rfl, HB.out⟩
    · have t3 : decide (0 < (un : Int)) = false := by simpa using h3
      have HR : Hid (mayX ⟨false, a, n, d⟩ old = false) := by
        unfold Hid
        rw [← Bool.not_eq_true, mayX_data rfl]
        simp only
        omega
      clear hun 
      go_enter Tryd.func31, Tryd.ntmps31
      go_wp2
      go_ret
      exact ⟨by rw [HR.out]; rfl, HB.out⟩
  | true =>
    by_cases h5 : (un : Int) = 0
    · obtain rfl : un = 0 := by omega
      clear h5
      by_cases h4 : 0 ≤ a
      · have t4 : decide (0 ≤ a) = true := by simpa using h4
        by_cases h3 : 1 ≤ n
        · have t3 : decide (1 ≤ n) = true := by simpa using h3
          by_cases h2 : a ≤ old
          · have t2 : decide (a ≤ old) = true := by simpa using h2
            by_cases h1 : n ≤ old - a
            · have t1 : decide (n ≤ old - a) = true := by simpa using h1
              have HR : Hid (mayX ⟨true, a, n, d⟩ old = true) := (mayX_copy rfl).2 (by simp only; omega)
              have yw : wrap64 (old - a) = old - a := by unfold wrap64; omega
              clear hun 
              go_enter Tryd.func31, Tryd.ntmps31
              go_wp2
              go_ret
              exact ⟨by rw [HR.out]; rfl, HB.out⟩
            · have t1 : decide (n ≤ old - a) = false := by simpa using h1
              have HR : Hid (mayX ⟨true, a, n, d⟩ old = false) := by
                unfold Hid
                rw [← Bool.not_eq_true, mayX_copy rfl]
                simp only
                omega
              have yw : wrap64 (old - a) = old - a := by unfold wrap64; omega
              clear hun 
              go_enter Tryd.func31, Tryd.ntmps31
              go_wp2
              go_ret
              exact ⟨by rw [HR.out]; rfl, HB.out⟩
          · have t2 : decide (a ≤ old) = false := by simpa using h2
            have HR : Hid (mayX ⟨true, a, n, d⟩ old = false) := by
              unfold Hid
              rw [← Bool.not_eq_true, mayX_copy rfl]
              simp only
              omega
            clear hun 
            go_enter Tryd.func31, Tryd.ntmps31
            go_wp2
            go_ret
            exact ⟨by rw [HR.out]; rfl, HB.out⟩
        · have t3 : decide (1 ≤ n) = false := by simpa using h3
          have HR : Hid (mayX ⟨true, a, n, d⟩ old = false) := by
            unfold Hid
            rw [← Bool.not_eq_true, mayX_copy rfl]
            simp only
            omega
          clear hun 
          go_enter Tryd.func31, Tryd.ntmps31
          go_wp2
          go_ret
          exact ⟨by rw [HR.out]; rfl, HB.out⟩
      · have t4 : decide (0 ≤ a) = false := by simpa using h4
        have HR : Hid (mayX ⟨true, a, n, d⟩ old = false) := by
          unfold Hid
          rw [← Bool.not_eq_true, mayX_copy rfl]
          simp only
          omega
        clear hun 
        go_enter Tryd.func31, Tryd.ntmps31
        go_wp2
        go_ret
        exact ⟨by rw [HR.out]; rfl, HB.out⟩
    · have t5 : ((un : Int) == 0) = false := by simpa using h5
      have HR : Hid (mayX ⟨true, a, n, d⟩ old = false) := by
        unfold Hid
        rw [← Bool.not_eq_true, mayX_copy rfl]
        simp only
        omega
      clear hun 
      go_enter Tryd.func31, Tryd.ntmps31
      go_wp2
      go_ret
      exact ⟨by rw [HR.out]; rfl, HB.out⟩
set_option maxHeartbeats 2000000 in
theorem rmay_any (x : Xp) (old : Int) (ua : Option Addr) (un uc : Nat) (w : World) (hun : un = x.d.length) (ho : old ≤ 9223372036854775807) :
    Calls Tryd.prog 30 #[xval x ua un uc, .int .i64 old] w fun e w' => e = .returned (.bool (mayX x old)) ∧ Below w.heap.size w w' := by
  obtain ⟨c, a, n, d⟩ := x
  simp only at hun
  have HB : Hid (Below w.heap.size w (w.alloc (.cells #[.bool c, .int .i64 a, .int .i64 n, .slice ua un uc] 46))) := box_below w _
  cases c with
  | false =>
    by_cases h3 : 0 < (un : Int)
    · have t3 : decide (0 < (un : Int)) = true := by simpa using h3
      by_cases h2 : a = 0
      · obtain rfl : a = 0 := by omega
        clear h2
        by_cases h1 : n = 0
        · obtain rfl : n = 0 := by omega
          clear h1
          have HR : Hid (mayX ⟨false, 0, 0, d⟩ old = true) := (mayX_data rfl).2 ⟨by simp only; omega, rfl, rfl⟩
          clear hun 
          go_enter Tryd.func30, Tryd.ntmps30
          go_wp2
          go_ret
          exact ⟨by rw [HR.out]; rfl, HB.out⟩
        · have t1 : (n == 0) = false := by simpa using h1
          have HR : Hid (mayX ⟨false, 0, n, d⟩ old = false) := by
            unfold Hid
            rw [← Bool.not_eq_true, mayX_data rfl]
            simp only
            omega
          clear hun 
          go_enter Tryd.func30, Tryd.ntmps30
          go_wp2
          go_ret
          exact ⟨by rw [HR.out]; rfl, HB.out⟩
      · have t2 : (a == 0) = false := by simpa using h2
        have HR : Hid (mayX ⟨false, a, n, d⟩ old = false) := by
          unfold Hid
          rw [← Bool.not_eq_true, mayX_data rfl]
          simp only
          omega
        clear hun 
        go_enter Tryd.func30, Tryd.ntmps30
        go_wp2
        go_ret
        exact ⟨by rw [HR.out]; rfl, HB.out⟩
    · have t3 : decide (0 < (un : Int)) = false := by simpa using h3
      have HR : Hid (mayX ⟨false, a, n, d⟩ old = false) := by
        unfold Hid
        rw [← Bool.not_eq_true, mayX_data rfl]
        simp only
        omega
      clear hun 
      go_enter Tryd.func30, Tryd.ntmps30
      go_wp2
      go_ret
      exact ⟨by rw [HR.out]; rfl, HB.out⟩
  | true =>
    by_cases h5 : (un : Int) = 0
    · obtain rfl : un = 0 := by omega
      clear h5
      by_cases h4 : 0 ≤ a
      · have t4 : decide (0 ≤ a) = true := by simpa using h4
        by_cases h3 : a ≤ old
        · have t3 : decide (a ≤ old) = true := by simpa using h3
          by_cases h2 : 1 ≤ n
          · have t2 : decide (1 ≤ n) = true := by simpa using h2
            by_cases h1 : n ≤ old - a
            · have t1 : decide (n ≤ old - a) = true := by simpa using h1
              have HR : Hid (mayX ⟨true, a, n, d⟩ old = true) := (mayX_copy rfl).2 (by simp only; omega)
              have yw : wrap64 (old - a) = old - a := by unfold wrap64; omega
              clear hun 
              go_enter Tryd.func30, Tryd.ntmps30
              go_wp2
              go_ret
              exact ⟨by rw [HR.out]; rfl, HB.out⟩
            · have t1 : decide (n ≤ old - a) = false := by simpa using h1
              have HR : Hid (mayX ⟨true, a, n, d⟩ old = false) := by
                unfold Hid
                rw [← Bool.not_eq_true, mayX_copy rfl]
                simp only
                omega
              have yw : wrap64 (old - a) = old - a := by unfold wrap64; omega
              clear hun 
              go_enter Tryd.func30, Tryd.ntmps30
              go_wp2
              go_ret
              exact ⟨by rw [HR.out]; rfl, HB.out⟩
          · have t2 : decide (1 ≤ n) = false := by simpa using h2
            have HR : Hid (mayX ⟨true, a, n, d⟩ old = false) := by
              unfold Hid
              rw [← Bool.not_eq_true, mayX_copy rfl]
              simp only
              omega
            clear hun 
            go_enter Tryd.func30, Tryd.ntmps30
            go_wp2
            go_ret
            exact ⟨by rw [HR.out]; rfl, HB.out⟩
        · have t3 : decide (a ≤ old) = false := by simpa using h3
          have HR : Hid (mayX ⟨true, a, n, d⟩ old = false) := by
            unfold Hid
            rw [← Bool.not_eq_true, mayX_copy rfl]
            simp only
            omega
          clear hun 
          go_enter Tryd.func30, Tryd.ntmps30
          go_wp2
          go_ret
          exact ⟨by rw [HR.out]; rfl, HB.out⟩
      · have t4 : decide (0 ≤ a) = false := by simpa using h4
        have HR : Hid (mayX ⟨true, a, n, d⟩ old = false) := by
          unfold Hid
          rw [← Bool.not_eq_true, mayX_copy rfl]
          simp only
          omega
        clear hun 
        go_enter Tryd.func30, Tryd.ntmps30
        go_wp2
        go_ret
        exact ⟨by rw [HR.out]; rfl, HB.out⟩
    · have t5 : ((un : Int) == 0) = false := by simpa using h5
      have HR : Hid (mayX ⟨true, a, n, d⟩ old = false) := by
        unfold Hid
        rw [← Bool.not_eq_true, mayX_copy rfl]
        simp only
        omega
      clear hun 
      go_enter Tryd.func30, Tryd.ntmps30
      go_wp2
      go_ret
      exact ⟨by rw [HR.out]; rfl, HB.out⟩
set_option maxHeartbeats 2000000 in
theorem makes_any (x : Xp) (ua : Option Addr) (un uc : Nat) (w : World) (hun : un = x.d.length) :
    Calls Tryd.prog 25 #[xval x ua un uc] w fun e w' => e = .returned (.int .i64 (mkX x)) ∧ Below w.heap.size w w' := by
  obtain ⟨c, a, n, d⟩ := x
  simp only at hun
  have HB : Hid (Below w.heap.size w (w.alloc (.cells #[.bool c, .int .i64 a, .int .i64 n, .slice ua un uc] 46))) := box_below w _
  cases c with
  | false =>
    have HR : Hid (mkX ⟨false, a, n, d⟩ = (un : Int)) := by rw [hun]; exact mkX_data rfl
    clear hun
    go_enter Tryd.func25, Tryd.ntmps25
    go_wp2
    go_ret
    exact ⟨by rw [HR.out]; rfl, HB.out⟩
  | true =>
    have HR : Hid (mkX ⟨true, a, n, d⟩ = max n 0) := mkX_copy rfl
    clear hun
    go_enter Tryd.func25, Tryd.ntmps25
    go_wp2
    go_ret
    exact ⟨by rw [HR.out]; rfl, HB.out⟩
set_option maxHeartbeats 2000000 in
theorem rmakes_any (x : Xp) (ua : Option Addr) (un uc : Nat) (w : World) (hun : un = x.d.length) (hn : x.c = true → 0 ≤ x.n) :
    Calls Tryd.prog 20 #[xval x ua un uc] w fun e w' => e = .returned (.int .i64 (mkX x)) ∧ Below w.heap.size w w' := by
  obtain ⟨c, a, n, d⟩ := x
  simp only at hun
  have HB : Hid (Below w.heap.size w (w.alloc (.cells #[.bool c, .int .i64 a, .int .i64 n, .slice ua un uc] 46))) := box_below w _
  cases c with
  | false =>
    have HR : Hid (mkX ⟨false, a, n, d⟩ = (un : Int)) := by rw [hun]; exact mkX_data rfl
    clear hun hn
    go_enter Tryd.func20, Tryd.ntmps20
    go_wp2
    go_ret
    exact ⟨by rw [HR.out]; rfl, HB.out⟩
  | true =>
    have h0 : 0 ≤ n := hn rfl
    have HR : Hid (mkX ⟨true, a, n, d⟩ = n) := (mkX_copy rfl).trans (by show max n 0 = n; omega)
    clear hun hn
    go_enter Tryd.func20, Tryd.ntmps20
    go_wp2
    go_ret
    exact ⟨by rw [HR.out]; rfl, HB.out⟩
end Go.Proofs.YtfccjeepmhgckaaDoor
