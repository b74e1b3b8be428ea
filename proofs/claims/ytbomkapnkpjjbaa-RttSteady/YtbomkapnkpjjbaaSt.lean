/-
  The same sample again and again.
-/
import Derived.Test.YtbomkapnkpjjbaaFr
namespace Go.Proofs.Ytbomkapnkpjjbaa
open Go.RowKit

def vn (n : Int) : Nat → Int
  | 0 => n / 2
  | k + 1 => 3 * vn n k / 4
def stN (n : Int) : Nat → Sta
  | 0 => Sta.z
  | k + 1 => ⟨true, n, n, n, vn n k⟩
def laN (n : Int) : Nat → Int
  | 0 => n
  | k + 1 => vn n k
theorem vn_bd {n : Int} (h : 0 ≤ n ∧ n < 65536) : ∀ k, 0 ≤ vn n k ∧ vn n k ≤ vn 65535 k ∧ vn 65535 k ≤ 32767
  | 0 => by show 0 ≤ n / 2 ∧ n / 2 ≤ 65535 / 2 ∧ (65535 : Int) / 2 ≤ 32767; omega
  | k + 1 => by
    have := vn_bd h k
    show 0 ≤ 3 * vn n k / 4 ∧ 3 * vn n k / 4 ≤ 3 * vn 65535 k / 4 ∧ 3 * vn 65535 k / 4 ≤ 32767
    omega
theorem vn_late : ∀ k, 60 ≤ k → vn 65535 k = 0
  | 0, h => by omega
  | k + 1, h => by
    rcases Nat.lt_or_ge k 60 with h' | h'
    · obtain rfl : k = 59 := by omega
      decide +kernel
    · show 3 * vn 65535 k / 4 = 0
      rw [vn_late k h']
      rfl
theorem vn_zero {n : Int} (h : 0 ≤ n ∧ n < 65536) {k : Nat} (hk : 60 ≤ k) : vn n k = 0 := by
  have := vn_bd h k
  have := vn_late k hk
  omega
theorem la_le {n : Int} (h : 0 ≤ n ∧ n < 65536) (j : Nat) : vn n j ≤ laN n j := by
  cases j with
  | zero => show n / 2 ≤ n; omega
  | succ k => have := vn_bd h k; show 3 * vn n k / 4 ≤ vn n k; omega
theorem tm_of {n : Int} (h : 0 ≤ n ∧ n < 65536) : tm n = true := tm_iff.2 (by omega)
theorem st_next {n : Int} (h : 0 ≤ n ∧ n < 65536) (j : Nat) : smp (stN n j) n 0 = stN n (j + 1) := by
  have h1 := tm_of h
  cases j with
  | zero =>
    unfold smp
    rw [if_neg (by rw [h1]; decide), if_pos (show kn (stN n 0) = false from rfl)]
    rfl
  | succ k =>
    have hv := vn_bd h k
    have hk : kn ⟨true, n, n, n, vn n k⟩ = true := by
      have ht : tm (vn n k) = true := tm_iff.2 (by omega)
      show (true && (if true = true then tm n && tm n && tm n && tm (vn n k) && decide (n ≤ n) else _)) = true
      rw [if_pos rfl, h1, ht, decide_eq_true (Int.le_refl n)]
      rfl
    unfold smp
    rw [if_neg (by rw [h1]; decide)]
    show (if kn ⟨true, n, n, n, vn n k⟩ = false then _ else _) = _
    rw [if_neg (by rw [hk]; decide)]
    have e1 : min n n = n := by omega
    have e2 : adj n 0 n = n := by unfold adj; split <;> omega
    have e3 : apt n n = 0 := by unfold apt; split <;> omega
    show (⟨true, n, min n n, (7 * n + adj n 0 (min n n)) / 8, (3 * vn n k + apt n (adj n 0 (min n n))) / 4⟩ : Sta) = ⟨true, n, n, n, 3 * vn n k / 4⟩
    rw [e1, e2, e3]
    have e4 : (7 * n + n) / 8 = n := by omega
    rw [e4, Int.add_zero]
end Go.Proofs.Ytbomkapnkpjjbaa
