/-
  The bytes that a number is put as are bytes, say their width, and are read as the number: plain facts on numbers, no program in sight but the definitions.
-/
import Derived.Test.YthhghehnaopmhaaDoorFiRow
namespace Go.Proofs.YthhghehnaopmhaaDoor.Fi
open Go.RowKit
set_option maxRecDepth 100000

theorem pb_len (n : Int) (W : Nat) (hW : IsW W) : (pb n W).length = W := by
  rcases hW with rfl | rfl | rfl | rfl <;> rfl

theorem pb_bytes (n : Int) (W : Nat) (hW : IsW W) (h1 : 0 ≤ n) (h2 : n < lim W) : ∀ i, 0 ≤ (pb n W).getD i 0 ∧ (pb n W).getD i 0 < 256 := by
  refine byteList _ ?_
  rcases hW with rfl | rfl | rfl | rfl
  all_goals
    simp only [lim] at h2
    simp only [pb, List.all_cons, List.all_nil, Bool.and_eq_true, decide_eq_true_eq, and_true]
    omega

theorem pb_gk (n : Int) (W : Nat) (hW : IsW W) (h1 : 0 ≤ n) (h2 : n < lim W) : 2 ^ gk (pb n W) = W := by
  rcases hW with rfl | rfl | rfl | rfl
  · have : gk (pb n 1) = 0 := by unfold gk; simp only [lim] at h2; simp only [pb, List.getD_cons_zero]; omega
    rw [this]
  · have : gk (pb n 2) = 1 := by unfold gk; simp only [lim] at h2; simp only [pb, List.getD_cons_zero]; omega
    rw [this]
  · have : gk (pb n 4) = 2 := by unfold gk; simp only [lim] at h2; simp only [pb, List.getD_cons_zero]; omega
    rw [this]
  · have : gk (pb n 8) = 3 := by unfold gk; simp only [lim] at h2; simp only [pb, List.getD_cons_zero]; omega
    rw [this]

theorem gval_take (xs ys : List Int) (k : Nat) (h : ∀ i, i ≤ k → xs.getD i 0 = ys.getD i 0) : gval xs k = gval ys k := by
  induction k with
  | zero => simp only [gval]; rw [h 0 (Nat.le_refl _)]
  | succ k ih => simp only [gval]; rw [ih (fun i hi => h i (by omega)), h (k + 1) (Nat.le_refl _)]

theorem pb_gval (n : Int) (W : Nat) (hW : IsW W) (h1 : 0 ≤ n) (h2 : n < lim W) : gval (pb n W) (W - 1) = n := by
  rcases hW with rfl | rfl | rfl | rfl
  all_goals
    simp only [lim] at h2
    simp only [pb, gval, Nat.reduceSub, List.getD_cons_zero, List.getD_cons_succ]
    omega

theorem row_put (n : Int) (W : Nat) (w : World) (hW : IsW W) (h1 : 0 ≤ n) (h2 : n < lim W) : Row (w.alloc (.cells (pbA n W) 5)) (some ⟨w.heap.size, 0, none⟩) W W (pb n W) := by
  have := row_new w (pb n W) (pb_bytes n W hW h1 h2) (by rw [pb_len n W hW]; unfold maxLen; rcases hW with rfl | rfl | rfl | rfl <;> omega)
  rw [pb_len n W hW] at this
  exact this

theorem Row.cut {w : World} {a : Option Addr} {len cap : Nat} {zs : List Int} (h : Row w a len cap zs) (m : Nat) (hm : m ≤ len) : Row w a m cap zs := by
  rcases Nat.eq_zero_or_pos m with h0 | h0
  · exact .inl h0
  · rcases h with h | ⟨hp, b, off, rfl, hlc, hx, hc, hz⟩
    · omega
    · exact .inr ⟨h0, b, off, rfl, by omega, hx, fun i hi => hc i (by omega), hz⟩
end Go.Proofs.YthhghehnaopmhaaDoor.Fi
