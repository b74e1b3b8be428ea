/-
  What mac.Equal answers: whether both are the same; nothing is changed.
-/
import Derived.Test.YtkblcabibnnmcaaDoorMsk
namespace Go.Proofs.YtkblcabibnnmcaaDoor
open Go.RowKit

/-- What differs of the first j bytes. -/
def dif (xs ys : List Int) : Nat → Nat
  | 0 => 0
  | j + 1 => dif xs ys j ||| ((xs.getD j 0).toNat ^^^ (ys.getD j 0).toNat)
theorem dif_lt {xs ys : List Int} (hx : Pl.Byt xs) (hy : Pl.Byt ys) : ∀ j, dif xs ys j < 256
  | 0 => by simp [dif]
  | j + 1 => by
    have h1 : (xs.getD j 0).toNat ^^^ (ys.getD j 0).toNat < 2 ^ 8 := Nat.xor_lt_two_pow (by have := hx j; omega) (by have := hy j; omega)
    have h2 : dif xs ys j < 2 ^ 8 := dif_lt hx hy j
    exact Nat.or_lt_two_pow h2 h1
theorem dif_zero {xs ys : List Int} (hx : Pl.Byt xs) (hy : Pl.Byt ys) : ∀ j, dif xs ys j = 0 ↔ ∀ i, i < j → xs.getD i 0 = ys.getD i 0
  | 0 => by simp [dif]
  | j + 1 => by
    have h1 := hx j
    have h2 := hy j
    show dif xs ys j ||| ((xs.getD j 0).toNat ^^^ (ys.getD j 0).toNat) = 0 ↔ _
    have hxor : ∀ a b : Nat, a ^^^ b = 0 ↔ a = b := fun a b => ⟨fun h => by
      have e : (a ^^^ b) ^^^ b = a := by rw [Nat.xor_assoc, Nat.xor_self, Nat.xor_zero]
      rw [h, Nat.zero_xor] at e
      exact e.symm, fun h => by rw [h, Nat.xor_self]⟩
    rw [Nat.or_eq_zero_iff, hxor, dif_zero hx hy j]
    constructor
    · rintro ⟨h3, h4⟩ i hi
      rcases Nat.lt_or_ge i j with h | h
      · exact h3 i h
      · obtain rfl : i = j := by omega
        omega
    · intro h
      exact ⟨fun i hi => h i (by omega), by rw [h j (by omega)]⟩
theorem dif_eq {xs ys : List Int} (hx : Pl.Byt xs) (hy : Pl.Byt ys) (hl : xs.length = ys.length) (n : Nat) (hn : n = xs.length) : (((dif xs ys n : Nat) : Int) == 0) = (xs == ys) := by
  subst hn
  by_cases h : xs = ys
  · have : dif xs ys xs.length = 0 := (dif_zero hx hy _).2 (fun i _ => by rw [h])
    rw [this]; simp [h]
  · have hne : dif xs ys xs.length ≠ 0 := fun e => h (eq_of_getD _ _ hl (fun i hi => (dif_zero hx hy _).1 e i hi))
    have h1 : (((dif xs ys xs.length : Nat) : Int) == 0) = false := by simp; exact hne
    rw [h1]; simp [h]

set_option maxHeartbeats 2000000 in
theorem equal_any (u v : Value) (xs ys : List Int) (w : World) (su : Sl w u xs) (sv : Sl w v ys) :
    Calls Tryd.prog 11 #[u, v] w fun e w' => e = .returned (.bool (xs == ys)) ∧ Below w.heap.size w w' := by
  have hx := su.bytes
  have hy := sv.bytes
  obtain ⟨a, ca, rfl, a1, a2, a3, a4⟩ := su
  obtain ⟨b, cb, rfl, b1, b2, b3, b4⟩ := sv
  have hm : xs.length ≤ 9223372036854775807 := by unfold maxLen at a2; omega
  have hm2 : ys.length ≤ 9223372036854775807 := by unfold maxLen at b2; omega
  by_cases hl : xs.length = ys.length
  · have HE : Hid (∀ n, n = xs.length → (((dif xs ys n : Nat) : Int) == 0) = (xs == ys)) := fun n hn => dif_eq hx hy hl n hn
    obtain ⟨n, hn⟩ : ∃ n, n = xs.length := ⟨_, rfl⟩
    have HR : Hid (∀ j, j < n → ∃ p q o r, a = some ⟨p, q, none⟩ ∧ b = some ⟨o, r, none⟩ ∧ w.cell? ⟨p, q + j, none⟩ = some (.int .u8 (xs.getD j 0)) ∧ w.cell? ⟨o, r + j, none⟩ = some (.int .u8 (ys.getD j 0))) := fun j hj => by
      rcases a4 with h | ⟨_, p, q, rfl, _, _, c1, _⟩
      · omega
      · rcases b4 with h | ⟨_, o, r, rfl, _, _, c2, _⟩
        · omega
        · exact ⟨p, q, o, r, rfl, rfl, c1 j (by omega), c2 j (by omega)⟩
    have HB : Hid (∀ j, dif xs ys j < 256) := dif_lt hx hy
    have HX : Hid (Pl.Byt xs) := hx
    have HY : Hid (Pl.Byt ys) := hy
    have en := HE.out n hn
    rw [← hn] at hm a1
    rw [← hl, ← hn] at hm2 b1
    rw [← hl, ← hn]
    have EN : Hid ((((dif xs ys n : Nat) : Int) == 0) = (xs == ys)) := en
    clear hn hl HE a2 a3 a4 b2 b3 b4 hx hy en
    go_enter Tryd.func11, Tryd.ntmps11
    go_wp2
    go_loopw [5, 14] (fun d q wr => ∃ j m : Nat, j ≤ n ∧ q = .int .i64 j ∧ d = .int .u8 ((dif xs ys j : Nat) : Int) ∧ wr = w.drewN m) (fun _ q _ => n - (intOf q).toNat)
    case atStart => exact ⟨0, 0, by omega, rfl, rfl, rfl⟩
    case round =>
      obtain ⟨j, m, hj, rfl, rfl, rfl⟩ := hrel
      by_cases hlt : j < n
      · obtain ⟨p, q, o, r, rfl, rfl, c1, c2⟩ := HR.out j hlt
        have lt2 : (j : Int) < (n : Int) := by omega
        have x1 := xb_bits (xs.getD j 0) (ys.getD j 0) (HX.out j).1 (HX.out j).2 (HY.out j).1 (HY.out j).2
        have x2 := xb_byte (xs.getD j 0) (ys.getD j 0) (HX.out j).1 (HX.out j).2 (HY.out j).1 (HY.out j).2
        have o1 : bits .or .u8 ((dif xs ys j : Nat) : Int) (xb (xs.getD j 0) (ys.getD j 0)) = ((dif xs ys (j + 1) : Nat) : Int) := u8_or_nat _ _ (HB.out j) (by unfold xb at x2; omega)
        generalize xb (xs.getD j 0) (ys.getD j 0) = x at *
        generalize xs.getD j 0 = y at *
        generalize ys.getD j 0 = z at *
        generalize dif xs ys j = d0 at *
        obtain ⟨d1, hd1⟩ : ∃ d1, d1 = dif xs ys (j + 1) := ⟨_, rfl⟩
        have HD1 : Hid (d1 = dif xs ys (j + 1)) := hd1
        rw [← hd1] at o1
        clear hd1 x2
        go_wp2_with fail
        go_quiet (fail)
        go_wp2
        exact ⟨⟨j + 1, _, by omega, by go_num, by rw [HD1.out], rfl⟩, by simp [intOf]; omega⟩
      · obtain rfl : j = n := by omega
        generalize dif xs ys j = d0 at *
        have e1 := EN.out
        cases hR : (xs == ys) with
        | true =>
          rw [hR] at e1
          obtain rfl : d0 = 0 := by simpa using e1
          have HRR : Hid ((xs == ys) = true) := hR
          clear EN HR HB hlt hR e1
          go_wp2
          go_ret
          exact ⟨by rw [HRR.out]; rfl, ⟨rfl, rfl, rfl, Nat.le_refl _, fun _ _ => rfl⟩⟩
        | false =>
          rw [hR] at e1
          have e2 : ¬ d0 = 0 := by simpa using e1
          have HRR : Hid ((xs == ys) = false) := hR
          clear EN HR HB hlt hR
          go_wp2
          go_ret
          exact ⟨by rw [HRR.out]; rfl, ⟨rfl, rfl, rfl, Nat.le_refl _, fun _ _ => rfl⟩⟩
  · have hne : (xs == ys) = false := by simp; intro h; exact hl (by rw [h])
    rw [hne]
    have n1 : ¬ (xs.length : Int) = (ys.length : Int) := by omega
    have n2 : ((xs.length : Int) != (ys.length : Int)) = true := by simp; omega
    clear hx hy a1 a2 a3 a4 b1 b2 b3 b4 hl hne
    generalize xs.length = n at *
    generalize ys.length = m at *
    go_enter Tryd.func11, Tryd.ntmps11
    go_wp2
    go_ret
    exact ⟨rfl, Below.refl _ _⟩
end Go.Proofs.YtkblcabibnnmcaaDoor
