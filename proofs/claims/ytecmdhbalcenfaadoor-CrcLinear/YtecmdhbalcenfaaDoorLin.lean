/-
  The sums of three texts of one length, and of the three exclusive-ored, cancel one another; a row that is filled cell by cell.
-/
import Derived.Test.YtecmdhbalcenfaaDoorTurn
namespace Go.Proofs.YtecmdhbalcenfaaDoor
open Go.RowKit

/-- The least of four numbers. -/
theorem run_min4 {P : Program} (w : World) (ts : Array TypeId) (t : TypeId) (x y z u n : Nat) (h : n = min (min x y) (min z u)) :
    (Builtin.min_ ts t #[.int .i64 (x : Int), .int .i64 (y : Int), .int .i64 (z : Int), .int .i64 (u : Int)]).run P w = .ok (.int .i64 (n : Int)) w := by
  have e : ∀ a b c d : Int, (if d < (if c < (if b < a then b else a) then c else (if b < a then b else a)) then d else (if c < (if b < a then b else a) then c else (if b < a then b else a))) = min (min a b) (min c d) := by
    intro a b c d
    repeat' split
    all_goals omega
  have h2 : (n : Int) = min (min (x : Int) (y : Int)) (min (z : Int) (u : Int)) := by omega
  rw [h2, ← e]
  simp [Builtin.min_, Builtin.min2]

/-- A row of n, the first j of them filled. -/
def fill (f : Nat → Int) (n j : Nat) : List Int := (List.range n).map fun i => if i < j then f i else 0
theorem fill_len (f : Nat → Int) (n j : Nat) : (fill f n j).length = n := by simp [fill]
theorem fill_set (f : Nat → Int) (n j : Nat) : (fill f n j).set j (f j) = fill f n (j + 1) := by
  refine List.ext_getElem (by simp [fill]) fun i h1 h2 => ?_
  simp only [fill, List.getElem_set, List.getElem_map, List.getElem_range]
  by_cases h : j = i
  · subst h; simp
  · rw [if_neg h]
    by_cases hi : i < j
    · rw [if_pos hi, if_pos (by omega)]
    · rw [if_neg hi, if_neg (by omega)]
theorem fill_zero (f : Nat → Int) (n : Nat) : fill f n 0 = List.replicate n 0 := by
  refine List.ext_getElem (by simp [fill]) fun i h1 h2 => ?_
  simp [fill]

/-- Three lists exclusive-ored, place by place. -/
def x3 (A B C : List Int) (i : Nat) : Int := bits .xor .u8 (bits .xor .u8 (A.getD i 0) (B.getD i 0)) (C.getD i 0)

theorem xor8_bd (x y : Int) (hx : 0 ≤ x ∧ x < 256) (hy : 0 ≤ y ∧ y < 256) : 0 ≤ bits .xor .u8 x y ∧ bits .xor .u8 x y < 256 := by
  rw [u8_xor x y hx.1 hx.2 hy.1 hy.2]
  have : x.toNat ^^^ y.toNat < 2 ^ 8 := Nat.xor_lt_two_pow (by omega) (by omega)
  omega
theorem x3_bd {A B C : List Int} (hA : ∀ i, 0 ≤ A.getD i 0 ∧ A.getD i 0 < 256) (hB : ∀ i, 0 ≤ B.getD i 0 ∧ B.getD i 0 < 256) (hC : ∀ i, 0 ≤ C.getD i 0 ∧ C.getD i 0 < 256) (i : Nat) : 0 ≤ x3 A B C i ∧ x3 A B C i < 256 :=
  xor8_bd _ _ (xor8_bd _ _ (hA i) (hB i)) (hC i)

theorem fill_xors {A B C : List Int} (hA : ∀ i, 0 ≤ A.getD i 0 ∧ A.getD i 0 < 256) (hB : ∀ i, 0 ≤ B.getD i 0 ∧ B.getD i 0 < 256) (hC : ∀ i, 0 ≤ C.getD i 0 ∧ C.getD i 0 < 256)
    (n : Nat) (la : n ≤ A.length) (lb : n ≤ B.length) (lc : n ≤ C.length) : fill (x3 A B C) n n = Reg.xors (Reg.xors (A.take n) (B.take n)) (C.take n) := by
  refine List.ext_getElem (by simp [fill, Reg.xors, List.length_take]; omega) fun i h1 h2 => ?_
  have hi : i < n := by simpa [fill] using h1
  simp only [fill, Reg.xors, List.getElem_map, List.getElem_range, List.getElem_zipWith, List.getElem_take, if_pos hi]
  have a := hA i
  have b := hB i
  have c := hC i
  have ea : A.getD i 0 = A[i]'(by omega) := by simp [List.getD, List.getElem?_eq_getElem (show i < A.length by omega)]
  have eb : B.getD i 0 = B[i]'(by omega) := by simp [List.getD, List.getElem?_eq_getElem (show i < B.length by omega)]
  have ec : C.getD i 0 = C[i]'(by omega) := by simp [List.getD, List.getElem?_eq_getElem (show i < C.length by omega)]
  unfold x3
  rw [ea] at a ⊢
  rw [eb] at b ⊢
  rw [ec] at c ⊢
  have ab := xor8_bd _ _ a b
  rw [u8_xor _ _ ab.1 ab.2 c.1 c.2, u8_xor _ _ a.1 a.2 b.1 b.2]

theorem three (F a b c : Nat) : F ^^^ ((a ^^^ b) ^^^ c) = ((F ^^^ a) ^^^ (F ^^^ b)) ^^^ (F ^^^ c) := by
  rw [Reg.xor4 F a F b, Nat.xor_self, Nat.zero_xor, ← Nat.xor_assoc F (a ^^^ b) c, Nat.xor_comm F (a ^^^ b), Nat.xor_assoc (a ^^^ b) F c]

theorem sum_three (A B C : List Int) (h1 : A.length = B.length) (h2 : A.length = C.length) :
    sumOf (Reg.xors (Reg.xors A B) C) = (sumOf A ^^^ sumOf B) ^^^ sumOf C := by
  have key : ∀ F : Nat, Reg.run F (Reg.xors (Reg.xors A B) C) = (Reg.run F A ^^^ Reg.run F B) ^^^ Reg.run F C := fun F => by
    have hl : (Reg.xors A B).length = C.length := by unfold Reg.xors; rw [List.length_zipWith]; omega
    have e : F = (F ^^^ F) ^^^ F := by rw [Nat.xor_self, Nat.zero_xor]
    have h := Reg.run_xor (Reg.xors A B) C (F ^^^ F) F hl
    rw [Reg.run_xor A B F F h1, ← e] at h
    exact h
  have hi : ∀ c, Reg.inv c = Reg.top ^^^ c := fun _ => rfl
  unfold sumOf
  rw [key, hi, hi, hi, hi]
  generalize Reg.top = F
  exact three F _ _ _
end Go.Proofs.YtecmdhbalcenfaaDoor
