/-
  How the bytes of two numbers stand to one another: of one width in the numbers' order; the same only for one number: plain facts, no program in sight but the definitions.
-/
import Derived.Test.YtidgmgebpancmaaDoorPutGet
namespace Go.Proofs.YtidgmgebpancmaaDoor
open Go.RowKit

def AllB (xs : List Int) : Prop := ∀ x ∈ xs, 0 ≤ x ∧ x < 256

theorem allB_of (xs : List Int) (h : ∀ i, 0 ≤ xs.getD i 0 ∧ xs.getD i 0 < 256) : AllB xs := by
  intro x hx
  obtain ⟨i, hi, rfl⟩ := List.getElem_of_mem hx
  have := h i
  simpa [List.getD, List.getElem?_eq_getElem hi] using this

/-- Bytes read as one number, the highest first. -/
def be : List Int → Int
  | [] => 0
  | x :: xs => x * 256 ^ xs.length + be xs

theorem be_bd (xs : List Int) (h : AllB xs) : 0 ≤ be xs ∧ be xs < 256 ^ xs.length := by
  induction xs with
  | nil => simp [be]
  | cons x xs ih =>
    have hx := h x (by simp)
    have hi := ih (fun y hy => h y (by simp [hy]))
    simp only [be, List.length_cons]
    rw [Int.pow_succ]
    generalize (256 : Int) ^ xs.length = P at *
    have h1 : x * P ≤ 255 * P := Int.mul_le_mul_of_nonneg_right (by omega) (by omega)
    have h2 : 0 ≤ x * P := Int.mul_nonneg hx.1 (by omega)
    omega

def bl (xs : List Int) : List UInt8 := xs.map fun n => UInt8.ofNat n.toNat

theorem u8_lt (x y : Int) (hx : 0 ≤ x ∧ x < 256) (hy : 0 ≤ y ∧ y < 256) : (UInt8.ofNat x.toNat < UInt8.ofNat y.toNat) ↔ x < y := by
  rw [UInt8.lt_iff_toNat_lt, UInt8.toNat_ofNat', UInt8.toNat_ofNat']; omega
theorem u8_eq (x y : Int) (hx : 0 ≤ x ∧ x < 256) (hy : 0 ≤ y ∧ y < 256) : (UInt8.ofNat x.toNat = UInt8.ofNat y.toNat) ↔ x = y := by
  rw [← UInt8.toNat_inj, UInt8.toNat_ofNat', UInt8.toNat_ofNat']; omega

theorem less_be (xs ys : List Int) (hx : AllB xs) (hy : AllB ys) (hl : xs.length = ys.length) : Op.bytesLess (bl xs) (bl ys) = decide (be xs < be ys) := by
  induction xs generalizing ys with
  | nil =>
    match ys, hl with
    | [], _ => simp [bl, be, Op.bytesLess]
  | cons x xs ih =>
    match ys, hl with
    | y :: ys, hl =>
      have hl' : xs.length = ys.length := by simpa using hl
      have bx := hx x (by simp)
      have bY := hy y (by simp)
      have hxs : AllB xs := fun z hz => hx z (by simp [hz])
      have hys : AllB ys := fun z hz => hy z (by simp [hz])
      have h := ih ys hxs hys hl'
      have b1 := be_bd xs hxs
      have b2 := be_bd ys hys
      show (decide (UInt8.ofNat x.toNat < UInt8.ofNat y.toNat) || (UInt8.ofNat x.toNat == UInt8.ofNat y.toNat && Op.bytesLess (bl xs) (bl ys))) = _
      rw [h]
      have eX : be (x :: xs) = x * 256 ^ ys.length + be xs := by rw [← hl']; rfl
      have eY : be (y :: ys) = y * 256 ^ ys.length + be ys := rfl
      rw [hl'] at b1
      generalize (256 : Int) ^ ys.length = P at *
      have e1 : decide (UInt8.ofNat x.toNat < UInt8.ofNat y.toNat) = decide (x < y) := by rw [decide_eq_decide]; exact u8_lt x y bx bY
      have e2 : (UInt8.ofNat x.toNat == UInt8.ofNat y.toNat) = decide (x = y) := by rw [Bool.eq_iff_iff]; simpa using u8_eq x y bx bY
      rw [e1, e2]
      rcases Int.lt_trichotomy x y with hlt | heq | hgt
      · have : (x + 1) * P ≤ y * P := Int.mul_le_mul_of_nonneg_right (by omega) (by omega)
        rw [Int.add_mul] at this
        have h3 : be (x :: xs) < be (y :: ys) := by omega
        simp [hlt, h3]
      · subst heq
        have h3 : be (x :: xs) < be (x :: ys) ↔ be xs < be ys := by omega
        simp [h3]
      · have : (y + 1) * P ≤ x * P := Int.mul_le_mul_of_nonneg_right (by omega) (by omega)
        rw [Int.add_mul] at this
        have h3 : ¬ be (x :: xs) < be (y :: ys) := by omega
        have h4 : ¬ x < y := by omega
        have h5 : ¬ x = y := by omega
        simp [h3, h4, h5]

theorem bl_inj (xs ys : List Int) (hx : AllB xs) (hy : AllB ys) (h : bl xs = bl ys) : xs = ys := by
  induction xs generalizing ys with
  | nil =>
    cases ys with
    | nil => rfl
    | cons y ys => simp [bl] at h
  | cons x xs ih =>
    cases ys with
    | nil => simp [bl] at h
    | cons y ys =>
      simp only [bl, List.map_cons, List.cons.injEq] at h
      have e := (u8_eq x y (hx x (by simp)) (hy y (by simp))).1 h.1
      have e2 := ih ys (fun z hz => hx z (by simp [hz])) (fun z hz => hy z (by simp [hz])) h.2
      rw [e, e2]

theorem be_pb (W : Nat) (hW : IsW W) : ∃ K : Int, ∀ m : Int, 0 ≤ m → m < lim W → be (pb m W) = m + K := by
  rcases hW with rfl | rfl | rfl | rfl
  · exact ⟨0, fun m _ _ => by simp [pb, be]⟩
  · exact ⟨16384, fun m a b => by simp only [lim] at b; simp [pb, be]; omega⟩
  · exact ⟨2147483648, fun m a b => by simp only [lim] at b; simp [pb, be]; omega⟩
  · exact ⟨13835058055282163712, fun m a b => by simp only [lim] at b; simp [pb, be]; omega⟩

theorem strB_list (xs : List Int) : (strB xs).toList = bl xs := by
  rw [ByteArray.toList_eq]; simp [strB, bl]

theorem less_pb (a b : Int) (W : Nat) (hW : IsW W) (a1 : 0 ≤ a) (a2 : a < lim W) (b1 : 0 ≤ b) (b2 : b < lim W) :
    Op.bytesLess (strB (pb a W)).toList (strB (pb b W)).toList = decide (a < b) := by
  obtain ⟨K, hK⟩ := be_pb W hW
  rw [strB_list, strB_list, less_be _ _ (allB_of _ (pb_bytes a W hW a1 a2)) (allB_of _ (pb_bytes b W hW b1 b2)) (by rw [pb_len a W hW, pb_len b W hW]), decide_eq_decide, hK a a1 a2, hK b b1 b2]
  omega

theorem same_pb (a b : Int) (U W : Nat) (hU : IsW U) (hW : IsW W) (a1 : 0 ≤ a) (a2 : a < lim U) (b1 : 0 ≤ b) (b2 : b < lim W) (hne : a ≠ b) :
    ((strB (pb a U)).toList == (strB (pb b W)).toList) = false := by
  rw [strB_list, strB_list]
  refine beq_eq_false_iff_ne.2 fun h => hne ?_
  have e := bl_inj _ _ (allB_of _ (pb_bytes a U hU a1 a2)) (allB_of _ (pb_bytes b W hW b1 b2)) h
  have el := congrArg List.length e
  rw [pb_len a U hU, pb_len b W hW] at el
  subst el
  rw [← pb_gval a U hU a1 a2, ← pb_gval b U hW b1 b2, e]
end Go.Proofs.YtidgmgebpancmaaDoor
