/-
  The document's pair of bytes, plainly: the sum of all, and the sum of each as often as there are bytes from it on; how both change with a byte more behind and a byte less ahead.
-/
import Derived.Test.YtlhmpcmlpfffoaaDoorRoFlt
namespace Go.Proofs.YtlhmpcmlpfffoaaDoor.Ro

def SA : List Int → Int
  | [] => 0
  | c :: zs => c + SA zs
def SB : List Int → Int
  | [] => 0
  | c :: zs => ((zs.length + 1 : Nat) : Int) * c + SB zs
/-- The first bytes of n, each as often as there are bytes from it on. -/
def SW (n : Int) : List Int → Int
  | [] => 0
  | c :: zs => n * c + SW (n - 1) zs

def pa (zs : List Int) : Int := SA zs % 65536
def pb (zs : List Int) : Int := SB zs % 65536
/-- The sum. -/
def rs (zs : List Int) : Int := pb zs * 65536 + pa zs

theorem SA_snoc (zs : List Int) (c : Int) : SA (zs ++ [c]) = SA zs + c := by
  induction zs with
  | nil => simp [SA]
  | cons d zs ih => simp only [List.cons_append, SA, ih]; omega

theorem SB_snoc (zs : List Int) (c : Int) : SB (zs ++ [c]) = SB zs + SA zs + c := by
  induction zs with
  | nil => simp [SB, SA]
  | cons d zs ih =>
    simp only [List.cons_append, SB, SA, ih, List.length_append, List.length_cons, List.length_nil]
    have : ((zs.length + (0 + 1) + 1 : Nat) : Int) * d = ((zs.length + 1 : Nat) : Int) * d + d := by
      rw [show ((zs.length + (0 + 1) + 1 : Nat) : Int) = ((zs.length + 1 : Nat) : Int) + 1 by omega, Int.add_mul, Int.one_mul]
    rw [this]; omega

theorem SW_snoc (zs : List Int) (c : Int) : ∀ n : Int, SW n (zs ++ [c]) = SW n zs + (n - zs.length) * c := by
  induction zs with
  | nil => intro n; simp [SW]
  | cons d zs ih =>
    intro n
    simp only [List.cons_append, SW, ih, List.length_cons]
    rw [show n - ((zs.length + 1 : Nat) : Int) = n - 1 - zs.length by omega]; omega

theorem SB_SW (zs : List Int) : SB zs = SW zs.length zs := by
  induction zs with
  | nil => rfl
  | cons d zs ih =>
    simp only [SB, SW, List.length_cons, ih]
    rw [show ((zs.length + 1 : Nat) : Int) - 1 = zs.length by omega]

theorem pa_range (zs : List Int) : 0 ≤ pa zs ∧ pa zs < 65536 := by unfold pa; omega
theorem pb_range (zs : List Int) : 0 ≤ pb zs ∧ pb zs < 65536 := by unfold pb; omega
theorem rs_range (zs : List Int) : 0 ≤ rs zs ∧ rs zs < 4294967296 := by
  have := pa_range zs; have := pb_range zs; unfold rs; omega

theorem pa_snoc (zs : List Int) (c : Int) : pa (zs ++ [c]) = (pa zs + c) % 65536 := by unfold pa; rw [SA_snoc]; omega
theorem pb_snoc (zs : List Int) (c : Int) : pb (zs ++ [c]) = (pb zs + pa zs + c) % 65536 := by unfold pb pa; rw [SB_snoc]; omega
theorem pa_tail (zs : List Int) (c : Int) : pa zs = (pa (c :: zs) - c) % 65536 := by unfold pa; simp only [SA]; omega
theorem pb_tail (zs : List Int) (c : Int) : pb zs = (pb (c :: zs) - ((zs.length + 1 : Nat) : Int) * c) % 65536 := by
  unfold pb; simp only [SB]
  generalize ((zs.length + 1 : Nat) : Int) * c = m
  omega

theorem pa_nil : pa [] = 0 := rfl
theorem pb_nil : pb [] = 0 := rfl

theorem take_next (zs : List Int) (j : Nat) (h : j < zs.length) : zs.take (j + 1) = zs.take j ++ [zs.getD j 0] := by
  rw [List.take_add_one, List.getElem?_eq_getElem h]
  simp [List.getD, List.getElem?_eq_getElem h]

/-- What the document's answer holds behind j bytes of L. -/
def hx (zs : List Int) (j : Nat) : Int := SA (zs.take j) % 65536
def hy (L : Nat) (zs : List Int) (j : Nat) : Int := SW L (zs.take j) % 65536

theorem hx_range (zs : List Int) (j : Nat) : 0 ≤ hx zs j ∧ hx zs j < 65536 := by unfold hx; omega
theorem hy_range (L : Nat) (zs : List Int) (j : Nat) : 0 ≤ hy L zs j ∧ hy L zs j < 65536 := by unfold hy; omega
theorem hx_succ (zs : List Int) (j : Nat) (h : j < zs.length) : hx zs (j + 1) = (hx zs j + zs.getD j 0) % 65536 := by
  unfold hx; rw [take_next zs j h, SA_snoc]; omega
theorem hy_succ (L : Nat) (zs : List Int) (j : Nat) (h : j < zs.length) (hL : j ≤ L) : hy L zs (j + 1) = (hy L zs j + (((L - j : Nat) : Int) % 65536) * zs.getD j 0) % 65536 := by
  unfold hy
  rw [take_next zs j h, SW_snoc, List.length_take, Nat.min_eq_left (by omega), show (L : Int) - (j : Nat) = ((L - j : Nat) : Int) by omega]
  generalize ((L - j : Nat) : Int) = m
  generalize zs.getD j 0 = z
  obtain ⟨q, hq⟩ : ∃ q, m * z = (m % 65536) * z + 65536 * q := ⟨(m / 65536) * z, by
    rw [← Int.mul_assoc, ← Int.add_mul, Int.add_comm, Int.mul_ediv_add_emod]⟩
  rw [hq]
  generalize (m % 65536) * z = u
  omega
theorem hx_all (zs : List Int) (L : Nat) (h : L = zs.length) : hx zs L = pa zs := by unfold hx pa; rw [h, List.take_length]
theorem hy_all (zs : List Int) (L : Nat) (h : L = zs.length) : hy L zs L = pb zs := by unfold hy pb; rw [h, List.take_length, SB_SW]
end Go.Proofs.YtlhmpcmlpfffoaaDoor.Ro
