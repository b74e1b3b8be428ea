/-
  The register of the sum as a plain function: one move, eight moves, bytes worked in; the moves are linear, and no two registers of 32 bits are moved to one.
-/
import Derived.Laws.BitsAllLaws
namespace Go.Proofs.YtpkobpdiddjnpaaDoor.Cr.Reg

def P : Nat := 0xedb88320

/-- One move. -/
def st (c : Nat) : Nat := if c % 2 = 1 then (c / 2) ^^^ P else c / 2
/-- n moves. -/
def sts : Nat → Nat → Nat
  | 0, c => c
  | n + 1, c => sts n (st c)
/-- A byte worked in. -/
def byteIn (c b : Nat) : Nat := sts 8 (c ^^^ b)
/-- Bytes worked in. -/
def run (c : Nat) (l : List Int) : Nat := l.foldl (fun c b => byteIn c b.toNat) c
/-- All bits turned. -/
def top : Nat := 4294967295
def inv (c : Nat) : Nat := top ^^^ c
theorem top_lt : top < 4294967296 := by decide

theorem st_lt {c : Nat} (h : c < 4294967296) : st c < 4294967296 := by
  unfold st
  split
  · have h1 : c / 2 < 2 ^ 32 := by omega
    have h2 : P < 2 ^ 32 := by decide
    exact Nat.xor_lt_two_pow h1 h2
  · omega
theorem sts_lt (n : Nat) : ∀ {c : Nat}, c < 4294967296 → sts n c < 4294967296 := by
  induction n with
  | zero => intro c h; exact h
  | succ n ih => intro c h; exact ih (st_lt h)
theorem sts_succ (n : Nat) : ∀ c, sts (n + 1) c = st (sts n c) := by
  induction n with
  | zero => intro c; rfl
  | succ n ih => intro c; exact ih (st c)

theorem xor4 (a b c d : Nat) : (a ^^^ b) ^^^ (c ^^^ d) = (a ^^^ c) ^^^ (b ^^^ d) := by
  rw [Nat.xor_assoc, Nat.xor_assoc, ← Nat.xor_assoc b c d, Nat.xor_comm b c, Nat.xor_assoc c b d]

theorem st_eq (c : Nat) : st c = (c / 2) ^^^ (if c % 2 = 1 then P else 0) := by
  unfold st; split <;> simp
theorem st_xor (a b : Nat) : st (a ^^^ b) = st a ^^^ st b := by
  rw [st_eq, st_eq, st_eq, xor4, Nat.xor_div_two]
  congr 1
  have h := @Nat.xor_mod_two_eq_one a b
  by_cases ha : a % 2 = 1 <;> by_cases hb : b % 2 = 1 <;> simp [ha, hb] at h ⊢ <;> simp [h]
theorem sts_xor (n : Nat) : ∀ a b, sts n (a ^^^ b) = sts n a ^^^ sts n b := by
  induction n with
  | zero => intro a b; rfl
  | succ n ih => intro a b; show sts n (st (a ^^^ b)) = _; rw [st_xor, ih]; rfl

theorem st_inj {a b : Nat} (ha : a < 4294967296) (hb : b < 4294967296) (h : st a = st b) : a = b := by
  have key : ∀ c : Nat, c < 4294967296 → st c = 0 → c = 0 := by
    intro c hc h0
    unfold st at h0
    split at h0
    · next h1 =>
      have h2 : c / 2 = P := by
        have := congrArg (· ^^^ P) h0
        simpa [Nat.xor_assoc] using this
      have : P = 3988292384 := rfl
      omega
    · omega
  have h0 : st (a ^^^ b) = 0 := by rw [st_xor, h, Nat.xor_self]
  have hl : a ^^^ b < 2 ^ 32 := Nat.xor_lt_two_pow (by omega) (by omega)
  have hx := key _ hl h0
  have := congrArg (· ^^^ b) hx
  simpa [Nat.xor_assoc] using this
theorem sts_inj (n : Nat) : ∀ {a b : Nat}, a < 4294967296 → b < 4294967296 → sts n a = sts n b → a = b := by
  induction n with
  | zero => intro a b _ _ h; exact h
  | succ n ih => intro a b ha hb h; exact st_inj ha hb (ih (st_lt ha) (st_lt hb) h)

theorem xor_right_inj {a b c : Nat} (h : a ^^^ c = b ^^^ c) : a = b := by
  have := congrArg (· ^^^ c) h
  simpa [Nat.xor_assoc] using this
theorem xor_left_inj {a b c : Nat} (h : c ^^^ a = c ^^^ b) : a = b := by
  rw [Nat.xor_comm c a, Nat.xor_comm c b] at h
  exact xor_right_inj h

theorem xor_lt {a b : Nat} (ha : a < 4294967296) (hb : b < 4294967296) : a ^^^ b < 4294967296 := by
  have : a ^^^ b < 2 ^ 32 := Nat.xor_lt_two_pow (by omega) (by omega)
  omega
theorem byteIn_lt {c b : Nat} (hc : c < 4294967296) (hb : b < 256) : byteIn c b < 4294967296 := sts_lt 8 (xor_lt hc (by omega))
theorem inv_lt {c : Nat} (hc : c < 4294967296) : inv c < 4294967296 := xor_lt top_lt hc
theorem xor_twice (F c : Nat) : F ^^^ (F ^^^ c) = c := by rw [← Nat.xor_assoc, Nat.xor_self, Nat.zero_xor]
theorem inv_inv (c : Nat) : inv (inv c) = c := by
  have h : ∀ c, inv c = top ^^^ c := fun _ => rfl
  rw [h (inv c), h c]
  generalize top = F
  exact xor_twice F c

/-- The list holds bytes. -/
def Byt (l : List Int) : Prop := ∀ x ∈ l, 0 ≤ x ∧ x < 256

theorem run_cons (c : Nat) (x : Int) (l : List Int) : run c (x :: l) = run (byteIn c x.toNat) l := by unfold run; rw [List.foldl_cons]
theorem run_nil (c : Nat) : run c [] = c := rfl
theorem run_lt (l : List Int) : ∀ {c : Nat}, c < 4294967296 → Byt l → run c l < 4294967296 := by
  induction l with
  | nil => intro c h _; exact h
  | cons x l ih =>
    intro c h hl
    have hx := hl x (by simp)
    rw [run_cons]
    exact ih (byteIn_lt h (by omega)) (fun y hy => hl y (by simp [hy]))
theorem run_append (c : Nat) (l m : List Int) : run c (l ++ m) = run (run c l) m := by unfold run; rw [List.foldl_append]
theorem run_snoc (c : Nat) (l : List Int) (x : Int) : run c (l ++ [x]) = byteIn (run c l) x.toNat := by rw [run_append, run_cons, run_nil]
theorem run_inj (l : List Int) : ∀ {a b : Nat}, a < 4294967296 → b < 4294967296 → Byt l → run a l = run b l → a = b := by
  induction l with
  | nil => intro a b _ _ _ h; exact h
  | cons x l ih =>
    intro a b ha hb hl h
    have hx := hl x (by simp)
    rw [run_cons, run_cons] at h
    have h1 := ih (byteIn_lt ha (by omega)) (byteIn_lt hb (by omega)) (fun y hy => hl y (by simp [hy])) h
    unfold byteIn at h1
    exact xor_right_inj (sts_inj 8 (xor_lt ha (by omega)) (xor_lt hb (by omega)) h1)

/-- A byte that differs makes another sum. -/
theorem run_other (c : Nat) (l m : List Int) (x y : Int) (hc : c < 4294967296) (hl : Byt l) (hm : Byt m) (hx : 0 ≤ x ∧ x < 256) (hy : 0 ≤ y ∧ y < 256) (h : x ≠ y) :
    run c (l ++ x :: m) ≠ run c (l ++ y :: m) := by
  intro e
  rw [run_append, run_append, run_cons, run_cons] at e
  have hr := run_lt l hc hl
  have h1 := run_inj m (a := byteIn (run c l) x.toNat) (b := byteIn (run c l) y.toNat) (byteIn_lt hr (by omega)) (byteIn_lt hr (by omega)) hm e
  unfold byteIn at h1
  have h2 := xor_left_inj (sts_inj 8 (xor_lt hr (by omega)) (xor_lt hr (by omega)) h1)
  omega

/-- Half a byte's moves, by the table. -/
def tab : List Nat := [0x00000000, 0x1db71064, 0x3b6e20c8, 0x26d930ac, 0x76dc4190, 0x6b6b51f4, 0x4db26158, 0x5005713c, 0xedb88320, 0xf00f9344, 0xd6d6a3e8, 0xcb61b38c, 0x9b64c2b0, 0x86d3d2d4, 0xa00ae278, 0xbdbdf21c]

theorem st_even (q : Nat) : st (2 * q) = q := by unfold st; rw [if_neg (by omega)]; omega
theorem sts_add (m n : Nat) : ∀ c, sts (m + n) c = sts n (sts m c) := by
  induction m with
  | zero => intro c; simp [sts]
  | succ m ih => intro c; rw [Nat.add_right_comm]; exact ih (st c)
theorem half_low (m : Nat) (h : m < 16) : sts 4 m = tab.getD m 0 := by
  have : (List.range 16).all (fun m => sts 4 m == tab.getD m 0) = true := by decide
  have := List.all_eq_true.1 this m (by simpa using h)
  simpa using this
theorem half_split (r : Nat) : (16 * (r / 16)) ^^^ (r % 16) = r := by
  apply Nat.eq_of_testBit_eq
  intro i
  rw [Nat.testBit_xor, show (16 : Nat) = 2 ^ 4 from rfl, Nat.testBit_two_pow_mul, Nat.testBit_mod_two_pow, Nat.testBit_div_two_pow]
  by_cases h : 4 ≤ i
  · rw [show i - 4 + 4 = i by omega]
    simp [h, Nat.not_lt.2 h]
  · simp [h, Nat.not_le.1 h]
theorem half_eq (r : Nat) : sts 4 r = (r / 16) ^^^ tab.getD (r % 16) 0 := by
  have key : sts 4 ((16 * (r / 16)) ^^^ (r % 16)) = (r / 16) ^^^ tab.getD (r % 16) 0 := by
    rw [sts_xor, half_low (r % 16) (by omega)]
    congr 1
    show st (st (st (st (16 * (r / 16))))) = _
    rw [show 16 * (r / 16) = 2 * (2 * (2 * (2 * (r / 16)))) by omega, st_even, st_even, st_even, st_even]
  rwa [half_split] at key

/-- Two lists, place by place. -/
def xors (l m : List Int) : List Int := List.zipWith (fun x y => ((x.toNat ^^^ y.toNat : Nat) : Int)) l m
theorem run_xor (l : List Int) : ∀ (m : List Int) (a b : Nat), l.length = m.length → run (a ^^^ b) (xors l m) = run a l ^^^ run b m := by
  induction l with
  | nil => intro m a b h; cases m with
    | nil => rfl
    | cons y m => simp at h
  | cons x l ih =>
    intro m a b h
    cases m with
    | nil => simp at h
    | cons y m =>
      have e : byteIn (a ^^^ b) (x.toNat ^^^ y.toNat) = byteIn a x.toNat ^^^ byteIn b y.toNat := by
        unfold byteIn
        rw [xor4, sts_xor]
      rw [show xors (x :: l) (y :: m) = ((x.toNat ^^^ y.toNat : Nat) : Int) :: xors l m from rfl, run_cons, run_cons, run_cons]
      rw [Int.toNat_natCast, e]
      exact ih m _ _ (by simpa using h)
end Go.Proofs.YtpkobpdiddjnpaaDoor.Cr.Reg
