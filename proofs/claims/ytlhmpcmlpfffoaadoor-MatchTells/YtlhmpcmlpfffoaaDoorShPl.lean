/-
  SHA-256 as a plain function of a list of bytes: words, rounds, blocks, padding, digest.
-/
import Derived.Laws.BitsAllLaws
namespace Go.Proofs.YtlhmpcmlpfffoaaDoor.Sh.Pl

/-- A word turned right by k bits. -/
def rotr (k x : Nat) : Nat := (x * 2 ^ (32 - k)) % 4294967296 ||| x / 2 ^ k
def sig0 (x : Nat) : Nat := rotr 7 x ^^^ rotr 18 x ^^^ x / 8
def sig1 (x : Nat) : Nat := rotr 17 x ^^^ rotr 19 x ^^^ x / 1024
def tri (i j k x : Nat) : Nat := rotr i x ^^^ rotr j x ^^^ rotr k x
def no (x : Nat) : Nat := 4294967295 ^^^ x
def ch (e f g : Nat) : Nat := (e &&& f) ^^^ (no e &&& g)
def maj (a b c : Nat) : Nat := (a &&& b) ^^^ (a &&& c) ^^^ (b &&& c)

/-- A word of a block. -/
def word (xs : List Int) (i : Nat) : Nat :=
  (((xs.getD (4 * i) 0).toNat * 16777216 ||| (xs.getD (4 * i + 1) 0).toNat * 65536) ||| (xs.getD (4 * i + 2) 0).toNat * 256) ||| (xs.getD (4 * i + 3) 0).toNat
/-- The next word. -/
def nxt (l : List Nat) (i : Nat) : Nat := (sig1 (l.getD (i - 2) 0) + l.getD (i - 7) 0 + sig0 (l.getD (i - 15) 0) + l.getD (i - 16) 0) % 4294967296
def ext : Nat → List Nat → List Nat
  | 0, l => l
  | n + 1, l => ext n (l ++ [nxt l l.length])
/-- A word for each round. -/
def sched (xs : List Int) : List Nat := ext 48 ((List.range 16).map (word xs))

theorem rotr_lt (k x : Nat) (hx : x < 4294967296) : rotr k x < 4294967296 := by
  unfold rotr
  have h1 : (x * 2 ^ (32 - k)) % 4294967296 < 2 ^ 32 := Nat.mod_lt _ (by decide)
  have h2 : x / 2 ^ k < 2 ^ 32 := Nat.lt_of_le_of_lt (Nat.div_le_self _ _) hx
  exact Nat.or_lt_two_pow h1 h2
theorem xor_lt {a b : Nat} (ha : a < 4294967296) (hb : b < 4294967296) : a ^^^ b < 4294967296 := by
  have : a ^^^ b < 2 ^ 32 := Nat.xor_lt_two_pow (by omega) (by omega)
  omega
theorem and_lt {a b : Nat} (ha : a < 4294967296) : a &&& b < 4294967296 := Nat.lt_of_le_of_lt Nat.and_le_left ha
theorem or_lt {a b : Nat} (ha : a < 4294967296) (hb : b < 4294967296) : a ||| b < 4294967296 := by
  have : a ||| b < 2 ^ 32 := Nat.or_lt_two_pow (by omega) (by omega)
  omega
theorem no_lt {x : Nat} (hx : x < 4294967296) : no x < 4294967296 := xor_lt (by omega) hx
theorem tri_lt (i j k x : Nat) (hx : x < 4294967296) : tri i j k x < 4294967296 :=
  xor_lt (xor_lt (rotr_lt i x hx) (rotr_lt j x hx)) (rotr_lt k x hx)
theorem sig0_lt {x : Nat} (hx : x < 4294967296) : sig0 x < 4294967296 := xor_lt (xor_lt (rotr_lt 7 x hx) (rotr_lt 18 x hx)) (by omega)
theorem sig1_lt {x : Nat} (hx : x < 4294967296) : sig1 x < 4294967296 := xor_lt (xor_lt (rotr_lt 17 x hx) (rotr_lt 19 x hx)) (by omega)
theorem ch_lt {e f g : Nat} (he : e < 4294967296) : ch e f g < 4294967296 := xor_lt (and_lt he) (and_lt (no_lt he))
theorem maj_lt {a b c : Nat} (ha : a < 4294967296) (hb : b < 4294967296) : maj a b c < 4294967296 := xor_lt (xor_lt (and_lt ha) (and_lt ha)) (and_lt hb)

theorem snoc_get (l : List Nat) (x : Nat) : (l ++ [x]).getD l.length 0 = x := by simp [List.getD]
theorem pre_get (l : List Nat) (x i : Nat) (h : i < l.length) : (l ++ [x]).getD i 0 = l.getD i 0 := by simp [List.getD, List.getElem?_append_left h]
theorem map_get (f : Nat → Nat) (n i : Nat) (h : i < n) : ((List.range n).map f).getD i 0 = f i := by simp [List.getD, h]
theorem ext_pre (n : Nat) : ∀ (l : List Nat) (i : Nat), i < l.length → (ext n l).getD i 0 = l.getD i 0 := by
  induction n with
  | zero => intro l i _; rfl
  | succ n ih =>
    intro l i hi
    show (ext n (l ++ [nxt l l.length])).getD i 0 = _
    rw [ih _ i (by simp; omega)]
    exact pre_get l _ i hi
theorem ext_len (n : Nat) : ∀ l : List Nat, (ext n l).length = l.length + n := by
  induction n with
  | zero => intro l; rfl
  | succ n ih => intro l; show (ext n (l ++ [nxt l l.length])).length = _; rw [ih]; simp; omega
theorem ext_nxt (n : Nat) : ∀ (l : List Nat) (i : Nat), 16 ≤ l.length → l.length ≤ i → i < l.length + n → (ext n l).getD i 0 = nxt (ext n l) i := by
  induction n with
  | zero => intro l i _ h1 h2; omega
  | succ n ih =>
    intro l i h0 h1 h2
    have e : ext (n + 1) l = ext n (l ++ [nxt l l.length]) := rfl
    rcases Nat.lt_or_ge l.length i with h | h
    · rw [e]
      exact ih _ i (by simp; omega) (by simp; omega) (by simp; omega)
    · obtain rfl : i = l.length := by omega
      have hp : ∀ j, j < l.length → (ext (n + 1) l).getD j 0 = l.getD j 0 := fun j hj => ext_pre (n + 1) l j hj
      have hr : nxt (ext (n + 1) l) l.length = nxt l l.length := by
        unfold nxt
        rw [hp _ (by omega), hp _ (by omega), hp _ (by omega), hp _ (by omega)]
      rw [hr, e, ext_pre n _ _ (by simp)]
      exact snoc_get l _

theorem sched_len (xs : List Int) : (sched xs).length = 64 := by unfold sched; rw [ext_len]; simp
theorem sched_word (xs : List Int) (i : Nat) (hi : i < 16) : (sched xs).getD i 0 = word xs i := by
  unfold sched; rw [ext_pre _ _ _ (by simpa using hi)]; exact map_get _ 16 i hi
theorem sched_nxt (xs : List Int) (i : Nat) (h0 : 16 ≤ i) (h1 : i < 64) : (sched xs).getD i 0 = nxt (sched xs) i := by
  unfold sched; exact ext_nxt _ _ _ (by simp) (by simpa using h0) (by simpa using h1)

/-- Bytes. -/
def Byt (xs : List Int) : Prop := ∀ i, 0 ≤ xs.getD i 0 ∧ xs.getD i 0 < 256

theorem word_lt {xs : List Int} (h : Byt xs) (i : Nat) : word xs i < 4294967296 := by
  have h0 := h (4 * i); have h1 := h (4 * i + 1); have h2 := h (4 * i + 2); have h3 := h (4 * i + 3)
  exact or_lt (or_lt (or_lt (by omega) (by omega)) (by omega)) (by omega)
theorem sched_lt {xs : List Int} (h : Byt xs) (i : Nat) : (sched xs).getD i 0 < 4294967296 := by
  rcases Nat.lt_or_ge i 16 with h1 | h1
  · rw [sched_word xs i h1]; exact word_lt h i
  · rcases Nat.lt_or_ge i 64 with h2 | h2
    · rw [sched_nxt xs i h1 h2]; exact Nat.mod_lt _ (by decide)
    · rw [List.getD, List.getElem?_eq_none (by rw [sched_len]; exact h2)]; simp

/-- The words up to i, noughts behind them. -/
def part (l : List Nat) (i : Nat) : List Nat := l.take i ++ List.replicate (l.length - i) 0
theorem part_len (l : List Nat) (i : Nat) : (part l i).length = l.length := by unfold part; simp; omega
theorem part_get (l : List Nat) (i j : Nat) (h : j < i) (hi : i ≤ l.length) : (part l i).getD j 0 = l.getD j 0 := by
  unfold part
  have h1 : j < (l.take i).length := by simp; omega
  simp only [List.getD]
  rw [List.getElem?_append_left h1, List.getElem?_take, if_pos h]
theorem part_zero (l : List Nat) : part l 0 = List.replicate l.length 0 := by simp [part]
theorem part_all (l : List Nat) : part l l.length = l := by simp [part]
theorem part_set (l : List Nat) (i : Nat) (h : i < l.length) : (part l i).set i (l.getD i 0) = part l (i + 1) := by
  apply List.ext_getElem?
  intro k
  unfold part
  rw [List.getElem?_set]
  by_cases e : i = k
  · subst e
    have h1 : i < (l.take (i + 1)).length := by simp; omega
    rw [List.getElem?_append_left h1, List.getElem?_take, if_pos rfl, if_pos (by simp; omega), if_pos (show i < i + 1 by omega)]
    simp [List.getD, List.getElem?_eq_getElem h]
  · simp only [e, if_false, List.getElem?_append, List.length_take, List.getElem?_take, List.getElem?_replicate]
    repeat' split
    all_goals first | rfl | omega

/-- A state of eight words. -/
structure S8 where
  a : Nat
  b : Nat
  c : Nat
  d : Nat
  e : Nat
  f : Nat
  g : Nat
  h : Nat

def upOf (k w : Nat) (s : S8) : Nat := (s.h + tri 6 11 25 s.e + ch s.e s.f s.g + k + w) % 4294967296
def downOf (s : S8) : Nat := (tri 2 13 22 s.a + maj s.a s.b s.c) % 4294967296
/-- One round. -/
def step (k w : Nat) (s : S8) : S8 := ⟨(upOf k w s + downOf s) % 4294967296, s.a, s.b, s.c, (s.d + upOf k w s) % 4294967296, s.e, s.f, s.g⟩
/-- n rounds. -/
def rnd (K W : List Nat) (s : S8) : Nat → S8
  | 0 => s
  | n + 1 => step (K.getD n 0) (W.getD n 0) (rnd K W s n)
def ok (s : S8) : Prop := s.a < 4294967296 ∧ s.b < 4294967296 ∧ s.c < 4294967296 ∧ s.d < 4294967296 ∧ s.e < 4294967296 ∧ s.f < 4294967296 ∧ s.g < 4294967296 ∧ s.h < 4294967296
theorem ok_step {k w : Nat} {s : S8} (h : ok s) : ok (step k w s) := by
  obtain ⟨h1, h2, h3, h4, h5, h6, h7, h8⟩ := h
  exact ⟨Nat.mod_lt _ (by decide), h1, h2, h3, Nat.mod_lt _ (by decide), h5, h6, h7⟩
theorem ok_rnd {K W : List Nat} {s : S8} (h : ok s) : ∀ n, ok (rnd K W s n)
  | 0 => h
  | n + 1 => ok_step (ok_rnd h n)

def add (s t : S8) : S8 := ⟨(s.a + t.a) % 4294967296, (s.b + t.b) % 4294967296, (s.c + t.c) % 4294967296, (s.d + t.d) % 4294967296, (s.e + t.e) % 4294967296, (s.f + t.f) % 4294967296, (s.g + t.g) % 4294967296, (s.h + t.h) % 4294967296⟩
theorem ok_add (s t : S8) : ok (add s t) := by
  refine ⟨?_, ?_, ?_, ?_, ?_, ?_, ?_, ?_⟩ <;> exact Nat.mod_lt _ (by decide)

def K : List Nat := [1116352408, 1899447441, 3049323471, 3921009573, 961987163, 1508970993, 2453635748, 2870763221, 3624381080, 310598401, 607225278, 1426881987, 1925078388, 2162078206, 2614888103, 3248222580, 3835390401, 4022224774, 264347078, 604807628, 770255983, 1249150122, 1555081692, 1996064986, 2554220882, 2821834349, 2952996808, 3210313671, 3336571891, 3584528711, 113926993, 338241895, 666307205, 773529912, 1294757372, 1396182291, 1695183700, 1986661051, 2177026350, 2456956037, 2730485921, 2820302411, 3259730800, 3345764771, 3516065817, 3600352804, 4094571909, 275423344, 430227734, 506948616, 659060556, 883997877, 958139571, 1322822218, 1537002063, 1747873779, 1955562222, 2024104815, 2227730452, 2361852424, 2428436474, 2756734187, 3204031479, 3329325298]
def init : S8 := ⟨1779033703, 3144134277, 1013904242, 2773480762, 1359893119, 2600822924, 528734635, 1541459225⟩
theorem ok_init : ok init := by unfold ok init; decide
theorem K_lt (i : Nat) : K.getD i 0 < 4294967296 := by
  have h : K.all (· < 4294967296) = true := by decide
  rcases Nat.lt_or_ge i K.length with hi | hi
  · have := List.all_eq_true.1 h K[i] (List.getElem_mem hi)
    simpa [List.getD, List.getElem?_eq_getElem hi] using this
  · simp [List.getD, List.getElem?_eq_none hi]

/-- A block worked in. -/
def comp (s : S8) (xs : List Int) : S8 := add s (rnd K (sched xs) s 64)
def blocks : Nat → S8 → List Int → S8
  | 0, s, _ => s
  | n + 1, s, l => blocks n (comp s (l.take 64)) (l.drop 64)
/-- All whole blocks worked in. -/
def absorb (l : List Int) : S8 := blocks (l.length / 64) init l
theorem ok_blocks : ∀ (n : Nat) (s : S8) (l : List Int), ok s → ok (blocks n s l)
  | 0, _, _, h => h
  | n + 1, _, _, _ => ok_blocks n _ _ (ok_add _ _)
theorem ok_absorb (l : List Int) : ok (absorb l) := ok_blocks _ _ _ ok_init

theorem blocks_snoc : ∀ (n : Nat) (s : S8) (l : List Int), blocks (n + 1) s l = comp (blocks n s l) ((l.drop (64 * n)).take 64)
  | 0, s, l => by simp [blocks]
  | n + 1, s, l => by
    show blocks (n + 1) (comp s (l.take 64)) (l.drop 64) = _
    rw [blocks_snoc n]
    show _ = comp (blocks n (comp s (l.take 64)) (l.drop 64)) _
    rw [List.drop_drop, show 64 + 64 * n = 64 * (n + 1) by omega]
theorem blocks_take : ∀ (n : Nat) (s : S8) (l : List Int) (m : Nat), 64 * n ≤ m → blocks n s (l.take m) = blocks n s l
  | 0, _, _, _, _ => rfl
  | n + 1, s, l, m, h => by
    show blocks n (comp s ((l.take m).take 64)) ((l.take m).drop 64) = blocks n (comp s (l.take 64)) (l.drop 64)
    rw [List.take_take, Nat.min_eq_left (by omega), List.drop_take, blocks_take n _ _ _ (by omega)]
/-- n blocks of a list. -/
def upto (l : List Int) (n : Nat) : S8 := blocks n init l
theorem upto_succ (l : List Int) (n : Nat) : upto l (n + 1) = comp (upto l n) ((l.drop (64 * n)).take 64) := blocks_snoc n init l
theorem absorb_eq (l : List Int) : absorb l = upto l (l.length / 64) := rfl
theorem upto_append (l m : List Int) (n : Nat) (h : 64 * n ≤ l.length) : upto (l ++ m) n = upto l n := by
  unfold upto
  rw [← blocks_take n init (l ++ m) l.length h, List.take_left']
  rfl

/-- Noughts of the padding. -/
def zers (n : Nat) : Nat := (64 - (n % 64 + 9) % 64) % 64
/-- The number of bits, in eight bytes. -/
def count (n : Nat) : List Int := (List.range 8).map fun i => (((n * 8 / 2 ^ (8 * (7 - i))) % 256 : Nat) : Int)
def pad (n : Nat) : List Int := 128 :: (List.replicate (zers n) 0 ++ count n)
def words (s : S8) : List Nat := [s.a, s.b, s.c, s.d, s.e, s.f, s.g, s.h]
def digest (s : S8) : List Int := (List.range 32).map fun i => ((((words s).getD (i / 4) 0) / 2 ^ (24 - 8 * (i % 4)) % 256 : Nat) : Int)
/-- The sum. -/
def sha (l : List Int) : List Int := digest (absorb (l ++ pad l.length))
end Go.Proofs.YtlhmpcmlpfffoaaDoor.Sh.Pl
