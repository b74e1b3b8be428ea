/-
  SHA-256 as a plain function of a list of bytes: words, rounds, blocks, padding, digest.
  What bits.RotateLeft32 by a number below nought, and sha.turned, answer.
  What sha.spread answers: a word for each round.
  A hasher, as the walks read it: eight words, 64 bytes, a number.
  What sha.New, (*sha.Hasher).Fork and Len answer.
  What (*sha.Hasher).work does: the block worked into the state; nothing else that was there is changed.
  What (*sha.Hasher).told answers: the state's words, the highest byte first.
  What sha.padding answers.
  What copy into a hasher's bytes does; a hasher that has been written a list of bytes.
  What (*sha.Hasher).Write does: the bytes behind what was written; nothing else that was there is changed. Condition: the bytes do not lie in the hasher's own cells.
  What (*sha.Hasher).Sum answers: the sum of what was written so far; nothing that was there is changed.
  What sha.Of answers: the sum of the parts, one behind the other; nothing that was there is changed.
  Two sums compared; a variable that holds a sum.
-/
import Derived.Laws.BitsAllLaws
import Derived.Test.YtgnampbbkaolmaaDoorBas
import Derived.Deep.WholeRow
import Derived.Deep.MidRow
import Derived.BigRegion
import Derived.Laws.CopyOwn
import Derived.Deep.QuietTactic
import Derived.BigQuiet
import Derived.Laws.StructEq
namespace Go.Proofs.YtgnampbbkaolmaaDoor.Sh.Pl

/-- A word turned right by k bits. -/
def rotr (k x : Nat) : Nat := (x * 2 ^ (32 - k)) % 4294967296 ||| x / 2 ^ k
def sig0 (x : Nat) : Nat := rotr 7 x ^^^ rotr 18 x ^^^ x / 8
def sig1 (x : Nat) : Nat := rotr 17 x ^^^ rotr 19 x ^^^ x / 1024
def tri (i j k x : Nat) : Nat := rotr i x ^^^ rotr j x ^^^ rotr k x
def no (x : Nat) : Nat := 4294967295 ^^^ x
def ch (e f g : Nat) : Nat := (e &&& f) ^^^ (no e &&& g)
def maj (a b c : Nat) : Nat := (a &&& b) ^^^ (a &&& c) ^^^ (b &&& c)

/-- A word of a block. -/
def word (xs : List Int) (i : Nat) : Nat :=
  (((xs.getD (4 * i) 0).toNat * 16777216 ||| (xs.getD (4 * i + 1) 0).toNat * 65536) ||| (xs.getD (4 * i + 2) 0).toNat * 256) ||| (xs.getD (4 * i + 3) 0).toNat
/-- The next word. -/
def nxt (l : List Nat) (i : Nat) : Nat := (sig1 (l.getD (i - 2) 0) + l.getD (i - 7) 0 + sig0 (l.getD (i - 15) 0) + l.getD (i - 16) 0) % 4294967296
def ext : Nat → List Nat → List Nat
  | 0, l => l
  | n + 1, l => ext n (l ++ [nxt l l.length])
/-- A word for each round. -/
def sched (xs : List Int) : List Nat := ext 48 ((List.range 16).map (word xs))

theorem rotr_lt (k x : Nat) (hx : x < 4294967296) : rotr k x < 4294967296 := by
  unfold rotr
  have h1 : (x * 2 ^ (32 - k)) % 4294967296 < 2 ^ 32 := Nat.mod_lt _ (by decide)
  have h2 : x / 2 ^ k < 2 ^ 32 := Nat.lt_of_le_of_lt (Nat.div_le_self _ _) hx
  exact Nat.or_lt_two_pow h1 h2
theorem xor_lt {a b : Nat} (ha : a < 4294967296) (hb : b < 4294967296) : a ^^^ b < 4294967296 := by
  have : a ^^^ b < 2 ^ 32 := Nat.xor_lt_two_pow (by omega) (by omega)
  omega
theorem and_lt {a b : Nat} (ha : a < 4294967296) : a &&& b < 4294967296 := Nat.lt_of_le_of_lt Nat.and_le_left ha
theorem or_lt {a b : Nat} (ha : a < 4294967296) (hb : b < 4294967296) : a ||| b < 4294967296 := by
  have : a ||| b < 2 ^ 32 := Nat.or_lt_two_pow (by omega) (by omega)
  omega
theorem no_lt {x : Nat} (hx : x < 4294967296) : no x < 4294967296 := xor_lt (by omega) hx
theorem tri_lt (i j k x : Nat) (hx : x < 4294967296) : tri i j k x < 4294967296 :=
  xor_lt (xor_lt (rotr_lt i x hx) (rotr_lt j x hx)) (rotr_lt k x hx)
theorem sig0_lt {x : Nat} (hx : x < 4294967296) : sig0 x < 4294967296 := xor_lt (xor_lt (rotr_lt 7 x hx) (rotr_lt 18 x hx)) (by omega)
theorem sig1_lt {x : Nat} (hx : x < 4294967296) : sig1 x < 4294967296 := xor_lt (xor_lt (rotr_lt 17 x hx) (rotr_lt 19 x hx)) (by omega)
theorem ch_lt {e f g : Nat} (he : e < 4294967296) : ch e f g < 4294967296 := xor_lt (and_lt he) (and_lt (no_lt he))
theorem maj_lt {a b c : Nat} (ha : a < 4294967296) (hb : b < 4294967296) : maj a b c < 4294967296 := xor_lt (xor_lt (and_lt ha) (and_lt ha)) (and_lt hb)

theorem snoc_get (l : List Nat) (x : Nat) : (l ++ [x]).getD l.length 0 = x := by simp [List.getD]
theorem pre_get (l : List Nat) (x i : Nat) (h : i < l.length) : (l ++ [x]).getD i 0 = l.getD i 0 := by simp [List.getD, List.getElem?_append_left h]
theorem map_get (f : Nat → Nat) (n i : Nat) (h : i < n) : ((List.range n).map f).getD i 0 = f i := by simp [List.getD, h]
theorem ext_pre (n : Nat) : ∀ (l : List Nat) (i : Nat), i < l.length → (ext n l).getD i 0 = l.getD i 0 := by
  induction n with
  | zero => intro l i _; rfl
  | succ n ih =>
    intro l i hi
    show (ext n (l ++ [nxt l l.length])).getD i 0 = _
    rw [ih _ i (by simp; omega)]
    exact pre_get l _ i hi
theorem ext_len (n : Nat) : ∀ l : List Nat, (ext n l).length = l.length + n := by
  induction n with
  | zero => intro l; rfl
  | succ n ih => intro l; show (ext n (l ++ [nxt l l.length])).length = _; rw [ih]; simp; omega
theorem ext_nxt (n : Nat) : ∀ (l : List Nat) (i : Nat), 16 ≤ l.length → l.length ≤ i → i < l.length + n → (ext n l).getD i 0 = nxt (ext n l) i := by
  induction n with
  | zero => intro l i _ h1 h2; omega
  | succ n ih =>
    intro l i h0 h1 h2
    have e : ext (n + 1) l = ext n (l ++ [nxt l l.length]) := rfl
    rcases Nat.lt_or_ge l.length i with h | h
    · rw [e]
      exact ih _ i (by simp; omega) (by simp; omega) (by simp; omega)
    · obtain rfl : i = l.length := by omega
      have hp : ∀ j, j < l.length → (ext (n + 1) l).getD j 0 = l.getD j 0 := fun j hj => ext_pre (n + 1) l j hj
      have hr : nxt (ext (n + 1) l) l.length = nxt l l.length := by
        unfold nxt
        rw [hp _ (by omega), hp _ (by omega), hp _ (by omega), hp _ (by omega)]
      rw [hr, e, ext_pre n _ _ (by simp)]
      exact snoc_get l _

theorem sched_len (xs : List Int) : (sched xs).length = 64 := by unfold sched; rw [ext_len]; simp
theorem sched_word (xs : List Int) (i : Nat) (hi : i < 16) : (sched xs).getD i 0 = word xs i := by
  unfold sched; rw [ext_pre _ _ _ (by simpa using hi)]; exact map_get _ 16 i hi
theorem sched_nxt (xs : List Int) (i : Nat) (h0 : 16 ≤ i) (h1 : i < 64) : (sched xs).getD i 0 = nxt (sched xs) i := by
  unfold sched; exact ext_nxt _ _ _ (by simp) (by simpa using h0) (by simpa using h1)

/-- Bytes. -/
def Byt (xs : List Int) : Prop := ∀ i, 0 ≤ xs.getD i 0 ∧ xs.getD i 0 < 256

theorem word_lt {xs : List Int} (h : Byt xs) (i : Nat) : word xs i < 4294967296 := by
  have h0 := h (4 * i); have h1 := h (4 * i + 1); have h2 := h (4 * i + 2); have h3 := h (4 * i + 3)
  exact or_lt (or_lt (or_lt (by omega) (by omega)) (by omega)) (by omega)
theorem sched_lt {xs : List Int} (h : Byt xs) (i : Nat) : (sched xs).getD i 0 < 4294967296 := by
  rcases Nat.lt_or_ge i 16 with h1 | h1
  · rw [sched_word xs i h1]; exact word_lt h i
  · rcases Nat.lt_or_ge i 64 with h2 | h2
    · rw [sched_nxt xs i h1 h2]; exact Nat.mod_lt _ (by decide)
    · rw [List.getD, List.getElem?_eq_none (by rw [sched_len]; exact h2)]; simp

/-- The words up to i, noughts behind them. -/
def part (l : List Nat) (i : Nat) : List Nat := l.take i ++ List.replicate (l.length - i) 0
theorem part_len (l : List Nat) (i : Nat) : (part l i).length = l.length := by unfold part; simp; omega
theorem part_get (l : List Nat) (i j : Nat) (h : j < i) (hi : i ≤ l.length) : (part l i).getD j 0 = l.getD j 0 := by
  unfold part
  have h1 : j < (l.take i).length := by simp; omega
  simp only [List.getD]
  rw [List.getElem?_append_left h1, List.getElem?_take, if_pos h]
theorem part_zero (l : List Nat) : part l 0 = List.replicate l.length 0 := by simp [part]
theorem part_all (l : List Nat) : part l l.length = l := by simp [part]
theorem part_set (l : List Nat) (i : Nat) (h : i < l.length) : (part l i).set i (l.getD i 0) = part l (i + 1) := by
  apply List.ext_getElem?
  intro k
  unfold part
  rw [List.getElem?_set]
  by_cases e : i = k
  · subst e
    have h1 : i < (l.take (i + 1)).length := by simp; omega
    rw [List.getElem?_append_left h1, List.getElem?_take, if_pos rfl, if_pos (by simp; omega), if_pos (show i < i + 1 by omega)]
    simp [List.getD, List.getElem?_eq_getElem h]
  · simp only [e, if_false, List.getElem?_append, List.length_take, List.getElem?_take, List.getElem?_replicate]
    repeat' split
    all_goals first | rfl | omega

/-- A state of eight words. -/
structure S8 where
  a : Nat
  b : Nat
  c : Nat
  d : Nat
  e : Nat
  f : Nat
  g : Nat
  h : Nat

def upOf (k w : Nat) (s : S8) : Nat := (s.h + tri 6 11 25 s.e + ch s.e s.f s.g + k + w) % 4294967296
def downOf (s : S8) : Nat := (tri 2 13 22 s.a + maj s.a s.b s.c) % 4294967296
/-- One round. -/
def step (k w : Nat) (s : S8) : S8 := ⟨(upOf k w s + downOf s) % 4294967296, s.a, s.b, s.c, (s.d + upOf k w s) % 4294967296, s.e, s.f, s.g⟩
/-- n rounds. -/
def rnd (K W : List Nat) (s : S8) : Nat → S8
  | 0 => s
  | n + 1 => step (K.getD n 0) (W.getD n 0) (rnd K W s n)
def ok (s : S8) : Prop := s.a < 4294967296 ∧ s.b < 4294967296 ∧ s.c < 4294967296 ∧ s.d < 4294967296 ∧ s.e < 4294967296 ∧ s.f < 4294967296 ∧ s.g < 4294967296 ∧ s.h < 4294967296
theorem ok_step {k w : Nat} {s : S8} (h : ok s) : ok (step k w s) := by
  obtain ⟨h1, h2, h3, h4, h5, h6, h7, h8⟩ := h
  exact ⟨Nat.mod_lt _ (by decide), h1, h2, h3, Nat.mod_lt _ (by decide), h5, h6, h7⟩
theorem ok_rnd {K W : List Nat} {s : S8} (h : ok s) : ∀ n, ok (rnd K W s n)
  | 0 => h
  | n + 1 => ok_step (ok_rnd h n)

def add (s t : S8) : S8 := ⟨(s.a + t.a) % 4294967296, (s.b + t.b) % 4294967296, (s.c + t.c) % 4294967296, (s.d + t.d) % 4294967296, (s.e + t.e) % 4294967296, (s.f + t.f) % 4294967296, (s.g + t.g) % 4294967296, (s.h + t.h) % 4294967296⟩
theorem ok_add (s t : S8) : ok (add s t) := by
  refine ⟨?_, ?_, ?_, ?_, ?_, ?_, ?_, ?_⟩ <;> exact Nat.mod_lt _ (by decide)

def K : List Nat := [1116352408, 1899447441, 3049323471, 3921009573, 961987163, 1508970993, 2453635748, 2870763221, 3624381080, 310598401, 607225278, 1426881987, 1925078388, 2162078206, 2614888103, 3248222580, 3835390401, 4022224774, 264347078, 604807628, 770255983, 1249150122, 1555081692, 1996064986, 2554220882, 2821834349, 2952996808, 3210313671, 3336571891, 3584528711, 113926993, 338241895, 666307205, 773529912, 1294757372, 1396182291, 1695183700, 1986661051, 2177026350, 2456956037, 2730485921, 2820302411, 3259730800, 3345764771, 3516065817, 3600352804, 4094571909, 275423344, 430227734, 506948616, 659060556, 883997877, 958139571, 1322822218, 1537002063, 1747873779, 1955562222, 2024104815, 2227730452, 2361852424, 2428436474, 2756734187, 3204031479, 3329325298]
def init : S8 := ⟨1779033703, 3144134277, 1013904242, 2773480762, 1359893119, 2600822924, 528734635, 1541459225⟩
theorem ok_init : ok init := by unfold ok init; decide
theorem K_lt (i : Nat) : K.getD i 0 < 4294967296 := by
  have h : K.all (· < 4294967296) = true := by decide
  rcases Nat.lt_or_ge i K.length with hi | hi
  · have := List.all_eq_true.1 h K[i] (List.getElem_mem hi)
    simpa [List.getD, List.getElem?_eq_getElem hi] using this
  · simp [List.getD, List.getElem?_eq_none hi]

/-- A block worked in. -/
def comp (s : S8) (xs : List Int) : S8 := add s (rnd K (sched xs) s 64)
def blocks : Nat → S8 → List Int → S8
  | 0, s, _ => s
  | n + 1, s, l => blocks n (comp s (l.take 64)) (l.drop 64)
/-- All whole blocks worked in. -/
def absorb (l : List Int) : S8 := blocks (l.length / 64) init l
theorem ok_blocks : ∀ (n : Nat) (s : S8) (l : List Int), ok s → ok (blocks n s l)
  | 0, _, _, h => h
  | n + 1, _, _, _ => ok_blocks n _ _ (ok_add _ _)
theorem ok_absorb (l : List Int) : ok (absorb l) := ok_blocks _ _ _ ok_init

theorem blocks_snoc : ∀ (n : Nat) (s : S8) (l : List Int), blocks (n + 1) s l = comp (blocks n s l) ((l.drop (64 * n)).take 64)
  | 0, s, l => by simp [blocks]
  | n + 1, s, l => by
    show blocks (n + 1) (comp s (l.take 64)) (l.drop 64) = _
    rw [blocks_snoc n]
    show _ = comp (blocks n (comp s (l.take 64)) (l.drop 64)) _
    rw [List.drop_drop, show 64 + 64 * n = 64 * (n + 1) by omega]
theorem blocks_take : ∀ (n : Nat) (s : S8) (l : List Int) (m : Nat), 64 * n ≤ m → blocks n s (l.take m) = blocks n s l
  | 0, _, _, _, _ => rfl
  | n + 1, s, l, m, h => by
    show blocks n (comp s ((l.take m).take 64)) ((l.take m).drop 64) = blocks n (comp s (l.take 64)) (l.drop 64)
    rw [List.take_take, Nat.min_eq_left (by omega), List.drop_take, blocks_take n _ _ _ (by omega)]
/-- n blocks of a list. -/
def upto (l : List Int) (n : Nat) : S8 := blocks n init l
theorem upto_succ (l : List Int) (n : Nat) : upto l (n + 1) = comp (upto l n) ((l.drop (64 * n)).take 64) := blocks_snoc n init l
theorem absorb_eq (l : List Int) : absorb l = upto l (l.length / 64) := rfl
theorem upto_append (l m : List Int) (n : Nat) (h : 64 * n ≤ l.length) : upto (l ++ m) n = upto l n := by
  unfold upto
  rw [← blocks_take n init (l ++ m) l.length h, List.take_left']
  rfl

/-- Noughts of the padding. -/
def zers (n : Nat) : Nat := (64 - (n % 64 + 9) % 64) % 64
/-- The number of bits, in eight bytes. -/
def count (n : Nat) : List Int := (List.range 8).map fun i => (((n * 8 / 2 ^ (8 * (7 - i))) % 256 : Nat) : Int)
def pad (n : Nat) : List Int := 128 :: (List.replicate (zers n) 0 ++ count n)
def words (s : S8) : List Nat := [s.a, s.b, s.c, s.d, s.e, s.f, s.g, s.h]
def digest (s : S8) : List Int := (List.range 32).map fun i => ((((words s).getD (i / 4) 0) / 2 ^ (24 - 8 * (i % 4)) % 256 : Nat) : Int)
/-- The sum. -/
def sha (l : List Int) : List Int := digest (absorb (l ++ pad l.length))
end Go.Proofs.YtgnampbbkaolmaaDoor.Sh.Pl
namespace Go.Proofs.YtgnampbbkaolmaaDoor.Sh
open Go.RowKit
set_option maxRecDepth 100000

theorem wrap32 (z : Int) : IntKind.u32.wrap z = z % 4294967296 := by simp [IntKind.wrap, IntKind.bits, IntKind.signed]
theorem wrap64 (z : Int) : IntKind.u64.wrap z = z % 18446744073709551616 := by simp [IntKind.wrap, IntKind.bits, IntKind.signed]

/-- Shifts, as the walk spells them. -/
theorem shl32 (x s : Nat) (hs : s < 32) : (x : Int) * 2 ^ min s 32 % 4294967296 = ((x * 2 ^ s % 4294967296 : Nat) : Int) := by
  rw [Nat.min_eq_left (by omega)]; simp
theorem shr32 (x s : Nat) (hs : s < 32) : (x : Int) / 2 ^ min s 32 = ((x / 2 ^ s : Nat) : Int) := by
  rw [Nat.min_eq_left (by omega)]; simp
theorem and31 (k : Nat) (h0 : 0 < k) (h1 : k < 32) : bits BinOp.and IntKind.u64 ((18446744073709551616 - k : Nat) : Int) 31 = ((32 - k : Nat) : Int) := by
  have := u64_and_nat (18446744073709551616 - k) 31 (by omega) (by omega)
  rw [show ((31 : Nat) : Int) = 31 from rfl] at this
  rw [this]
  have e : (18446744073709551616 - k) &&& 31 = (18446744073709551616 - k) % 32 := Nat.and_two_pow_sub_one_eq_mod _ 5
  rw [e]
  congr 1
  omega

set_option maxHeartbeats 1000000 in
theorem rot_any (k x : Nat) (w : World) (h0 : 0 < k) (h1 : k < 32) (hx : x < 4294967296) :
    Calls Tryd.prog 97 #[.int .u32 x, .int .i64 (-(k : Int))] w fun e w' => e = .returned (.int .u32 (Pl.rotr k x : Nat)) ∧ w' = w := by
  have hw : IntKind.u64.wrap (-(k : Int)) = ((18446744073709551616 - k : Nat) : Int) := by rw [wrap64]; omega
  have ha := and31 k h0 h1
  have hw2 : IntKind.u64.wrap (32 - ((32 - k : Nat) : Int)) = (k : Int) := by rw [wrap64]; omega
  have hl := shl32 x (32 - k) (by omega)
  have hr := shr32 x k h1
  have ho := u32_or_nat (x * 2 ^ (32 - k) % 4294967296) (x / 2 ^ k) (Nat.mod_lt _ (by decide)) (Nat.lt_of_le_of_lt (Nat.div_le_self _ _) hx)
  have hf : Pl.rotr k x = x * 2 ^ (32 - k) % 4294967296 ||| x / 2 ^ k := rfl
  rw [hf]
  clear hf
  generalize x * 2 ^ (32 - k) % 4294967296 ||| x / 2 ^ k = r at *
  generalize x * 2 ^ (32 - k) % 4294967296 = p at *
  generalize x / 2 ^ k = q at *
  generalize 18446744073709551616 - k = m at *
  generalize 32 - k = s at *
  clear h0 h1 hx
  go_enter Tryd.func97, Tryd.ntmps97
  go_wp2
  go_ret
  exact ⟨rfl, rfl⟩

theorem neg_lit (k : Nat) : IntKind.i64.wrap (-(k : Int)) = if k ≤ 9223372036854775808 then -(k : Int) else IntKind.i64.wrap (-(k : Int)) := by
  split
  · simp [IntKind.wrap, IntKind.bits, IntKind.signed]; omega
  · rfl

set_option maxHeartbeats 1000000 in
theorem turned_any (x i j k : Nat) (w : World) (hi : 0 < i ∧ i < 32) (hj : 0 < j ∧ j < 32) (hk : 0 < k ∧ k < 32) (hx : x < 4294967296) :
    Calls Tryd.prog 86 #[.int .u32 x, .int .i64 i, .int .i64 j, .int .i64 k] w fun e w' => e = .returned (.int .u32 (Pl.tri i j k x : Nat)) ∧ w' = w := by
  have c1 := rot_any i x w hi.1 hi.2 hx
  have c2 := rot_any j x w hj.1 hj.2 hx
  have c3 := rot_any k x w hk.1 hk.2 hx
  have n1 : IntKind.i64.wrap (-(i : Int)) = -(i : Int) := by rw [neg_lit, if_pos (by omega)]
  have n2 : IntKind.i64.wrap (-(j : Int)) = -(j : Int) := by rw [neg_lit, if_pos (by omega)]
  have n3 : IntKind.i64.wrap (-(k : Int)) = -(k : Int) := by rw [neg_lit, if_pos (by omega)]
  have x1 := u32_xor_nat (Pl.rotr i x) (Pl.rotr j x) (Pl.rotr_lt _ _ hx) (Pl.rotr_lt _ _ hx)
  have x2 := u32_xor_nat (Pl.rotr i x ^^^ Pl.rotr j x) (Pl.rotr k x) (Pl.xor_lt (Pl.rotr_lt _ _ hx) (Pl.rotr_lt _ _ hx)) (Pl.rotr_lt _ _ hx)
  have hf : Pl.tri i j k x = Pl.rotr i x ^^^ Pl.rotr j x ^^^ Pl.rotr k x := rfl
  rw [hf]
  clear hf hi hj hk hx
  generalize Pl.rotr i x ^^^ Pl.rotr j x ^^^ Pl.rotr k x = r at *
  generalize Pl.rotr i x ^^^ Pl.rotr j x = r12 at *
  generalize Pl.rotr i x = r1 at *
  generalize Pl.rotr j x = r2 at *
  generalize Pl.rotr k x = r3 at *
  go_enter Tryd.func86, Tryd.ntmps86
  go_wp2_with fail
  refine c1.mono ?_
  rintro e w1 ⟨rfl, e1⟩
  subst e1
  clear c1
  go_wp2_with fail
  refine c2.mono ?_
  rintro e w1 ⟨rfl, e1⟩
  subst e1
  clear c2
  go_wp2_with fail
  refine c3.mono ?_
  rintro e w1 ⟨rfl, e1⟩
  subst e1
  clear c3
  go_wp2
  go_ret
  exact ⟨rfl, rfl⟩
end Go.Proofs.YtgnampbbkaolmaaDoor.Sh
namespace Go.Proofs.YtgnampbbkaolmaaDoor.Sh
open Go.RowKit
set_option maxRecDepth 100000

def u32s (l : List Nat) : Array Value := (l.map fun (n : Nat) => Value.int .u32 (n : Int)).toArray

theorem u32s_get (l : List Nat) (i : Nat) (h : i < l.length) : (u32s l)[i]? = some (.int .u32 (l.getD i 0 : Nat)) := by
  simp [u32s, List.getElem?_eq_getElem h, List.getD]
theorem u32s_size (l : List Nat) : (u32s l).size = l.length := by simp [u32s]
theorem u32s_set (l : List Nat) (i n : Nat) : (u32s l).setIfInBounds i (.int .u32 (n : Int)) = u32s (l.set i n) := by
  apply Array.ext'
  simp [u32s, List.map_set]
theorem u32s_one (l : List Nat) : (u32s l).all (·.oneCell') = true := by
  simp [u32s]
  intro x _
  rfl

theorem or4 (y0 y1 y2 y3 : Nat) (b0 : y0 < 4294967296) (b1 : y1 < 4294967296) (b2 : y2 < 4294967296) (b3 : y3 < 4294967296) :
    bits .or .u32 (bits .or .u32 (bits .or .u32 (y0 : Int) (y1 : Int)) (y2 : Int)) (y3 : Int) = ((y0 ||| y1 ||| y2 ||| y3 : Nat) : Int) := by
  rw [u32_or_nat y0 y1 b0 b1, u32_or_nat _ y2 (Pl.or_lt b0 b1) b2, u32_or_nat _ y3 (Pl.or_lt (Pl.or_lt b0 b1) b2) b3]

theorem word4 (z0 z1 z2 z3 : Nat) (h0 : z0 < 256) (h1 : z1 < 256) (h2 : z2 < 256) (h3 : z3 < 256) :
    bits .or .u32 (bits .or .u32 (bits .or .u32 ((z0 : Int) * 16777216) ((z1 : Int) * 65536)) ((z2 : Int) * 256)) (z3 : Int) = ((z0 * 16777216 ||| z1 * 65536 ||| z2 * 256 ||| z3 : Nat) : Int) := by
  have := or4 (z0 * 16777216) (z1 * 65536) (z2 * 256) z3 (by omega) (by omega) (by omega) (by omega)
  rw [Int.natCast_mul, Int.natCast_mul, Int.natCast_mul] at this
  exact this

theorem info50 : (Tryd.prog.info? 133).map (fun i => (i.zero, i.size)) = some (some (.agg (u32s (List.replicate 64 0))), 64) := by kernel_rfl
theorem size50 : (Tryd.prog.info? 133).map (fun i => i.size) = some 64 := by kernel_rfl

/-- Two rows that a call has laid: the second one is written. -/
def Rows2 (B : Nat) (t : TypeId) (z c : Array Value) (w wr : World) : Prop :=
  wr.heap[B]? = some (.cells z t (0, 0)) ∧ wr.heap[B + 1]? = some (.cells c t (0, 0)) ∧ Below B w wr
theorem Rows2.set {B : Nat} {t : TypeId} {z c : Array Value} {w wr : World} (h : Rows2 B t z c w wr) (j : Nat) (v : Value) : Rows2 B t z (c.setIfInBounds j v) w (wr.setCell ⟨B + 1, j, none⟩ v) :=
  ⟨(heap_setCell_other _ _ _ _ (by simp)).trans h.1, heap_setCell_same _ _ _ _ _ _ h.2.1, h.2.2.setCell (by simp) _⟩
theorem Rows2.drew {B : Nat} {t : TypeId} {z c : Array Value} {w wr : World} (h : Rows2 B t z c w wr) : Rows2 B t z c w wr.drew := ⟨h.1, h.2.1, h.2.2.drew⟩
theorem Rows2.cell {B : Nat} {t : TypeId} {z c : Array Value} {w wr : World} (h : Rows2 B t z c w wr) (j : Nat) : wr.cell? ⟨B + 1, j, none⟩ = c[j]? := cell_of_row _ _ _ _ _ _ h.2.1
theorem Rows2.frozen {B : Nat} {t : TypeId} {z c : Array Value} {w wr : World} (h : Rows2 B t z c w wr) (j : Nat) : wr.frozen? ⟨B + 1, j, none⟩ = false := frozen_of_row _ _ _ _ _ h.2.1
theorem Rows2.two (w : World) (t : TypeId) (z c : Array Value) : Rows2 w.heap.size t z c w ((w.alloc (.cells z t)).alloc (.cells c t)) := by
  refine ⟨heap_alloc2_old _ _ _, heap_alloc2_new _ _ _, ((Below.refl _ _).alloc (Nat.le_refl _) _).alloc (by show w.heap.size ≤ (w.heap.push _).size; simp) _⟩

set_option maxHeartbeats 4000000 in
set_option maxRecDepth 100000 in
theorem spread_any (v : Value) (xs : List Int) (w : World) (sl : Sl w v xs) (hl : xs.length = 64) :
    Calls Tryd.prog 85 #[v] w fun e w' => e = .returned (.agg (u32s (Pl.sched xs))) ∧ Below w.heap.size w w' := by
  have hby : Pl.Byt xs := sl.bytes
  obtain ⟨a, cap, rfl, h1, h2, h3, h4⟩ := sl
  rw [hl] at h1 h4 ⊢
  rcases h4 with h4 | ⟨-, b, off, rfl, -, -, hcell, -⟩
  · omega
  have hlt : b < w.heap.size := World.block_lt_of_cell? _ _ (hcell 0 (by omega))
  have HC : Hid (∀ i, i < 64 → w.cell? ⟨b, off + i, none⟩ = some (.int .u8 ((xs.getD i 0).toNat : Int))) := fun i hi => by
    rw [hcell i hi, Int.toNat_of_nonneg (hby i).1]
  have HB : Hid (∀ i, (xs.getD i 0).toNat < 256) := fun i => by have := hby i; omega
  obtain ⟨W, hW⟩ : ∃ W, W = Pl.sched xs := ⟨_, rfl⟩
  have HLW : Hid (W.length = 64) := by unfold Hid; rw [hW, Pl.sched_len]
  have HW1 : Hid (∀ i, i < 16 → W.getD i 0 = Pl.word xs i) := fun i hi => by rw [hW, Pl.sched_word _ _ hi]
  have HW2 : Hid (∀ i, 16 ≤ i → i < 64 → W.getD i 0 = Pl.nxt W i) := fun i h0 h1 => by rw [hW, Pl.sched_nxt _ _ h0 h1]
  have HWL : Hid (∀ i, W.getD i 0 < 4294967296) := fun i => by rw [hW]; exact Pl.sched_lt hby i
  have HR : Hid (Pl.sched xs = W) := hW.symm
  rw [HR.out]
  have hcm : cap ≤ 9223372036854775807 := by unfold maxLen at h2; omega
  obtain ⟨B, hB⟩ : ∃ B, B = w.heap.size := ⟨_, rfl⟩
  have HBB : Hid (B = w.heap.size) := hB
  clear hW hcell hby h2 h3 hB
  go_enter Tryd.func85, Tryd.ntmps85
  go_wp2
  go_loopw [9] (fun i wr => ∃ j : Nat, j ≤ 16 ∧ i = .int .i64 j ∧ Rows2 w.heap.size 133 (u32s (List.replicate 64 0)) (u32s (Pl.part W j)) w wr) (fun i _ => 16 - (intOf i).toNat)
  case atStart =>
    refine ⟨0, by omega, rfl, ?_⟩
    rw [Pl.part_zero, HLW.out]
    exact Rows2.two w 133 _ _
  case round =>
    obtain ⟨j, hj, rfl, g⟩ := hrel
    have G : Hid (Rows2 w.heap.size 133 (u32s (List.replicate 64 0)) (u32s (Pl.part W j)) w wr) := g
    clear g
    by_cases hlt : j < 16
    · have k0 := (G.out.2.2.cell (p := ⟨b, off + 4 * j, none⟩) (by assumption)).trans (HC.out (4 * j) (by omega))
      have k1 := (G.out.2.2.cell (p := ⟨b, off + (4 * j + 1), none⟩) (by assumption)).trans (HC.out (4 * j + 1) (by omega))
      have k2 := (G.out.2.2.cell (p := ⟨b, off + (4 * j + 2), none⟩) (by assumption)).trans (HC.out (4 * j + 2) (by omega))
      have k3 := (G.out.2.2.cell (p := ⟨b, off + (4 * j + 3), none⟩) (by assumption)).trans (HC.out (4 * j + 3) (by omega))
      have kf := G.out.frozen j
      have kc := (G.out.cell j).trans (u32s_get _ j (by rw [Pl.part_len, HLW.out]; omega))
      have hwd := word4 _ _ _ _ (HB.out (4 * j)) (HB.out (4 * j + 1)) (HB.out (4 * j + 2)) (HB.out (4 * j + 3))
      have hws : W.getD j 0 = (xs.getD (4 * j) 0).toNat * 16777216 ||| (xs.getD (4 * j + 1) 0).toNat * 65536 ||| (xs.getD (4 * j + 2) 0).toNat * 256 ||| (xs.getD (4 * j + 3) 0).toNat := HW1.out j hlt
      rw [← hws] at hwd
      clear hws
      have NS : Hid (Rows2 w.heap.size 133 (u32s (List.replicate 64 0)) (u32s (Pl.part W (j + 1))) w (wr.setCell ⟨w.heap.size + 1, j, none⟩ (.int .u32 (W.getD j 0 : Nat))).drew) := by
        have := (G.out.set j (.int .u32 (W.getD j 0 : Nat))).drew
        rwa [u32s_set, Pl.part_set _ _ (by rw [HLW.out]; omega)] at this
      rw [show off + (4 * j + 1) = off + 4 * j + 1 by omega] at k1
      rw [show off + (4 * j + 2) = off + 4 * j + 2 by omega] at k2
      rw [show off + (4 * j + 3) = off + 4 * j + 3 by omega] at k3
      have b0 := HB.out (4 * j)
      have b1 := HB.out (4 * j + 1)
      have b2 := HB.out (4 * j + 2)
      have b3 := HB.out (4 * j + 3)
      generalize (xs.getD (4 * j) 0).toNat = z0 at *
      generalize (xs.getD (4 * j + 1) 0).toNat = z1 at *
      generalize (xs.getD (4 * j + 2) 0).toNat = z2 at *
      generalize (xs.getD (4 * j + 3) 0).toNat = z3 at *
      generalize (Pl.part W j).getD j 0 = old at *
      generalize W.getD j 0 = q at *
      obtain ⟨m, hm⟩ : ∃ m, m = 4 * j := ⟨_, rfl⟩
      have hq : IntKind.i64.wrap (4 * (j : Int)) = (m : Int) := by simp [IntKind.wrap, IntKind.bits, IntKind.signed]; omega
      have hq1 : IntKind.i64.wrap ((m : Int) + 4) = ((m + 4 : Nat) : Int) := by simp [IntKind.wrap, IntKind.bits, IntKind.signed]; omega
      have hne : ¬ cap = m := by omega
      have hne2 : ¬ m = cap := by omega
      have le1 : ((m + 4 : Nat) : Int) ≤ (cap : Int) := by omega
      have le2 : m + 4 ≤ cap := by omega
      have le3 : m ≤ m + 4 := by omega
      have le4 : (m : Int) ≤ ((m + 4 : Nat) : Int) := by omega
      have le5 : m + 4 - m = 4 := by omega
      have lt2 : (j : Int) < 16 := by omega
      rw [← hm] at k0 k1 k2 k3
      have HM : Hid (m = 4 * j) := hm
      clear hm
      clear h1
      go_wp2_with fail
      go_region
      go_wp2
      go_roundw
      case rel => exact ⟨j + 1, by omega, by go_num, NS.out⟩
      case measure => simp [intOf]; omega
    · obtain rfl : j = 16 := by omega
      go_wp2
      go_loopw [6] (fun i wr => ∃ j : Nat, 16 ≤ j ∧ j ≤ 64 ∧ i = .int .i64 j ∧ Rows2 w.heap.size 133 (u32s (List.replicate 64 0)) (u32s (Pl.part W j)) w wr) (fun i _ => 64 - (intOf i).toNat)
      case atStart => exact ⟨16, by omega, by omega, rfl, G.out⟩
      case round =>
        clear G
        obtain ⟨j, hj0, hj, rfl, g⟩ := hrel
        have G : Hid (Rows2 w.heap.size 133 (u32s (List.replicate 64 0)) (u32s (Pl.part W j)) w wr) := g
        clear g
        by_cases hlt : j < 64
        · have get : ∀ i, i < j → wr.cell? ⟨w.heap.size + 1, i, none⟩ = some (.int .u32 (W.getD i 0 : Nat)) := fun i hi => by
            rw [G.out.cell i, u32s_get _ i (by rw [Pl.part_len, HLW.out]; omega), Pl.part_get _ _ _ hi (by rw [HLW.out]; omega)]
          have k2 := get (j - 2) (by omega)
          have k15 := get (j - 15) (by omega)
          have k7 := get (j - 7) (by omega)
          have k16 := get (j - 16) (by omega)
          have kf := G.out.frozen j
          have kc := (G.out.cell j).trans (u32s_get _ j (by rw [Pl.part_len, HLW.out]; omega))
          have hn : W.getD j 0 = (Pl.sig1 (W.getD (j - 2) 0) + W.getD (j - 7) 0 + Pl.sig0 (W.getD (j - 15) 0) + W.getD (j - 16) 0) % 4294967296 := HW2.out j hj0 hlt
          have NS : Hid (∀ z : Int, z = ((W.getD j 0 : Nat) : Int) → Rows2 w.heap.size 133 (u32s (List.replicate 64 0)) (u32s (Pl.part W (j + 1))) w (wr.setCell ⟨w.heap.size + 1, j, none⟩ (.int .u32 z)).drew.drew) := by
            rintro z rfl
            have := (G.out.set j (.int .u32 (W.getD j 0 : Nat))).drew.drew
            rwa [u32s_set, Pl.part_set _ _ (by rw [HLW.out]; omega)] at this
          have b2 := HWL.out (j - 2)
          have b15 := HWL.out (j - 15)
          have b7 := HWL.out (j - 7)
          have b16 := HWL.out (j - 16)
          clear get
          generalize (Pl.part W j).getD j 0 = old at *
          generalize W.getD (j - 2) 0 = x2 at *
          generalize W.getD (j - 15) 0 = x15 at *
          generalize W.getD (j - 7) 0 = x7 at *
          generalize W.getD (j - 16) 0 = x16 at *
          have s1 := Pl.sig1_lt b2
          have s0 := Pl.sig0_lt b15
          have n1 := u32_xor_nat (Pl.rotr 17 x2) (Pl.rotr 19 x2) (Pl.rotr_lt _ _ b2) (Pl.rotr_lt _ _ b2)
          have n2 := u32_xor_nat (Pl.rotr 17 x2 ^^^ Pl.rotr 19 x2) (x2 / 1024) (Pl.xor_lt (Pl.rotr_lt _ _ b2) (Pl.rotr_lt _ _ b2)) (by omega)
          rw [show Pl.rotr 17 x2 ^^^ Pl.rotr 19 x2 ^^^ x2 / 1024 = Pl.sig1 x2 from rfl, Int.natCast_ediv, show ((1024 : Nat) : Int) = 1024 from rfl] at n2
          have f1 := u32_xor_nat (Pl.rotr 7 x15) (Pl.rotr 18 x15) (Pl.rotr_lt _ _ b15) (Pl.rotr_lt _ _ b15)
          have f2 := u32_xor_nat (Pl.rotr 7 x15 ^^^ Pl.rotr 18 x15) (x15 / 8) (Pl.xor_lt (Pl.rotr_lt _ _ b15) (Pl.rotr_lt _ _ b15)) (by omega)
          rw [show Pl.rotr 7 x15 ^^^ Pl.rotr 18 x15 ^^^ x15 / 8 = Pl.sig0 x15 from rfl, Int.natCast_ediv, show ((8 : Nat) : Int) = 8 from rfl] at f2
          have c1 : ∀ w', Calls Tryd.prog 97 #[.int .u32 x2, .int .i64 (-17)] w' _ := fun w' => rot_any 17 x2 w' (by omega) (by omega) b2
          have c2 : ∀ w', Calls Tryd.prog 97 #[.int .u32 x2, .int .i64 (-19)] w' _ := fun w' => rot_any 19 x2 w' (by omega) (by omega) b2
          have c3 : ∀ w', Calls Tryd.prog 97 #[.int .u32 x15, .int .i64 (-7)] w' _ := fun w' => rot_any 7 x15 w' (by omega) (by omega) b15
          have c4 : ∀ w', Calls Tryd.prog 97 #[.int .u32 x15, .int .i64 (-18)] w' _ := fun w' => rot_any 18 x15 w' (by omega) (by omega) b15
          generalize Pl.rotr 17 x2 ^^^ Pl.rotr 19 x2 = y1 at *
          generalize Pl.rotr 7 x15 ^^^ Pl.rotr 18 x15 = y2 at *
          generalize Pl.rotr 17 x2 = r17 at *
          generalize Pl.rotr 19 x2 = r19 at *
          generalize Pl.rotr 7 x15 = r7 at *
          generalize Pl.rotr 18 x15 = r18 at *
          generalize Pl.sig1 x2 = g1 at *
          generalize Pl.sig0 x15 = g0 at *
          have HN : Hid (W.getD j 0 = (g1 + x7 + g0 + x16) % 4294967296) := hn
          clear hn
          generalize W.getD j 0 = q at *
          have C1 : Hid (∀ w', Calls Tryd.prog 97 #[.int .u32 x2, .int .i64 (-17)] w' fun e w1 => e = .returned (.int .u32 (r17 : Nat)) ∧ w1 = w') := c1
          have C2 : Hid (∀ w', Calls Tryd.prog 97 #[.int .u32 x2, .int .i64 (-19)] w' fun e w1 => e = .returned (.int .u32 (r19 : Nat)) ∧ w1 = w') := c2
          have C3 : Hid (∀ w', Calls Tryd.prog 97 #[.int .u32 x15, .int .i64 (-7)] w' fun e w1 => e = .returned (.int .u32 (r7 : Nat)) ∧ w1 = w') := c3
          have C4 : Hid (∀ w', Calls Tryd.prog 97 #[.int .u32 x15, .int .i64 (-18)] w' fun e w1 => e = .returned (.int .u32 (r18 : Nat)) ∧ w1 = w') := c4
          clear c1 c2 c3 c4
          have q2 : IntKind.i64.wrap ((j : Int) - 2) = ((j - 2 : Nat) : Int) := by simp [IntKind.wrap, IntKind.bits, IntKind.signed]; omega
          have t2 : ((j - 2 : Nat) : Int) < 64 := by omega
          have t2' : j - 2 < 64 := by omega
          generalize j - 2 = a2 at *
          have q15 : IntKind.i64.wrap ((j : Int) - 15) = ((j - 15 : Nat) : Int) := by simp [IntKind.wrap, IntKind.bits, IntKind.signed]; omega
          have t15 : ((j - 15 : Nat) : Int) < 64 := by omega
          have t15' : j - 15 < 64 := by omega
          generalize j - 15 = a15 at *
          have q7 : IntKind.i64.wrap ((j : Int) - 7) = ((j - 7 : Nat) : Int) := by simp [IntKind.wrap, IntKind.bits, IntKind.signed]; omega
          have t7 : ((j - 7 : Nat) : Int) < 64 := by omega
          have t7' : j - 7 < 64 := by omega
          generalize j - 7 = a7 at *
          have q16 : IntKind.i64.wrap ((j : Int) - 16) = ((j - 16 : Nat) : Int) := by simp [IntKind.wrap, IntKind.bits, IntKind.signed]; omega
          have t16 : ((j - 16 : Nat) : Int) < 64 := by omega
          have t16' : j - 16 < 64 := by omega
          generalize j - 16 = a16 at *
          have lt2 : (j : Int) < 64 := by omega
          go_wp2_with fail
          go_region
          go_wp2_with fail
          refine (C1.out _).mono ?_
          rintro e w1 ⟨rfl, rfl⟩
          go_wp2_with fail
          refine (C2.out _).mono ?_
          rintro e w1 ⟨rfl, rfl⟩
          go_wp2_with fail
          refine (C3.out _).mono ?_
          rintro e w1 ⟨rfl, rfl⟩
          go_wp2_with fail
          refine (C4.out _).mono ?_
          rintro e w1 ⟨rfl, rfl⟩
          go_wp2_with fail
          go_region
          go_wp2
          refine ⟨?_, ?measure⟩
          · refine ⟨_, _, _, _, _, _, _, _, _, _, _, _, _, _, _, _, _, _, _, _, _, _, _, _, _, _, _, _, _, _, _, _, _, _, _, _, _, _, _, _, _, _, _, _, _, _, ?rel, rfl⟩
            exact ⟨j + 1, by omega, by omega, by go_num, NS.out _ (by rw [HN.out]; simp)⟩
          case measure => simp [intOf]; omega
        · obtain rfl : j = 64 := by omega
          obtain ⟨g0, g1, gb⟩ := G.out
          rw [show Pl.part W 64 = W by rw [← HLW.out]; exact Pl.part_all W] at g1
          have GB : Hid (Below w.heap.size w wr) := gb
          have G0 : Hid (wr.heap[w.heap.size]? = some (.cells (u32s (List.replicate 64 0)) 133 (0, 0))) := g0
          have G1 : Hid (wr.heap[w.heap.size + 1]? = some (.cells (u32s W) 133 (0, 0))) := g1
          have HI : Hid ((Tryd.prog.info? 133).map (·.size) = some (u32s W).size) := by unfold Hid; rw [u32s_size, HLW.out]; exact size50
          have HO : Hid ((u32s (List.replicate 64 0)).size = (u32s W).size) := by unfold Hid; rw [u32s_size, u32s_size, HLW.out]; simp
          clear g0 g1 gb G
          go_wp2_with (first
            | refine wpList_load_row rfl 133 _ rfl (w.heap.size + 1) rfl 133 (u32s W) (0, 0) _ G1.out Tryd.underlying133 rfl HI.out ?_
            | refine wpList_store_row rfl 133 _ _ rfl w.heap.size (u32s W) rfl rfl 133 _ G0.out HI.out HO.out (u32s_one W) ?_)
          refine bodyPost_ret (v := .agg (u32s W)) (results_cell_row rfl _ _ w.heap.size 133 (u32s W) (0, 0) _ rfl (setRow_heap _ _ _ _ _ _ G0.out) Tryd.underlying133 rfl HI.out) rfl ⟨rfl, below_setRow GB.out (Nat.le_refl _) _⟩
end Go.Proofs.YtgnampbbkaolmaaDoor.Sh
namespace Go.Proofs.YtgnampbbkaolmaaDoor.Sh
open Go.RowKit
set_option maxRecDepth 100000

/-- The two tables, as the walks read them. -/
def Tab (w : World) : Prop := (∀ i, i < 8 → w.cell? ⟨0, i, none⟩ = some (.int .u32 ((Pl.words Pl.init).getD i 0 : Nat))) ∧ (∀ i, i < 64 → w.cell? ⟨1, i, none⟩ = some (.int .u32 (Pl.K.getD i 0 : Nat)))
theorem Tab.below {w w' : World} {B : Nat} (h : Tab w) (hb : Below B w w') (hB : 2 ≤ B) : Tab w' :=
  ⟨fun i hi => (hb.cell (p := ⟨0, i, none⟩) (show 0 < B by omega)).trans (h.1 i hi), fun i hi => (hb.cell (p := ⟨1, i, none⟩) (show 1 < B by omega)).trans (h.2 i hi)⟩
theorem Tab.size {w : World} (h : Tab w) : 2 ≤ w.heap.size := World.block_lt_of_cell? _ _ (h.2 0 (by omega))

/-- All but block g is as it was. -/
structure But (g : Nat) (w w' : World) : Prop where
  os : w'.os = w.os
  tape : w'.tape = w.tape
  output : w'.output = w.output
  size : w.heap.size ≤ w'.heap.size
  block : ∀ k, k < w.heap.size → k ≠ g → w'.heap[k]? = w.heap[k]?

theorem But.refl (g : Nat) (w : World) : But g w w := ⟨rfl, rfl, rfl, Nat.le_refl _, fun _ _ _ => rfl⟩
theorem But.trans {g : Nat} {a b c : World} (h : But g a b) (k : But g b c) : But g a c :=
  ⟨k.os.trans h.os, k.tape.trans h.tape, k.output.trans h.output, Nat.le_trans h.size k.size, fun i hi hn => (k.block i (Nat.lt_of_lt_of_le hi h.size) hn).trans (h.block i hi hn)⟩
theorem But.of {g : Nat} {w w' : World} (h : Below w.heap.size w w') : But g w w' := ⟨h.os, h.tape, h.output, h.size, fun k hk _ => h.block k hk⟩
theorem But.set (g i : Nat) (w : World) (v : Value) : But g w (w.setCell ⟨g, i, none⟩ v) :=
  ⟨rfl, rfl, rfl, by simp [World.setCell], fun k _ hn => heap_setCell_other _ _ _ _ hn⟩
theorem But.cells (g : Nat) : ∀ (vs : List Value) (o : Nat) (w : World), But g w (w.setCells g o vs)
  | [], _, w => But.refl g w
  | v :: r, o, w => (But.set g o w v).trans (But.cells g r (o + 1) _)
theorem But.below {g B : Nat} {w w' : World} (h : But g w w') (hB : B ≤ g) (hw : B ≤ w.heap.size) : Below B w w' :=
  ⟨h.os, h.tape, h.output, h.size, fun k hk => h.block k (by omega) (by omega)⟩
theorem But.drew {g : Nat} {w w' : World} (h : But g w w') : But g w w'.drew := ⟨h.os, h.tape, h.output, h.size, h.block⟩
theorem But.cell {g : Nat} {w w' : World} (h : But g w w') {p : Addr} (hp : p.block < w.heap.size) (hn : p.block ≠ g) : w'.cell? p = w.cell? p := World.cell?_of_block (w := w) (h.block p.block hp hn)
theorem Tab.but {w w' : World} {g : Nat} (h : Tab w) (hb : But g w w') (hg : 2 ≤ g) : Tab w' :=
  ⟨fun i hi => (hb.cell (p := ⟨0, i, none⟩) (show 0 < _ by have := h.size; omega) (show 0 ≠ g by omega)).trans (h.1 i hi),
   fun i hi => (hb.cell (p := ⟨1, i, none⟩) (show 1 < _ by have := h.size; omega) (show 1 ≠ g by omega)).trans (h.2 i hi)⟩
theorem _root_.Go.Proofs.YtgnampbbkaolmaaDoor.Sl.but {w w' : World} {v : Value} {xs : List Int} {g : Nat} (h : Sl w v xs) (hb : But g w w') (hn : ∀ a l c, v = .slice (some a) l c → 0 < l → a.block ≠ g) : Sl w' v xs := by
  obtain ⟨a, cap, rfl, h1, h2, h3, h4⟩ := h
  refine ⟨a, cap, rfl, h1, h2, h3, ?_⟩
  rcases h4 with h4 | ⟨hp, b, off, rfl, hlc, hm, hc, hz⟩
  · exact .inl h4
  · have hbn : b ≠ g := hn _ _ _ rfl hp
    exact .inr ⟨hp, b, off, rfl, hlc, hm, fun i hi => (hb.cell (p := ⟨b, off + i, Option.none⟩) (World.block_lt_of_cell? _ _ (hc i hi)) hbn).trans (hc i hi), hz⟩

/-- A hasher's cells. -/
def hlist (S : List Nat) (R : List Int) (n : Nat) : List Value := (S.map fun (k : Nat) => Value.int .u32 (k : Int)) ++ (R.map (Value.int .u8) ++ [.int .i64 n])
def Hs (w : World) (g : Nat) (S : List Nat) (R : List Int) (n : Nat) : Prop := w.heap[g]? = some (.cells (hlist S R n).toArray 123 (0, 0)) ∧ S.length = 8 ∧ R.length = 64

theorem Hs.frozen {w : World} {g : Nat} {S : List Nat} {R : List Int} {n : Nat} (h : Hs w g S R n) (i : Nat) : w.frozen? ⟨g, i, none⟩ = false := frozen_of_row _ _ _ _ _ h.1
theorem Hs.word {w : World} {g : Nat} {S : List Nat} {R : List Int} {n : Nat} (h : Hs w g S R n) (i : Nat) (hi : i < 8) : w.cell? ⟨g, i, none⟩ = some (.int .u32 (S.getD i 0 : Nat)) := by
  obtain ⟨h1, h2, h3⟩ := h
  rw [cell_of_row _ _ _ _ _ _ h1]
  have : i < S.length := by omega
  simp [hlist, List.getElem?_append_left, this, List.getD]
theorem Hs.rest {w : World} {g : Nat} {S : List Nat} {R : List Int} {n : Nat} (h : Hs w g S R n) (i : Nat) (hi : i < 64) : w.cell? ⟨g, 8 + i, none⟩ = some (.int .u8 (R.getD i 0)) := by
  obtain ⟨h1, h2, h3⟩ := h
  rw [cell_of_row _ _ _ _ _ _ h1]
  have : i < R.length := by omega
  simp only [hlist, List.getElem?_toArray]
  rw [List.getElem?_append_right (by simp; omega), List.getElem?_append_left (by simp; omega)]
  simp [h2, List.getElem?_eq_getElem this, List.getD]
theorem Hs.num {w : World} {g : Nat} {S : List Nat} {R : List Int} {n : Nat} (h : Hs w g S R n) : w.cell? ⟨g, 72, none⟩ = some (.int .i64 n) := by
  obtain ⟨h1, h2, h3⟩ := h
  rw [cell_of_row _ _ _ _ _ _ h1]
  simp only [hlist, List.getElem?_toArray]
  rw [List.getElem?_append_right (by simp; omega), List.getElem?_append_right (by simp; omega)]
  simp [h2, h3]
theorem Hs.lt {w : World} {g : Nat} {S : List Nat} {R : List Int} {n : Nat} (h : Hs w g S R n) : g < w.heap.size := World.block_lt_of_cell? _ _ h.num
theorem Hs.below {w w' : World} {B g : Nat} {S : List Nat} {R : List Int} {n : Nat} (h : Hs w g S R n) (hb : Below B w w') (hB : g < B) : Hs w' g S R n := ⟨(hb.block g hB).trans h.1, h.2⟩
theorem Hs.kept {w w' : World} {g : Nat} {S : List Nat} {R : List Int} {n : Nat} (h : Hs w g S R n) (hb : Below w.heap.size w w') : Hs w' g S R n := h.below hb h.lt
theorem Hs.but {w w' : World} {f g : Nat} {S : List Nat} {R : List Int} {n : Nat} (h : Hs w g S R n) (hb : But f w w') (hB : g ≠ f) : Hs w' g S R n := ⟨(hb.block g h.lt hB).trans h.1, h.2⟩
theorem Hs.drew {w : World} {g : Nat} {S : List Nat} {R : List Int} {n : Nat} (h : Hs w g S R n) : Hs w.drew g S R n := h

theorem Hs.setWord {w : World} {g : Nat} {S : List Nat} {R : List Int} {n : Nat} (h : Hs w g S R n) (i : Nat) (hi : i < 8) (k : Nat) : Hs (w.setCell ⟨g, i, none⟩ (.int .u32 (k : Int))) g (S.set i k) R n := by
  obtain ⟨h1, h2, h3⟩ := h
  refine ⟨?_, by simpa using h2, h3⟩
  rw [heap_setCell_same _ _ _ _ _ _ h1]
  congr 2
  apply Array.ext'
  simp only [hlist, List.setIfInBounds_toArray]
  rw [List.set_append_left _ _ (by simp; omega), List.map_set]
theorem Hs.setNum {w : World} {g : Nat} {S : List Nat} {R : List Int} {n : Nat} (h : Hs w g S R n) (k : Nat) : Hs (w.setCell ⟨g, 72, none⟩ (.int .i64 (k : Int))) g S R k := by
  obtain ⟨h1, h2, h3⟩ := h
  refine ⟨?_, h2, h3⟩
  rw [heap_setCell_same _ _ _ _ _ _ h1]
  congr 2
  apply Array.ext'
  simp only [hlist, List.setIfInBounds_toArray]
  rw [List.set_append_right _ _ (by simp; omega), List.set_append_right _ _ (by simp; omega)]
  simp [h2, h3]
theorem Hs.setByte {w : World} {g : Nat} {S : List Nat} {R : List Int} {n : Nat} (h : Hs w g S R n) (i : Nat) (hi : i < 64) (z : Int) : Hs (w.setCell ⟨g, 8 + i, none⟩ (.int .u8 z)) g S (R.set i z) n := by
  obtain ⟨h1, h2, h3⟩ := h
  refine ⟨?_, h2, by simpa using h3⟩
  rw [heap_setCell_same _ _ _ _ _ _ h1]
  congr 2
  apply Array.ext'
  simp only [hlist, List.setIfInBounds_toArray]
  rw [List.set_append_right _ _ (by simp; omega), List.set_append_left _ _ (by simp; omega), List.map_set]
  simp [h2]
/-- Bytes laid over others. -/
def over : List Int → Nat → List Int → List Int
  | R, _, [] => R
  | R, i, z :: r => over (R.set i z) (i + 1) r
theorem Hs.setBytes {g : Nat} {S : List Nat} {n : Nat} : ∀ (zs : List Int) (i : Nat) (w : World) (R : List Int), Hs w g S R n → i + zs.length ≤ 64 → Hs (w.setCells g (8 + i) (zs.map (Value.int .u8))) g S (over R i zs) n
  | [], _, _, _, h, _ => h
  | z :: r, i, w, R, h, hl => by
    have hl' : i + (r.length + 1) ≤ 64 := by simpa using hl
    show Hs ((w.setCell ⟨g, 8 + i, none⟩ (.int .u8 z)).setCells g (8 + i + 1) (r.map (Value.int .u8))) g S (over (R.set i z) (i + 1) r) n
    exact Hs.setBytes r (i + 1) _ _ (h.setByte i (by omega) z) (by omega)
theorem over_len : ∀ (zs : List Int) (R : List Int) (i : Nat), (over R i zs).length = R.length
  | [], _, _ => rfl
  | z :: r, R, i => by show (over (R.set i z) (i + 1) r).length = _; rw [over_len r]; simp
theorem over_get : ∀ (zs : List Int) (R : List Int) (i : Nat) (k : Nat), i + zs.length ≤ R.length → (over R i zs).getD k 0 = if i ≤ k ∧ k < i + zs.length then zs.getD (k - i) 0 else R.getD k 0
  | [], R, i, k, _ => by rw [if_neg (by simp)]; rfl
  | z :: r, R, i, k, h => by
    have h' : i + (r.length + 1) ≤ R.length := by simpa using h
    show (over (R.set i z) (i + 1) r).getD k 0 = _
    rw [over_get r _ _ _ (by simp; omega)]
    have hl : (z :: r).length = r.length + 1 := rfl
    rw [hl]
    by_cases h1 : i + 1 ≤ k ∧ k < i + 1 + r.length
    · rw [if_pos h1, if_pos (by omega)]
      rw [show k - i = (k - (i + 1)) + 1 by omega]
      simp [List.getD]
    · rw [if_neg h1]
      by_cases h2 : k = i
      · subst h2
        rw [if_pos (by omega)]
        simp [List.getD]
        rw [List.getElem?_set_self (by omega)]
        simp
      · rw [if_neg (by omega)]
        simp [List.getD, List.getElem?_set_ne (show i ≠ k by omega)]
end Go.Proofs.YtgnampbbkaolmaaDoor.Sh
namespace Go.Proofs.YtgnampbbkaolmaaDoor.Sh
open Go.RowKit
set_option maxRecDepth 100000

theorem size47 : (Tryd.prog.info? 120).map (fun i => i.size) = some 8 := by kernel_rfl
theorem size65 : (Tryd.prog.info? 123).map (fun i => i.size) = some 73 := by kernel_rfl
theorem size26 : (Tryd.prog.info? 59).map (fun i => i.size) = some 32 := by kernel_rfl

def hz : Array Value := (hlist (List.replicate 8 0) (List.replicate 64 0) 0).toArray
theorem zero65 : ∀ w, (zeroValue 123).run Tryd.prog w = .ok (.agg hz) w := (zero_of_info (P := Tryd.prog) (t := 123) (v := .agg hz) (n := 73) (by kernel_rfl)).1
def h0 : Array Value := (hlist (Pl.words Pl.init) (List.replicate 64 0) 0).toArray
def i8 : Array Value := ((Pl.words Pl.init).map fun (n : Nat) => Value.int .u32 (n : Int)).toArray
theorem built65 : Tryd.prog.built 123 [(0, .agg i8)] = some h0 := by kernel_rfl
theorem size_h0 : h0.size = 73 := by kernel_rfl
theorem size_hz : hz.size = 73 := by kernel_rfl

theorem range_words {w : World} {b : Nat} {S : List Nat} (h : ∀ i, i < S.length → w.cell? ⟨b, i, none⟩ = some (.int .u32 (S.getD i 0 : Nat))) : w.rangeAt b 0 (S.map fun (n : Nat) => Value.int .u32 (n : Int)) := by
  intro j v hv
  have hj : j < S.length := by
    have := (List.getElem?_eq_some_iff.1 hv).1
    simpa using this
  rw [Nat.zero_add, h j hj]
  rw [List.getElem?_map, List.getElem?_eq_getElem hj] at hv
  simp only [Option.map_some, Option.some.injEq] at hv
  rw [← hv]
  simp [List.getD, List.getElem?_eq_getElem hj]

theorem words_cells (s : Pl.S8) : (Pl.words s).map (fun (n : Nat) => Value.int .u32 (n : Int)) = [.int .u32 s.a, .int .u32 s.b, .int .u32 s.c, .int .u32 s.d, .int .u32 s.e, .int .u32 s.f, .int .u32 s.g, .int .u32 s.h] := rfl

set_option maxHeartbeats 1000000 in
set_option maxRecDepth 100000 in
theorem new_any (w : World) (ht : Tab w) :
    Calls Tryd.prog 53 #[] w fun e w' => e = .returned (.pointer (some ⟨w.heap.size, 0, none⟩)) ∧ Hs w' w.heap.size (Pl.words Pl.init) (List.replicate 64 0) 0 ∧ Below w.heap.size w w' := by
  have hr := range_words (b := 0) (S := Pl.words Pl.init) (fun i hi => ht.1 i hi)
  have HR : Hid (w.rangeAt 0 0 ((Pl.words Pl.init).map fun (n : Nat) => Value.int .u32 (n : Int))) := hr
  clear hr ht
  go_enter Tryd.func53, Tryd.ntmps53
  go_wp2_with (refine wpList_load_mid rfl 120 _ rfl 0 0 rfl ((Pl.words Pl.init).map fun (n : Nat) => Value.int .u32 (n : Int)) _ HR.out Tryd.underlying120 rfl size47 (Hid.out ?_))
  unfold Hid
  refine wpList_build rfl 123 _ rfl ?_ ?_
  · simp only [List.map_toArray, List.map_cons, List.map_nil]
    change (Tryd.prog.built 123 [(0, .agg i8)]).isSome = true
    rw [built65]; rfl
  simp only [List.map_toArray, List.map_cons, List.map_nil]
  change wpList _ _ _ _ (Act.put _ _ (.agg ((Tryd.prog.built 123 [(0, .agg i8)]).getD #[]))) _
  rw [built65]
  change wpList _ _ _ _ (Act.put _ _ (.agg h0)) _
  go_wp2
  go_ret
  exact ⟨rfl, ⟨heap_alloc_new _ _, rfl, rfl⟩, (Below.refl _ _).alloc (Nat.le_refl _) _⟩

set_option maxHeartbeats 1000000 in
theorem fork_nil (w : World) : Calls Tryd.prog 72 #[.pointer none] w fun e w' => e = .returned (.pointer none) ∧ w' = w := by
  go_enter Tryd.func72, Tryd.ntmps72
  go_wp2
  go_ret
  exact ⟨rfl, rfl⟩

theorem hlist_len (S : List Nat) (R : List Int) (n : Nat) : (hlist S R n).length = S.length + R.length + 1 := by simp [hlist]; omega
theorem hlist_one (S : List Nat) (R : List Int) (n : Nat) : (hlist S R n).toArray.all (·.oneCell') = true := by
  refine all_oneCell_toArray ?_
  intro v hv
  simp only [hlist, List.mem_append, List.mem_map, List.mem_singleton] at hv
  rcases hv with ⟨_, _, rfl⟩ | ⟨_, _, rfl⟩ | rfl <;> rfl

set_option maxHeartbeats 1000000 in
set_option maxRecDepth 100000 in
theorem fork_any (G : Nat) (S : List Nat) (R : List Int) (n : Nat) (w : World) (hh : Hs w G S R n) :
    Calls Tryd.prog 72 #[.pointer (some ⟨G, 0, none⟩)] w fun e w' => e = .returned (.pointer (some ⟨w.heap.size, 0, none⟩)) ∧ Hs w' w.heap.size S R n ∧ Below w.heap.size w w' := by
  have HH : Hid (Hs w G S R n) := hh
  have HI : Hid ((Tryd.prog.info? 123).map (·.size) = some (hlist S R n).toArray.size) := by unfold Hid; rw [List.size_toArray, hlist_len, hh.2.1, hh.2.2]; exact size65
  have z65 := zero65
  have HS : Hid ((hlist S R n).toArray.size = 73) := by unfold Hid; rw [List.size_toArray, hlist_len, hh.2.1, hh.2.2]
  clear hh
  go_enter Tryd.func72, Tryd.ntmps72
  go_wp2_with (first
    | refine wpList_load_row rfl 123 _ rfl G rfl 123 (hlist S R n).toArray (0, 0) _ HH.out.1 Tryd.underlying123 rfl HI.out ?_
    | (refine wpList_store_row rfl 123 _ _ rfl w.heap.size (hlist S R n).toArray rfl rfl 123 _ (heap_alloc_new _ _) HI.out (by rw [HS.out, size_hz]) (hlist_one S R n) ?_; rw [World.setRow_alloc_new]))
  go_ret
  exact ⟨rfl, ⟨heap_alloc_new _ _, HH.out.2⟩, (Below.refl _ _).alloc (Nat.le_refl _) _⟩
end Go.Proofs.YtgnampbbkaolmaaDoor.Sh
namespace Go.Proofs.YtgnampbbkaolmaaDoor.Sh
open Go.RowKit
set_option maxRecDepth 100000

/-- The state's words, the first i of t, the others of s. -/
def mix (t s : List Nat) (i : Nat) : List Nat := t.take i ++ s.drop i
theorem mix_get (t s : List Nat) (i : Nat) (h : t.length = s.length) (hi : i < s.length) : (mix t s i).getD i 0 = s.getD i 0 := by
  unfold mix
  simp only [List.getD]
  rw [List.getElem?_append_right (by simp; omega)]
  simp [Nat.min_eq_left (show i ≤ t.length by omega)]
theorem mix_set (t s : List Nat) (i : Nat) (h : t.length = s.length) (hi : i < s.length) : (mix t s i).set i (t.getD i 0) = mix t s (i + 1) := by
  unfold mix
  rw [List.set_append_right _ _ (by simp; omega)]
  simp only [List.length_take, Nat.min_eq_left (show i ≤ t.length by omega), Nat.sub_self]
  rw [List.drop_eq_getElem_cons hi, List.set_cons_zero, List.take_add_one, List.getElem?_eq_getElem (show i < t.length by omega), List.append_assoc]
  simp [List.getD, List.getElem?_eq_getElem (show i < t.length by omega)]
theorem mix_zero (t s : List Nat) : mix t s 0 = s := by simp [mix]
theorem mix_all (t s : List Nat) (h : t.length = s.length) : mix t s t.length = t := by unfold mix; rw [List.take_length, h]; simp
theorem words_len (s : Pl.S8) : (Pl.words s).length = 8 := rfl
theorem words_add (s t : Pl.S8) (i : Nat) (hi : i < 8) : (Pl.words (Pl.add s t)).getD i 0 = ((Pl.words s).getD i 0 + (Pl.words t).getD i 0) % 4294967296 := by
  match i, hi with
  | 0, _ => rfl
  | 1, _ => rfl
  | 2, _ => rfl
  | 3, _ => rfl
  | 4, _ => rfl
  | 5, _ => rfl
  | 6, _ => rfl
  | 7, _ => rfl

theorem run_index_agg {P : Program} (w : World) (t e : TypeId) (n j : Nat) (k : IntKind) (cs : Array Value) (v : Value) (d : TypeDesc) (hu : P.underlying t = some (.array n e)) (hd : P.underlying e = some d) (hr : d.isRow = false)
    (hi : (P.info? e).map (·.size) = some 1) (hj : j < n) (hc : cs[j]? = some v) : (Instr.index t (.agg cs) (.int k (j : Int))).run P w = .ok v w := by
  cases hq : P.info? e with
  | none => simp [hq] at hi
  | some i =>
    have hs : i.size = 1 := by simpa [hq] using hi
    have hagg : (isAgg e).run P w = .ok false w := by
      unfold isAgg
      rw [Sem.run_bind, run_underlying hd w]
      cases d <;> simp_all
    simp [Instr.index, asIntOf, run_underlying hu, hj, sizeOf, typeInfo, hq, hs, part, hagg, hc]
theorem info46 : (Tryd.prog.info? 81).map (fun i => i.size) = some 1 := by kernel_rfl
theorem not32 (c : Nat) (h : c < 4294967296) : bits .xor .u32 IntKind.u32.max (c : Int) = (Pl.no c : Nat) := by
  have e : IntKind.u32.max = ((4294967295 : Nat) : Int) := by decide
  rw [e]
  exact u32_xor_nat 4294967295 c (by omega) h
theorem chs (e f g : Nat) (he : e < 4294967296) (hf : f < 4294967296) (hg : g < 4294967296) :
    bits .xor .u32 (bits .and .u32 (e : Int) (f : Int)) (bits .and .u32 (bits .xor .u32 IntKind.u32.max (e : Int)) (g : Int)) = (Pl.ch e f g : Nat) := by
  rw [not32 e he, u32_and_nat e f he hf, u32_and_nat _ g (Pl.no_lt he) hg, u32_xor_nat _ _ (Pl.and_lt he) (Pl.and_lt (Pl.no_lt he))]
  rfl
theorem majs (a b c : Nat) (ha : a < 4294967296) (hb : b < 4294967296) (hc : c < 4294967296) :
    bits .xor .u32 (bits .xor .u32 (bits .and .u32 (a : Int) (b : Int)) (bits .and .u32 (a : Int) (c : Int))) (bits .and .u32 (b : Int) (c : Int)) = (Pl.maj a b c : Nat) := by
  rw [u32_and_nat a b ha hb, u32_and_nat a c ha hc, u32_and_nat b c hb hc, u32_xor_nat _ _ (Pl.and_lt ha) (Pl.and_lt ha), u32_xor_nat _ _ (Pl.xor_lt (Pl.and_lt ha) (Pl.and_lt ha)) (Pl.and_lt hb)]
  rfl

set_option maxHeartbeats 2000000 in
set_option maxRecDepth 100000 in
theorem work_any (G : Nat) (s : Pl.S8) (R : List Int) (n : Nat) (v : Value) (xs : List Int) (w : World) (ht : Tab w) (hh : Hs w G (Pl.words s) R n) (hs : Pl.ok s) (sl : Sl w v xs) (hl : xs.length = 64) :
    Calls Tryd.prog 71 #[.pointer (some ⟨G, 0, none⟩), v] w fun e w' => (∃ v, e = .returned v) ∧ Hs w' G (Pl.words (Pl.comp s xs)) R n ∧ But G w w' := by
  have csp := spread_any v xs w sl hl
  have HX : Hid (Pl.comp s xs = Pl.add s (Pl.rnd Pl.K (Pl.sched xs) s 64)) := rfl
  have HWL : Hid (∀ i, (Pl.sched xs).getD i 0 < 4294967296) := Pl.sched_lt sl.bytes
  have HLW : Hid ((Pl.sched xs).length = 64) := Pl.sched_len xs
  generalize Pl.sched xs = W at *
  have HI : Hid ((Tryd.prog.info? 133).map (·.size) = some (u32s W).size) := by unfold Hid; rw [u32s_size, HLW.out]; exact size50
  have HO : Hid ((u32s W).size = 64) := by unfold Hid; rw [u32s_size, HLW.out]
  have HT : Hid (Tab w) := ht
  have HH : Hid (Hs w G (Pl.words s) R n) := hh
  have HOK : Hid (Pl.ok s) := hs
  clear ht hh hs sl hl
  go_enter Tryd.func71, Tryd.ntmps71
  go_wp2_with fail
  refine csp.mono ?_
  rintro e w1 ⟨rfl, bel1⟩
  have BEL1 : Hid (Below w.heap.size w w1) := bel1
  clear csp bel1
  go_wp2_with (refine wpList_store_row rfl 133 _ _ rfl w1.heap.size (u32s W) rfl rfl 133 _ (heap_alloc_new _ _) HI.out (by rw [HO.out]; rfl) (u32s_one W) ?_; rw [World.setRow_alloc_new]; obtain ⟨w2, hw2⟩ : ∃ w2, w2 = w1.alloc (.cells (u32s W) 133) := ⟨_, rfl⟩; rw [← hw2]; have HW2 : Hid (w2 = w1.alloc (.cells (u32s W) 133)) := hw2; clear hw2)
  have HV : Hid (∀ i, i < 64 → w2.cell? ⟨w1.heap.size, i, none⟩ = some (.int .u32 (W.getD i 0 : Nat))) := fun i hi => by
    rw [HW2.out, cell_of_row _ _ _ _ _ _ (heap_alloc_new _ _)]
    exact u32s_get W i (by rw [HLW.out]; exact hi)
  have BEL : Hid (Below w.heap.size w w2) := by unfold Hid; rw [HW2.out]; exact BEL1.out.alloc BEL1.out.size _
  have HVL : Hid (w1.heap.size < w2.heap.size) := World.block_lt_of_cell? _ _ (HV.out 0 (by omega))
  have HT2 : Hid (Tab w2) := HT.out.below BEL.out HT.out.size
  have HH2 : Hid (Hs w2 G (Pl.words s) R n) := HH.out.kept BEL.out
  clear HW2 BEL1
  have c0 := HH2.out.word 0 (by omega)
  have c1 := HH2.out.word 1 (by omega)
  have c2 := HH2.out.word 2 (by omega)
  have c3 := HH2.out.word 3 (by omega)
  have c4 := HH2.out.word 4 (by omega)
  have c5 := HH2.out.word 5 (by omega)
  have c6 := HH2.out.word 6 (by omega)
  have c7 := HH2.out.word 7 (by omega)
  obtain ⟨V, hV⟩ : ∃ V, V = w1.heap.size := ⟨_, rfl⟩
  rw [← hV] at HV HVL ⊢
  clear hV
  change w2.cell? ⟨G, 0, none⟩ = some (.int .u32 (s.a : Nat)) at c0
  change w2.cell? ⟨G, 1, none⟩ = some (.int .u32 (s.b : Nat)) at c1
  change w2.cell? ⟨G, 2, none⟩ = some (.int .u32 (s.c : Nat)) at c2
  change w2.cell? ⟨G, 3, none⟩ = some (.int .u32 (s.d : Nat)) at c3
  change w2.cell? ⟨G, 4, none⟩ = some (.int .u32 (s.e : Nat)) at c4
  change w2.cell? ⟨G, 5, none⟩ = some (.int .u32 (s.f : Nat)) at c5
  change w2.cell? ⟨G, 6, none⟩ = some (.int .u32 (s.g : Nat)) at c6
  change w2.cell? ⟨G, 7, none⟩ = some (.int .u32 (s.h : Nat)) at c7
  go_wp2_with fail
  go_quiet (fail)
  go_wp2_with fail
  clear c0 c1 c2 c3 c4 c5 c6 c7
  go_loopw [6, 7, 8, 9, 10, 11, 12, 13, 56] (fun A B C D E F H L i wr => ∃ (j : Nat) (r : Pl.S8), j ≤ 64 ∧ r = Pl.rnd Pl.K W s j ∧ i = .int .i64 j ∧ A = .int .u32 (r.a : Nat) ∧ B = .int .u32 (r.b : Nat) ∧ C = .int .u32 (r.c : Nat) ∧ D = .int .u32 (r.d : Nat) ∧ E = .int .u32 (r.e : Nat) ∧ F = .int .u32 (r.f : Nat) ∧ H = .int .u32 (r.g : Nat) ∧ L = .int .u32 (r.h : Nat) ∧ Below w2.heap.size w2 wr) (fun _ _ _ _ _ _ _ _ i _ => 64 - (intOf i).toNat)
  case atStart => exact ⟨0, s, by omega, rfl, rfl, rfl, rfl, rfl, rfl, rfl, rfl, rfl, rfl, ⟨rfl, rfl, rfl, Nat.le_refl _, fun _ _ => rfl⟩⟩
  case round =>
    obtain ⟨j, ⟨a, b, c, d, e, f, g, h⟩, hj, hr, rfl, rfl, rfl, rfl, rfl, rfl, rfl, rfl, rfl, bel⟩ := hrel
    have HR : Hid (Pl.S8.mk a b c d e f g h = Pl.rnd Pl.K W s j) := hr
    have BW : Hid (Below w2.heap.size w2 wr) := bel
    have okr := Pl.ok_rnd (K := Pl.K) (W := W) HOK.out j
    rw [← hr] at okr
    obtain ⟨oa, ob, oc, od, oe, of, og, oh⟩ := okr
    dsimp only at oa ob oc od oe of og oh
    clear hr bel
    dsimp only
    by_cases hlt : j < 64
    · have k1 := (BW.out.cell (p := ⟨1, j, none⟩) (show 1 < _ by have := HT2.out.size; omega)).trans (HT2.out.2 j hlt)
      have k2 := (BW.out.cell (p := ⟨V, j, none⟩) HVL.out).trans (HV.out j hlt)
      have t1 := fun w' => turned_any e 6 11 25 w' (by omega) (by omega) (by omega) oe
      have t2 := fun w' => turned_any a 2 13 22 w' (by omega) (by omega) (by omega) oa
      have x1 := chs e f g oe of og
      have x2 := majs a b c oa ob oc
      have HN : Hid (Pl.rnd Pl.K W s (j + 1) = ⟨((h + Pl.tri 6 11 25 e + Pl.ch e f g + Pl.K.getD j 0 + W.getD j 0) % 4294967296 + (Pl.tri 2 13 22 a + Pl.maj a b c) % 4294967296) % 4294967296, a, b, c, (d + (h + Pl.tri 6 11 25 e + Pl.ch e f g + Pl.K.getD j 0 + W.getD j 0) % 4294967296) % 4294967296, e, f, g⟩) := by
        show Pl.step _ _ (Pl.rnd Pl.K W s j) = _
        rw [← HR.out]; rfl
      clear HR
      generalize Pl.K.getD j 0 = kj at *
      generalize W.getD j 0 = wj at *
      generalize Pl.ch e f g = q1 at *
      generalize Pl.maj a b c = q2 at *
      generalize Pl.tri 6 11 25 e = q3 at *
      generalize Pl.tri 2 13 22 a = q4 at *
      have T1 : Hid (∀ w', Calls Tryd.prog 86 #[.int .u32 e, .int .i64 6, .int .i64 11, .int .i64 25] w' fun x y => x = .returned (.int .u32 (q3 : Nat)) ∧ y = w') := t1
      have T2 : Hid (∀ w', Calls Tryd.prog 86 #[.int .u32 a, .int .i64 2, .int .i64 13, .int .i64 22] w' fun x y => x = .returned (.int .u32 (q4 : Nat)) ∧ y = w') := t2
      clear t1 t2
      have lt2 : (j : Int) < 64 := by omega
      go_wp2_with fail
      go_quiet ((go_at_call 86; exact Calls.quiet_of_same (T1.out _)))
      go_wp2_with fail
      refine (T2.out _).mono ?_
      rintro x y ⟨rfl, rfl⟩
      go_wp2_with fail
      exact ⟨⟨j + 1, _, by omega, HN.out.symm, by go_num, by simp, rfl, rfl, rfl, by simp, rfl, rfl, rfl, ⟨BW.out.os, BW.out.tape, BW.out.output, BW.out.size, BW.out.block⟩⟩, by simp [intOf]; omega⟩
    · obtain rfl : j = 64 := by omega
      have HC : Hid (Pl.words (Pl.comp s xs) = Pl.words (Pl.add s ⟨a, b, c, d, e, f, g, h⟩)) := by unfold Hid; rw [HX.out, HR.out]
      have HW' : Hid (Pl.words ⟨a, b, c, d, e, f, g, h⟩ = [a, b, c, d, e, f, g, h]) := rfl
      have HA : Hid (∀ i, i < 8 → (Pl.words (Pl.comp s xs)).getD i 0 = ((Pl.words s).getD i 0 + [a, b, c, d, e, f, g, h].getD i 0) % 4294967296) := fun i hi => by rw [HC.out, words_add _ _ i hi, HW'.out]
      have HCL : Hid ((Pl.words (Pl.comp s xs)).length = 8) := rfl
      have HSL : Hid ((Pl.words s).length = 8) := rfl
      have HB : Hid (Hs wr G (Pl.words s) R n ∧ But G w wr) := ⟨HH2.out.kept BW.out, (But.of BEL.out).trans (But.of BW.out)⟩
      obtain ⟨T, hT⟩ : ∃ T, T = [a, b, c, d, e, f, g, h] := ⟨_, rfl⟩
      have hTA : (#[.int .u32 a, .int .u32 b, .int .u32 c, .int .u32 d, .int .u32 e, .int .u32 f, .int .u32 g, .int .u32 h] : Array Value) = u32s T := by rw [hT]; rfl
      have HTL : Hid (T.length = 8) := by unfold Hid; rw [hT]; rfl
      rw [← hT] at HA
      clear hT HW' HC HR HX
      obtain ⟨Y, hY⟩ : ∃ Y, Y = Pl.words (Pl.comp s xs) := ⟨_, rfl⟩
      have HY : Hid (Pl.words (Pl.comp s xs) = Y) := hY.symm
      rw [← hY] at HA HCL
      clear hY
      generalize Pl.words s = X at *
      go_wp2_with fail
      go_loopw [116] (fun i wr => ∃ j : Nat, j ≤ 8 ∧ i = .int .i64 j ∧ Hs wr G (mix Y X j) R n ∧ But G w wr) (fun i _ => 8 - (intOf i).toNat)
      case atStart => exact ⟨0, by omega, rfl, by rw [mix_zero]; exact HB.out.1, HB.out.2⟩
      case round =>
        obtain ⟨j, hj, rfl, hs1, hb1⟩ := hrel
        have H1 : Hid (Hs wr G (mix Y X j) R n) := hs1
        have B1 : Hid (But G w wr) := hb1
        clear hs1 hb1
        by_cases hlt : j < 8
        · have k := H1.out.word j hlt
          rw [mix_get _ _ _ (by rw [HCL.out, HSL.out]) (by rw [HSL.out]; exact hlt)] at k
          have kf := H1.out.frozen j
          have ti := u32s_get T j (by rw [HTL.out]; exact hlt)
          have hix := run_index_agg (P := Tryd.prog) wr 120 81 8 j .i64 (u32s T) _ _ Tryd.underlying120 Tryd.underlying81 rfl info46 hlt ti
          clear ti
          have NS : Hid (∀ z : Int, z = ((X.getD j 0 : Nat) + (T.getD j 0 : Nat) : Int) % 4294967296 → Hs (wr.setCell ⟨G, j, none⟩ (.int .u32 z)).drew G (mix Y X (j + 1)) R n) := by
            rintro z rfl
            have e := H1.out.setWord j hlt (Y.getD j 0)
            rw [mix_set _ _ _ (by rw [HCL.out, HSL.out]) (by rw [HSL.out]; exact hlt), HA.out j hlt] at e
            rw [Int.natCast_emod, Int.natCast_add] at e
            exact e
          have NB : Hid (∀ z, But G w (wr.setCell ⟨G, j, none⟩ z).drew) := fun z => (B1.out.trans (But.set G j wr z)).drew
          generalize X.getD j 0 = xj at *
          generalize T.getD j 0 = tj at *
          have lt2 : (j : Int) < 8 := by omega
          clear HA
          go_wp2_with fail
          go_region
          go_wp2
          go_roundw
          case rel => exact ⟨j + 1, by omega, by go_num, NS.out _ rfl, NB.out _⟩
          case measure => simp [intOf]; omega
        · obtain rfl : j = 8 := by omega
          have HF : Hid (Hs wr G Y R n) := by
            have := H1.out
            rwa [show mix Y X 8 = Y by rw [← HCL.out]; exact mix_all _ _ (by rw [HCL.out, HSL.out])] at this
          have HG : Hid (Hs wr G (Pl.words (Pl.comp s xs)) R n) := by unfold Hid; rw [HY.out]; exact HF.out
          go_wp2
          refine bodyPost_end (v := .tuple #[]) (by simp [results, Tryd.results71]) rfl ⟨⟨_, rfl⟩, HG.out, B1.out⟩
end Go.Proofs.YtgnampbbkaolmaaDoor.Sh
namespace Go.Proofs.YtgnampbbkaolmaaDoor.Sh
open Go.RowKit
set_option maxRecDepth 100000

def u8s (l : List Int) : Array Value := (l.map (Value.int .u8)).toArray
theorem u8s_get (l : List Int) (i : Nat) (h : i < l.length) : (u8s l)[i]? = some (.int .u8 (l.getD i 0)) := by
  simp [u8s, List.getElem?_eq_getElem h, List.getD]
theorem u8s_size (l : List Int) : (u8s l).size = l.length := by simp [u8s]
theorem u8s_set (l : List Int) (i : Nat) (z : Int) : (u8s l).setIfInBounds i (.int .u8 z) = u8s (l.set i z) := by
  apply Array.ext'
  simp [u8s, List.map_set]
theorem u8s_one (l : List Int) : (u8s l).all (·.oneCell') = true := by
  simp [u8s]
  intro x _
  rfl
/-- The bytes up to i, noughts behind them. -/
def partI (l : List Int) (i : Nat) : List Int := l.take i ++ List.replicate (l.length - i) 0
theorem partI_len (l : List Int) (i : Nat) : (partI l i).length = l.length := by unfold partI; simp; omega
theorem partI_zero (l : List Int) : partI l 0 = List.replicate l.length 0 := by simp [partI]
theorem partI_all (l : List Int) : partI l l.length = l := by simp [partI]
theorem partI_set (l : List Int) (i : Nat) (h : i < l.length) : (partI l i).set i (l.getD i 0) = partI l (i + 1) := by
  apply List.ext_getElem?
  intro k
  unfold partI
  rw [List.getElem?_set]
  by_cases e : i = k
  · subst e
    have h1 : i < (l.take (i + 1)).length := by simp; omega
    rw [List.getElem?_append_left h1, List.getElem?_take, if_pos rfl, if_pos (by simp; omega), if_pos (show i < i + 1 by omega)]
    simp [List.getD, List.getElem?_eq_getElem h]
  · simp only [e, if_false, List.getElem?_append, List.length_take, List.getElem?_take, List.getElem?_replicate]
    repeat' split
    all_goals first | rfl | omega

theorem map_getI (f : Nat → Int) (n i : Nat) (h : i < n) : ((List.range n).map f).getD i 0 = f i := by simp [List.getD, h]
theorem digest_len (s : Pl.S8) : (Pl.digest s).length = 32 := by unfold Pl.digest; simp
theorem digest_get (s : Pl.S8) (i j : Nat) (hi : i < 8) (hj : j < 4) : (Pl.digest s).getD (4 * i + j) 0 = (((Pl.words s).getD i 0 / 2 ^ (24 - 8 * j) % 256 : Nat) : Int) := by
  unfold Pl.digest
  rw [map_getI _ 32 _ (by omega), show (4 * i + j) / 4 = i by omega, show (4 * i + j) % 4 = j by omega]

set_option maxHeartbeats 1000000 in
set_option maxRecDepth 100000 in
theorem told_any (G : Nat) (s : Pl.S8) (R : List Int) (n : Nat) (w : World) (hh : Hs w G (Pl.words s) R n) :
    Calls Tryd.prog 74 #[.pointer (some ⟨G, 0, none⟩)] w fun e w' => e = .returned (.agg (u8s (Pl.digest s))) ∧ Below w.heap.size w w' := by
  have HG : Hid (∀ i j, i < 8 → j < 4 → (Pl.digest s).getD (4 * i + j) 0 = (((Pl.words s).getD i 0 / 2 ^ (24 - 8 * j) % 256 : Nat) : Int)) := fun i j => digest_get s i j
  have HL : Hid ((Pl.digest s).length = 32) := digest_len s
  have HI : Hid ((Tryd.prog.info? 59).map (·.size) = some (u8s (Pl.digest s)).size) := by unfold Hid; rw [u8s_size, digest_len]; exact size26
  have HR : Hid (w.rangeAt G 0 ((Pl.words s).map fun (n : Nat) => Value.int .u32 (n : Int))) := range_words (fun i hi => hh.word i hi)
  have HR2 : Hid (((w.alloc (.cells (u8s (List.replicate 32 0)) 59)).alloc (.cells (u8s (List.replicate 32 0)) 59)).rangeAt G 0 ((Pl.words s).map fun (n : Nat) => Value.int .u32 (n : Int))) := by
    refine range_words (fun i hi => ?_)
    have b : Below w.heap.size w ((w.alloc (.cells (u8s (List.replicate 32 0)) 59)).alloc (.cells (u8s (List.replicate 32 0)) 59)) := (Rows2.two w 59 _ _).2.2
    exact (b.cell (p := ⟨G, i, none⟩) hh.lt).trans (hh.word i hi)
  have HT : Hid ((Pl.words s).length = 8) := rfl
  have HO : Hid (∀ i, (Pl.words s).getD i 0 < 4294967296 ∨ True) := fun _ => .inr trivial
  clear hh HO HR
  obtain ⟨D, hD⟩ : ∃ D, D = Pl.digest s := ⟨_, rfl⟩
  rw [← hD] at HG HL HI ⊢
  clear hD
  obtain ⟨X, hX⟩ : ∃ X, X = Pl.words s := ⟨_, rfl⟩
  rw [← hX] at HG HR2 HT
  clear hX
  go_enter Tryd.func74, Tryd.ntmps74
  go_wp2_with (refine wpList_load_mid rfl 120 _ rfl G 0 rfl (X.map fun (n : Nat) => Value.int .u32 (n : Int)) _ HR2.out Tryd.underlying120 rfl (by rw [List.length_map, HT.out]; exact size47) ?_)
  go_loopw [11] (fun i wr => ∃ j : Nat, j ≤ 8 ∧ i = .int .i64 j ∧ Rows2 w.heap.size 59 (u8s (List.replicate 32 0)) (u8s (partI D (4 * j))) w wr) (fun i _ => 8 - (intOf i).toNat)
  case atStart =>
    refine ⟨0, by omega, rfl, ?_⟩
    rw [Nat.mul_zero, partI_zero, HL.out]
    exact Rows2.two w 59 _ _
  case round =>
    obtain ⟨i, hi, rfl, g⟩ := hrel
    have GR : Hid (Rows2 w.heap.size 59 (u8s (List.replicate 32 0)) (u8s (partI D (4 * i))) w wr) := g
    clear g
    by_cases hlt : i < 8
    · have lt2 : (i : Int) < 8 := by omega
      have ti : (X.map fun (n : Nat) => Value.int .u32 (n : Int)).toArray[i]? = some (.int .u32 (X.getD i 0 : Nat)) := u32s_get X i (by rw [HT.out]; exact hlt)
      have hix := run_index_agg (P := Tryd.prog) wr 120 81 8 i .i64 (X.map fun (n : Nat) => Value.int .u32 (n : Int)).toArray _ _ Tryd.underlying120 Tryd.underlying81 rfl info46 hlt ti
      clear ti
      have HGi : Hid (∀ j, j < 4 → D.getD (4 * i + j) 0 = ((X.getD i 0 / 2 ^ (24 - 8 * j) % 256 : Nat) : Int)) := fun j hj => HG.out i j hlt hj
      generalize X.getD i 0 = x at *
      go_wp2_with fail
      clear hix
      go_loopw [15] (fun q wr => ∃ j : Nat, j ≤ 4 ∧ q = .int .i64 j ∧ Rows2 w.heap.size 59 (u8s (List.replicate 32 0)) (u8s (partI D (4 * i + j))) w wr) (fun q _ => 4 - (intOf q).toNat)
      case atStart => exact ⟨0, by omega, rfl, GR.out⟩
      case round =>
        clear GR
        obtain ⟨j, hj, rfl, g⟩ := hrel
        have GR : Hid (Rows2 w.heap.size 59 (u8s (List.replicate 32 0)) (u8s (partI D (4 * i + j))) w wr) := g
        clear g
        by_cases hl4 : j < 4
        · have lt4 : (j : Int) < 4 := by omega
          have kf := GR.out.frozen (4 * i + j)
          have kc := (GR.out.cell (4 * i + j)).trans (u8s_get _ (4 * i + j) (by rw [partI_len, HL.out]; omega))
          have NS : Hid (Rows2 w.heap.size 59 (u8s (List.replicate 32 0)) (u8s (partI D (4 * i + (j + 1)))) w (wr.setCell ⟨w.heap.size + 1, 4 * i + j, none⟩ (.int .u8 (x / 2 ^ (24 - 8 * j) % 256 : Nat)))) := by
            have := GR.out.set (4 * i + j) (.int .u8 (D.getD (4 * i + j) 0))
            rw [u8s_set, partI_set _ _ (by rw [HL.out]; omega), HGi.out j hl4] at this
            exact this
          have q1 : IntKind.i64.wrap (4 * (i : Int)) = ((4 * i : Nat) : Int) := by simp [IntKind.wrap, IntKind.bits, IntKind.signed]; omega
          have q2 : IntKind.i64.wrap (((4 * i : Nat) : Int) + (j : Int)) = ((4 * i + j : Nat) : Int) := by simp [IntKind.wrap, IntKind.bits, IntKind.signed]; omega
          have q3 : IntKind.i64.wrap (8 * (j : Int)) = ((8 * j : Nat) : Int) := by simp [IntKind.wrap, IntKind.bits, IntKind.signed]; omega
          have q4 : IntKind.i64.wrap (24 - ((8 * j : Nat) : Int)) = ((24 - 8 * j : Nat) : Int) := by simp [IntKind.wrap, IntKind.bits, IntKind.signed]; omega
          have s1 := shr32 x (24 - 8 * j) (by omega)
          have s2 : ((x / 2 ^ (24 - 8 * j) : Nat) : Int) % 256 = ((x / 2 ^ (24 - 8 * j) % 256 : Nat) : Int) := by omega
          have b1 : ((4 * i + j : Nat) : Int) < 32 := by omega
          have b2 : 4 * i + j < 32 := by omega
          generalize x / 2 ^ (24 - 8 * j) % 256 = y at *
          generalize x / 2 ^ (24 - 8 * j) = yy at *
          generalize 24 - 8 * j = m at *
          generalize 8 * j = m8 at *
          generalize (partI D (4 * i + j)).getD (4 * i + j) 0 = old at *
          generalize 4 * i + j = k at *
          generalize 4 * i = i4 at *
          clear HGi
          go_wp2
          go_roundw
          case rel => exact ⟨j + 1, by omega, by go_num, NS.out⟩
          case measure => simp [intOf]; omega
        · obtain rfl : j = 4 := by omega
          go_wp2
          go_roundw
          case rel => exact ⟨i + 1, by omega, by go_num, GR.out⟩
          case measure => simp [intOf]; omega
    · obtain rfl : i = 8 := by omega
      obtain ⟨g0, g1, gb⟩ := GR.out
      rw [show partI D (4 * 8) = D by rw [show 4 * 8 = D.length by rw [HL.out]]; exact partI_all D] at g1
      have GB : Hid (Below w.heap.size w wr) := gb
      have G0 : Hid (wr.heap[w.heap.size]? = some (.cells (u8s (List.replicate 32 0)) 59 (0, 0))) := g0
      have G1 : Hid (wr.heap[w.heap.size + 1]? = some (.cells (u8s D) 59 (0, 0))) := g1
      have HO : Hid ((u8s (List.replicate 32 0)).size = (u8s D).size) := by unfold Hid; rw [u8s_size, u8s_size, HL.out]; simp
      clear g0 g1 gb GR
      go_wp2_with (first
        | refine wpList_load_row rfl 59 _ rfl (w.heap.size + 1) rfl 59 (u8s D) (0, 0) _ G1.out Tryd.underlying59 rfl HI.out ?_
        | refine wpList_store_row rfl 59 _ _ rfl w.heap.size (u8s D) rfl rfl 59 _ G0.out HI.out HO.out (u8s_one D) ?_)
      refine bodyPost_ret (v := .agg (u8s D)) (results_cell_row rfl _ _ w.heap.size 59 (u8s D) (0, 0) _ rfl (setRow_heap _ _ _ _ _ _ G0.out) Tryd.underlying59 rfl HI.out) rfl ⟨rfl, below_setRow GB.out (Nat.le_refl _) _⟩
end Go.Proofs.YtgnampbbkaolmaaDoor.Sh
namespace Go.Proofs.YtgnampbbkaolmaaDoor.Sh
open Go.RowKit
set_option maxRecDepth 100000

/-- The padding with its last j bytes laid. -/
def ppad (n j : Nat) : List Int := 128 :: (List.replicate (Pl.zers n + (8 - j)) 0 ++ (Pl.count n).drop (8 - j))
theorem count_len (n : Nat) : (Pl.count n).length = 8 := by unfold Pl.count; simp
theorem ppad_len (n j : Nat) (h : j ≤ 8) : (ppad n j).length = Pl.zers n + 9 := by
  unfold ppad
  simp [count_len]
  omega
theorem ppad_all (n : Nat) : ppad n 8 = Pl.pad n := by unfold ppad Pl.pad; simp
theorem ppad_zero (n : Nat) : ppad n 0 = 128 :: List.replicate (Pl.zers n + 8) 0 := by
  unfold ppad
  rw [List.drop_eq_nil_of_le (by rw [count_len]; omega)]
  simp
theorem ppad_set (n j : Nat) (h : j < 8) : (ppad n j).set (Pl.zers n + 8 - j) ((Pl.count n).getD (7 - j) 0) = ppad n (j + 1) := by
  unfold ppad
  have hc := count_len n
  generalize Pl.zers n = z
  generalize Pl.count n = c at *
  rw [show z + 8 - j = (z + (7 - j)) + 1 by omega, List.set_cons_succ, List.set_append_left _ _ (by simp; omega)]
  rw [show 8 - (j + 1) = 7 - j by omega, show z + (8 - j) = (z + (7 - j)) + 1 by omega, List.replicate_succ', List.set_append_right _ _ (by simp)]
  rw [List.drop_eq_getElem_cons (show 7 - j < c.length by omega), show 7 - j + 1 = 8 - j by omega]
  simp [List.getD, List.getElem?_eq_getElem (show 7 - j < c.length by omega)]
theorem count_get (n j : Nat) (h : j < 8) : (Pl.count n).getD (7 - j) 0 = (((n * 8 / 2 ^ (8 * j)) % 256 : Nat) : Int) := by
  unfold Pl.count
  have : ((List.range 8).map fun i => (((n * 8 / 2 ^ (8 * (7 - i))) % 256 : Nat) : Int)).getD (7 - j) 0 = (((n * 8 / 2 ^ (8 * (7 - (7 - j)))) % 256 : Nat) : Int) := by
    simp [List.getD, show 7 - j < 8 by omega]
  rw [this, show 7 - (7 - j) = j by omega]
theorem count_byte (n i : Nat) : 0 ≤ (Pl.count n).getD i 0 ∧ (Pl.count n).getD i 0 < 256 := by
  rcases Nat.lt_or_ge i 8 with h | h
  · have := count_get n (7 - i) (by omega)
    rw [show 7 - (7 - i) = i by omega] at this
    rw [this]
    have h2 := Nat.mod_lt (n * 8 / 2 ^ (8 * (7 - i))) (show 0 < 256 by omega)
    omega
  · rw [List.getD, List.getElem?_eq_none (by rw [count_len]; exact h)]; simp

set_option maxHeartbeats 1000000 in
set_option maxRecDepth 100000 in
theorem padding_any (n : Nat) (w : World) (hn : n ≤ 1000000000000000000) :
    Calls Tryd.prog 73 #[.int .i64 n] w fun e w' => e = .returned (.slice (some ⟨w.heap.size, 0, none⟩) (Pl.zers n + 9) (Pl.zers n + 9)) ∧ Sl w' (.slice (some ⟨w.heap.size, 0, none⟩) (Pl.zers n + 9) (Pl.zers n + 9)) (Pl.pad n) ∧ Below w.heap.size w w' := by
  obtain ⟨i0, hi, hz0, hz1, hz2⟩ := info_parts info5'
  obtain ⟨z, hz⟩ : ∃ z, z = Pl.zers n := ⟨_, rfl⟩
  have HZ : Hid (Pl.zers n = z) := hz.symm
  have hzd : z = (64 - (n % 64 + 9) % 64) % 64 := hz
  rw [← hz]
  have e1 : Int.tmod (n : Int) 64 = ((n % 64 : Nat) : Int) := by rw [Int.tmod_eq_emod_of_nonneg (by omega)]; omega
  have e2 : Int.tmod (((n % 64 : Nat) : Int) + 1 + 8) 64 = (((n % 64 + 9) % 64 : Nat) : Int) := by rw [Int.tmod_eq_emod_of_nonneg (by omega)]; omega
  have e3 : Int.tmod (64 - (((n % 64 + 9) % 64 : Nat) : Int)) 64 = (z : Int) := by rw [Int.tmod_eq_emod_of_nonneg (by omega)]; omega
  have hzl : z < 64 := by omega
  have hc8 : IntKind.u64.wrap ((n : Int) * 8) = ((n * 8 : Nat) : Int) := by rw [wrap64]; omega
  have hm1 : n % 64 < 64 := Nat.mod_lt _ (by omega)
  have hm2 : (n % 64 + 9) % 64 < 64 := Nat.mod_lt _ (by omega)
  clear hz hzd
  generalize hr : n % 64 = r at *
  generalize ho : (r + 9) % 64 = o at *
  clear hr ho
  go_enter Tryd.func73, Tryd.ntmps73
  go_wp2_with (at_make; refine wpList_make_full _ rfl _ _ 22 rfl w.heap.size 5 i0 (.int .u8 0) 1 Tryd.underlying22 hi hz0 hz1 .i64 .i64 _ _ (z + 9) rfl rfl (by congr 1; omega) (by congr 1; omega) (by rw [hz2]; omega) (by unfold maxLen; omega) (Nat.le_refl _) (Hid.out ?_))
  unfold Hid
  intro w1 own1 hgrow
  have b1 : Below w.heap.size w w1 := (Below.refl _ w).grown hgrow (Nat.le_refl _) (fun k hk => by cases hk)
  have hp1 : w1.heap[w.heap.size]? = some (.cells (u8s (List.replicate (z + 9) 0)) 5 (0, 0)) := by
    have e0 : (madeCells #[Value.int .u8 0] (z + 9)).toList = (List.replicate (z + 9) (0 : Int)).map (Value.int .u8) := by
      rw [toList_madeCells_one]
      simp
    rw [e0] at own1
    rcases own1.2 with ⟨hv, _⟩ | ⟨g', cap', cur', hv, hg', hh, hc', hm', hs', ht'⟩
    · cases hv
    · cases hv
      rw [hh]
      congr 2
      apply Array.ext'
      simp only [Nat.mul_one] at hs' ht'
      rw [List.take_of_length_le (by simp only [Array.length_toList]; omega)] at ht'
      rw [ht']
      simp [u8s]
  have BB : Hid (Below w.heap.size w w1) := b1
  have HP : Hid (w1.heap[w.heap.size]? = some (.cells (u8s (List.replicate (z + 9) 0)) 5 (0, 0))) := hp1
  have kc0 := (cell_of_row _ _ 0 _ _ _ hp1).trans (u8s_get _ 0 (by simp))
  have kf0 := frozen_of_row _ _ 0 _ _ hp1
  have HP0 : Hid ((w1.setCell ⟨w.heap.size, 0, none⟩ (.int .u8 128)).heap[w.heap.size]? = some (.cells (u8s (ppad n 0)) 5 (0, 0))) := by
    have := heap_setCell_same _ _ 0 _ _ (.int .u8 128) hp1
    rw [u8s_set] at this
    rw [ppad_zero, HZ.out]
    exact this
  have BB0 : Hid (Below w.heap.size w (w1.setCell ⟨w.heap.size, 0, none⟩ (.int .u8 128))) := b1.setCell (Nat.le_refl _) _
  generalize (List.replicate (z + 9) 0).getD 0 0 = old at *
  clear own1 hgrow b1 hp1 HP BB e1 e2 e3
  have lz : (0 : Int) < ((z + 9 : Nat) : Int) := by omega
  go_wp2_with fail
  clear kc0 kf0
  obtain ⟨c, hc⟩ : ∃ c, c = n * 8 := ⟨_, rfl⟩
  have HC : Hid (c = n * 8) := hc
  have hcl : c < 18446744073709551616 := by omega
  have e8 : (n : Int) * 8 = (c : Int) := by omega
  rw [e8]
  clear hc hc8 e8
  go_loopw [25] (fun i wr => ∃ j : Nat, j ≤ 8 ∧ i = .int .i64 j ∧ wr.heap[w.heap.size]? = some (.cells (u8s (ppad n j)) 5 (0, 0)) ∧ Below w.heap.size w wr) (fun i _ => 8 - (intOf i).toNat)
  case atStart => exact ⟨0, by omega, rfl, HP0.out, BB0.out⟩
  case round =>
    clear HP0 BB0
    obtain ⟨j, hj, rfl, g, b⟩ := hrel
    by_cases hlt : j < 8
    · have lt2 : (j : Int) < 8 := by omega
      have kf := frozen_of_row _ _ (z + 8 - j) _ _ g
      have kc := (cell_of_row _ _ (z + 8 - j) _ _ _ g).trans (u8s_get _ (z + 8 - j) (by rw [ppad_len _ _ hj, HZ.out]; omega))
      have NS : Hid ((wr.setCell ⟨w.heap.size, z + 8 - j, none⟩ (.int .u8 (c / 2 ^ (8 * j) % 256 : Nat))).heap[w.heap.size]? = some (.cells (u8s (ppad n (j + 1))) 5 (0, 0))) := by
        have := heap_setCell_same _ _ (z + 8 - j) _ _ (.int .u8 ((Pl.count n).getD (7 - j) 0)) g
        rw [u8s_set, ← HZ.out, ppad_set _ _ hlt, count_get _ _ hlt, HZ.out, ← HC.out] at this
        exact this
      have NB : Hid (Below w.heap.size w (wr.setCell ⟨w.heap.size, z + 8 - j, none⟩ (.int .u8 (c / 2 ^ (8 * j) % 256 : Nat)))) := b.setCell (Nat.le_refl _) _
      have q0 : IntKind.i64.wrap (((z + 9 : Nat) : Int) - 1) = ((z + 8 : Nat) : Int) := by simp [IntKind.wrap, IntKind.bits, IntKind.signed]; omega
      have q1 : IntKind.i64.wrap (((z + 8 : Nat) : Int) - (j : Int)) = ((z + 8 - j : Nat) : Int) := by simp [IntKind.wrap, IntKind.bits, IntKind.signed]; omega
      have q3 : IntKind.i64.wrap (8 * (j : Int)) = ((8 * j : Nat) : Int) := by simp [IntKind.wrap, IntKind.bits, IntKind.signed]; omega
      have s1 : (c : Int) / 2 ^ min (8 * j) 64 = ((c / 2 ^ (8 * j) : Nat) : Int) := by rw [Nat.min_eq_left (by omega)]; simp
      have s2 : ((c / 2 ^ (8 * j) : Nat) : Int) % 256 = ((c / 2 ^ (8 * j) % 256 : Nat) : Int) := by omega
      have t1 : ((z + 8 - j : Nat) : Int) < ((z + 9 : Nat) : Int) := by omega
      have t2 : z + 8 - j < z + 9 := by omega
      generalize c / 2 ^ (8 * j) % 256 = y at *
      generalize c / 2 ^ (8 * j) = yy at *
      generalize 8 * j = m8 at *
      generalize (ppad n j).getD (z + 8 - j) 0 = old2 at *
      generalize z + 8 - j = k at *
      generalize z + 8 = z8 at *
      generalize z + 9 = z9 at *
      clear g b HC
      go_wp2
      go_roundw
      case rel => exact ⟨j + 1, by omega, by go_num, NS.out, NB.out⟩
      case measure => simp [intOf]; omega
    · obtain rfl : j = 8 := by omega
      have HS : Hid (Sl wr (.slice (some ⟨w.heap.size, 0, none⟩) (z + 9) (z + 9)) (Pl.pad n)) := by
        have hl : (Pl.pad n).length = z + 9 := by rw [← ppad_all, ppad_len n 8 (by omega), HZ.out]
        rw [ppad_all] at g
        refine ⟨some ⟨w.heap.size, 0, none⟩, z + 9, by rw [hl], by omega, by unfold maxLen; omega, (fun h => by cases h), .inr ⟨by omega, w.heap.size, 0, rfl, by omega, by unfold maxLen; omega, fun i hi => ?_, ?_⟩⟩
        · rw [Nat.zero_add, cell_of_row _ _ _ _ _ _ g, u8s_get _ _ hi]
        · intro i
          unfold Pl.pad
          match i with
          | 0 => simp
          | i + 1 =>
            rw [List.getD_cons_succ]
            rcases Nat.lt_or_ge i (Pl.zers n) with h | h
            · simp [List.getD, List.getElem?_append_left, h]
            · rw [List.getD, List.getElem?_append_right (by simpa using h)]
              exact count_byte n _
      have HB : Hid (Below w.heap.size w wr) := b
      clear g b
      go_wp2
      go_ret
      exact ⟨rfl, HS.out, HB.out⟩
end Go.Proofs.YtgnampbbkaolmaaDoor.Sh
namespace Go.Proofs.YtgnampbbkaolmaaDoor.Sh
open Go.RowKit
set_option maxRecDepth 100000

theorem bytes_take (xs : List Int) (m : Nat) (h : ∀ i, 0 ≤ xs.getD i 0 ∧ xs.getD i 0 < 256) : ∀ i, 0 ≤ (xs.take m).getD i 0 ∧ (xs.take m).getD i 0 < 256 := by
  intro i
  by_cases hi : i < m
  · have := h i
    simpa [List.getD, List.getElem?_take, hi] using this
  · simp [List.getD, List.getElem?_take, hi]
theorem bytes_drop (xs : List Int) (m : Nat) (h : ∀ i, 0 ≤ xs.getD i 0 ∧ xs.getD i 0 < 256) : ∀ i, 0 ≤ (xs.drop m).getD i 0 ∧ (xs.drop m).getD i 0 < 256 := by
  intro i
  have := h (m + i)
  simpa [List.getD, List.getElem?_drop] using this
theorem _root_.Go.Proofs.YtgnampbbkaolmaaDoor.Sl.take {w : World} {a : Option Addr} {len cap : Nat} {xs : List Int} (h : Sl w (.slice a len cap) xs) (m : Nat) (hm : m ≤ len) : Sl w (.slice a m cap) (xs.take m) := by
  obtain ⟨a', cap', e, h1, h2, h3, h4⟩ := h
  cases e
  have hlen : (xs.take m).length = m := by rw [List.length_take]; omega
  have hr := h4.cut m (by omega)
  refine ⟨a, cap, by rw [hlen], by rw [hlen]; omega, h2, h3, ?_⟩
  rw [hlen]
  rcases hr with h | ⟨hp, b, off, rfl, h1, h2, hc, hz'⟩
  · exact .inl h
  · refine .inr ⟨hp, b, off, rfl, h1, h2, fun i hi => ?_, bytes_take xs m hz'⟩
    rw [hc i hi]; simp [List.getD, hi]
theorem _root_.Go.Proofs.YtgnampbbkaolmaaDoor.Sl.drop {w : World} {b off len cap : Nat} {xs : List Int} (h : Sl w (.slice (some ⟨b, off, Option.none⟩) len cap) xs) (n : Nat) (hn : n ≤ len) : Sl w (.slice (some ⟨b, off + n, Option.none⟩) (len - n) (cap - n)) (xs.drop n) := by
  obtain ⟨a', cap', e, h1, h2, h3, h4⟩ := h
  cases e
  have hl : (xs.drop n).length = xs.length - n := List.length_drop ..
  refine ⟨_, cap - n, by rw [hl], by rw [hl]; omega, by omega, fun e => (by cases e), ?_⟩
  rw [hl]
  rcases h4 with h | ⟨hp, b', off', e, hlc, hm, hc, hz⟩
  · exact .inl (by omega)
  · cases e
    rcases Nat.eq_zero_or_pos (xs.length - n) with h0 | h0
    · exact .inl h0
    · refine .inr ⟨h0, b, off + n, rfl, by omega, by omega, fun i hi => ?_, bytes_drop xs n hz⟩
      rw [show off + n + i = off + (n + i) by omega, hc (n + i) (by omega)]
      simp [List.getD, List.getElem?_drop]

theorem size5 : (Tryd.prog.info? 5).map (·.size) = some 1 := by kernel_rfl

/-- copy into a hasher's bytes. -/
theorem wpList_copy_hs {w : World} {ops : Array Oper} {rest : List Oper} {o : Oper} {a : Act} {Q : Exit → Act → World → Prop} (hgd : o.guard = none) (d s : Operand)
    (ho : o.op = .call { callee := .builtin .copy, args := #[d, s], argTypes := #[22, 22] }) (G i dCap : Nat) (hi : i ≤ 64) (hd : a.eval d = .slice (some ⟨G, 8 + i, none⟩) (64 - i) dCap)
    (src : Value) (Z : List Int) (hs : a.eval s = src) (hsl : Sl w src Z) (S : List Nat) (R : List Int) (n : Nat) (hh : Hs w G S R n)
    (h : ∀ w', Hs w' G S (over R i (Z.take (64 - i))) n → But G w w' → wpList Tryd.prog ops Q rest (a.put o.dst (goInt ((min Z.length (64 - i) : Nat) : Int))) w') : wpList Tryd.prog ops Q (o :: rest) a w := by
  obtain ⟨ad, cap, rfl, h1, h2, h3, h4⟩ := hsl
  by_cases h0 : min Z.length (64 - i) = 0
  · refine wpList_copy_nothing hgd d s 22 22 ho 5 Tryd.underlying22 size5 _ ad (64 - i) dCap Z.length cap hd hs h0 ?_
    have e : Z.take (64 - i) = [] := List.eq_nil_of_length_eq_zero (by rw [List.length_take, Nat.min_comm]; exact h0)
    have := h w (by rw [e]; exact hh) (But.refl _ _)
    rw [h0] at this
    exact this
  · rcases h4 with h4 | ⟨hp, b, off, rfl, hlc, hm, hc, hz⟩
    · omega
    · have hlen : ((Z.take (64 - i)).map (Value.int .u8)).length = min Z.length (64 - i) := by rw [List.length_map, List.length_take, Nat.min_comm]
      have hrun := run_copy_cells (P := Tryd.prog) w 22 22 o.type 5 G (8 + i) (64 - i) dCap ⟨b, off, none⟩ Z.length cap ((Z.take (64 - i)).map (Value.int .u8)) Tryd.underlying22 size5 hlen
        (fun j v hv => by
          have hj := (List.getElem?_eq_some_iff.1 hv).1
          rw [hlen] at hj
          rw [Addr.add_lit, hc j (by omega)]
          rw [List.getElem?_map, List.getElem?_take, if_pos (by omega), List.getElem?_eq_getElem (show j < Z.length by omega)] at hv
          simp only [Option.map_some, Option.some.injEq] at hv
          rw [← hv]
          simp [List.getD, List.getElem?_eq_getElem (show j < Z.length by omega)])
        (fun j hj => by
          rw [hlen] at hj
          have := hh.rest (i + j) (by omega)
          rw [show 8 + i + j = 8 + (i + j) by omega, this]; rfl)
        (fun j _ => hh.frozen _)
        (fun v hv => ints_one _ v hv)
      rw [hlen] at hrun
      have hF := h _ (Hs.setBytes (Z.take (64 - i)) i w R hh (by rw [List.length_take]; omega)) (But.cells G _ _ w)
      clear h hlen h0
      generalize (Z.take (64 - i)).map (Value.int .u8) = C at *
      generalize min Z.length (64 - i) = k at *
      refine wpList_plain hgd fun K hK => ?_
      unfold Oper.wp
      simp [execOp, ho, resolve, invoke, builtin, hd, hs, hrun, Result.andThen]
      exact hK _ _ hF

/-- A hasher that has been written l. -/
def HsOf (w : World) (g : Nat) (l : List Int) : Prop := ∃ R, Hs w g (Pl.words (Pl.absorb l)) R l.length ∧ Pl.Byt R ∧ ∀ i, i < l.length % 64 → R.getD i 0 = l.getD (64 * (l.length / 64) + i) 0
theorem HsOf.kept {w w' : World} {g : Nat} {l : List Int} (h : HsOf w g l) (hb : Below w.heap.size w w') : HsOf w' g l := by
  obtain ⟨R, h1, h2⟩ := h
  exact ⟨R, h1.kept hb, h2⟩
theorem HsOf.but {w w' : World} {f g : Nat} {l : List Int} (h : HsOf w g l) (hb : But f w w') (hn : g ≠ f) : HsOf w' g l := by
  obtain ⟨R, h1, h2⟩ := h
  exact ⟨R, h1.but hb hn, h2⟩
theorem HsOf.lt {w : World} {g : Nat} {l : List Int} (h : HsOf w g l) : g < w.heap.size := by
  obtain ⟨R, h1, h2⟩ := h
  exact h1.lt
theorem byt_over {R zs : List Int} {i : Nat} (hR : Pl.Byt R) (hz : Pl.Byt zs) (hl : i + zs.length ≤ R.length) : Pl.Byt (over R i zs) := by
  intro k
  rw [over_get _ _ _ _ hl]
  split
  · exact hz _
  · exact hR _
theorem eq_of_getD (A B : List Int) (hl : A.length = B.length) (h : ∀ i, i < A.length → A.getD i 0 = B.getD i 0) : A = B := by
  apply List.ext_getElem hl
  intro i h1 h2
  have := h i h1
  simpa [List.getD, List.getElem?_eq_getElem h1, List.getElem?_eq_getElem h2] using this
theorem getD_append_left (l m : List Int) (i : Nat) (h : i < l.length) : (l ++ m).getD i 0 = l.getD i 0 := by simp [List.getD, List.getElem?_append_left h]
theorem getD_append_right (l m : List Int) (i : Nat) (h : l.length ≤ i) : (l ++ m).getD i 0 = m.getD (i - l.length) 0 := by simp [List.getD, List.getElem?_append_right h]
theorem getD_take (l : List Int) (n i : Nat) (h : i < n) : (l.take n).getD i 0 = l.getD i 0 := by simp [List.getD, h]
theorem getD_drop (l : List Int) (n i : Nat) : (l.drop n).getD i 0 = l.getD (n + i) 0 := by simp [List.getD, List.getElem?_drop]

/-- The bytes held and what fills them up are the next block. -/
theorem block_full {l xs R : List Int} (hR : R.length = 64) (ht : ∀ i, i < l.length % 64 → R.getD i 0 = l.getD (64 * (l.length / 64) + i) 0) (hm : 64 - l.length % 64 ≤ xs.length) :
    over R (l.length % 64) (xs.take (64 - l.length % 64)) = ((l ++ xs).drop (64 * (l.length / 64))).take 64 := by
  have h64 : l.length % 64 < 64 := Nat.mod_lt _ (by omega)
  have hl : (xs.take (64 - l.length % 64)).length = 64 - l.length % 64 := by rw [List.length_take]; omega
  have hL : 64 * (l.length / 64) + l.length % 64 = l.length := Nat.div_add_mod ..
  apply eq_of_getD
  · rw [over_len, hR, List.length_take, List.length_drop, List.length_append]; omega
  · intro i hi
    rw [over_len, hR] at hi
    rw [over_get _ _ _ _ (by rw [hl, hR]; omega), hl, getD_take _ _ _ hi, getD_drop]
    split
    · rw [getD_take _ _ _ (by omega), getD_append_right _ _ _ (by omega)]
      congr 1
      omega
    · rw [ht i (by omega), getD_append_left _ _ _ (by omega)]
/-- Less than what fills the bytes up. -/
theorem held_more {l xs R : List Int} (hR : R.length = 64) (ht : ∀ i, i < l.length % 64 → R.getD i 0 = l.getD (64 * (l.length / 64) + i) 0) (hm : l.length % 64 + xs.length < 64) (i : Nat) (hi : i < (l ++ xs).length % 64) :
    (over R (l.length % 64) (xs.take (64 - l.length % 64))).getD i 0 = (l ++ xs).getD (64 * ((l ++ xs).length / 64) + i) 0 := by
  have hL : 64 * (l.length / 64) + l.length % 64 = l.length := Nat.div_add_mod ..
  rw [List.length_append] at hi ⊢
  have e1 : (l.length + xs.length) / 64 = l.length / 64 := by omega
  have e2 : (l.length + xs.length) % 64 = l.length % 64 + xs.length := by omega
  rw [e2] at hi
  rw [e1, List.take_of_length_le (by omega), over_get _ _ _ _ (by rw [hR]; omega)]
  split
  · rw [getD_append_right _ _ _ (by omega)]
    congr 1
    omega
  · rw [ht i (by omega), getD_append_left _ _ _ (by omega)]
theorem absorb_held {l xs : List Int} (hm : l.length % 64 + xs.length < 64) : Pl.absorb (l ++ xs) = Pl.absorb l := by
  have hL : 64 * (l.length / 64) + l.length % 64 = l.length := Nat.div_add_mod ..
  rw [Pl.absorb_eq, Pl.absorb_eq, List.length_append, show (l.length + xs.length) / 64 = l.length / 64 by omega]
  exact Pl.upto_append l xs _ (by omega)
theorem sl_rest {w : World} {G : Nat} {S : List Nat} {R : List Int} {n : Nat} (h : Hs w G S R n) (hb : Pl.Byt R) : Sl w (.slice (some ⟨G, 8, none⟩) 64 64) R :=
  ⟨some ⟨G, 8, none⟩, 64, by rw [h.2.2], by rw [h.2.2]; omega, by unfold maxLen; omega, (fun e => by cases e), .inr ⟨by rw [h.2.2]; omega, G, 8, rfl, by rw [h.2.2]; omega, by unfold maxLen; omega, fun i hi => h.rest i (by rw [h.2.2] at hi; exact hi), hb⟩⟩
end Go.Proofs.YtgnampbbkaolmaaDoor.Sh
namespace Go.Proofs.YtgnampbbkaolmaaDoor.Sh
open Go.RowKit
set_option maxRecDepth 100000

/-- A slice that does not lie in block g. -/
def Apart (g : Nat) (v : Value) : Prop := ∀ a l c, v = .slice (some a) l c → 0 < l → a.block ≠ g

theorem upto_next (T : List Int) (k : Nat) : Pl.comp (Pl.upto T k) ((T.drop (64 * k)).take 64) = Pl.upto T (k + 1) := (Pl.upto_succ T k).symm
theorem ok_upto (T : List Int) (k : Nat) : Pl.ok (Pl.upto T k) := Pl.ok_blocks k _ _ Pl.ok_init

theorem hsof_end {w : World} {G : Nat} {T R : List Int} {k : Nat} (hk : k = T.length / 64) (hh : Hs w G (Pl.words (Pl.upto T k)) (over R 0 ((T.drop (64 * k)).take 64)) T.length) (hb : Pl.Byt R) (hR : R.length = 64) (hT : Pl.Byt (T.drop (64 * k))) : HsOf w G T := by
  subst hk
  have hl : (T.drop (64 * (T.length / 64))).length = T.length % 64 := by rw [List.length_drop]; omega
  have h64 : T.length % 64 < 64 := Nat.mod_lt _ (by omega)
  rw [List.take_of_length_le (by omega)] at hh
  refine ⟨_, hh, byt_over hb hT (by omega), fun i hi => ?_⟩
  rw [over_get _ _ _ _ (by omega), if_pos (by omega), getD_drop]
  simp

/-- A slice's length. -/
def lenOf' : Value → Nat
  | .slice _ n _ => n
  | _ => 0

set_option maxHeartbeats 2000000 in
set_option maxRecDepth 100000 in
theorem write_any (G : Nat) (l : List Int) (v : Value) (xs : List Int) (w : World) (ht : Tab w) (hh : HsOf w G l) (sl : Sl w v xs) (ap : Apart G v) (hg : 2 ≤ G) (hbig : l.length + xs.length ≤ 1000000000000000000) :
    Calls Tryd.prog 54 #[.pointer (some ⟨G, 0, none⟩), v] w fun e w' => (∃ u, e = .returned u) ∧ HsOf w' G (l ++ xs) ∧ But G w w' := by
  obtain ⟨R, h1, hbR, htl⟩ := hh
  have hnum := h1.num
  have hfz := h1.frozen 72
  have hL : 64 * (l.length / 64) + l.length % 64 = l.length := Nat.div_add_mod ..
  have hH : l.length % 64 < 64 := Nat.mod_lt _ (by omega)
  have e1 : Int.tmod (l.length : Int) 64 = ((l.length % 64 : Nat) : Int) := by rw [Int.tmod_eq_emod_of_nonneg (by omega)]; omega
  have HW1 : Hid (Hs (w.setCell ⟨G, 72, none⟩ (.int .i64 ((l.length + xs.length : Nat) : Int))) G (Pl.words (Pl.absorb l)) R (l.length + xs.length)) := h1.setNum _
  have BW1 : Hid (But G w (w.setCell ⟨G, 72, none⟩ (.int .i64 ((l.length + xs.length : Nat) : Int)))) := But.set _ _ _ _
  have AP : Hid (Apart G v) := ap
  have SV : Hid (Sl (w.setCell ⟨G, 72, none⟩ (.int .i64 ((l.length + xs.length : Nat) : Int))) v xs) := sl.but BW1.out ap
  have HT : Hid (Tab w) := ht
  have hxb : Pl.Byt xs := sl.bytes
  have HXB : Hid (Pl.Byt xs) := hxb
  have HRB : Hid (Pl.Byt R) := hbR
  have HTL : Hid (∀ i, i < l.length % 64 → R.getD i 0 = l.getD (64 * (l.length / 64) + i) 0) := htl
  have HR : Hid (R.length = 64) := h1.2.2
  obtain ⟨a, cap, rfl, k1, k2, k3, k4⟩ := sl
  have hcm : cap ≤ 9223372036854775807 := by unfold maxLen at k2; omega
  obtain ⟨T, hT⟩ : ∃ T, T = l ++ xs := ⟨_, rfl⟩
  have HTT : Hid (T = l ++ xs) := hT
  have HTE : Hid (l ++ xs = T) := hT.symm
  have HTn : Hid (T.length = l.length + xs.length) := by unfold Hid; rw [hT, List.length_append]
  obtain ⟨K0, hK0⟩ : ∃ K0, K0 = l.length / 64 := ⟨_, rfl⟩
  have HK0 : Hid (K0 = l.length / 64) := hK0
  have HAB : Hid (Pl.absorb l = Pl.upto T K0) := by unfold Hid; rw [Pl.absorb_eq, hT, hK0]; exact (Pl.upto_append l xs _ (by omega)).symm
  have HDR : Hid (l.length % 64 = 0 → T.drop (64 * K0) = xs) := fun h0 => by
    rw [hT, hK0, List.drop_append, List.drop_eq_nil_of_le (by omega)]
    simp [show 64 * (l.length / 64) - l.length = 0 by omega]
  have HDR2 : Hid (∀ t, t = 64 - l.length % 64 → 0 < l.length % 64 → T.drop (64 * (K0 + 1)) = xs.drop t) := fun t e h0 => by
    rw [hT, hK0, e, List.drop_append, List.drop_eq_nil_of_le (by omega)]
    simp only [List.nil_append]
    congr 1
    omega
  obtain ⟨L, hLL⟩ : ∃ L, L = l.length := ⟨_, rfl⟩
  obtain ⟨m, hm⟩ : ∃ m, m = xs.length := ⟨_, rfl⟩
  have HLL : Hid (L = l.length) := hLL
  have HM : Hid (m = xs.length) := hm
  rw [← hLL, ← hm] at HW1 BW1 SV HTn hbig
  rw [← hLL] at hnum e1 hL hH HTL HDR HDR2 HK0
  rw [← hm] at k1 k4 AP ⊢
  obtain ⟨hd, hhd⟩ : ∃ hd, hd = L % 64 := ⟨_, rfl⟩
  have HHD : Hid (hd = L % 64) := hhd
  rw [← hhd] at e1 hL hH HTL HDR HDR2
  rw [HTE.out]
  have QQ : Hid (l ++ xs = T) := HTE.out
  obtain ⟨w1, hw1⟩ : ∃ w1, w1 = w.setCell ⟨G, 72, none⟩ (.int .i64 ((L + m : Nat) : Int)) := ⟨_, rfl⟩
  have hset : w.setCell ⟨G, 72, none⟩ (.int .i64 ((L : Int) + (m : Int))) = w1 := by rw [← Int.natCast_add]; exact hw1.symm
  rw [← hw1] at HW1 BW1 SV
  clear hT hK0 hLL hm hhd hw1 ht hxb hbR htl h1 ap k4
  have hL64 : 64 * K0 + hd = L := by have := HK0.out; have := HHD.out; omega
  clear hL
  obtain ⟨n, hn⟩ : ∃ n, n = L + m := ⟨_, rfl⟩
  rw [← hn] at HW1 HTn
  have HN : Hid (n = L + m) := hn
  clear hn
  by_cases h0 : hd = 0
  · subst h0
    have lt0 : ¬ (0 : Int) < ((0 : Nat) : Int) := by omega
    clear lt0
    go_enter Tryd.func54, Tryd.ntmps54
    go_wp2_with fail
    go_loopw [1] (fun b wr => ∃ k : Nat, 64 * k ≤ n ∧ L ≤ 64 * k ∧ Sl wr b (T.drop (64 * k)) ∧ Hs wr G (Pl.words (Pl.upto T k)) R n ∧ But G w wr ∧ Apart G b) (fun b _ => lenOf' b)
    case atStart => exact ⟨K0, by have := HN.out; omega, by omega, by rw [HDR.out (by trivial)]; exact SV.out, by rw [← HAB.out]; exact HW1.out, BW1.out, AP.out⟩
    case round =>
      obtain ⟨k, hk, hLk, sl, hs, hb, ap⟩ := hrel
      have hdl : (T.drop (64 * k)).length = n - 64 * k := by rw [List.length_drop, HTn.out]
      have HSL : Hid (Sl wr u1 (T.drop (64 * k))) := sl
      have HHS : Hid (Hs wr G (Pl.words (Pl.upto T k)) R n) := hs
      have HBB : Hid (But G w wr) := hb
      have HAP : Hid (Apart G u1) := ap
      have HTB : Hid (Pl.Byt (T.drop (64 * k))) := sl.bytes
      obtain ⟨ad, cp, hv, q1, q2, q3, q4⟩ := sl
      rw [hdl] at hv q1 q4
      have qm : cp ≤ 9223372036854775807 := by unfold maxLen at q2; omega
      clear hs hb ap
      by_cases hlt : 64 ≤ n - 64 * k
      · rcases q4 with q4 | ⟨-, bb, off, rfl, -, -, -, -⟩
        · omega
        subst hv
        have sub : Hid (Sl wr (.slice (some ⟨bb, off, none⟩) 64 cp) ((T.drop (64 * k)).take 64)) := HSL.out.take 64 (by omega)
        have cw := work_any G (Pl.upto T k) R n _ _ wr (HT.out.but HBB.out hg) HHS.out (ok_upto T k) sub.out (by rw [List.length_take, hdl]; omega)
        rw [upto_next] at cw
        have lt1 : (64 : Int) ≤ ((n - 64 * k : Nat) : Int) := by omega
        have lt2 : (64 : Int) ≤ (cp : Int) := by omega
        have lt3 : 64 ≤ cp := by omega
        have DR : Hid (∀ w2, But G wr w2 → Sl w2 (.slice (some ⟨bb, off + 64, none⟩) (n - 64 * k - 64) (cp - 64)) (T.drop (64 * (k + 1)))) := fun w2 b2 => by
          have := (HSL.out.but b2 HAP.out).drop 64 (by omega)
          rw [List.drop_drop] at this
          exact this
        have DA : Hid (Apart G (.slice (some ⟨bb, off + 64, none⟩) (n - 64 * k - 64) (cp - 64))) := fun a' l' c' e' hl' => by
          cases e'
          exact HAP.out ⟨bb, off, none⟩ _ _ rfl (by omega)
        have DZ : Hid (cp = 64 → ∀ w2, Sl w2 (.slice (some ⟨bb, off, none⟩) (n - 64 * k - 64) 0) (T.drop (64 * (k + 1))) ∧ Apart G (.slice (some ⟨bb, off, none⟩) (n - 64 * k - 64) 0)) := fun hc w2 => by
          have e0 : n - 64 * k - 64 = 0 := by omega
          have en : T.drop (64 * (k + 1)) = [] := List.drop_eq_nil_of_le (by rw [HTn.out]; omega)
          rw [e0, en]
          exact ⟨⟨_, _, rfl, by simp, by unfold maxLen; omega, (fun h => by cases h), .inl rfl⟩, fun a' l' c' e' hl' => by cases e'; omega⟩
        obtain ⟨d, hd'⟩ : ∃ d, d = n - 64 * k := ⟨_, rfl⟩
        have HD : Hid (d = n - 64 * k) := hd'
        rw [← hd'] at lt1 DR DA DZ ⊢
        clear hd' hlt
        go_wp2_with fail
        refine cw.mono ?_
        rintro e w2 ⟨⟨r2, rfl⟩, hs2, hb2⟩
        have HS2 : Hid (Hs w2 G (Pl.words (Pl.upto T (k + 1))) R n) := hs2
        have HB2 : Hid (But G wr w2) := hb2
        clear cw hs2 hb2
        by_cases hc : cp = 64
        · have hz := DZ.out hc w2
          have HZ : Hid (Sl w2 (.slice (some ⟨bb, off, none⟩) (d - 64) 0) (T.drop (64 * (k + 1))) ∧ Apart G (.slice (some ⟨bb, off, none⟩) (d - 64) 0)) := hz
          clear hz
          go_wp2
          go_roundw
          case rel => exact ⟨k + 1, by have := HD.out; omega, by omega, HZ.out.1, HS2.out, HBB.out.trans HB2.out, HZ.out.2⟩
          case measure => have := HD.out; simp [lenOf']; omega
        · have hc' : ¬ cp - 64 = 0 := by omega
          go_wp2
          go_roundw
          case rel => exact ⟨k + 1, by have := HD.out; omega, by omega, DR.out _ HB2.out, HS2.out, HBB.out.trans HB2.out, DA.out⟩
          case measure => have := HD.out; simp [lenOf']; omega
      · have hke : k = n / 64 := by omega
        have HKE : Hid (k = T.length / 64) := by unfold Hid; rw [HTn.out]; exact hke
        have lt1 : ¬ (64 : Int) ≤ ((n - 64 * k : Nat) : Int) := by omega
        clear hdl q1 q3 q4 hke
        obtain ⟨d, hd'⟩ : ∃ d, d = n - 64 * k := ⟨_, rfl⟩
        rw [← hd'] at lt1 hv
        subst hv
        clear hd' hlt
        go_wp2_with (refine wpList_copy_hs rfl _ _ rfl G 0 64 (by omega) rfl _ (T.drop (64 * k)) rfl HSL.out (Pl.words (Pl.upto T k)) R n HHS.out (Hid.out ?_))
        unfold Hid
        intro w2 hs2 hb2
        have HS2 : Hid (HsOf w2 G T) := hsof_end HKE.out (by rw [HTn.out]; exact hs2) HRB.out HR.out HTB.out
        have HB2 : Hid (But G w w2) := HBB.out.trans hb2
        clear hs2 hb2
        go_wp2
        refine bodyPost_end (v := .tuple #[]) (by simp [results, Tryd.results54]) rfl ⟨⟨_, rfl⟩, HS2.out, HB2.out⟩
  · have lt0 : (0 : Int) < (hd : Int) := by omega
    have hne : ¬ hd = 64 := by omega
    have hne2 : ¬ 64 = hd := by omega
    have le1 : (hd : Int) ≤ 64 := by omega
    have le2 : hd ≤ 64 := by omega
    by_cases hB : hd + m < 64
    · have mn : min xs.length (64 - hd) = m := by rw [← HM.out]; omega
      have hlt : (hd : Int) + (m : Int) < 64 := by omega
      go_enter Tryd.func54, Tryd.ntmps54
      go_wp2_with (refine wpList_copy_hs rfl _ _ rfl G hd (64 - hd) le2 rfl _ xs rfl SV.out (Pl.words (Pl.absorb l)) R n HW1.out (Hid.out ?_))
      unfold Hid
      intro w2 hs2 hb2
      have HS2 : Hid (HsOf w2 G T) := by
        unfold Hid
        rw [HTT.out]
        have e3 : l.length % 64 = hd := by rw [HHD.out, HLL.out]
        refine ⟨_, ?_, byt_over HRB.out (bytes_take _ _ HXB.out) (by rw [List.length_take, HR.out]; omega), held_more HR.out (by rw [e3, ← HLL.out]; exact HTL.out) (by rw [e3, ← HM.out]; exact hB)⟩
        rw [absorb_held (by rw [e3, ← HM.out]; exact hB), List.length_append, ← HLL.out, ← HM.out, ← HN.out, show L % 64 = hd from HHD.out.symm]
        exact hs2
      have HB2 : Hid (But G w w2) := BW1.out.trans hb2
      clear hs2 hb2 hset
      go_wp2
      refine bodyPost_ret (v := .tuple #[]) (by simp [results, Tryd.results54]) rfl ⟨⟨_, rfl⟩, HS2.out, HB2.out⟩
    · obtain ⟨tk, htk⟩ : ∃ tk, tk = 64 - hd := ⟨_, rfl⟩
      have mn : min xs.length tk = tk := by rw [← HM.out]; omega
      have e3 : l.length % 64 = hd := by rw [HHD.out, HLL.out]
      have HR1 : Hid (over R hd (xs.take tk) = (T.drop (64 * K0)).take 64) := by
        have := block_full (xs := xs) HR.out (by rw [e3, ← HLL.out]; exact HTL.out) (by rw [e3, ← HM.out]; omega)
        rw [e3, ← htk, HTE.out, ← HLL.out, ← HK0.out] at this
        exact this
      have HRL : Hid ((over R hd (xs.take tk)).length = 64) := by unfold Hid; rw [over_len, HR.out]
      have HRB1 : Hid (Pl.Byt (over R hd (xs.take tk))) := byt_over HRB.out (bytes_take _ _ HXB.out) (by rw [List.length_take, HR.out]; omega)
      generalize hR1 : over R hd (xs.take tk) = R1 at *
      obtain ⟨a', cap', e', -, -, -, q4⟩ := SV.out
      rw [← HM.out] at e' q4
      cases e'
      rcases q4 with q4 | ⟨-, bb, off, rfl, -, -, -, -⟩
      · omega
      have hlt : ¬ (hd : Int) + (tk : Int) < 64 := by omega
      have hs64 : (hd : Int) + (tk : Int) = 64 := by omega
      have lt1 : (tk : Int) ≤ (m : Int) := by omega
      have lt2 : (tk : Int) ≤ (cap : Int) := by omega
      have lt3 : tk ≤ cap := by omega
      have lt4 : tk ≤ m := by omega
      have DR : Hid (∀ w2, But G w1 w2 → Sl w2 (.slice (some ⟨bb, off + tk, none⟩) (m - tk) (cap - tk)) (T.drop (64 * (K0 + 1)))) := fun w2 b2 => by
        have := (SV.out.but b2 AP.out).drop tk (by omega)
        rw [HDR2.out tk htk (by omega)]
        exact this
      have DA : Hid (Apart G (.slice (some ⟨bb, off + tk, none⟩) (m - tk) (cap - tk))) := fun a' l' c' e' hl' => by
        cases e'
        exact AP.out ⟨bb, off, none⟩ _ _ rfl (by omega)
      have DZ : Hid (cap = tk → ∀ w2, Sl w2 (.slice (some ⟨bb, off, none⟩) 0 0) (T.drop (64 * (K0 + 1))) ∧ Apart G (.slice (some ⟨bb, off, none⟩) 0 0)) := fun hc w2 => by
        have en : T.drop (64 * (K0 + 1)) = [] := List.drop_eq_nil_of_le (by rw [HTn.out]; have := HN.out; omega)
        rw [en]
        exact ⟨⟨_, _, rfl, by simp, by unfold maxLen; omega, (fun h => by cases h), .inl rfl⟩, fun a' l' c' e' hl' => by cases e'; omega⟩
      have HHR : Hid (hd + tk = 64) := by unfold Hid; omega
      have HTK : Hid (tk = 64 - hd) := htk
      have HMX : Hid (64 - hd = tk) := htk.symm
      have HR1e : Hid (over R hd (xs.take (64 - hd)) = R1) := by unfold Hid; rw [HMX.out]; exact hR1
      have mn2 : min xs.length (64 - hd) = tk := by rw [HMX.out]; exact mn
      clear htk hR1 mn e3
      go_enter Tryd.func54, Tryd.ntmps54
      go_wp2_with (refine wpList_copy_hs rfl _ _ rfl G hd (64 - hd) le2 rfl _ xs rfl SV.out (Pl.words (Pl.absorb l)) R n HW1.out (Hid.out ?_))
      unfold Hid
      intro w2 hs2 hb2
      rw [HR1e.out, HAB.out] at hs2
      have cw := work_any G (Pl.upto T K0) R1 n _ _ w2 (HT.out.but (BW1.out.trans hb2) hg) hs2 (ok_upto T K0) (sl_rest hs2 HRB1.out) HRL.out
      rw [show Pl.comp (Pl.upto T K0) R1 = Pl.upto T (K0 + 1) by rw [HR1.out]; exact upto_next T K0] at cw
      have HB2 : Hid (But G w1 w2) := hb2
      clear hs2 hb2 hset mn2
      go_wp2_with fail
      refine cw.mono ?_
      rintro e w3 ⟨⟨r3, rfl⟩, hs3, hb3⟩
      have HS3 : Hid (Hs w3 G (Pl.words (Pl.upto T (K0 + 1))) R1 n) := hs3
      have HB3 : Hid (But G w1 w3) := HB2.out.trans hb3
      clear cw hs3 hb3 HB2
      by_cases hc : cap = tk
      · have hz := DZ.out hc w3
        have HZ : Hid (Sl w3 (.slice (some ⟨bb, off, none⟩) 0 0) (T.drop (64 * (K0 + 1))) ∧ Apart G (.slice (some ⟨bb, off, none⟩) 0 0)) := hz
        clear hz
        subst hc
        go_wp2_with fail
        go_loopw [1] (fun b wr => ∃ k : Nat, 64 * k ≤ n ∧ L ≤ 64 * k ∧ Sl wr b (T.drop (64 * k)) ∧ Hs wr G (Pl.words (Pl.upto T k)) R1 n ∧ But G w wr ∧ Apart G b) (fun b _ => lenOf' b)
        case atStart => exact ⟨K0 + 1, by have := HN.out; have := HHR.out; omega, by have := HHR.out; omega, HZ.out.1, HS3.out, BW1.out.trans HB3.out, HZ.out.2⟩
        case round =>
          obtain ⟨k, hk, hLk, sl, hs, hb, ap⟩ := hrel
          have hdl : (T.drop (64 * k)).length = n - 64 * k := by rw [List.length_drop, HTn.out]
          have HSL : Hid (Sl wr u1 (T.drop (64 * k))) := sl
          have HHS : Hid (Hs wr G (Pl.words (Pl.upto T k)) R1 n) := hs
          have HBB : Hid (But G w wr) := hb
          have HAP : Hid (Apart G u1) := ap
          have HTB : Hid (Pl.Byt (T.drop (64 * k))) := sl.bytes
          obtain ⟨ad, cp, hv, q1, q2, q3, q4⟩ := sl
          rw [hdl] at hv q1 q4
          have qm : cp ≤ 9223372036854775807 := by unfold maxLen at q2; omega
          clear hs hb ap
          by_cases hlt : 64 ≤ n - 64 * k
          · rcases q4 with q4 | ⟨-, bb, off, rfl, -, -, -, -⟩
            · omega
            subst hv
            have sub : Hid (Sl wr (.slice (some ⟨bb, off, none⟩) 64 cp) ((T.drop (64 * k)).take 64)) := HSL.out.take 64 (by omega)
            have cw := work_any G (Pl.upto T k) R1 n _ _ wr (HT.out.but HBB.out hg) HHS.out (ok_upto T k) sub.out (by rw [List.length_take, hdl]; omega)
            rw [upto_next] at cw
            have lt1 : (64 : Int) ≤ ((n - 64 * k : Nat) : Int) := by omega
            have lt2 : (64 : Int) ≤ (cp : Int) := by omega
            have lt3 : 64 ≤ cp := by omega
            have DR : Hid (∀ w2, But G wr w2 → Sl w2 (.slice (some ⟨bb, off + 64, none⟩) (n - 64 * k - 64) (cp - 64)) (T.drop (64 * (k + 1)))) := fun w2 b2 => by
              have := (HSL.out.but b2 HAP.out).drop 64 (by omega)
              rw [List.drop_drop] at this
              exact this
            have DA : Hid (Apart G (.slice (some ⟨bb, off + 64, none⟩) (n - 64 * k - 64) (cp - 64))) := fun a' l' c' e' hl' => by
              cases e'
              exact HAP.out ⟨bb, off, none⟩ _ _ rfl (by omega)
            have DZ : Hid (cp = 64 → ∀ w2, Sl w2 (.slice (some ⟨bb, off, none⟩) (n - 64 * k - 64) 0) (T.drop (64 * (k + 1))) ∧ Apart G (.slice (some ⟨bb, off, none⟩) (n - 64 * k - 64) 0)) := fun hc w2 => by
              have e0 : n - 64 * k - 64 = 0 := by omega
              have en : T.drop (64 * (k + 1)) = [] := List.drop_eq_nil_of_le (by rw [HTn.out]; omega)
              rw [e0, en]
              exact ⟨⟨_, _, rfl, by simp, by unfold maxLen; omega, (fun h => by cases h), .inl rfl⟩, fun a' l' c' e' hl' => by cases e'; omega⟩
            obtain ⟨d, hd'⟩ : ∃ d, d = n - 64 * k := ⟨_, rfl⟩
            have HD : Hid (d = n - 64 * k) := hd'
            rw [← hd'] at lt1 DR DA DZ ⊢
            clear hd' hlt
            go_wp2_with fail
            refine cw.mono ?_
            rintro e w2 ⟨⟨r2, rfl⟩, hs2, hb2⟩
            have HS2 : Hid (Hs w2 G (Pl.words (Pl.upto T (k + 1))) R1 n) := hs2
            have HB2 : Hid (But G wr w2) := hb2
            clear cw hs2 hb2
            by_cases hc : cp = 64
            · have hz := DZ.out hc w2
              have HZ : Hid (Sl w2 (.slice (some ⟨bb, off, none⟩) (d - 64) 0) (T.drop (64 * (k + 1))) ∧ Apart G (.slice (some ⟨bb, off, none⟩) (d - 64) 0)) := hz
              clear hz
              go_wp2
              go_roundw
              case rel => exact ⟨k + 1, by have := HD.out; omega, by omega, HZ.out.1, HS2.out, HBB.out.trans HB2.out, HZ.out.2⟩
              case measure => have := HD.out; simp [lenOf']; omega
            · have hc' : ¬ cp - 64 = 0 := by omega
              go_wp2
              go_roundw
              case rel => exact ⟨k + 1, by have := HD.out; omega, by omega, DR.out _ HB2.out, HS2.out, HBB.out.trans HB2.out, DA.out⟩
              case measure => have := HD.out; simp [lenOf']; omega
          · have hke : k = n / 64 := by omega
            have HKE : Hid (k = T.length / 64) := by unfold Hid; rw [HTn.out]; exact hke
            have lt1 : ¬ (64 : Int) ≤ ((n - 64 * k : Nat) : Int) := by omega
            clear hdl q1 q3 q4 hke
            obtain ⟨d, hd'⟩ : ∃ d, d = n - 64 * k := ⟨_, rfl⟩
            rw [← hd'] at lt1 hv
            subst hv
            clear hd' hlt
            go_wp2_with (refine wpList_copy_hs rfl _ _ rfl G 0 64 (by omega) rfl _ (T.drop (64 * k)) rfl HSL.out (Pl.words (Pl.upto T k)) R1 n HHS.out (Hid.out ?_))
            unfold Hid
            intro w2 hs2 hb2
            have HS2 : Hid (HsOf w2 G T) := hsof_end HKE.out (by rw [HTn.out]; exact hs2) HRB1.out HRL.out HTB.out
            have HB2 : Hid (But G w w2) := HBB.out.trans hb2
            clear hs2 hb2
            go_wp2
            refine bodyPost_end (v := .tuple #[]) (by simp [results, Tryd.results54]) rfl ⟨⟨_, rfl⟩, HS2.out, HB2.out⟩
      · have hc' : ¬ tk = cap := by omega
        have hc2 : ¬ cap - tk = 0 := by omega
        go_wp2_with fail
        go_loopw [1] (fun b wr => ∃ k : Nat, 64 * k ≤ n ∧ L ≤ 64 * k ∧ Sl wr b (T.drop (64 * k)) ∧ Hs wr G (Pl.words (Pl.upto T k)) R1 n ∧ But G w wr ∧ Apart G b) (fun b _ => lenOf' b)
        case atStart => exact ⟨K0 + 1, by have := HN.out; have := HHR.out; omega, by have := HHR.out; omega, DR.out _ HB3.out, HS3.out, BW1.out.trans HB3.out, DA.out⟩
        case round =>
          obtain ⟨k, hk, hLk, sl, hs, hb, ap⟩ := hrel
          have hdl : (T.drop (64 * k)).length = n - 64 * k := by rw [List.length_drop, HTn.out]
          have HSL : Hid (Sl wr u1 (T.drop (64 * k))) := sl
          have HHS : Hid (Hs wr G (Pl.words (Pl.upto T k)) R1 n) := hs
          have HBB : Hid (But G w wr) := hb
          have HAP : Hid (Apart G u1) := ap
          have HTB : Hid (Pl.Byt (T.drop (64 * k))) := sl.bytes
          obtain ⟨ad, cp, hv, q1, q2, q3, q4⟩ := sl
          rw [hdl] at hv q1 q4
          have qm : cp ≤ 9223372036854775807 := by unfold maxLen at q2; omega
          clear hs hb ap
          by_cases hlt : 64 ≤ n - 64 * k
          · rcases q4 with q4 | ⟨-, bb, off, rfl, -, -, -, -⟩
            · omega
            subst hv
            have sub : Hid (Sl wr (.slice (some ⟨bb, off, none⟩) 64 cp) ((T.drop (64 * k)).take 64)) := HSL.out.take 64 (by omega)
            have cw := work_any G (Pl.upto T k) R1 n _ _ wr (HT.out.but HBB.out hg) HHS.out (ok_upto T k) sub.out (by rw [List.length_take, hdl]; omega)
            rw [upto_next] at cw
            have lt1 : (64 : Int) ≤ ((n - 64 * k : Nat) : Int) := by omega
            have lt2 : (64 : Int) ≤ (cp : Int) := by omega
            have lt3 : 64 ≤ cp := by omega
            have DR : Hid (∀ w2, But G wr w2 → Sl w2 (.slice (some ⟨bb, off + 64, none⟩) (n - 64 * k - 64) (cp - 64)) (T.drop (64 * (k + 1)))) := fun w2 b2 => by
              have := (HSL.out.but b2 HAP.out).drop 64 (by omega)
              rw [List.drop_drop] at this
              exact this
            have DA : Hid (Apart G (.slice (some ⟨bb, off + 64, none⟩) (n - 64 * k - 64) (cp - 64))) := fun a' l' c' e' hl' => by
              cases e'
              exact HAP.out ⟨bb, off, none⟩ _ _ rfl (by omega)
            have DZ : Hid (cp = 64 → ∀ w2, Sl w2 (.slice (some ⟨bb, off, none⟩) (n - 64 * k - 64) 0) (T.drop (64 * (k + 1))) ∧ Apart G (.slice (some ⟨bb, off, none⟩) (n - 64 * k - 64) 0)) := fun hc w2 => by
              have e0 : n - 64 * k - 64 = 0 := by omega
              have en : T.drop (64 * (k + 1)) = [] := List.drop_eq_nil_of_le (by rw [HTn.out]; omega)
              rw [e0, en]
              exact ⟨⟨_, _, rfl, by simp, by unfold maxLen; omega, (fun h => by cases h), .inl rfl⟩, fun a' l' c' e' hl' => by cases e'; omega⟩
            obtain ⟨d, hd'⟩ : ∃ d, d = n - 64 * k := ⟨_, rfl⟩
            have HD : Hid (d = n - 64 * k) := hd'
            rw [← hd'] at lt1 DR DA DZ ⊢
            clear hd' hlt
            go_wp2_with fail
            refine cw.mono ?_
            rintro e w2 ⟨⟨r2, rfl⟩, hs2, hb2⟩
            have HS2 : Hid (Hs w2 G (Pl.words (Pl.upto T (k + 1))) R1 n) := hs2
            have HB2 : Hid (But G wr w2) := hb2
            clear cw hs2 hb2
            by_cases hc : cp = 64
            · have hz := DZ.out hc w2
              have HZ : Hid (Sl w2 (.slice (some ⟨bb, off, none⟩) (d - 64) 0) (T.drop (64 * (k + 1))) ∧ Apart G (.slice (some ⟨bb, off, none⟩) (d - 64) 0)) := hz
              clear hz
              go_wp2
              go_roundw
              case rel => exact ⟨k + 1, by have := HD.out; omega, by omega, HZ.out.1, HS2.out, HBB.out.trans HB2.out, HZ.out.2⟩
              case measure => have := HD.out; simp [lenOf']; omega
            · have hc' : ¬ cp - 64 = 0 := by omega
              go_wp2
              go_roundw
              case rel => exact ⟨k + 1, by have := HD.out; omega, by omega, DR.out _ HB2.out, HS2.out, HBB.out.trans HB2.out, DA.out⟩
              case measure => have := HD.out; simp [lenOf']; omega
          · have hke : k = n / 64 := by omega
            have HKE : Hid (k = T.length / 64) := by unfold Hid; rw [HTn.out]; exact hke
            have lt1 : ¬ (64 : Int) ≤ ((n - 64 * k : Nat) : Int) := by omega
            clear hdl q1 q3 q4 hke
            obtain ⟨d, hd'⟩ : ∃ d, d = n - 64 * k := ⟨_, rfl⟩
            rw [← hd'] at lt1 hv
            subst hv
            clear hd' hlt
            go_wp2_with (refine wpList_copy_hs rfl _ _ rfl G 0 64 (by omega) rfl _ (T.drop (64 * k)) rfl HSL.out (Pl.words (Pl.upto T k)) R1 n HHS.out (Hid.out ?_))
            unfold Hid
            intro w2 hs2 hb2
            have HS2 : Hid (HsOf w2 G T) := hsof_end HKE.out (by rw [HTn.out]; exact hs2) HRB1.out HRL.out HTB.out
            have HB2 : Hid (But G w w2) := HBB.out.trans hb2
            clear hs2 hb2
            go_wp2
            refine bodyPost_end (v := .tuple #[]) (by simp [results, Tryd.results54]) rfl ⟨⟨_, rfl⟩, HS2.out, HB2.out⟩
end Go.Proofs.YtgnampbbkaolmaaDoor.Sh
namespace Go.Proofs.YtgnampbbkaolmaaDoor.Sh
open Go.RowKit
set_option maxRecDepth 100000

theorem pad_len (n : Nat) : (Pl.pad n).length = Pl.zers n + 9 := by rw [← ppad_all, ppad_len n 8 (by omega)]
theorem zers_lt (n : Nat) : Pl.zers n < 64 := Nat.mod_lt _ (by omega)
theorem sha_len (l : List Int) : (Pl.sha l).length = 32 := digest_len _

set_option maxHeartbeats 2000000 in
set_option maxRecDepth 100000 in
theorem sum_any (G : Nat) (l : List Int) (w : World) (ht : Tab w) (hh : HsOf w G l) (hbig : l.length ≤ 100000000000000000) :
    Calls Tryd.prog 55 #[.pointer (some ⟨G, 0, none⟩)] w fun e w' => e = .returned (.agg (u8s (Pl.sha l))) ∧ Below w.heap.size w w' := by
  obtain ⟨wa, hwa⟩ : ∃ wa, wa = w.alloc (.cells (u8s (List.replicate 32 0)) 59) := ⟨_, rfl⟩
  have ba : Below w.heap.size w wa := by rw [hwa]; exact (Below.refl _ _).alloc (Nat.le_refl _) _
  have g0 : wa.heap[w.heap.size]? = some (.cells (u8s (List.replicate 32 0)) 59 (0, 0)) := by rw [hwa]; exact heap_alloc_new _ _
  have ha := hh.kept ba
  have hta := ht.below ba ht.size
  obtain ⟨R, r1, r2, r3⟩ := ha
  have cf := fork_any G _ R _ wa r1
  have hlt : w.heap.size < wa.heap.size := World.block_lt_of_cell? _ _ ((cell_of_row _ _ 0 _ _ _ g0).trans (u8s_get _ 0 (by simp)))
  have hF : 2 ≤ wa.heap.size := hta.size
  obtain ⟨F, hF'⟩ : ∃ F, F = wa.heap.size := ⟨_, rfl⟩
  have HWA : Hid (w.alloc (.cells (u8s (List.replicate 32 0)) 59) = wa) := hwa.symm
  have hwz : w.alloc (.cells #[.int .u8 0, .int .u8 0, .int .u8 0, .int .u8 0, .int .u8 0, .int .u8 0, .int .u8 0, .int .u8 0, .int .u8 0, .int .u8 0, .int .u8 0, .int .u8 0, .int .u8 0, .int .u8 0, .int .u8 0, .int .u8 0, .int .u8 0, .int .u8 0, .int .u8 0, .int .u8 0, .int .u8 0, .int .u8 0, .int .u8 0, .int .u8 0, .int .u8 0, .int .u8 0, .int .u8 0, .int .u8 0, .int .u8 0, .int .u8 0, .int .u8 0, .int .u8 0] 59) = wa := hwa.symm
  rw [← hF'] at cf hlt hF
  have HF : Hid (F = wa.heap.size) := hF'
  have HBA : Hid (Below w.heap.size w wa) := ba
  have HG0 : Hid (wa.heap[w.heap.size]? = some (.cells (u8s (List.replicate 32 0)) 59 (0, 0))) := g0
  have HR : Hid (Pl.Byt R ∧ ∀ i, i < l.length % 64 → R.getD i 0 = l.getD (64 * (l.length / 64) + i) 0) := ⟨r2, r3⟩
  have HH : Hid (Hs wa G (Pl.words (Pl.absorb l)) R l.length) := r1
  have HT : Hid (Tab wa) := hta
  have HS : Hid (Pl.sha l = Pl.digest (Pl.absorb (l ++ Pl.pad l.length))) := rfl
  have HI : Hid ((Tryd.prog.info? 59).map (·.size) = some (u8s (Pl.sha l)).size) := by unfold Hid; rw [u8s_size, sha_len]; exact size26
  have HO : Hid ((u8s (List.replicate 32 0)).size = (u8s (Pl.sha l)).size) := by unfold Hid; rw [u8s_size, u8s_size, sha_len]; simp
  obtain ⟨n, hn⟩ : ∃ n, n = l.length := ⟨_, rfl⟩
  have HN : Hid (n = l.length) := hn
  clear hn hh ht ba g0 hta r1 r2 r3 hF' hwa
  go_enter Tryd.func55, Tryd.ntmps55
  go_wp2_with fail
  refine cf.mono ?_
  rintro e w1 ⟨rfl, f1, b1⟩
  have tb1 := HT.out.below b1 hF
  have hb1 : Below wa.heap.size wa w1 := by rw [← HF.out]; exact b1
  have k72 := (HH.out.kept hb1).num
  have HF1 : Hid (HsOf w1 F l) := ⟨R, f1, HR.out⟩
  have cp := padding_any l.length w1 (by omega)
  have hFl := f1.lt
  have HTB : Hid (Tab w1) := tb1
  have HB1 : Hid (Below F wa w1) := b1
  rw [← HN.out] at k72 cp
  clear cf f1 b1 tb1 hb1
  go_wp2_with fail
  refine cp.mono ?_
  rintro e w2 ⟨rfl, sl2, b2⟩
  rw [HN.out] at sl2
  have cw := write_any F l _ _ w2 (HTB.out.below b2 HTB.out.size) (HF1.out.kept b2) sl2 (fun a' l' c' e' _ => by cases e'; show w1.heap.size ≠ F; omega) hF (by have := zers_lt l.length; rw [pad_len]; omega)
  rw [← HN.out] at cw
  have HB2 : Hid (Below w1.heap.size w1 w2) := b2
  clear cp sl2 b2
  go_wp2_with fail
  refine cw.mono ?_
  rintro e w3 ⟨⟨u3, rfl⟩, h3, b3⟩
  rw [HN.out] at h3
  obtain ⟨R3, h3, -, -⟩ := h3
  have ct := told_any F _ R3 _ w3 h3
  rw [← HS.out] at ct
  have HB3 : Hid (But F w2 w3) := b3
  clear cw h3 b3
  go_wp2_with fail
  refine ct.mono ?_
  rintro e w4 ⟨rfl, b4⟩
  have z1 : F ≤ w1.heap.size := by omega
  have z2 := HB2.out.size
  have hB4 : Below F wa w4 := (HB1.out.trans (HB2.out.mono z1)).trans ((HB3.out.below (Nat.le_refl _) (by omega)).trans (b4.mono (by have := HB3.out.size; omega)))
  have G4 : Hid (w4.heap[w.heap.size]? = some (.cells (u8s (List.replicate 32 0)) 59 (0, 0))) := (hB4.block _ hlt).trans HG0.out
  have B4 : Hid (Below w.heap.size w w4) := HBA.out.trans (hB4.mono (by omega))
  clear ct b4 hB4
  go_wp2_with (refine wpList_store_row rfl 59 _ _ rfl w.heap.size (u8s (Pl.sha l)) rfl rfl 59 _ G4.out HI.out HO.out (u8s_one _) ?_)
  refine bodyPost_ret (v := .agg (u8s (Pl.sha l))) (results_cell_row rfl _ _ w.heap.size 59 (u8s (Pl.sha l)) (0, 0) _ rfl (setRow_heap _ _ _ _ _ _ G4.out) Tryd.underlying59 rfl HI.out) rfl ⟨rfl, below_setRow B4.out (Nat.le_refl _) _⟩

theorem built26 : Tryd.prog.built 59 [] = some (u8s (List.replicate 32 0)) := by kernel_rfl

set_option maxHeartbeats 2000000 in
set_option maxRecDepth 100000 in
theorem sum_nil (w : World) : Calls Tryd.prog 55 #[.pointer none] w fun e w' => e = .returned (.agg (u8s (List.replicate 32 0))) ∧ Below w.heap.size w w' := by
  have HB : Hid (Below w.heap.size w (w.alloc (.cells (u8s (List.replicate 32 0)) 59))) := (Below.refl _ _).alloc (Nat.le_refl _) _
  go_enter Tryd.func55, Tryd.ntmps55
  go_wp2_with (refine wpList_store_row rfl 59 _ _ rfl w.heap.size (u8s (List.replicate 32 0)) rfl rfl 59 _ (heap_alloc_new _ _) size26 rfl (u8s_one _) ?_)
  refine bodyPost_ret (v := .agg (u8s (List.replicate 32 0))) (results_cell_row rfl _ _ w.heap.size 59 (u8s (List.replicate 32 0)) (0, 0) _ rfl (setRow_heap _ _ _ _ _ _ (heap_alloc_new _ _)) Tryd.underlying59 rfl size26) rfl ⟨rfl, below_setRow ((Below.refl _ _).alloc (Nat.le_refl _) _) (Nat.le_refl _) _⟩
end Go.Proofs.YtgnampbbkaolmaaDoor.Sh
namespace Go.Proofs.YtgnampbbkaolmaaDoor.Sh
open Go.RowKit
set_option maxRecDepth 100000

/-- A slice of slices of bytes, as Of reads it. -/
def Parts (w : World) (p : Option Addr) (ZZ : List (List Int)) : Prop :=
  ZZ.length ≤ 9223372036854775807 ∧ (ZZ = [] ∨ ∃ b off, p = some ⟨b, off, none⟩ ∧ ∀ i, i < ZZ.length → ∃ v, w.cell? ⟨b, off + i, none⟩ = some v ∧ Sl w v (ZZ.getD i []))
theorem flat_succ (ZZ : List (List Int)) (j : Nat) (h : j < ZZ.length) : (ZZ.take (j + 1)).flatten = (ZZ.take j).flatten ++ ZZ.getD j [] := by
  rw [List.take_add_one, List.getElem?_eq_getElem h, List.flatten_append]
  simp [List.getD, List.getElem?_eq_getElem h]
theorem flat_le (ZZ : List (List Int)) (j : Nat) : (ZZ.take j).flatten.length ≤ ZZ.flatten.length := by
  have h : ZZ.flatten = (ZZ.take j).flatten ++ (ZZ.drop j).flatten := by rw [← List.flatten_append, List.take_append_drop]
  rw [h, List.length_append]; omega
theorem hsof_nil {w : World} {G : Nat} (h : Hs w G (Pl.words Pl.init) (List.replicate 64 0) 0) : HsOf w G [] := by
  exact ⟨_, h, byteList (List.replicate 64 0) (by decide), fun i hi => by simp at hi⟩
theorem _root_.Go.Proofs.YtgnampbbkaolmaaDoor.Sl.apart {w : World} {v : Value} {xs : List Int} {g : Nat} (h : Sl w v xs) (hg : w.heap.size ≤ g) : Apart g v := by
  obtain ⟨a, cap, rfl, h1, h2, h3, h4⟩ := h
  rintro a' l' c' e hl
  cases e
  rcases h4 with h4 | ⟨_, b, off, e, _, _, hc, _⟩
  · omega
  · cases e
    have := World.block_lt_of_cell? _ _ (hc 0 hl)
    show b ≠ g
    have h5 : b < w.heap.size := this
    omega

set_option maxHeartbeats 2000000 in
set_option maxRecDepth 100000 in
theorem of_any (p : Option Addr) (kc : Nat) (ZZ : List (List Int)) (w : World) (ht : Tab w) (hP : Parts w p ZZ) (hbig : ZZ.flatten.length ≤ 100000000000000000) :
    Calls Tryd.prog 27 #[.slice p ZZ.length kc] w fun e w' => e = .returned (.agg (u8s (Pl.sha ZZ.flatten))) ∧ Below w.heap.size w w' := by
  obtain ⟨wa, hwa⟩ : ∃ wa, wa = w.alloc (.cells (u8s (List.replicate 32 0)) 59) := ⟨_, rfl⟩
  have ba : Below w.heap.size w wa := by rw [hwa]; exact (Below.refl _ _).alloc (Nat.le_refl _) _
  have g0 : wa.heap[w.heap.size]? = some (.cells (u8s (List.replicate 32 0)) 59 (0, 0)) := by rw [hwa]; exact heap_alloc_new _ _
  have hta := ht.below ba ht.size
  have cn := new_any wa hta
  have hlt : w.heap.size < wa.heap.size := World.block_lt_of_cell? _ _ ((cell_of_row _ _ 0 _ _ _ g0).trans (u8s_get _ 0 (by simp)))
  have hF : 2 ≤ wa.heap.size := hta.size
  obtain ⟨F, hF'⟩ : ∃ F, F = wa.heap.size := ⟨_, rfl⟩
  have hwz : w.alloc (.cells #[.int .u8 0, .int .u8 0, .int .u8 0, .int .u8 0, .int .u8 0, .int .u8 0, .int .u8 0, .int .u8 0, .int .u8 0, .int .u8 0, .int .u8 0, .int .u8 0, .int .u8 0, .int .u8 0, .int .u8 0, .int .u8 0, .int .u8 0, .int .u8 0, .int .u8 0, .int .u8 0, .int .u8 0, .int .u8 0, .int .u8 0, .int .u8 0, .int .u8 0, .int .u8 0, .int .u8 0, .int .u8 0, .int .u8 0, .int .u8 0, .int .u8 0, .int .u8 0] 59) = wa := hwa.symm
  rw [← hF'] at cn hlt hF
  have HF : Hid (F = wa.heap.size) := hF'
  have HBA : Hid (Below w.heap.size w wa) := ba
  have HG0 : Hid (wa.heap[w.heap.size]? = some (.cells (u8s (List.replicate 32 0)) 59 (0, 0))) := g0
  have HT : Hid (Tab wa) := hta
  have HI : Hid ((Tryd.prog.info? 59).map (·.size) = some (u8s (Pl.sha ZZ.flatten)).size) := by unfold Hid; rw [u8s_size, sha_len]; exact size26
  have HO : Hid ((u8s (List.replicate 32 0)).size = (u8s (Pl.sha ZZ.flatten)).size) := by unfold Hid; rw [u8s_size, u8s_size, sha_len]; simp
  have HB0 : Hid (∀ j, (ZZ.take j).flatten.length ≤ 100000000000000000) := fun j => Nat.le_trans (flat_le ZZ j) hbig
  have hL := hP.1
  have HP : Hid (ZZ = [] ∨ ∃ b off, p = some ⟨b, off, none⟩ ∧ ∀ i, i < ZZ.length → ∃ v, wa.cell? ⟨b, off + i, none⟩ = some v ∧ Sl wa v (ZZ.getD i []) ∧ Apart F v) := by
    rcases hP.2 with h | ⟨b, off, e, h⟩
    · exact .inl h
    · refine .inr ⟨b, off, e, fun i hi => ?_⟩
      obtain ⟨v, h1, h2⟩ := h i hi
      exact ⟨v, (ba.cell (World.block_lt_of_cell? _ _ h1)).trans h1, h2.kept ba, h2.apart (by omega)⟩
  obtain ⟨k, hk⟩ : ∃ k, k = ZZ.length := ⟨_, rfl⟩
  have HK : Hid (k = ZZ.length) := hk
  rw [← hk] at hL ⊢
  clear hk ht ba g0 hta hF' hwa hP hbig
  go_enter Tryd.func27, Tryd.ntmps27
  go_wp2_with fail
  refine cn.mono ?_
  rintro e w1 ⟨rfl, n1, b1⟩
  have hb1 : Below wa.heap.size wa w1 := by rw [← HF.out]; exact b1
  have HW1 : Hid (HsOf w1 F []) := hsof_nil n1
  have HB1 : Hid (Below F wa w1) := b1
  have hF1 : F < w1.heap.size := n1.lt
  clear cn n1 b1 hb1
  go_wp2_with fail
  go_loopw [9] (fun q wr => ∃ j : Nat, j ≤ k ∧ q = .int .i64 j ∧ HsOf wr F (ZZ.take j).flatten ∧ Below F wa wr) (fun q _ => k - (intOf q).toNat)
  case atStart => exact ⟨0, by omega, rfl, HW1.out, HB1.out⟩
  case round =>
    clear HW1 HB1
    obtain ⟨j, hj, rfl, hs, bel⟩ := hrel
    have HH : Hid (HsOf wr F (ZZ.take j).flatten) := hs
    have BE : Hid (Below F wa wr) := bel
    by_cases hltj : j < k
    · have lt2 : (j : Int) < (k : Int) := by omega
      rcases HP.out with h0 | ⟨b, off, rfl, hp⟩
      · rw [h0] at HK; have := HK.out; simp at this; omega
      · obtain ⟨v, c1, c2, c3⟩ := hp j (by rw [← HK.out]; exact hltj)
        have hbF : b < F := by have := World.block_lt_of_cell? _ _ c1; have := HF.out; simp at *; omega
        have kc1 := (bel.cell (p := ⟨b, off + j, none⟩) hbF).trans c1
        have belw : Below wa.heap.size wa wr := by rw [← HF.out]; exact bel
        have cw := write_any F (ZZ.take j).flatten v (ZZ.getD j []) wr (HT.out.below bel hF) hs (c2.kept belw) c3 hF (by
          have h1 := HB0.out (j + 1)
          rw [flat_succ ZZ j (by rw [← HK.out]; exact hltj), List.length_append] at h1
          omega)
        rw [← flat_succ ZZ j (by rw [← HK.out]; exact hltj)] at cw
        obtain ⟨ad, cp, hv, -⟩ := c2
        subst hv
        have hFw : F ≤ wr.heap.size := by have := BE.out.size; have := HF.out; omega
        clear hs bel hp c1 c3 belw
        go_wp2_with fail
        refine cw.mono ?_
        rintro e w2 ⟨⟨u2, rfl⟩, h2, b2⟩
        have H2 : Hid (HsOf w2 F (ZZ.take (j + 1)).flatten) := h2
        have B2 : Hid (Below F wa w2) := BE.out.trans (b2.below (Nat.le_refl _) hFw)
        clear cw h2 b2
        go_wp2
        go_roundw
        case rel => exact ⟨j + 1, by omega, by go_num, H2.out, B2.out⟩
        case measure => simp [intOf]; omega
    · obtain rfl : j = k := by omega
      have hz : (ZZ.take j).flatten = ZZ.flatten := by rw [HK.out, List.take_length]
      rw [hz] at hs
      have cs := sum_any F ZZ.flatten wr (HT.out.below bel hF) hs (by have := HB0.out j; rw [hz] at this; exact this)
      have hFw : F ≤ wr.heap.size := by have := BE.out.size; have := HF.out; omega
      clear hs bel hz
      go_wp2_with fail
      refine cs.mono ?_
      rintro e w4 ⟨rfl, b4⟩
      have hB4 : Below F wa w4 := BE.out.trans (b4.mono hFw)
      have G4 : Hid (w4.heap[w.heap.size]? = some (.cells (u8s (List.replicate 32 0)) 59 (0, 0))) := (hB4.block _ hlt).trans HG0.out
      have B4 : Hid (Below w.heap.size w w4) := HBA.out.trans (hB4.mono (by omega))
      clear cs b4 hB4
      go_wp2_with (refine wpList_store_row rfl 59 _ _ rfl w.heap.size (u8s (Pl.sha ZZ.flatten)) rfl rfl 59 _ G4.out HI.out HO.out (u8s_one _) ?_)
      refine bodyPost_ret (v := .agg (u8s (Pl.sha ZZ.flatten))) (results_cell_row rfl _ _ w.heap.size 59 (u8s (Pl.sha ZZ.flatten)) (0, 0) _ rfl (setRow_heap _ _ _ _ _ _ G4.out) Tryd.underlying59 rfl HI.out) rfl ⟨rfl, below_setRow B4.out (Nat.le_refl _) _⟩
end Go.Proofs.YtgnampbbkaolmaaDoor.Sh
namespace Go.Proofs.YtgnampbbkaolmaaDoor.Sh
open Go.RowKit
set_option maxRecDepth 100000

theorem all_eq : ∀ (xs ys : List Int), xs.length = ys.length → ((List.range xs.length).all fun i => xs.getD i 0 == ys.getD i 0) = (xs == ys)
  | [], [], _ => rfl
  | x :: xs, y :: ys, h => by
    have ih := all_eq xs ys (by simpa using h)
    rw [List.length_cons, List.range_succ_eq_map, List.all_cons, List.all_map]
    simp only [List.getD_cons_zero, Function.comp_def, List.getD_cons_succ, ih]
    simp [List.cons_beq_cons]
  | [], _ :: _, h => by simp at h
  | _ :: _, [], h => by simp at h
theorem sizeOf5 : ∀ w, (sizeOf 5).run Tryd.prog w = .ok 1 w := by
  obtain ⟨i0, hi, hz0, hz1, hz2⟩ := info_parts info5'
  intro w
  simp [sizeOf, typeInfo, hi, hz1]
theorem eq_u8s (A B : List Int) (hA : A.length = 32) (hB : B.length = 32) (w : World) : (Op.equalIn 10000 59 (.agg (u8s A)) (.agg (u8s B))).run Tryd.prog w = .ok (A == B) w := by
  rw [← all_eq A B (hA.trans hB.symm), hA, List.range_eq_range', show (10000 : Nat) = 9999 + 1 from rfl, Op.equalIn]
  simp only [Sem.run_bind, run_underlying Tryd.underlying59, Result.andThen_ok, sizeOf5, Std.Legacy.Range.forIn_eq_forIn_range', Std.Legacy.Range.size, Nat.sub_zero, Nat.add_sub_cancel, Nat.div_one]
  have hl : ∀ i ∈ List.range' 0 32 1, i < 32 := fun i hi => by simpa using (List.mem_range'_1.1 hi).2
  generalize List.range' 0 32 1 = l at hl ⊢
  induction l with
  | nil => simp
  | cons i l ih =>
    have hi : i < 32 := hl i (by simp)
    have px : (part 5 (u8s A) (i * 1)).run Tryd.prog w = .ok (.int .u8 (A.getD i 0)) w := by
      simp [part, isAgg, run_underlying Tryd.underlying5, u8s_get A i (by omega)]
    have py : (part 5 (u8s B) (i * 1)).run Tryd.prog w = .ok (.int .u8 (B.getD i 0)) w := by
      simp [part, isAgg, run_underlying Tryd.underlying5, u8s_get B i (by omega)]
    have pe : (Op.equalIn 9999 5 (.int .u8 (A.getD i 0)) (.int .u8 (B.getD i 0))).run Tryd.prog w = .ok (A.getD i 0 == B.getD i 0) w := run_equalIn_int w 9998 5 .u8 .u8 _ _ Tryd.underlying5
    simp only [List.forIn_cons, Sem.run_bind, px, py, pe, Result.andThen_ok, List.all_cons]
    cases hb : (A.getD i 0 == B.getD i 0)
    · simp
    · simp only [Bool.not_true, Bool.false_eq_true, if_false, Sem.run_pure, Result.andThen_ok, Bool.true_and]
      exact ih fun j hj => hl j (by simp [hj])

/-- A variable that holds a sum. -/
def SX (X : Nat) (A : List Int) (x : World) : Prop := x.heap[X]? = some (.cells (u8s A) 59 (0, 0))
theorem SX.load {X : Nat} {A : List Int} (hA : A.length = 32) (x : World) (h : SX X A x) : (Instr.loadAt 59 (.pointer (some ⟨X, 0, none⟩))).run Tryd.prog x = .ok (.agg (u8s A)) x := by
  simp only [Instr.loadAt, Instr.sureAddr, Sem.run_bind, Sem.run_pure, Result.andThen_ok]
  exact run_loadVar_row x X 59 59 (u8s A) (0, 0) _ h Tryd.underlying59 rfl (by rw [u8s_size, hA]; exact size26)
theorem SX.alloc {X : Nat} {A : List Int} {x : World} (h : SX X A x) (o : Obj) : SX X A (x.alloc o) := by
  unfold SX at *
  have hl : X < x.heap.size := (Array.getElem?_eq_some_iff.1 h).1
  rw [Below.heap_alloc _ _ _ hl]; exact h
theorem SX.drew {X : Nat} {A : List Int} {x : World} (h : SX X A x) : SX X A x.drew := h
theorem SX.below {X B : Nat} {A : List Int} {x y : World} (h : SX X A x) (hb : Below B x y) (hX : X < B) : SX X A y := (hb.block X hX).trans h
theorem SX.lt {X : Nat} {A : List Int} {x : World} (h : SX X A x) : X < x.heap.size := (Array.getElem?_eq_some_iff.1 h).1

/-- The sum that everybody knows. -/
def abcL : List Int := [0xba, 0x78, 0x16, 0xbf, 0x8f, 0x01, 0xcf, 0xea, 0x41, 0x41, 0x40, 0xde, 0x5d, 0xae, 0x22, 0x23, 0xb0, 0x03, 0x61, 0xa3, 0x96, 0x17, 0x7a, 0x9c, 0xb4, 0x10, 0xff, 0x61, 0xf2, 0x00, 0x15, 0xad]
set_option maxRecDepth 1000000 in
theorem abc_sum : Pl.sha [97, 98, 99] = abcL := by decide +kernel
theorem abc_len : abcL.length = 32 := rfl
theorem abc_ne : (abcL == List.replicate 32 0) = false := by decide
end Go.Proofs.YtgnampbbkaolmaaDoor.Sh
