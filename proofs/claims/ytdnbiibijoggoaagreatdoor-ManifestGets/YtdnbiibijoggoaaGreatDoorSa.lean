/-
  Texts on ShPl, ShRot, ShSpread, ShHas, ShWork, in one.
-/
import Derived.Laws.BitsAllLaws
import Derived.Test.YtdnbiibijoggoaaGreatDoorBas
import Derived.Deep.WholeRow
import Derived.Deep.MidRow
import Derived.BigRegion
import Derived.Laws.CopyOwn
import Derived.Deep.QuietTactic
import Derived.BigQuiet
namespace Go.Proofs.YtdnbiibijoggoaaGreatDoor.Sh.Pl

/-- A word turned right by k bits. -/
def rotr (k x : Nat) : Nat := (x * 2 ^ (32 - k)) % 4294967296 ||| x / 2 ^ k
def sig0 (x : Nat) : Nat := rotr 7 x ^^^ rotr 18 x ^^^ x / 8
def sig1 (x : Nat) : Nat := rotr 17 x ^^^ rotr 19 x ^^^ x / 1024
def tri (i j k x : Nat) : Nat := rotr i x ^^^ rotr j x ^^^ rotr k x
def no (x : Nat) : Nat := 4294967295 ^^^ x
def ch (e f g : Nat) : Nat := (e &&& f) ^^^ (no e &&& g)
def maj (a b c : Nat) : Nat := (a &&& b) ^^^ (a &&& c) ^^^ (b &&& c)

/-- A word of a block. -/
def word (xs : List Int) (i : Nat) : Nat :=
  (((xs.getD (4 * i) 0).toNat * 16777216 ||| (xs.getD (4 * i + 1) 0).toNat * 65536) ||| (xs.getD (4 * i + 2) 0).toNat * 256) ||| (xs.getD (4 * i + 3) 0).toNat
/-- The next word. -/
def nxt (l : List Nat) (i : Nat) : Nat := (sig1 (l.getD (i - 2) 0) + l.getD (i - 7) 0 + sig0 (l.getD (i - 15) 0) + l.getD (i - 16) 0) % 4294967296
def ext : Nat → List Nat → List Nat
  | 0, l => l
  | n + 1, l => ext n (l ++ [nxt l l.length])
/-- A word for each round. -/
def sched (xs : List Int) : List Nat := ext 48 ((List.range 16).map (word xs))

theorem rotr_lt (k x : Nat) (hx : x < 4294967296) : rotr k x < 4294967296 := by
  unfold rotr
  have h1 : (x * 2 ^ (32 - k)) % 4294967296 < 2 ^ 32 := Nat.mod_lt _ (by decide)
  have h2 : x / 2 ^ k < 2 ^ 32 := Nat.lt_of_le_of_lt (Nat.div_le_self _ _) hx
  exact Nat.or_lt_two_pow h1 h2
theorem xor_lt {a b : Nat} (ha : a < 4294967296) (hb : b < 4294967296) : a ^^^ b < 4294967296 := by
  have : a ^^^ b < 2 ^ 32 := Nat.xor_lt_two_pow (by omega) (by omega)
  omega
theorem and_lt {a b : Nat} (ha : a < 4294967296) : a &&& b < 4294967296 := Nat.lt_of_le_of_lt Nat.and_le_left ha
theorem or_lt {a b : Nat} (ha : a < 4294967296) (hb : b < 4294967296) : a ||| b < 4294967296 := by
  have : a ||| b < 2 ^ 32 := Nat.or_lt_two_pow (by omega) (by omega)
  omega
theorem no_lt {x : Nat} (hx : x < 4294967296) : no x < 4294967296 := xor_lt (by omega) hx
theorem tri_lt (i j k x : Nat) (hx : x < 4294967296) : tri i j k x < 4294967296 :=
  xor_lt (xor_lt (rotr_lt i x hx) (rotr_lt j x hx)) (rotr_lt k x hx)
theorem sig0_lt {x : Nat} (hx : x < 4294967296) : sig0 x < 4294967296 := xor_lt (xor_lt (rotr_lt 7 x hx) (rotr_lt 18 x hx)) (by omega)
theorem sig1_lt {x : Nat} (hx : x < 4294967296) : sig1 x < 4294967296 := xor_lt (xor_lt (rotr_lt 17 x hx) (rotr_lt 19 x hx)) (by omega)
theorem ch_lt {e f g : Nat} (he : e < 4294967296) : ch e f g < 4294967296 := xor_lt (and_lt he) (and_lt (no_lt he))
theorem maj_lt {a b c : Nat} (ha : a < 4294967296) (hb : b < 4294967296) : maj a b c < 4294967296 := xor_lt (xor_lt (and_lt ha) (and_lt ha)) (and_lt hb)

theorem snoc_get (l : List Nat) (x : Nat) : (l ++ [x]).getD l.length 0 = x := by simp [List.getD]
theorem pre_get (l : List Nat) (x i : Nat) (h : i < l.length) : (l ++ [x]).getD i 0 = l.getD i 0 := by simp [List.getD, List.getElem?_append_left h]
theorem map_get (f : Nat → Nat) (n i : Nat) (h : i < n) : ((List.range n).map f).getD i 0 = f i := by simp [List.getD, h]
theorem ext_pre (n : Nat) : ∀ (l : List Nat) (i : Nat), i < l.length → (ext n l).getD i 0 = l.getD i 0 := by
  induction n with
  | zero => intro l i _; rfl
  | succ n ih =>
    intro l i hi
    show (ext n (l ++ [nxt l l.length])).getD i 0 = _
    rw [ih _ i (by simp; omega)]
    exact pre_get l _ i hi
theorem ext_len (n : Nat) : ∀ l : List Nat, (ext n l).length = l.length + n := by
  induction n with
  | zero => intro l; rfl
  | succ n ih => intro l; show (ext n (l ++ [nxt l l.length])).length = _; rw [ih]; simp; omega
theorem ext_nxt (n : Nat) : ∀ (l : List Nat) (i : Nat), 16 ≤ l.length → l.length ≤ i → i < l.length + n → (ext n l).getD i 0 = nxt (ext n l) i := by
  induction n with
  | zero => intro l i _ h1 h2; omega
  | succ n ih =>
    intro l i h0 h1 h2
    have e : ext (n + 1) l = ext n (l ++ [nxt l l.length]) := rfl
    rcases Nat.lt_or_ge l.length i with h | h
    · rw [e]
      exact ih _ i (by simp; omega) (by simp; omega) (by simp; omega)
    · obtain rfl : i = l.length := by omega
      have hp : ∀ j, j < l.length → (ext (n + 1) l).getD j 0 = l.getD j 0 := fun j hj => ext_pre (n + 1) l j hj
      have hr : nxt (ext (n + 1) l) l.length = nxt l l.length := by
        unfold nxt
        rw [hp _ (by omega), hp _ (by omega), hp _ (by omega), hp _ (by omega)]
      rw [hr, e, ext_pre n _ _ (by simp)]
      exact snoc_get l _

theorem sched_len (xs : List Int) : (sched xs).length = 64 := by unfold sched; rw [ext_len]; simp
theorem sched_word (xs : List Int) (i : Nat) (hi : i < 16) : (sched xs).getD i 0 = word xs i := by
  unfold sched; rw [ext_pre _ _ _ (by simpa using hi)]; exact map_get _ 16 i hi
theorem sched_nxt (xs : List Int) (i : Nat) (h0 : 16 ≤ i) (h1 : i < 64) : (sched xs).getD i 0 = nxt (sched xs) i := by
  unfold sched; exact ext_nxt _ _ _ (by simp) (by simpa using h0) (by simpa using h1)

/-- Bytes. -/
def Byt (xs : List Int) : Prop := ∀ i, 0 ≤ xs.getD i 0 ∧ xs.getD i 0 < 256

theorem word_lt {xs : List Int} (h : Byt xs) (i : Nat) : word xs i < 4294967296 := by
  have h0 := h (4 * i); have h1 := h (4 * i + 1); have h2 := h (4 * i + 2); have h3 := h (4 * i + 3)
  exact or_lt (or_lt (or_lt (by omega) (by omega)) (by omega)) (by omega)
theorem sched_lt {xs : List Int} (h : Byt xs) (i : Nat) : (sched xs).getD i 0 < 4294967296 := by
  rcases Nat.lt_or_ge i 16 with h1 | h1
  · rw [sched_word xs i h1]; exact word_lt h i
  · rcases Nat.lt_or_ge i 64 with h2 | h2
    · rw [sched_nxt xs i h1 h2]; exact Nat.mod_lt _ (by decide)
    · rw [List.getD, List.getElem?_eq_none (by rw [sched_len]; exact h2)]; simp

/-- The words up to i, noughts behind them. -/
def part (l : List Nat) (i : Nat) : List Nat := l.take i ++ List.replicate (l.length - i) 0
theorem part_len (l : List Nat) (i : Nat) : (part l i).length = l.length := by unfold part; simp; omega
theorem part_get (l : List Nat) (i j : Nat) (h : j < i) (hi : i ≤ l.length) : (part l i).getD j 0 = l.getD j 0 := by
  unfold part
  have h1 : j < (l.take i).length := by simp; omega
  simp only [List.getD]
  rw [List.getElem?_append_left h1, List.getElem?_take, if_pos h]
theorem part_zero (l : List Nat) : part l 0 = List.replicate l.length 0 := by simp [part]
theorem part_all (l : List Nat) : part l l.length = l := by simp [part]
theorem part_set (l : List Nat) (i : Nat) (h : i < l.length) : (part l i).set i (l.getD i 0) = part l (i + 1) := by
  apply List.ext_getElem?
  intro k
  unfold part
  rw [List.getElem?_set]
  by_cases e : i = k
  · subst e
    have h1 : i < (l.take (i + 1)).length := by simp; omega
    rw [List.getElem?_append_left h1, List.getElem?_take, if_pos rfl, if_pos (by simp; omega), if_pos (show i < i + 1 by omega)]
    simp [List.getD, List.getElem?_eq_getElem h]
  · simp only [e, if_false, List.getElem?_append, List.length_take, List.getElem?_take, List.getElem?_replicate]
    repeat' split
    all_goals first | rfl | omega

/-- A state of eight words. -/
structure S8 where
  a : Nat
  b : Nat
  c : Nat
  d : Nat
  e : Nat
  f : Nat
  g : Nat
  h : Nat

def upOf (k w : Nat) (s : S8) : Nat := (s.h + tri 6 11 25 s.e + ch s.e s.f s.g + k + w) % 4294967296
def downOf (s : S8) : Nat := (tri 2 13 22 s.a + maj s.a s.b s.c) % 4294967296
/-- One round. -/
def step (k w : Nat) (s : S8) : S8 := ⟨(upOf k w s + downOf s) % 4294967296, s.a, s.b, s.c, (s.d + upOf k w s) % 4294967296, s.e, s.f, s.g⟩
/-- n rounds. -/
def rnd (K W : List Nat) (s : S8) : Nat → S8
  | 0 => s
  | n + 1 => step (K.getD n 0) (W.getD n 0) (rnd K W s n)
def ok (s : S8) : Prop := s.a < 4294967296 ∧ s.b < 4294967296 ∧ s.c < 4294967296 ∧ s.d < 4294967296 ∧ s.e < 4294967296 ∧ s.f < 4294967296 ∧ s.g < 4294967296 ∧ s.h < 4294967296
theorem ok_step {k w : Nat} {s : S8} (h : ok s) : ok (step k w s) := by
  obtain ⟨h1, h2, h3, h4, h5, h6, h7, h8⟩ := h
  exact ⟨Nat.mod_lt _ (by decide), h1, h2, h3, Nat.mod_lt _ (by decide), h5, h6, h7⟩
theorem ok_rnd {K W : List Nat} {s : S8} (h : ok s) : ∀ n, ok (rnd K W s n)
  | 0 => h
  | n + 1 => ok_step (ok_rnd h n)

def add (s t : S8) : S8 := ⟨(s.a + t.a) % 4294967296, (s.b + t.b) % 4294967296, (s.c + t.c) % 4294967296, (s.d + t.d) % 4294967296, (s.e + t.e) % 4294967296, (s.f + t.f) % 4294967296, (s.g + t.g) % 4294967296, (s.h + t.h) % 4294967296⟩
theorem ok_add (s t : S8) : ok (add s t) := by
  refine ⟨?_, ?_, ?_, ?_, ?_, ?_, ?_, ?_⟩ <;> exact Nat.mod_lt _ (by decide)

def K : List Nat := [1116352408, 1899447441, 3049323471, 3921009573, 961987163, 1508970993, 2453635748, 2870763221, 3624381080, 310598401, 607225278, 1426881987, 1925078388, 2162078206, 2614888103, 3248222580, 3835390401, 4022224774, 264347078, 604807628, 770255983, 1249150122, 1555081692, 1996064986, 2554220882, 2821834349, 2952996808, 3210313671, 3336571891, 3584528711, 113926993, 338241895, 666307205, 773529912, 1294757372, 1396182291, 1695183700, 1986661051, 2177026350, 2456956037, 2730485921, 2820302411, 3259730800, 3345764771, 3516065817, 3600352804, 4094571909, 275423344, 430227734, 506948616, 659060556, 883997877, 958139571, 1322822218, 1537002063, 1747873779, 1955562222, 2024104815, 2227730452, 2361852424, 2428436474, 2756734187, 3204031479, 3329325298]
def init : S8 := ⟨1779033703, 3144134277, 1013904242, 2773480762, 1359893119, 2600822924, 528734635, 1541459225⟩
theorem ok_init : ok init := by unfold ok init; decide
theorem K_lt (i : Nat) : K.getD i 0 < 4294967296 := by
  have h : K.all (· < 4294967296) = true := by decide
  rcases Nat.lt_or_ge i K.length with hi | hi
  · have := List.all_eq_true.1 h K[i] (List.getElem_mem hi)
    simpa [List.getD, List.getElem?_eq_getElem hi] using this
  · simp [List.getD, List.getElem?_eq_none hi]

/-- A block worked in. -/
def comp (s : S8) (xs : List Int) : S8 := add s (rnd K (sched xs) s 64)
def blocks : Nat → S8 → List Int → S8
  | 0, s, _ => s
  | n + 1, s, l => blocks n (comp s (l.take 64)) (l.drop 64)
/-- All whole blocks worked in. -/
def absorb (l : List Int) : S8 := blocks (l.length / 64) init l
theorem ok_blocks : ∀ (n : Nat) (s : S8) (l : List Int), ok s → ok (blocks n s l)
  | 0, _, _, h => h
  | n + 1, _, _, _ => ok_blocks n _ _ (ok_add _ _)
theorem ok_absorb (l : List Int) : ok (absorb l) := ok_blocks _ _ _ ok_init

theorem blocks_snoc : ∀ (n : Nat) (s : S8) (l : List Int), blocks (n + 1) s l = comp (blocks n s l) ((l.drop (64 * n)).take 64)
  | 0, s, l => by simp [blocks]
  | n + 1, s, l => by
    show blocks (n + 1) (comp s (l.take 64)) (l.drop 64) = _
    rw [blocks_snoc n]
    show _ = comp (blocks n (comp s (l.take 64)) (l.drop 64)) _
    rw [List.drop_drop, show 64 + 64 * n = 64 * (n + 1) by omega]
theorem blocks_take : ∀ (n : Nat) (s : S8) (l : List Int) (m : Nat), 64 * n ≤ m → blocks n s (l.take m) = blocks n s l
  | 0, _, _, _, _ => rfl
  | n + 1, s, l, m, h => by
    show blocks n (comp s ((l.take m).take 64)) ((l.take m).drop 64) = blocks n (comp s (l.take 64)) (l.drop 64)
    rw [List.take_take, Nat.min_eq_left (by omega), List.drop_take, blocks_take n _ _ _ (by omega)]
/-- n blocks of a list. -/
def upto (l : List Int) (n : Nat) : S8 := blocks n init l
theorem upto_succ (l : List Int) (n : Nat) : upto l (n + 1) = comp (upto l n) ((l.drop (64 * n)).take 64) := blocks_snoc n init l
theorem absorb_eq (l : List Int) : absorb l = upto l (l.length / 64) := rfl
theorem upto_append (l m : List Int) (n : Nat) (h : 64 * n ≤ l.length) : upto (l ++ m) n = upto l n := by
  unfold upto
  rw [← blocks_take n init (l ++ m) l.length h, List.take_left']
  rfl

/-- Noughts of the padding. -/
def zers (n : Nat) : Nat := (64 - (n % 64 + 9) % 64) % 64
/-- The number of bits, in eight bytes. -/
def count (n : Nat) : List Int := (List.range 8).map fun i => (((n * 8 / 2 ^ (8 * (7 - i))) % 256 : Nat) : Int)
def pad (n : Nat) : List Int := 128 :: (List.replicate (zers n) 0 ++ count n)
def words (s : S8) : List Nat := [s.a, s.b, s.c, s.d, s.e, s.f, s.g, s.h]
def digest (s : S8) : List Int := (List.range 32).map fun i => ((((words s).getD (i / 4) 0) / 2 ^ (24 - 8 * (i % 4)) % 256 : Nat) : Int)
/-- The sum. -/
def sha (l : List Int) : List Int := digest (absorb (l ++ pad l.length))
end Go.Proofs.YtdnbiibijoggoaaGreatDoor.Sh.Pl

namespace Go.Proofs.YtdnbiibijoggoaaGreatDoor.Sh
open Go.RowKit
set_option maxRecDepth 100000

theorem wrap32 (z : Int) : IntKind.u32.wrap z = z % 4294967296 := by simp [IntKind.wrap, IntKind.bits, IntKind.signed]
theorem wrap64 (z : Int) : IntKind.u64.wrap z = z % 18446744073709551616 := by simp [IntKind.wrap, IntKind.bits, IntKind.signed]

/-- Shifts, as the walk spells them. -/
theorem shl32 (x s : Nat) (hs : s < 32) : (x : Int) * 2 ^ min s 32 % 4294967296 = ((x * 2 ^ s % 4294967296 : Nat) : Int) := by
  rw [Nat.min_eq_left (by omega)]; simp
theorem shr32 (x s : Nat) (hs : s < 32) : (x : Int) / 2 ^ min s 32 = ((x / 2 ^ s : Nat) : Int) := by
  rw [Nat.min_eq_left (by omega)]; simp
theorem and31 (k : Nat) (h0 : 0 < k) (h1 : k < 32) : bits BinOp.and IntKind.u64 ((18446744073709551616 - k : Nat) : Int) 31 = ((32 - k : Nat) : Int) := by
  have := u64_and_nat (18446744073709551616 - k) 31 (by omega) (by omega)
  rw [show ((31 : Nat) : Int) = 31 from rfl] at this
  rw [this]
  have e : (18446744073709551616 - k) &&& 31 = (18446744073709551616 - k) % 32 := Nat.and_two_pow_sub_one_eq_mod _ 5
  rw [e]
  congr 1
  omega

set_option maxHeartbeats 1000000 in
theorem rot_any (k x : Nat) (w : World) (h0 : 0 < k) (h1 : k < 32) (hx : x < 4294967296) :
    Calls Tryz.prog 123 #[.int .u32 x, .int .i64 (-(k : Int))] w fun e w' => e = .returned (.int .u32 (Pl.rotr k x : Nat)) ∧ w' = w := by
  have hw : IntKind.u64.wrap (-(k : Int)) = ((18446744073709551616 - k : Nat) : Int) := by rw [wrap64]; omega
  have ha := and31 k h0 h1
  have hw2 : IntKind.u64.wrap (32 - ((32 - k : Nat) : Int)) = (k : Int) := by rw [wrap64]; omega
  have hl := shl32 x (32 - k) (by omega)
  have hr := shr32 x k h1
  have ho := u32_or_nat (x * 2 ^ (32 - k) % 4294967296) (x / 2 ^ k) (Nat.mod_lt _ (by decide)) (Nat.lt_of_le_of_lt (Nat.div_le_self _ _) hx)
  have hf : Pl.rotr k x = x * 2 ^ (32 - k) % 4294967296 ||| x / 2 ^ k := rfl
  rw [hf]
  clear hf
  generalize x * 2 ^ (32 - k) % 4294967296 ||| x / 2 ^ k = r at *
  generalize x * 2 ^ (32 - k) % 4294967296 = p at *
  generalize x / 2 ^ k = q at *
  generalize 18446744073709551616 - k = m at *
  generalize 32 - k = s at *
  clear h0 h1 hx
  go_enter Tryz.func123, Tryz.ntmps123
  go_wp2
  go_ret
  exact ⟨rfl, rfl⟩

theorem neg_lit (k : Nat) : IntKind.i64.wrap (-(k : Int)) = if k ≤ 9223372036854775808 then -(k : Int) else IntKind.i64.wrap (-(k : Int)) := by
  split
  · simp [IntKind.wrap, IntKind.bits, IntKind.signed]; omega
  · rfl

set_option maxHeartbeats 1000000 in
theorem turned_any (x i j k : Nat) (w : World) (hi : 0 < i ∧ i < 32) (hj : 0 < j ∧ j < 32) (hk : 0 < k ∧ k < 32) (hx : x < 4294967296) :
    Calls Tryz.prog 118 #[.int .u32 x, .int .i64 i, .int .i64 j, .int .i64 k] w fun e w' => e = .returned (.int .u32 (Pl.tri i j k x : Nat)) ∧ w' = w := by
  have c1 := rot_any i x w hi.1 hi.2 hx
  have c2 := rot_any j x w hj.1 hj.2 hx
  have c3 := rot_any k x w hk.1 hk.2 hx
  have n1 : IntKind.i64.wrap (-(i : Int)) = -(i : Int) := by rw [neg_lit, if_pos (by omega)]
  have n2 : IntKind.i64.wrap (-(j : Int)) = -(j : Int) := by rw [neg_lit, if_pos (by omega)]
  have n3 : IntKind.i64.wrap (-(k : Int)) = -(k : Int) := by rw [neg_lit, if_pos (by omega)]
  have x1 := u32_xor_nat (Pl.rotr i x) (Pl.rotr j x) (Pl.rotr_lt _ _ hx) (Pl.rotr_lt _ _ hx)
  have x2 := u32_xor_nat (Pl.rotr i x ^^^ Pl.rotr j x) (Pl.rotr k x) (Pl.xor_lt (Pl.rotr_lt _ _ hx) (Pl.rotr_lt _ _ hx)) (Pl.rotr_lt _ _ hx)
  have hf : Pl.tri i j k x = Pl.rotr i x ^^^ Pl.rotr j x ^^^ Pl.rotr k x := rfl
  rw [hf]
  clear hf hi hj hk hx
  generalize Pl.rotr i x ^^^ Pl.rotr j x ^^^ Pl.rotr k x = r at *
  generalize Pl.rotr i x ^^^ Pl.rotr j x = r12 at *
  generalize Pl.rotr i x = r1 at *
  generalize Pl.rotr j x = r2 at *
  generalize Pl.rotr k x = r3 at *
  go_enter Tryz.func118, Tryz.ntmps118
  go_wp2_with fail
  refine c1.mono ?_
  rintro e w1 ⟨rfl, e1⟩
  subst e1
  clear c1
  go_wp2_with fail
  refine c2.mono ?_
  rintro e w1 ⟨rfl, e1⟩
  subst e1
  clear c2
  go_wp2_with fail
  refine c3.mono ?_
  rintro e w1 ⟨rfl, e1⟩
  subst e1
  clear c3
  go_wp2
  go_ret
  exact ⟨rfl, rfl⟩
end Go.Proofs.YtdnbiibijoggoaaGreatDoor.Sh

namespace Go.Proofs.YtdnbiibijoggoaaGreatDoor.Sh
open Go.RowKit
set_option maxRecDepth 100000

def u32s (l : List Nat) : Array Value := (l.map fun (n : Nat) => Value.int .u32 (n : Int)).toArray

theorem u32s_get (l : List Nat) (i : Nat) (h : i < l.length) : (u32s l)[i]? = some (.int .u32 (l.getD i 0 : Nat)) := by
  simp [u32s, List.getElem?_eq_getElem h, List.getD]
theorem u32s_size (l : List Nat) : (u32s l).size = l.length := by simp [u32s]
theorem u32s_set (l : List Nat) (i n : Nat) : (u32s l).setIfInBounds i (.int .u32 (n : Int)) = u32s (l.set i n) := by
  apply Array.ext'
  simp [u32s, List.map_set]
theorem u32s_one (l : List Nat) : (u32s l).all (·.oneCell') = true := by
  simp [u32s]
  intro x _
  rfl

theorem or4 (y0 y1 y2 y3 : Nat) (b0 : y0 < 4294967296) (b1 : y1 < 4294967296) (b2 : y2 < 4294967296) (b3 : y3 < 4294967296) :
    bits .or .u32 (bits .or .u32 (bits .or .u32 (y0 : Int) (y1 : Int)) (y2 : Int)) (y3 : Int) = ((y0 ||| y1 ||| y2 ||| y3 : Nat) : Int) := by
  rw [u32_or_nat y0 y1 b0 b1, u32_or_nat _ y2 (Pl.or_lt b0 b1) b2, u32_or_nat _ y3 (Pl.or_lt (Pl.or_lt b0 b1) b2) b3]

theorem word4 (z0 z1 z2 z3 : Nat) (h0 : z0 < 256) (h1 : z1 < 256) (h2 : z2 < 256) (h3 : z3 < 256) :
    bits .or .u32 (bits .or .u32 (bits .or .u32 ((z0 : Int) * 16777216) ((z1 : Int) * 65536)) ((z2 : Int) * 256)) (z3 : Int) = ((z0 * 16777216 ||| z1 * 65536 ||| z2 * 256 ||| z3 : Nat) : Int) := by
  have := or4 (z0 * 16777216) (z1 * 65536) (z2 * 256) z3 (by omega) (by omega) (by omega) (by omega)
  rw [Int.natCast_mul, Int.natCast_mul, Int.natCast_mul] at this
  exact this

theorem info50 : (Tryz.prog.info? 89).map (fun i => (i.zero, i.size)) = some (some (.agg (u32s (List.replicate 64 0))), 64) := by kernel_rfl
theorem size50 : (Tryz.prog.info? 89).map (fun i => i.size) = some 64 := by kernel_rfl

/-- Two rows that a call has laid: the second one is written. -/
def Rows2 (B : Nat) (t : TypeId) (z c : Array Value) (w wr : World) : Prop :=
  wr.heap[B]? = some (.cells z t (0, 0)) ∧ wr.heap[B + 1]? = some (.cells c t (0, 0)) ∧ Below B w wr
theorem Rows2.set {B : Nat} {t : TypeId} {z c : Array Value} {w wr : World} (h : Rows2 B t z c w wr) (j : Nat) (v : Value) : Rows2 B t z (c.setIfInBounds j v) w (wr.setCell ⟨B + 1, j, none⟩ v) :=
  ⟨(heap_setCell_other _ _ _ _ (by simp)).trans h.1, heap_setCell_same _ _ _ _ _ _ h.2.1, h.2.2.setCell (by simp) _⟩
theorem Rows2.drew {B : Nat} {t : TypeId} {z c : Array Value} {w wr : World} (h : Rows2 B t z c w wr) : Rows2 B t z c w wr.drew := ⟨h.1, h.2.1, h.2.2.drew⟩
theorem Rows2.cell {B : Nat} {t : TypeId} {z c : Array Value} {w wr : World} (h : Rows2 B t z c w wr) (j : Nat) : wr.cell? ⟨B + 1, j, none⟩ = c[j]? := cell_of_row _ _ _ _ _ _ h.2.1
theorem Rows2.frozen {B : Nat} {t : TypeId} {z c : Array Value} {w wr : World} (h : Rows2 B t z c w wr) (j : Nat) : wr.frozen? ⟨B + 1, j, none⟩ = false := frozen_of_row _ _ _ _ _ h.2.1
theorem Rows2.two (w : World) (t : TypeId) (z c : Array Value) : Rows2 w.heap.size t z c w ((w.alloc (.cells z t)).alloc (.cells c t)) := by
  refine ⟨heap_alloc2_old _ _ _, heap_alloc2_new _ _ _, ((Below.refl _ _).alloc (Nat.le_refl _) _).alloc (by show w.heap.size ≤ (w.heap.push _).size; simp) _⟩

set_option maxHeartbeats 4000000 in
set_option maxRecDepth 100000 in
theorem spread_any (v : Value) (xs : List Int) (w : World) (sl : Sl w v xs) (hl : xs.length = 64) :
    Calls Tryz.prog 117 #[v] w fun e w' => e = .returned (.agg (u32s (Pl.sched xs))) ∧ Below w.heap.size w w' := by
  have hby : Pl.Byt xs := sl.bytes
  obtain ⟨a, cap, rfl, h1, h2, h3, h4⟩ := sl
  rw [hl] at h1 h4 ⊢
  rcases h4 with h4 | ⟨-, b, off, rfl, -, -, hcell, -⟩
  · omega
  have hlt : b < w.heap.size := World.block_lt_of_cell? _ _ (hcell 0 (by omega))
  have HC : Hid (∀ i, i < 64 → w.cell? ⟨b, off + i, none⟩ = some (.int .u8 ((xs.getD i 0).toNat : Int))) := fun i hi => by
    rw [hcell i hi, Int.toNat_of_nonneg (hby i).1]
  have HB : Hid (∀ i, (xs.getD i 0).toNat < 256) := fun i => by have := hby i; omega
  obtain ⟨W, hW⟩ : ∃ W, W = Pl.sched xs := ⟨_, rfl⟩
  have HLW : Hid (W.length = 64) := by unfold Hid; rw [hW, Pl.sched_len]
  have HW1 : Hid (∀ i, i < 16 → W.getD i 0 = Pl.word xs i) := fun i hi => by rw [hW, Pl.sched_word _ _ hi]
  have HW2 : Hid (∀ i, 16 ≤ i → i < 64 → W.getD i 0 = Pl.nxt W i) := fun i h0 h1 => by rw [hW, Pl.sched_nxt _ _ h0 h1]
  have HWL : Hid (∀ i, W.getD i 0 < 4294967296) := fun i => by rw [hW]; exact Pl.sched_lt hby i
  have HR : Hid (Pl.sched xs = W) := hW.symm
  rw [HR.out]
  have hcm : cap ≤ 9223372036854775807 := by unfold maxLen at h2; omega
  obtain ⟨B, hB⟩ : ∃ B, B = w.heap.size := ⟨_, rfl⟩
  have HBB : Hid (B = w.heap.size) := hB
  clear hW hcell hby h2 h3 hB
  go_enter Tryz.func117, Tryz.ntmps117
  go_wp2
  go_loopw [9] (fun i wr => ∃ j : Nat, j ≤ 16 ∧ i = .int .i64 j ∧ Rows2 w.heap.size 89 (u32s (List.replicate 64 0)) (u32s (Pl.part W j)) w wr) (fun i _ => 16 - (intOf i).toNat)
  case atStart =>
    refine ⟨0, by omega, rfl, ?_⟩
    rw [Pl.part_zero, HLW.out]
    exact Rows2.two w 89 _ _
  case round =>
    obtain ⟨j, hj, rfl, g⟩ := hrel
    have G : Hid (Rows2 w.heap.size 89 (u32s (List.replicate 64 0)) (u32s (Pl.part W j)) w wr) := g
    clear g
    by_cases hlt : j < 16
    · have k0 := (G.out.2.2.cell (p := ⟨b, off + 4 * j, none⟩) (by assumption)).trans (HC.out (4 * j) (by omega))
      have k1 := (G.out.2.2.cell (p := ⟨b, off + (4 * j + 1), none⟩) (by assumption)).trans (HC.out (4 * j + 1) (by omega))
      have k2 := (G.out.2.2.cell (p := ⟨b, off + (4 * j + 2), none⟩) (by assumption)).trans (HC.out (4 * j + 2) (by omega))
      have k3 := (G.out.2.2.cell (p := ⟨b, off + (4 * j + 3), none⟩) (by assumption)).trans (HC.out (4 * j + 3) (by omega))
      have kf := G.out.frozen j
      have kc := (G.out.cell j).trans (u32s_get _ j (by rw [Pl.part_len, HLW.out]; omega))
      have hwd := word4 _ _ _ _ (HB.out (4 * j)) (HB.out (4 * j + 1)) (HB.out (4 * j + 2)) (HB.out (4 * j + 3))
      have hws : W.getD j 0 = (xs.getD (4 * j) 0).toNat * 16777216 ||| (xs.getD (4 * j + 1) 0).toNat * 65536 ||| (xs.getD (4 * j + 2) 0).toNat * 256 ||| (xs.getD (4 * j + 3) 0).toNat := HW1.out j hlt
      rw [← hws] at hwd
      clear hws
      have NS : Hid (Rows2 w.heap.size 89 (u32s (List.replicate 64 0)) (u32s (Pl.part W (j + 1))) w (wr.setCell ⟨w.heap.size + 1, j, none⟩ (.int .u32 (W.getD j 0 : Nat))).drew) := by
        have := (G.out.set j (.int .u32 (W.getD j 0 : Nat))).drew
        rwa [u32s_set, Pl.part_set _ _ (by rw [HLW.out]; omega)] at this
      rw [show off + (4 * j + 1) = off + 4 * j + 1 by omega] at k1
      rw [show off + (4 * j + 2) = off + 4 * j + 2 by omega] at k2
      rw [show off + (4 * j + 3) = off + 4 * j + 3 by omega] at k3
      have b0 := HB.out (4 * j)
      have b1 := HB.out (4 * j + 1)
      have b2 := HB.out (4 * j + 2)
      have b3 := HB.out (4 * j + 3)
      generalize (xs.getD (4 * j) 0).toNat = z0 at *
      generalize (xs.getD (4 * j + 1) 0).toNat = z1 at *
      generalize (xs.getD (4 * j + 2) 0).toNat = z2 at *
      generalize (xs.getD (4 * j + 3) 0).toNat = z3 at *
      generalize (Pl.part W j).getD j 0 = old at *
      generalize W.getD j 0 = q at *
      obtain ⟨m, hm⟩ : ∃ m, m = 4 * j := ⟨_, rfl⟩
      have hq : IntKind.i64.wrap (4 * (j : Int)) = (m : Int) := by simp [IntKind.wrap, IntKind.bits, IntKind.signed]; omega
      have hq1 : IntKind.i64.wrap ((m : Int) + 4) = ((m + 4 : Nat) : Int) := by simp [IntKind.wrap, IntKind.bits, IntKind.signed]; omega
      have hne : ¬ cap = m := by omega
      have hne2 : ¬ m = cap := by omega
      have le1 : ((m + 4 : Nat) : Int) ≤ (cap : Int) := by omega
      have le2 : m + 4 ≤ cap := by omega
      have le3 : m ≤ m + 4 := by omega
      have le4 : (m : Int) ≤ ((m + 4 : Nat) : Int) := by omega
      have le5 : m + 4 - m = 4 := by omega
      have lt2 : (j : Int) < 16 := by omega
      rw [← hm] at k0 k1 k2 k3
      have HM : Hid (m = 4 * j) := hm
      clear hm
      clear h1
      go_wp2_with fail
      go_region
      go_wp2
      go_roundw
      case rel => exact ⟨j + 1, by omega, by go_num, NS.out⟩
      case measure => simp [intOf]; omega
    · obtain rfl : j = 16 := by omega
      go_wp2
      go_loopw [6] (fun i wr => ∃ j : Nat, 16 ≤ j ∧ j ≤ 64 ∧ i = .int .i64 j ∧ Rows2 w.heap.size 89 (u32s (List.replicate 64 0)) (u32s (Pl.part W j)) w wr) (fun i _ => 64 - (intOf i).toNat)
      case atStart => exact ⟨16, by omega, by omega, rfl, G.out⟩
      case round =>
        clear G
        obtain ⟨j, hj0, hj, rfl, g⟩ := hrel
        have G : Hid (Rows2 w.heap.size 89 (u32s (List.replicate 64 0)) (u32s (Pl.part W j)) w wr) := g
        clear g
        by_cases hlt : j < 64
        · have get : ∀ i, i < j → wr.cell? ⟨w.heap.size + 1, i, none⟩ = some (.int .u32 (W.getD i 0 : Nat)) := fun i hi => by
            rw [G.out.cell i, u32s_get _ i (by rw [Pl.part_len, HLW.out]; omega), Pl.part_get _ _ _ hi (by rw [HLW.out]; omega)]
          have k2 := get (j - 2) (by omega)
          have k15 := get (j - 15) (by omega)
          have k7 := get (j - 7) (by omega)
          have k16 := get (j - 16) (by omega)
          have kf := G.out.frozen j
          have kc := (G.out.cell j).trans (u32s_get _ j (by rw [Pl.part_len, HLW.out]; omega))
          have hn : W.getD j 0 = (Pl.sig1 (W.getD (j - 2) 0) + W.getD (j - 7) 0 + Pl.sig0 (W.getD (j - 15) 0) + W.getD (j - 16) 0) % 4294967296 := HW2.out j hj0 hlt
          have NS : Hid (∀ z : Int, z = ((W.getD j 0 : Nat) : Int) → Rows2 w.heap.size 89 (u32s (List.replicate 64 0)) (u32s (Pl.part W (j + 1))) w (wr.setCell ⟨w.heap.size + 1, j, none⟩ (.int .u32 z)).drew.drew) := by
            rintro z rfl
            have := (G.out.set j (.int .u32 (W.getD j 0 : Nat))).drew.drew
            rwa [u32s_set, Pl.part_set _ _ (by rw [HLW.out]; omega)] at this
          have b2 := HWL.out (j - 2)
          have b15 := HWL.out (j - 15)
          have b7 := HWL.out (j - 7)
          have b16 := HWL.out (j - 16)
          clear get
          generalize (Pl.part W j).getD j 0 = old at *
          generalize W.getD (j - 2) 0 = x2 at *
          generalize W.getD (j - 15) 0 = x15 at *
          generalize W.getD (j - 7) 0 = x7 at *
          generalize W.getD (j - 16) 0 = x16 at *
          have s1 := Pl.sig1_lt b2
          have s0 := Pl.sig0_lt b15
          have n1 := u32_xor_nat (Pl.rotr 17 x2) (Pl.rotr 19 x2) (Pl.rotr_lt _ _ b2) (Pl.rotr_lt _ _ b2)
          have n2 := u32_xor_nat (Pl.rotr 17 x2 ^^^ Pl.rotr 19 x2) (x2 / 1024) (Pl.xor_lt (Pl.rotr_lt _ _ b2) (Pl.rotr_lt _ _ b2)) (by omega)
          rw [show Pl.rotr 17 x2 ^^^ Pl.rotr 19 x2 ^^^ x2 / 1024 = Pl.sig1 x2 from rfl, Int.natCast_ediv, show ((1024 : Nat) : Int) = 1024 from rfl] at n2
          have f1 := u32_xor_nat (Pl.rotr 7 x15) (Pl.rotr 18 x15) (Pl.rotr_lt _ _ b15) (Pl.rotr_lt _ _ b15)
          have f2 := u32_xor_nat (Pl.rotr 7 x15 ^^^ Pl.rotr 18 x15) (x15 / 8) (Pl.xor_lt (Pl.rotr_lt _ _ b15) (Pl.rotr_lt _ _ b15)) (by omega)
          rw [show Pl.rotr 7 x15 ^^^ Pl.rotr 18 x15 ^^^ x15 / 8 = Pl.sig0 x15 from rfl, Int.natCast_ediv, show ((8 : Nat) : Int) = 8 from rfl] at f2
          have c1 : ∀ w', Calls Tryz.prog 123 #[.int .u32 x2, .int .i64 (-17)] w' _ := fun w' => rot_any 17 x2 w' (by omega) (by omega) b2
          have c2 : ∀ w', Calls Tryz.prog 123 #[.int .u32 x2, .int .i64 (-19)] w' _ := fun w' => rot_any 19 x2 w' (by omega) (by omega) b2
          have c3 : ∀ w', Calls Tryz.prog 123 #[.int .u32 x15, .int .i64 (-7)] w' _ := fun w' => rot_any 7 x15 w' (by omega) (by omega) b15
          have c4 : ∀ w', Calls Tryz.prog 123 #[.int .u32 x15, .int .i64 (-18)] w' _ := fun w' => rot_any 18 x15 w' (by omega) (by omega) b15
          generalize Pl.rotr 17 x2 ^^^ Pl.rotr 19 x2 = y1 at *
          generalize Pl.rotr 7 x15 ^^^ Pl.rotr 18 x15 = y2 at *
          generalize Pl.rotr 17 x2 = r17 at *
          generalize Pl.rotr 19 x2 = r19 at *
          generalize Pl.rotr 7 x15 = r7 at *
          generalize Pl.rotr 18 x15 = r18 at *
          generalize Pl.sig1 x2 = g1 at *
          generalize Pl.sig0 x15 = g0 at *
          have HN : Hid (W.getD j 0 = (g1 + x7 + g0 + x16) % 4294967296) := hn
          clear hn
          generalize W.getD j 0 = q at *
          have C1 : Hid (∀ w', Calls Tryz.prog 123 #[.int .u32 x2, .int .i64 (-17)] w' fun e w1 => e = .returned (.int .u32 (r17 : Nat)) ∧ w1 = w') := c1
          have C2 : Hid (∀ w', Calls Tryz.prog 123 #[.int .u32 x2, .int .i64 (-19)] w' fun e w1 => e = .returned (.int .u32 (r19 : Nat)) ∧ w1 = w') := c2
          have C3 : Hid (∀ w', Calls Tryz.prog 123 #[.int .u32 x15, .int .i64 (-7)] w' fun e w1 => e = .returned (.int .u32 (r7 : Nat)) ∧ w1 = w') := c3
          have C4 : Hid (∀ w', Calls Tryz.prog 123 #[.int .u32 x15, .int .i64 (-18)] w' fun e w1 => e = .returned (.int .u32 (r18 : Nat)) ∧ w1 = w') := c4
          clear c1 c2 c3 c4
          have q2 : IntKind.i64.wrap ((j : Int) - 2) = ((j - 2 : Nat) : Int) := by simp [IntKind.wrap, IntKind.bits, IntKind.signed]; omega
          have t2 : ((j - 2 : Nat) : Int) < 64 := by omega
          have t2' : j - 2 < 64 := by omega
          generalize j - 2 = a2 at *
          have q15 : IntKind.i64.wrap ((j : Int) - 15) = ((j - 15 : Nat) : Int) := by simp [IntKind.wrap, IntKind.bits, IntKind.signed]; omega
          have t15 : ((j - 15 : Nat) : Int) < 64 := by omega
          have t15' : j - 15 < 64 := by omega
          generalize j - 15 = a15 at *
          have q7 : IntKind.i64.wrap ((j : Int) - 7) = ((j - 7 : Nat) : Int) := by simp [IntKind.wrap, IntKind.bits, IntKind.signed]; omega
          have t7 : ((j - 7 : Nat) : Int) < 64 := by omega
          have t7' : j - 7 < 64 := by omega
          generalize j - 7 = a7 at *
          have q16 : IntKind.i64.wrap ((j : Int) - 16) = ((j - 16 : Nat) : Int) := by simp [IntKind.wrap, IntKind.bits, IntKind.signed]; omega
          have t16 : ((j - 16 : Nat) : Int) < 64 := by omega
          have t16' : j - 16 < 64 := by omega
          generalize j - 16 = a16 at *
          have lt2 : (j : Int) < 64 := by omega
          go_wp2_with fail
          go_region
          go_wp2_with fail
          refine (C1.out _).mono ?_
          rintro e w1 ⟨rfl, rfl⟩
          go_wp2_with fail
          refine (C2.out _).mono ?_
          rintro e w1 ⟨rfl, rfl⟩
          go_wp2_with fail
          refine (C3.out _).mono ?_
          rintro e w1 ⟨rfl, rfl⟩
          go_wp2_with fail
          refine (C4.out _).mono ?_
          rintro e w1 ⟨rfl, rfl⟩
          go_wp2_with fail
          go_region
          go_wp2
          refine ⟨?_, ?measure⟩
          · refine ⟨_, _, _, _, _, _, _, _, _, _, _, _, _, _, _, _, _, _, _, _, _, _, _, _, _, _, _, _, _, _, _, _, _, _, _, _, _, _, _, _, _, _, _, _, _, _, ?rel, rfl⟩
            exact ⟨j + 1, by omega, by omega, by go_num, NS.out _ (by rw [HN.out]; simp)⟩
          case measure => simp [intOf]; omega
        · obtain rfl : j = 64 := by omega
          obtain ⟨g0, g1, gb⟩ := G.out
          rw [show Pl.part W 64 = W by rw [← HLW.out]; exact Pl.part_all W] at g1
          have GB : Hid (Below w.heap.size w wr) := gb
          have G0 : Hid (wr.heap[w.heap.size]? = some (.cells (u32s (List.replicate 64 0)) 89 (0, 0))) := g0
          have G1 : Hid (wr.heap[w.heap.size + 1]? = some (.cells (u32s W) 89 (0, 0))) := g1
          have HI : Hid ((Tryz.prog.info? 89).map (·.size) = some (u32s W).size) := by unfold Hid; rw [u32s_size, HLW.out]; exact size50
          have HO : Hid ((u32s (List.replicate 64 0)).size = (u32s W).size) := by unfold Hid; rw [u32s_size, u32s_size, HLW.out]; simp
          clear g0 g1 gb G
          go_wp2_with (first
            | refine wpList_load_row rfl 89 _ rfl (w.heap.size + 1) rfl 89 (u32s W) (0, 0) _ G1.out Tryz.underlying89 rfl HI.out ?_
            | refine wpList_store_row rfl 89 _ _ rfl w.heap.size (u32s W) rfl rfl 89 _ G0.out HI.out HO.out (u32s_one W) ?_)
          refine bodyPost_ret (v := .agg (u32s W)) (results_cell_row rfl _ _ w.heap.size 89 (u32s W) (0, 0) _ rfl (setRow_heap _ _ _ _ _ _ G0.out) Tryz.underlying89 rfl HI.out) rfl ⟨rfl, below_setRow GB.out (Nat.le_refl _) _⟩
end Go.Proofs.YtdnbiibijoggoaaGreatDoor.Sh

namespace Go.Proofs.YtdnbiibijoggoaaGreatDoor.Sh
open Go.RowKit
set_option maxRecDepth 100000

/-- The two tables, as the walks read them. -/
def Tab (w : World) : Prop := (∀ i, i < 8 → w.cell? ⟨0, i, none⟩ = some (.int .u32 ((Pl.words Pl.init).getD i 0 : Nat))) ∧ (∀ i, i < 64 → w.cell? ⟨2, i, none⟩ = some (.int .u32 (Pl.K.getD i 0 : Nat)))
theorem Tab.below {w w' : World} {B : Nat} (h : Tab w) (hb : Below B w w') (hB : 3 ≤ B) : Tab w' :=
  ⟨fun i hi => (hb.cell (p := ⟨0, i, none⟩) (show 0 < B by omega)).trans (h.1 i hi), fun i hi => (hb.cell (p := ⟨2, i, none⟩) (show 2 < B by omega)).trans (h.2 i hi)⟩
theorem Tab.size {w : World} (h : Tab w) : 3 ≤ w.heap.size := World.block_lt_of_cell? _ _ (h.2 0 (by omega))

/-- All but block g is as it was. -/
structure But (g : Nat) (w w' : World) : Prop where
  os : w'.os = w.os
  tape : w'.tape = w.tape
  output : w'.output = w.output
  size : w.heap.size ≤ w'.heap.size
  block : ∀ k, k < w.heap.size → k ≠ g → w'.heap[k]? = w.heap[k]?

theorem But.refl (g : Nat) (w : World) : But g w w := ⟨rfl, rfl, rfl, Nat.le_refl _, fun _ _ _ => rfl⟩
theorem But.trans {g : Nat} {a b c : World} (h : But g a b) (k : But g b c) : But g a c :=
  ⟨k.os.trans h.os, k.tape.trans h.tape, k.output.trans h.output, Nat.le_trans h.size k.size, fun i hi hn => (k.block i (Nat.lt_of_lt_of_le hi h.size) hn).trans (h.block i hi hn)⟩
theorem But.of {g : Nat} {w w' : World} (h : Below w.heap.size w w') : But g w w' := ⟨h.os, h.tape, h.output, h.size, fun k hk _ => h.block k hk⟩
theorem But.set (g i : Nat) (w : World) (v : Value) : But g w (w.setCell ⟨g, i, none⟩ v) :=
  ⟨rfl, rfl, rfl, by simp [World.setCell], fun k _ hn => heap_setCell_other _ _ _ _ hn⟩
theorem But.cells (g : Nat) : ∀ (vs : List Value) (o : Nat) (w : World), But g w (w.setCells g o vs)
  | [], _, w => But.refl g w
  | v :: r, o, w => (But.set g o w v).trans (But.cells g r (o + 1) _)
theorem But.below {g B : Nat} {w w' : World} (h : But g w w') (hB : B ≤ g) (hw : B ≤ w.heap.size) : Below B w w' :=
  ⟨h.os, h.tape, h.output, h.size, fun k hk => h.block k (by omega) (by omega)⟩
theorem But.drew {g : Nat} {w w' : World} (h : But g w w') : But g w w'.drew := ⟨h.os, h.tape, h.output, h.size, h.block⟩
theorem But.cell {g : Nat} {w w' : World} (h : But g w w') {p : Addr} (hp : p.block < w.heap.size) (hn : p.block ≠ g) : w'.cell? p = w.cell? p := World.cell?_of_block (w := w) (h.block p.block hp hn)
theorem Tab.but {w w' : World} {g : Nat} (h : Tab w) (hb : But g w w') (hg : 3 ≤ g) : Tab w' :=
  ⟨fun i hi => (hb.cell (p := ⟨0, i, none⟩) (show 0 < _ by have := h.size; omega) (show 0 ≠ g by omega)).trans (h.1 i hi),
   fun i hi => (hb.cell (p := ⟨2, i, none⟩) (show 2 < _ by have := h.size; omega) (show 2 ≠ g by omega)).trans (h.2 i hi)⟩
theorem _root_.Go.Proofs.YtdnbiibijoggoaaGreatDoor.Sl.but {w w' : World} {v : Value} {xs : List Int} {g : Nat} (h : Sl w v xs) (hb : But g w w') (hn : ∀ a l c, v = .slice (some a) l c → 0 < l → a.block ≠ g) : Sl w' v xs := by
  obtain ⟨a, cap, rfl, h1, h2, h3, h4⟩ := h
  refine ⟨a, cap, rfl, h1, h2, h3, ?_⟩
  rcases h4 with h4 | ⟨hp, b, off, rfl, hlc, hm, hc, hz⟩
  · exact .inl h4
  · have hbn : b ≠ g := hn _ _ _ rfl hp
    exact .inr ⟨hp, b, off, rfl, hlc, hm, fun i hi => (hb.cell (p := ⟨b, off + i, Option.none⟩) (World.block_lt_of_cell? _ _ (hc i hi)) hbn).trans (hc i hi), hz⟩

/-- A hasher's cells. -/
def hlist (S : List Nat) (R : List Int) (n : Nat) : List Value := (S.map fun (k : Nat) => Value.int .u32 (k : Int)) ++ (R.map (Value.int .u8) ++ [.int .i64 n])
def Hs (w : World) (g : Nat) (S : List Nat) (R : List Int) (n : Nat) : Prop := w.heap[g]? = some (.cells (hlist S R n).toArray 132 (0, 0)) ∧ S.length = 8 ∧ R.length = 64

theorem Hs.frozen {w : World} {g : Nat} {S : List Nat} {R : List Int} {n : Nat} (h : Hs w g S R n) (i : Nat) : w.frozen? ⟨g, i, none⟩ = false := frozen_of_row _ _ _ _ _ h.1
theorem Hs.word {w : World} {g : Nat} {S : List Nat} {R : List Int} {n : Nat} (h : Hs w g S R n) (i : Nat) (hi : i < 8) : w.cell? ⟨g, i, none⟩ = some (.int .u32 (S.getD i 0 : Nat)) := by
  obtain ⟨h1, h2, h3⟩ := h
  rw [cell_of_row _ _ _ _ _ _ h1]
  have : i < S.length := by omega
  simp [hlist, List.getElem?_append_left, this, List.getD]
theorem Hs.rest {w : World} {g : Nat} {S : List Nat} {R : List Int} {n : Nat} (h : Hs w g S R n) (i : Nat) (hi : i < 64) : w.cell? ⟨g, 8 + i, none⟩ = some (.int .u8 (R.getD i 0)) := by
  obtain ⟨h1, h2, h3⟩ := h
  rw [cell_of_row _ _ _ _ _ _ h1]
  have : i < R.length := by omega
  simp only [hlist, List.getElem?_toArray]
  rw [List.getElem?_append_right (by simp; omega), List.getElem?_append_left (by simp; omega)]
  simp [h2, List.getElem?_eq_getElem this, List.getD]
theorem Hs.num {w : World} {g : Nat} {S : List Nat} {R : List Int} {n : Nat} (h : Hs w g S R n) : w.cell? ⟨g, 72, none⟩ = some (.int .i64 n) := by
  obtain ⟨h1, h2, h3⟩ := h
  rw [cell_of_row _ _ _ _ _ _ h1]
  simp only [hlist, List.getElem?_toArray]
  rw [List.getElem?_append_right (by simp; omega), List.getElem?_append_right (by simp; omega)]
  simp [h2, h3]
theorem Hs.lt {w : World} {g : Nat} {S : List Nat} {R : List Int} {n : Nat} (h : Hs w g S R n) : g < w.heap.size := World.block_lt_of_cell? _ _ h.num
theorem Hs.below {w w' : World} {B g : Nat} {S : List Nat} {R : List Int} {n : Nat} (h : Hs w g S R n) (hb : Below B w w') (hB : g < B) : Hs w' g S R n := ⟨(hb.block g hB).trans h.1, h.2⟩
theorem Hs.kept {w w' : World} {g : Nat} {S : List Nat} {R : List Int} {n : Nat} (h : Hs w g S R n) (hb : Below w.heap.size w w') : Hs w' g S R n := h.below hb h.lt
theorem Hs.but {w w' : World} {f g : Nat} {S : List Nat} {R : List Int} {n : Nat} (h : Hs w g S R n) (hb : But f w w') (hB : g ≠ f) : Hs w' g S R n := ⟨(hb.block g h.lt hB).trans h.1, h.2⟩
theorem Hs.drew {w : World} {g : Nat} {S : List Nat} {R : List Int} {n : Nat} (h : Hs w g S R n) : Hs w.drew g S R n := h

theorem Hs.setWord {w : World} {g : Nat} {S : List Nat} {R : List Int} {n : Nat} (h : Hs w g S R n) (i : Nat) (hi : i < 8) (k : Nat) : Hs (w.setCell ⟨g, i, none⟩ (.int .u32 (k : Int))) g (S.set i k) R n := by
  obtain ⟨h1, h2, h3⟩ := h
  refine ⟨?_, by simpa using h2, h3⟩
  rw [heap_setCell_same _ _ _ _ _ _ h1]
  congr 2
  apply Array.ext'
  simp only [hlist, List.setIfInBounds_toArray]
  rw [List.set_append_left _ _ (by simp; omega), List.map_set]
theorem Hs.setNum {w : World} {g : Nat} {S : List Nat} {R : List Int} {n : Nat} (h : Hs w g S R n) (k : Nat) : Hs (w.setCell ⟨g, 72, none⟩ (.int .i64 (k : Int))) g S R k := by
  obtain ⟨h1, h2, h3⟩ := h
  refine ⟨?_, h2, h3⟩
  rw [heap_setCell_same _ _ _ _ _ _ h1]
  congr 2
  apply Array.ext'
  simp only [hlist, List.setIfInBounds_toArray]
  rw [List.set_append_right _ _ (by simp; omega), List.set_append_right _ _ (by simp; omega)]
  simp [h2, h3]
theorem Hs.setByte {w : World} {g : Nat} {S : List Nat} {R : List Int} {n : Nat} (h : Hs w g S R n) (i : Nat) (hi : i < 64) (z : Int) : Hs (w.setCell ⟨g, 8 + i, none⟩ (.int .u8 z)) g S (R.set i z) n := by
  obtain ⟨h1, h2, h3⟩ := h
  refine ⟨?_, h2, by simpa using h3⟩
  rw [heap_setCell_same _ _ _ _ _ _ h1]
  congr 2
  apply Array.ext'
  simp only [hlist, List.setIfInBounds_toArray]
  rw [List.set_append_right _ _ (by simp; omega), List.set_append_left _ _ (by simp; omega), List.map_set]
  simp [h2]
/-- Bytes laid over others. -/
def over : List Int → Nat → List Int → List Int
  | R, _, [] => R
  | R, i, z :: r => over (R.set i z) (i + 1) r
theorem Hs.setBytes {g : Nat} {S : List Nat} {n : Nat} : ∀ (zs : List Int) (i : Nat) (w : World) (R : List Int), Hs w g S R n → i + zs.length ≤ 64 → Hs (w.setCells g (8 + i) (zs.map (Value.int .u8))) g S (over R i zs) n
  | [], _, _, _, h, _ => h
  | z :: r, i, w, R, h, hl => by
    have hl' : i + (r.length + 1) ≤ 64 := by simpa using hl
    show Hs ((w.setCell ⟨g, 8 + i, none⟩ (.int .u8 z)).setCells g (8 + i + 1) (r.map (Value.int .u8))) g S (over (R.set i z) (i + 1) r) n
    exact Hs.setBytes r (i + 1) _ _ (h.setByte i (by omega) z) (by omega)
theorem over_len : ∀ (zs : List Int) (R : List Int) (i : Nat), (over R i zs).length = R.length
  | [], _, _ => rfl
  | z :: r, R, i => by show (over (R.set i z) (i + 1) r).length = _; rw [over_len r]; simp
theorem over_get : ∀ (zs : List Int) (R : List Int) (i : Nat) (k : Nat), i + zs.length ≤ R.length → (over R i zs).getD k 0 = if i ≤ k ∧ k < i + zs.length then zs.getD (k - i) 0 else R.getD k 0
  | [], R, i, k, _ => by rw [if_neg (by simp)]; rfl
  | z :: r, R, i, k, h => by
    have h' : i + (r.length + 1) ≤ R.length := by simpa using h
    show (over (R.set i z) (i + 1) r).getD k 0 = _
    rw [over_get r _ _ _ (by simp; omega)]
    have hl : (z :: r).length = r.length + 1 := rfl
    rw [hl]
    by_cases h1 : i + 1 ≤ k ∧ k < i + 1 + r.length
    · rw [if_pos h1, if_pos (by omega)]
      rw [show k - i = (k - (i + 1)) + 1 by omega]
      simp [List.getD]
    · rw [if_neg h1]
      by_cases h2 : k = i
      · subst h2
        rw [if_pos (by omega)]
        simp [List.getD]
        rw [List.getElem?_set_self (by omega)]
        simp
      · rw [if_neg (by omega)]
        simp [List.getD, List.getElem?_set_ne (show i ≠ k by omega)]
end Go.Proofs.YtdnbiibijoggoaaGreatDoor.Sh

namespace Go.Proofs.YtdnbiibijoggoaaGreatDoor.Sh
open Go.RowKit
set_option maxRecDepth 100000

/-- The state's words, the first i of t, the others of s. -/
def mix (t s : List Nat) (i : Nat) : List Nat := t.take i ++ s.drop i
theorem mix_get (t s : List Nat) (i : Nat) (h : t.length = s.length) (hi : i < s.length) : (mix t s i).getD i 0 = s.getD i 0 := by
  unfold mix
  simp only [List.getD]
  rw [List.getElem?_append_right (by simp; omega)]
  simp [Nat.min_eq_left (show i ≤ t.length by omega)]
theorem mix_set (t s : List Nat) (i : Nat) (h : t.length = s.length) (hi : i < s.length) : (mix t s i).set i (t.getD i 0) = mix t s (i + 1) := by
  unfold mix
  rw [List.set_append_right _ _ (by simp; omega)]
  simp only [List.length_take, Nat.min_eq_left (show i ≤ t.length by omega), Nat.sub_self]
  rw [List.drop_eq_getElem_cons hi, List.set_cons_zero, List.take_add_one, List.getElem?_eq_getElem (show i < t.length by omega), List.append_assoc]
  simp [List.getD, List.getElem?_eq_getElem (show i < t.length by omega)]
theorem mix_zero (t s : List Nat) : mix t s 0 = s := by simp [mix]
theorem mix_all (t s : List Nat) (h : t.length = s.length) : mix t s t.length = t := by unfold mix; rw [List.take_length, h]; simp
theorem words_len (s : Pl.S8) : (Pl.words s).length = 8 := rfl
theorem words_add (s t : Pl.S8) (i : Nat) (hi : i < 8) : (Pl.words (Pl.add s t)).getD i 0 = ((Pl.words s).getD i 0 + (Pl.words t).getD i 0) % 4294967296 := by
  match i, hi with
  | 0, _ => rfl
  | 1, _ => rfl
  | 2, _ => rfl
  | 3, _ => rfl
  | 4, _ => rfl
  | 5, _ => rfl
  | 6, _ => rfl
  | 7, _ => rfl

theorem run_index_agg {P : Program} (w : World) (t e : TypeId) (n j : Nat) (k : IntKind) (cs : Array Value) (v : Value) (d : TypeDesc) (hu : P.underlying t = some (.array n e)) (hd : P.underlying e = some d) (hr : d.isRow = false)
    (hi : (P.info? e).map (·.size) = some 1) (hj : j < n) (hc : cs[j]? = some v) : (Instr.index t (.agg cs) (.int k (j : Int))).run P w = .ok v w := by
  cases hq : P.info? e with
  | none => simp [hq] at hi
  | some i =>
    have hs : i.size = 1 := by simpa [hq] using hi
    have hagg : (isAgg e).run P w = .ok false w := by
      unfold isAgg
      rw [Sem.run_bind, run_underlying hd w]
      cases d <;> simp_all
    simp [Instr.index, asIntOf, run_underlying hu, hj, sizeOf, typeInfo, hq, hs, part, hagg, hc]
theorem info46 : (Tryz.prog.info? 85).map (fun i => i.size) = some 1 := by kernel_rfl
theorem not32 (c : Nat) (h : c < 4294967296) : bits .xor .u32 IntKind.u32.max (c : Int) = (Pl.no c : Nat) := by
  have e : IntKind.u32.max = ((4294967295 : Nat) : Int) := by decide
  rw [e]
  exact u32_xor_nat 4294967295 c (by omega) h
theorem chs (e f g : Nat) (he : e < 4294967296) (hf : f < 4294967296) (hg : g < 4294967296) :
    bits .xor .u32 (bits .and .u32 (e : Int) (f : Int)) (bits .and .u32 (bits .xor .u32 IntKind.u32.max (e : Int)) (g : Int)) = (Pl.ch e f g : Nat) := by
  rw [not32 e he, u32_and_nat e f he hf, u32_and_nat _ g (Pl.no_lt he) hg, u32_xor_nat _ _ (Pl.and_lt he) (Pl.and_lt (Pl.no_lt he))]
  rfl
theorem majs (a b c : Nat) (ha : a < 4294967296) (hb : b < 4294967296) (hc : c < 4294967296) :
    bits .xor .u32 (bits .xor .u32 (bits .and .u32 (a : Int) (b : Int)) (bits .and .u32 (a : Int) (c : Int))) (bits .and .u32 (b : Int) (c : Int)) = (Pl.maj a b c : Nat) := by
  rw [u32_and_nat a b ha hb, u32_and_nat a c ha hc, u32_and_nat b c hb hc, u32_xor_nat _ _ (Pl.and_lt ha) (Pl.and_lt ha), u32_xor_nat _ _ (Pl.xor_lt (Pl.and_lt ha) (Pl.and_lt ha)) (Pl.and_lt hb)]
  rfl

set_option maxHeartbeats 2000000 in
set_option maxRecDepth 100000 in
theorem work_any (G : Nat) (s : Pl.S8) (R : List Int) (n : Nat) (v : Value) (xs : List Int) (w : World) (ht : Tab w) (hh : Hs w G (Pl.words s) R n) (hs : Pl.ok s) (sl : Sl w v xs) (hl : xs.length = 64) :
    Calls Tryz.prog 99 #[.pointer (some ⟨G, 0, none⟩), v] w fun e w' => (∃ v, e = .returned v) ∧ Hs w' G (Pl.words (Pl.comp s xs)) R n ∧ But G w w' := by
  have csp := spread_any v xs w sl hl
  have HX : Hid (Pl.comp s xs = Pl.add s (Pl.rnd Pl.K (Pl.sched xs) s 64)) := rfl
  have HWL : Hid (∀ i, (Pl.sched xs).getD i 0 < 4294967296) := Pl.sched_lt sl.bytes
  have HLW : Hid ((Pl.sched xs).length = 64) := Pl.sched_len xs
  generalize Pl.sched xs = W at *
  have HI : Hid ((Tryz.prog.info? 89).map (·.size) = some (u32s W).size) := by unfold Hid; rw [u32s_size, HLW.out]; exact size50
  have HO : Hid ((u32s W).size = 64) := by unfold Hid; rw [u32s_size, HLW.out]
  have HT : Hid (Tab w) := ht
  have HH : Hid (Hs w G (Pl.words s) R n) := hh
  have HOK : Hid (Pl.ok s) := hs
  clear ht hh hs sl hl
  go_enter Tryz.func99, Tryz.ntmps99
  go_wp2_with fail
  refine csp.mono ?_
  rintro e w1 ⟨rfl, bel1⟩
  have BEL1 : Hid (Below w.heap.size w w1) := bel1
  clear csp bel1
  go_wp2_with (refine wpList_store_row rfl 89 _ _ rfl w1.heap.size (u32s W) rfl rfl 89 _ (heap_alloc_new _ _) HI.out (by rw [HO.out]; rfl) (u32s_one W) ?_; rw [World.setRow_alloc_new]; obtain ⟨w2, hw2⟩ : ∃ w2, w2 = w1.alloc (.cells (u32s W) 89) := ⟨_, rfl⟩; rw [← hw2]; have HW2 : Hid (w2 = w1.alloc (.cells (u32s W) 89)) := hw2; clear hw2)
  have HV : Hid (∀ i, i < 64 → w2.cell? ⟨w1.heap.size, i, none⟩ = some (.int .u32 (W.getD i 0 : Nat))) := fun i hi => by
    rw [HW2.out, cell_of_row _ _ _ _ _ _ (heap_alloc_new _ _)]
    exact u32s_get W i (by rw [HLW.out]; exact hi)
  have BEL : Hid (Below w.heap.size w w2) := by unfold Hid; rw [HW2.out]; exact BEL1.out.alloc BEL1.out.size _
  have HVL : Hid (w1.heap.size < w2.heap.size) := World.block_lt_of_cell? _ _ (HV.out 0 (by omega))
  have HT2 : Hid (Tab w2) := HT.out.below BEL.out HT.out.size
  have HH2 : Hid (Hs w2 G (Pl.words s) R n) := HH.out.kept BEL.out
  clear HW2 BEL1
  have c0 := HH2.out.word 0 (by omega)
  have c1 := HH2.out.word 1 (by omega)
  have c2 := HH2.out.word 2 (by omega)
  have c3 := HH2.out.word 3 (by omega)
  have c4 := HH2.out.word 4 (by omega)
  have c5 := HH2.out.word 5 (by omega)
  have c6 := HH2.out.word 6 (by omega)
  have c7 := HH2.out.word 7 (by omega)
  obtain ⟨V, hV⟩ : ∃ V, V = w1.heap.size := ⟨_, rfl⟩
  rw [← hV] at HV HVL ⊢
  clear hV
  change w2.cell? ⟨G, 0, none⟩ = some (.int .u32 (s.a : Nat)) at c0
  change w2.cell? ⟨G, 1, none⟩ = some (.int .u32 (s.b : Nat)) at c1
  change w2.cell? ⟨G, 2, none⟩ = some (.int .u32 (s.c : Nat)) at c2
  change w2.cell? ⟨G, 3, none⟩ = some (.int .u32 (s.d : Nat)) at c3
  change w2.cell? ⟨G, 4, none⟩ = some (.int .u32 (s.e : Nat)) at c4
  change w2.cell? ⟨G, 5, none⟩ = some (.int .u32 (s.f : Nat)) at c5
  change w2.cell? ⟨G, 6, none⟩ = some (.int .u32 (s.g : Nat)) at c6
  change w2.cell? ⟨G, 7, none⟩ = some (.int .u32 (s.h : Nat)) at c7
  go_wp2_with fail
  go_quiet (fail)
  go_wp2_with fail
  clear c0 c1 c2 c3 c4 c5 c6 c7
  go_loopw [6, 7, 8, 9, 10, 11, 12, 13, 56] (fun A B C D E F H L i wr => ∃ (j : Nat) (r : Pl.S8), j ≤ 64 ∧ r = Pl.rnd Pl.K W s j ∧ i = .int .i64 j ∧ A = .int .u32 (r.a : Nat) ∧ B = .int .u32 (r.b : Nat) ∧ C = .int .u32 (r.c : Nat) ∧ D = .int .u32 (r.d : Nat) ∧ E = .int .u32 (r.e : Nat) ∧ F = .int .u32 (r.f : Nat) ∧ H = .int .u32 (r.g : Nat) ∧ L = .int .u32 (r.h : Nat) ∧ Below w2.heap.size w2 wr) (fun _ _ _ _ _ _ _ _ i _ => 64 - (intOf i).toNat)
  case atStart => exact ⟨0, s, by omega, rfl, rfl, rfl, rfl, rfl, rfl, rfl, rfl, rfl, rfl, ⟨rfl, rfl, rfl, Nat.le_refl _, fun _ _ => rfl⟩⟩
  case round =>
    obtain ⟨j, ⟨a, b, c, d, e, f, g, h⟩, hj, hr, rfl, rfl, rfl, rfl, rfl, rfl, rfl, rfl, rfl, bel⟩ := hrel
    have HR : Hid (Pl.S8.mk a b c d e f g h = Pl.rnd Pl.K W s j) := hr
    have BW : Hid (Below w2.heap.size w2 wr) := bel
    have okr := Pl.ok_rnd (K := Pl.K) (W := W) HOK.out j
    rw [← hr] at okr
    obtain ⟨oa, ob, oc, od, oe, of, og, oh⟩ := okr
    dsimp only at oa ob oc od oe of og oh
    clear hr bel
    dsimp only
    by_cases hlt : j < 64
    · have k1 := (BW.out.cell (p := ⟨2, j, none⟩) (show 2 < _ by have := HT2.out.size; omega)).trans (HT2.out.2 j hlt)
      have k2 := (BW.out.cell (p := ⟨V, j, none⟩) HVL.out).trans (HV.out j hlt)
      have t1 := fun w' => turned_any e 6 11 25 w' (by omega) (by omega) (by omega) oe
      have t2 := fun w' => turned_any a 2 13 22 w' (by omega) (by omega) (by omega) oa
      have x1 := chs e f g oe of og
      have x2 := majs a b c oa ob oc
      have HN : Hid (Pl.rnd Pl.K W s (j + 1) = ⟨((h + Pl.tri 6 11 25 e + Pl.ch e f g + Pl.K.getD j 0 + W.getD j 0) % 4294967296 + (Pl.tri 2 13 22 a + Pl.maj a b c) % 4294967296) % 4294967296, a, b, c, (d + (h + Pl.tri 6 11 25 e + Pl.ch e f g + Pl.K.getD j 0 + W.getD j 0) % 4294967296) % 4294967296, e, f, g⟩) := by
        show Pl.step _ _ (Pl.rnd Pl.K W s j) = _
        rw [← HR.out]; rfl
      clear HR
      generalize Pl.K.getD j 0 = kj at *
      generalize W.getD j 0 = wj at *
      generalize Pl.ch e f g = q1 at *
      generalize Pl.maj a b c = q2 at *
      generalize Pl.tri 6 11 25 e = q3 at *
      generalize Pl.tri 2 13 22 a = q4 at *
      have T1 : Hid (∀ w', Calls Tryz.prog 118 #[.int .u32 e, .int .i64 6, .int .i64 11, .int .i64 25] w' fun x y => x = .returned (.int .u32 (q3 : Nat)) ∧ y = w') := t1
      have T2 : Hid (∀ w', Calls Tryz.prog 118 #[.int .u32 a, .int .i64 2, .int .i64 13, .int .i64 22] w' fun x y => x = .returned (.int .u32 (q4 : Nat)) ∧ y = w') := t2
      clear t1 t2
      have lt2 : (j : Int) < 64 := by omega
      go_wp2_with fail
      go_quiet ((go_at_call 118; exact Calls.quiet_of_same (T1.out _)))
      go_wp2_with fail
      refine (T2.out _).mono ?_
      rintro x y ⟨rfl, rfl⟩
      go_wp2_with fail
      exact ⟨⟨j + 1, _, by omega, HN.out.symm, by go_num, by simp, rfl, rfl, rfl, by simp, rfl, rfl, rfl, ⟨BW.out.os, BW.out.tape, BW.out.output, BW.out.size, BW.out.block⟩⟩, by simp [intOf]; omega⟩
    · obtain rfl : j = 64 := by omega
      have HC : Hid (Pl.words (Pl.comp s xs) = Pl.words (Pl.add s ⟨a, b, c, d, e, f, g, h⟩)) := by unfold Hid; rw [HX.out, HR.out]
      have HW' : Hid (Pl.words ⟨a, b, c, d, e, f, g, h⟩ = [a, b, c, d, e, f, g, h]) := rfl
      have HA : Hid (∀ i, i < 8 → (Pl.words (Pl.comp s xs)).getD i 0 = ((Pl.words s).getD i 0 + [a, b, c, d, e, f, g, h].getD i 0) % 4294967296) := fun i hi => by rw [HC.out, words_add _ _ i hi, HW'.out]
      have HCL : Hid ((Pl.words (Pl.comp s xs)).length = 8) := rfl
      have HSL : Hid ((Pl.words s).length = 8) := rfl
      have HB : Hid (Hs wr G (Pl.words s) R n ∧ But G w wr) := ⟨HH2.out.kept BW.out, (But.of BEL.out).trans (But.of BW.out)⟩
      obtain ⟨T, hT⟩ : ∃ T, T = [a, b, c, d, e, f, g, h] := ⟨_, rfl⟩
      have hTA : (#[.int .u32 a, .int .u32 b, .int .u32 c, .int .u32 d, .int .u32 e, .int .u32 f, .int .u32 g, .int .u32 h] : Array Value) = u32s T := by rw [hT]; rfl
      have HTL : Hid (T.length = 8) := by unfold Hid; rw [hT]; rfl
      rw [← hT] at HA
      clear hT HW' HC HR HX
      obtain ⟨Y, hY⟩ : ∃ Y, Y = Pl.words (Pl.comp s xs) := ⟨_, rfl⟩
      have HY : Hid (Pl.words (Pl.comp s xs) = Y) := hY.symm
      rw [← hY] at HA HCL
      clear hY
      generalize Pl.words s = X at *
      go_wp2_with fail
      go_loopw [116] (fun i wr => ∃ j : Nat, j ≤ 8 ∧ i = .int .i64 j ∧ Hs wr G (mix Y X j) R n ∧ But G w wr) (fun i _ => 8 - (intOf i).toNat)
      case atStart => exact ⟨0, by omega, rfl, by rw [mix_zero]; exact HB.out.1, HB.out.2⟩
      case round =>
        obtain ⟨j, hj, rfl, hs1, hb1⟩ := hrel
        have H1 : Hid (Hs wr G (mix Y X j) R n) := hs1
        have B1 : Hid (But G w wr) := hb1
        clear hs1 hb1
        by_cases hlt : j < 8
        · have k := H1.out.word j hlt
          rw [mix_get _ _ _ (by rw [HCL.out, HSL.out]) (by rw [HSL.out]; exact hlt)] at k
          have kf := H1.out.frozen j
          have ti := u32s_get T j (by rw [HTL.out]; exact hlt)
          have hix := run_index_agg (P := Tryz.prog) wr 86 85 8 j .i64 (u32s T) _ _ Tryz.underlying86 Tryz.underlying85 rfl info46 hlt ti
          clear ti
          have NS : Hid (∀ z : Int, z = ((X.getD j 0 : Nat) + (T.getD j 0 : Nat) : Int) % 4294967296 → Hs (wr.setCell ⟨G, j, none⟩ (.int .u32 z)).drew G (mix Y X (j + 1)) R n) := by
            rintro z rfl
            have e := H1.out.setWord j hlt (Y.getD j 0)
            rw [mix_set _ _ _ (by rw [HCL.out, HSL.out]) (by rw [HSL.out]; exact hlt), HA.out j hlt] at e
            rw [Int.natCast_emod, Int.natCast_add] at e
            exact e
          have NB : Hid (∀ z, But G w (wr.setCell ⟨G, j, none⟩ z).drew) := fun z => (B1.out.trans (But.set G j wr z)).drew
          generalize X.getD j 0 = xj at *
          generalize T.getD j 0 = tj at *
          have lt2 : (j : Int) < 8 := by omega
          clear HA
          go_wp2_with fail
          go_region
          go_wp2
          go_roundw
          case rel => exact ⟨j + 1, by omega, by go_num, NS.out _ rfl, NB.out _⟩
          case measure => simp [intOf]; omega
        · obtain rfl : j = 8 := by omega
          have HF : Hid (Hs wr G Y R n) := by
            have := H1.out
            rwa [show mix Y X 8 = Y by rw [← HCL.out]; exact mix_all _ _ (by rw [HCL.out, HSL.out])] at this
          have HG : Hid (Hs wr G (Pl.words (Pl.comp s xs)) R n) := by unfold Hid; rw [HY.out]; exact HF.out
          go_wp2
          refine bodyPost_end (v := .tuple #[]) (by simp [results, Tryz.results99]) rfl ⟨⟨_, rfl⟩, HG.out, B1.out⟩
end Go.Proofs.YtdnbiibijoggoaaGreatDoor.Sh
