/-
  The register of the sum as a plain function: one move, eight moves, bytes worked in; the moves are linear, and no two registers of 32 bits are moved to one.
  What crc.moveHalf, crc.More, crc.Of and the document's run, Of, More answer: the register's plain function; nothing is written. Condition: the package-level table of half bytes holds what its initialiser lays.
  What the document's run, Of and More answer: the register's plain function; nothing is written.
  What crc.Bytes, crc.Seal, bytes.Equal, crc.Open and the document's Of, More, Bytes answer; nothing that was there is changed. Condition: the table of half bytes holds what its initialiser lays.
  What crc.Seal, bytes.Equal and crc.Open answer; nothing that was there is changed. Condition: the table of half bytes holds what its initialiser lays.
-/
import Derived.Laws.BitsAllLaws
import Derived.Test.YtcenchnmibdebaaDoorBas
import Derived.Test.YtcenchnmibdebaaDoorCat
import Derived.Test.YtcenchnmibdebaaDoorBa
import Derived.Deep.RegionHeld3
namespace Go.Proofs.YtcenchnmibdebaaDoor.Cr.Reg

def P : Nat := 0xedb88320

/-- One move. -/
def st (c : Nat) : Nat := if c % 2 = 1 then (c / 2) ^^^ P else c / 2
/-- n moves. -/
def sts : Nat → Nat → Nat
  | 0, c => c
  | n + 1, c => sts n (st c)
/-- A byte worked in. -/
def byteIn (c b : Nat) : Nat := sts 8 (c ^^^ b)
/-- Bytes worked in. -/
def run (c : Nat) (l : List Int) : Nat := l.foldl (fun c b => byteIn c b.toNat) c
/-- All bits turned. -/
def top : Nat := 4294967295
def inv (c : Nat) : Nat := top ^^^ c
theorem top_lt : top < 4294967296 := by decide

theorem st_lt {c : Nat} (h : c < 4294967296) : st c < 4294967296 := by
  unfold st
  split
  · have h1 : c / 2 < 2 ^ 32 := by omega
    have h2 : P < 2 ^ 32 := by decide
    exact Nat.xor_lt_two_pow h1 h2
  · omega
theorem sts_lt (n : Nat) : ∀ {c : Nat}, c < 4294967296 → sts n c < 4294967296 := by
  induction n with
  | zero => intro c h; exact h
  | succ n ih => intro c h; exact ih (st_lt h)
theorem sts_succ (n : Nat) : ∀ c, sts (n + 1) c = st (sts n c) := by
  induction n with
  | zero => intro c; rfl
  | succ n ih => intro c; exact ih (st c)

theorem xor4 (a b c d : Nat) : (a ^^^ b) ^^^ (c ^^^ d) = (a ^^^ c) ^^^ (b ^^^ d) := by
  rw [Nat.xor_assoc, Nat.xor_assoc, ← Nat.xor_assoc b c d, Nat.xor_comm b c, Nat.xor_assoc c b d]

theorem st_eq (c : Nat) : st c = (c / 2) ^^^ (if c % 2 = 1 then P else 0) := by
  unfold st; split <;> simp
theorem st_xor (a b : Nat) : st (a ^^^ b) = st a ^^^ st b := by
  rw [st_eq, st_eq, st_eq, xor4, Nat.xor_div_two]
  congr 1
  have h := @Nat.xor_mod_two_eq_one a b
  by_cases ha : a % 2 = 1 <;> by_cases hb : b % 2 = 1 <;> simp [ha, hb] at h ⊢ <;> simp [h]
theorem sts_xor (n : Nat) : ∀ a b, sts n (a ^^^ b) = sts n a ^^^ sts n b := by
  induction n with
  | zero => intro a b; rfl
  | succ n ih => intro a b; show sts n (st (a ^^^ b)) = _; rw [st_xor, ih]; rfl

theorem st_inj {a b : Nat} (ha : a < 4294967296) (hb : b < 4294967296) (h : st a = st b) : a = b := by
  have key : ∀ c : Nat, c < 4294967296 → st c = 0 → c = 0 := by
    intro c hc h0
    unfold st at h0
    split at h0
    · next h1 =>
      have h2 : c / 2 = P := by
        have := congrArg (· ^^^ P) h0
        simpa [Nat.xor_assoc] using this
      have : P = 3988292384 := rfl
      omega
    · omega
  have h0 : st (a ^^^ b) = 0 := by rw [st_xor, h, Nat.xor_self]
  have hl : a ^^^ b < 2 ^ 32 := Nat.xor_lt_two_pow (by omega) (by omega)
  have hx := key _ hl h0
  have := congrArg (· ^^^ b) hx
  simpa [Nat.xor_assoc] using this
theorem sts_inj (n : Nat) : ∀ {a b : Nat}, a < 4294967296 → b < 4294967296 → sts n a = sts n b → a = b := by
  induction n with
  | zero => intro a b _ _ h; exact h
  | succ n ih => intro a b ha hb h; exact st_inj ha hb (ih (st_lt ha) (st_lt hb) h)

theorem xor_right_inj {a b c : Nat} (h : a ^^^ c = b ^^^ c) : a = b := by
  have := congrArg (· ^^^ c) h
  simpa [Nat.xor_assoc] using this
theorem xor_left_inj {a b c : Nat} (h : c ^^^ a = c ^^^ b) : a = b := by
  rw [Nat.xor_comm c a, Nat.xor_comm c b] at h
  exact xor_right_inj h

theorem xor_lt {a b : Nat} (ha : a < 4294967296) (hb : b < 4294967296) : a ^^^ b < 4294967296 := by
  have : a ^^^ b < 2 ^ 32 := Nat.xor_lt_two_pow (by omega) (by omega)
  omega
theorem byteIn_lt {c b : Nat} (hc : c < 4294967296) (hb : b < 256) : byteIn c b < 4294967296 := sts_lt 8 (xor_lt hc (by omega))
theorem inv_lt {c : Nat} (hc : c < 4294967296) : inv c < 4294967296 := xor_lt top_lt hc
theorem xor_twice (F c : Nat) : F ^^^ (F ^^^ c) = c := by rw [← Nat.xor_assoc, Nat.xor_self, Nat.zero_xor]
theorem inv_inv (c : Nat) : inv (inv c) = c := by
  have h : ∀ c, inv c = top ^^^ c := fun _ => rfl
  rw [h (inv c), h c]
  generalize top = F
  exact xor_twice F c

/-- The list holds bytes. -/
def Byt (l : List Int) : Prop := ∀ x ∈ l, 0 ≤ x ∧ x < 256

theorem run_cons (c : Nat) (x : Int) (l : List Int) : run c (x :: l) = run (byteIn c x.toNat) l := by unfold run; rw [List.foldl_cons]
theorem run_nil (c : Nat) : run c [] = c := rfl
theorem run_lt (l : List Int) : ∀ {c : Nat}, c < 4294967296 → Byt l → run c l < 4294967296 := by
  induction l with
  | nil => intro c h _; exact h
  | cons x l ih =>
    intro c h hl
    have hx := hl x (by simp)
    rw [run_cons]
    exact ih (byteIn_lt h (by omega)) (fun y hy => hl y (by simp [hy]))
theorem run_append (c : Nat) (l m : List Int) : run c (l ++ m) = run (run c l) m := by unfold run; rw [List.foldl_append]
theorem run_snoc (c : Nat) (l : List Int) (x : Int) : run c (l ++ [x]) = byteIn (run c l) x.toNat := by rw [run_append, run_cons, run_nil]
theorem run_inj (l : List Int) : ∀ {a b : Nat}, a < 4294967296 → b < 4294967296 → Byt l → run a l = run b l → a = b := by
  induction l with
  | nil => intro a b _ _ _ h; exact h
  | cons x l ih =>
    intro a b ha hb hl h
    have hx := hl x (by simp)
    rw [run_cons, run_cons] at h
    have h1 := ih (byteIn_lt ha (by omega)) (byteIn_lt hb (by omega)) (fun y hy => hl y (by simp [hy])) h
    unfold byteIn at h1
    exact xor_right_inj (sts_inj 8 (xor_lt ha (by omega)) (xor_lt hb (by omega)) h1)

/-- A byte that differs makes another sum. -/
theorem run_other (c : Nat) (l m : List Int) (x y : Int) (hc : c < 4294967296) (hl : Byt l) (hm : Byt m) (hx : 0 ≤ x ∧ x < 256) (hy : 0 ≤ y ∧ y < 256) (h : x ≠ y) :
    run c (l ++ x :: m) ≠ run c (l ++ y :: m) := by
  intro e
  rw [run_append, run_append, run_cons, run_cons] at e
  have hr := run_lt l hc hl
  have h1 := run_inj m (a := byteIn (run c l) x.toNat) (b := byteIn (run c l) y.toNat) (byteIn_lt hr (by omega)) (byteIn_lt hr (by omega)) hm e
  unfold byteIn at h1
  have h2 := xor_left_inj (sts_inj 8 (xor_lt hr (by omega)) (xor_lt hr (by omega)) h1)
  omega

/-- Half a byte's moves, by the table. -/
def tab : List Nat := [0x00000000, 0x1db71064, 0x3b6e20c8, 0x26d930ac, 0x76dc4190, 0x6b6b51f4, 0x4db26158, 0x5005713c, 0xedb88320, 0xf00f9344, 0xd6d6a3e8, 0xcb61b38c, 0x9b64c2b0, 0x86d3d2d4, 0xa00ae278, 0xbdbdf21c]

theorem st_even (q : Nat) : st (2 * q) = q := by unfold st; rw [if_neg (by omega)]; omega
theorem sts_add (m n : Nat) : ∀ c, sts (m + n) c = sts n (sts m c) := by
  induction m with
  | zero => intro c; simp [sts]
  | succ m ih => intro c; rw [Nat.add_right_comm]; exact ih (st c)
theorem half_low (m : Nat) (h : m < 16) : sts 4 m = tab.getD m 0 := by
  have : (List.range 16).all (fun m => sts 4 m == tab.getD m 0) = true := by decide
  have := List.all_eq_true.1 this m (by simpa using h)
  simpa using this
theorem half_split (r : Nat) : (16 * (r / 16)) ^^^ (r % 16) = r := by
  apply Nat.eq_of_testBit_eq
  intro i
  rw [Nat.testBit_xor, show (16 : Nat) = 2 ^ 4 from rfl, Nat.testBit_two_pow_mul, Nat.testBit_mod_two_pow, Nat.testBit_div_two_pow]
  by_cases h : 4 ≤ i
  · rw [show i - 4 + 4 = i by omega]
    simp [h, Nat.not_lt.2 h]
  · simp [h, Nat.not_le.1 h]
theorem half_eq (r : Nat) : sts 4 r = (r / 16) ^^^ tab.getD (r % 16) 0 := by
  have key : sts 4 ((16 * (r / 16)) ^^^ (r % 16)) = (r / 16) ^^^ tab.getD (r % 16) 0 := by
    rw [sts_xor, half_low (r % 16) (by omega)]
    congr 1
    show st (st (st (st (16 * (r / 16))))) = _
    rw [show 16 * (r / 16) = 2 * (2 * (2 * (2 * (r / 16)))) by omega, st_even, st_even, st_even, st_even]
  rwa [half_split] at key

/-- Two lists, place by place. -/
def xors (l m : List Int) : List Int := List.zipWith (fun x y => ((x.toNat ^^^ y.toNat : Nat) : Int)) l m
theorem run_xor (l : List Int) : ∀ (m : List Int) (a b : Nat), l.length = m.length → run (a ^^^ b) (xors l m) = run a l ^^^ run b m := by
  induction l with
  | nil => intro m a b h; cases m with
    | nil => rfl
    | cons y m => simp at h
  | cons x l ih =>
    intro m a b h
    cases m with
    | nil => simp at h
    | cons y m =>
      have e : byteIn (a ^^^ b) (x.toNat ^^^ y.toNat) = byteIn a x.toNat ^^^ byteIn b y.toNat := by
        unfold byteIn
        rw [xor4, sts_xor]
      rw [show xors (x :: l) (y :: m) = ((x.toNat ^^^ y.toNat : Nat) : Int) :: xors l m from rfl, run_cons, run_cons, run_cons]
      rw [Int.toNat_natCast, e]
      exact ih m _ _ (by simpa using h)
end Go.Proofs.YtcenchnmibdebaaDoor.Cr.Reg
namespace Go.Proofs.YtcenchnmibdebaaDoor.Cr
open Go.RowKit
set_option maxRecDepth 100000

/-- The table of half bytes, as the walks read it. -/
def Tab (w : World) : Prop := ∀ i, i < 16 → w.cell? ⟨1, i, none⟩ = some (.int .u32 (Reg.tab.getD i 0 : Nat))

theorem and15 (r : Nat) (h : r < 4294967296) : bits .and .u32 (r : Int) 15 = ((r % 16 : Nat) : Int) := by
  have := u32_and_nat r 15 h (by omega)
  rw [show ((15 : Nat) : Int) = 15 from rfl] at this
  rw [this]
  have e : r &&& 15 = r % 16 := Nat.and_two_pow_sub_one_eq_mod r 4
  rw [e]

set_option maxHeartbeats 1000000 in
theorem half_any (r : Nat) (w : World) (hw : Tab w) (hr : r < 4294967296) :
    Calls Tryd.prog 73 #[.int .u32 r] w fun e w' => e = .returned (.int .u32 (Reg.sts 4 r : Nat)) ∧ w' = w := by
  have hc := hw (r % 16) (Nat.mod_lt _ (by omega))
  have ha := and15 r hr
  have ht : Reg.tab.getD (r % 16) 0 < 4294967296 := by
    have h1 : Reg.sts 4 (r % 16) = Reg.tab.getD (r % 16) 0 := Reg.half_low _ (Nat.mod_lt _ (by omega))
    rw [← h1]
    exact Reg.sts_lt 4 (by omega)
  have hx := u32_xor_nat (r / 16) (Reg.tab.getD (r % 16) 0) (by omega) ht
  rw [← Reg.half_eq] at hx
  have hm : r % 16 < 16 := Nat.mod_lt _ (by omega)
  generalize Reg.tab.getD (r % 16) 0 = t at *
  generalize r % 16 = m at *
  generalize Reg.sts 4 r = s at *
  rw [Int.natCast_ediv, show ((16 : Nat) : Int) = 16 from rfl] at hx
  clear hw
  go_enter Tryd.func73, Tryd.ntmps73
  go_wp2
  go_ret
  exact ⟨rfl, rfl⟩

theorem not32 (c : Nat) (h : c < 4294967296) : bits .xor .u32 IntKind.u32.max (c : Int) = (Reg.inv c : Nat) := by
  have e : IntKind.u32.max = ((Reg.top : Nat) : Int) := by decide
  have hi : Reg.inv c = Reg.top ^^^ c := rfl
  rw [e, hi]
  exact u32_xor_nat Reg.top c Reg.top_lt h
theorem xorB (r : Nat) (z : Int) (h : r < 4294967296) (h0 : 0 ≤ z) (h1 : z < 256) : bits .xor .u32 (r : Int) z = ((r ^^^ z.toNat : Nat) : Int) := by
  have := u32_xor_nat r z.toNat h (by omega)
  rw [Int.toNat_of_nonneg h0] at this
  exact this

theorem byt_getD {xs : List Int} (h : ∀ i, 0 ≤ xs.getD i 0 ∧ xs.getD i 0 < 256) : Reg.Byt xs := by
  intro x hx
  obtain ⟨i, hi, rfl⟩ := List.getElem_of_mem hx
  have := h i
  simpa [List.getD, List.getElem?_eq_getElem hi] using this
theorem byt_take {xs : List Int} (h : Reg.Byt xs) (n : Nat) : Reg.Byt (xs.take n) := fun x hx => h x (List.mem_of_mem_take hx)
theorem take_next (xs : List Int) (j : Nat) (h : j < xs.length) : xs.take (j + 1) = xs.take j ++ [xs.getD j 0] := by
  rw [List.take_add_one, List.getElem?_eq_getElem h]
  simp [List.getD, List.getElem?_eq_getElem h]

set_option maxHeartbeats 1000000 in
theorem more_any (c : Nat) (v : Value) (xs : List Int) (w : World) (hw : Tab w) (hc : c < 4294967296) (sl : Sl w v xs) :
    Calls Tryd.prog 53 #[.int .u32 c, v] w fun e w' => e = .returned (.int .u32 (Reg.inv (Reg.run (Reg.inv c) xs) : Nat)) ∧ w' = w := by
  have hby := byt_getD sl.bytes
  have hbd := sl.bytes
  obtain ⟨a, cap, rfl, h1, h2, h3, h4⟩ := sl
  have hL : xs.length ≤ 9223372036854775807 := by unfold maxLen at h2; omega
  have hn := not32 c hc
  have hi := Reg.inv_lt hc
  generalize Reg.inv c = q at *
  have HR : Hid (∀ j, Reg.run q (xs.take j) < 4294967296) := fun j => Reg.run_lt _ hi (byt_take hby j)
  have HN : Hid (∀ j, j < xs.length → Reg.run q (xs.take (j + 1)) = Reg.sts 4 (Reg.sts 4 (Reg.run q (xs.take j) ^^^ (xs.getD j 0).toNat))) := fun j hj => by
    rw [take_next xs j hj, Reg.run_snoc]
    show Reg.sts (4 + 4) _ = _
    rw [Reg.sts_add]
  have HE : Hid (∀ j, j = xs.length → Reg.run q xs = Reg.run q (xs.take j)) := fun j hj => by rw [hj, List.take_length]
  have HB : Hid (∀ i, 0 ≤ xs.getD i 0 ∧ xs.getD i 0 < 256) := hbd
  have HW : Hid (Tab w) := hw
  have H4 : Hid (Row w a xs.length cap xs) := h4
  have H0 : Hid (Reg.run q (xs.take 0) = q) := rfl
  clear hby hbd hw h4 h3 h2 hi hc
  generalize hX : xs.length = L at *
  clear hX
  go_enter Tryd.func53, Tryd.ntmps53
  go_wp2
  go_loop [5, 12] (fun r i => ∃ j : Nat, j ≤ L ∧ i = .int .i64 j ∧ r = .int .u32 (Reg.run q (xs.take j) : Nat)) (fun _ i => L - (intOf i).toNat)
  case atStart => exact ⟨0, by omega, rfl, by rw [H0.out]⟩
  case round =>
    obtain ⟨j, hj, rfl, rfl⟩ := hrel
    have hr := HR.out j
    by_cases hlt : j < L
    · rcases H4.out with h0 | ⟨hp, b, off, rfl, hlc, hm, hcell, hz⟩
      · omega
      · have hcj := hcell j hlt
        have hzj := HB.out j
        have hx := xorB _ _ hr hzj.1 hzj.2
        have hnx := HN.out j hlt
        have hr2 : Reg.run q (xs.take j) ^^^ (xs.getD j 0).toNat < 4294967296 := Reg.xor_lt hr (by omega)
        have c1 := half_any _ w HW.out hr2
        have c2 := half_any _ w HW.out (Reg.sts_lt 4 hr2)
        rw [← hnx] at c2
        clear hnx hcell hz hr2
        generalize Reg.run q (xs.take j) = r at *
        obtain ⟨r', hr'⟩ : ∃ r', r' = Reg.run q (xs.take (j + 1)) := ⟨_, rfl⟩
        have HF : Hid (r' = Reg.run q (xs.take (j + 1))) := hr'
        rw [← hr'] at c2
        clear hr'
        generalize xs.getD j 0 = z at *
        generalize Reg.sts 4 (r ^^^ z.toNat) = s at *
        generalize r ^^^ z.toNat = t at *
        go_wp2_with fail
        refine c1.mono ?_
        rintro e w1 ⟨rfl, e1⟩
        subst e1
        clear c1
        go_wp2_with fail
        refine c2.mono ?_
        rintro e w1 ⟨rfl, e1⟩
        subst e1
        clear c2
        go_wp2
        go_round
        case rel => exact ⟨j + 1, by omega, by go_num, by rw [HF.out]⟩
        case measure => simp [intOf]; omega
    · obtain rfl : j = L := by omega
      have hn2 := not32 _ hr
      have HS : Hid (Reg.inv (Reg.run q xs) = Reg.inv (Reg.run q (xs.take j))) := by unfold Hid; rw [HE.out j rfl]
      generalize Reg.run q (xs.take j) = r at *
      generalize Reg.inv r = s at *
      go_wp2
      go_ret
      exact ⟨by rw [HS.out]; rfl, rfl⟩

/-- The sum of bytes. -/
def sumOf (xs : List Int) : Nat := Reg.inv (Reg.run Reg.top xs)
theorem inv0 : Reg.inv 0 = Reg.top := by decide
theorem sum_lt {xs : List Int} (h : Reg.Byt xs) : sumOf xs < 4294967296 := Reg.inv_lt (Reg.run_lt _ Reg.top_lt h)

set_option maxHeartbeats 1000000 in
theorem of_any (v : Value) (xs : List Int) (w : World) (hw : Tab w) (sl : Sl w v xs) :
    Calls Tryd.prog 35 #[v] w fun e w' => e = .returned (.int .u32 (sumOf xs : Nat)) ∧ w' = w := by
  have c := more_any 0 v xs w hw (by omega) sl
  rw [inv0] at c
  unfold sumOf
  generalize Reg.inv (Reg.run Reg.top xs) = s at *
  clear sl hw
  go_enter Tryd.func35, Tryd.ntmps35
  go_wp2_with (go_at_call 53; refine c.mono ?_; rintro e w1 ⟨rfl, rfl⟩)
  go_ret
  exact ⟨rfl, rfl⟩
end Go.Proofs.YtcenchnmibdebaaDoor.Cr
namespace Go.Proofs.YtcenchnmibdebaaDoor.Cr
open Go.RowKit
set_option maxRecDepth 100000

theorem xorP (q : Nat) (h : q < 4294967296) : bits .xor .u32 (q : Int) 3988292384 = ((q ^^^ Reg.P : Nat) : Int) := by
  have e : (3988292384 : Int) = ((Reg.P : Nat) : Int) := by decide
  rw [e]
  exact u32_xor_nat q Reg.P h (by decide)

set_option maxHeartbeats 2000000 in
theorem rrun_any (q : Nat) (v : Value) (xs : List Int) (w : World) (hi : q < 4294967296) (sl : Sl w v xs) :
    Calls Tryd.prog 58 #[.int .u32 q, v] w fun e w' => e = .returned (.int .u32 (Reg.run q xs : Nat)) ∧ w' = w := by
  have hby := byt_getD sl.bytes
  have hbd := sl.bytes
  obtain ⟨a, cap, rfl, h1, h2, h3, h4⟩ := sl
  have hL : xs.length ≤ 9223372036854775807 := by unfold maxLen at h2; omega
  have HR : Hid (∀ j, Reg.run q (xs.take j) < 4294967296) := fun j => Reg.run_lt _ hi (byt_take hby j)
  have HN : Hid (∀ j, j < xs.length → Reg.run q (xs.take (j + 1)) = Reg.sts 8 (Reg.run q (xs.take j) ^^^ (xs.getD j 0).toNat)) := fun j hj => by
    rw [take_next xs j hj, Reg.run_snoc]
    rfl
  have HE : Hid (∀ j, j = xs.length → Reg.run q xs = Reg.run q (xs.take j)) := fun j hj => by rw [hj, List.take_length]
  have HB : Hid (∀ i, 0 ≤ xs.getD i 0 ∧ xs.getD i 0 < 256) := hbd
  have H4 : Hid (Row w a xs.length cap xs) := h4
  have H0 : Hid (Reg.run q (xs.take 0) = q) := rfl
  clear hby hbd h4 h3 h2 hi
  generalize hX : xs.length = L at *
  clear hX
  go_enter Tryd.func58, Tryd.ntmps58
  go_wp2
  go_loop [0, 5] (fun r i => ∃ j : Nat, j ≤ L ∧ i = .int .i64 j ∧ r = .int .u32 (Reg.run q (xs.take j) : Nat)) (fun _ i => L - (intOf i).toNat)
  case atStart => exact ⟨0, by omega, rfl, by rw [H0.out]⟩
  case round =>
    obtain ⟨j, hj, rfl, rfl⟩ := hrel
    have hr := HR.out j
    by_cases hlt : j < L
    · rcases H4.out with h0 | ⟨hp, b, off, rfl, hlc, hm, hcell, hz⟩
      · omega
      · have hcj := hcell j hlt
        have hzj := HB.out j
        have hx := xorB _ _ hr hzj.1 hzj.2
        have hnx := HN.out j hlt
        have hr2 : Reg.run q (xs.take j) ^^^ (xs.getD j 0).toNat < 4294967296 := Reg.xor_lt hr (by omega)
        have HF : Hid (Reg.run q (xs.take (j + 1)) = Reg.sts 8 (Reg.run q (xs.take j) ^^^ (xs.getD j 0).toNat)) := hnx
        clear hnx hcell hz
        generalize Reg.run q (xs.take j) = r at *
        generalize xs.getD j 0 = z at *
        generalize r ^^^ z.toNat = t at *
        have HT : Hid (∀ k, Reg.sts k t < 4294967296) := fun k => Reg.sts_lt k hr2
        go_wp2
        go_loop [0, 6] (fun r i => ∃ k : Nat, k ≤ 8 ∧ i = .int .i64 k ∧ r = .int .u32 (Reg.sts k t : Nat)) (fun _ i => 8 - (intOf i).toNat)
        case atStart => exact ⟨0, by omega, rfl, rfl⟩
        case round =>
          obtain ⟨k, hk, rfl, rfl⟩ := hrel
          by_cases hlt8 : k < 8
          · have hs := HT.out k
            have HK : Hid (Reg.sts (k + 1) t = Reg.st (Reg.sts k t)) := Reg.sts_succ k t
            generalize Reg.sts k t = s at *
            by_cases hodd : s % 2 = 1
            · have HV : Hid (Reg.st s = s / 2 ^^^ Reg.P) := by unfold Hid Reg.st; rw [if_pos hodd]
              have hp1 := xorP (s / 2) (by omega)
              rw [Int.natCast_ediv, show ((2 : Nat) : Int) = 2 from rfl] at hp1
              generalize s / 2 ^^^ Reg.P = s' at *
              have hm1 : (s : Int) % 2 = 1 := by omega
              clear hodd
              go_wp2
              go_round
              case rel => exact ⟨k + 1, by omega, by go_num, by rw [HK.out, HV.out]⟩
              case measure => simp [intOf]; omega
            · have HV : Hid (Reg.st s = s / 2) := by unfold Hid Reg.st; rw [if_neg hodd]
              have hm1 : (s : Int) % 2 = 0 := by omega
              clear hodd
              go_wp2
              go_round
              case rel => exact ⟨k + 1, by omega, by go_num, by rw [HK.out, HV.out, Int.natCast_ediv]; rfl⟩
              case measure => simp [intOf]; omega
          · obtain rfl : k = 8 := by omega
            rw [← HF.out]
            go_wp2
            go_round
            case rel => exact ⟨j + 1, by omega, by go_num, rfl⟩
            case measure => simp [intOf]; omega
    · obtain rfl : j = L := by omega
      have HS : Hid (Reg.run q xs = Reg.run q (xs.take j)) := by unfold Hid; rw [HE.out j rfl]
      generalize Reg.run q (xs.take j) = r at *
      go_wp2
      go_ret
      exact ⟨by rw [HS.out]; rfl, rfl⟩
end Go.Proofs.YtcenchnmibdebaaDoor.Cr
namespace Go.Proofs.YtcenchnmibdebaaDoor.Cr
open Go.RowKit
set_option maxRecDepth 100000

/-- A sum's four bytes, the lowest first. -/
def leB (c : Nat) : List Int := [(c : Int) % 256, (c : Int) / 256 % 256, (c : Int) / 65536 % 256, (c : Int) / 16777216 % 256]

theorem leB_bytes (c : Nat) : ∀ i, 0 ≤ (leB c).getD i 0 ∧ (leB c).getD i 0 < 256 := by
  refine byteList _ ?_
  simp [leB]
  omega

set_option maxHeartbeats 1000000 in
theorem bytes_any (c : Nat) (w : World) :
    Calls Tryd.prog 34 #[.int .u32 c] w fun r w' => ∃ v, r = .returned v ∧ Sl w' v (leB c) ∧ Below w.heap.size w w' := by
  have hs : Sl (w.alloc (.cells ((leB c).map (Value.int .u8)).toArray 5)) (.slice (some ⟨w.heap.size, 0, none⟩) 4 4) (leB c) :=
    ⟨_, 4, rfl, by simp [leB], by simp [maxLen], fun e => (by cases e), row_new w (leB c) (leB_bytes c) (by simp [maxLen, leB])⟩
  have HS : Hid (Sl (w.alloc (.cells ((leB c).map (Value.int .u8)).toArray 5)) (.slice (some ⟨w.heap.size, 0, none⟩) 4 4) (leB c)) := hs
  clear hs
  go_enter Tryd.func34, Tryd.ntmps34
  go_wp2
  go_ret
  exact ⟨_, rfl, HS.out, (Below.refl _ _).alloc (Nat.le_refl _) _⟩

set_option maxHeartbeats 1000000 in
theorem rbytes_any (c : Nat) (w : World) :
    Calls Tryd.prog 40 #[.int .u32 c] w fun r w' => ∃ v, r = .returned v ∧ Sl w' v (leB c) ∧ Below w.heap.size w w' := by
  have hs : Sl (w.alloc (.cells ((leB c).map (Value.int .u8)).toArray 5)) (.slice (some ⟨w.heap.size, 0, none⟩) 4 4) (leB c) :=
    ⟨_, 4, rfl, by simp [leB], by simp [maxLen], fun e => (by cases e), row_new w (leB c) (leB_bytes c) (by simp [maxLen, leB])⟩
  have HS : Hid (Sl (w.alloc (.cells ((leB c).map (Value.int .u8)).toArray 5)) (.slice (some ⟨w.heap.size, 0, none⟩) 4 4) (leB c)) := hs
  clear hs
  go_enter Tryd.func40, Tryd.ntmps40
  go_wp2
  go_ret
  exact ⟨_, rfl, HS.out, (Below.refl _ _).alloc (Nat.le_refl _) _⟩

set_option maxHeartbeats 1000000 in
theorem rof_any (v : Value) (xs : List Int) (w : World) (sl : Sl w v xs) :
    Calls Tryd.prog 41 #[v] w fun e w' => e = .returned (.int .u32 (sumOf xs : Nat)) ∧ w' = w := by
  have c := rrun_any Reg.top v xs w Reg.top_lt sl
  have hn := not32 (Reg.run Reg.top xs) (Reg.run_lt _ Reg.top_lt (byt_getD sl.bytes))
  have ht : ((Reg.top : Nat) : Int) = 4294967295 := by decide
  rw [ht] at c
  unfold sumOf
  generalize Reg.inv (Reg.run Reg.top xs) = s at *
  generalize Reg.run Reg.top xs = r at *
  clear sl ht
  go_enter Tryd.func41, Tryd.ntmps41
  go_wp2_with (go_at_call 58; refine c.mono ?_; rintro e w1 ⟨rfl, rfl⟩)
  go_ret
  exact ⟨rfl, rfl⟩

end Go.Proofs.YtcenchnmibdebaaDoor.Cr
namespace Go.Proofs.YtcenchnmibdebaaDoor.Cr
open Go.RowKit
set_option maxRecDepth 100000

theorem Tab.pos {w : World} (h : Tab w) : 1 < w.heap.size := World.block_lt_of_cell? w _ (h 0 (by omega))
theorem Tab.below {w w' : World} {B : Nat} (h : Tab w) (hb : Below B w w') (hB : 1 < B) : Tab w' := fun i hi => (hb.cell (p := ⟨1, i, none⟩) hB).trans (h i hi)

set_option maxHeartbeats 1000000 in
theorem seal_any (v : Value) (xs : List Int) (w : World) (hw : Tab w) (sl : Sl w v xs) (hbig : xs.length ≤ 100000000000000) :
    Calls Tryd.prog 20 #[v] w fun r w' => ∃ v', r = .returned v' ∧ w'.ownsRow w.heap.size 5 1 v' (xs ++ leB (sumOf xs)).length ((xs ++ leB (sumOf xs)).map (Value.int .u8)) ∧ Below w.heap.size w w' := by
  have c1 := of_any v xs w hw sl
  have c2 := bytes_any (sumOf xs) w
  obtain ⟨a, cap, rfl, _⟩ := id sl
  generalize hC : sumOf xs = C at *
  have hfl : [xs, leB C].flatten = xs ++ leB C := by simp
  have HC : Hid (∀ (w1 : World) u1 u2, Sl w1 u1 xs → Sl w1 u2 (leB C) → Calls Tryd.prog 33 #[.slice (some ⟨w1.heap.size, 0, none⟩) 2 2] (w1.alloc (.cells #[u1, u2] 27)) fun r w' => ∃ v, r = .returned v ∧ w'.ownsRow (w1.heap.size + 1) 5 1 v (xs ++ leB C).length ((xs ++ leB C).map (Value.int .u8)) ∧ Below (w1.heap.size + 1) (w1.alloc (.cells #[u1, u2] 27)) w') := fun w1 u1 u2 s1 s2 => by
    have h := concat_any _ 2 _ _ (parts2 w1 u1 u2 xs (leB C) s1 s2) (by rw [hfl, List.length_append]; simp [leB]; omega)
    rw [hfl] at h
    simpa using h
  clear hfl
  have HSL : Hid (∀ w', Below w.heap.size w w' → Sl w' (.slice a xs.length cap) xs) := fun w' hb => sl.kept hb
  clear sl hw
  generalize xs.length = L at *
  go_enter Tryd.func20, Tryd.ntmps20
  go_wp2_with fail
  refine c1.mono ?_
  rintro e w1 ⟨rfl, e1⟩
  subst e1
  clear c1
  go_wp2_with fail
  refine c2.mono ?_
  rintro e w2 ⟨v2, rfl, sl2, bel2⟩
  clear c2
  have c3 := HC.out w2 _ v2 (HSL.out _ bel2) sl2
  obtain ⟨a2, cap2, rfl, _⟩ := sl2
  clear HC HSL
  have hl4 : (leB C).length = 4 := rfl
  rw [hl4] at c3 ⊢
  go_wp2_with fail
  refine c3.mono ?_
  rintro e w3 ⟨v3, rfl, own3, bel3⟩
  clear c3
  have B3 : Below w1.heap.size w1 w3 := (bel2.alloc bel2.size _).trans (bel3.mono (by have := bel2.size; omega))
  have HO : Hid (w3.ownsRow w1.heap.size 5 1 v3 (xs ++ leB C).length ((xs ++ leB C).map (Value.int .u8))) := own_mono own3 (by have := bel2.size; omega)
  clear own3 bel3 bel2
  go_wp2
  go_ret
  exact ⟨_, rfl, HO.out, B3⟩

/-- What Open answers. -/
def opE (ys : List Int) : Int := if ys.length < 4 then 3 else if ys.drop (ys.length - 4) = leB (sumOf (ys.take (ys.length - 4))) then 0 else 14
def opX (ys : List Int) : List Int := if opE ys = 0 then ys.take (ys.length - 4) else []

end Go.Proofs.YtcenchnmibdebaaDoor.Cr
