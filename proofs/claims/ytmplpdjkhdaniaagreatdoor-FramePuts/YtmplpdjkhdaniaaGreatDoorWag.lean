/-
  What varint.Get and varint.Shortest answer for whatever bytes: the number that they begin with and its width, or the error that the document names; nothing is written. Condition: the package-level table of widths holds 1, 2, 4, 8.
  What the walks share of rows of bytes: a new row, a row carried on, a row as a string.
  The bytes that a number is put as are bytes, say their width, and are read as the number: plain facts on numbers, no program in sight but the definitions.
  What slices.Grow of nil and slices.Concat answer: a slice of the call's own that holds the parts' bytes, one behind the other; nothing that was there is changed.
-/
import Derived.Test.YtmplpdjkhdaniaaGreatDoorWaf
import Derived.Laws.IdiomStrings
import Derived.Laws.AppendOwnNone
import Derived.Deep.DeepAppendWide
import Derived.Lib.AppendZerosOnto
import Derived.Lib.Walk
namespace Go.Proofs.YtmplpdjkhdaniaaGreatDoor.Fi
open Go.RowKit
set_option maxRecDepth 100000

set_option maxHeartbeats 1000000 in
theorem get_empty (a : Option Addr) (cap : Nat) (w : World) :
    Calls Tryz.prog 99 #[.slice a 0 cap] w fun e w' => e = .returned (.tuple #[.int .i64 0, .int .i64 0, .int .i64 3]) ∧ w' = w := by
  go_enter Tryz.func99, Tryz.ntmps99
  go_wp2
  go_ret3
  exact ⟨rfl, rfl⟩

set_option maxHeartbeats 1000000 in
theorem get_cut (b off len cap : Nat) (z : Int) (w : World) (hw : Wid w) (hm : len ≤ maxLen) (hp : 0 < len) (hc : w.cell? ⟨b, off, none⟩ = some (.int .u8 z)) (k : Nat) (hz : z / 64 = k) (h0 : 0 ≤ z) (h1 : z < 256) (hl : len < 2 ^ k) :
    Calls Tryz.prog 99 #[.slice (some ⟨b, off, none⟩) len cap] w fun e w' => e = .returned (.tuple #[.int .i64 0, .int .i64 0, .int .i64 3]) ∧ w' = w := by
  obtain ⟨c0, c1, c2, c3⟩ := hw
  unfold maxLen at hm
  have hne : ((len : Int) == 0) = false := by simp; omega
  have hk : k = 0 ∨ k = 1 ∨ k = 2 ∨ k = 3 := by omega
  rcases hk with rfl | rfl | rfl | rfl
  all_goals
    simp at hz hl
  · omega
  all_goals
    go_enter Tryz.func99, Tryz.ntmps99
    go_wp2
    go_ret3
    exact ⟨rfl, rfl⟩

/-- The number that k + 1 bytes say, the first one without its mark. -/
def gval (zs : List Int) : Nat → Int
  | 0 => zs.getD 0 0 % 64
  | k + 1 => gval zs k * 256 + zs.getD (k + 1) 0

theorem gval_bd (zs : List Int) (hb : ∀ i, 0 ≤ zs.getD i 0 ∧ zs.getD i 0 < 256) (k : Nat) : 0 ≤ gval zs k ∧ gval zs k < 64 * 256 ^ k := by
  induction k with
  | zero => simp only [gval]; omega
  | succ k ih =>
    have := hb (k + 1)
    simp only [gval]
    have e : (256 : Int) ^ (k + 1) = 256 ^ k * 256 := Int.pow_succ 256 k
    rw [e]
    omega

theorem gval_lt (zs : List Int) (hb : ∀ i, 0 ≤ zs.getD i 0 ∧ zs.getD i 0 < 256) (k : Nat) (hk : k < 7) : 0 ≤ gval zs k ∧ gval zs k < 18014398509481984 := by
  have h := gval_bd zs hb k
  have : (64 * 256 ^ k : Int) ≤ 18014398509481984 := by
    match k, hk with
    | 0, _ => decide
    | 1, _ => decide
    | 2, _ => decide
    | 3, _ => decide
    | 4, _ => decide
    | 5, _ => decide
    | 6, _ => decide
  omega

theorem or_join (x y : Int) (h0 : 0 ≤ x) (h1 : x < 18014398509481984) (h2 : 0 ≤ y) (h3 : y < 256) : bits .or .i64 (x * 256) y = x * 256 + y :=
  bits_join .i64 63 (by decide) wraps_i64 8 _ _ (by omega) (by omega) (by omega) h2 (by omega) (by omega)

set_option maxHeartbeats 2000000 in
theorem get_ok (b off len cap : Nat) (zs : List Int) (w : World) (hw : Wid w) (hlc : len ≤ cap) (hm : cap ≤ maxLen)
    (hc : ∀ i, i < len → w.cell? ⟨b, off + i, none⟩ = some (.int .u8 (zs.getD i 0))) (hb : ∀ i, 0 ≤ zs.getD i 0 ∧ zs.getD i 0 < 256)
    (k : Nat) (hz : zs.getD 0 0 / 64 = k) (hl : 2 ^ k ≤ len) :
    Calls Tryz.prog 99 #[.slice (some ⟨b, off, none⟩) len cap] w fun e w' => e = .returned (.tuple #[.int .i64 (gval zs (2 ^ k - 1)), .int .i64 (2 ^ k : Nat), .int .i64 0]) ∧ w' = w := by
  obtain ⟨c0, c1, c2, c3⟩ := hw
  unfold maxLen at hm
  obtain ⟨h0, h1⟩ := hb 0
  have hp : 0 < len := Nat.lt_of_lt_of_le (Nat.two_pow_pos k) hl
  have hcz : w.cell? ⟨b, off, none⟩ = some (.int .u8 (zs.getD 0 0)) := hc 0 hp
  obtain ⟨z, hz'⟩ : ∃ z, zs.getD 0 0 = z := ⟨_, rfl⟩
  have hg0 : gval zs 0 = z % 64 := by rw [← hz']; rfl
  rw [hz'] at h0 h1 hz hcz
  clear hz'
  have hne : ((len : Int) == 0) = false := by simp; omega
  have hk : k = 0 ∨ k = 1 ∨ k = 2 ∨ k = 3 := by omega
  have HC : Hid (∀ i, i < len → w.cell? ⟨b, off + i, none⟩ = some (.int .u8 (zs.getD i 0))) := hc
  have HB : Hid (∀ i, 0 ≤ zs.getD i 0 ∧ zs.getD i 0 < 256) := hb
  have HG : Hid (gval zs 0 = z % 64) := hg0
  clear hc hb hg0
  rcases hk with rfl | rfl | rfl | rfl
  · simp at hz hl
    rw [show gval zs (2 ^ 0 - 1) = z % 64 from HG.out]
    go_enter Tryz.func99, Tryz.ntmps99
    go_wp2
    all_goals
      go_rounds 1
      go_ret3
      exact ⟨rfl, rfl⟩
  · simp at hz hl
    go_enter Tryz.func99, Tryz.ntmps99
    go_wp2
    go_loop [2, 29] (fun n i => ∃ j : Nat, j ≤ 1 ∧ i = .int .i64 j ∧ n = .int .i64 (gval zs j)) (fun _ i => 8 - (intOf i).toNat)
    case atStart => exact ⟨0, by omega, rfl, by rw [HG.out]⟩
    case round =>
      obtain ⟨j, hj, rfl, rfl⟩ := hrel
      by_cases hlt : j < 1
      · have hcx : w.cell? ⟨b, off + 1 + j, none⟩ = some (.int .u8 (zs.getD (j + 1) 0)) := by rw [show off + 1 + j = off + (j + 1) by omega]; exact HC.out _ (by omega)
        obtain ⟨g0, g1⟩ := gval_lt zs HB.out j (by omega)
        obtain ⟨b0, b1⟩ := HB.out (j + 1)
        obtain ⟨y, hy⟩ : ∃ y, zs.getD (j + 1) 0 = y := ⟨_, rfl⟩
        have HY : Hid (gval zs (j + 1) = gval zs j * 256 + y) := by rw [← hy]; rfl
        rw [hy] at hcx b0 b1
        clear hy
        have ho := or_join (gval zs j) y g0 g1 b0 b1
        go_wp2
        go_round
        case rel => exact ⟨j + 1, by omega, by go_num, by rw [HY.out]⟩
        case measure => simp [intOf]; omega
      · obtain rfl : j = 1 := by omega
        go_wp2
        go_ret3
        exact ⟨rfl, rfl⟩
  · simp at hz hl
    go_enter Tryz.func99, Tryz.ntmps99
    go_wp2
    go_loop [2, 29] (fun n i => ∃ j : Nat, j ≤ 3 ∧ i = .int .i64 j ∧ n = .int .i64 (gval zs j)) (fun _ i => 8 - (intOf i).toNat)
    case atStart => exact ⟨0, by omega, rfl, by rw [HG.out]⟩
    case round =>
      obtain ⟨j, hj, rfl, rfl⟩ := hrel
      by_cases hlt : j < 3
      · have hcx : w.cell? ⟨b, off + 1 + j, none⟩ = some (.int .u8 (zs.getD (j + 1) 0)) := by rw [show off + 1 + j = off + (j + 1) by omega]; exact HC.out _ (by omega)
        obtain ⟨g0, g1⟩ := gval_lt zs HB.out j (by omega)
        obtain ⟨b0, b1⟩ := HB.out (j + 1)
        obtain ⟨y, hy⟩ : ∃ y, zs.getD (j + 1) 0 = y := ⟨_, rfl⟩
        have HY : Hid (gval zs (j + 1) = gval zs j * 256 + y) := by rw [← hy]; rfl
        rw [hy] at hcx b0 b1
        clear hy
        have ho := or_join (gval zs j) y g0 g1 b0 b1
        go_wp2
        go_round
        case rel => exact ⟨j + 1, by omega, by go_num, by rw [HY.out]⟩
        case measure => simp [intOf]; omega
      · obtain rfl : j = 3 := by omega
        go_wp2
        go_ret3
        exact ⟨rfl, rfl⟩
  · simp at hz hl
    go_enter Tryz.func99, Tryz.ntmps99
    go_wp2
    go_loop [2, 29] (fun n i => ∃ j : Nat, j ≤ 7 ∧ i = .int .i64 j ∧ n = .int .i64 (gval zs j)) (fun _ i => 8 - (intOf i).toNat)
    case atStart => exact ⟨0, by omega, rfl, by rw [HG.out]⟩
    case round =>
      obtain ⟨j, hj, rfl, rfl⟩ := hrel
      by_cases hlt : j < 7
      · have hcx : w.cell? ⟨b, off + 1 + j, none⟩ = some (.int .u8 (zs.getD (j + 1) 0)) := by rw [show off + 1 + j = off + (j + 1) by omega]; exact HC.out _ (by omega)
        obtain ⟨g0, g1⟩ := gval_lt zs HB.out j (by omega)
        obtain ⟨b0, b1⟩ := HB.out (j + 1)
        obtain ⟨y, hy⟩ : ∃ y, zs.getD (j + 1) 0 = y := ⟨_, rfl⟩
        have HY : Hid (gval zs (j + 1) = gval zs j * 256 + y) := by rw [← hy]; rfl
        rw [hy] at hcx b0 b1
        clear hy
        have ho := or_join (gval zs j) y g0 g1 b0 b1
        go_wp2
        go_round
        case rel => exact ⟨j + 1, by omega, by go_num, by rw [HY.out]⟩
        case measure => simp [intOf]; omega
      · obtain rfl : j = 7 := by omega
        go_wp2
        go_ret3
        exact ⟨rfl, rfl⟩

/-- What the walks ask of a slice of bytes: it is empty, or its first 'len' cells hold the numbers zs, each a byte. -/
def Row (w : World) (a : Option Addr) (len cap : Nat) (zs : List Int) : Prop :=
  len = 0 ∨ (0 < len ∧ ∃ b off, a = some ⟨b, off, none⟩ ∧ len ≤ cap ∧ cap ≤ maxLen ∧
    (∀ i, i < len → w.cell? ⟨b, off + i, none⟩ = some (.int .u8 (zs.getD i 0))) ∧ (∀ i, 0 ≤ zs.getD i 0 ∧ zs.getD i 0 < 256))

/-- Which of the widths the first byte's mark says. -/
def gk (zs : List Int) : Nat := (zs.getD 0 0 / 64).toNat

/-- What Get answers: number, width, error. -/
def getN (len : Nat) (zs : List Int) : Int := if len < 2 ^ gk zs ∨ len = 0 then 0 else gval zs (2 ^ gk zs - 1)
def getU (len : Nat) (zs : List Int) : Int := if len < 2 ^ gk zs ∨ len = 0 then 0 else (2 ^ gk zs : Nat)
def getE (len : Nat) (zs : List Int) : Int := if len < 2 ^ gk zs ∨ len = 0 then 3 else 0

theorem get_any (a : Option Addr) (len cap : Nat) (zs : List Int) (w : World) (hw : Wid w) (hr : Row w a len cap zs) :
    Calls Tryz.prog 99 #[.slice a len cap] w fun e w' => e = .returned (.tuple #[.int .i64 (getN len zs), .int .i64 (getU len zs), .int .i64 (getE len zs)]) ∧ w' = w := by
  unfold getN getU getE
  rcases hr with rfl | ⟨hp, b, off, rfl, hlc, hm, hc, hb⟩
  · rw [if_pos (.inr rfl), if_pos (.inr rfl), if_pos (.inr rfl)]
    exact get_empty a cap w
  · obtain ⟨h0, h1⟩ := hb 0
    have hz : zs.getD 0 0 / 64 = (gk zs : Nat) := by unfold gk; omega
    by_cases hl : len < 2 ^ gk zs
    · rw [if_pos (.inl hl), if_pos (.inl hl), if_pos (.inl hl)]
      exact get_cut b off len cap _ w hw (by omega) hp (hc 0 hp) (gk zs) hz h0 h1 hl
    · rw [if_neg (by omega), if_neg (by omega), if_neg (by omega)]
      exact get_ok b off len cap zs w hw hlc hm hc hb (gk zs) hz (by omega)

/-- What Shortest answers. -/
def shN (len : Nat) (zs : List Int) : Int := if getE len zs = 0 ∧ getU len zs ≤ lenOf (getN len zs) then getN len zs else 0
def shU (len : Nat) (zs : List Int) : Int := if getE len zs = 0 ∧ getU len zs ≤ lenOf (getN len zs) then getU len zs else 0
def shE (len : Nat) (zs : List Int) : Int := if getE len zs = 0 then (if getU len zs ≤ lenOf (getN len zs) then 0 else 4) else getE len zs

set_option maxHeartbeats 1000000 in
theorem shortest_any (a : Option Addr) (len cap : Nat) (zs : List Int) (w : World) (hw : Wid w) (hr : Row w a len cap zs) :
    Calls Tryz.prog 89 #[.slice a len cap] w fun e w' => e = .returned (.tuple #[.int .i64 (shN len zs), .int .i64 (shU len zs), .int .i64 (shE len zs)]) ∧ w' = w := by
  unfold shN shU shE
  have hg := get_any a len cap zs w hw hr
  generalize getN len zs = n at *
  generalize getU len zs = u at *
  generalize getE len zs = g at *
  by_cases h : g = 0
  · subst h
    by_cases h2 : u ≤ lenOf n
    · rw [if_pos ⟨rfl, h2⟩, if_pos ⟨rfl, h2⟩, if_pos rfl, if_pos h2]
      go_enter Tryz.func89, Tryz.ntmps89
      go_wp2_with (first | (go_at_call 99; refine hg.mono ?_; rintro e w' ⟨rfl, rfl⟩) | (go_at_call 85; refine (len_any n _ hw).mono ?_; rintro e w' ⟨rfl, rfl⟩))
      go_ret3
      exact ⟨rfl, rfl⟩
    · have h3 : lenOf n < u := by omega
      rw [if_neg (by omega), if_neg (by omega), if_pos rfl, if_neg h2]
      go_enter Tryz.func89, Tryz.ntmps89
      go_wp2_with (first | (go_at_call 99; refine hg.mono ?_; rintro e w' ⟨rfl, rfl⟩) | (go_at_call 85; refine (len_any n _ hw).mono ?_; rintro e w' ⟨rfl, rfl⟩))
      go_ret3
      exact ⟨rfl, rfl⟩
  · have h' : (g == 0) = false := by simpa using h
    rw [if_neg (by omega), if_neg (by omega), if_neg h]
    go_enter Tryz.func89, Tryz.ntmps89
    go_wp2_with (first | (go_at_call 99; refine hg.mono ?_; rintro e w' ⟨rfl, rfl⟩) | (go_at_call 85; refine (len_any n _ hw).mono ?_; rintro e w' ⟨rfl, rfl⟩))
    go_ret3
    exact ⟨rfl, rfl⟩
end Go.Proofs.YtmplpdjkhdaniaaGreatDoor.Fi
namespace Go.Proofs.YtmplpdjkhdaniaaGreatDoor.Fi
open Go.RowKit
set_option maxRecDepth 100000

theorem Wid.pos {w : World} (h : Wid w) : 1 < w.heap.size := World.block_lt_of_cell? w _ h.1
theorem Wid.below {w w' : World} {B : Nat} (h : Wid w) (hb : Below B w w') (hB : 1 < B) : Wid w' := by
  obtain ⟨c0, c1, c2, c3⟩ := h
  exact ⟨(hb.cell (p := ⟨1, 0, none⟩) hB).trans c0, (hb.cell (p := ⟨1, 1, none⟩) hB).trans c1, (hb.cell (p := ⟨1, 2, none⟩) hB).trans c2, (hb.cell (p := ⟨1, 3, none⟩) hB).trans c3⟩
theorem Wid.alloc {w : World} (h : Wid w) (o : Obj) : Wid (w.alloc o) := h.below ((Below.refl w.heap.size w).alloc (Nat.le_refl _) o) h.pos

/-- Bytes, given as numbers, as a string. -/
def strB (l : List Int) : ByteArray := ⟨(l.map fun n => UInt8.ofNat n.toNat).toArray⟩

theorem conv_any (a : Option Addr) (len cap : Nat) (zs : List Int) (w : World) (hz : len ≤ zs.length) (hr : Row w a len cap zs) :
    (convert 34 9 (.slice a len cap)).run Tryz.prog w = .ok (.string (strB (zs.take len))) w := by
  rcases hr with rfl | ⟨hp, b, off, rfl, hlc, hm, hc, hb⟩
  · cases a with
    | none => rw [run_convert_bytes_string w 34 9 5 none 0 cap Tryz.underlying34 Tryz.underlying5 Tryz.underlying9]; rfl
    | some a => exact run_convert_bytes_back (P := Tryz.prog) w 34 9 5 a cap [] Tryz.underlying34 Tryz.underlying5 Tryz.underlying9 (fun j hj => by simp at hj)
  · have hlen : ((zs.take len).map fun n => UInt8.ofNat n.toNat).length = len := by simp; omega
    have h := run_convert_bytes_back (P := Tryz.prog) w 34 9 5 ⟨b, off, none⟩ cap ((zs.take len).map fun n => UInt8.ofNat n.toNat) Tryz.underlying34 Tryz.underlying5 Tryz.underlying9 (fun j hj => by
      rw [hlen] at hj
      rw [Addr.add_lit, hc j hj]
      have hbj := hb j
      have e : zs.getD j 0 = zs[j]'(by omega) := by simp [List.getD, List.getElem?_eq_getElem (show j < zs.length by omega)]
      rw [e] at hbj ⊢
      simp only [List.getElem_map, List.getElem_take]
      congr 2
      simp only [UInt8.toNat_ofNat']
      omega)
    rw [hlen] at h
    exact h

theorem row_new (w : World) (zs : List Int) (hb : ∀ i, 0 ≤ zs.getD i 0 ∧ zs.getD i 0 < 256) (hm : zs.length ≤ maxLen) :
    Row (w.alloc (.cells (zs.map (Value.int .u8)).toArray 5)) (some ⟨w.heap.size, 0, none⟩) zs.length zs.length zs := by
  rcases Nat.eq_zero_or_pos zs.length with h | h
  · exact .inl h
  · refine .inr ⟨h, w.heap.size, 0, rfl, Nat.le_refl _, hm, fun i hi => ?_, hb⟩
    rw [World.cell?_alloc_at _ _ _ _ rfl]
    simp [hi]

theorem Row.below {w w' : World} {B : Nat} {a : Option Addr} {len cap : Nat} {zs : List Int} (h : Row w a len cap zs) (hb : Below B w w') (hB : ∀ b, a = some b → b.block < B) : Row w' a len cap zs := by
  rcases h with h | ⟨hp, b, off, rfl, hlc, hm, hc, hz⟩
  · exact .inl h
  · exact .inr ⟨hp, b, off, rfl, hlc, hm, fun i hi => (hb.cell (p := ⟨b, off + i, none⟩) (show b < B from hB ⟨b, off, none⟩ rfl)).trans (hc i hi), hz⟩

theorem byteList (zs : List Int) (h : zs.all (fun z => 0 ≤ z && z < 256) = true) : ∀ i, 0 ≤ zs.getD i 0 ∧ zs.getD i 0 < 256 := by
  intro i
  by_cases hi : i < zs.length
  · have := List.all_eq_true.1 h zs[i] (List.getElem_mem hi)
    simp at this
    simpa [List.getD, List.getElem?_eq_getElem hi] using this
  · simp [List.getD, List.getElem?_eq_none (show zs.length ≤ i by omega)]
end Go.Proofs.YtmplpdjkhdaniaaGreatDoor.Fi
namespace Go.Proofs.YtmplpdjkhdaniaaGreatDoor.Fi
open Go.RowKit
set_option maxRecDepth 100000

theorem pb_len (n : Int) (W : Nat) (hW : IsW W) : (pb n W).length = W := by
  rcases hW with rfl | rfl | rfl | rfl <;> rfl

theorem pb_bytes (n : Int) (W : Nat) (hW : IsW W) (h1 : 0 ≤ n) (h2 : n < lim W) : ∀ i, 0 ≤ (pb n W).getD i 0 ∧ (pb n W).getD i 0 < 256 := by
  refine byteList _ ?_
  rcases hW with rfl | rfl | rfl | rfl
  all_goals
    simp only [lim] at h2
    simp only [pb, List.all_cons, List.all_nil, Bool.and_eq_true, decide_eq_true_eq, and_true]
    omega

theorem pb_gk (n : Int) (W : Nat) (hW : IsW W) (h1 : 0 ≤ n) (h2 : n < lim W) : 2 ^ gk (pb n W) = W := by
  rcases hW with rfl | rfl | rfl | rfl
  · have : gk (pb n 1) = 0 := by unfold gk; simp only [lim] at h2; simp only [pb, List.getD_cons_zero]; omega
    rw [this]
  · have : gk (pb n 2) = 1 := by unfold gk; simp only [lim] at h2; simp only [pb, List.getD_cons_zero]; omega
    rw [this]
  · have : gk (pb n 4) = 2 := by unfold gk; simp only [lim] at h2; simp only [pb, List.getD_cons_zero]; omega
    rw [this]
  · have : gk (pb n 8) = 3 := by unfold gk; simp only [lim] at h2; simp only [pb, List.getD_cons_zero]; omega
    rw [this]

theorem gval_take (xs ys : List Int) (k : Nat) (h : ∀ i, i ≤ k → xs.getD i 0 = ys.getD i 0) : gval xs k = gval ys k := by
  induction k with
  | zero => simp only [gval]; rw [h 0 (Nat.le_refl _)]
  | succ k ih => simp only [gval]; rw [ih (fun i hi => h i (by omega)), h (k + 1) (Nat.le_refl _)]

theorem pb_gval (n : Int) (W : Nat) (hW : IsW W) (h1 : 0 ≤ n) (h2 : n < lim W) : gval (pb n W) (W - 1) = n := by
  rcases hW with rfl | rfl | rfl | rfl
  all_goals
    simp only [lim] at h2
    simp only [pb, gval, Nat.reduceSub, List.getD_cons_zero, List.getD_cons_succ]
    omega

theorem row_put (n : Int) (W : Nat) (w : World) (hW : IsW W) (h1 : 0 ≤ n) (h2 : n < lim W) : Row (w.alloc (.cells (pbA n W) 5)) (some ⟨w.heap.size, 0, none⟩) W W (pb n W) := by
  have := row_new w (pb n W) (pb_bytes n W hW h1 h2) (by rw [pb_len n W hW]; unfold maxLen; rcases hW with rfl | rfl | rfl | rfl <;> omega)
  rw [pb_len n W hW] at this
  exact this

theorem Row.cut {w : World} {a : Option Addr} {len cap : Nat} {zs : List Int} (h : Row w a len cap zs) (m : Nat) (hm : m ≤ len) : Row w a m cap zs := by
  rcases Nat.eq_zero_or_pos m with h0 | h0
  · exact .inl h0
  · rcases h with h | ⟨hp, b, off, rfl, hlc, hx, hc, hz⟩
    · omega
    · exact .inr ⟨h0, b, off, rfl, by omega, hx, fun i hi => hc i (by omega), hz⟩
end Go.Proofs.YtmplpdjkhdaniaaGreatDoor.Fi
namespace Go.Proofs.YtmplpdjkhdaniaaGreatDoor.Fi
open Go.RowKit
set_option maxRecDepth 100000

theorem info5' : (Tryz.prog.info? 5).map (fun i => (i.zero, i.size, i.bytes)) = some (some (.int .u8 0), 1, 1) := by kernel_rfl

/-- A value that is a slice of the bytes xs. -/
def Sl (w : World) (v : Value) (xs : List Int) : Prop :=
  ∃ a cap, v = .slice a xs.length cap ∧ xs.length ≤ cap ∧ cap ≤ maxLen ∧ (a = none → cap = 0) ∧ Row w a xs.length cap xs

theorem Row.kept {w w' : World} {a : Option Addr} {len cap : Nat} {zs : List Int} (h : Row w a len cap zs) (hb : Below w.heap.size w w') : Row w' a len cap zs := by
  rcases h with h | ⟨hp, b, off, rfl, hlc, hm, hc, hz⟩
  · exact .inl h
  · exact .inr ⟨hp, b, off, rfl, hlc, hm, fun i hi => (hb.cell (p := ⟨b, off + i, none⟩) (World.block_lt_of_cell? _ _ (hc i hi))).trans (hc i hi), hz⟩

theorem Sl.kept {w w' : World} {v : Value} {xs : List Int} (h : Sl w v xs) (hb : Below w.heap.size w w') : Sl w' v xs := by
  obtain ⟨a, cap, e, h1, h2, h3, h4⟩ := h
  exact ⟨a, cap, e, h1, h2, h3, h4.kept hb⟩

theorem Row.bytes {w : World} {a : Option Addr} {cap : Nat} {xs : List Int} (h : Row w a xs.length cap xs) : ∀ i, 0 ≤ xs.getD i 0 ∧ xs.getD i 0 < 256 := by
  rcases h with h | ⟨_, _, _, _, _, _, _, hz⟩
  · obtain rfl := List.length_eq_zero_iff.1 h
    intro i
    simp
  · exact hz

theorem Sl.bytes {w : World} {v : Value} {xs : List Int} (h : Sl w v xs) : ∀ i, 0 ≤ xs.getD i 0 ∧ xs.getD i 0 < 256 := by
  obtain ⟨a, cap, e, h1, h2, h3, h4⟩ := h
  exact h4.bytes

theorem Sl.none (w : World) : Sl w (.slice .none 0 0) [] := ⟨.none, 0, rfl, Nat.le_refl _, by simp, fun _ => rfl, .inl rfl⟩

theorem own_base {w : World} {base : Nat} {e : TypeId} {size : Nat} {v : Value} {n : Nat} {xs : List Value} (h : w.ownsRow base e size v n xs) : ∀ k, v.ownBlock = some k → base ≤ k := by
  rcases h.2 with ⟨rfl, _⟩ | ⟨g, cap, cur, rfl, hg, _⟩
  · intro k hk; cases hk
  · intro k hk; cases hk; exact hg

/-- A slice that owns bytes is one. -/
theorem sl_owned {w : World} {base n : Nat} {v : Value} {xs : List Int} (h : w.ownsRow base 5 1 v n (xs.map (Value.int .u8))) (hb : ∀ i, 0 ≤ xs.getD i 0 ∧ xs.getD i 0 < 256) : Sl w v xs := by
  have hl := h.1
  simp at hl
  subst hl
  rcases h.2 with ⟨rfl, h0⟩ | ⟨g, cap, cur, rfl, hg, hh, hc, hm, hs, ht⟩
  · obtain rfl := List.length_eq_zero_iff.1 h0
    exact Sl.none w
  · simp at ht
    refine ⟨_, cap, rfl, hc, hm, fun e => (by cases e), ?_⟩
    rcases Nat.eq_zero_or_pos xs.length with h0 | hp
    · exact .inl h0
    · refine .inr ⟨hp, g, 0, rfl, hc, hm, fun i hi => ?_, hb⟩
      have e : cur[i]? = some (.int .u8 (xs.getD i 0)) := by
        have := congrArg (·[i]?) ht
        simp only [List.getElem?_take, List.getElem?_map] at this
        rw [if_pos hi] at this
        simpa [List.getElem?_eq_getElem hi, List.getD] using this
      unfold World.cell?; rw [hh]; simpa using e

theorem ints_one (xs : List Int) : ∀ u ∈ xs.map (Value.int .u8), u.oneCell' = true := by
  intro u hu
  simp only [List.mem_map] at hu
  obtain ⟨z, _, rfl⟩ := hu
  rfl

/-- The cells of a row, as an append asks for them. -/
theorem news_row {w : World} {x : Addr} {cap : Nat} {xs : List Int} (h : Row w (some x) xs.length cap xs) :
    ∀ j u, (xs.map (Value.int .u8))[j]? = some u → w.cell? (x.add j) = some u := by
  intro j u hj
  rw [List.getElem?_map] at hj
  by_cases hlt : j < xs.length
  · rw [List.getElem?_eq_getElem hlt] at hj
    simp only [Option.map_some, Option.some.injEq] at hj
    rcases h with h | ⟨_, b, off, e, _, _, hc, _⟩
    · omega
    · cases e
      rw [Addr.add_lit, hc j hlt, ← hj]
      simp [List.getD, List.getElem?_eq_getElem hlt]
  · rw [List.getElem?_eq_none (by omega)] at hj
    simp at hj

set_option maxHeartbeats 4000000 in
theorem grow_any (n : Nat) (w : World) (hbig : n ≤ 200000000000000) :
    Calls Tryz.prog 88 #[.slice none 0 0, .int .i64 n] w fun r w' => ∃ v, r = .returned v ∧ w'.ownsRow w.heap.size 5 1 v 0 [] ∧ Below w.heap.size w w' := by
  obtain ⟨i0, hi, hz0, hz1, hz2⟩ := info_parts info5'
  rcases Nat.eq_zero_or_pos n with rfl | hp
  · go_enter Tryz.func88, Tryz.ntmps88
    go_wp2
    go_ret
    exact ⟨_, rfl, World.ownsRow_nil _ _ _ _, Below.refl _ _⟩
  · have hrz : ∀ ty, (Builtin.append_ #[34, 3] ty #[.slice none 0 0, .int .i64 (n : Int)]).run Tryz.prog w =
      .ok (.slice (some ⟨w.heap.size, 0, none⟩) n (grownCap w n 0 5)) (w.drew.alloc (.cells (Builtin.zeroCells (Value.int .u8 0).cells n ++ Builtin.zeroCells (Value.int .u8 0).cells (grownCap w n 0 5 - n)) 5)) := fun ty => by
      have h := Lib.run_append_grow_zeros (P := Tryz.prog) w 34 3 ty 5 i0 (.int .u8 0) .i64 .i64 Tryz.underlying34 Tryz.underlying3 hi hz0 none 0 0 []
        (by rw [hz1]; exact run_firstCells_none w.drew 1 0 0 0) n hp (by omega) (by omega) (by omega) (by rw [hz2]; omega) (growslice_fits_wide (by omega) (by rw [hz2]; omega))
      simpa using h
    have hGn : n ≤ grownCap w n 0 5 := grownCap_ge w _ _ _
    have hGm := grownCap_le_maxLen w n 0 5 (by unfold maxLen; omega)
    obtain ⟨G, hG⟩ : ∃ G, G = grownCap w n 0 5 := ⟨_, rfl⟩
    rw [← hG] at hrz hGn hGm
    have hG63 : G ≤ 9223372036854775807 := by unfold maxLen at hGm; omega
    have HM : Hid (G ≤ maxLen) := hGm
    clear hG hGm
    go_enter Tryz.func88, Tryz.ntmps88
    go_wp2_with (at_builtin; refine Lib.wpList_append_run _ rfl _ _ _ _ rfl _ _ rfl rfl _ _ (hrz _) ?_)
    go_ret
    refine ⟨_, rfl, ?_, ?_⟩
    · exact World.ownsRow_made (base := w.heap.size) (e := 5) (size := 1) w.drew _ G (Nat.le_refl _) HM.out (by simp [size_zeroCells]; omega)
    · exact ((Below.refl _ w).alloc (Nat.le_refl _) _).drew

/-- A slice of slices of bytes, as Concat reads it. -/
def Parts (w : World) (p : Option Addr) (ZZ : List (List Int)) : Prop :=
  ZZ.length ≤ 9223372036854775807 ∧ (ZZ = [] ∨ ∃ b off, p = some ⟨b, off, none⟩ ∧ ∀ i, i < ZZ.length → ∃ v, w.cell? ⟨b, off + i, none⟩ = some v ∧ Sl w v (ZZ.getD i []))

/-- The first j parts' bytes, as cells, and how many they are. -/
def flen (ZZ : List (List Int)) (j : Nat) : Nat := (ZZ.take j).flatten.length
def fval (ZZ : List (List Int)) (j : Nat) : List Value := (ZZ.take j).flatten.map (Value.int .u8)

theorem flat_succ (ZZ : List (List Int)) (j : Nat) (h : j < ZZ.length) : (ZZ.take (j + 1)).flatten = (ZZ.take j).flatten ++ ZZ.getD j [] := by
  rw [List.take_add_one, List.getElem?_eq_getElem h, List.flatten_append]
  simp [List.getD, List.getElem?_eq_getElem h]

theorem flen_succ (ZZ : List (List Int)) (j : Nat) (h : j < ZZ.length) : flen ZZ (j + 1) = flen ZZ j + (ZZ.getD j []).length := by
  unfold flen; rw [flat_succ ZZ j h, List.length_append]
theorem fval_succ (ZZ : List (List Int)) (j : Nat) (h : j < ZZ.length) : fval ZZ (j + 1) = fval ZZ j ++ (ZZ.getD j []).map (Value.int .u8) := by
  unfold fval; rw [flat_succ ZZ j h, List.map_append]

theorem flen_le (ZZ : List (List Int)) (j : Nat) : flen ZZ j ≤ ZZ.flatten.length := by
  have h : ZZ.flatten = (ZZ.take j).flatten ++ (ZZ.drop j).flatten := by rw [← List.flatten_append, List.take_append_drop]
  unfold flen; rw [h, List.length_append]; omega
theorem flen_all (ZZ : List (List Int)) : flen ZZ ZZ.length = ZZ.flatten.length := by unfold flen; rw [List.take_length]
theorem fval_all (ZZ : List (List Int)) : fval ZZ ZZ.length = ZZ.flatten.map (Value.int .u8) := by unfold fval; rw [List.take_length]

set_option maxHeartbeats 4000000 in
theorem concat_aux (p : Option Addr) (kc : Nat) (ZZ : List (List Int)) (w : World) (hP : Parts w p ZZ) (k T : Nat) (hk : k = ZZ.length) (hT : T = flen ZZ ZZ.length) (hbig : T ≤ 200000000000000) :
    Calls Tryz.prog 68 #[.slice p k kc] w fun r w' => ∃ v, r = .returned v ∧ w'.ownsRow w.heap.size 5 1 v T (fval ZZ k) ∧ Below w.heap.size w w' := by
  obtain ⟨i0, hi, hz0, hz1, hz2⟩ := info_parts info5'
  obtain ⟨hk63, hP⟩ := hP
  have HP : Hid (ZZ = [] ∨ ∃ b off, p = some ⟨b, off, none⟩ ∧ ∀ i, i < ZZ.length → ∃ v, w.cell? ⟨b, off + i, none⟩ = some v ∧ Sl w v (ZZ.getD i [])) := hP
  have HK : Hid (k = ZZ.length) := hk
  have HT : Hid (T = flen ZZ k) := by rw [hk]; exact hT
  have HLE : Hid (∀ j, flen ZZ j ≤ T) := fun j => by rw [hT, flen_all]; exact flen_le ZZ j
  rw [← hk] at hk63
  clear hk hT hP
  go_enter Tryz.func68, Tryz.ntmps68
  go_wp2
  go_loop [3, 11] (fun n i => ∃ j : Nat, j ≤ k ∧ i = .int .i64 j ∧ n = .int .i64 (flen ZZ j : Nat)) (fun _ i => k - (intOf i).toNat)
  case atStart => exact ⟨0, by omega, rfl, rfl⟩
  case round =>
    obtain ⟨j, hj, rfl, rfl⟩ := hrel
    by_cases hlt : j < k
    · rcases HP.out with h0 | ⟨b, off, rfl, hall⟩
      · have := HK.out; rw [h0] at this; simp at this; omega
      · obtain ⟨v, hc, a, cap, rfl, h1, h2, h3, h4⟩ := hall j (by rw [← HK.out]; exact hlt)
        have hs := flen_succ ZZ j (by rw [← HK.out]; exact hlt)
        have hle := HLE.out (j + 1)
        have HS : Hid (flen ZZ (j + 1) = flen ZZ j + (ZZ.getD j []).length) := hs
        have hsum : flen ZZ j + (ZZ.getD j []).length ≤ 200000000000000 := by omega
        clear hs hle h4 hall h1 h2 h3
        generalize hL : (ZZ.getD j []).length = L at *
        have HL : Hid ((ZZ.getD j []).length = L) := hL
        clear hL
        go_wp2
        go_round
        case rel => exact ⟨j + 1, by omega, by go_num, by rw [HS.out]; go_num⟩
        case measure => simp [intOf]; omega
    · obtain rfl : j = k := by omega
      rw [← HT.out]
      have cg := grow_any T w hbig
      clear hlt
      go_wp2_with (go_at_call 88; refine cg.mono ?_; rintro e w1 ⟨v1, rfl, own1, bel1⟩)
      clear cg
      go_loopw [6, 27] (fun v i wr => ∃ m : Nat, m ≤ j ∧ i = .int .i64 m ∧ wr.ownsRow w.heap.size 5 1 v (flen ZZ m) (fval ZZ m) ∧ Below w.heap.size w wr) (fun _ i _ => j - (intOf i).toNat)
      case atStart => exact ⟨0, by omega, rfl, own1, bel1⟩
      case round =>
        clear own1 bel1
        obtain ⟨m, hm, rfl, hown, hbel⟩ := hrel
        by_cases hlt : m < j
        · rcases HP.out with h0 | ⟨b, off, rfl, hall⟩
          · have := HK.out; rw [h0] at this; simp at this; omega
          · obtain ⟨v, hc, a, cap, rfl, h1, h2, h3, h4⟩ := hall m (by rw [← HK.out]; exact hlt)
            have hcr : wr.cell? ⟨b, off + m, none⟩ = some (.slice a (ZZ.getD m []).length cap) := (hbel.cell (p := ⟨b, off + m, none⟩) (World.block_lt_of_cell? _ _ hc)).trans hc
            have HR : Hid (Row wr a (ZZ.getD m []).length cap (ZZ.getD m [])) := h4.kept hbel
            have HS : Hid (flen ZZ (m + 1) = flen ZZ m + (ZZ.getD m []).length) := flen_succ ZZ m (by rw [← HK.out]; exact hlt)
            have HV : Hid (fval ZZ (m + 1) = fval ZZ m ++ (ZZ.getD m []).map (Value.int .u8)) := fval_succ ZZ m (by rw [← HK.out]; exact hlt)
            have hsum : flen ZZ m + (ZZ.getD m []).length ≤ 200000000000000 := by have h5 := HLE.out (m + 1); rw [HS.out] at h5; omega
            have hob := own_base hown
            have hsz := hbel.size
            have hcap : Hid (a = none → cap = 0) := h3
            clear hc h4 hall h1 h2 h3
            generalize ZZ.getD m [] = X at *
            obtain ⟨L, hL⟩ : ∃ L, L = X.length := ⟨_, rfl⟩
            have HL : Hid (L = X.length) := hL
            rw [← hL] at hcr hsum
            clear hL
            cases a with
            | none =>
              obtain rfl : cap = 0 := hcap.out rfl
              have hX : X = [] := by
                rcases HR.out with h | ⟨_, _, _, e, _⟩
                · exact List.length_eq_zero_iff.1 h
                · cases e
              have hL0 : L = 0 := by rw [HL.out, hX]; rfl
              subst hL0
              go_wp2_with (at_builtin; refine wpList_append_own_none rfl _ _ 34 rfl w.heap.size 5 i0 1 Tryz.underlying34 hi _ _ _ rfl hown rfl ?_)
              go_wp2
              go_roundw
              case rel =>
                refine ⟨m + 1, by omega, ?_, ?_, hbel⟩
                · go_num
                · rw [HS.out, HV.out, hX]; simpa using hown
              case measure => simp [intOf]; omega
            | some x =>
              go_wp2_with (at_builtin; refine wpList_append_own_wide _ rfl _ _ 34 rfl w.heap.size 5 i0 (.int .u8 0) 1 1 Tryz.underlying34 hi hz0 hz1 hz2 rfl (by decide) _ _ _ rfl hown x L cap (X.map (Value.int .u8)) rfl (by rw [List.length_map, HL.out, Nat.mul_one]) (news_row HR.out) (ints_one X) (by unfold maxLen; omega) (by omega) hsz ?_)
              intro v' w2 hown' hgrow _
              have hbel' : Below w.heap.size w w2 := hbel.grown hgrow hsz hob
              clear hown hgrow hbel hob hsz
              go_wp2
              go_roundw
              case rel =>
                refine ⟨m + 1, by omega, ?_, ?_, hbel'⟩
                · go_num
                · rw [HS.out, HV.out, ← HL.out]; exact hown'
              case measure => simp [intOf]; omega
        · obtain rfl : m = j := by omega
          go_wp2
          go_ret
          exact ⟨_, rfl, by rw [HT.out]; exact hown, hbel⟩

theorem concat_any (p : Option Addr) (kc : Nat) (ZZ : List (List Int)) (w : World) (hP : Parts w p ZZ) (hbig : ZZ.flatten.length ≤ 200000000000000) :
    Calls Tryz.prog 68 #[.slice p ZZ.length kc] w fun r w' => ∃ v, r = .returned v ∧ w'.ownsRow w.heap.size 5 1 v ZZ.flatten.length (ZZ.flatten.map (Value.int .u8)) ∧ Below w.heap.size w w' := by
  have h := concat_aux p kc ZZ w hP ZZ.length (flen ZZ ZZ.length) rfl rfl (by rw [flen_all]; exact hbig)
  rw [flen_all, fval_all] at h
  exact h

theorem bytes_flat (ZZ : List (List Int)) (h : ∀ X ∈ ZZ, ∀ i, 0 ≤ X.getD i 0 ∧ X.getD i 0 < 256) : ∀ i, 0 ≤ ZZ.flatten.getD i 0 ∧ ZZ.flatten.getD i 0 < 256 := by
  refine byteList _ ?_
  rw [List.all_eq_true]
  intro z hz
  obtain ⟨X, hX, hzX⟩ := List.mem_flatten.1 hz
  obtain ⟨i, hi, rfl⟩ := List.getElem_of_mem hzX
  have := h X hX i
  simp [List.getD, List.getElem?_eq_getElem hi] at this
  simpa using this

theorem join_any (p : Option Addr) (kc : Nat) (ZZ : List (List Int)) (w : World) (hP : Parts w p ZZ) (hbig : ZZ.flatten.length ≤ 200000000000000) :
    Calls Tryz.prog 48 #[.slice p ZZ.length kc] w fun r w' => ∃ v, r = .returned v ∧ w'.ownsRow w.heap.size 5 1 v ZZ.flatten.length (ZZ.flatten.map (Value.int .u8)) ∧ Below w.heap.size w w' := by
  have h := concat_any p kc ZZ w hP hbig
  generalize ZZ.flatten.length = T at *
  generalize ZZ.flatten.map (Value.int .u8) = V at *
  generalize ZZ.length = k at *
  go_enter Tryz.func48, Tryz.ntmps48
  go_wp2_with (go_at_call 68; refine h.mono ?_; rintro e w1 ⟨v1, rfl, own1, bel1⟩)
  go_ret
  exact ⟨_, rfl, by assumption, by assumption⟩
end Go.Proofs.YtmplpdjkhdaniaaGreatDoor.Fi
