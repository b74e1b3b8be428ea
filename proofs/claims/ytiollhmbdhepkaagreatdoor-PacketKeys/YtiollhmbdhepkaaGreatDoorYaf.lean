/-
  What varint.Get and varint.Shortest answer for whatever bytes: the number that they begin with and its width, or the error that the document names; nothing is written. Condition: the package-level table of widths holds 1, 2, 4, 8.
  What the walks share of rows of bytes: a new row, a row carried on, a row as a string.
  The bytes that a number is put as are bytes, say their width, and are read as the number: plain facts on numbers, no program in sight but the definitions.
  What the methods of a field.Reader answer and leave, for whatever bytes are left and whatever error it bears: nothing but the reader itself is written. Condition: the package-level table of widths holds 1, 2, 4, 8.
  What Reader.take answers and leaves.
-/
import Derived.Test.YtiollhmbdhepkaaGreatDoorYae
import Derived.Laws.IdiomStrings
namespace Go.Proofs.YtiollhmbdhepkaaGreatDoor.Fi
open Go.RowKit
set_option maxRecDepth 100000

set_option maxHeartbeats 1000000 in
theorem get_empty (a : Option Addr) (cap : Nat) (w : World) :
    Calls Tryz.prog 155 #[.slice a 0 cap] w fun e w' => e = .returned (.tuple #[.int .i64 0, .int .i64 0, .int .i64 3]) ∧ w' = w := by
  go_enter Tryz.func155, Tryz.ntmps155
  go_wp2
  go_ret3
  exact ⟨rfl, rfl⟩

set_option maxHeartbeats 1000000 in
theorem get_cut (b off len cap : Nat) (z : Int) (w : World) (hw : Wid w) (hm : len ≤ maxLen) (hp : 0 < len) (hc : w.cell? ⟨b, off, none⟩ = some (.int .u8 z)) (k : Nat) (hz : z / 64 = k) (h0 : 0 ≤ z) (h1 : z < 256) (hl : len < 2 ^ k) :
    Calls Tryz.prog 155 #[.slice (some ⟨b, off, none⟩) len cap] w fun e w' => e = .returned (.tuple #[.int .i64 0, .int .i64 0, .int .i64 3]) ∧ w' = w := by
  obtain ⟨c0, c1, c2, c3⟩ := hw
  unfold maxLen at hm
  have hne : ((len : Int) == 0) = false := by simp; omega
  have hk : k = 0 ∨ k = 1 ∨ k = 2 ∨ k = 3 := by omega
  rcases hk with rfl | rfl | rfl | rfl
  all_goals
    simp at hz hl
  · omega
  all_goals
    go_enter Tryz.func155, Tryz.ntmps155
    go_wp2
    go_ret3
    exact ⟨rfl, rfl⟩

/-- The number that k + 1 bytes say, the first one without its mark. -/
def gval (zs : List Int) : Nat → Int
  | 0 => zs.getD 0 0 % 64
  | k + 1 => gval zs k * 256 + zs.getD (k + 1) 0

theorem gval_bd (zs : List Int) (hb : ∀ i, 0 ≤ zs.getD i 0 ∧ zs.getD i 0 < 256) (k : Nat) : 0 ≤ gval zs k ∧ gval zs k < 64 * 256 ^ k := by
  induction k with
  | zero => simp only [gval]; omega
  | succ k ih =>
    have := hb (k + 1)
    simp only [gval]
    have e : (256 : Int) ^ (k + 1) = 256 ^ k * 256 := Int.pow_succ 256 k
    rw [e]
    omega

theorem gval_lt (zs : List Int) (hb : ∀ i, 0 ≤ zs.getD i 0 ∧ zs.getD i 0 < 256) (k : Nat) (hk : k < 7) : 0 ≤ gval zs k ∧ gval zs k < 18014398509481984 := by
  have h := gval_bd zs hb k
  have : (64 * 256 ^ k : Int) ≤ 18014398509481984 := by
    match k, hk with
    | 0, _ => decide
    | 1, _ => decide
    | 2, _ => decide
    | 3, _ => decide
    | 4, _ => decide
    | 5, _ => decide
    | 6, _ => decide
  omega

theorem or_join (x y : Int) (h0 : 0 ≤ x) (h1 : x < 18014398509481984) (h2 : 0 ≤ y) (h3 : y < 256) : bits .or .i64 (x * 256) y = x * 256 + y :=
  bits_join .i64 63 (by decide) wraps_i64 8 _ _ (by omega) (by omega) (by omega) h2 (by omega) (by omega)

set_option maxHeartbeats 2000000 in
theorem get_ok (b off len cap : Nat) (zs : List Int) (w : World) (hw : Wid w) (hlc : len ≤ cap) (hm : cap ≤ maxLen)
    (hc : ∀ i, i < len → w.cell? ⟨b, off + i, none⟩ = some (.int .u8 (zs.getD i 0))) (hb : ∀ i, 0 ≤ zs.getD i 0 ∧ zs.getD i 0 < 256)
    (k : Nat) (hz : zs.getD 0 0 / 64 = k) (hl : 2 ^ k ≤ len) :
    Calls Tryz.prog 155 #[.slice (some ⟨b, off, none⟩) len cap] w fun e w' => e = .returned (.tuple #[.int .i64 (gval zs (2 ^ k - 1)), .int .i64 (2 ^ k : Nat), .int .i64 0]) ∧ w' = w := by
  obtain ⟨c0, c1, c2, c3⟩ := hw
  unfold maxLen at hm
  obtain ⟨h0, h1⟩ := hb 0
  have hp : 0 < len := Nat.lt_of_lt_of_le (Nat.two_pow_pos k) hl
  have hcz : w.cell? ⟨b, off, none⟩ = some (.int .u8 (zs.getD 0 0)) := hc 0 hp
  obtain ⟨z, hz'⟩ : ∃ z, zs.getD 0 0 = z := ⟨_, rfl⟩
  have hg0 : gval zs 0 = z % 64 := by rw [← hz']; rfl
  rw [hz'] at h0 h1 hz hcz
  clear hz'
  have hne : ((len : Int) == 0) = false := by simp; omega
  have hk : k = 0 ∨ k = 1 ∨ k = 2 ∨ k = 3 := by omega
  have HC : Hid (∀ i, i < len → w.cell? ⟨b, off + i, none⟩ = some (.int .u8 (zs.getD i 0))) := hc
  have HB : Hid (∀ i, 0 ≤ zs.getD i 0 ∧ zs.getD i 0 < 256) := hb
  have HG : Hid (gval zs 0 = z % 64) := hg0
  clear hc hb hg0
  rcases hk with rfl | rfl | rfl | rfl
  · simp at hz hl
    rw [show gval zs (2 ^ 0 - 1) = z % 64 from HG.out]
    go_enter Tryz.func155, Tryz.ntmps155
    go_wp2
    all_goals
      go_rounds 1
      go_ret3
      exact ⟨rfl, rfl⟩
  · simp at hz hl
    go_enter Tryz.func155, Tryz.ntmps155
    go_wp2
    go_loop [2, 29] (fun n i => ∃ j : Nat, j ≤ 1 ∧ i = .int .i64 j ∧ n = .int .i64 (gval zs j)) (fun _ i => 8 - (intOf i).toNat)
    case atStart => exact ⟨0, by omega, rfl, by rw [HG.out]⟩
    case round =>
      obtain ⟨j, hj, rfl, rfl⟩ := hrel
      by_cases hlt : j < 1
      · have hcx : w.cell? ⟨b, off + 1 + j, none⟩ = some (.int .u8 (zs.getD (j + 1) 0)) := by rw [show off + 1 + j = off + (j + 1) by omega]; exact HC.out _ (by omega)
        obtain ⟨g0, g1⟩ := gval_lt zs HB.out j (by omega)
        obtain ⟨b0, b1⟩ := HB.out (j + 1)
        obtain ⟨y, hy⟩ : ∃ y, zs.getD (j + 1) 0 = y := ⟨_, rfl⟩
        have HY : Hid (gval zs (j + 1) = gval zs j * 256 + y) := by rw [← hy]; rfl
        rw [hy] at hcx b0 b1
        clear hy
        have ho := or_join (gval zs j) y g0 g1 b0 b1
        go_wp2
        go_round
        case rel => exact ⟨j + 1, by omega, by go_num, by rw [HY.out]⟩
        case measure => simp [intOf]; omega
      · obtain rfl : j = 1 := by omega
        go_wp2
        go_ret3
        exact ⟨rfl, rfl⟩
  · simp at hz hl
    go_enter Tryz.func155, Tryz.ntmps155
    go_wp2
    go_loop [2, 29] (fun n i => ∃ j : Nat, j ≤ 3 ∧ i = .int .i64 j ∧ n = .int .i64 (gval zs j)) (fun _ i => 8 - (intOf i).toNat)
    case atStart => exact ⟨0, by omega, rfl, by rw [HG.out]⟩
    case round =>
      obtain ⟨j, hj, rfl, rfl⟩ := hrel
      by_cases hlt : j < 3
      · have hcx : w.cell? ⟨b, off + 1 + j, none⟩ = some (.int .u8 (zs.getD (j + 1) 0)) := by rw [show off + 1 + j = off + (j + 1) by omega]; exact HC.out _ (by omega)
        obtain ⟨g0, g1⟩ := gval_lt zs HB.out j (by omega)
        obtain ⟨b0, b1⟩ := HB.out (j + 1)
        obtain ⟨y, hy⟩ : ∃ y, zs.getD (j + 1) 0 = y := ⟨_, rfl⟩
        have HY : Hid (gval zs (j + 1) = gval zs j * 256 + y) := by rw [← hy]; rfl
        rw [hy] at hcx b0 b1
        clear hy
        have ho := or_join (gval zs j) y g0 g1 b0 b1
        go_wp2
        go_round
        case rel => exact ⟨j + 1, by omega, by go_num, by rw [HY.out]⟩
        case measure => simp [intOf]; omega
      · obtain rfl : j = 3 := by omega
        go_wp2
        go_ret3
        exact ⟨rfl, rfl⟩
  · simp at hz hl
    go_enter Tryz.func155, Tryz.ntmps155
    go_wp2
    go_loop [2, 29] (fun n i => ∃ j : Nat, j ≤ 7 ∧ i = .int .i64 j ∧ n = .int .i64 (gval zs j)) (fun _ i => 8 - (intOf i).toNat)
    case atStart => exact ⟨0, by omega, rfl, by rw [HG.out]⟩
    case round =>
      obtain ⟨j, hj, rfl, rfl⟩ := hrel
      by_cases hlt : j < 7
      · have hcx : w.cell? ⟨b, off + 1 + j, none⟩ = some (.int .u8 (zs.getD (j + 1) 0)) := by rw [show off + 1 + j = off + (j + 1) by omega]; exact HC.out _ (by omega)
        obtain ⟨g0, g1⟩ := gval_lt zs HB.out j (by omega)
        obtain ⟨b0, b1⟩ := HB.out (j + 1)
        obtain ⟨y, hy⟩ : ∃ y, zs.getD (j + 1) 0 = y := ⟨_, rfl⟩
        have HY : Hid (gval zs (j + 1) = gval zs j * 256 + y) := by rw [← hy]; rfl
        rw [hy] at hcx b0 b1
        clear hy
        have ho := or_join (gval zs j) y g0 g1 b0 b1
        go_wp2
        go_round
        case rel => exact ⟨j + 1, by omega, by go_num, by rw [HY.out]⟩
        case measure => simp [intOf]; omega
      · obtain rfl : j = 7 := by omega
        go_wp2
        go_ret3
        exact ⟨rfl, rfl⟩

/-- What the walks ask of a slice of bytes: it is empty, or its first 'len' cells hold the numbers zs, each a byte. -/
def Row (w : World) (a : Option Addr) (len cap : Nat) (zs : List Int) : Prop :=
  len = 0 ∨ (0 < len ∧ ∃ b off, a = some ⟨b, off, none⟩ ∧ len ≤ cap ∧ cap ≤ maxLen ∧
    (∀ i, i < len → w.cell? ⟨b, off + i, none⟩ = some (.int .u8 (zs.getD i 0))) ∧ (∀ i, 0 ≤ zs.getD i 0 ∧ zs.getD i 0 < 256))

/-- Which of the widths the first byte's mark says. -/
def gk (zs : List Int) : Nat := (zs.getD 0 0 / 64).toNat

/-- What Get answers: number, width, error. -/
def getN (len : Nat) (zs : List Int) : Int := if len < 2 ^ gk zs ∨ len = 0 then 0 else gval zs (2 ^ gk zs - 1)
def getU (len : Nat) (zs : List Int) : Int := if len < 2 ^ gk zs ∨ len = 0 then 0 else (2 ^ gk zs : Nat)
def getE (len : Nat) (zs : List Int) : Int := if len < 2 ^ gk zs ∨ len = 0 then 3 else 0

theorem get_any (a : Option Addr) (len cap : Nat) (zs : List Int) (w : World) (hw : Wid w) (hr : Row w a len cap zs) :
    Calls Tryz.prog 155 #[.slice a len cap] w fun e w' => e = .returned (.tuple #[.int .i64 (getN len zs), .int .i64 (getU len zs), .int .i64 (getE len zs)]) ∧ w' = w := by
  unfold getN getU getE
  rcases hr with rfl | ⟨hp, b, off, rfl, hlc, hm, hc, hb⟩
  · rw [if_pos (.inr rfl), if_pos (.inr rfl), if_pos (.inr rfl)]
    exact get_empty a cap w
  · obtain ⟨h0, h1⟩ := hb 0
    have hz : zs.getD 0 0 / 64 = (gk zs : Nat) := by unfold gk; omega
    by_cases hl : len < 2 ^ gk zs
    · rw [if_pos (.inl hl), if_pos (.inl hl), if_pos (.inl hl)]
      exact get_cut b off len cap _ w hw (by omega) hp (hc 0 hp) (gk zs) hz h0 h1 hl
    · rw [if_neg (by omega), if_neg (by omega), if_neg (by omega)]
      exact get_ok b off len cap zs w hw hlc hm hc hb (gk zs) hz (by omega)

/-- What Shortest answers. -/
def shN (len : Nat) (zs : List Int) : Int := if getE len zs = 0 ∧ getU len zs ≤ lenOf (getN len zs) then getN len zs else 0
def shU (len : Nat) (zs : List Int) : Int := if getE len zs = 0 ∧ getU len zs ≤ lenOf (getN len zs) then getU len zs else 0
def shE (len : Nat) (zs : List Int) : Int := if getE len zs = 0 then (if getU len zs ≤ lenOf (getN len zs) then 0 else 4) else getE len zs

set_option maxHeartbeats 1000000 in
theorem shortest_any (a : Option Addr) (len cap : Nat) (zs : List Int) (w : World) (hw : Wid w) (hr : Row w a len cap zs) :
    Calls Tryz.prog 140 #[.slice a len cap] w fun e w' => e = .returned (.tuple #[.int .i64 (shN len zs), .int .i64 (shU len zs), .int .i64 (shE len zs)]) ∧ w' = w := by
  unfold shN shU shE
  have hg := get_any a len cap zs w hw hr
  generalize getN len zs = n at *
  generalize getU len zs = u at *
  generalize getE len zs = g at *
  by_cases h : g = 0
  · subst h
    by_cases h2 : u ≤ lenOf n
    · rw [if_pos ⟨rfl, h2⟩, if_pos ⟨rfl, h2⟩, if_pos rfl, if_pos h2]
      go_enter Tryz.func140, Tryz.ntmps140
      go_wp2_with (first | (go_at_call 155; refine hg.mono ?_; rintro e w' ⟨rfl, rfl⟩) | (go_at_call 131; refine (len_any n _ hw).mono ?_; rintro e w' ⟨rfl, rfl⟩))
      go_ret3
      exact ⟨rfl, rfl⟩
    · have h3 : lenOf n < u := by omega
      rw [if_neg (by omega), if_neg (by omega), if_pos rfl, if_neg h2]
      go_enter Tryz.func140, Tryz.ntmps140
      go_wp2_with (first | (go_at_call 155; refine hg.mono ?_; rintro e w' ⟨rfl, rfl⟩) | (go_at_call 131; refine (len_any n _ hw).mono ?_; rintro e w' ⟨rfl, rfl⟩))
      go_ret3
      exact ⟨rfl, rfl⟩
  · have h' : (g == 0) = false := by simpa using h
    rw [if_neg (by omega), if_neg (by omega), if_neg h]
    go_enter Tryz.func140, Tryz.ntmps140
    go_wp2_with (first | (go_at_call 155; refine hg.mono ?_; rintro e w' ⟨rfl, rfl⟩) | (go_at_call 131; refine (len_any n _ hw).mono ?_; rintro e w' ⟨rfl, rfl⟩))
    go_ret3
    exact ⟨rfl, rfl⟩
end Go.Proofs.YtiollhmbdhepkaaGreatDoor.Fi
namespace Go.Proofs.YtiollhmbdhepkaaGreatDoor.Fi
open Go.RowKit
set_option maxRecDepth 100000

theorem Wid.pos {w : World} (h : Wid w) : 1 < w.heap.size := World.block_lt_of_cell? w _ h.1
theorem Wid.below {w w' : World} {B : Nat} (h : Wid w) (hb : Below B w w') (hB : 1 < B) : Wid w' := by
  obtain ⟨c0, c1, c2, c3⟩ := h
  exact ⟨(hb.cell (p := ⟨1, 0, none⟩) hB).trans c0, (hb.cell (p := ⟨1, 1, none⟩) hB).trans c1, (hb.cell (p := ⟨1, 2, none⟩) hB).trans c2, (hb.cell (p := ⟨1, 3, none⟩) hB).trans c3⟩
theorem Wid.alloc {w : World} (h : Wid w) (o : Obj) : Wid (w.alloc o) := h.below ((Below.refl w.heap.size w).alloc (Nat.le_refl _) o) h.pos

/-- Bytes, given as numbers, as a string. -/
def strB (l : List Int) : ByteArray := ⟨(l.map fun n => UInt8.ofNat n.toNat).toArray⟩

theorem conv_any (a : Option Addr) (len cap : Nat) (zs : List Int) (w : World) (hz : len ≤ zs.length) (hr : Row w a len cap zs) :
    (convert 34 9 (.slice a len cap)).run Tryz.prog w = .ok (.string (strB (zs.take len))) w := by
  rcases hr with rfl | ⟨hp, b, off, rfl, hlc, hm, hc, hb⟩
  · cases a with
    | none => rw [run_convert_bytes_string w 34 9 5 none 0 cap Tryz.underlying34 Tryz.underlying5 Tryz.underlying9]; rfl
    | some a => exact run_convert_bytes_back (P := Tryz.prog) w 34 9 5 a cap [] Tryz.underlying34 Tryz.underlying5 Tryz.underlying9 (fun j hj => by simp at hj)
  · have hlen : ((zs.take len).map fun n => UInt8.ofNat n.toNat).length = len := by simp; omega
    have h := run_convert_bytes_back (P := Tryz.prog) w 34 9 5 ⟨b, off, none⟩ cap ((zs.take len).map fun n => UInt8.ofNat n.toNat) Tryz.underlying34 Tryz.underlying5 Tryz.underlying9 (fun j hj => by
      rw [hlen] at hj
      rw [Addr.add_lit, hc j hj]
      have hbj := hb j
      have e : zs.getD j 0 = zs[j]'(by omega) := by simp [List.getD, List.getElem?_eq_getElem (show j < zs.length by omega)]
      rw [e] at hbj ⊢
      simp only [List.getElem_map, List.getElem_take]
      congr 2
      simp only [UInt8.toNat_ofNat']
      omega)
    rw [hlen] at h
    exact h

theorem row_new (w : World) (zs : List Int) (hb : ∀ i, 0 ≤ zs.getD i 0 ∧ zs.getD i 0 < 256) (hm : zs.length ≤ maxLen) :
    Row (w.alloc (.cells (zs.map (Value.int .u8)).toArray 5)) (some ⟨w.heap.size, 0, none⟩) zs.length zs.length zs := by
  rcases Nat.eq_zero_or_pos zs.length with h | h
  · exact .inl h
  · refine .inr ⟨h, w.heap.size, 0, rfl, Nat.le_refl _, hm, fun i hi => ?_, hb⟩
    rw [World.cell?_alloc_at _ _ _ _ rfl]
    simp [hi]

theorem Row.below {w w' : World} {B : Nat} {a : Option Addr} {len cap : Nat} {zs : List Int} (h : Row w a len cap zs) (hb : Below B w w') (hB : ∀ b, a = some b → b.block < B) : Row w' a len cap zs := by
  rcases h with h | ⟨hp, b, off, rfl, hlc, hm, hc, hz⟩
  · exact .inl h
  · exact .inr ⟨hp, b, off, rfl, hlc, hm, fun i hi => (hb.cell (p := ⟨b, off + i, none⟩) (show b < B from hB ⟨b, off, none⟩ rfl)).trans (hc i hi), hz⟩

theorem byteList (zs : List Int) (h : zs.all (fun z => 0 ≤ z && z < 256) = true) : ∀ i, 0 ≤ zs.getD i 0 ∧ zs.getD i 0 < 256 := by
  intro i
  by_cases hi : i < zs.length
  · have := List.all_eq_true.1 h zs[i] (List.getElem_mem hi)
    simp at this
    simpa [List.getD, List.getElem?_eq_getElem hi] using this
  · simp [List.getD, List.getElem?_eq_none (show zs.length ≤ i by omega)]
end Go.Proofs.YtiollhmbdhepkaaGreatDoor.Fi
namespace Go.Proofs.YtiollhmbdhepkaaGreatDoor.Fi
open Go.RowKit
set_option maxRecDepth 100000

theorem pb_len (n : Int) (W : Nat) (hW : IsW W) : (pb n W).length = W := by
  rcases hW with rfl | rfl | rfl | rfl <;> rfl

theorem pb_bytes (n : Int) (W : Nat) (hW : IsW W) (h1 : 0 ≤ n) (h2 : n < lim W) : ∀ i, 0 ≤ (pb n W).getD i 0 ∧ (pb n W).getD i 0 < 256 := by
  refine byteList _ ?_
  rcases hW with rfl | rfl | rfl | rfl
  all_goals
    simp only [lim] at h2
    simp only [pb, List.all_cons, List.all_nil, Bool.and_eq_true, decide_eq_true_eq, and_true]
    omega

theorem pb_gk (n : Int) (W : Nat) (hW : IsW W) (h1 : 0 ≤ n) (h2 : n < lim W) : 2 ^ gk (pb n W) = W := by
  rcases hW with rfl | rfl | rfl | rfl
  · have : gk (pb n 1) = 0 := by unfold gk; simp only [lim] at h2; simp only [pb, List.getD_cons_zero]; omega
    rw [this]
  · have : gk (pb n 2) = 1 := by unfold gk; simp only [lim] at h2; simp only [pb, List.getD_cons_zero]; omega
    rw [this]
  · have : gk (pb n 4) = 2 := by unfold gk; simp only [lim] at h2; simp only [pb, List.getD_cons_zero]; omega
    rw [this]
  · have : gk (pb n 8) = 3 := by unfold gk; simp only [lim] at h2; simp only [pb, List.getD_cons_zero]; omega
    rw [this]

theorem gval_take (xs ys : List Int) (k : Nat) (h : ∀ i, i ≤ k → xs.getD i 0 = ys.getD i 0) : gval xs k = gval ys k := by
  induction k with
  | zero => simp only [gval]; rw [h 0 (Nat.le_refl _)]
  | succ k ih => simp only [gval]; rw [ih (fun i hi => h i (by omega)), h (k + 1) (Nat.le_refl _)]

theorem pb_gval (n : Int) (W : Nat) (hW : IsW W) (h1 : 0 ≤ n) (h2 : n < lim W) : gval (pb n W) (W - 1) = n := by
  rcases hW with rfl | rfl | rfl | rfl
  all_goals
    simp only [lim] at h2
    simp only [pb, gval, Nat.reduceSub, List.getD_cons_zero, List.getD_cons_succ]
    omega

theorem row_put (n : Int) (W : Nat) (w : World) (hW : IsW W) (h1 : 0 ≤ n) (h2 : n < lim W) : Row (w.alloc (.cells (pbA n W) 5)) (some ⟨w.heap.size, 0, none⟩) W W (pb n W) := by
  have := row_new w (pb n W) (pb_bytes n W hW h1 h2) (by rw [pb_len n W hW]; unfold maxLen; rcases hW with rfl | rfl | rfl | rfl <;> omega)
  rw [pb_len n W hW] at this
  exact this

theorem Row.cut {w : World} {a : Option Addr} {len cap : Nat} {zs : List Int} (h : Row w a len cap zs) (m : Nat) (hm : m ≤ len) : Row w a m cap zs := by
  rcases Nat.eq_zero_or_pos m with h0 | h0
  · exact .inl h0
  · rcases h with h | ⟨hp, b, off, rfl, hlc, hx, hc, hz⟩
    · omega
    · exact .inr ⟨h0, b, off, rfl, by omega, hx, fun i hi => hc i (by omega), hz⟩
end Go.Proofs.YtiollhmbdhepkaaGreatDoor.Fi
namespace Go.Proofs.YtiollhmbdhepkaaGreatDoor.Fi
open Go.RowKit
set_option maxRecDepth 100000

/-- All but block g is as it was. -/
structure Off (g : Nat) (w w' : World) : Prop where
  os : w'.os = w.os
  tape : w'.tape = w.tape
  output : w'.output = w.output
  size : w'.heap.size = w.heap.size
  block : ∀ k, k ≠ g → w'.heap[k]? = w.heap[k]?

theorem Off.refl (g : Nat) (w : World) : Off g w w := ⟨rfl, rfl, rfl, rfl, fun _ _ => rfl⟩
theorem Off.trans {g : Nat} {a b c : World} (h : Off g a b) (k : Off g b c) : Off g a c :=
  ⟨k.os.trans h.os, k.tape.trans h.tape, k.output.trans h.output, k.size.trans h.size, fun i hi => (k.block i hi).trans (h.block i hi)⟩
theorem Off.setCell (g o : Nat) (w : World) (v : Value) : Off g w (w.setCell ⟨g, o, none⟩ v) :=
  ⟨rfl, rfl, rfl, by simp [World.setCell], fun k hk => Below.heap_setCell _ _ _ _ hk⟩
theorem Off.below {g B : Nat} {w w' : World} (h : Off g w w') (hB : B ≤ g) : Below B w w' :=
  ⟨h.os, h.tape, h.output, by rw [h.size]; exact Nat.le_refl _, fun k hk => h.block k (by omega)⟩
theorem Off.cell {g : Nat} {w w' : World} (h : Off g w w') {p : Addr} (hp : p.block ≠ g) : w'.cell? p = w.cell? p := World.cell?_of_block (h.block _ hp)
theorem Off.frozen {g : Nat} {w w' : World} (h : Off g w w') {p : Addr} (hp : p.block ≠ g) : w'.frozen? p = w.frozen? p := World.frozen?_of_block (h.block _ hp)
theorem Wid.off {w w' : World} {g : Nat} (h : Wid w) (hb : Off g w w') (hg : 1 < g) : Wid w' := h.below (hb.below (B := g) (Nat.le_refl _)) hg
theorem Row.off {w w' : World} {g : Nat} {a : Option Addr} {len cap : Nat} {zs : List Int} (h : Row w a len cap zs) (hb : Off g w w') (hB : ∀ b, a = some b → b.block ≠ g) : Row w' a len cap zs := by
  rcases h with h | ⟨hp, b, off, rfl, hlc, hm, hc, hz⟩
  · exact .inl h
  · exact .inr ⟨hp, b, off, rfl, hlc, hm, fun i hi => (hb.cell (p := ⟨b, off + i, none⟩) (hB ⟨b, off, none⟩ rfl)).trans (hc i hi), hz⟩

/-- A reader at block g: the bytes xs are left, in block s, its error is e. -/
def Rd (w : World) (g s : Nat) (xs : List Int) (e : Int) : Prop :=
  ∃ a cap, w.cell? ⟨g, 0, none⟩ = some (.slice a xs.length cap) ∧ w.cell? ⟨g, 1, none⟩ = some (.int .i64 e) ∧ w.frozen? ⟨g, 0, none⟩ = false ∧ w.frozen? ⟨g, 1, none⟩ = false ∧
    xs.length ≤ cap ∧ cap ≤ maxLen ∧ Row w a xs.length cap xs ∧ (a = none → cap = 0) ∧ s ≠ g ∧ ∀ x, a = some x → x.spot = none ∧ x.block = s

theorem Rd.off {w w' : World} {g s g' : Nat} {xs : List Int} {e : Int} (h : Rd w g s xs e) (hb : Off g' w w') (hg : g ≠ g') (hs : s ≠ g') : Rd w' g s xs e := by
  obtain ⟨a, cap, c0, c1, f0, f1, l1, l2, r, n, k, b⟩ := h
  exact ⟨a, cap, (hb.cell (p := ⟨g, 0, none⟩) hg).trans c0, (hb.cell (p := ⟨g, 1, none⟩) hg).trans c1, (hb.frozen (p := ⟨g, 0, none⟩) hg).trans f0, (hb.frozen (p := ⟨g, 1, none⟩) hg).trans f1, l1, l2, r.off hb (fun x hx => by rw [(b x hx).2]; exact hs), n, k, b⟩

theorem Rd.kept {w w' : World} {g s : Nat} {xs : List Int} {e : Int} (h : Rd w g s xs e) (hb : Below w.heap.size w w') : Rd w' g s xs e := by
  obtain ⟨a, cap, c0, c1, f0, f1, l1, l2, r, n, k, b⟩ := h
  have hg : g < w.heap.size := World.block_lt_of_cell? _ _ c0
  refine ⟨a, cap, (hb.cell (p := ⟨g, 0, none⟩) hg).trans c0, (hb.cell (p := ⟨g, 1, none⟩) hg).trans c1, (hb.frozen (p := ⟨g, 0, none⟩) hg).trans f0, (hb.frozen (p := ⟨g, 1, none⟩) hg).trans f1, l1, l2, ?_, n, k, b⟩
  rcases r with h | ⟨hp, b', off, rfl, hlc, hm, hc, hz⟩
  · exact .inl h
  · exact .inr ⟨hp, b', off, rfl, hlc, hm, fun i hi => (hb.cell (p := ⟨b', off + i, none⟩) (World.block_lt_of_cell? _ _ (hc i hi))).trans (hc i hi), hz⟩

/-- What numberAhead answers. -/
def naE (xs : List Int) (most : Int) : Int := if shE xs.length xs = 0 then (if shN xs.length xs ≤ most then 0 else 5) else shE xs.length xs
def naN (xs : List Int) (most : Int) : Int := if naE xs most = 0 then shN xs.length xs else 0
def naU (xs : List Int) (most : Int) : Int := if naE xs most = 0 then shU xs.length xs else 0

set_option maxHeartbeats 1000000 in
theorem na_any (a : Option Addr) (cap : Nat) (xs : List Int) (most : Int) (w : World) (hw : Wid w) (hr : Row w a xs.length cap xs) :
    Calls Tryz.prog 117 #[.slice a xs.length cap, .int .i64 most] w fun e w' => e = .returned (.tuple #[.int .i64 (naN xs most), .int .i64 (naU xs most), .int .i64 (naE xs most)]) ∧ w' = w := by
  have hs := shortest_any a xs.length cap xs w hw hr
  unfold naN naU naE
  generalize xs.length = len at *
  generalize shN len xs = n at *
  generalize shU len xs = u at *
  generalize shE len xs = g at *
  by_cases h : g = 0
  · subst h
    by_cases h2 : n ≤ most
    · simp only [if_true, if_pos h2]
      go_enter Tryz.func117, Tryz.ntmps117
      go_wp2_with (go_at_call 140; refine hs.mono ?_; rintro e w' ⟨rfl, rfl⟩)
      go_ret3
      exact ⟨rfl, rfl⟩
    · have h3 : most < n := by omega
      simp only [if_true, if_neg h2]
      rw [if_neg (by decide), if_neg (by decide)]
      go_enter Tryz.func117, Tryz.ntmps117
      go_wp2_with (go_at_call 140; refine hs.mono ?_; rintro e w' ⟨rfl, rfl⟩)
      go_ret3
      exact ⟨rfl, rfl⟩
  · have h' : (g == 0) = false := by simpa using h
    simp only [if_neg h]
    go_enter Tryz.func117, Tryz.ntmps117
    go_wp2_with (go_at_call 140; refine hs.mono ?_; rintro e w' ⟨rfl, rfl⟩)
    go_ret3
    exact ⟨rfl, rfl⟩

set_option maxHeartbeats 1000000 in
theorem err_any (g s : Nat) (xs : List Int) (e : Int) (w : World) (h : Rd w g s xs e) :
    Calls Tryz.prog 95 #[.pointer (some ⟨g, 0, none⟩)] w fun r w' => r = .returned (.int .i64 e) ∧ w' = w := by
  obtain ⟨a, cap, c0, c1, f0, f1, l1, l2, hr, _, _, ha⟩ := h
  clear ha hr
  go_enter Tryz.func95, Tryz.ntmps95
  go_wp2
  go_ret
  exact ⟨rfl, rfl⟩

set_option maxHeartbeats 1000000 in
theorem left_any (g s : Nat) (xs : List Int) (e : Int) (w : World) (h : Rd w g s xs e) :
    Calls Tryz.prog 92 #[.pointer (some ⟨g, 0, none⟩)] w fun r w' => r = .returned (.int .i64 xs.length) ∧ w' = w := by
  obtain ⟨a, cap, c0, c1, f0, f1, l1, l2, hr, _, _, ha⟩ := h
  clear ha hr
  go_enter Tryz.func92, Tryz.ntmps92
  go_wp2
  go_ret
  exact ⟨rfl, rfl⟩

set_option maxHeartbeats 1000000 in
theorem stopped_any (g s : Nat) (xs : List Int) (e : Int) (w : World) (h : Rd w g s xs e) :
    Calls Tryz.prog 116 #[.pointer (some ⟨g, 0, none⟩)] w fun r w' => r = .returned (.bool (e != 0)) ∧ w' = w := by
  have c := err_any g s xs e w h
  go_enter Tryz.func116, Tryz.ntmps116
  go_wp2_with (go_at_call 95; refine c.mono ?_; rintro e w' ⟨rfl, rfl⟩)
  go_ret
  exact ⟨rfl, rfl⟩

end Go.Proofs.YtiollhmbdhepkaaGreatDoor.Fi
namespace Go.Proofs.YtiollhmbdhepkaaGreatDoor.Fi
open Go.RowKit
set_option maxRecDepth 100000

theorem bytes_drop (xs : List Int) (m : Nat) (hx : ∀ i, 0 ≤ xs.getD i 0 ∧ xs.getD i 0 < 256) : ∀ i, 0 ≤ (xs.drop m).getD i 0 ∧ (xs.drop m).getD i 0 < 256 := by
  intro i
  have := hx (m + i)
  simpa [List.getD, List.getElem?_drop] using this

theorem Row.drop {w : World} {b off len cap : Nat} {xs : List Int} (h : Row w (some ⟨b, off, none⟩) len cap xs) (n : Nat) (hn : n ≤ len) : Row w (some ⟨b, off + n, none⟩) (len - n) (cap - n) (xs.drop n) := by
  rcases h with h | ⟨hp, b', off', e, hlc, hm, hc, hz⟩
  · exact .inl (by omega)
  · cases e
    rcases Nat.eq_zero_or_pos (len - n) with h0 | h0
    · exact .inl h0
    · refine .inr ⟨h0, b, off + n, rfl, by omega, by omega, fun i hi => ?_, bytes_drop xs n hz⟩
      rw [show off + n + i = off + (n + i) by omega, hc (n + i) (by omega)]
      simp [List.getD, List.getElem?_drop]

set_option maxHeartbeats 1000000 in
theorem take_any (g s n : Nat) (xs : List Int) (e : Int) (w : World) (h : Rd w g s xs e) (hn : n ≤ xs.length) :
    Calls Tryz.prog 118 #[.pointer (some ⟨g, 0, none⟩), .int .i64 n] w fun r w' => r = .returned (.string (strB (xs.take n))) ∧ Rd w' g s (xs.drop n) e ∧ Off g w w' := by
  obtain ⟨a, cap, c0, c1, f0, f1, l1, l2, hr, ha0, hsg, ha⟩ := h
  have cv := conv_any a n cap xs w hn (hr.cut n hn)
  have hl : (xs.drop n).length = xs.length - n := List.length_drop ..
  have key : ∀ a', (a' = none → cap - n = 0) → (∀ x, a' = some x → x.spot = none ∧ x.block = s) → Row w a' (xs.length - n) (cap - n) (xs.drop n) → Rd (w.setCell ⟨g, 0, none⟩ (.slice a' (xs.length - n) (cap - n))) g s (xs.drop n) e := by
    intro a' h1 h2 h3
    refine ⟨a', cap - n, ?_, ?_, ?_, ?_, by omega, by omega, ?_, h1, hsg, h2⟩
    · rw [World.cell?_setCell_same _ _ _ c0, hl]
    · rw [World.cell?_setCell_other _ _ _ _ (by intro e; cases e), c1]
    · simpa using f0
    · simpa using f1
    · rw [hl]; exact h3.off (Off.setCell g 0 w _) (fun b hb => by rw [(h2 b hb).2]; exact hsg)
  unfold maxLen at l2
  have K : Hid (∀ a', (a' = none → cap - n = 0) → (∀ x, a' = some x → x.spot = none ∧ x.block = s) → Row w a' (xs.length - n) (cap - n) (xs.drop n) → Rd (w.setCell ⟨g, 0, none⟩ (.slice a' (xs.length - n) (cap - n))) g s (xs.drop n) e) := key
  clear key hl
  cases a with
  | none =>
    obtain rfl : cap = 0 := ha0 rfl
    obtain rfl : n = 0 := by omega
    obtain rfl : xs = [] := List.length_eq_zero_iff.1 (by omega)
    go_enter Tryz.func118, Tryz.ntmps118
    go_wp2
    go_ret
    exact ⟨rfl, by simpa using K.out none (by simp) (by simp) (.inl (by simp)), Off.setCell g 0 w _⟩
  | some x =>
    obtain ⟨b, off, spot⟩ := x
    obtain ⟨hs, hb⟩ := ha _ rfl
    simp only at hs hb
    subst hs
    subst hb
    have HR := hr.drop n hn
    generalize xs.length = len at *
    by_cases hc : cap = n
    · subst hc
      obtain rfl : cap = len := by omega
      go_enter Tryz.func118, Tryz.ntmps118
      go_wp2
      go_ret
      refine ⟨rfl, ?_, Off.setCell g 0 w _⟩
      have := K.out (some ⟨b, off, none⟩) (fun hx => by cases hx) (fun x hx => by cases hx; exact ⟨rfl, rfl⟩) (.inl (by omega))
      simpa using this
    · go_enter Tryz.func118, Tryz.ntmps118
      go_wp2
      go_ret
      exact ⟨rfl, K.out _ (fun hx => by cases hx) (fun x hx => by cases hx; exact ⟨rfl, rfl⟩) HR, Off.setCell g 0 w _⟩
end Go.Proofs.YtiollhmbdhepkaaGreatDoor.Fi
