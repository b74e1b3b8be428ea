/-
  What field.Num, field.Text, bytes.Clone and field.New answer, for every input; nothing that was there is changed. Condition: the package-level table of widths holds 1, 2, 4, 8.
  What the readings answer for what was laid: plain facts on numbers and lists, no program in sight but the definitions.
  What Put lays and Get reads, plainly.
  Frames as plain data: what Put lays and Get reads, plainly.
-/
import Derived.Test.YtmplpdjkhdaniaaGreatDoorWag
import Derived.Test.YtmplpdjkhdaniaaGreatDoorWah
import Derived.Test.YtmplpdjkhdaniaaGreatDoorWad
namespace Go.Proofs.YtmplpdjkhdaniaaGreatDoor.Fi
open Go.RowKit
set_option maxRecDepth 100000

/-- A string's bytes, as numbers. -/
def sb (s : ByteArray) : List Int := s.data.toList.map fun b => (b.toNat : Int)

theorem sb_len (s : ByteArray) : (sb s).length = s.size := by unfold sb; rw [List.length_map]; rfl

theorem sb_bytes (s : ByteArray) : ∀ i, 0 ≤ (sb s).getD i 0 ∧ (sb s).getD i 0 < 256 := by
  refine byteList _ ?_
  rw [List.all_eq_true]
  intro z hz
  obtain ⟨b, _, rfl⟩ := List.mem_map.1 hz
  have := b.toNat_lt
  simp
  omega

theorem strB_sb (s : ByteArray) : strB (sb s) = s := by
  unfold strB sb
  rw [List.map_map]
  have : ((fun n : Int => UInt8.ofNat n.toNat) ∘ fun b : UInt8 => (b.toNat : Int)) = id := by funext b; simp
  rw [this]
  simp

/-- A number's bytes in its least width, none if there is none. -/
def numB (n : Int) : List Int := if lenOf n = 0 then [] else pb n (lenOf n).toNat
/-- A text's. -/
def textB (s : ByteArray) : List Int := numB s.size ++ sb s

theorem pos_lim (n : Int) (h0 : lenOf n ≠ 0) : ∃ W : Nat, lenOf n = W ∧ W ≠ 0 ∧ IsW W ∧ 0 ≤ n ∧ n < lim W ∧ numB n = pb n W := by
  obtain ⟨W, hW⟩ : ∃ W : Nat, lenOf n = W := ⟨(lenOf n).toNat, by rcases lenOf_cases n with h | h | h | h | h | h <;> omega⟩
  have h1 : W ≠ 0 := by omega
  obtain ⟨h2, h3, h4⟩ := lenOf_eq n W hW h1
  refine ⟨W, hW, h1, h2, h3, h4, ?_⟩
  unfold numB
  rw [if_neg h0, hW]
  rfl

set_option maxHeartbeats 1000000 in
theorem fnum_any (n : Int) (w : World) (hw : Wid w) :
    Calls Tryz.prog 44 #[.int .i64 n] w fun r w' => ∃ v, r = .returned v ∧ Sl w' v (numB n) ∧ Below w.heap.size w w' := by
  by_cases h0 : lenOf n = 0
  · have hn : numB n = [] := by unfold numB; rw [if_pos h0]
    rw [hn]
    have c := put_no n w hw h0
    clear hn h0
    go_enter Tryz.func44, Tryz.ntmps44
    go_wp2_with (go_at_call 66; refine c.mono ?_; rintro e w' ⟨rfl, rfl⟩)
    go_ret
    exact ⟨_, rfl, Sl.none _, Below.refl _ _⟩
  · obtain ⟨W, hW, hW0, hI, h1, h2, hn⟩ := pos_lim n h0
    have c := put_ok n W w hw hW hW0
    have hl := pb_len n W hI
    have hW8 : W ≤ 8 := by rcases hI with rfl | rfl | rfl | rfl <;> omega
    have HS : Hid (Sl (w.alloc (.cells (pbA n W) 5)) (.slice (some ⟨w.heap.size, 0, none⟩) W W) (numB n)) := by
      rw [hn]
      exact ⟨_, W, by rw [hl], by omega, by unfold maxLen; omega, fun e => (by cases e), by rw [hl]; exact row_put n W w hI h1 h2⟩
    clear hn hl h0 hW hW0
    go_enter Tryz.func44, Tryz.ntmps44
    go_wp2_with (go_at_call 66; refine c.mono ?_; rintro e w' ⟨rfl, rfl⟩)
    go_ret
    exact ⟨_, rfl, HS.out, (Below.refl _ _).alloc (Nat.le_refl _) _⟩

/-- '[]byte(s)'. -/
theorem conv_str (s : ByteArray) (w : World) (hs : s.size ≤ 9223372036854775807) : ∃ a cap w2, (convert 9 34 (.string s)).run Tryz.prog w = .ok (.slice (some a) s.size cap) w2 ∧ Sl w2 (.slice (some a) s.size cap) (sb s) ∧ Below w.heap.size w w2 := by
  refine ⟨_, _, _, run_bytes_of_string w 9 34 5 s Tryz.underlying9 Tryz.underlying34 Tryz.underlying5, ?_, ?_⟩
  · have hge := grownCap_ge w s.size 0 5
    have hmx := grownCap_le_maxLen w s.size 0 5 (by unfold maxLen; omega)
    refine ⟨_, _, by rw [sb_len], by rw [sb_len]; exact hge, hmx, fun e => (by cases e), ?_⟩
    rw [sb_len]
    rcases Nat.eq_zero_or_pos s.size with h | h
    · exact .inl h
    · refine .inr ⟨h, _, 0, rfl, hge, hmx, fun i hi => ?_, sb_bytes s⟩
      have hi' : i < s.data.size := hi
      rw [Nat.zero_add]
      have := World.cell?_alloc_mark w.drew (bytesRow s (grownCap w s.size 0 5)) 5 ((bytesRow s (grownCap w s.size 0 5)).size, (bytesRow s (grownCap w s.size 0 5)).size + 1) i
      refine this.trans ?_
      rw [bytesRow_at s _ i hi']
      congr 2
      simp [sb, List.getD, Array.getElem?_eq_getElem hi']
  · exact (Below.refl _ w).drew.alloc (Nat.le_refl _) _

theorem isnil (w : World) : (binOp BinOp.eql 34 (.slice none 0 0) (.slice none 0 0)).run Tryz.prog w = .ok (.bool true) w := by kernel_rfl
theorem notnil (x : Addr) (n c : Nat) (w : World) : (binOp BinOp.eql 34 (.slice (some x) n c) (.slice none 0 0)).run Tryz.prog w = .ok (.bool false) w := by kernel_rfl

set_option maxHeartbeats 1000000 in
/-- What bytes.Clone answers: a slice of its own of the same bytes, nil for nil. -/
theorem clone_any (v : Value) (xs : List Int) (w : World) (h : Sl w v xs) (hbig : xs.length ≤ 200000000000000) :
    Calls Tryz.prog 69 #[v] w fun r w' => ∃ v', r = .returned v' ∧ w'.ownsRow w.heap.size 5 1 v' xs.length (xs.map (Value.int .u8)) ∧ Below w.heap.size w w' := by
  obtain ⟨i0, hi, hz0, hz1, hz2⟩ := info_parts info5'
  obtain ⟨a, cap, rfl, h1, h2, h3, h4⟩ := h
  cases a with
  | none =>
    obtain rfl := h3 rfl
    obtain rfl : xs = [] := List.length_eq_zero_iff.1 (by omega)
    clear h1 h2 h3 h4 hbig
    have hnil := isnil w
    go_enter Tryz.func69, Tryz.ntmps69
    go_wp2
    go_ret
    exact ⟨_, rfl, World.ownsRow_nil _ _ _ _, Below.refl _ _⟩
  | some x =>
    have hown0 : (w.alloc (.cells #[] 5)).ownsRow w.heap.size 5 1 (.slice (some ⟨w.heap.size, 0, none⟩) 0 0) 0 [] := World.ownsRow_made (base := w.heap.size) (e := 5) (size := 1) w #[] 0 (Nat.le_refl _) (by unfold maxLen; omega) rfl
    have hb0 : Below w.heap.size w (w.alloc (.cells #[] 5)) := (Below.refl _ _).alloc (Nat.le_refl _) _
    have hnews := news_row (h4.kept hb0)
    obtain ⟨L, hL⟩ : ∃ L, L = xs.length := ⟨_, rfl⟩
    have HL : Hid (L = xs.length) := hL
    rw [← hL] at hbig h1 ⊢
    clear h3 h4 hL h2
    have hnil := notnil x L cap w
    go_enter Tryz.func69, Tryz.ntmps69
    go_wp2_with (at_builtin; refine wpList_append_own_wide _ rfl _ _ 34 rfl w.heap.size 5 i0 (.int .u8 0) 1 1 Tryz.underlying34 hi hz0 hz1 hz2 rfl (by decide) _ 0 [] rfl hown0 x L cap (xs.map (Value.int .u8)) rfl (by rw [List.length_map, HL.out, Nat.mul_one]) hnews (ints_one xs) (by unfold maxLen; omega) (by omega) (by simp) ?_)
    intro v' w2 hown' hgrow _
    have hbel' : Below w.heap.size w w2 := hb0.grown hgrow (by simp) (own_base hown0)
    try simp only [Nat.zero_add, List.nil_append] at hown'
    clear hown0 hgrow hb0 hnews
    go_wp2
    go_ret
    exact ⟨_, rfl, hown', hbel'⟩

/-- The block that a slice lies in. -/
def blk : Option Addr → Nat
  | some x => x.block
  | none => 0

set_option maxHeartbeats 1000000 in
theorem new_any (v : Value) (xs : List Int) (w : World) (hw : Wid w) (h : Sl w v xs) (hbig : xs.length ≤ 200000000000000) :
    Calls Tryz.prog 50 #[v] w fun r w' => ∃ g s, r = .returned (.pointer (some ⟨g, 0, none⟩)) ∧ w.heap.size ≤ g ∧ g < w'.heap.size ∧ (s = 0 ∨ (w.heap.size ≤ s ∧ s < w'.heap.size)) ∧ Rd w' g s xs 0 ∧ Below w.heap.size w w' := by
  have c := clone_any v xs w h hbig
  have hb := h.bytes
  have hp := hw.pos
  clear h hbig
  go_enter Tryz.func50, Tryz.ntmps50
  go_wp2_with fail
  refine c.mono ?_
  rintro e w1 ⟨v1, rfl, own1, bel1⟩
  have sl1 := sl_owned own1 hb
  have hsz := bel1.size
  have hsp := own1.lt
  obtain ⟨a, cap, rfl, h1, h2, h3, h4⟩ := sl1
  have HR : Hid (Rd (w1.alloc (.cells #[.slice a xs.length cap, .int .i64 0] 124)) w1.heap.size (blk a) xs 0) := by
    refine ⟨a, cap, ?_, ?_, ?_, ?_, h1, h2, h4.kept ((Below.refl _ _).alloc (Nat.le_refl _) _), h3, ?_, ?_⟩
    · rw [World.cell?_alloc_at _ _ _ _ rfl]; rfl
    · rw [World.cell?_alloc_at _ _ _ _ rfl]; rfl
    · exact World.frozen?_alloc_new ..
    · exact World.frozen?_alloc_new ..
    · cases a with
      | none => show 0 ≠ _; omega
      | some x => have := (hsp x.block rfl).2; show x.block ≠ _; omega
    · intro x hx
      subst hx
      refine ⟨?_, rfl⟩
      rcases own1.2 with ⟨e, _⟩ | ⟨g, c, cur, e, _⟩
      · cases e
      · cases e; rfl
  have HS : Hid ((blk a) = 0 ∨ (w.heap.size ≤ (blk a) ∧ (blk a) < w1.heap.size)) := by
    cases a with
    | none => exact .inl rfl
    | some x => exact .inr (hsp x.block rfl)
  generalize (blk a) = s at HR HS
  clear h1 h2 h3 h4 own1 hsp c hb
  generalize xs.length = L at *
  go_wp2
  go_ret
  exact ⟨_, s, rfl, by omega, by simp, by have := HS.out; simp; omega, HR.out, bel1.alloc hsz _⟩
end Go.Proofs.YtmplpdjkhdaniaaGreatDoor.Fi
namespace Go.Proofs.YtmplpdjkhdaniaaGreatDoor.Fi
open Go.RowKit
set_option maxRecDepth 100000

theorem getD_append (xs ys : List Int) (i : Nat) (h : i < xs.length) : (xs ++ ys).getD i 0 = xs.getD i 0 := by
  simp [List.getD, List.getElem?_append_left h]

/-- What Get answers for a number's bytes with whatever behind. -/
theorem get_put (n : Int) (W m : Nat) (ys : List Int) (hI : IsW W) (h1 : 0 ≤ n) (h2 : n < lim W) : getN (W + m) (pb n W ++ ys) = n ∧ getU (W + m) (pb n W ++ ys) = W ∧ getE (W + m) (pb n W ++ ys) = 0 := by
  have hpos : 0 < W := by rcases hI with rfl | rfl | rfl | rfl <;> omega
  have hl := pb_len n W hI
  have hk : gk (pb n W ++ ys) = gk (pb n W) := by unfold gk; rw [getD_append _ _ _ (by omega)]
  have hw := pb_gk n W hI h1 h2
  have hg : gval (pb n W ++ ys) (W - 1) = n := by
    rw [gval_take (pb n W ++ ys) (pb n W) (W - 1) (fun i hi => getD_append _ _ _ (by omega))]
    exact pb_gval n W hI h1 h2
  unfold getN getU getE
  rw [hk, hw, if_neg (by omega), if_neg (by omega), if_neg (by omega), hg]
  exact ⟨rfl, rfl, rfl⟩

theorem numB_len (n : Int) : ((numB n).length : Int) = lenOf n := by
  unfold numB
  split
  · next h => rw [h]; rfl
  · next h =>
    obtain ⟨W, hW, hW0, hI, h1, h2, hn⟩ := pos_lim n h
    rw [hW]
    show ((pb n W).length : Int) = W
    rw [pb_len n W hI]

/-- What Shortest answers for a number that stands in its least width, with whatever behind. -/
theorem sh_num (n : Int) (ys : List Int) (h0 : lenOf n ≠ 0) :
    shN (numB n ++ ys).length (numB n ++ ys) = n ∧ shU (numB n ++ ys).length (numB n ++ ys) = lenOf n ∧ shE (numB n ++ ys).length (numB n ++ ys) = 0 := by
  obtain ⟨W, hW, hW0, hI, h1, h2, hn⟩ := pos_lim n h0
  have hl : (numB n ++ ys).length = W + ys.length := by rw [hn, List.length_append, pb_len n W hI]
  rw [hl, hn]
  obtain ⟨e1, e2, e3⟩ := get_put n W ys.length ys hI h1 h2
  unfold shN shU shE
  rw [e1, e2, e3, hW]
  simp

theorem na_num (n most : Int) (ys : List Int) (h0 : lenOf n ≠ 0) (hm : n ≤ most) : naE (numB n ++ ys) most = 0 ∧ naN (numB n ++ ys) most = n ∧ naU (numB n ++ ys) most = lenOf n := by
  obtain ⟨e1, e2, e3⟩ := sh_num n ys h0
  have hE : naE (numB n ++ ys) most = 0 := by unfold naE; rw [e3, e1, if_pos rfl, if_pos hm]
  unfold naN naU
  rw [hE, e1, e2]
  exact ⟨rfl, rfl, rfl⟩

theorem na_cut (n most : Int) (h0 : lenOf n ≠ 0) (m : Nat) (hm : (m : Int) < lenOf n) : naE ((numB n).take m) most = 3 := by
  obtain ⟨W, hW, hW0, hI, h1, h2, hn⟩ := pos_lim n h0
  have hl : ((numB n).take m).length = m := by rw [List.length_take, hn, pb_len n W hI]; omega
  have hE : getE ((numB n).take m).length ((numB n).take m) = 3 := by
    unfold getE
    rw [hl]
    refine if_pos ?_
    rcases Nat.eq_zero_or_pos m with h | h
    · exact .inr h
    · left
      have : gk ((numB n).take m) = gk (pb n W) := by
        unfold gk
        rw [hn]
        simp [List.getD, h]
      rw [this, pb_gk n W hI h1 h2]
      omega
  have hS : shE ((numB n).take m).length ((numB n).take m) = 3 := by unfold shE; rw [hE, if_neg (by decide)]
  unfold naE
  rw [hS, if_neg (by decide)]

theorem size_len0 (s : ByteArray) (h : s.size < 4611686018427387904) : lenOf (s.size : Int) ≠ 0 := by
  have hx : (0 : Int) ≤ s.size ∧ (s.size : Int) < 4611686018427387904 := by omega
  rcases lenOf_cases (s.size : Int) with h | h | h | h | h | h <;> omega

theorem tx_text (s : ByteArray) (most : Int) (ys : List Int) (hs : s.size < 4611686018427387904) (hm : (s.size : Int) ≤ most) :
    txE (textB s ++ ys) most = 0 ∧ txS (textB s ++ ys) most = sb s ∧ txR (textB s ++ ys) most = ys := by
  have h0 := size_len0 s hs
  have hnl := numB_len (s.size : Int)
  have e : textB s ++ ys = numB (s.size : Int) ++ (sb s ++ ys) := by unfold textB; rw [List.append_assoc]
  rw [e]
  obtain ⟨e1, e2, e3⟩ := na_num (s.size : Int) most (sb s ++ ys) h0 hm
  have hE : txE (numB (s.size : Int) ++ (sb s ++ ys)) most = 0 := by
    unfold txE
    rw [e1, e2, e3, if_pos rfl, if_pos]
    rw [List.length_append, List.length_append, sb_len]
    omega
  refine ⟨hE, ?_, ?_⟩
  · unfold txS
    rw [hE, e2, e3, if_pos rfl, ← hnl]
    simp only [Int.toNat_natCast]
    rw [List.drop_left, ← sb_len s, List.take_left]
  · unfold txR
    rw [hE, e2, e3, if_pos rfl, ← hnl]
    simp only [Int.toNat_natCast]
    rw [← List.drop_drop, List.drop_left, ← sb_len s, List.drop_left]

theorem tx_cut (s : ByteArray) (most : Int) (m : Nat) (hs : s.size < 4611686018427387904) (hm : (s.size : Int) ≤ most) (hl : m < (textB s).length) :
    txE ((textB s).take m) most = 3 ∧ txS ((textB s).take m) most = [] ∧ txR ((textB s).take m) most = (textB s).take m := by
  have h0 := size_len0 s hs
  have hnl := numB_len (s.size : Int)
  have hE : txE ((textB s).take m) most = 3 := by
    by_cases hw : (m : Int) < lenOf s.size
    · have e : (textB s).take m = (numB (s.size : Int)).take m := by unfold textB; rw [List.take_append_of_le_length (by omega)]
      rw [e]
      have := na_cut (s.size : Int) most h0 m hw
      unfold txE
      rw [this, if_neg (by decide)]
    · have e : (textB s).take m = numB (s.size : Int) ++ (sb s).take (m - (numB (s.size : Int)).length) := by
        unfold textB
        rw [List.take_append, List.take_of_length_le (by omega)]
      obtain ⟨e1, e2, e3⟩ := na_num (s.size : Int) most ((sb s).take (m - (numB (s.size : Int)).length)) h0 hm
      unfold textB at hl
      rw [List.length_append, sb_len] at hl
      rw [e]
      unfold txE
      rw [e1, e2, e3, if_pos rfl, if_neg]
      rw [List.length_append, List.length_take, sb_len]
      omega
  unfold txS txR
  rw [hE]
  exact ⟨rfl, rfl, rfl⟩

theorem textB_len (s : ByteArray) : (textB s).length ≤ 8 + s.size ∧ (s.size < 4611686018427387904 → 0 < (textB s).length) := by
  have hnl := numB_len (s.size : Int)
  unfold textB
  rw [List.length_append, sb_len]
  constructor
  · rcases lenOf_cases (s.size : Int) with h | h | h | h | h | h <;> omega
  · intro hs
    have := size_len0 s hs
    rcases lenOf_cases (s.size : Int) with h | h | h | h | h | h <;> omega
end Go.Proofs.YtmplpdjkhdaniaaGreatDoor.Fi
namespace Go.Proofs.YtmplpdjkhdaniaaGreatDoor
open Go.RowKit
set_option maxRecDepth 100000

abbrev nB := Fi.numB
/-- What a reader answers for a number: it, what is left, the error. -/
def rN (xs : List Int) (e : Int) (m : Int) : Int × List Int × Int := if e = 0 then (Fi.naN xs m, xs.drop (Fi.naU xs m).toNat, Fi.naE xs m) else (0, xs, e)
theorem len_ok {n : Int} (h0 : 0 ≤ n) (h1 : n < 4611686018427387904) : Fi.lenOf n ≠ 0 := by
  unfold Fi.lenOf
  split <;> (try split) <;> (try split) <;> (try split) <;> (try split) <;> omega
theorem rN_num {n m : Int} (h0 : 0 ≤ n) (h1 : n < 4611686018427387904) (hm : n ≤ m) (ys : List Int) : rN (nB n ++ ys) 0 m = (n, ys, 0) := by
  obtain ⟨e1, e2, e3⟩ := Fi.na_num n m ys (len_ok h0 h1) hm
  unfold rN
  rw [if_pos rfl, e1, e2, e3, ← Fi.numB_len, Int.toNat_natCast]
  simp
theorem rN_cut {n m : Int} (h0 : 0 ≤ n) (h1 : n < 4611686018427387904) (k : Nat) (hk : k < (nB n).length) (ys : List Int) : (rN ((nB n ++ ys).take k) 0 m).1 = 0 ∧ (rN ((nB n ++ ys).take k) 0 m).2.2 = 3 := by
  have e := Fi.na_cut n m (len_ok h0 h1) k (by rw [← Fi.numB_len]; exact_mod_cast hk)
  have et : (nB n ++ ys).take k = (nB n).take k := by rw [List.take_append_of_le_length (by omega)]
  unfold rN
  rw [if_pos rfl, et]
  simp only
  refine ⟨?_, e⟩
  unfold Fi.naN
  rw [e]
  rfl
theorem rN_stop {e : Int} (he : e ≠ 0) (xs : List Int) (m : Int) : rN xs e m = (0, xs, e) := by unfold rN; rw [if_neg he]
theorem rN_bd (xs : List Int) (e m : Int) (hm : 0 ≤ m) (hb : ∀ i, 0 ≤ xs.getD i 0 ∧ xs.getD i 0 < 256) : 0 ≤ (rN xs e m).1 ∧ (rN xs e m).1 ≤ m ∧ (rN xs e m).2.1.length ≤ xs.length ∧ (∀ i, 0 ≤ (rN xs e m).2.1.getD i 0 ∧ (rN xs e m).2.1.getD i 0 < 256) := by
  unfold rN
  split
  · have h := Fi.na_bd xs m hb
    refine ⟨h.1, ?_, by simp only [List.length_drop]; omega, Fi.bytes_drop xs _ hb⟩
    simp only
    by_cases hE : Fi.naE xs m = 0
    · unfold Fi.naN
      rw [if_pos hE]
      unfold Fi.naE at hE
      by_cases q : Fi.shE xs.length xs = 0
      · rw [if_pos q] at hE
        by_cases q2 : Fi.shN xs.length xs ≤ m
        · exact q2
        · rw [if_neg q2] at hE; omega
      · rw [if_neg q] at hE; exact absurd hE q
    · unfold Fi.naN
      rw [if_neg hE]
      exact hm
  · exact ⟨Int.le_refl _, hm, Nat.le_refl _, hb⟩
/-- The bytes of the spans behind one, falling. -/
def body (p : Sp) : List Sp → List Int
  | [] => []
  | x :: R => nB (p.1 - x.2 - 2) ++ (nB (x.2 - x.1) ++ body x R)
theorem body_cons (p x : Sp) (R : List Sp) : body p (x :: R) = nB (p.1 - x.2 - 2) ++ (nB (x.2 - x.1) ++ body x R) := rfl
/-- A span read, with so many left. -/
def gsp (xs : List Int) (e tw left : Int) : Sp × List Int × Int := ((tw - (rN xs e (tw - left * 2)).1, tw), (rN xs e (tw - left * 2)).2)
/-- The further spans read. -/
def glp : Nat → List Sp → Sp → List Int → Int → List Sp × List Int × Int
  | 0, l, p, xs, e => (l ++ [p], xs, e)
  | k + 1, l, p, xs, e =>
    let r := rN xs e (p.1 - 2 - (k : Int) * 2)
    let g := gsp r.2.1 r.2.2 (p.1 - 2 - r.1) k
    glp k (l ++ [p]) g.1 g.2.1 g.2.2
/-- The bytes of spans that rise. -/
def putF : List Sp → List Int
  | [] => []
  | x :: R => nB x.2 ++ (nB (R.length : Nat) ++ (nB (x.2 - x.1) ++ body x R))
theorem putF_cons (x : Sp) (R : List Sp) : putF (x :: R) = nB x.2 ++ (nB (R.length : Nat) ++ (nB (x.2 - x.1) ++ body x R)) := rfl
def putB (l : List Sp) : List Int := putF l.reverse
/-- Falling spans. -/
def Fall (l : List Sp) : Prop := (∀ x ∈ l, Okk x) ∧ l.Pairwise (fun x y => y.2 + 2 ≤ x.1)
theorem fall_of {l : List Sp} (h : Canon l) : Fall l.reverse := ⟨fun x hx => h.1 x (List.mem_reverse.1 hx), List.pairwise_reverse.2 h.2⟩
theorem Fall.tail {x : Sp} {l : List Sp} (h : Fall (x :: l)) : Fall l := ⟨fun y hy => h.1 y (List.mem_cons_of_mem _ hy), (List.pairwise_cons.1 h.2).2⟩
theorem Fall.room : ∀ {l : List Sp} {x : Sp}, Fall (x :: l) → 2 * (l.length : Int) ≤ x.1
  | [], x, h => by have := (h.1 x (List.mem_cons_self ..)).1; simp; omega
  | y :: l, x, h => by
    have ih := Fall.room h.tail
    have h1 : y.2 + 2 ≤ x.1 := (List.pairwise_cons.1 h.2).1 y (List.mem_cons_self ..)
    have h2 := (h.1 y (List.mem_cons_of_mem _ (List.mem_cons_self ..))).2.1
    simp only [List.length_cons]
    omega
theorem glp_body : ∀ (R : List Sp) (acc : List Sp) (p : Sp) (ys : List Int), Fall (p :: R) → glp R.length acc p (body p R ++ ys) 0 = (acc ++ p :: R, ys, 0)
  | [], acc, p, ys, _ => rfl
  | x :: R, acc, p, ys, h => by
    have hr := h.tail.room
    have h1 : x.2 + 2 ≤ p.1 := (List.pairwise_cons.1 h.2).1 x (List.mem_cons_self ..)
    have hx := h.1 x (List.mem_cons_of_mem _ (List.mem_cons_self ..))
    have hp := h.1 p (List.mem_cons_self ..)
    unfold Okk at hx hp
    have e1 : rN (body p (x :: R) ++ ys) 0 (p.1 - 2 - (R.length : Int) * 2) = (p.1 - x.2 - 2, nB (x.2 - x.1) ++ (body x R ++ ys), 0) := by
      rw [body_cons, List.append_assoc, List.append_assoc]
      exact rN_num (n := p.1 - x.2 - 2) (m := p.1 - 2 - (R.length : Int) * 2) (by omega) (by omega) (by omega) _
    have e2 : gsp (nB (x.2 - x.1) ++ (body x R ++ ys)) 0 (p.1 - 2 - (p.1 - x.2 - 2)) (R.length : Int) = (x, body x R ++ ys, 0) := by
      have e : p.1 - 2 - (p.1 - x.2 - 2) = x.2 := by omega
      rw [e]
      unfold gsp
      rw [rN_num (n := x.2 - x.1) (m := x.2 - (R.length : Int) * 2) (by omega) (by omega) (by omega)]
      simp only
      refine Prod.ext (Prod.ext ?_ rfl) rfl
      simp only
      omega
    rw [List.length_cons]
    unfold glp
    simp only
    rw [e1]
    simp only
    rw [e2]
    simp only
    rw [glp_body R _ x ys h.tail]
    simp
/-- All that Get reads. -/
def getA (xs : List Int) : List Sp × List Int × Int :=
  let a := rN xs 0 1099511627776
  let b := rN a.2.1 a.2.2 (min 63 (a.1 / 2))
  let g := gsp b.2.1 b.2.2 a.1 b.1
  glp b.1.toNat [] g.1 g.2.1 g.2.2
/-- What Get answers. -/
def getP (xs : List Int) : List Sp × Int × Int :=
  let r := getA (xs.take 1032)
  if r.2.2 = 0 then (r.1.reverse, ((xs.take 1032).length : Int) - (r.2.1.length : Int), 0) else if r.2.2 = 3 then ([], 0, 3) else ([], 0, 4)
theorem numB_len8 (n : Int) : (nB n).length ≤ 8 := by
  unfold nB Fi.numB
  split
  · simp
  · rename_i h0
    obtain ⟨W, hW, _, hI, _, _, hn⟩ := Fi.pos_lim n h0
    rw [hW, Int.toNat_natCast, Fi.pb_len n W hI]
    rcases hI with rfl | rfl | rfl | rfl <;> omega
theorem body_len (p : Sp) : ∀ R : List Sp, (body p R).length ≤ 16 * R.length
  | [] => by simp [body]
  | x :: R => by
    have := body_len x R
    have := numB_len8 (p.1 - x.2 - 2)
    have := numB_len8 (x.2 - x.1)
    rw [body_cons, List.length_append, List.length_append, List.length_cons]
    omega
theorem putF_len (l : List Sp) (h : l.length ≤ 64) : (putF l).length ≤ 1032 := by
  cases l with
  | nil => simp [putF]
  | cons x R =>
    have := body_len x R
    have := numB_len8 x.2
    have := numB_len8 (R.length : Nat)
    have := numB_len8 (x.2 - x.1)
    unfold putF
    rw [List.length_append, List.length_append, List.length_append]
    simp only [List.length_cons] at h
    omega
theorem putB_len {l : List Sp} (h : l.length ≤ 64) : (putB l).length ≤ 1032 := putF_len _ (by rw [List.length_reverse]; exact h)
theorem getA_put (x : Sp) (R : List Sp) (ys : List Int) (h : Fall (x :: R)) (hl : R.length ≤ 63) : getA (putF (x :: R) ++ ys) = (x :: R, ys, 0) := by
  have hx := h.1 x (List.mem_cons_self ..)
  have hr := h.room
  unfold Okk at hx
  unfold getA
  simp only
  have e1 : rN (putF (x :: R) ++ ys) 0 1099511627776 = (x.2, nB (R.length : Nat) ++ (nB (x.2 - x.1) ++ (body x R ++ ys)), 0) := by
    unfold putF
    simp only [List.append_assoc]
    exact rN_num (n := x.2) (m := 1099511627776) (by omega) (by omega) (by omega) _
  rw [e1]
  simp only
  rw [rN_num (n := ((R.length : Nat) : Int)) (m := min 63 (x.2 / 2)) (by omega) (by omega) (by omega)]
  simp only [Int.toNat_natCast]
  have e2 : gsp (nB (x.2 - x.1) ++ (body x R ++ ys)) 0 x.2 (R.length : Int) = (x, body x R ++ ys, 0) := by
    unfold gsp
    rw [rN_num (n := x.2 - x.1) (m := x.2 - (R.length : Int) * 2) (by omega) (by omega) (by omega)]
    simp only
    refine Prod.ext (Prod.ext ?_ rfl) rfl
    simp only
    omega
  rw [e2]
  simp only
  rw [glp_body R [] x ys h]
  rfl
theorem getP_put {l : List Sp} (h : Canon l) (hn : l ≠ []) (hl : l.length ≤ 64) (ys : List Int) : getP (putB l ++ ys) = (l, (((putB l).length : Nat) : Int), 0) := by
  have hf := fall_of h
  have hL := putB_len hl
  unfold getP
  simp only
  have e0 : (putB l ++ ys).take 1032 = putB l ++ ys.take (1032 - (putB l).length) := by rw [List.take_append, List.take_of_length_le hL]
  rw [e0]
  generalize ys.take (1032 - (putB l).length) = zs
  unfold putB at hL ⊢
  have hrl : l.reverse.length = l.length := List.length_reverse
  have hrr : l.reverse.reverse = l := List.reverse_reverse l
  cases e : l.reverse with
  | nil => exact absurd (List.reverse_eq_nil_iff.1 e) hn
  | cons x R =>
    rw [e] at hf hrl hrr
    rw [getA_put x R zs hf (by simp only [List.length_cons] at hrl; omega)]
    simp only [if_true]
    rw [hrr]
    refine Prod.ext rfl (Prod.ext ?_ rfl)
    simp only [List.length_append]
    omega
/-- The parts as the rounds lay them. -/
def prt (l : List Sp) (i : Nat) : List (List Int) := (if i < l.length - 1 then [nB ((atS l (i + 1)).1 - (atS l i).2 - 2)] else []) ++ [nB ((atS l i).2 - (atS l i).1)]
def prs (l : List Sp) : Nat → List (List Int)
  | 0 => [nB (atS l (l.length - 1)).2, nB ((l.length - 1 : Nat) : Int)]
  | k + 1 => prs l k ++ prt l (l.length - (k + 1))
theorem take_rev {l : List Sp} {j : Nat} (h : j < l.length) : (l.take (j + 1)).reverse = atS l j :: (l.take j).reverse := by
  rw [atS_eq l j h, List.take_succ_eq_append_getElem h, List.reverse_append]
  rfl
theorem prs_flat (l : List Sp) : ∀ k, k + 1 ≤ l.length → (prs l (k + 1)).flatten ++ body (atS l (l.length - (k + 1))) (l.take (l.length - (k + 1))).reverse = putB l
  | 0, h => by
    have hl : 0 < l.length := by omega
    have e : l.reverse = atS l (l.length - 1) :: (l.take (l.length - 1)).reverse := by
      have := take_rev (l := l) (j := l.length - 1) (by omega)
      rwa [show l.length - 1 + 1 = l.length by omega, List.take_length] at this
    have e2 : (l.take (l.length - 1)).reverse.length = l.length - 1 := by rw [List.length_reverse, List.length_take]; omega
    have e3 : prs l (0 + 1) = [nB (atS l (l.length - 1)).2, nB ((l.length - 1 : Nat) : Int)] ++ prt l (l.length - 1) := rfl
    have e4 : prt l (l.length - 1) = [nB ((atS l (l.length - 1)).2 - (atS l (l.length - 1)).1)] := by unfold prt; rw [if_neg (Nat.lt_irrefl _)]; rfl
    unfold putB
    rw [e, putF_cons, e2, e3, e4, Nat.zero_add]
    generalize body (atS l (l.length - 1)) _ = Z
    simp
  | k + 1, h => by
    have ih := prs_flat l k (by omega)
    rw [← ih]
    have e0 : l.length - (k + 1) = l.length - (k + 1 + 1) + 1 := by omega
    have e1 : (l.take (l.length - (k + 1))).reverse = atS l (l.length - (k + 1 + 1)) :: (l.take (l.length - (k + 1 + 1))).reverse := by
      rw [e0]
      exact take_rev (by omega)
    rw [e1]
    show (prs l (k + 1) ++ prt l (l.length - (k + 1 + 1))).flatten ++ _ = _
    rw [body_cons]
    unfold prt
    rw [if_pos (by omega), List.flatten_append, ← e0]
    generalize body (atS l (l.length - (k + 1 + 1))) _ = Z
    simp
theorem prs_all {l : List Sp} (h : l ≠ []) : (prs l l.length).flatten = putB l := by
  have hl := List.length_pos_iff.2 h
  have := prs_flat l (l.length - 1) (by omega)
  rw [show l.length - 1 + 1 = l.length by omega, Nat.sub_self, List.take_zero] at this
  simpa [body] using this
theorem prt_len (l : List Sp) (i : Nat) : (prt l i).length ≤ 2 := by unfold prt; rw [List.length_append]; split <;> simp
theorem prs_len (l : List Sp) : ∀ k, (prs l k).length ≤ 2 + 2 * k
  | 0 => by simp [prs]
  | k + 1 => by
    have := prs_len l k
    have := prt_len l (l.length - (k + 1))
    unfold prs
    rw [List.length_append]
    omega
/-- The set of all numbers of spans. -/
def setL (l : List Sp) : List Sp := l.foldl (fun s x => adP s x.1 x.2) []
theorem setL_snoc (l : List Sp) (x : Sp) : setL (l ++ [x]) = adP (setL l) x.1 x.2 := by unfold setL; rw [List.foldl_append]; rfl
theorem adP_mem {s : List Sp} (h : Canon s) {f t : Int} (hok : Okk (f, t)) (n : Int) : Mem (adP s f t) n ↔ Mem s n ∨ (f ≤ n ∧ n ≤ t) := by
  rw [← adP_eq h, if_pos ((may_iff f t).2 hok), radd_eq h hok]
  exact (add_spec h hok).2 n
theorem setL_spec (l : List Sp) : Canon (setL l) ∧ ((∀ x ∈ l, Okk x) → ∀ n, Mem (setL l) n ↔ Mem l n) := by
  suffices H : ∀ (l s : List Sp), Canon s → Canon (l.foldl (fun s x => adP s x.1 x.2) s) ∧ ((∀ x ∈ l, Okk x) → ∀ n, Mem (l.foldl (fun s x => adP s x.1 x.2) s) n ↔ Mem s n ∨ Mem l n) by
    obtain ⟨h1, h2⟩ := H l [] Canon.nil
    exact ⟨h1, fun h n => (h2 h n).trans ⟨fun a => a.elim (fun a => absurd a (mem_nil n)) id, .inr⟩⟩
  intro l
  induction l with
  | nil => intro s hs; exact ⟨hs, fun _ n => ⟨.inl, fun a => a.elim id (fun a => absurd a (mem_nil n))⟩⟩
  | cons x l ih =>
    intro s hs
    obtain ⟨i1, i2⟩ := ih (adP s x.1 x.2) (adP_canon hs _ _)
    refine ⟨i1, fun h n => ?_⟩
    rw [List.foldl_cons, i2 (fun y hy => h y (List.mem_cons_of_mem _ hy)), adP_mem hs (h x (List.mem_cons_self ..)), mem_cons]
    exact ⟨fun a => a.elim (fun a => a.elim .inl (fun a => .inr (.inl a))) (fun a => .inr (.inr a)), fun a => a.elim (fun a => .inl (.inl a)) (fun a => a.elim (fun a => .inl (.inr a)) .inr)⟩
theorem setL_canon {l : List Sp} (h : Canon l) : setL l = l := canon_ext (setL_spec l).1 h (fun n => (setL_spec l).2 h.1 n)
theorem setL_len {l : List Sp} : (setL l).length ≤ l.length := by
  suffices H : ∀ (l s : List Sp), Canon s → (l.foldl (fun s x => adP s x.1 x.2) s).length ≤ s.length + l.length by have := H l [] Canon.nil; simpa [setL] using this
  intro l
  induction l with
  | nil => intro s hs; simp
  | cons x l ih =>
    intro s hs
    have h1 := ih (adP s x.1 x.2) (adP_canon hs _ _)
    have h2 : (adP s x.1 x.2).length ≤ s.length + 1 := by
      unfold adP
      split
      · next q => exact addL_len s _ _ (fE_bU hs (by have := (may_iff _ _).1 q.1; unfold Okk at this; simp only at this; omega))
      · omega
    rw [List.foldl_cons, List.length_cons]
    omega
/-- What Check answers. -/
def chkL (l : List Sp) : Int := if 64 < l.length then 5 else if l = [] ∨ setL l ≠ l then 4 else 0
end Go.Proofs.YtmplpdjkhdaniaaGreatDoor
namespace Go.Proofs.YtmplpdjkhdaniaaGreatDoor
open Go.RowKit
set_option maxRecDepth 100000

/-- A frame as plain data. -/
structure Fm where
  k : Int
  id : Int
  n : Int
  cd : Int
  fin : Bool
  tx : ByteArray
  nc : List Int
  sp : List Sp
abbrev zn : List Int := List.replicate 16 0
def Fm.zero : Fm := ⟨0, 0, 0, 0, false, ⟨#[]⟩, zn, []⟩
def isK (k : Int) : Bool := decide (1 ≤ k) && decide (k ≤ 10)
def hI (k : Int) : Bool := k == 3 || k == 4 || k == 5 || k == 7
def hN (k : Int) : Bool := k == 2 || k == 3 || k == 4 || k == 6 || k == 7 || k == 8
def hF (k : Int) : Bool := k == 3
def hC (k : Int) : Bool := k == 4 || k == 5 || k == 10
def hO (k : Int) : Bool := k == 9
def hT (k : Int) : Bool := k == 3 || k == 9 || k == 10
def hS (k : Int) : Bool := k == 2
def mT (k : Int) : Int := if k = 3 then 1100 else if k = 9 then 256 else if k = 10 then 64 else 0
def finB (b : Bool) : Int := if b then 1 else 0
/-- What its types say of a plain form. -/
structure FK (p : Fm) : Prop where
  k0 : 0 ≤ p.k
  k1 : p.k < 256
  i0 : -9223372036854775808 ≤ p.id
  i1 : p.id ≤ 9223372036854775807
  n0 : -9223372036854775808 ≤ p.n
  n1 : p.n ≤ 9223372036854775807
  c0 : -9223372036854775808 ≤ p.cd
  c1 : p.cd ≤ 9223372036854775807
  nl : p.nc.length = 16
  nb : ∀ i, 0 ≤ p.nc.getD i 0 ∧ p.nc.getD i 0 < 256
/-- The parts that it may not have. -/
def badF (p : Fm) : Prop := (p.id ≠ 0 ∧ hI p.k = false) ∨ (p.n ≠ 0 ∧ hN p.k = false) ∨ (p.fin = true ∧ hF p.k = false) ∨ (p.cd ≠ 0 ∧ hC p.k = false) ∨ (p.nc ≠ zn ∧ hO p.k = false) ∨ (p.tx ≠ ⟨#[]⟩ ∧ hT p.k = false) ∨ (p.sp ≠ [] ∧ hS p.k = false)
def outF (p : Fm) : Prop := p.id < 0 ∨ 1048576 < p.id ∨ p.cd < 0 ∨ 65536 < p.cd ∨ p.n < 0 ∨ 1099511627776 < p.n
instance (p : Fm) : Decidable (badF p) := by unfold badF; infer_instance
instance (p : Fm) : Decidable (outF p) := by unfold outF; infer_instance
/-- What Check answers. -/
def chkM (p : Fm) : Int :=
  if isK p.k = false then 9
  else if badF p then 4
  else if outF p then 13
  else if hS p.k = true ∧ chkL p.sp ≠ 0 then chkL p.sp
  else if mT p.k < (p.tx.size : Int) then 5
  else if p.k = 3 ∧ 1099511627776 < p.n + (p.tx.size : Int) then 13
  else 0
/-- What Put lays. -/
def prtM (p : Fm) : List (List Int) :=
  [[p.k], (if hI p.k then nB p.id else []), (if hN p.k then nB p.n else []), (if hF p.k then [finB p.fin] else []), (if hC p.k then nB p.cd else []), (if hO p.k then p.nc else []), (if hT p.k then Fi.textB p.tx else []), (if hS p.k then putB p.sp else [])]
def putM (p : Fm) : List Int := (prtM p).flatten
/-- What may be has just its kind's parts, and numbers within bounds. -/
structure Ok (p : Fm) : Prop where
  kk : isK p.k = true
  nb : ¬ badF p
  no : ¬ outF p
  sp : hS p.k = true → Canon p.sp ∧ p.sp ≠ [] ∧ p.sp.length ≤ 64
  tx : (p.tx.size : Int) ≤ mT p.k
  st : p.k = 3 → p.n + (p.tx.size : Int) ≤ 1099511627776
theorem chkL_ok {l : List Sp} (h : chkL l = 0) : Canon l ∧ l ≠ [] ∧ l.length ≤ 64 := by
  unfold chkL at h
  by_cases h1 : 64 < l.length
  · rw [if_pos h1] at h; omega
  · rw [if_neg h1] at h
    by_cases h2 : l = [] ∨ setL l ≠ l
    · rw [if_pos h2] at h; omega
    · have h3 : l ≠ [] := fun e => h2 (.inl e)
      have h4 : setL l = l := Classical.not_not.1 fun e => h2 (.inr e)
      exact ⟨h4 ▸ (setL_spec l).1, h3, by omega⟩
theorem chkM_ok {p : Fm} (h : chkM p = 0) : Ok p := by
  unfold chkM at h
  by_cases h1 : isK p.k = false
  · rw [if_pos h1] at h; omega
  rw [if_neg h1] at h
  by_cases h2 : badF p
  · rw [if_pos h2] at h; omega
  rw [if_neg h2] at h
  by_cases h3 : outF p
  · rw [if_pos h3] at h; omega
  rw [if_neg h3] at h
  by_cases h4 : hS p.k = true ∧ chkL p.sp ≠ 0
  · rw [if_pos h4] at h; exact absurd h h4.2
  rw [if_neg h4] at h
  by_cases h5 : mT p.k < (p.tx.size : Int)
  · rw [if_pos h5] at h; omega
  rw [if_neg h5] at h
  by_cases h6 : p.k = 3 ∧ 1099511627776 < p.n + (p.tx.size : Int)
  · rw [if_pos h6] at h; omega
  exact ⟨by simpa using h1, h2, h3, fun e => chkL_ok (Classical.not_not.1 fun e' => h4 ⟨e, e'⟩), by omega, fun e => by have : ¬ (1099511627776 < p.n + (p.tx.size : Int)) := fun q => h6 ⟨e, q⟩; omega⟩
theorem chkM_of {p : Fm} (h : Ok p) : chkM p = 0 := by
  unfold chkM
  rw [if_neg (by rw [h.kk]; decide), if_neg h.nb, if_neg h.no, if_neg, if_neg (by have := h.tx; omega), if_neg (fun q => by have := h.st q.1; omega)]
  rintro ⟨a, b⟩
  obtain ⟨c1, c2, c3⟩ := h.sp a
  apply b
  unfold chkL
  rw [if_neg (by omega), if_neg (fun q => q.elim c2 (fun q => q (setL_canon c1)))]
/-- What a part that is not there has. -/
theorem Ok.d {p : Fm} (h : Ok p) : (hI p.k = false → p.id = 0) ∧ (hN p.k = false → p.n = 0) ∧ (hF p.k = false → p.fin = false) ∧ (hC p.k = false → p.cd = 0) ∧ (hO p.k = false → p.nc = zn) ∧ (hT p.k = false → p.tx = ⟨#[]⟩) ∧ (hS p.k = false → p.sp = []) := by
  have := h.nb
  unfold badF at this
  simp only [not_or, not_and] at this
  obtain ⟨a, b, c, d, e, f, g⟩ := this
  refine ⟨fun q => ?_, fun q => ?_, fun q => ?_, fun q => ?_, fun q => ?_, fun q => ?_, fun q => ?_⟩
  · exact Classical.not_not.1 fun r => a r q
  · exact Classical.not_not.1 fun r => b r q
  · cases hh : p.fin
    · rfl
    · exact absurd q (c hh)
  · exact Classical.not_not.1 fun r => d r q
  · exact Classical.not_not.1 fun r => e r q
  · exact Classical.not_not.1 fun r => f r q
  · exact Classical.not_not.1 fun r => g r q
theorem Ok.b {p : Fm} (h : Ok p) : (0 ≤ p.id ∧ p.id ≤ 1048576) ∧ (0 ≤ p.cd ∧ p.cd ≤ 65536) ∧ 0 ≤ p.n ∧ p.n ≤ 1099511627776 := by
  have := h.no
  unfold outF at this
  omega
/-! What is read one behind the other. -/
abbrev Rr (α : Type) := List Int → Int → α × List Int × Int
structure Good {α : Type} (A : Rr α) (v : α) (bs : List Int) : Prop where
  ok : ∀ ys, A (bs ++ ys) 0 = (v, ys, 0)
  cut : ∀ k, k < bs.length → (A (bs.take k) 0).2.2 = 3
def Stp {α : Type} (A : Rr α) : Prop := ∀ xs e, e ≠ 0 → (A xs e).2.2 = e
def opt {α : Type} (b : Bool) (A : Rr α) (d : α) : Rr α := if b then A else fun xs e => (d, xs, e)
theorem opt_good {α : Type} {A : Rr α} {v d : α} {bs : List Int} (b : Bool) (h : b = true → Good A v bs) (hd : b = false → v = d) : Good (opt b A d) v (if b then bs else []) := by
  cases b with
  | true => exact h rfl
  | false => rw [hd rfl]; exact ⟨fun ys => rfl, fun k hk => by simp at hk⟩
theorem opt_stp {α : Type} {A : Rr α} {d : α} (b : Bool) (h : Stp A) : Stp (opt b A d) := by
  cases b with
  | true => exact h
  | false => exact fun xs e he => rfl
def rNm (m : Int) : Rr Int := fun xs e => rN xs e m
theorem rNm_good {n m : Int} (h0 : 0 ≤ n) (h1 : n < 4611686018427387904) (hm : n ≤ m) : Good (rNm m) n (nB n) :=
  ⟨fun ys => rN_num h0 h1 hm ys, fun k hk => by have := rN_cut (m := m) h0 h1 k hk []; rw [List.append_nil] at this; exact this.2⟩
theorem rNm_stp (m : Int) : Stp (rNm m) := fun xs e he => by unfold rNm; rw [rN_stop he]
def rFn : Rr Int := fun xs e => if e = 0 then (if xs = [] then (0, xs, 3) else if 1 < xs.getD 0 0 then (0, xs.drop 1, 4) else (xs.getD 0 0, xs.drop 1, 0)) else (0, xs, e)
theorem rFn_good (b : Bool) : Good rFn (finB b) [finB b] := by
  refine ⟨fun ys => ?_, fun k hk => ?_⟩
  · unfold rFn
    rw [if_pos rfl, if_neg (by simp), if_neg (by cases b <;> simp [finB])]
    simp
  · have : k = 0 := by simp at hk; omega
    subst this
    rfl
theorem rFn_stp : Stp rFn := fun xs e he => by unfold rFn; rw [if_neg he]
def rOn : Rr (List Int) := fun xs e => if e = 0 then (if xs.length < 16 then (zn, xs, 3) else (xs.take 16, xs.drop 16, 0)) else (zn, xs, e)
theorem rOn_good {l : List Int} (h : l.length = 16) : Good rOn l l := by
  refine ⟨fun ys => ?_, fun k hk => ?_⟩
  · unfold rOn
    rw [if_pos rfl, if_neg (by rw [List.length_append]; omega), ← h]
    simp
  · unfold rOn
    rw [if_pos rfl, if_pos (by rw [List.length_take]; omega)]
theorem rOn_stp : Stp rOn := fun xs e he => by unfold rOn; rw [if_neg he]
def rTx (m : Int) : Rr (List Int) := fun xs e => if e = 0 then (Fi.txS xs m, Fi.txR xs m, Fi.txE xs m) else ([], xs, e)
theorem rTx_good {s : ByteArray} {m : Int} (h : (s.size : Int) ≤ m) (h1 : s.size < 4611686018427387904) : Good (rTx m) (Fi.sb s) (Fi.textB s) := by
  refine ⟨fun ys => ?_, fun k hk => ?_⟩
  · unfold rTx
    obtain ⟨e1, e2, e3⟩ := Fi.tx_text s m ys h1 h
    rw [if_pos rfl, e1, e2, e3]
  · unfold rTx
    rw [if_pos rfl]
    exact (Fi.tx_cut s m k h1 h hk).1
theorem rTx_stp (m : Int) : Stp (rTx m) := fun xs e he => by unfold rTx; rw [if_neg he]
/-- One behind the other. -/
def thn {α β : Type} (A : Rr α) (B : Rr β) : Rr (α × β) := fun xs e => (((A xs e).1, (B (A xs e).2.1 (A xs e).2.2).1), (B (A xs e).2.1 (A xs e).2.2).2)
theorem thn_stp {α β : Type} {A : Rr α} {B : Rr β} (ha : Stp A) (hb : Stp B) : Stp (thn A B) := fun xs e he => by
  unfold thn
  simp only
  rw [hb _ _ (by rw [ha xs e he]; exact he), ha xs e he]
theorem thn_good {α β : Type} {A : Rr α} {B : Rr β} {v : α} {u : β} {bs cs : List Int} (ha : Good A v bs) (hb : Good B u cs) (sb : Stp B) : Good (thn A B) (v, u) (bs ++ cs) := by
  refine ⟨fun ys => ?_, fun k hk => ?_⟩
  · unfold thn
    rw [List.append_assoc, ha.ok]
    simp only
    rw [hb.ok]
  · unfold thn
    simp only
    by_cases h : k < bs.length
    · rw [List.take_append_of_le_length (by omega), sb _ _ (by rw [ha.cut k h]; decide), ha.cut k h]
    · rw [List.take_append, List.take_of_length_le (by omega), ha.ok]
      simp only
      exact hb.cut _ (by rw [List.length_append] at hk; omega)
/-- All but Spans. -/
abbrev Hd := Int × Int × Int × Int × List Int × List Int
def ahR (k : Int) : Rr Hd := thn (opt (hI k) (rNm 1048576) 0) (thn (opt (hN k) (rNm 1099511627776) 0) (thn (opt (hF k) rFn 0) (thn (opt (hC k) (rNm 65536) 0) (thn (opt (hO k) rOn zn) (opt (hT k) (rTx (mT k)) [])))))
def hdB (p : Fm) : List Int := (if hI p.k then nB p.id else []) ++ ((if hN p.k then nB p.n else []) ++ ((if hF p.k then [finB p.fin] else []) ++ ((if hC p.k then nB p.cd else []) ++ ((if hO p.k then p.nc else []) ++ (if hT p.k then Fi.textB p.tx else [])))))
def hdV (p : Fm) : Hd := (p.id, p.n, finB p.fin, p.cd, p.nc, Fi.sb p.tx)
theorem putM_eq (p : Fm) : putM p = p.k :: (hdB p ++ (if hS p.k then putB p.sp else [])) := by
  unfold putM prtM hdB
  simp
theorem mT_le (k : Int) : 0 ≤ mT k ∧ mT k ≤ 1100 := by unfold mT; split <;> (try split) <;> (try split) <;> omega
theorem Ok.head {p : Fm} (h : Ok p) (hn : p.nc.length = 16) : Good (ahR p.k) (hdV p) (hdB p) := by
  obtain ⟨d1, d2, d3, d4, d5, d6, d7⟩ := h.d
  obtain ⟨b1, b2, b3⟩ := h.b
  have ht := h.tx
  have hm := mT_le p.k
  unfold ahR hdV hdB
  refine thn_good (opt_good _ (fun _ => rNm_good b1.1 (by omega) b1.2) d1) (thn_good (opt_good _ (fun _ => rNm_good b3.1 (by omega) b3.2) d2) (thn_good (opt_good _ (fun _ => rFn_good _) (fun q => by rw [d3 q]; rfl)) (thn_good (opt_good _ (fun _ => rNm_good b2.1 (by omega) b2.2) d4) (thn_good (opt_good _ (fun _ => rOn_good hn) d5) (opt_good _ (fun _ => rTx_good ht (by omega)) (fun q => by rw [d6 q]; rfl)) ?_) ?_) ?_) ?_) ?_
  · exact opt_stp _ (rTx_stp _)
  · exact thn_stp (opt_stp _ rOn_stp) (opt_stp _ (rTx_stp _))
  · exact thn_stp (opt_stp _ (rNm_stp _)) (thn_stp (opt_stp _ rOn_stp) (opt_stp _ (rTx_stp _)))
  · exact thn_stp (opt_stp _ rFn_stp) (thn_stp (opt_stp _ (rNm_stp _)) (thn_stp (opt_stp _ rOn_stp) (opt_stp _ (rTx_stp _))))
  · exact thn_stp (opt_stp _ (rNm_stp _)) (thn_stp (opt_stp _ rFn_stp) (thn_stp (opt_stp _ (rNm_stp _)) (thn_stp (opt_stp _ rOn_stp) (opt_stp _ (rTx_stp _)))))
/-- The plain form that was read. -/
def mkF (k : Int) (h : Hd) (l : List Sp) : Fm := ⟨k, h.1, h.2.1, h.2.2.2.1, h.2.2.1 == 1, Fi.strB h.2.2.2.2.2, h.2.2.2.2.1, l⟩
theorem mkF_hdV (p : Fm) : mkF p.k (hdV p) p.sp = p := by
  unfold mkF hdV
  simp only
  rw [Fi.strB_sb]
  cases p
  simp only [Fm.mk.injEq, true_and, and_true]
  rename_i fin _ _ _
  cases fin <;> rfl
def errM (e : Int) : Fm × Int × Int := (Fm.zero, 0, e)
def endM (p : Fm) (u : Int) : Fm × Int × Int := if chkM p = 0 then (p, u, 0) else errM (chkM p)
/-- What plainAhead answers. -/
def ahM (ys : List Int) : Fm × Int × Int :=
  if ys = [] then errM 3
  else if isK (ys.getD 0 0) = false then errM 9
  else
    let k := ys.getD 0 0
    let r := ahR k (ys.drop 1) 0
    if r.2.2 ≠ 0 then errM (if r.2.2 = 5 then 4 else r.2.2)
    else if hS k = true then
      (if (getP r.2.1).2.2 ≠ 0 then errM (getP r.2.1).2.2 else (mkF k r.1 (getP r.2.1).1, (ys.length : Int) - (r.2.1.length : Int) + (getP r.2.1).2.1, 0))
    else (mkF k r.1 [], (ys.length : Int) - (r.2.1.length : Int), 0)
/-- What Get answers. -/
def getM (xs : List Int) : Fm × Int × Int :=
  let r := ahM (xs.take 1150)
  if r.2.2 ≠ 0 then errM r.2.2 else endM r.1 r.2.1
theorem hdB_len {p : Fm} (h : Ok p) (hn : p.nc.length = 16) : 1 + (hdB p).length + (if hS p.k then putB p.sp else []).length ≤ 1150 := by
  have ht := h.tx
  have hm := mT_le p.k
  have l4 := (Fi.textB_len p.tx).1
  have q1 : (if hI p.k then nB p.id else []).length ≤ 8 := by split; exact numB_len8 _; simp
  have q2 : (if hN p.k then nB p.n else []).length ≤ 8 := by split; exact numB_len8 _; simp
  have q3 : (if hF p.k then [finB p.fin] else []).length ≤ 1 := by split <;> simp
  have q4 : (if hC p.k then nB p.cd else []).length ≤ 8 := by split; exact numB_len8 _; simp
  have q5 : (if hO p.k then p.nc else []).length ≤ 16 := by split; omega; simp
  have q6 : (if hT p.k then Fi.textB p.tx else []).length ≤ 1108 := by split; omega; simp
  by_cases hs : hS p.k = true
  · have l5 := putB_len (h.sp hs).2.2
    have e : p.k = 2 := by simpa [hS] using hs
    have e5 : hO p.k = false := by rw [e]; rfl
    have e6 : hT p.k = false := by rw [e]; rfl
    rw [if_pos hs]
    unfold hdB
    rw [if_neg (show ¬ hO p.k = true by rw [e5]; decide), if_neg (show ¬ hT p.k = true by rw [e6]; decide)]
    simp only [List.length_append, List.length_nil]
    omega
  · rw [if_neg hs]
    unfold hdB
    simp only [List.length_append, List.length_nil]
    omega
theorem getM_put {p : Fm} (h : Ok p) (hn : p.nc.length = 16) (ys : List Int) : getM (putM p ++ ys) = (p, (((putM p).length : Nat) : Int), 0) := by
  have hl := hdB_len h hn
  have hg := h.head hn
  have hsp := h.sp
  have e0 : (putM p ++ ys).take 1150 = p.k :: (hdB p ++ ((if hS p.k then putB p.sp else []) ++ ys.take (1150 - (putM p).length))) := by
    rw [List.take_append, putM_eq, List.take_of_length_le (by rw [List.length_cons, List.length_append]; omega)]
    simp
  generalize ys.take (1150 - (putM p).length) = zs at e0
  unfold getM
  rw [e0]
  have e1 : ahM (p.k :: (hdB p ++ ((if hS p.k then putB p.sp else []) ++ zs))) = (p, (((putM p).length : Nat) : Int), 0) := by
    unfold ahM
    rw [if_neg (by simp)]
    simp only [List.getD_cons_zero, List.drop_one, List.tail_cons]
    rw [if_neg (by rw [h.kk]; decide), hg.ok]
    simp only
    rw [if_neg (by decide), putM_eq]
    by_cases hs : hS p.k = true
    · obtain ⟨c1, c2, c3⟩ := hsp hs
      rw [if_pos hs, if_pos hs, getP_put c1 c2 c3]
      simp only
      rw [if_neg (by decide), mkF_hdV]
      simp only [List.length_cons, List.length_append]
      refine Prod.ext rfl (Prod.ext ?_ rfl)
      simp only
      omega
    · have hs' : hS p.k = false := by simpa using hs
      have e2 : p.sp = [] := h.d.2.2.2.2.2.2 hs'
      rw [if_neg hs, if_neg hs]
      have e3 := mkF_hdV p
      rw [e2] at e3
      rw [e3]
      simp only [List.length_cons, List.length_append, List.nil_append, List.append_nil]
      refine Prod.ext rfl (Prod.ext ?_ rfl)
      simp only
      omega
  simp only
  rw [e1]
  simp only
  rw [if_neg (by decide)]
  unfold endM
  rw [if_pos (chkM_of h)]
/-- How many bytes it used. -/
theorem Stp.ok {α : Type} {A : Rr α} (h : Stp A) {xs : List Int} {e : Int} (he : (A xs e).2.2 = 0) : e = 0 := by
  apply Classical.not_not.1
  intro q
  rw [h xs e q] at he
  exact q he
end Go.Proofs.YtmplpdjkhdaniaaGreatDoor
