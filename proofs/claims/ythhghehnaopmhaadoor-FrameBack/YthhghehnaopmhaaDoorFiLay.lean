/-
  What field.Num, field.Text, bytes.Clone and field.New answer, for every input; nothing that was there is changed. Condition: the package-level table of widths holds 1, 2, 4, 8.
-/
import Derived.Test.YthhghehnaopmhaaDoorFiCat
import Derived.Test.YthhghehnaopmhaaDoorFiNum
namespace Go.Proofs.YthhghehnaopmhaaDoor.Fi
open Go.RowKit
set_option maxRecDepth 100000

/-- A string's bytes, as numbers. -/
def sb (s : ByteArray) : List Int := s.data.toList.map fun b => (b.toNat : Int)

theorem sb_len (s : ByteArray) : (sb s).length = s.size := by unfold sb; rw [List.length_map]; rfl

theorem sb_bytes (s : ByteArray) : ∀ i, 0 ≤ (sb s).getD i 0 ∧ (sb s).getD i 0 < 256 := by
  refine byteList _ ?_
  rw [List.all_eq_true]
  intro z hz
  obtain ⟨b, _, rfl⟩ := List.mem_map.1 hz
  have := b.toNat_lt
  simp
  omega

theorem strB_sb (s : ByteArray) : strB (sb s) = s := by
  unfold strB sb
  rw [List.map_map]
  have : ((fun n : Int => UInt8.ofNat n.toNat) ∘ fun b : UInt8 => (b.toNat : Int)) = id := by funext b; simp
  rw [this]
  simp

/-- A number's bytes in its least width, none if there is none. -/
def numB (n : Int) : List Int := if lenOf n = 0 then [] else pb n (lenOf n).toNat
/-- A text's. -/
def textB (s : ByteArray) : List Int := numB s.size ++ sb s

theorem pos_lim (n : Int) (h0 : lenOf n ≠ 0) : ∃ W : Nat, lenOf n = W ∧ W ≠ 0 ∧ IsW W ∧ 0 ≤ n ∧ n < lim W ∧ numB n = pb n W := by
  obtain ⟨W, hW⟩ : ∃ W : Nat, lenOf n = W := ⟨(lenOf n).toNat, by rcases lenOf_cases n with h | h | h | h | h | h <;> omega⟩
  have h1 : W ≠ 0 := by omega
  obtain ⟨h2, h3, h4⟩ := lenOf_eq n W hW h1
  refine ⟨W, hW, h1, h2, h3, h4, ?_⟩
  unfold numB
  rw [if_neg h0, hW]
  rfl

set_option maxHeartbeats 1000000 in
theorem fnum_any (n : Int) (w : World) (hw : Wid w) :
    Calls Tryd.prog 30 #[.int .i64 n] w fun r w' => ∃ v, r = .returned v ∧ Sl w' v (numB n) ∧ Below w.heap.size w w' := by
  by_cases h0 : lenOf n = 0
  · have hn : numB n = [] := by unfold numB; rw [if_pos h0]
    rw [hn]
    have c := put_no n w hw h0
    clear hn h0
    go_enter Tryd.func30, Tryd.ntmps30
    go_wp2_with (go_at_call 49; refine c.mono ?_; rintro e w' ⟨rfl, rfl⟩)
    go_ret
    exact ⟨_, rfl, Sl.none _, Below.refl _ _⟩
  · obtain ⟨W, hW, hW0, hI, h1, h2, hn⟩ := pos_lim n h0
    have c := put_ok n W w hw hW hW0
    have hl := pb_len n W hI
    have hW8 : W ≤ 8 := by rcases hI with rfl | rfl | rfl | rfl <;> omega
    have HS : Hid (Sl (w.alloc (.cells (pbA n W) 5)) (.slice (some ⟨w.heap.size, 0, none⟩) W W) (numB n)) := by
      rw [hn]
      exact ⟨_, W, by rw [hl], by omega, by unfold maxLen; omega, fun e => (by cases e), by rw [hl]; exact row_put n W w hI h1 h2⟩
    clear hn hl h0 hW hW0
    go_enter Tryd.func30, Tryd.ntmps30
    go_wp2_with (go_at_call 49; refine c.mono ?_; rintro e w' ⟨rfl, rfl⟩)
    go_ret
    exact ⟨_, rfl, HS.out, (Below.refl _ _).alloc (Nat.le_refl _) _⟩

/-- '[]byte(s)'. -/
theorem conv_str (s : ByteArray) (w : World) (hs : s.size ≤ 9223372036854775807) : ∃ a cap w2, (convert 9 25 (.string s)).run Tryd.prog w = .ok (.slice (some a) s.size cap) w2 ∧ Sl w2 (.slice (some a) s.size cap) (sb s) ∧ Below w.heap.size w w2 := by
  refine ⟨_, _, _, run_bytes_of_string w 9 25 5 s Tryd.underlying9 Tryd.underlying25 Tryd.underlying5, ?_, ?_⟩
  · have hge := grownCap_ge w s.size 0 5
    have hmx := grownCap_le_maxLen w s.size 0 5 (by unfold maxLen; omega)
    refine ⟨_, _, by rw [sb_len], by rw [sb_len]; exact hge, hmx, fun e => (by cases e), ?_⟩
    rw [sb_len]
    rcases Nat.eq_zero_or_pos s.size with h | h
    · exact .inl h
    · refine .inr ⟨h, _, 0, rfl, hge, hmx, fun i hi => ?_, sb_bytes s⟩
      have hi' : i < s.data.size := hi
      rw [Nat.zero_add]
      have := World.cell?_alloc_mark w.drew (bytesRow s (grownCap w s.size 0 5)) 5 ((bytesRow s (grownCap w s.size 0 5)).size, (bytesRow s (grownCap w s.size 0 5)).size + 1) i
      refine this.trans ?_
      rw [bytesRow_at s _ i hi']
      congr 2
      simp [sb, List.getD, Array.getElem?_eq_getElem hi']
  · exact (Below.refl _ w).drew.alloc (Nat.le_refl _) _

set_option maxHeartbeats 2000000 in
theorem ftext_any (s : ByteArray) (w : World) (hw : Wid w) (hs : s.size ≤ 140737488355328) :
    Calls Tryd.prog 32 #[.string s] w fun r w' => ∃ v, r = .returned v ∧ Sl w' v (textB s) ∧ Below w.heap.size w w' := by
  have c1 := fnum_any s.size w hw
  have hlen : (textB s).length ≤ 200000000000000 := by
    unfold textB
    rw [List.length_append, sb_len]
    have : (numB (s.size : Int)).length ≤ 8 := by
      unfold numB
      split
      · simp
      · next h =>
        obtain ⟨W, hW, hW0, hI, h1, h2, hn⟩ := pos_lim _ h
        rw [hW]
        show (pb _ W).length ≤ 8
        rw [pb_len _ W hI]
        rcases hI with rfl | rfl | rfl | rfl <;> omega
    omega
  go_enter Tryd.func32, Tryd.ntmps32
  go_wp2_with fail
  refine c1.mono ?_
  rintro e w1 ⟨v1, rfl, sl1, bel1⟩
  obtain ⟨a2, cap2, w2, cv, sl2, bel2⟩ := conv_str s w1 (by omega)
  have hP : ∀ u1 u2, Sl w2 u1 (numB s.size) → Sl w2 u2 (sb s) → Parts (w2.alloc (.cells #[u1, u2] 25)) (some ⟨w2.heap.size, 0, none⟩) [numB s.size, sb s] := fun u1 u2 s1 s2 => by
    have hb : Below w2.heap.size w2 (w2.alloc (.cells #[u1, u2] 25)) := (Below.refl _ _).alloc (Nat.le_refl _) _
    refine ⟨by simp, .inr ⟨_, 0, rfl, fun i hi => ?_⟩⟩
    have hi2 : i = 0 ∨ i = 1 := by simp at hi; omega
    rcases hi2 with rfl | rfl
    · exact ⟨u1, by rw [World.cell?_alloc_at _ _ _ _ rfl]; rfl, s1.kept hb⟩
    · exact ⟨u2, by rw [World.cell?_alloc_at _ _ _ _ rfl]; rfl, s2.kept hb⟩
  have sl1' := sl1.kept bel2
  obtain ⟨a1, cap1, rfl, _⟩ := sl1
  have cj := join_any _ 2 _ _ (hP _ _ sl1' sl2) (by simpa [textB] using hlen)
  have hfl : [numB s.size, sb s].flatten = textB s := by simp [textB]
  rw [hfl] at cj
  have hb12 := bel1.trans (bel2.mono bel1.size)
  have hb3 : Below w.heap.size w (w2.alloc (.cells #[.slice a1 (numB s.size).length cap1, .slice (some a2) s.size cap2] 25)) := hb12.alloc hb12.size _
  have hbt : ∀ i, 0 ≤ (textB s).getD i 0 ∧ (textB s).getD i 0 < 256 := by
    rw [← hfl]
    refine bytes_flat _ ?_
    intro X hX
    simp at hX
    rcases hX with rfl | rfl
    · exact sl1'.bytes
    · exact sb_bytes s
  have HB : Hid (∀ i, 0 ≤ (textB s).getD i 0 ∧ (textB s).getD i 0 < 256) := hbt
  clear hP sl1' sl2 c1 hfl hlen hbt
  simp only [List.length_cons, List.length_nil] at cj
  generalize (numB s.size).length = L1 at *
  generalize (textB s).length = LT at *
  clear bel1 bel2 hb12
  go_wp2_with (go_at_call 34; refine cj.mono ?_; rintro e w3 ⟨v3, rfl, own3, bel3⟩)
  go_ret
  refine ⟨_, rfl, sl_owned (by assumption) HB.out, hb3.trans (Below.mono (by assumption) hb3.size)⟩

theorem isnil (w : World) : (binOp BinOp.eql 25 (.slice none 0 0) (.slice none 0 0)).run Tryd.prog w = .ok (.bool true) w := by kernel_rfl
theorem notnil (x : Addr) (n c : Nat) (w : World) : (binOp BinOp.eql 25 (.slice (some x) n c) (.slice none 0 0)).run Tryd.prog w = .ok (.bool false) w := by kernel_rfl

set_option maxHeartbeats 1000000 in
/-- What bytes.Clone answers: a slice of its own of the same bytes, nil for nil. -/
theorem clone_any (v : Value) (xs : List Int) (w : World) (h : Sl w v xs) (hbig : xs.length ≤ 200000000000000) :
    Calls Tryd.prog 52 #[v] w fun r w' => ∃ v', r = .returned v' ∧ w'.ownsRow w.heap.size 5 1 v' xs.length (xs.map (Value.int .u8)) ∧ Below w.heap.size w w' := by
  obtain ⟨i0, hi, hz0, hz1, hz2⟩ := info_parts info5'
  obtain ⟨a, cap, rfl, h1, h2, h3, h4⟩ := h
  cases a with
  | none =>
    obtain rfl := h3 rfl
    obtain rfl : xs = [] := List.length_eq_zero_iff.1 (by omega)
    clear h1 h2 h3 h4 hbig
    have hnil := isnil w
    go_enter Tryd.func52, Tryd.ntmps52
    go_wp2
    go_ret
    exact ⟨_, rfl, World.ownsRow_nil _ _ _ _, Below.refl _ _⟩
  | some x =>
    have hown0 : (w.alloc (.cells #[] 5)).ownsRow w.heap.size 5 1 (.slice (some ⟨w.heap.size, 0, none⟩) 0 0) 0 [] := World.ownsRow_made (base := w.heap.size) (e := 5) (size := 1) w #[] 0 (Nat.le_refl _) (by unfold maxLen; omega) rfl
    have hb0 : Below w.heap.size w (w.alloc (.cells #[] 5)) := (Below.refl _ _).alloc (Nat.le_refl _) _
    have hnews := news_row (h4.kept hb0)
    obtain ⟨L, hL⟩ : ∃ L, L = xs.length := ⟨_, rfl⟩
    have HL : Hid (L = xs.length) := hL
    rw [← hL] at hbig h1 ⊢
    clear h3 h4 hL h2
    have hnil := notnil x L cap w
    go_enter Tryd.func52, Tryd.ntmps52
    go_wp2_with (at_builtin; refine wpList_append_own_wide _ rfl _ _ 25 rfl w.heap.size 5 i0 (.int .u8 0) 1 1 Tryd.underlying25 hi hz0 hz1 hz2 rfl (by decide) _ 0 [] rfl hown0 x L cap (xs.map (Value.int .u8)) rfl (by rw [List.length_map, HL.out, Nat.mul_one]) hnews (ints_one xs) (by unfold maxLen; omega) (by omega) (by simp) ?_)
    intro v' w2 hown' hgrow _
    have hbel' : Below w.heap.size w w2 := hb0.grown hgrow (by simp) (own_base hown0)
    try simp only [Nat.zero_add, List.nil_append] at hown'
    clear hown0 hgrow hb0 hnews
    go_wp2
    go_ret
    exact ⟨_, rfl, hown', hbel'⟩

/-- The block that a slice lies in. -/
def blk : Option Addr → Nat
  | some x => x.block
  | none => 0

set_option maxHeartbeats 1000000 in
theorem new_any (v : Value) (xs : List Int) (w : World) (hw : Wid w) (h : Sl w v xs) (hbig : xs.length ≤ 200000000000000) :
    Calls Tryd.prog 36 #[v] w fun r w' => ∃ g s, r = .returned (.pointer (some ⟨g, 0, none⟩)) ∧ w.heap.size ≤ g ∧ g < w'.heap.size ∧ (s = 0 ∨ (w.heap.size ≤ s ∧ s < w'.heap.size)) ∧ Rd w' g s xs 0 ∧ Below w.heap.size w w' := by
  have c := clone_any v xs w h hbig
  have hb := h.bytes
  have hp := hw.pos
  clear h hbig
  go_enter Tryd.func36, Tryd.ntmps36
  go_wp2_with fail
  refine c.mono ?_
  rintro e w1 ⟨v1, rfl, own1, bel1⟩
  have sl1 := sl_owned own1 hb
  have hsz := bel1.size
  have hsp := own1.lt
  obtain ⟨a, cap, rfl, h1, h2, h3, h4⟩ := sl1
  have HR : Hid (Rd (w1.alloc (.cells #[.slice a xs.length cap, .int .i64 0] 119)) w1.heap.size (blk a) xs 0) := by
    refine ⟨a, cap, ?_, ?_, ?_, ?_, h1, h2, h4.kept ((Below.refl _ _).alloc (Nat.le_refl _) _), h3, ?_, ?_⟩
    · rw [World.cell?_alloc_at _ _ _ _ rfl]; rfl
    · rw [World.cell?_alloc_at _ _ _ _ rfl]; rfl
    · exact World.frozen?_alloc_new ..
    · exact World.frozen?_alloc_new ..
    · cases a with
      | none => show 0 ≠ _; omega
      | some x => have := (hsp x.block rfl).2; show x.block ≠ _; omega
    · intro x hx
      subst hx
      refine ⟨?_, rfl⟩
      rcases own1.2 with ⟨e, _⟩ | ⟨g, c, cur, e, _⟩
      · cases e
      · cases e; rfl
  have HS : Hid ((blk a) = 0 ∨ (w.heap.size ≤ (blk a) ∧ (blk a) < w1.heap.size)) := by
    cases a with
    | none => exact .inl rfl
    | some x => exact .inr (hsp x.block rfl)
  generalize (blk a) = s at HR HS
  clear h1 h2 h3 h4 own1 hsp c hb
  generalize xs.length = L at *
  go_wp2
  go_ret
  exact ⟨_, s, rfl, by omega, by simp, by have := HS.out; simp; omega, HR.out, bel1.alloc hsz _⟩
end Go.Proofs.YthhghehnaopmhaaDoor.Fi
