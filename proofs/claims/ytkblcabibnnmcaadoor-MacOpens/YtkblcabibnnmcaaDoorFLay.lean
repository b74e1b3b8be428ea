/-
  What field.Num, Text and Join, and the document's Num and Text, answer, for every input; nothing that was there is changed. Condition: the package-level table of widths holds 1, 2, 4, 8.
-/
import Derived.Test.YtkblcabibnnmcaaDoorCat
import Derived.Test.YtkblcabibnnmcaaDoorRPut
import Derived.Lib.AppendStr
namespace Go.Proofs.YtkblcabibnnmcaaDoor
open Go.RowKit

theorem join_any (p : Option Addr) (kc : Nat) (ZZ : List (List Int)) (w : World) (hP : Parts w p ZZ) (hbig : ZZ.flatten.length ≤ 200000000000000) :
    Calls Tryd.prog 29 #[.slice p ZZ.length kc] w fun r w' => ∃ v, r = .returned v ∧ w'.ownsRow w.heap.size 5 1 v ZZ.flatten.length (ZZ.flatten.map (Value.int .u8)) ∧ Below w.heap.size w w' := by
  have h := concat_any p kc ZZ w hP hbig
  generalize ZZ.flatten.length = T at *
  generalize ZZ.flatten.map (Value.int .u8) = V at *
  generalize ZZ.length = k at *
  go_enter Tryd.func29, Tryd.ntmps29
  go_wp2_with (go_at_call 38; refine h.mono ?_; rintro e w1 ⟨v1, rfl, own1, bel1⟩)
  go_ret
  exact ⟨_, rfl, by assumption, by assumption⟩

def sb (s : ByteArray) : List Int := s.data.toList.map fun b => (b.toNat : Int)

theorem sb_len (s : ByteArray) : (sb s).length = s.size := by unfold sb; rw [List.length_map]; rfl

theorem sb_bytes (s : ByteArray) : ∀ i, 0 ≤ (sb s).getD i 0 ∧ (sb s).getD i 0 < 256 := by
  refine byteList _ ?_
  rw [List.all_eq_true]
  intro z hz
  obtain ⟨b, _, rfl⟩ := List.mem_map.1 hz
  have := b.toNat_lt
  simp
  omega

theorem strB_sb (s : ByteArray) : strB (sb s) = s := by
  unfold strB sb
  rw [List.map_map]
  have : ((fun n : Int => UInt8.ofNat n.toNat) ∘ fun b : UInt8 => (b.toNat : Int)) = id := by funext b; simp
  rw [this]
  simp

def numB (n : Int) : List Int := if lenOf n = 0 then [] else pb n (lenOf n).toNat

def textB (s : ByteArray) : List Int := numB s.size ++ sb s

theorem pos_lim (n : Int) (h0 : lenOf n ≠ 0) : ∃ W : Nat, lenOf n = W ∧ W ≠ 0 ∧ IsW W ∧ 0 ≤ n ∧ n < lim W ∧ numB n = pb n W := by
  obtain ⟨W, hW⟩ : ∃ W : Nat, lenOf n = W := ⟨(lenOf n).toNat, by rcases lenOf_cases n with h | h | h | h | h | h <;> omega⟩
  have h1 : W ≠ 0 := by omega
  obtain ⟨h2, h3, h4⟩ := lenOf_eq n W hW h1
  refine ⟨W, hW, h1, h2, h3, h4, ?_⟩
  unfold numB
  rw [if_neg h0, hW]
  rfl

theorem fnum_any (n : Int) (w : World) (hw : Wid w) :
    Calls Tryd.prog 36 #[.int .i64 n] w fun r w' => ∃ v, r = .returned v ∧ Sl w' v (numB n) ∧ Below w.heap.size w w' := by
  by_cases h0 : lenOf n = 0
  · have hn : numB n = [] := by unfold numB; rw [if_pos h0]
    rw [hn]
    have c := put_no n w hw h0
    clear hn h0
    go_enter Tryd.func36, Tryd.ntmps36
    go_wp2_with (go_at_call 44; refine c.mono ?_; rintro e w' ⟨rfl, rfl⟩)
    go_ret
    exact ⟨_, rfl, Sl.none _, Below.refl _ _⟩
  · obtain ⟨W, hW, hW0, hI, h1, h2, hn⟩ := pos_lim n h0
    have c := put_ok n W w hw hW hW0
    have hl := pb_len n W hI
    have hW8 : W ≤ 8 := by rcases hI with rfl | rfl | rfl | rfl <;> omega
    have HS : Hid (Sl (w.alloc (.cells (pbA n W) 5)) (.slice (some ⟨w.heap.size, 0, none⟩) W W) (numB n)) := by
      rw [hn]
      exact ⟨_, W, by rw [hl], by omega, by unfold maxLen; omega, fun e => (by cases e), by rw [hl]; exact row_put n W w hI h1 h2⟩
    clear hn hl h0 hW hW0
    go_enter Tryd.func36, Tryd.ntmps36
    go_wp2_with (go_at_call 44; refine c.mono ?_; rintro e w' ⟨rfl, rfl⟩)
    go_ret
    exact ⟨_, rfl, HS.out, (Below.refl _ _).alloc (Nat.le_refl _) _⟩

theorem conv_str (s : ByteArray) (w : World) (hs : s.size ≤ 9223372036854775807) : ∃ a cap w2, (convert 9 22 (.string s)).run Tryd.prog w = .ok (.slice (some a) s.size cap) w2 ∧ Sl w2 (.slice (some a) s.size cap) (sb s) ∧ Below w.heap.size w w2 := by
  refine ⟨_, _, _, run_bytes_of_string w 9 22 5 s Tryd.underlying9 Tryd.underlying22 Tryd.underlying5, ?_, ?_⟩
  · have hge := grownCap_ge w s.size 0 5
    have hmx := grownCap_le_maxLen w s.size 0 5 (by unfold maxLen; omega)
    refine ⟨_, _, by rw [sb_len], by rw [sb_len]; exact hge, hmx, fun e => (by cases e), ?_⟩
    rw [sb_len]
    rcases Nat.eq_zero_or_pos s.size with h | h
    · exact .inl h
    · refine .inr ⟨h, _, 0, rfl, hge, hmx, fun i hi => ?_, sb_bytes s⟩
      have hi' : i < s.data.size := hi
      rw [Nat.zero_add]
      have := World.cell?_alloc_mark w.drew (bytesRow s (grownCap w s.size 0 5)) 5 ((bytesRow s (grownCap w s.size 0 5)).size, (bytesRow s (grownCap w s.size 0 5)).size + 1) i
      refine this.trans ?_
      rw [bytesRow_at s _ i hi']
      congr 2
      simp [sb, List.getD, Array.getElem?_eq_getElem hi']
  · exact (Below.refl _ w).drew.alloc (Nat.le_refl _) _

theorem numB_len (n : Int) : ((numB n).length : Int) = lenOf n := by
  unfold numB
  split
  · next h => rw [h]; rfl
  · next h =>
    obtain ⟨W, hW, hW0, hI, h1, h2, hn⟩ := pos_lim n h
    rw [hW]
    show ((pb n W).length : Int) = W
    rw [pb_len n W hI]

theorem ftext_own (s : ByteArray) (w : World) (hw : Wid w) (hs : s.size ≤ 140737488355328) :
    Calls Tryd.prog 25 #[.string s] w fun r w' => ∃ v, r = .returned v ∧ w'.ownsRow w.heap.size 5 1 v (textB s).length ((textB s).map (Value.int .u8)) ∧ Below w.heap.size w w' := by
  have c1 := fnum_any s.size w hw
  have hlen : (textB s).length ≤ 200000000000000 := by
    unfold textB
    rw [List.length_append, sb_len]
    have : (numB (s.size : Int)).length ≤ 8 := by
      unfold numB
      split
      · simp
      · next h =>
        obtain ⟨W, hW, hW0, hI, h1, h2, hn⟩ := pos_lim _ h
        rw [hW]
        show (pb _ W).length ≤ 8
        rw [pb_len _ W hI]
        rcases hI with rfl | rfl | rfl | rfl <;> omega
    omega
  go_enter Tryd.func25, Tryd.ntmps25
  go_wp2_with fail
  refine c1.mono ?_
  rintro e w1 ⟨v1, rfl, sl1, bel1⟩
  obtain ⟨a2, cap2, w2, cv, sl2, bel2⟩ := conv_str s w1 (by omega)
  have hP : ∀ u1 u2, Sl w2 u1 (numB s.size) → Sl w2 u2 (sb s) → Parts (w2.alloc (.cells #[u1, u2] 22)) (some ⟨w2.heap.size, 0, none⟩) [numB s.size, sb s] := fun u1 u2 s1 s2 => by
    have hb : Below w2.heap.size w2 (w2.alloc (.cells #[u1, u2] 22)) := (Below.refl _ _).alloc (Nat.le_refl _) _
    refine ⟨by simp, .inr ⟨_, 0, rfl, fun i hi => ?_⟩⟩
    have hi2 : i = 0 ∨ i = 1 := by simp at hi; omega
    rcases hi2 with rfl | rfl
    · exact ⟨u1, by rw [World.cell?_alloc_at _ _ _ _ rfl]; rfl, s1.kept hb⟩
    · exact ⟨u2, by rw [World.cell?_alloc_at _ _ _ _ rfl]; rfl, s2.kept hb⟩
  have sl1' := sl1.kept bel2
  obtain ⟨a1, cap1, rfl, _⟩ := sl1
  have cj := join_any _ 2 _ _ (hP _ _ sl1' sl2) (by simpa [textB] using hlen)
  have hfl : [numB s.size, sb s].flatten = textB s := by simp [textB]
  rw [hfl] at cj
  have hb12 := bel1.trans (bel2.mono bel1.size)
  have hb3 : Below w.heap.size w (w2.alloc (.cells #[.slice a1 (numB s.size).length cap1, .slice (some a2) s.size cap2] 22)) := hb12.alloc hb12.size _
  clear hP sl1' sl2 c1 hfl hlen
  simp only [List.length_cons, List.length_nil] at cj
  generalize (numB s.size).length = L1 at *
  obtain ⟨LT, hLT⟩ : ∃ LT, LT = (textB s).length := ⟨_, rfl⟩
  have HLT : Hid (LT = (textB s).length) := hLT
  rw [← hLT] at cj
  clear hLT
  clear bel1 bel2 hb12
  go_wp2_with (go_at_call 29; refine cj.mono ?_; rintro e w3 ⟨v3, rfl, own3, bel3⟩)
  go_ret
  exact ⟨v3, rfl, by have h := own_mono own3 hb3.size; rw [HLT.out] at h; exact h, hb3.trans (bel3.mono hb3.size)⟩

theorem rnumB_any (n : Int) (w : World) :
    Calls Tryd.prog 37 #[.int .i64 n] w fun r w' => ∃ v, r = .returned v ∧ w'.ownsRow w.heap.size 5 1 v (numB n).length ((numB n).map (Value.int .u8)) ∧ Below w.heap.size w w' := by
  by_cases h0 : lenOf n = 0
  · have hn : numB n = [] := by unfold numB; rw [if_pos h0]
    rw [hn]
    have c := rput_no n w h0
    clear hn h0
    go_enter Tryd.func37, Tryd.ntmps37
    go_wp2_with (go_at_call 45; refine c.mono ?_; rintro e w' ⟨rfl, rfl⟩)
    go_ret
    exact ⟨_, rfl, World.ownsRow_nil _ _ _ _, Below.refl _ _⟩
  · obtain ⟨W, hW, hW0, hI, h1, h2, hn⟩ := pos_lim n h0
    have c := rput_own n W w hW hW0
    have hl := pb_len n W hI
    rw [hn, hl]
    clear hn h0 hW hW0 hl
    go_enter Tryd.func37, Tryd.ntmps37
    go_wp2_with (go_at_call 45; refine c.mono ?_; rintro e w' ⟨g, cap, rfl, ho, hb⟩)
    go_ret
    exact ⟨_, rfl, by assumption, by assumption⟩

theorem strCells_sb (s : ByteArray) : Lib.strCells s = (sb s).map (Value.int .u8) := by
  unfold Lib.strCells sb
  rw [List.map_map]
  rfl

theorem rtextB_any (s : ByteArray) (w : World) (hs : s.size ≤ 140737488351232) :
    Calls Tryd.prog 26 #[.string s] w fun r w' => ∃ v, r = .returned v ∧ w'.ownsRow w.heap.size 5 1 v (textB s).length ((textB s).map (Value.int .u8)) ∧ Below w.heap.size w w' := by
  obtain ⟨i0, hi, hz0, hz1, hz2⟩ := info_parts info5'
  have c1 := rnumB_any s.size w
  have hnl : (numB (s.size : Int)).length ≤ 8 := by have nl := numB_len (s.size : Int); rcases lenOf_cases (s.size : Int) with h | h | h | h | h | h <;> omega
  have HT : Hid (∀ (w' : World) v, w'.ownsRow w.heap.size 5 1 v ((numB (s.size : Int)).length + s.size) ((numB (s.size : Int)).map (Value.int .u8) ++ Lib.strCells s) → w'.ownsRow w.heap.size 5 1 v (textB s).length ((textB s).map (Value.int .u8))) := fun w' v h => by
    unfold textB
    rw [List.length_append, sb_len, List.map_append, ← strCells_sb]
    exact h
  generalize (numB (s.size : Int)).length = L at *
  generalize (numB (s.size : Int)).map (Value.int .u8) = X at *
  go_enter Tryd.func26, Tryd.ntmps26
  go_wp2_with fail
  refine c1.mono ?_
  rintro e w1 ⟨v1, rfl, own1, bel1⟩
  clear c1
  have hob := own_base own1
  have hsz := bel1.size
  go_wp2_with (at_builtin; refine Lib.wpList_append_own_string _ rfl _ _ 22 9 rfl w.heap.size 5 i0 Tryd.underlying22 Tryd.underlying9 hi hz0 hz1 hz2 _ _ _ rfl own1 s rfl (by unfold maxLen; omega) (by omega) hsz ?_)
  intro v2 w2 own2 hgrow _
  have B2 : Below w.heap.size w w2 := bel1.grown hgrow hsz hob
  have HO : Hid (w2.ownsRow w.heap.size 5 1 v2 (textB s).length ((textB s).map (Value.int .u8))) := HT.out _ _ own2
  clear own1 own2 hgrow bel1 hob hsz HT
  go_wp2
  go_ret
  exact ⟨_, rfl, HO.out, B2⟩
end Go.Proofs.YtkblcabibnnmcaaDoor
