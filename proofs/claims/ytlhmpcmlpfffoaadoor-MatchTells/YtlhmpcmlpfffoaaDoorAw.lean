/-
  What index answers; what every right program finds in one file.
-/
import Derived.Test.YtlhmpcmlpfffoaaDoorNw
import Derived.Test.YtlhmpcmlpfffoaaDoorSx
import Derived.Test.YtlhmpcmlpfffoaaDoorCm
import Derived.Test.YtlhmpcmlpfffoaaDoorRm
import Derived.Lib.SlBytesConst
namespace Go.Proofs.YtlhmpcmlpfffoaaDoor
open Go.RowKit Go.Maps
set_option maxRecDepth 100000

/-- The sums of a file. -/
abbrev sums (b : List Int) (z : Nat) : List Sg := sgs b z (b.length / z)
theorem sums_len (b : List Int) (z : Nat) : (sums b z).length = b.length / z := sgs_len _ _ _
theorem bsig_ok (b : List Int) (z : Nat) (hz0 : 0 < z) (hz : z ≤ 4096) (hb : b.length ≤ 4096) : bsig b z = (sums b z, 0) := by
  have h1 := Nat.div_le_self b.length z
  unfold bsig
  rw [if_neg (by omega), Int.toNat_natCast, if_neg (by omega)]
theorem chk_ok (b : List Int) (z : Nat) (hz0 : 0 < z) (hz : z ≤ 4096) (hb : b.length ≤ 4096) : chk z b.length (sums b z).length = 0 := by
  have h1 := Nat.div_le_self b.length z
  unfold chk
  rw [sums_len, if_neg (by omega), if_neg (by omega), Int.toNat_natCast, Int.toNat_natCast, if_neg (by omega)]
set_option maxHeartbeats 4000000 in
theorem index_any (v : Value) (b : List Int) (z : Nat) (w : World) (h : Sl w v b) (ht : Ta w) (hz0 : 0 < z) (hz : z ≤ 4096) (hb : b.length ≤ 4096) :
    Calls Tryd.prog 10 #[v, .int .i64 (z : Int)] w fun e w' => ∃ B g m N, e = .returned (.tuple #[.pointer (some ⟨g, 0, none⟩), .bool true]) ∧ IX w' B g m z N (sums b z) ∧ Below w.heap.size w w' := by
  have CS := sign_any v b z w h ht
  rw [bsig_ok b z hz0 hz hb] at CS
  have CN : Hid (∀ x u, RI x w.heap.size u (sums b z) → Calls Tryd.prog 15 #[.int .i64 (z : Int), .int .i64 (b.length : Int), u] x fun e w' => ∃ g m, e = .returned (.tuple #[.pointer (some ⟨g, 0, none⟩), .int .i64 0]) ∧ IX w' x.heap.size g m z ((sums b z).length : Int) (sums b z) ∧ Below x.heap.size x w') := fun x u hu => by
    have c := new_any z b.length u (sums b z) x hu.is (by rw [sums_len]; have := Nat.div_le_self b.length z; omega)
    rw [chk_ok b z hz0 hz hb] at c
    refine c.mono ?_
    rintro e w' ⟨v', rfl, nx, bb⟩
    unfold NX at nx
    rw [if_pos (chk_ok b z hz0 hz hb)] at nx
    obtain ⟨g, m, rfl, ix⟩ := nx
    exact ⟨g, m, rfl, ix, bb⟩
  obtain ⟨a, c, rfl, -⟩ := id h
  clear h ht
  generalize sums b z = S at *
  generalize b.length = L at *
  simp only at CS
  go_enter Tryd.func10, Tryd.ntmps10
  go_wp2_with fail
  refine CS.mono ?_
  rintro e w1 ⟨v1, rfl, r1, b1⟩
  clear CS
  have cn := CN.out w1 v1 r1
  have B1 : Hid (Below w.heap.size w w1) := b1
  obtain ⟨a1, c1, rfl, -⟩ := r1.is.shape
  clear r1 b1 CN
  generalize S.length = sn at *
  go_wp2_with fail
  refine cn.mono ?_
  rintro e w2 ⟨g, m, rfl, ix, b2⟩
  clear cn
  have I2 : Hid (IX w2 w1.heap.size g m z (sn : Int) S) := ix
  have B2 : Hid (Below w.heap.size w w2) := B1.out.trans (b2.mono B1.out.size)
  clear ix b2 B1
  go_wp2
  go_ret2
  exact ⟨_, _, _, _, rfl, I2.out, B2.out⟩
theorem conv_last (w : World) (C : Array Value) (n c : Nat) : (convert 22 22 (.slice (some ⟨w.heap.size, 0, none⟩) n c)).run Tryd.prog (w.alloc (.cells C 5)) = .ok (.slice (some ⟨w.heap.size, 0, none⟩) n c) (w.alloc (.cells C 5 (C.size, C.size + 1))) :=
  Lib.run_convert_bytes_const w 22 5 C n c Tryd.underlying22 Tryd.underlying5
/-- Bytes of a constant, as a slice. -/
theorem sl_const (w : World) (X : List Int) (m : Nat × Nat) (hX : X.all (fun z => 0 ≤ z && z < 256) = true) (hl : X.length ≤ maxLen) : Sl (w.alloc (.cells (X.map (Value.int .u8)).toArray 5 m)) (.slice (some ⟨w.heap.size, 0, none⟩) X.length X.length) X := by
  refine ⟨_, X.length, rfl, Nat.le_refl _, hl, (fun e => by cases e), ?_⟩
  rcases Nat.eq_zero_or_pos X.length with h0 | hp
  · exact .inl h0
  · refine .inr ⟨hp, w.heap.size, 0, rfl, Nat.le_refl _, hl, fun i hi => ?_, byteList X hX⟩
    rw [cell_of_row _ _ _ _ _ _ (heap_alloc_new _ _)]
    simp [List.getD, hi]
theorem slx_const (w : World) (X : List Int) (m : Nat × Nat) (hX : X.all (fun z => 0 ≤ z && z < 256) = true) (hl : X.length ≤ maxLen) : SlX (w.alloc (.cells (X.map (Value.int .u8)).toArray 5 m)) (.slice (some ⟨w.heap.size, 0, none⟩) X.length X.length) X :=
  ⟨sl_const w X m hX hl, fun x n c e _ => by cases e; rfl⟩
def aw6 : List Int := [97, 98, 99, 100, 101, 102]
def aw12 : List Int := [120, 120, 97, 98, 99, 100, 101, 102, 121, 97, 98, 99]
def awl : List Sg := [sumB [97, 98, 99], sumB [100, 101, 102]]
theorem aw_sums : sums aw6 3 = awl := rfl
theorem aw_wk (k : Int) : wk awl k = (decide (Ro.rs [97, 98, 99] = k) || (decide (Ro.rs [100, 101, 102] = k) || false)) := rfl
theorem aw_miss (X : List Int) (h1 : ¬ Ro.rs [97, 98, 99] = Ro.rs X) (h2 : ¬ Ro.rs [100, 101, 102] = Ro.rs X) : bfnd awl (3 : Nat) X = (0, false) := by
  unfold bfnd
  rw [if_neg]
  rintro ⟨-, h⟩
  have := fi_wk awl _ _ h
  rw [aw_wk, decide_eq_false h1, decide_eq_false h2] at this
  cases this
theorem aw_hit0 : bfnd awl (3 : Nat) [97, 98, 99] = (0, true) := by
  have e : fi awl (Ro.rs [97, 98, 99]) (Sh.Pl.sha [97, 98, 99]) = 0 := by
    unfold fi awl
    rw [List.findIdx_cons]
    have h2 : decide ((sumB [97, 98, 99]).k = Ro.rs [97, 98, 99]) = true := decide_eq_true rfl
    have h3 : decide ((sumB [97, 98, 99]).s = Sh.Pl.sha [97, 98, 99]) = true := decide_eq_true rfl
    rw [h2, h3]
    rfl
  unfold bfnd
  rw [e, if_pos ⟨rfl, by decide⟩]
  rfl
theorem aw_rs : ¬ Ro.rs [97, 98, 99] = Ro.rs [100, 101, 102] := by decide
theorem aw_hit1 : bfnd awl (3 : Nat) [100, 101, 102] = (3, true) := by
  have e : fi awl (Ro.rs [100, 101, 102]) (Sh.Pl.sha [100, 101, 102]) = 1 := by
    unfold fi awl
    rw [List.findIdx_cons]
    have h1 : decide ((sumB [97, 98, 99]).k = Ro.rs [100, 101, 102]) = false := decide_eq_false aw_rs
    rw [h1, Bool.false_and, cond_false, List.findIdx_cons]
    have h2 : decide ((sumB [100, 101, 102]).k = Ro.rs [100, 101, 102]) = true := decide_eq_true rfl
    have h3 : decide ((sumB [100, 101, 102]).s = Sh.Pl.sha [100, 101, 102]) = true := decide_eq_true rfl
    rw [h2, h3]
    rfl
  unfold bfnd
  rw [e, if_pos ⟨rfl, by decide⟩]
  rfl
def awr : List Xp := [⟨false, 0, 0, [120, 120]⟩, ⟨true, 0, 6, []⟩, ⟨false, 0, 0, [121]⟩, ⟨true, 0, 3, []⟩]
theorem aw_cpd : cpd awr = 9 := by decide
theorem aw_lit : lit awr = 3 := by decide
theorem aw_search : srch (bfnd awl (3 : Nat)) 3 aw12 0 0 [] = awr := by
  have c0 : cut aw12 0 3 = [120, 120, 97] := rfl
  have c1 : cut aw12 1 3 = [120, 97, 98] := rfl
  have c2 : cut aw12 2 3 = [97, 98, 99] := rfl
  have c5 : cut aw12 5 3 = [100, 101, 102] := rfl
  have c8 : cut aw12 8 3 = [121, 97, 98] := rfl
  have c9 : cut aw12 9 3 = [97, 98, 99] := rfl
  have m0 : bfnd awl (3 : Nat) [120, 120, 97] = (0, false) := aw_miss _ (by decide) (by decide)
  have m1 : bfnd awl (3 : Nat) [120, 97, 98] = (0, false) := aw_miss _ (by decide) (by decide)
  have m8 : bfnd awl (3 : Nat) [121, 97, 98] = (0, false) := aw_miss _ (by decide) (by decide)
  rw [srch_miss (by decide) (by decide) (by rw [c0, m0]), srch_miss (by decide) (by decide) (by rw [c1, m1]), srch_hit (by decide) (by decide) (by rw [c2, aw_hit0]), c2, aw_hit0]
  rw [srch_hit (by decide) (by decide) (by rw [c5, aw_hit1]), c5, aw_hit1]
  rw [srch_miss (by decide) (by decide) (by rw [c8, m8]), srch_hit (by decide) (by decide) (by rw [c9, aw_hit0]), c9, aw_hit0]
  rw [srch_end (by decide)]
  rfl
set_option maxHeartbeats 4000000 in
theorem awake_any (w : World) (ht : Ta w) : Calls Tryd.prog 9 #[] w fun e w' => e = .returned (.bool true) ∧ Below w.heap.size w w' := by
  obtain ⟨W1, hW1⟩ : ∃ W1, W1 = w.alloc (.cells (aw6.map (Value.int .u8)).toArray 5 (6, 7)) := ⟨_, rfl⟩
  have b1 : Below w.heap.size w W1 := by rw [hW1]; exact al_below _ _
  have s1 : Sl W1 (.slice (some ⟨w.heap.size, 0, none⟩) 6 6) aw6 := by rw [hW1]; exact sl_const w aw6 (6, 7) (by decide) (by unfold maxLen; decide)
  have CI := index_any _ aw6 3 W1 s1 (ht.kept b1) (by decide) (by decide) (by decide)
  rw [aw_sums] at CI
  have hcv := conv_last w #[.int .u8 97, .int .u8 98, .int .u8 99, .int .u8 100, .int .u8 101, .int .u8 102] 6 6
  have hw1 : w.alloc (.cells #[.int .u8 97, .int .u8 98, .int .u8 99, .int .u8 100, .int .u8 101, .int .u8 102] 5 (6, 6 + 1)) = W1 := hW1.symm
  have HB1 : Hid (Below w.heap.size w W1) := b1
  have HT : Hid (Ta w) := ht
  clear hW1 b1 s1 ht
  go_enter Tryd.func9, Tryd.ntmps9
  go_wp2_with fail
  try rw [hw1]
  clear hw1 hcv
  refine CI.mono ?_
  rintro e w2 ⟨B, g, m, N, rfl, ix, b2⟩
  clear CI
  have B2 : Hid (Below w.heap.size w w2) := HB1.out.trans (b2.mono HB1.out.size)
  obtain ⟨W3, hW3⟩ : ∃ W3, W3 = w2.alloc (.cells (aw12.map (Value.int .u8)).toArray 5 (12, 13)) := ⟨_, rfl⟩
  have b3 : Below w2.heap.size w2 W3 := by rw [hW3]; exact al_below _ _
  have B3 : Hid (Below w.heap.size w W3) := B2.out.trans (b3.mono B2.out.size)
  have s3 : SlX W3 (.slice (some ⟨w2.heap.size, 0, none⟩) 12 12) aw12 := by rw [hW3]; exact slx_const w2 aw12 (12, 13) (by decide) (by unfold maxLen; decide)
  have CS := search_any W3 B g m 3 N awl (ix.kept b3) _ aw12 s3 (HT.out.kept B3.out) (by decide) (by decide) (by decide) (by decide)
  rw [aw_search] at CS
  have hcv := conv_last w2 #[.int .u8 120, .int .u8 120, .int .u8 97, .int .u8 98, .int .u8 99, .int .u8 100, .int .u8 101, .int .u8 102, .int .u8 121, .int .u8 97, .int .u8 98, .int .u8 99] 12 12
  have hw3 : w2.alloc (.cells #[.int .u8 120, .int .u8 120, .int .u8 97, .int .u8 98, .int .u8 99, .int .u8 100, .int .u8 101, .int .u8 102, .int .u8 121, .int .u8 97, .int .u8 98, .int .u8 99] 5 (12, 12 + 1)) = W3 := hW3.symm
  clear hW3 b3 s3 ix b2 HB1 B2
  go_wp2_with fail
  try rw [hw3]
  clear hw3 hcv
  refine CS.mono ?_
  rintro e w4 ⟨v4, rfl, o4, b4⟩
  clear CS
  have B4 : Hid (Below w.heap.size w w4) := B3.out.trans (b4.mono B3.out.size)
  have O4 : Hid (∀ x, Below w4.heap.size w4 x → XS x v4 awr) := fun x hx => (o4.below hx).xs
  obtain ⟨a4, c4, rfl, -⟩ := o4.shape
  have el : awr.length = 4 := rfl
  rw [el] at *
  clear o4 b4 B3 el
  -- the operations that are told
  obtain ⟨W5, hW5⟩ : ∃ W5, W5 = w4.alloc (.cells #[.int .u8 120, .int .u8 120] 5 (2, 2 + 1)) := ⟨_, rfl⟩
  obtain ⟨W6, hW6⟩ : ∃ W6, W6 = W5.alloc (.cells #[.int .u8 121] 5 (1, 1 + 1)) := ⟨_, rfl⟩
  obtain ⟨W7, hW7⟩ : ∃ W7, W7 = W6.alloc (.cells #[.bool false, .int .i64 0, .int .i64 0, .slice (some ⟨w4.heap.size, 0, none⟩) 2 2, .bool true, .int .i64 0, .int .i64 6, .slice none 0 0, .bool false, .int .i64 0, .int .i64 0, .slice (some ⟨W5.heap.size, 0, none⟩) 1 1, .bool true, .int .i64 0, .int .i64 3, .slice none 0 0] 45) := ⟨_, rfl⟩
  have b5 : Below w4.heap.size w4 W5 := by rw [hW5]; exact al_below _ _
  have b6 : Below W5.heap.size W5 W6 := by rw [hW6]; exact al_below _ _
  have b7 : Below W6.heap.size W6 W7 := by rw [hW7]; exact al_below _ _
  have b47 : Below w4.heap.size w4 W7 := (b5.trans (b6.mono b5.size)).trans (b7.mono (b5.trans (b6.mono b5.size)).size)
  have B7 : Hid (Below w.heap.size w W7) := B4.out.trans (b47.mono B4.out.size)
  have s5 : Sl W5 (.slice (some ⟨w4.heap.size, 0, none⟩) 2 2) [120, 120] := by rw [hW5]; exact sl_const w4 [120, 120] (2, 3) (by decide) (by unfold maxLen; decide)
  have s6 : Sl W6 (.slice (some ⟨W5.heap.size, 0, none⟩) 1 1) [121] := by rw [hW6]; exact sl_const W5 [121] (1, 2) (by decide) (by unfold maxLen; decide)
  have X7 : Hid (XS W7 (.slice (some ⟨W6.heap.size, 0, none⟩) 4 4) awr) := by
    have g7 : W7.heap[W6.heap.size]? = some (.cells #[.bool false, .int .i64 0, .int .i64 0, .slice (some ⟨w4.heap.size, 0, none⟩) 2 2, .bool true, .int .i64 0, .int .i64 6, .slice none 0 0, .bool false, .int .i64 0, .int .i64 0, .slice (some ⟨W5.heap.size, 0, none⟩) 1 1, .bool true, .int .i64 0, .int .i64 3, .slice none 0 0] 45 (0, 0)) := by rw [hW7]; exact heap_alloc_new _ _
    refine ⟨fun i => if i = 0 then .slice (some ⟨w4.heap.size, 0, none⟩) 2 2 else if i = 2 then .slice (some ⟨W5.heap.size, 0, none⟩) 1 1 else .slice none 0 0, _, 4, rfl, Nat.le_refl _, by unfold maxLen; decide, (fun e => by cases e), .inr ⟨_, 0, rfl, fun i hi => ?_⟩⟩
    have hi4 : i < 4 := hi
    rcases (show i = 0 ∨ i = 1 ∨ i = 2 ∨ i = 3 by omega) with rfl | rfl | rfl | rfl
    · exact ⟨by rw [cell_of_row _ _ _ _ _ _ g7]; rfl, by rw [cell_of_row _ _ _ _ _ _ g7]; rfl, by rw [cell_of_row _ _ _ _ _ _ g7]; rfl, by rw [cell_of_row _ _ _ _ _ _ g7]; rfl, (s5.kept b6).kept b7⟩
    · exact ⟨by rw [cell_of_row _ _ _ _ _ _ g7]; rfl, by rw [cell_of_row _ _ _ _ _ _ g7]; rfl, by rw [cell_of_row _ _ _ _ _ _ g7]; rfl, by rw [cell_of_row _ _ _ _ _ _ g7]; rfl, Sl.none _⟩
    · exact ⟨by rw [cell_of_row _ _ _ _ _ _ g7]; rfl, by rw [cell_of_row _ _ _ _ _ _ g7]; rfl, by rw [cell_of_row _ _ _ _ _ _ g7]; rfl, by rw [cell_of_row _ _ _ _ _ _ g7]; rfl, s6.kept b7⟩
    · exact ⟨by rw [cell_of_row _ _ _ _ _ _ g7]; rfl, by rw [cell_of_row _ _ _ _ _ _ g7]; rfl, by rw [cell_of_row _ _ _ _ _ _ g7]; rfl, by rw [cell_of_row _ _ _ _ _ _ g7]; rfl, Sl.none _⟩
  have C1 := rsame_any _ _ awr awr W7 (O4.out W7 b47) X7.out (by decide) (by decide)
  rw [saX_self] at C1
  have hc5 := conv_last w4 #[.int .u8 120, .int .u8 120] 2 2
  have hc6 := conv_last W5 #[.int .u8 121] 1 1
  have hw5 : w4.alloc (.cells #[.int .u8 120, .int .u8 120] 5 (2, 2 + 1)) = W5 := hW5.symm
  have hw6 : W5.alloc (.cells #[.int .u8 121] 5 (1, 1 + 1)) = W6 := hW6.symm
  have hw7 := hW7.symm
  have B47 : Hid (Below w4.heap.size w4 W7) := b47
  clear hW5 hW6 hW7 b5 b6 b7 b47 s5 s6 X7
  go_wp2_with fail
  refine C1.mono ?_
  rintro e w8 ⟨rfl, b8⟩
  clear C1 hc5 hc6 hw5 hw6 hw7
  have B8 : Hid (Below w.heap.size w w8) := B7.out.trans (b8.mono B7.out.size)
  have B48 : Hid (Below w4.heap.size w4 w8) := B47.out.trans (b8.mono B47.out.size)
  have C2 := copied_any _ awr w8 (O4.out w8 B48.out) (by decide) (by unfold Nb awr; decide)
  rw [aw_cpd] at C2
  clear b8
  go_wp2_with fail
  refine C2.mono ?_
  rintro e w9 ⟨rfl, b9⟩
  clear C2
  have B9 : Hid (Below w.heap.size w w9) := B8.out.trans (b9.mono B8.out.size)
  have B49 : Hid (Below w4.heap.size w4 w9) := B48.out.trans (b9.mono B48.out.size)
  clear b9
  have C3 := literal_any _ awr w9 (O4.out w9 B49.out) (by decide) (by decide)
  rw [aw_lit] at C3
  go_wp2_with fail
  refine C3.mono ?_
  rintro e w10 ⟨rfl, b10⟩
  clear C3
  have B10 : Hid (Below w.heap.size w w10) := B9.out.trans (b10.mono B9.out.size)
  have B410 : Hid (Below w4.heap.size w4 w10) := B49.out.trans (b10.mono B49.out.size)
  clear b10
  have C4 := same_any _ _ awr awr w10 (O4.out w10 B410.out) (O4.out w10 B410.out) (by decide) (by decide)
  rw [saX_self] at C4
  go_wp2_with fail
  refine C4.mono ?_
  rintro e w11 ⟨rfl, b11⟩
  clear C4
  have B11 : Hid (Below w.heap.size w w11) := B10.out.trans (b11.mono B10.out.size)
  have B411 : Hid (Below w4.heap.size w4 w11) := B410.out.trans (b11.mono B410.out.size)
  clear b11
  have C5 := same_any _ _ awr [] w11 (O4.out w11 B411.out) (XS.nil _) (by decide) (by decide)
  rw [saX_len (show awr.length ≠ ([] : List Xp).length by decide)] at C5
  go_wp2_with fail
  refine C5.mono ?_
  rintro e w12 ⟨rfl, b12⟩
  clear C5
  have B12 : Hid (Below w.heap.size w w12) := B11.out.trans (b12.mono B11.out.size)
  have B412 : Hid (Below w4.heap.size w4 w12) := B411.out.trans (b12.mono B411.out.size)
  clear b12
  go_wp2
  go_ret
  exact ⟨rfl, B12.out⟩
end Go.Proofs.YtlhmpcmlpfffoaaDoor
