/-
  The statements' own 'awake' answers true, and nothing that was there is changed. Condition: the package-level table of widths holds 1, 2, 4, 8.
-/
import Derived.Test.YtmlnocjljhhmdaaDoorLay
namespace Go.Proofs.YtmlnocjljhhmdaaDoor
open Go.RowKit

theorem parts2 (w : World) (u1 u2 : Value) (X Y : List Int) (s1 : Sl w u1 X) (s2 : Sl w u2 Y) : Parts (w.alloc (.cells #[u1, u2] 25)) (some ⟨w.heap.size, 0, none⟩) [X, Y] := by
  have hb : Below w.heap.size w (w.alloc (.cells #[u1, u2] 25)) := (Below.refl _ _).alloc (Nat.le_refl _) _
  refine ⟨by simp, .inr ⟨_, 0, rfl, fun i hi => ?_⟩⟩
  have hi2 : i = 0 ∨ i = 1 := by simp at hi; omega
  rcases hi2 with rfl | rfl
  · exact ⟨u1, by rw [World.cell?_alloc_at _ _ _ _ rfl]; rfl, s1.kept hb⟩
  · exact ⟨u2, by rw [World.cell?_alloc_at _ _ _ _ rfl]; rfl, s2.kept hb⟩

theorem join2_any (w : World) (u1 u2 : Value) (X Y : List Int) (s1 : Sl w u1 X) (s2 : Sl w u2 Y) (hbig : X.length + Y.length ≤ 200000000000000) :
    Calls Tryd.prog 13 #[.slice (some ⟨w.heap.size, 0, none⟩) 2 2] (w.alloc (.cells #[u1, u2] 25)) fun r w' => ∃ v, r = .returned v ∧ Sl w' v (X ++ Y) ∧ Below w.heap.size w w' := by
  have hfl : [X, Y].flatten = X ++ Y := by simp
  have h := join_any _ 2 _ _ (parts2 w u1 u2 X Y s1 s2) (by rw [hfl, List.length_append]; exact hbig)
  rw [hfl] at h
  have hb : Below w.heap.size w (w.alloc (.cells #[u1, u2] 25)) := (Below.refl _ _).alloc (Nat.le_refl _) _
  refine h.mono ?_
  rintro e w' ⟨v, rfl, own, bel⟩
  refine ⟨v, rfl, sl_owned own ?_, hb.trans (bel.mono (by simp))⟩
  have := bytes_flat [X, Y] (by
    intro Z hZ
    simp at hZ
    rcases hZ with rfl | rfl
    · exact s1.bytes
    · exact s2.bytes)
  rwa [hfl] at this

/-- 'string(b)'. -/
theorem Sl.conv {w : World} {a : Option Addr} {len cap : Nat} {xs : List Int} (h : Sl w (.slice a len cap) xs) : (convert 25 9 (.slice a len cap)).run Tryd.prog w = .ok (.string (strB xs)) w := by
  obtain ⟨a', cap', e, h1, h2, h3, h4⟩ := h
  cases e
  have := conv_any a xs.length cap xs w (Nat.le_refl _) h4
  rwa [List.take_length] at this

set_option maxHeartbeats 1000000 in
theorem err_nil (w : World) : Calls Tryd.prog 25 #[.pointer none] w fun r w' => r = .returned (.int .i64 1) ∧ w' = w := by
  go_enter Tryd.func25, Tryd.ntmps25
  go_wp2
  go_ret
  exact ⟨rfl, rfl⟩
set_option maxHeartbeats 1000000 in
theorem left_nil (w : World) : Calls Tryd.prog 24 #[.pointer none] w fun r w' => r = .returned (.int .i64 0) ∧ w' = w := by
  go_enter Tryd.func24, Tryd.ntmps24
  go_wp2
  go_ret
  exact ⟨rfl, rfl⟩
set_option maxHeartbeats 1000000 in
theorem stopped_nil (w : World) : Calls Tryd.prog 34 #[.pointer none] w fun r w' => r = .returned (.bool true) ∧ w' = w := by
  go_enter Tryd.func34, Tryd.ntmps34
  go_wp2_with (go_at_call 25; refine (err_nil _).mono ?_; rintro e w' ⟨rfl, rfl⟩)
  go_ret
  exact ⟨rfl, rfl⟩
set_option maxHeartbeats 1000000 in
theorem done_nil (w : World) : Calls Tryd.prog 26 #[.pointer none] w fun r w' => r = .returned (.int .i64 1) ∧ w' = w := by
  go_enter Tryd.func26, Tryd.ntmps26
  go_wp2_with (go_at_call 25; refine (err_nil _).mono ?_; rintro e w' ⟨rfl, rfl⟩)
  go_ret
  exact ⟨rfl, rfl⟩
set_option maxHeartbeats 1000000 in
theorem num_nil (n : Int) (w : World) : Calls Tryd.prog 17 #[.pointer none, .int .i64 n] w fun r w' => r = .returned (.int .i64 0) ∧ w' = w := by
  go_enter Tryd.func17, Tryd.ntmps17
  go_wp2_with (go_at_call 34; refine (stopped_nil _).mono ?_; rintro e w' ⟨rfl, rfl⟩)
  go_ret
  exact ⟨rfl, rfl⟩
set_option maxHeartbeats 1000000 in
theorem text_nil (n : Int) (w : World) : Calls Tryd.prog 19 #[.pointer none, .int .i64 n] w fun r w' => r = .returned (.string ⟨#[]⟩) ∧ w' = w := by
  go_enter Tryd.func19, Tryd.ntmps19
  go_wp2_with (go_at_call 34; refine (stopped_nil _).mono ?_; rintro e w' ⟨rfl, rfl⟩)
  go_ret
  exact ⟨rfl, rfl⟩
set_option maxHeartbeats 1000000 in
theorem raw_nil (n : Int) (w : World) : Calls Tryd.prog 21 #[.pointer none, .int .i64 n] w fun r w' => r = .returned (.string ⟨#[]⟩) ∧ w' = w := by
  go_enter Tryd.func21, Tryd.ntmps21
  go_wp2_with (go_at_call 34; refine (stopped_nil _).mono ?_; rintro e w' ⟨rfl, rfl⟩)
  go_ret
  exact ⟨rfl, rfl⟩
set_option maxHeartbeats 1000000 in
theorem byte_nil (w : World) : Calls Tryd.prog 23 #[.pointer none] w fun r w' => r = .returned (.int .u8 0) ∧ w' = w := by
  go_enter Tryd.func23, Tryd.ntmps23
  go_wp2_with (go_at_call 21; refine (raw_nil 1 _).mono ?_; rintro e w' ⟨rfl, rfl⟩)
  go_ret
  exact ⟨rfl, rfl⟩

theorem bnext {a b c : World} {B : Nat} (h : Below B a b) (k : Below b.heap.size b c) (hB : B ≤ b.heap.size) : Below B a c := h.trans (k.mono hB)

set_option maxHeartbeats 4000000 in
theorem awake_any (w : World) (hw : Wid w) :
    Calls Tryd.prog 8 #[] w fun r w' => r = .returned (.bool true) ∧ Below w.heap.size w w' := by
  have hp := hw.pos
  have c1 := fnum_any 5 w hw
  have e1 : numB 5 = [5] := by decide
  rw [e1] at c1
  clear e1
  go_enter Tryd.func8, Tryd.ntmps8
  go_wp2_with fail
  refine c1.mono ?_
  rintro e w1 ⟨v1, rfl, sl1, bel1⟩
  clear c1
  have hw1 := hw.below bel1 hp
  have c2 := ftext_any ⟨#[97, 98]⟩ w1 hw1 (by decide)
  have e2 : textB ⟨#[97, 98]⟩ = [2, 97, 98] := by decide
  rw [e2] at c2
  go_wp2_with fail
  refine c2.mono ?_
  rintro e w2 ⟨v2, rfl, sl2, bel2⟩
  clear c2 e2
  have B2 : Below w.heap.size w w2 := bnext bel1 bel2 bel1.size
  have sl1' := sl1.kept bel2
  have c3 := join2_any w2 v1 v2 _ _ sl1' sl2 (by simp)
  obtain ⟨a1, cap1, rfl, _⟩ := sl1
  obtain ⟨a2, cap2, rfl, _⟩ := sl2
  clear sl1' bel1 bel2
  simp only [List.length_cons, List.length_nil, Nat.reduceAdd] at c3
  go_wp2_with fail
  refine c3.mono ?_
  rintro e w3 ⟨v3, rfl, sl3, bel3⟩
  clear c3
  have sl3 : Sl w3 v3 [5, 2, 97, 98] := sl3
  have B3 : Below w.heap.size w w3 := bnext B2 bel3 B2.size
  have hw3 := hw.below B3 hp
  have c4 := new_any v3 _ w3 hw3 sl3 (by simp)
  go_wp2_with fail
  refine c4.mono ?_
  rintro e w4 ⟨g, s, rfl, hg1, hg2, hs, rd4, bel4⟩
  clear c4
  have B4 : Below w.heap.size w w4 := bnext B3 bel4 B3.size
  have hw4 := hw.below B4 hp
  have hb3 := B3.size
  have hb4 := B4.size
  have c5 := num_any g s _ 9 w4 hw4 rd4
  have e5 : naN [5, 2, 97, 98] 9 = 5 ∧ naU [5, 2, 97, 98] 9 = 1 ∧ naE [5, 2, 97, 98] 9 = 0 := by decide
  rw [e5.1, e5.2.1, e5.2.2] at c5
  clear e5
  go_wp2_with fail
  refine c5.mono ?_
  rintro e w5 ⟨rfl, rd5, off5⟩
  clear c5 rd4
  have D5 : Below w3.heap.size w3 w5 := bel4.trans (off5.below hg1)
  have rd5 : Rd w5 g s [2, 97, 98] 0 := rd5
  have B5 : Below w.heap.size w w5 := B4.trans (off5.below (by omega))
  have hw5 := hw.below B5 hp
  have c6 := text_any g s _ 9 w5 hw5 rd5
  have e6 : txS [2, 97, 98] 9 = [97, 98] ∧ txR [2, 97, 98] 9 = [] ∧ txE [2, 97, 98] 9 = 0 := by decide
  rw [e6.1, e6.2.1, e6.2.2] at c6
  clear e6
  have e7 : strB [97, 98] = ⟨#[97, 98]⟩ := by decide
  rw [e7] at c6
  clear e7
  go_wp2_with fail
  refine c6.mono ?_
  rintro e w6 ⟨rfl, rd6, off6⟩
  clear c6 rd5
  have B6 : Below w.heap.size w w6 := B5.trans (off6.below (by omega))
  have D6 : Below w3.heap.size w3 w6 := D5.trans (off6.below hg1)
  have HZ : Hid (w6.heap.size = w4.heap.size) := off6.size.trans off5.size
  have hgw6 : g < w6.heap.size := by rw [HZ.out]; exact hg2
  have hsw6 : s < w6.heap.size := by rw [HZ.out]; rcases hs with h | h <;> omega
  have h36 := D6.size
  clear off5 off6
  have B7 : Below w.heap.size w (w6.alloc (.cells #[.int .u8 2, .int .u8 97, .int .u8 98] 5)) := B6.alloc B6.size _
  have hb6 : Below w6.heap.size w6 (w6.alloc (.cells #[.int .u8 2, .int .u8 97, .int .u8 98] 5)) := (Below.refl _ _).alloc (Nat.le_refl _) _
  have hw7 := hw.below B7 hp
  have sl7 : Sl (w6.alloc (.cells #[.int .u8 2, .int .u8 97, .int .u8 98] 5)) (.slice (some ⟨w6.heap.size, 0, none⟩) 3 3) [2, 97, 98] :=
    ⟨_, 3, rfl, by simp, by simp [maxLen], fun e => (by cases e), row_new w6 [2, 97, 98] (byteList _ rfl) (by simp [maxLen])⟩
  have c8 := new_any _ _ _ hw7 sl7 (by simp)
  go_wp2_with fail
  refine c8.mono ?_
  rintro e w8 ⟨g8, s8, rfl, hg81, hg82, hs8, rd8, bel8⟩
  clear c8 sl7
  have B8 : Below w.heap.size w w8 := bnext B7 bel8 B7.size
  have hz7 : (w6.alloc (.cells #[.int .u8 2, .int .u8 97, .int .u8 98] 5)).heap.size = w6.heap.size + 1 := by simp
  rw [hz7] at hg81 hs8
  have hw8 := hw.below B8 hp
  have c9 := text_any g8 s8 _ 1 w8 hw8 rd8
  have e9 : txS [2, 97, 98] 1 = [] ∧ txR [2, 97, 98] 1 = [2, 97, 98] ∧ txE [2, 97, 98] 1 = 5 := by decide
  rw [e9.1, e9.2.1, e9.2.2] at c9
  clear e9
  have e10 : strB [] = ⟨#[]⟩ := rfl
  rw [e10] at c9
  clear e10
  have rd6' : Rd w8 g s [] 0 := (rd6.kept hb6).kept bel8
  have D8 : Below w3.heap.size w3 w8 := (D6.alloc D6.size _).trans (bel8.mono (by simp; omega))
  go_wp2_with fail
  refine c9.mono ?_
  rintro e w9 ⟨rfl, rd9, off9⟩
  clear c9 rd8 rd6 hb6
  have hge : g ≠ g8 := by omega
  have hse : s ≠ g8 := by omega
  have rd6' := rd6'.off off9 hge hse
  have B9 : Below w.heap.size w w9 := B8.trans (off9.below (by have := B6.size; omega))
  have sl9 : Sl w9 v3 [5, 2, 97, 98] := sl3.kept (D8.trans (off9.below (by omega)))
  obtain ⟨a3, cap3, rfl, _⟩ := sl3
  have cv := sl9.conv
  have e11 : strB [5, 2, 97, 98] = ⟨#[5, 2, 97, 98]⟩ := by decide
  rw [e11] at cv
  have d1 := done_any g s [] 0 w9 rd6'
  have d2 := err_any g8 s8 _ 5 w9 rd9
  have d3 := left_any g8 s8 _ 5 w9 rd9
  have e12 : dnE [] 0 = 0 := by decide
  rw [e12] at d1
  simp only [List.length_cons, List.length_nil, Nat.reduceAdd] at cv
  clear rd6' sl9 D8 B8 B7 B6 B5 D6 D5 hw8 hw7 hw5 hw4 hw3 e11 e12 rd9 off9 bel8 hgw6 hsw6 h36 hge hse hs hs8 hg1 hg2 hg81 hg82 hz7 bel3 bel4 B2 B3 B4
  go_wp2_with fail
  refine d1.mono ?_
  rintro e w' ⟨rfl, rfl⟩
  go_wp2_with fail
  refine d2.mono ?_
  rintro e w' ⟨rfl, rfl⟩
  go_wp2_with fail
  refine d3.mono ?_
  rintro e w' ⟨rfl, rfl⟩
  go_wp2_with (first | (go_at_call 25; refine (err_nil _).mono ?_; rintro e w' ⟨rfl, rfl⟩) | (go_at_call 26; refine (done_nil _).mono ?_; rintro e w' ⟨rfl, rfl⟩) | (go_at_call 24; refine (left_nil _).mono ?_; rintro e w' ⟨rfl, rfl⟩) | (go_at_call 17; refine (num_nil _ _).mono ?_; rintro e w' ⟨rfl, rfl⟩) | (go_at_call 19; refine (text_nil _ _).mono ?_; rintro e w' ⟨rfl, rfl⟩) | (go_at_call 21; refine (raw_nil _ _).mono ?_; rintro e w' ⟨rfl, rfl⟩) | (go_at_call 23; refine (byte_nil _).mono ?_; rintro e w' ⟨rfl, rfl⟩))
  go_ret
  exact ⟨rfl, by assumption⟩
end Go.Proofs.YtmlnocjljhhmdaaDoor
