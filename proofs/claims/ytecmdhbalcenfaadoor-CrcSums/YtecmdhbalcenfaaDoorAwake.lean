/-
  The statements' own 'awake' answers true, and nothing that was there is changed. Condition: the table of half bytes holds what its initialiser lays.
-/
import Derived.Test.YtecmdhbalcenfaaDoorOpen
import Derived.Lib.SlBytesConst
namespace Go.Proofs.YtecmdhbalcenfaaDoor
open Go.RowKit

theorem leB_len (c : Nat) : (leB c).length = 4 := rfl

/-- What was sealed is opened to what it was. -/
theorem open_seal (xs : List Int) : opE (xs ++ leB (sumOf xs)) = 0 ∧ opX (xs ++ leB (sumOf xs)) = xs := by
  have hl : (xs ++ leB (sumOf xs)).length = xs.length + 4 := by rw [List.length_append, leB_len]
  have h4 : xs.length + 4 - 4 = xs.length := by omega
  have ht : (xs ++ leB (sumOf xs)).take xs.length = xs := by simp
  have hd : (xs ++ leB (sumOf xs)).drop xs.length = leB (sumOf xs) := by simp
  have h0 : opE (xs ++ leB (sumOf xs)) = 0 := by
    unfold opE
    rw [hl, if_neg (by omega), h4, ht, hd, if_pos rfl]
  refine ⟨h0, ?_⟩
  unfold opX
  rw [h0, if_pos rfl, hl, h4, ht]

theorem seal_bytes {xs : List Int} (h : ∀ i, 0 ≤ xs.getD i 0 ∧ xs.getD i 0 < 256) : ∀ i, 0 ≤ (xs ++ leB (sumOf xs)).getD i 0 ∧ (xs ++ leB (sumOf xs)).getD i 0 < 256 := by
  have := bytes_flat [xs, leB (sumOf xs)] (by
    intro Z hZ
    simp at hZ
    rcases hZ with rfl | rfl
    · exact h
    · exact leB_bytes _)
  simpa using this

theorem sum_known : sumOf [49, 50, 51, 52, 53, 54, 55, 56, 57] = 3421780262 := by decide +kernel

theorem row_mark (w : World) (zs : List Int) (hb : ∀ i, 0 ≤ zs.getD i 0 ∧ zs.getD i 0 < 256) (hm : zs.length ≤ maxLen) (fr : Nat × Nat) :
    Row (w.alloc (.cells (zs.map (Value.int .u8)).toArray 5 fr)) (some ⟨w.heap.size, 0, none⟩) zs.length zs.length zs := by
  rcases Nat.eq_zero_or_pos zs.length with h | h
  · exact .inl h
  · refine .inr ⟨h, w.heap.size, 0, rfl, Nat.le_refl _, hm, fun i hi => ?_, hb⟩
    rw [World.cell?_alloc_mark]
    simp [hi]

set_option maxHeartbeats 2000000 in
theorem awake_any (w : World) (hw : Tab w) :
    Calls Tryd.prog 8 #[] w fun r w' => r = .returned (.bool true) ∧ Below w.heap.size w w' := by
  have hp := hw.pos
  have B1 : Below w.heap.size w (w.alloc (.cells #[.int .u8 97, .int .u8 98] 5 (2, 3))) := (Below.refl _ _).alloc (Nat.le_refl _) _
  have sl1 : Sl (w.alloc (.cells #[.int .u8 97, .int .u8 98] 5 (2, 3))) (.slice (some ⟨w.heap.size, 0, none⟩) 2 2) [97, 98] :=
    ⟨_, 2, rfl, by simp, by simp [maxLen], fun e => (by cases e), row_mark w [97, 98] (byteList _ rfl) (by simp [maxLen]) _⟩
  have c1 := seal_any _ _ _ (hw.below B1 hp) sl1 (by simp)
  have hsz1 : w.heap.size + 1 = (w.alloc (.cells #[.int .u8 97, .int .u8 98] 5 (2, 3))).heap.size := by simp
  have HB : Hid (∀ i, 0 ≤ ([97, 98] ++ leB (sumOf [97, 98])).getD i 0 ∧ ([97, 98] ++ leB (sumOf [97, 98])).getD i 0 < 256) := seal_bytes (byteList [97, 98] rfl)
  obtain ⟨o1, o2⟩ := open_seal [97, 98]
  have hl6 : ([97, 98] ++ leB (sumOf [97, 98])).length ≤ 100000000000000 := by simp [leB_len]
  generalize [97, 98] ++ leB (sumOf [97, 98]) = Y at *
  clear sl1
  have k1 := Lib.run_convert_bytes_const (P := Tryd.prog) w 23 5 #[.int .u8 97, .int .u8 98] 2 2 Tryd.underlying23 Tryd.underlying5
  go_enter Tryd.func8, Tryd.ntmps8
  go_wp2_with fail
  refine c1.mono ?_
  rintro e w2 ⟨v2, rfl, own2, bel2⟩
  clear c1
  have sl2 := sl_owned own2 HB.out
  have B2 : Below w.heap.size w w2 := B1.trans (bel2.mono (by rw [← hsz1]; omega))
  have c2 := open_any v2 Y w2 (hw.below B2 hp) sl2 hl6
  rw [o1, o2] at c2
  clear own2 bel2 B1 hsz1 HB o1 o2 hl6
  obtain ⟨a2, cap2, rfl, _⟩ := sl2
  generalize Y.length = K at *
  go_wp2_with fail
  refine c2.mono ?_
  rintro e w3 ⟨v3, rfl, sl3, bel3⟩
  clear c2
  have B3 : Below w.heap.size w w3 := B2.trans (bel3.mono B2.size)
  clear bel3 B2
  have b4 : Below w3.heap.size w3 (w3.alloc (.cells #[.int .u8 49, .int .u8 50, .int .u8 51, .int .u8 52, .int .u8 53, .int .u8 54, .int .u8 55, .int .u8 56, .int .u8 57] 5 (9, 10))) := (Below.refl _ _).alloc (Nat.le_refl _) _
  have B4 : Below w.heap.size w (w3.alloc (.cells #[.int .u8 49, .int .u8 50, .int .u8 51, .int .u8 52, .int .u8 53, .int .u8 54, .int .u8 55, .int .u8 56, .int .u8 57] 5 (9, 10))) := B3.trans (b4.mono B3.size)
  have sl4 : Sl (w3.alloc (.cells #[.int .u8 49, .int .u8 50, .int .u8 51, .int .u8 52, .int .u8 53, .int .u8 54, .int .u8 55, .int .u8 56, .int .u8 57] 5 (9, 10))) (.slice (some ⟨w3.heap.size, 0, none⟩) 9 9) [49, 50, 51, 52, 53, 54, 55, 56, 57] :=
    ⟨_, 9, rfl, by simp, by simp [maxLen], fun e => (by cases e), row_mark w3 [49, 50, 51, 52, 53, 54, 55, 56, 57] (byteList _ rfl) (by simp [maxLen]) _⟩
  have c4 := of_any _ _ _ (hw.below B4 hp) sl4
  rw [sum_known] at c4
  have sl5 := sl3.kept b4
  obtain ⟨a3, cap3, rfl, _⟩ := sl3
  have cv := sl5.conv
  have e1 : strB [97, 98] = ⟨#[97, 98]⟩ := by decide
  rw [e1] at cv
  clear sl4 sl5 b4 B3 e1
  have hl2 : ([97, 98] : List Int).length = 2 := rfl
  rw [hl2] at cv ⊢
  have k4 := Lib.run_convert_bytes_const (P := Tryd.prog) w3 23 5 #[.int .u8 49, .int .u8 50, .int .u8 51, .int .u8 52, .int .u8 53, .int .u8 54, .int .u8 55, .int .u8 56, .int .u8 57] 9 9 Tryd.underlying23 Tryd.underlying5
  go_wp2_with fail
  refine c4.mono ?_
  rintro e w5 ⟨rfl, e5⟩
  rw [e5]
  clear c4 e5
  go_wp2
  go_ret
  exact ⟨rfl, B4⟩
end Go.Proofs.YtecmdhbalcenfaaDoor
