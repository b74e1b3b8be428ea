/-
  What the readings answer for what was laid: plain facts on numbers and lists, no program in sight but the definitions.
-/
import Derived.Test.YthhghehnaopmhaaDoorFiLay
namespace Go.Proofs.YthhghehnaopmhaaDoor.Fi
open Go.RowKit
set_option maxRecDepth 100000

theorem getD_append (xs ys : List Int) (i : Nat) (h : i < xs.length) : (xs ++ ys).getD i 0 = xs.getD i 0 := by
  simp [List.getD, List.getElem?_append_left h]

/-- What Get answers for a number's bytes with whatever behind. -/
theorem get_put (n : Int) (W m : Nat) (ys : List Int) (hI : IsW W) (h1 : 0 ≤ n) (h2 : n < lim W) : getN (W + m) (pb n W ++ ys) = n ∧ getU (W + m) (pb n W ++ ys) = W ∧ getE (W + m) (pb n W ++ ys) = 0 := by
  have hpos : 0 < W := by rcases hI with rfl | rfl | rfl | rfl <;> omega
  have hl := pb_len n W hI
  have hk : gk (pb n W ++ ys) = gk (pb n W) := by unfold gk; rw [getD_append _ _ _ (by omega)]
  have hw := pb_gk n W hI h1 h2
  have hg : gval (pb n W ++ ys) (W - 1) = n := by
    rw [gval_take (pb n W ++ ys) (pb n W) (W - 1) (fun i hi => getD_append _ _ _ (by omega))]
    exact pb_gval n W hI h1 h2
  unfold getN getU getE
  rw [hk, hw, if_neg (by omega), if_neg (by omega), if_neg (by omega), hg]
  exact ⟨rfl, rfl, rfl⟩

theorem numB_len (n : Int) : ((numB n).length : Int) = lenOf n := by
  unfold numB
  split
  · next h => rw [h]; rfl
  · next h =>
    obtain ⟨W, hW, hW0, hI, h1, h2, hn⟩ := pos_lim n h
    rw [hW]
    show ((pb n W).length : Int) = W
    rw [pb_len n W hI]

/-- What Shortest answers for a number that stands in its least width, with whatever behind. -/
theorem sh_num (n : Int) (ys : List Int) (h0 : lenOf n ≠ 0) :
    shN (numB n ++ ys).length (numB n ++ ys) = n ∧ shU (numB n ++ ys).length (numB n ++ ys) = lenOf n ∧ shE (numB n ++ ys).length (numB n ++ ys) = 0 := by
  obtain ⟨W, hW, hW0, hI, h1, h2, hn⟩ := pos_lim n h0
  have hl : (numB n ++ ys).length = W + ys.length := by rw [hn, List.length_append, pb_len n W hI]
  rw [hl, hn]
  obtain ⟨e1, e2, e3⟩ := get_put n W ys.length ys hI h1 h2
  unfold shN shU shE
  rw [e1, e2, e3, hW]
  simp

theorem na_num (n most : Int) (ys : List Int) (h0 : lenOf n ≠ 0) (hm : n ≤ most) : naE (numB n ++ ys) most = 0 ∧ naN (numB n ++ ys) most = n ∧ naU (numB n ++ ys) most = lenOf n := by
  obtain ⟨e1, e2, e3⟩ := sh_num n ys h0
  have hE : naE (numB n ++ ys) most = 0 := by unfold naE; rw [e3, e1, if_pos rfl, if_pos hm]
  unfold naN naU
  rw [hE, e1, e2]
  exact ⟨rfl, rfl, rfl⟩

theorem na_long (n most : Int) (ys : List Int) (h0 : lenOf n ≠ 0) (hm : most < n) : naE (numB n ++ ys) most = 5 ∧ naN (numB n ++ ys) most = 0 ∧ naU (numB n ++ ys) most = 0 := by
  obtain ⟨e1, e2, e3⟩ := sh_num n ys h0
  have hE : naE (numB n ++ ys) most = 5 := by unfold naE; rw [e3, e1, if_pos rfl, if_neg (by omega)]
  unfold naN naU
  rw [hE]
  exact ⟨rfl, rfl, rfl⟩

theorem na_cut (n most : Int) (h0 : lenOf n ≠ 0) (m : Nat) (hm : (m : Int) < lenOf n) : naE ((numB n).take m) most = 3 := by
  obtain ⟨W, hW, hW0, hI, h1, h2, hn⟩ := pos_lim n h0
  have hl : ((numB n).take m).length = m := by rw [List.length_take, hn, pb_len n W hI]; omega
  have hE : getE ((numB n).take m).length ((numB n).take m) = 3 := by
    unfold getE
    rw [hl]
    refine if_pos ?_
    rcases Nat.eq_zero_or_pos m with h | h
    · exact .inr h
    · left
      have : gk ((numB n).take m) = gk (pb n W) := by
        unfold gk
        rw [hn]
        simp [List.getD, h]
      rw [this, pb_gk n W hI h1 h2]
      omega
  have hS : shE ((numB n).take m).length ((numB n).take m) = 3 := by unfold shE; rw [hE, if_neg (by decide)]
  unfold naE
  rw [hS, if_neg (by decide)]

theorem size_len0 (s : ByteArray) (h : s.size < 4611686018427387904) : lenOf (s.size : Int) ≠ 0 := by
  have hx : (0 : Int) ≤ s.size ∧ (s.size : Int) < 4611686018427387904 := by omega
  rcases lenOf_cases (s.size : Int) with h | h | h | h | h | h <;> omega

theorem tx_text (s : ByteArray) (most : Int) (ys : List Int) (hs : s.size < 4611686018427387904) (hm : (s.size : Int) ≤ most) :
    txE (textB s ++ ys) most = 0 ∧ txS (textB s ++ ys) most = sb s ∧ txR (textB s ++ ys) most = ys := by
  have h0 := size_len0 s hs
  have hnl := numB_len (s.size : Int)
  have e : textB s ++ ys = numB (s.size : Int) ++ (sb s ++ ys) := by unfold textB; rw [List.append_assoc]
  rw [e]
  obtain ⟨e1, e2, e3⟩ := na_num (s.size : Int) most (sb s ++ ys) h0 hm
  have hE : txE (numB (s.size : Int) ++ (sb s ++ ys)) most = 0 := by
    unfold txE
    rw [e1, e2, e3, if_pos rfl, if_pos]
    rw [List.length_append, List.length_append, sb_len]
    omega
  refine ⟨hE, ?_, ?_⟩
  · unfold txS
    rw [hE, e2, e3, if_pos rfl, ← hnl]
    simp only [Int.toNat_natCast]
    rw [List.drop_left, ← sb_len s, List.take_left]
  · unfold txR
    rw [hE, e2, e3, if_pos rfl, ← hnl]
    simp only [Int.toNat_natCast]
    rw [← List.drop_drop, List.drop_left, ← sb_len s, List.drop_left]

theorem tx_long (s : ByteArray) (most : Int) (ys : List Int) (hs : s.size < 4611686018427387904) (hm : most < (s.size : Int)) :
    txE (textB s ++ ys) most = 5 ∧ txS (textB s ++ ys) most = [] ∧ txR (textB s ++ ys) most = textB s ++ ys := by
  have h0 := size_len0 s hs
  have e : textB s ++ ys = numB (s.size : Int) ++ (sb s ++ ys) := by unfold textB; rw [List.append_assoc]
  rw [e]
  obtain ⟨e1, e2, e3⟩ := na_long (s.size : Int) most (sb s ++ ys) h0 hm
  have hE : txE (numB (s.size : Int) ++ (sb s ++ ys)) most = 5 := by unfold txE; rw [e1, if_neg (by decide)]
  unfold txS txR
  rw [hE]
  exact ⟨rfl, rfl, rfl⟩

theorem tx_cut (s : ByteArray) (most : Int) (m : Nat) (hs : s.size < 4611686018427387904) (hm : (s.size : Int) ≤ most) (hl : m < (textB s).length) :
    txE ((textB s).take m) most = 3 ∧ txS ((textB s).take m) most = [] ∧ txR ((textB s).take m) most = (textB s).take m := by
  have h0 := size_len0 s hs
  have hnl := numB_len (s.size : Int)
  have hE : txE ((textB s).take m) most = 3 := by
    by_cases hw : (m : Int) < lenOf s.size
    · have e : (textB s).take m = (numB (s.size : Int)).take m := by unfold textB; rw [List.take_append_of_le_length (by omega)]
      rw [e]
      have := na_cut (s.size : Int) most h0 m hw
      unfold txE
      rw [this, if_neg (by decide)]
    · have e : (textB s).take m = numB (s.size : Int) ++ (sb s).take (m - (numB (s.size : Int)).length) := by
        unfold textB
        rw [List.take_append, List.take_of_length_le (by omega)]
      obtain ⟨e1, e2, e3⟩ := na_num (s.size : Int) most ((sb s).take (m - (numB (s.size : Int)).length)) h0 hm
      unfold textB at hl
      rw [List.length_append, sb_len] at hl
      rw [e]
      unfold txE
      rw [e1, e2, e3, if_pos rfl, if_neg]
      rw [List.length_append, List.length_take, sb_len]
      omega
  unfold txS txR
  rw [hE]
  exact ⟨rfl, rfl, rfl⟩

theorem textB_len (s : ByteArray) : (textB s).length ≤ 8 + s.size ∧ (s.size < 4611686018427387904 → 0 < (textB s).length) := by
  have hnl := numB_len (s.size : Int)
  unfold textB
  rw [List.length_append, sb_len]
  constructor
  · rcases lenOf_cases (s.size : Int) with h | h | h | h | h | h <;> omega
  · intro hs
    have := size_len0 s hs
    rcases lenOf_cases (s.size : Int) with h | h | h | h | h | h <;> omega
end Go.Proofs.YthhghehnaopmhaaDoor.Fi
