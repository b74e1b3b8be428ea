/-
  What is put is read as it was, however it is cut: plainly.
-/
import Derived.Test.YtfccjeepmhgckaaDoorDp
import Derived.Test.YtfccjeepmhgckaaDoorDi
namespace Go.Proofs.YtfccjeepmhgckaaDoor
open Go.RowKit

theorem len_ne {n : Int} (h0 : 0 ≤ n) (h1 : n < 4611686018427387904) : Fi.lenOf n ≠ 0 := by
  rcases Fi.lenOf_cases n with h | h | h | h | h | h <;> omega
theorem numB_toNat (n : Int) : (Fi.lenOf n).toNat = (Fi.numB n).length := by
  have := Fi.numB_len n
  omega
theorem sh_cut (n : Int) (h0 : Fi.lenOf n ≠ 0) (m : Nat) (hm : m < (Fi.numB n).length) : nE ((Fi.numB n).take m) = 3 := by
  have h1 := Fi.na_cut n 0 h0 m (by have := Fi.numB_len n; omega)
  unfold Fi.naE at h1
  split at h1
  · split at h1 <;> cases h1
  · exact h1
/-- What may be, put, is read. -/
theorem opA_lay (x : Xp) (old : Int) (r : List Int) (hm : mayX x old = true) (ho : old < 4611686018427387904) (hd : x.c = false → x.d.length ≤ 65536) : opA old (layX x ++ r) = .op x (layX x).length := by
  cases hc : x.c with
  | true =>
    obtain ⟨h0, h1, h2, h3, h4⟩ := (mayX_copy hc).1 hm
    have hx : x = ⟨true, x.a, x.n, []⟩ := by
      obtain ⟨c, a, n, d⟩ := x
      simp only at hc h0
      subst hc
      rw [List.length_eq_zero_iff.1 h0]
    have e : layX x = 1 :: (Fi.numB x.a ++ Fi.numB x.n) := if_pos hc
    have a0 := len_ne h1 (by omega)
    have n0 := len_ne (show (0 : Int) ≤ x.n by omega) (by omega)
    rw [e, List.cons_append, opA_cons, if_neg (by decide), if_pos rfl, List.append_assoc]
    obtain ⟨s1, s2, s3⟩ := Fi.sh_num x.a (Fi.numB x.n ++ r) a0
    obtain ⟨t1, t2, t3⟩ := Fi.sh_num x.n r n0
    unfold copA nE nN nU
    rw [s3, s1, s2, if_neg (by decide), if_pos rfl, numB_toNat, List.drop_left]
    unfold copB nE nN nU
    rw [t3, t1, t2, if_neg (by decide), if_pos rfl, numB_toNat, ← hx, if_pos hm]
    show Tk.op x (1 + ((Fi.numB x.a).length + (Fi.numB x.n).length)) = _
    congr 1
    rw [List.length_cons, List.length_append]
    omega
  | false =>
    obtain ⟨h0, h1, h2⟩ := (mayX_data hc).1 hm
    have hd' := hd hc
    have hx : x = ⟨false, 0, 0, x.d⟩ := by
      obtain ⟨c, a, n, d⟩ := x
      simp only at hc h1 h2
      subst hc h1 h2
      rfl
    have e : layX x = 0 :: (Fi.numB x.d.length ++ x.d) := if_neg (by rw [hc]; simp)
    have a0 := len_ne (show (0 : Int) ≤ (x.d.length : Int) by omega) (by omega)
    rw [e, List.cons_append, opA_cons, if_pos rfl, List.append_assoc]
    obtain ⟨s1, s2, s3⟩ := Fi.sh_num (x.d.length : Int) (x.d ++ r) a0
    have hnl := Fi.numB_len (x.d.length : Int)
    unfold datA nE nN nU
    rw [s3, s1, s2, if_neg (by decide), if_pos rfl, if_neg (by omega), if_neg (by omega), if_neg (by rw [List.length_append, List.length_append]; omega), numB_toNat, Int.toNat_natCast]
    have ec : cut (Fi.numB (x.d.length : Int) ++ (x.d ++ r)) (Fi.numB (x.d.length : Int)).length x.d.length = x.d := by
      unfold cut
      rw [List.drop_left, List.take_left]
    rw [ec, ← hx]
    show Tk.op x (1 + ((Fi.numB (x.d.length : Int)).length + x.d.length)) = _
    congr 1
    rw [List.length_cons, List.length_append]
    omega
/-- What is cut off is waited for. -/
theorem opA_cut (x : Xp) (old : Int) (m : Nat) (hm : mayX x old = true) (ho : old < 4611686018427387904) (hd : x.c = false → x.d.length ≤ 65536) (hl : m < (layX x).length) : opA old ((layX x).take m) = .wait := by
  cases m with
  | zero => rfl
  | succ m =>
    cases hc : x.c with
    | true =>
      obtain ⟨h0, h1, h2, h3, h4⟩ := (mayX_copy hc).1 hm
      have e : layX x = 1 :: (Fi.numB x.a ++ Fi.numB x.n) := if_pos hc
      have a0 := len_ne h1 (by omega)
      have n0 := len_ne (show (0 : Int) ≤ x.n by omega) (by omega)
      rw [e, List.length_cons, List.length_append] at hl
      rw [e, List.take_succ_cons, opA_cons, if_neg (by decide), if_pos rfl]
      by_cases hw : m < (Fi.numB x.a).length
      · rw [List.take_append_of_le_length (by omega)]
        have := sh_cut x.a a0 m hw
        unfold copA
        rw [this, if_pos rfl]
        rfl
      · rw [List.take_append, List.take_of_length_le (by omega)]
        obtain ⟨s1, s2, s3⟩ := Fi.sh_num x.a ((Fi.numB x.n).take (m - (Fi.numB x.a).length)) a0
        unfold copA nE nN nU
        rw [s3, s1, s2, if_neg (by decide), if_pos rfl, numB_toNat, List.drop_left]
        have := sh_cut x.n n0 (m - (Fi.numB x.a).length) (by omega)
        unfold copB
        rw [this, if_pos rfl]
        rfl
    | false =>
      obtain ⟨h0, h1, h2⟩ := (mayX_data hc).1 hm
      have hd' := hd hc
      have e : layX x = 0 :: (Fi.numB x.d.length ++ x.d) := if_neg (by rw [hc]; simp)
      have a0 := len_ne (show (0 : Int) ≤ (x.d.length : Int) by omega) (by omega)
      rw [e, List.length_cons, List.length_append] at hl
      rw [e, List.take_succ_cons, opA_cons, if_pos rfl]
      by_cases hw : m < (Fi.numB (x.d.length : Int)).length
      · rw [List.take_append_of_le_length (by omega)]
        have := sh_cut (x.d.length : Int) a0 m hw
        unfold datA
        rw [this, if_pos rfl]
        rfl
      · rw [List.take_append, List.take_of_length_le (by omega)]
        obtain ⟨s1, s2, s3⟩ := Fi.sh_num (x.d.length : Int) (x.d.take (m - (Fi.numB (x.d.length : Int)).length)) a0
        have hnl := Fi.numB_len (x.d.length : Int)
        unfold datA nE nN nU
        rw [s3, s1, s2, if_neg (by decide), if_pos rfl, if_neg (by omega), if_neg (by omega), if_pos (by rw [List.length_append, List.length_take]; omega)]
        rfl
/-- However it is cut. -/
theorem tks_pre (old : Int) (ho : old < 4611686018427387904) : ∀ (m : List Xp) (made : Int) (s t : List Int) (O : List Xp), 0 ≤ made → (∀ x ∈ m, mayX x old = true) → made + totX m ≤ 65536 → s ++ t = putX m →
    ∃ j, j ≤ m.length ∧ tks old made s O = (0, O ++ m.take j, made + totX (m.take j), s.drop (putX (m.take j)).length) ∧ s = putX (m.take j) ++ s.drop (putX (m.take j)).length ∧ s.drop (putX (m.take j)).length ++ t = putX (m.drop j) ∧ (t = [] → j = m.length)
  | [], made, s, t, O, _, _, _, h => by
    obtain ⟨rfl, rfl⟩ := List.append_eq_nil_iff.1 (h.trans putX_nil)
    refine ⟨0, Nat.le_refl _, ?_, rfl, rfl, fun _ => rfl⟩
    rw [tks_wait (opA_nil old)]
    simp [putX, totX]
  | x :: m, made, s, t, O, h0, hm, ht, h => by
    rw [putX_cons] at h
    rw [totX_cons] at ht
    have hx := hm x (by simp)
    have hp := totX_pos m
    have hxp := mkX_pos x
    have hd : x.c = false → x.d.length ≤ 65536 := fun hc => by rw [mkX_data hc] at ht; omega
    by_cases hl : s.length < (layX x).length
    · have e : s = (layX x).take s.length := by
        have := congrArg (List.take s.length) h
        rwa [List.take_left, List.take_append_of_le_length (by omega)] at this
      have hw : opA old s = .wait := by rw [e]; exact opA_cut x old s.length hx ho hd hl
      refine ⟨0, Nat.zero_le _, ?_, rfl, ?_, fun e => ?_⟩
      · rw [tks_wait hw]
        simp [putX, totX]
      · simp only [List.take_zero, putX_nil, List.length_nil, List.drop_zero]
        rw [h, putX_cons]
      · subst e
        rw [List.append_nil] at h
        have := congrArg List.length h
        rw [List.length_append] at this
        omega
    · obtain ⟨s', hs⟩ : ∃ s', s = layX x ++ s' := by
        refine ⟨s.drop (layX x).length, ?_⟩
        have := congrArg (List.take (layX x).length) h
        rw [List.take_left, List.take_append_of_le_length (by omega)] at this
        rw [← this, List.length_take, Nat.min_eq_left (by omega)]
        exact (List.take_append_drop _ _).symm
      subst hs
      rw [List.append_assoc] at h
      have h' := List.append_cancel_left h
      have ho' := opA_lay x old s' hx ho hd
      rw [tks_op ho' (by omega), List.drop_left]
      obtain ⟨j, j1, j2, j3, j4, j5⟩ := tks_pre old ho m (made + mkX x) s' t (O ++ [x]) (by omega) (fun y hy => hm y (by simp [hy])) (by omega) h'
      have e1 : (layX x ++ s').drop (putX (x :: m.take j)).length = s'.drop (putX (m.take j)).length := by
        rw [putX_cons, List.length_append, ← List.drop_drop, List.drop_left]
      refine ⟨j + 1, by rw [List.length_cons]; omega, ?_, ?_, ?_, fun e => by rw [j5 e]; rfl⟩
      · rw [j2, List.take_succ_cons, e1, totX_cons]
        simp only [List.append_assoc, List.singleton_append, Prod.mk.injEq, true_and]
        exact ⟨by omega, trivial⟩
      · rw [List.take_succ_cons, e1, putX_cons, List.append_assoc, ← j3]
      · rw [List.take_succ_cons, e1, List.drop_succ_cons]
        exact j4
/-- All at once. -/
theorem tks_all (old : Int) (ho : old < 4611686018427387904) (m : List Xp) (made : Int) (O : List Xp) (h0 : 0 ≤ made) (hm : ∀ x ∈ m, mayX x old = true) (ht : made + totX m ≤ 65536) : tks old made (putX m) O = (0, O ++ m, made + totX m, []) := by
  obtain ⟨j, j1, j2, j3, j4, j5⟩ := tks_pre old ho m made (putX m) [] O h0 hm ht (List.append_nil _)
  rw [j2, j5 rfl, List.take_length, List.drop_length]
end Go.Proofs.YtfccjeepmhgckaaDoor
