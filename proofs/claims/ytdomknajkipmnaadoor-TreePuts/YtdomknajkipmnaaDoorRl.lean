/-
  What the document's Less, and both Joins, answer.
-/
import Derived.Test.YtdomknajkipmnaaDoorRc
import Derived.Deep.RegionWith
namespace Go.Proofs.YtdomknajkipmnaaDoor
open Go.RowKit

theorem ltL_end (X Y : List (List UInt8)) (j : Nat) (h : X.length ≤ j ∨ Y.length ≤ j) (hj : j ≤ X.length ∧ j ≤ Y.length) : ltL (X.drop j) (Y.drop j) = decide (X.length < Y.length) := by
  by_cases hx : j < X.length
  · have hy : Y.length = j := by omega
    rw [List.drop_of_length_le (l := Y) (by omega), ltL_nil]
    simp; omega
  · have hx' : X.length = j := by omega
    rw [List.drop_of_length_le (l := X) (by omega)]
    by_cases hy : j < Y.length
    · rw [drop_at Y [] j hy]
      simp [ltL]; omega
    · rw [List.drop_of_length_le (l := Y) (by omega), ltL_nil]
      simp; omega
theorem ltL_step (X Y : List (List UInt8)) (j : Nat) (h1 : j < X.length) (h2 : j < Y.length) : ltL (X.drop j) (Y.drop j) = if X.getD j [] = Y.getD j [] then ltL (X.drop (j + 1)) (Y.drop (j + 1)) else Op.bytesLess (X.getD j []) (Y.getD j []) := by
  rw [drop_at X [] j h1, drop_at Y [] j h2, ltL_cons]

set_option maxHeartbeats 2000000 in
theorem rless_any (s t : ByteArray) (w : World) (hs : s.size ≤ 1000000) (ht : t.size ≤ 1000000) :
    Calls Tryd.prog 45 #[.string s, .string t] w fun e w' => e = .returned (.bool (les (dl s) (dl t))) ∧ Below w.heap.size w w' := by
  have c1 := rsplit_any s w hs
  have HT : Hid (∀ w, Calls Tryd.prog 59 #[.string t] w fun e w' => ∃ v, e = .returned v ∧ SS w' v (sps t) ∧ Below w.heap.size w w') := fun w => rsplit_any t w ht
  have L1 : Hid ((sps s).length ≤ 1000001) := by unfold Hid; have := spl_len (dl s); rw [sps_len]; rw [dl_len] at this; omega
  have hr : Hid (ltL ((sps s).map dl) ((sps t).map dl) = les (dl s) (dl t)) := by
    unfold Hid les
    rw [sps_dl, sps_dl]
  generalize les (dl s) (dl t) = r at *
  generalize sps s = xs at *
  generalize sps t = ys at *
  have HEND : Hid (∀ j, (xs.length ≤ j ∨ ys.length ≤ j) → j ≤ xs.length ∧ j ≤ ys.length → ltL ((xs.map dl).drop j) ((ys.map dl).drop j) = decide (xs.length < ys.length)) := fun j h hj => by
    have := ltL_end (xs.map dl) (ys.map dl) j (by simpa using h) (by simpa using hj)
    simpa using this
  have HSTEP : Hid (∀ j, j < xs.length → j < ys.length → ltL ((xs.map dl).drop j) ((ys.map dl).drop j) = if xs.getD j ⟨#[]⟩ = ys.getD j ⟨#[]⟩ then ltL ((xs.map dl).drop (j + 1)) ((ys.map dl).drop (j + 1)) else Op.bytesLess (xs.getD j ⟨#[]⟩).toList (ys.getD j ⟨#[]⟩).toList) := fun j ha hb => by
    have := ltL_step (xs.map dl) (ys.map dl) j (by simpa using ha) (by simpa using hb)
    rw [dl_getD, dl_getD] at this
    rw [this, tol, tol]
    by_cases he : xs.getD j ⟨#[]⟩ = ys.getD j ⟨#[]⟩
    · rw [if_pos he, if_pos (by rw [he])]
    · rw [if_neg he, if_neg (fun e => he (dl_inj e))]
  obtain ⟨K, hK⟩ : ∃ K : Nat → Bool, K = fun j => ltL ((xs.map dl).drop j) ((ys.map dl).drop j) := ⟨_, rfl⟩
  have HEND : Hid (∀ j, (xs.length ≤ j ∨ ys.length ≤ j) → j ≤ xs.length ∧ j ≤ ys.length → K j = decide (xs.length < ys.length)) := by rw [hK]; exact HEND.out
  have HSTEP : Hid (∀ j, j < xs.length → j < ys.length → K j = if xs.getD j ⟨#[]⟩ = ys.getD j ⟨#[]⟩ then K (j + 1) else Op.bytesLess (xs.getD j ⟨#[]⟩).toList (ys.getD j ⟨#[]⟩).toList) := by rw [hK]; exact HSTEP.out
  have H0 : Hid (K 0 = r) := by rw [hK]; exact hr.out
  clear hK hr
  obtain ⟨n1, hn1⟩ : ∃ n, n = xs.length := ⟨_, rfl⟩
  obtain ⟨n2, hn2⟩ : ∃ n, n = ys.length := ⟨_, rfl⟩
  have HN1 : Hid (n1 = xs.length) := hn1
  have HN2 : Hid (n2 = ys.length) := hn2
  rw [← hn1] at HEND HSTEP L1
  rw [← hn2] at HEND HSTEP
  clear hn1 hn2
  go_enter Tryd.func45, Tryd.ntmps45
  go_wp2_with fail
  refine c1.mono ?_
  rintro e w1 ⟨v1, rfl, s1, b1⟩
  clear c1
  have S1 : Hid (SS w1 v1 xs) := s1
  have B1 : Hid (Below w.heap.size w w1) := b1
  have c2 := HT.out w1
  obtain ⟨a1, k1, rfl, kk1⟩ := s1.shape
  clear s1 b1 HT
  rw [← HN1.out] at S1 kk1 ⊢
  go_wp2_with fail
  refine c2.mono ?_
  rintro e w2 ⟨v2, rfl, s2, b2⟩
  clear c2
  have B2 : Hid (Below w.heap.size w w2) := B1.out.trans (b2.mono B1.out.size)
  have S2 : Hid (SS w2 v2 ys) := s2
  have S1 : Hid (SS w2 (.slice a1 n1 k1) xs) := S1.out.kept b2
  obtain ⟨a2, k2, rfl, kk2⟩ := s2.shape
  clear s2 b2 B1
  rw [← HN2.out] at S2 kk2 ⊢
  have l1 := L1.out
  go_wp2_with fail
  go_loopw [7] (fun q wr => ∃ j : Nat, j ≤ n1 ∧ j ≤ n2 ∧ q = .int .i64 j ∧ K j = r ∧ Below w2.heap.size w2 wr) (fun q _ => n1 - (intOf q).toNat)
  case atStart => exact ⟨0, by omega, by omega, rfl, H0.out, Below.refl _ _⟩
  case round =>
    obtain ⟨j, hj, hj2, rfl, ok, bel⟩ := hrel
    have OK : Hid (K j = r) := ok
    have BE : Hid (Below w2.heap.size w2 wr) := bel
    have B3 : Hid (Below w.heap.size w wr) := B2.out.trans (bel.mono B2.out.size)
    have S1 : Hid (SS wr (.slice a1 n1 k1) xs) := S1.out.kept bel
    have S2 : Hid (SS wr (.slice a2 n2 k2) ys) := S2.out.kept bel
    clear ok bel
    by_cases hlt : j < n1
    · have lt2 : (j : Int) < (n1 : Int) := by omega
      by_cases hlt2 : j < n2
      · have lt4 : (j : Int) < (n2 : Int) := by omega
        obtain ⟨b1, o1, rfl, hc1⟩ := S1.out.at j (by rw [← HN1.out]; exact hlt)
        obtain ⟨b2, o2, rfl, hc2⟩ := S2.out.at j (by rw [← HN2.out]; exact hlt2)
        have q1 : IntKind.i64.wrap ((j : Int) + 1) = ((j + 1 : Nat) : Int) := by simp [IntKind.wrap, IntKind.bits, IntKind.signed]; omega
        have ST : Hid (K j = if xs.getD j ⟨#[]⟩ = ys.getD j ⟨#[]⟩ then K (j + 1) else Op.bytesLess (xs.getD j ⟨#[]⟩).toList (ys.getD j ⟨#[]⟩).toList) := HSTEP.out j hlt hlt2
        clear HSTEP HEND
        generalize xs.getD j ⟨#[]⟩ = x at *
        generalize ys.getD j ⟨#[]⟩ = y at *
        by_cases he : x = y
        · subst he
          have NK : Hid (K (j + 1) = r) := by unfold Hid; rw [← OK.out, ST.out, if_pos rfl]
          clear ST OK
          go_wp2_with fail
          go_region
          go_wp2
          go_roundw
          case rel => exact ⟨j + 1, by omega, by omega, by go_num, NK.out, BE.out.drew⟩
          case measure => simp [intOf]; omega
        · have hr : Hid (Op.bytesLess x.toList y.toList = r) := by unfold Hid; rw [← OK.out, ST.out, if_neg he]
          have te : (x.toList == y.toList) = false := by rw [tl_beq]; simp [he]
          clear ST OK he
          go_wp2_with fail
          go_region
          go_wp2_with fail
          go_region
          go_wp2
          go_ret
          exact ⟨by rw [← hr.out]; rfl, B3.out.drew.drew⟩
      · have lt4 : ¬ (j : Int) < (n2 : Int) := by omega
        have hr : Hid (decide (n1 < n2) = r) := by unfold Hid; rw [← OK.out, HEND.out j (.inr (by omega)) ⟨hj, hj2⟩]
        clear HSTEP HEND OK
        go_wp2
        go_ret
        exact ⟨by rw [← hr.out]; rfl, B3.out⟩
    · obtain rfl : j = n1 := by omega
      have hr : Hid (decide (j < n2) = r) := by unfold Hid; rw [← OK.out, HEND.out j (.inl (by omega)) ⟨hj, hj2⟩]
      clear HSTEP HEND OK
      go_wp2
      go_ret
      exact ⟨by rw [← hr.out]; rfl, B3.out⟩
end Go.Proofs.YtdomknajkipmnaaDoor
