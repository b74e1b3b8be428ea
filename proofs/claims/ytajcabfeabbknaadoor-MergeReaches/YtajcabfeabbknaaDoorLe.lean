/-
  What slices.Compare of texts and path.Less answer.
-/
import Derived.Test.YtajcabfeabbknaaDoorLs
namespace Go.Proofs.YtajcabfeabbknaaDoor
open Go.RowKit

theorem drop_at {α : Type} (X : List α) (d : α) (j : Nat) (h : j < X.length) : X.drop j = X.getD j d :: X.drop (j + 1) := by
  rw [List.drop_eq_getElem_cons h]
  simp [List.getD, h]
theorem cmpL_end (X Y : List (List UInt8)) : cmpL (X.drop X.length) (Y.drop X.length) = if X.length < Y.length then -1 else 0 := by
  rw [List.drop_length]
  by_cases h : X.length < Y.length
  · rw [if_pos h, drop_at Y [] _ h]
    rfl
  · rw [if_neg h, List.drop_of_length_le (by omega)]
    rfl
theorem cmpL_over (X Y : List (List UInt8)) (j : Nat) (h1 : j < X.length) (h2 : Y.length ≤ j) : cmpL (X.drop j) (Y.drop j) = 1 := by
  rw [drop_at X [] j h1, List.drop_of_length_le h2]
  rfl
theorem cmpL_step (X Y : List (List UInt8)) (j : Nat) (h1 : j < X.length) (h2 : j < Y.length) : cmpL (X.drop j) (Y.drop j) = if X.getD j [] = Y.getD j [] then cmpL (X.drop (j + 1)) (Y.drop (j + 1)) else cmpT (X.getD j []) (Y.getD j []) := by
  rw [drop_at X [] j h1, drop_at Y [] j h2, cmpL]
theorem cmpT_ne (x y : List UInt8) (h : x ≠ y) : cmpT x y ≠ 0 := by
  unfold cmpT
  split
  · decide
  · first | decide | (rw [if_neg h]; decide)
theorem cmpT_self (x : List UInt8) : cmpT x x = 0 := by unfold cmpT; rw [bl_irr]; simp
theorem dl_getD (xs : List ByteArray) (j : Nat) : (xs.map dl).getD j [] = dl (xs.getD j ⟨#[]⟩) := by
  by_cases h : j < xs.length
  · simp [List.getD, h]
  · simp [List.getD, List.getElem?_eq_none (show xs.length ≤ j by omega)]

set_option maxHeartbeats 1000000 in
theorem compare_any (v1 v2 : Value) (xs ys : List ByteArray) (w : World) (h1 : SS w v1 xs) (h2 : SS w v2 ys) (hl : xs.length ≤ 1000000000) :
    Calls Tryd.prog 74 #[v1, v2] w fun e w' => e = .returned (.int .i64 (cmpL (xs.map dl) (ys.map dl))) ∧ w' = w := by
  have HS1 : Hid (SS w v1 xs) := h1
  have HS2 : Hid (SS w v2 ys) := h2
  obtain ⟨a1, c1, rfl, k1⟩ := h1.shape
  obtain ⟨a2, c2, rfl, k2⟩ := h2.shape
  clear h1 h2
  have HEND : Hid (cmpL ((xs.map dl).drop xs.length) ((ys.map dl).drop xs.length) = if xs.length < ys.length then -1 else 0) := by
    have := cmpL_end (xs.map dl) (ys.map dl)
    unfold Hid
    simpa using this
  have HOVER : Hid (∀ j, j < xs.length → ys.length ≤ j → cmpL ((xs.map dl).drop j) ((ys.map dl).drop j) = 1) := fun j ha hb => cmpL_over _ _ j (by simpa using ha) (by simpa using hb)
  have HSTEP : Hid (∀ j, j < xs.length → j < ys.length → cmpL ((xs.map dl).drop j) ((ys.map dl).drop j) = if xs.getD j ⟨#[]⟩ = ys.getD j ⟨#[]⟩ then cmpL ((xs.map dl).drop (j + 1)) ((ys.map dl).drop (j + 1)) else cmpT (dl (xs.getD j ⟨#[]⟩)) (dl (ys.getD j ⟨#[]⟩))) := fun j ha hb => by
    have := cmpL_step (xs.map dl) (ys.map dl) j (by simpa using ha) (by simpa using hb)
    rw [dl_getD, dl_getD] at this
    rw [this]
    by_cases he : xs.getD j ⟨#[]⟩ = ys.getD j ⟨#[]⟩
    · rw [if_pos he, if_pos (by rw [he])]
    · rw [if_neg he, if_neg (fun e => he (dl_inj e))]
  have H0 : Hid (cmpL ((xs.map dl).drop 0) ((ys.map dl).drop 0) = cmpL (xs.map dl) (ys.map dl)) := rfl
  generalize cmpL (xs.map dl) (ys.map dl) = r at *
  obtain ⟨K, hK⟩ : ∃ K : Nat → Int, K = fun j => cmpL ((xs.map dl).drop j) ((ys.map dl).drop j) := ⟨_, rfl⟩
  have HEND : Hid (K xs.length = if xs.length < ys.length then -1 else 0) := by rw [hK]; exact HEND.out
  have HOVER : Hid (∀ j, j < xs.length → ys.length ≤ j → K j = 1) := by rw [hK]; exact HOVER.out
  have HSTEP : Hid (∀ j, j < xs.length → j < ys.length → K j = if xs.getD j ⟨#[]⟩ = ys.getD j ⟨#[]⟩ then K (j + 1) else cmpT (dl (xs.getD j ⟨#[]⟩)) (dl (ys.getD j ⟨#[]⟩))) := by rw [hK]; exact HSTEP.out
  have H0 : Hid (K 0 = r) := by rw [hK]; exact H0.out
  clear hK
  obtain ⟨n1, hn1⟩ : ∃ n, n = xs.length := ⟨_, rfl⟩
  obtain ⟨n2, hn2⟩ : ∃ n, n = ys.length := ⟨_, rfl⟩
  have HN1 : Hid (n1 = xs.length) := hn1
  have HN2 : Hid (n2 = ys.length) := hn2
  rw [← hn1] at HS1 HEND HOVER HSTEP k1 hl ⊢
  rw [← hn2] at HS2 HEND HOVER HSTEP k2 ⊢
  clear hn1 hn2
  go_enter Tryd.func74, Tryd.ntmps74
  go_wp2
  go_loop [11] (fun q => ∃ j : Nat, j ≤ n1 ∧ q = .int .i64 j ∧ K j = r) (fun q => n1 - (intOf q).toNat)
  case atStart => exact ⟨0, by omega, rfl, H0.out⟩
  case round =>
    obtain ⟨j, hj, rfl, ok⟩ := hrel
    have OK : Hid (K j = r) := ok
    clear ok
    by_cases hlt : j < n1
    · have lt2 : (j : Int) < (n1 : Int) := by omega
      obtain ⟨b1, o1, rfl, hc1⟩ := HS1.out.at j (by rw [← HN1.out]; exact hlt)
      have q1 : IntKind.i64.wrap ((j : Int) + 1) = ((j + 1 : Nat) : Int) := by simp [IntKind.wrap, IntKind.bits, IntKind.signed]; omega
      by_cases hlt2 : j < n2
      · have lt3 : ¬ (n2 : Int) ≤ (j : Int) := by omega
        have lt4 : (j : Int) < (n2 : Int) := by omega
        obtain ⟨b2, o2, rfl, hc2⟩ := HS2.out.at j (by rw [← HN2.out]; exact hlt2)
        have c := cmpT_any (xs.getD j ⟨#[]⟩) (ys.getD j ⟨#[]⟩) w
        have ST : Hid (K j = if xs.getD j ⟨#[]⟩ = ys.getD j ⟨#[]⟩ then K (j + 1) else cmpT (dl (xs.getD j ⟨#[]⟩)) (dl (ys.getD j ⟨#[]⟩))) := HSTEP.out j hlt hlt2
        clear HOVER HSTEP HEND
        generalize xs.getD j ⟨#[]⟩ = x at *
        generalize ys.getD j ⟨#[]⟩ = y at *
        by_cases he : x = y
        · subst he
          have NK : Hid (K (j + 1) = r) := by unfold Hid; rw [← OK.out, ST.out, if_pos rfl]
          rw [cmpT_self] at c
          clear ST OK
          go_wp2_with (go_at_call 80; refine c.mono ?_; rintro e w' ⟨rfl, rfl⟩)
          exact ⟨⟨j + 1, by omega, by go_num, NK.out⟩, by simp [intOf]; omega⟩
        · have hr : Hid (cmpT (dl x) (dl y) = r) := by unfold Hid; rw [← OK.out, ST.out, if_neg he]
          have t0 : (cmpT (dl x) (dl y) == 0) = false := by
            have := cmpT_ne (dl x) (dl y) (fun e => he (dl_inj e))
            simpa using this
          clear ST OK
          generalize cmpT (dl x) (dl y) = k at *
          go_wp2_with (go_at_call 80; refine c.mono ?_; rintro e w' ⟨rfl, rfl⟩)
          go_ret
          exact ⟨by rw [← hr.out]; rfl, rfl⟩
      · have lt3 : (n2 : Int) ≤ (j : Int) := by omega
        have hr : Hid (r = 1) := by unfold Hid; rw [← OK.out]; exact HOVER.out j hlt (by omega)
        clear HOVER HSTEP HEND OK
        generalize xs.getD j ⟨#[]⟩ = x at *
        go_wp2
        go_ret
        exact ⟨by rw [hr.out]; rfl, rfl⟩
    · obtain rfl : j = n1 := by omega
      have hr : Hid (r = if j < n2 then -1 else 0) := by unfold Hid; rw [← OK.out]; exact HEND.out
      clear HOVER HSTEP HEND OK
      by_cases h : j < n2
      · have hr2 : Hid (r = -1) := by unfold Hid; rw [hr.out, if_pos h]
        have h' : (j : Int) < (n2 : Int) := by omega
        clear hr
        go_wp2
        go_ret
        exact ⟨by rw [hr2.out]; rfl, rfl⟩
      · have hr2 : Hid (r = 0) := by unfold Hid; rw [hr.out, if_neg h]
        have h' : ¬ (j : Int) < (n2 : Int) := by omega
        clear hr
        go_wp2
        go_ret
        exact ⟨by rw [hr2.out]; rfl, rfl⟩

set_option maxHeartbeats 1000000 in
theorem less_any (s t : ByteArray) (w : World) (hm : Mx w) (hs : s.size ≤ 100000000) (ht : t.size ≤ 100000000) :
    Calls Tryd.prog 60 #[.string s, .string t] w fun e w' => e = .returned (.bool (les (dl s) (dl t))) ∧ Below w.heap.size w w' := by
  have c1 := split_any s w hm (by omega)
  have HT : Hid (∀ w, Mx w → Calls Tryd.prog 66 #[.string t] w fun e w' => ∃ v, e = .returned v ∧ SS w' v (sps t) ∧ Below w.heap.size w w') := fun w hm => split_any t w hm (by omega)
  have L1 : Hid ((sps s).length ≤ 1000000000) := by unfold Hid; have := spl_len (dl s); rw [sps_len]; rw [dl_len] at this; omega
  have hr : Hid (decide (cmpL ((sps s).map dl) ((sps t).map dl) < 0) = les (dl s) (dl t)) := by
    unfold Hid les
    rw [sps_dl, sps_dl, cmpL_lt]
  generalize les (dl s) (dl t) = r at *
  generalize sps s = xs at *
  generalize sps t = ys at *
  have HM : Hid (Mx w) := hm
  clear hm
  go_enter Tryd.func60, Tryd.ntmps60
  go_wp2_with fail
  refine c1.mono ?_
  rintro e w1 ⟨v1, rfl, s1, b1⟩
  clear c1
  have S1 : Hid (SS w1 v1 xs) := s1
  have B1 : Hid (Below w.heap.size w w1) := b1
  have c2 := HT.out w1 (HM.out.kept b1)
  obtain ⟨a1, k1, rfl, -⟩ := s1.shape
  clear s1 b1 HT
  obtain ⟨n1, hn1⟩ : ∃ n, n = xs.length := ⟨_, rfl⟩
  rw [← hn1] at S1 ⊢
  clear hn1
  go_wp2_with fail
  refine c2.mono ?_
  rintro e w2 ⟨v2, rfl, s2, b2⟩
  clear c2
  have B2 : Hid (Below w.heap.size w w2) := B1.out.trans (b2.mono B1.out.size)
  have c3 := compare_any _ v2 xs ys w2 (S1.out.kept b2) s2 L1.out
  obtain ⟨a2, k2, rfl, -⟩ := s2.shape
  clear s2 b2
  generalize cmpL (xs.map dl) (ys.map dl) = k at *
  obtain ⟨n2, hn2⟩ : ∃ n, n = ys.length := ⟨_, rfl⟩
  rw [← hn2] at c3 ⊢
  clear hn2
  go_wp2_with fail
  refine c3.mono ?_
  rintro e w3 ⟨rfl, rfl⟩
  clear c3
  go_wp2
  go_ret
  exact ⟨by rw [← hr.out]; rfl, B2.out⟩
end Go.Proofs.YtajcabfeabbknaaDoor
