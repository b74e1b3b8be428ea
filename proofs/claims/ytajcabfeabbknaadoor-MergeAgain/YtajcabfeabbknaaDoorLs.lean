/-
  What path.Kept, slices.Compare of texts and path.Less answer.
-/
import Derived.Test.YtajcabfeabbknaaDoorCk
namespace Go.Proofs.YtajcabfeabbknaaDoor
open Go.RowKit

theorem app126 (s : ByteArray) : s ++ ⟨#[126]⟩ = mk (dl s ++ [126]) := by
  conv => lhs; rw [← mk_dl s]
  exact mk_append _ _
theorem kep_nil : kep [] = [] := rfl
set_option maxHeartbeats 1000000 in
theorem kept_any (s : ByteArray) (w : World) (hm : Mx w) (hs : s.size < 4611686018427387904) :
    Calls Tryd.prog 16 #[.string s] w fun e w' => e = .returned (.string (mk (kep (dl s)))) ∧ Below w.heap.size w w' := by
  have hsz : (s ++ ⟨#[126]⟩ : ByteArray).size = s.size + 1 := by rw [ByteArray.size_append]; rfl
  by_cases h0 : s.toList = []
  · have hr : Hid (mk (kep (dl s)) = ⟨#[]⟩) := by
      unfold Hid
      rw [← tol, h0]
      rfl
    generalize mk (kep (dl s)) = r at *
    go_enter Tryd.func16, Tryd.ntmps16
    go_wp2
    go_ret
    exact ⟨by rw [hr.out]; rfl, Below.refl _ _⟩
  have t0 : s.toList.isEmpty = false := by simp [h0]
  have n0 : dl s ≠ [] := by rw [← tol]; exact h0
  have c := Tryd.strings_HasSuffix s ⟨#[126]⟩ w (by omega)
  have e : Hid (Lib.hasSuffix s.data.toList (⟨#[126]⟩ : ByteArray).data.toList = [126].isSuffixOf (dl s)) := rfl
  rw [e.out] at c
  clear e
  cases hsf : [126].isSuffixOf (dl s) with
  | true =>
    rw [hsf] at c
    have hr : Hid (mk (kep (dl s)) = ⟨#[]⟩) := by
      unfold Hid kep
      rw [if_pos (.inr (.inl hsf))]
      rfl
    generalize mk (kep (dl s)) = r at *
    clear h0 hsf n0
    go_enter Tryd.func16, Tryd.ntmps16
    go_wp2_with (go_at_call 45; refine c.mono ?_; rintro e w' ⟨rfl, rfl⟩)
    go_ret
    exact ⟨by rw [hr.out]; rfl, Below.refl _ _⟩
  | false =>
    rw [hsf] at c
    have c2 := check_any (s ++ ⟨#[126]⟩) w hm (by rw [hsz]; unfold maxLen; omega)
    rw [app126, dl_mk, ← app126] at c2
    by_cases hk : chk (dl s ++ [126]) = 0
    · have hr : Hid (mk (kep (dl s)) = s ++ ⟨#[126]⟩) := by
        unfold Hid kep
        rw [if_neg, app126]
        rintro (h | h | h)
        · exact n0 h
        · rw [hsf] at h; cases h
        · exact h hk
      rw [hk] at c2
      generalize mk (kep (dl s)) = r at *
      generalize hS : s ++ ⟨#[126]⟩ = S at *
      clear h0 hsf n0 hk
      go_enter Tryd.func16, Tryd.ntmps16
      go_wp2_with (first
        | (go_at_call 45; refine c.mono ?_; rintro e w' ⟨rfl, rfl⟩)
        | (go_at_call 46; refine c2.mono ?_; rintro e w' ⟨rfl, b2⟩))
      go_ret
      exact ⟨by rw [hr.out]; rfl, b2⟩
    · have hr : Hid (mk (kep (dl s)) = ⟨#[]⟩) := by
        unfold Hid kep
        rw [if_pos (.inr (.inr hk))]
        rfl
      have t4 : (chk (dl s ++ [126]) == 0) = false := by simp [hk]
      generalize mk (kep (dl s)) = r at *
      generalize chk (dl s ++ [126]) = k at *
      generalize hS : s ++ ⟨#[126]⟩ = S at *
      clear h0 hsf n0
      go_enter Tryd.func16, Tryd.ntmps16
      go_wp2_with (first
        | (go_at_call 45; refine c.mono ?_; rintro e w' ⟨rfl, rfl⟩)
        | (go_at_call 46; refine c2.mono ?_; rintro e w' ⟨rfl, b2⟩))
      go_ret
      exact ⟨by rw [hr.out]; rfl, b2⟩

set_option maxHeartbeats 1000000 in
theorem nan_any (s : ByteArray) (w : World) :
    Calls Tryd.prog 85 #[.string s] w fun e w' => e = .returned (.bool false) ∧ w' = w := by
  go_enter Tryd.func85, Tryd.ntmps85
  go_wp2
  go_ret
  exact ⟨rfl, rfl⟩
set_option maxHeartbeats 1000000 in
theorem cmpT_any (s t : ByteArray) (w : World) :
    Calls Tryd.prog 80 #[.string s, .string t] w fun e w' => e = .returned (.int .i64 (cmpT (dl s) (dl t))) ∧ w' = w := by
  have c1 := nan_any s w
  have c2 := nan_any t w
  cases hb : Op.bytesLess s.toList t.toList with
  | true =>
    have hr : Hid (cmpT (dl s) (dl t) = -1) := by unfold Hid cmpT; rw [← tol, ← tol, hb]; rfl
    generalize cmpT (dl s) (dl t) = r at *
    go_enter Tryd.func80, Tryd.ntmps80
    go_wp2_with (first | (go_at_call_of 85 (Value.string s); refine c1.mono ?_; rintro e w' ⟨rfl, rfl⟩) | (go_at_call_of 85 (Value.string t); refine c2.mono ?_; rintro e w' ⟨rfl, rfl⟩))
    go_ret
    exact ⟨by rw [hr.out]; rfl, rfl⟩
  | false =>
    by_cases he : s = t
    · subst he
      have hr : Hid (cmpT (dl s) (dl s) = 0) := by unfold Hid cmpT; rw [bl_irr]; simp
      generalize cmpT (dl s) (dl s) = r at *
      go_enter Tryd.func80, Tryd.ntmps80
      go_wp2_with (go_at_call 85; refine c1.mono ?_; rintro e w' ⟨rfl, rfl⟩)
      go_ret
      exact ⟨by rw [hr.out]; rfl, rfl⟩
    · have te : (s.toList == t.toList) = false := by rw [tl_beq]; simp [he]
      have hr : Hid (cmpT (dl s) (dl t) = 1) := by
        unfold Hid cmpT
        rw [← tol, ← tol, hb, if_neg (by simp), if_neg]
        rw [tol, tol]
        exact fun e => he (dl_inj e)
      generalize cmpT (dl s) (dl t) = r at *
      go_enter Tryd.func80, Tryd.ntmps80
      go_wp2_with (first | (go_at_call_of 85 (Value.string s); refine c1.mono ?_; rintro e w' ⟨rfl, rfl⟩) | (go_at_call_of 85 (Value.string t); refine c2.mono ?_; rintro e w' ⟨rfl, rfl⟩))
      go_ret
      exact ⟨by rw [hr.out]; rfl, rfl⟩
end Go.Proofs.YtajcabfeabbknaaDoor
