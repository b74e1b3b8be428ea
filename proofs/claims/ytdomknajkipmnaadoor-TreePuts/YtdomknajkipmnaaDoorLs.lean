/-
  What path.Kept, slices.Compare of texts and path.Less answer.
-/
import Derived.Test.YtdomknajkipmnaaDoorCk
namespace Go.Proofs.YtdomknajkipmnaaDoor
open Go.RowKit

theorem app126 (s : ByteArray) : s ++ ⟨#[126]⟩ = mk (dl s ++ [126]) := by
  conv => lhs; rw [← mk_dl s]
  exact mk_append _ _
theorem kep_nil : kep [] = [] := rfl
set_option maxHeartbeats 1000000 in
theorem nan_any (s : ByteArray) (w : World) :
    Calls Tryd.prog 66 #[.string s] w fun e w' => e = .returned (.bool false) ∧ w' = w := by
  go_enter Tryd.func66, Tryd.ntmps66
  go_wp2
  go_ret
  exact ⟨rfl, rfl⟩
set_option maxHeartbeats 1000000 in
theorem cmpT_any (s t : ByteArray) (w : World) :
    Calls Tryd.prog 60 #[.string s, .string t] w fun e w' => e = .returned (.int .i64 (cmpT (dl s) (dl t))) ∧ w' = w := by
  have c1 := nan_any s w
  have c2 := nan_any t w
  cases hb : Op.bytesLess s.toList t.toList with
  | true =>
    have hr : Hid (cmpT (dl s) (dl t) = -1) := by unfold Hid cmpT; rw [← tol, ← tol, hb]; rfl
    generalize cmpT (dl s) (dl t) = r at *
    go_enter Tryd.func60, Tryd.ntmps60
    go_wp2_with (first | (go_at_call_of 66 (Value.string s); refine c1.mono ?_; rintro e w' ⟨rfl, rfl⟩) | (go_at_call_of 66 (Value.string t); refine c2.mono ?_; rintro e w' ⟨rfl, rfl⟩))
    go_ret
    exact ⟨by rw [hr.out]; rfl, rfl⟩
  | false =>
    by_cases he : s = t
    · subst he
      have hr : Hid (cmpT (dl s) (dl s) = 0) := by unfold Hid cmpT; rw [bl_irr]; simp
      generalize cmpT (dl s) (dl s) = r at *
      go_enter Tryd.func60, Tryd.ntmps60
      go_wp2_with (go_at_call 66; refine c1.mono ?_; rintro e w' ⟨rfl, rfl⟩)
      go_ret
      exact ⟨by rw [hr.out]; rfl, rfl⟩
    · have te : (s.toList == t.toList) = false := by rw [tl_beq]; simp [he]
      have hr : Hid (cmpT (dl s) (dl t) = 1) := by
        unfold Hid cmpT
        rw [← tol, ← tol, hb, if_neg (by simp), if_neg]
        rw [tol, tol]
        exact fun e => he (dl_inj e)
      generalize cmpT (dl s) (dl t) = r at *
      go_enter Tryd.func60, Tryd.ntmps60
      go_wp2_with (first | (go_at_call_of 66 (Value.string s); refine c1.mono ?_; rintro e w' ⟨rfl, rfl⟩) | (go_at_call_of 66 (Value.string t); refine c2.mono ?_; rintro e w' ⟨rfl, rfl⟩))
      go_ret
      exact ⟨by rw [hr.out]; rfl, rfl⟩
end Go.Proofs.YtdomknajkipmnaaDoor
