/-
  What Gaps answers; Collect, Spans, Has, Count.
-/
import Derived.Test.YtamjbmbflllbfaaAp
namespace Go.Proofs.Ytamjbmbflllbfaa
open Go.RowKit Go.Shelf
set_option maxRecDepth 100000

attribute [local go_sem] Oper.semAt_some

set_option maxHeartbeats 1000000 in
theorem mayBe_any (f t : Int) (w : World) : Calls Try.prog 57 #[.int .i64 f, .int .i64 t] w fun e w' => e = .returned (.bool (may f t)) ∧ w' = w := by
  have HM : Hid (may f t = (decide (0 ≤ f) && decide (f ≤ t) && decide (t ≤ 1099511627776))) := rfl
  generalize may f t = R at *
  by_cases h1 : 0 ≤ f
  · have d1 : decide (0 ≤ f) = true := by simpa using h1
    by_cases h2 : f ≤ t
    · have d2 : decide (f ≤ t) = true := by simpa using h2
      by_cases h3 : t ≤ 1099511627776
      · have d3 : decide (t ≤ 1099511627776) = true := by simpa using h3
        have HR : Hid (R = true) := by unfold Hid; rw [HM.out, d1, d2, d3]; rfl
        clear HM
        go_enter Try.func57, Try.ntmps57
        go_wp2
        go_ret
        exact ⟨by rw [HR.out]; rfl, rfl⟩
      · have d3 : decide (t ≤ 1099511627776) = false := by simpa using h3
        have HR : Hid (R = false) := by unfold Hid; rw [HM.out, d3, Bool.and_false]
        clear HM
        go_enter Try.func57, Try.ntmps57
        go_wp2
        go_ret
        exact ⟨by rw [HR.out]; rfl, rfl⟩
    · have d2 : decide (f ≤ t) = false := by simpa using h2
      have HR : Hid (R = false) := by unfold Hid; rw [HM.out, d2, Bool.and_false, Bool.false_and]
      clear HM
      go_enter Try.func57, Try.ntmps57
      go_wp2
      go_ret
      exact ⟨by rw [HR.out]; rfl, rfl⟩
  · have d1 : decide (0 ≤ f) = false := by simpa using h1
    have HR : Hid (R = false) := by unfold Hid; rw [HM.out, d1]; rfl
    clear HM
    go_enter Try.func57, Try.ntmps57
    go_wp2
    go_ret
    exact ⟨by rw [HR.out]; rfl, rfl⟩
/-- What Gaps has behind some spans. -/
def gs1 (s : List Sp × Int) (x : Sp) : List Sp × Int := (s.1 ++ (if s.2 < x.1 then [(s.2, x.1 - 1)] else []), x.2 + 1)
def gst (f : Int) (c : List Sp) : List Sp × Int := c.foldl gs1 ([], f)
theorem gst_gen (t : Int) : ∀ (c : List Sp) (a : List Sp) (f : Int), a ++ gap t f c = (c.foldl gs1 (a, f)).1 ++ (if (c.foldl gs1 (a, f)).2 ≤ t then [((c.foldl gs1 (a, f)).2, t)] else [])
  | [], a, f => rfl
  | x :: c, a, f => by
    rw [List.foldl_cons]
    unfold gap
    rw [← List.append_assoc]
    exact gst_gen t c _ _
theorem gst_gap (t f : Int) (c : List Sp) : gap t f c = (gst f c).1 ++ (if (gst f c).2 ≤ t then [((gst f c).2, t)] else []) := by
  have := gst_gen t c [] f
  rwa [List.nil_append] at this
theorem gst_snoc (f : Int) (c : List Sp) (x : Sp) : gst f (c ++ [x]) = gs1 (gst f c) x := by unfold gst; rw [List.foldl_append]; rfl
theorem gst_len (f : Int) (c : List Sp) : (gst f c).1.length ≤ c.length := by
  unfold gst
  suffices h : ∀ (c : List Sp) (s : List Sp × Int), (c.foldl gs1 s).1.length ≤ s.1.length + c.length by have := h c ([], f); simpa using this
  intro c
  induction c with
  | nil => intro s; simp
  | cons x c ih =>
    intro s
    rw [List.foldl_cons]
    have := ih (gs1 s x)
    have h2 : (gs1 s x).1.length ≤ s.1.length + 1 := by unfold gs1; simp only; rw [List.length_append]; split <;> simp
    rw [List.length_cons]
    omega
theorem BR.set {W : World} {k n₀ j : Nat} {vv u : Value} {l : List Sp} (h : BR W k n₀ vv l) (hj : j ≠ k) (hn : j < n₀) : BR (W.setCell ⟨j, 0, none⟩ u) k n₀ vv l :=
  ⟨by rw [Below.heap_setCell _ _ _ _ (fun e => hj e.symm)]; exact h.1, h.2.keep (fun i cs hi hh => by rw [Below.heap_setCell _ _ _ _ (fun e => by have e' : i = j := e; have := own_ge h.2 i hi; omega)]; exact hh)⟩
end Go.Proofs.Ytamjbmbflllbfaa
