/-
  What sha.Less answers: whether the first byte in which two sums differ is the lesser one.
-/
import Derived.Test.YthcpnhafikojnaaDoorEq
import Derived.Deep.QuietTactic
import Derived.BigQuiet
namespace Go.Proofs.YthcpnhafikojnaaDoor
open Go.RowKit

/-- Whether bytes stand ahead of others. -/
def ltB : List Int → List Int → Bool
  | x :: xs, y :: ys => if x = y then ltB xs ys else decide (x < y)
  | _, _ => false
theorem ltB_self : ∀ l : List Int, ltB l l = false
  | [] => rfl
  | x :: xs => by unfold ltB; rw [if_pos rfl]; exact ltB_self xs
theorem ltB_at : ∀ (A B : List Int) (d : Nat), d < A.length → d < B.length → (∀ i, i < d → A.getD i 0 = B.getD i 0) → A.getD d 0 ≠ B.getD d 0 → ltB A B = decide (A.getD d 0 < B.getD d 0)
  | [], _, _, h, _, _, _ => by simp at h
  | _ :: _, [], _, _, h, _, _ => by simp at h
  | x :: xs, y :: ys, 0, _, _, _, hn => by
    have hn' : ¬ x = y := by simpa [List.getD] using hn
    show (if x = y then ltB xs ys else decide (x < y)) = _
    rw [if_neg hn']
    simp [List.getD]
  | x :: xs, y :: ys, d + 1, h1, h2, he, hn => by
    have h0 : x = y := by simpa [List.getD] using he 0 (by omega)
    show (if x = y then ltB xs ys else decide (x < y)) = _
    rw [if_pos h0]
    have := ltB_at xs ys d (by simpa using h1) (by simpa using h2) (fun i hi => by simpa [List.getD] using he (i + 1) (by omega)) (by simpa [List.getD] using hn)
    rw [this]
    rfl
theorem first_diff (A B : List Int) (hl : A.length = B.length) (hn : A ≠ B) : ∃ d, d < A.length ∧ (∀ i, i < d → A.getD i 0 = B.getD i 0) ∧ A.getD d 0 ≠ B.getD d 0 := by
  induction A generalizing B with
  | nil =>
    cases B with
    | nil => exact absurd rfl hn
    | cons y ys => simp at hl
  | cons x xs ih =>
    cases B with
    | nil => simp at hl
    | cons y ys =>
      by_cases h : x = y
      · subst h
        obtain ⟨d, h1, h2, h3⟩ := ih ys (by simpa using hl) (fun e => hn (by rw [e]))
        refine ⟨d + 1, by simpa using h1, fun i hi => ?_, by simpa [List.getD] using h3⟩
        match i with
        | 0 => rfl
        | i + 1 => simpa [List.getD] using h2 i (by omega)
      · exact ⟨0, by simp, fun i hi => by omega, by simpa [List.getD] using h⟩

set_option maxHeartbeats 2000000 in
set_option maxRecDepth 100000 in
theorem less_any (A B : List Int) (w : World) (hA : A.length = 32) (hB : B.length = 32) :
    Calls Tryd.prog 15 #[.agg (u8s A), .agg (u8s B)] w fun e w' => e = .returned (.bool (ltB A B)) ∧ Below w.heap.size w w' := by
  have G := Rows2.two w 26 (u8s A) (u8s B)
  obtain ⟨w0, hw0⟩ : ∃ w0, w0 = (w.alloc (.cells (u8s A) 26)).alloc (.cells (u8s B) 26) := ⟨_, rfl⟩
  have HW0 : Hid (w0 = (w.alloc (.cells (u8s A) 26)).alloc (.cells (u8s B) 26)) := hw0
  rw [← hw0] at G
  have hwz : (w.alloc (.cells (u8s A) 26)).alloc (.cells (u8s B) 26) = w0 := hw0.symm
  have HA : Hid (w0.heap[w.heap.size]? = some (.cells (u8s A) 26 (0, 0))) := G.1
  have HB : Hid (w0.heap[w.heap.size + 1]? = some (.cells (u8s B) 26 (0, 0))) := G.2.1
  have HE : Hid (Below w.heap.size w w0) := G.2.2
  have HIA : Hid ((Tryd.prog.info? 26).map (·.size) = some (u8s A).size) := by unfold Hid; rw [u8s_size, hA]; exact size26
  have HIB : Hid ((Tryd.prog.info? 26).map (·.size) = some (u8s B).size) := by unfold Hid; rw [u8s_size, hB]; exact size26
  have eq := fun w' => eq_u8s A B hA hB w'
  have HLA : Hid (A.length = 32) := hA
  have HLB : Hid (B.length = 32) := hB
  clear hw0 G hA hB
  by_cases h : A = B
  · have hb : (A == B) = true := by simp [h]
    rw [hb] at eq
    have HF : Hid (ltB A B = false) := by unfold Hid; rw [h]; exact ltB_self B
    clear h hb
    go_enter Tryd.func15, Tryd.ntmps15
    go_wp2_with (first
      | refine wpList_load_row rfl 26 (.tmp 2) rfl w.heap.size rfl 26 (u8s A) (0, 0) _ HA.out Tryd.underlying26 rfl HIA.out ?_
      | refine wpList_load_row rfl 26 (.tmp 3) rfl (w.heap.size + 1) rfl 26 (u8s B) (0, 0) _ HB.out Tryd.underlying26 rfl HIB.out ?_)
    go_ret
    exact ⟨by rw [HF.out]; rfl, HE.out⟩
  · have hb : (A == B) = false := by simp [h]
    rw [hb] at eq
    obtain ⟨d, d1, d2, d3⟩ := first_diff A B (by rw [HLA.out, HLB.out]) h
    rw [HLA.out] at d1
    have HF : Hid (ltB A B = decide (A.getD d 0 < B.getD d 0)) := ltB_at A B d (by rw [HLA.out]; exact d1) (by rw [HLB.out]; exact d1) d2 d3
    have D2 : Hid (∀ i, i < d → A.getD i 0 = B.getD i 0) := d2
    have D3 : Hid (A.getD d 0 ≠ B.getD d 0) := d3
    clear h hb d2 d3
    go_enter Tryd.func15, Tryd.ntmps15
    go_wp2_with (first
      | refine wpList_load_row rfl 26 (.tmp 2) rfl w.heap.size rfl 26 (u8s A) (0, 0) _ HA.out Tryd.underlying26 rfl HIA.out ?_
      | refine wpList_load_row rfl 26 (.tmp 3) rfl (w.heap.size + 1) rfl 26 (u8s B) (0, 0) _ HB.out Tryd.underlying26 rfl HIB.out ?_)
    go_loopw [5] (fun q wr => ∃ j m : Nat, j ≤ d ∧ q = .int .i64 j ∧ wr = w0.drewN m) (fun q _ => 40 - (intOf q).toNat)
    case atStart => exact ⟨0, 0, by omega, rfl, rfl⟩
    case round =>
      obtain ⟨j, m, hj, rfl, rfl⟩ := hrel
      have lt2 : (j : Int) < 32 := by omega
      have ka := (cell_of_row _ _ j _ _ _ HA.out).trans (u8s_get _ j (by rw [HLA.out]; omega))
      have kb := (cell_of_row _ _ j _ _ _ HB.out).trans (u8s_get _ j (by rw [HLB.out]; omega))
      by_cases hlt : j < d
      · have he := D2.out j hlt
        rw [← he] at kb
        generalize A.getD j 0 = x at *
        clear he
        go_wp2_with fail
        go_quiet (fail)
        go_wp2
        exact ⟨⟨j + 1, _, by omega, by go_num, rfl⟩, by simp [intOf]; omega⟩
      · obtain rfl : j = d := by omega
        have hne := D3.out
        have hd : decide (A.getD j 0 = B.getD j 0) = false := by simp only [decide_eq_false_iff_not]; exact hne
        have hd2 : (A.getD j 0 == B.getD j 0) = false := by simp only [beq_eq_false_iff_ne]; exact hne
        generalize A.getD j 0 = x at *
        generalize B.getD j 0 = y at *
        have HNE : Hid (x ≠ y) := hne
        clear hne
        go_wp2_with fail
        go_quiet (fail)
        go_wp2
        go_quiet (fail)
        go_wp2
        go_ret
        exact ⟨by rw [HF.out]; rfl, ⟨HE.out.os, HE.out.tape, HE.out.output, HE.out.size, HE.out.block⟩⟩
end Go.Proofs.YthcpnhafikojnaaDoor
