/-
  What Size answers.
-/
import Derived.Test.YtdomknajkipmnaaDoorEn
namespace Go.Proofs.YtdomknajkipmnaaDoor
open Go.RowKit

theorem siz_succ (l : List En) (j : Nat) (h : j < l.length) : siz (l.take (j + 1)) = siz (l.take j) + (atE l j).z.length := by
  unfold siz
  rw [List.take_add_one, List.getElem?_eq_getElem h, List.map_append, List.sum_append, atE_eq l j h]
  simp
set_option maxHeartbeats 1000000 in
theorem size_any (v : Value) (l : List En) (w : World) (h : ES w v l) (hl : Lt l) :
    Calls Tryd.prog 12 #[v] w fun e w' => e = .returned (.int .i64 (siz l)) ∧ Below w.heap.size w w' := by
  obtain ⟨a, c, rfl, h2, h3, h4⟩ := h.shape
  have HS : Hid (ES w (.slice a l.length c) l) := h
  have HL : Hid (Lt l) := hl
  have hn := hl.1
  have HR : Hid (siz l = siz (l.take l.length)) := by unfold Hid; rw [List.take_length]
  have HZ : Hid (∀ j, siz (l.take j) ≤ j * 100000) := fun j => by
    induction j with
    | zero => simp [siz]
    | succ j ih =>
      by_cases hj : j < l.length
      · rw [siz_succ l j hj]
        have := (hl.at j).2
        omega
      · rw [List.take_of_length_le (by omega)]
        rw [List.take_of_length_le (by omega)] at ih
        exact Nat.le_trans ih (Nat.mul_le_mul_right _ (Nat.le_succ j))
  obtain ⟨n, hn'⟩ : ∃ n, n = l.length := ⟨_, rfl⟩
  have HN : Hid (n = l.length) := hn'
  rw [← hn'] at HS HR h2 hn ⊢
  generalize siz l = r at *
  clear h hl h3 h4 hn'
  go_enter Tryd.func12, Tryd.ntmps12
  go_wp2
  go_loopw [3, 8] (fun s q wr => ∃ j : Nat, j ≤ n ∧ q = .int .i64 j ∧ s = .int .i64 (siz (l.take j)) ∧ Below w.heap.size w wr) (fun _ q _ => n - (intOf q).toNat)
  case atStart => exact ⟨0, by omega, rfl, rfl, Below.refl _ _⟩
  case round =>
    obtain ⟨j, hj, rfl, rfl, bel⟩ := hrel
    have HB : Hid (Below w.heap.size w wr) := bel
    clear bel
    by_cases hlt : j < n
    · have lt2 : (j : Int) < (n : Int) := by omega
      obtain ⟨b, off, ua, un, uc, rfl, c1, c2, c3, hun, _⟩ := (HS.out.kept HB.out).at j (by rw [← HN.out]; exact hlt)
      have HU : Hid (siz (l.take (j + 1)) = siz (l.take j) + un) := by unfold Hid; rw [hun]; exact siz_succ l j (by rw [← HN.out]; exact hlt)
      have hz := HZ.out (j + 1)
      rw [HU.out] at hz
      have q1 : IntKind.i64.wrap ((j : Int) + 1) = ((j + 1 : Nat) : Int) := by simp [IntKind.wrap, IntKind.bits, IntKind.signed]; omega
      generalize siz (l.take j) = s at *
      generalize (atE l j).p = pp at *
      generalize (atE l j).d = dd at *
      clear hun
      go_wp2
      go_roundw
      case rel => exact ⟨j + 1, by omega, by go_num, by rw [HU.out]; go_num, ((HB.out.alloc HB.out.size _))⟩
      case measure => simp [intOf]; omega
    · obtain rfl : j = n := by omega
      go_wp2
      go_ret
      exact ⟨by rw [HR.out]; rfl, HB.out⟩
end Go.Proofs.YtdomknajkipmnaaDoor
