/-
  What Byte and Text of the document's Reader answer, for whatever bytes are left and whatever error it bears.
-/
import Derived.Test.YtmlnocjljhhmdaaDoorRRd
namespace Go.Proofs.YtmlnocjljhhmdaaDoor
open Go.RowKit

set_option maxHeartbeats 1000000 in
theorem rbyte_stop (a : Option Addr) (n c : Nat) (e : Int) (w : World) (he : e ≠ 0) :
    Calls Tryd.prog 22 #[.agg #[.slice a n c, .int .i64 e]] w fun r w' => r = .returned (.tuple #[.agg #[.slice a n c, .int .i64 e], .int .u8 0]) ∧ Below w.heap.size w w' := by
  have hne : (e != 0) = true := by simpa using he
  have B2 : Below w.heap.size w ((w.alloc (.cells #[.slice a n c, .int .i64 e] 35)).alloc (.cells #[.slice none 0 0, .int .i64 0] 35)) := ((Below.refl _ _).alloc (Nat.le_refl _) _).alloc (by simp) _
  have cr := rraw_stop a n c e 1 ((w.alloc (.cells #[.slice a n c, .int .i64 e] 35)).alloc (.cells #[.slice none 0 0, .int .i64 0] 35)) he
  go_enter Tryd.func22, Tryd.ntmps22
  go_wp2_with fail
  refine cr.mono ?_
  rintro r w1 ⟨rfl, bel1⟩
  clear cr
  have B1 := bnext B2 bel1 B2.size
  obtain ⟨c0, c1, f0, f1⟩ := new_two (w.alloc (.cells #[.slice a n c, .int .i64 e] 35)) _ _ w1 (bel1.mono (by simp))
  have hz : (w.alloc (.cells #[.slice a n c, .int .i64 e] 35)).heap.size = w.heap.size + 1 := by simp
  have hz2 : w.heap.size + 1 < w1.heap.size := by have := bel1.size; simp at this; omega
  have hz3 : w.heap.size + 1 ≠ w1.heap.size := by omega
  rw [hz] at c0 c1 f0 f1
  clear hz bel1 B2
  go_wp2
  refine bodyPost_ret (v := .tuple #[.agg #[.slice a n c, .int .i64 e], .int .u8 0]) (by simp [results, Tryd.results22, go_sem, *]) rfl ⟨rfl, ?_⟩
  exact ((B1.setCell (by simp) _).setCell (by simp) _).alloc (by have := B1.size; simp [World.setCell]; omega) _

set_option maxHeartbeats 1000000 in
theorem rbyte_any (a : Option Addr) (cap : Nat) (xs : List Int) (w : World) (h : Rv w (.slice a xs.length cap) xs) :
    Calls Tryd.prog 22 #[.agg #[.slice a xs.length cap, .int .i64 0]] w fun r w' =>
      ∃ v', r = .returned (.tuple #[.agg #[v', .int .i64 (raE xs 1)], .int .u8 (byV xs)]) ∧ (∀ W, Rv W (.slice a xs.length cap) xs → Rv W v' (xs.drop (raN xs 1))) ∧ Below w.heap.size w w' := by
  have hby := h.bytes
  have B2 : Below w.heap.size w ((w.alloc (.cells #[.slice a xs.length cap, .int .i64 0] 35)).alloc (.cells #[.slice none 0 0, .int .i64 0] 35)) := ((Below.refl _ _).alloc (Nat.le_refl _) _).alloc (by simp) _
  have cr := rraw_any a cap xs 1 _ (h.kept B2)
  have HX : Hid ((raE xs 1 = 3 ∧ byV xs = 0 ∧ strB (xs.take (raN xs 1)) = ⟨#[]⟩) ∨ (raE xs 1 = 0 ∧ ∃ x : Nat, x < 256 ∧ byV xs = x ∧ strB (xs.take (raN xs 1)) = ⟨#[UInt8.ofNat x]⟩)) := by
    cases xs with
    | nil => exact .inl ⟨by decide, rfl, rfl⟩
    | cons x l =>
      have e2 : raE (x :: l) 1 = 0 := by unfold raE; rw [if_neg (by decide), if_neg (by simp; omega)]
      have e1 : raN (x :: l) 1 = 1 := by unfold raN; rw [if_pos e2]; rfl
      have hx : 0 ≤ x ∧ x < 256 := by simpa using hby 0
      refine .inr ⟨e2, x.toNat, by omega, ?_, ?_⟩
      · show x = _; omega
      · rw [e1]; simp [strB]
  have hz : (w.alloc (.cells #[.slice a xs.length cap, .int .i64 0] 35)).heap.size = w.heap.size + 1 := by simp
  have HW : Hid (Rv w (.slice a xs.length cap) xs) := h
  clear hby h
  generalize xs.drop (raN xs 1) = D at *
  generalize strB (xs.take (raN xs 1)) = T at *
  generalize raE xs 1 = E at *
  generalize byV xs = V at *
  generalize xs.length = len at *
  go_enter Tryd.func22, Tryd.ntmps22
  go_wp2_with fail
  refine cr.mono ?_
  rintro r w1 ⟨v1, rfl, rv1, bel1⟩
  clear cr
  have B1 := bnext B2 bel1 B2.size
  obtain ⟨c0, c1, f0, f1⟩ := new_two (w.alloc (.cells #[.slice a len cap, .int .i64 0] 35)) _ _ w1 (bel1.mono (by simp))
  have hz2 : w.heap.size + 1 < w1.heap.size := by have := bel1.size; simp at this; omega
  have hz3 : w.heap.size + 1 ≠ w1.heap.size := by omega
  rw [hz] at c0 c1 f0 f1
  have HR : Hid (∀ W, Rv W (.slice a len cap) xs → Rv W v1 D) := rv1
  obtain ⟨a1, cap1, rfl, _⟩ := rv1 _ HW.out
  clear hz bel1 B2
  generalize D.length = dl at *
  rcases HX.out with ⟨rfl, rfl, rfl⟩ | ⟨rfl, x, hx, rfl, rfl⟩
  · clear HX
    go_wp2
    refine bodyPost_ret (v := .tuple #[.agg #[.slice a1 dl cap1, .int .i64 3], .int .u8 0]) (by simp [results, Tryd.results22, go_sem, *]) rfl ⟨_, rfl, HR.out, ?_⟩
    exact ((B1.setCell (by simp) _).setCell (by simp) _).alloc (by have := B1.size; simp [World.setCell]; omega) _
  · clear HX
    have hbx : (UInt8.ofNat x).toNat = x := by rw [UInt8.toNat_ofNat']; omega
    go_wp2
    go_region
    all_goals
      go_wp2
      refine bodyPost_ret (v := .tuple #[.agg #[.slice a1 dl cap1, .int .i64 0], .int .u8 x]) (by simp [results, Tryd.results22, go_sem, *]; exact congrArg Nat.cast hbx) rfl ⟨_, rfl, HR.out, ?_⟩
      exact (((B1.setCell (by simp) _).setCell (by simp) _).alloc (by have := B1.size; simp [World.setCell]; omega) _).drew
end Go.Proofs.YtmlnocjljhhmdaaDoor
