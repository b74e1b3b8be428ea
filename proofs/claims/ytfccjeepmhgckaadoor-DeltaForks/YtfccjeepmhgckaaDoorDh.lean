/-
  What without and From answer.
-/
import Derived.Test.YtfccjeepmhgckaaDoorDn
namespace Go.Proofs.YtfccjeepmhgckaaDoor
open Go.RowKit
set_option maxRecDepth 100000

theorem sl_from {w : World} {x : Addr} {un uc : Nat} {d : List Int} (h : Sl w (.slice (some x) un uc) d) (n : Nat) (hn : n ≤ un) : Sl w (.slice (some (x.add n)) (un - n) (uc - n)) (d.drop n) := by
  obtain ⟨a', c', e, h1, h2, h3, h4⟩ := id h
  cases e
  rcases Nat.eq_zero_or_pos (d.length - n) with h0 | h0
  · have e : d.drop n = [] := List.drop_of_length_le (by omega)
    rw [h0, e]
    exact ⟨_, uc - n, rfl, Nat.zero_le _, by omega, (fun e => by cases e), .inl rfl⟩
  · rcases h4 with h4 | ⟨hp, b, off, e, -⟩
    · omega
    · cases e
      rw [Addr.add_lit]
      exact h.drop n hn
set_option maxHeartbeats 4000000 in
theorem without_any (x : Xp) (n : Nat) (ua : Option Addr) (un uc : Nat) (w : World) (h : Sl w (.slice ua un uc) x.d) (hn : x.c = false → n ≤ x.d.length) (ha : x.c = true → 0 ≤ x.a ∧ x.a ≤ 1099511627776 ∧ 0 ≤ x.n ∧ x.n ≤ 9223372036854775807) (hnn : n ≤ 1099511627776) (hbig : x.d.length ≤ 1000000000) :
    Calls Tryd.prog 26 #[xval x ua un uc, .int .i64 n] w fun e w' => ∃ ua' uc', e = .returned (xval (wouX x n) ua' (wouX x n).d.length uc') ∧ Ow w' w.heap.size (.slice ua' (wouX x n).d.length uc') (wouX x n).d ∧ Below w.heap.size w w' := by
  obtain ⟨W2, hW2⟩ : ∃ W2, W2 = (w.alloc (.cells #[.bool x.c, .int .i64 x.a, .int .i64 x.n, .slice ua un uc] 46)).alloc (.cells zop 46) := ⟨_, rfl⟩
  have b2 : Below w.heap.size w W2 := by rw [hW2]; exact ((Below.refl _ _).alloc (Nat.le_refl _) _).alloc (by simp) _
  have g2 : W2.heap[w.heap.size]? = some (.cells #[.bool x.c, .int .i64 x.a, .int .i64 x.n, .slice ua un uc] 46 (0, 0)) := by
    rw [hW2]
    exact ((al_below (w.alloc (.cells #[.bool x.c, .int .i64 x.a, .int .i64 x.n, .slice ua un uc] 46)) _).block _ (by simp)).trans (heap_alloc_new _ _)
  have r2 : W2.heap[w.heap.size + 1]? = some (.cells zop 46 (0, 0)) := by
    rw [hW2]
    have := heap_alloc_new (w.alloc (.cells #[.bool x.c, .int .i64 x.a, .int .i64 x.n, .slice ua un uc] 46)) (.cells zop 46)
    simpa using this
  have s2 := h.kept b2
  obtain ⟨a', c', e, h1, h2, h3, -⟩ := id h
  cases e
  obtain ⟨y, hy⟩ : ∃ y, y = wouX x n := ⟨_, rfl⟩
  -- what is laid behind the bytes that are cut
  have FN : Hid (∀ W w5 v5, W.heap[w.heap.size]? = some (.cells #[.bool y.c, .int .i64 y.a, .int .i64 y.n, .slice ua x.d.length uc] 46 (0, 0)) → W.heap[w.heap.size + 1]? = some (.cells zop 46 (0, 0)) → Below w.heap.size w W → Ow w5 W.heap.size v5 y.d → Below W.heap.size W w5 →
      w5.heap[w.heap.size]? = some (.cells #[.bool y.c, .int .i64 y.a, .int .i64 y.n, .slice ua x.d.length uc] 46 (0, 0)) ∧ (w5.setCell ⟨w.heap.size, 3, none⟩ v5).heap[w.heap.size]? = some (.cells #[.bool y.c, .int .i64 y.a, .int .i64 y.n, v5] 46 (0, 0)) ∧ (w5.setCell ⟨w.heap.size, 3, none⟩ v5).heap[w.heap.size + 1]? = some (.cells zop 46 (0, 0)) ∧
      (st4 (w5.setCell ⟨w.heap.size, 3, none⟩ v5) (w.heap.size + 1) (.bool y.c) (.int .i64 y.a) (.int .i64 y.n) v5).heap[w.heap.size + 1]? = some (.cells #[.bool y.c, .int .i64 y.a, .int .i64 y.n, v5] 46 (0, 0)) ∧
      Ow (st4 (w5.setCell ⟨w.heap.size, 3, none⟩ v5) (w.heap.size + 1) (.bool y.c) (.int .i64 y.a) (.int .i64 y.n) v5) w.heap.size v5 y.d ∧ Below w.heap.size w (st4 (w5.setCell ⟨w.heap.size, 3, none⟩ v5) (w.heap.size + 1) (.bool y.c) (.int .i64 y.a) (.int .i64 y.n) v5)) := fun W w5 v5 gW rW bW o5 b5 => by
    have g5 := (b5.block _ (Array.getElem?_eq_some_iff.1 gW).1).trans gW
    have r5 := (b5.block _ (Array.getElem?_eq_some_iff.1 rW).1).trans rW
    have hc : ∀ q, q ≠ w.heap.size → (w5.setCell ⟨w.heap.size, 3, none⟩ v5).heap[q]? = w5.heap[q]? := fun q hq => heap_setCell_other _ _ _ _ hq
    have g6 : (w5.setCell ⟨w.heap.size, 3, none⟩ v5).heap[w.heap.size]? = some (.cells #[.bool y.c, .int .i64 y.a, .int .i64 y.n, v5] 46 (0, 0)) := by rw [heap_setCell_same _ _ _ _ _ _ g5]; rfl
    have r6 := (hc (w.heap.size + 1) (by omega)).trans r5
    have o6 := ow_off o5 hc g5 (by decide)
    refine ⟨g5, g6, r6, st4_block _ _ _ _ _ _ r6, (ow_off o6 (fun k hk => st4_other _ _ _ _ _ _ k hk) r6 (by decide)).mono bW.size, ?_⟩
    have b6 : Below w.heap.size w5 (w5.setCell ⟨w.heap.size, 3, none⟩ v5) := ⟨rfl, rfl, rfl, by simp [World.setCell], fun k hk => hc k (by omega)⟩
    exact ((bW.trans (b5.mono bW.size)).trans b6).trans (st4_below _ _ _ _ _ _ _ (by omega))
  rw [← hy]
  obtain ⟨nn, hnn2⟩ : ∃ nn, nn = y.d.length := ⟨_, rfl⟩
  have HNN : Hid (nn = y.d.length) := hnn2
  rw [← hnn2]
  clear hnn2
  obtain ⟨un, hun⟩ : ∃ un, un = x.d.length := ⟨_, rfl⟩
  have HUN : Hid (un = x.d.length) := hun
  rw [← hun] at hn h1 hbig FN g2 s2 hW2 h ⊢
  clear hun
  unfold xval
  cases hc : x.c with
  | true =>
    obtain ⟨a0, a1, n0, n1⟩ := ha hc
    have e1 : y = ⟨true, x.a + n, x.n - n, x.d⟩ := by rw [hy]; unfold wouX; rw [if_pos hc]
    have e2 : y.d = x.d := by rw [e1]
    have HCL : Hid (∀ W, Below w.heap.size w W → Calls Tryd.prog 18 #[.slice ua un uc] W fun r w' => ∃ v', r = .returned v' ∧ Ow w' W.heap.size v' y.d ∧ Below W.heap.size W w') := fun W hb => by rw [e2]; exact clone_ow _ _ W (h.kept hb) (by rw [← HUN.out]; omega)
    have w1 : wrap64 (x.a + n) = x.a + n := by unfold wrap64; omega
    have w2 : wrap64 (x.n - n) = x.n - n := by unfold wrap64; omega
    obtain ⟨W3, hW3⟩ : ∃ W3, W3 = (w.alloc (.cells #[.bool true, .int .i64 (x.a + n), .int .i64 (x.n - n), .slice ua un uc] 46)).alloc (.cells zop 46) := ⟨_, rfl⟩
    have b3 : Below w.heap.size w W3 := by rw [hW3]; exact ((Below.refl _ _).alloc (Nat.le_refl _) _).alloc (by simp) _
    have g3 : W3.heap[w.heap.size]? = some (.cells #[.bool true, .int .i64 (x.a + n), .int .i64 (x.n - n), .slice ua un uc] 46 (0, 0)) := by
      rw [hW3]
      exact ((al_below (w.alloc (.cells #[.bool true, .int .i64 (x.a + n), .int .i64 (x.n - n), .slice ua un uc] 46)) _).block _ (by simp)).trans (heap_alloc_new _ _)
    have r3 : W3.heap[w.heap.size + 1]? = some (.cells zop 46 (0, 0)) := by
      rw [hW3]
      have := heap_alloc_new (w.alloc (.cells #[.bool true, .int .i64 (x.a + n), .int .i64 (x.n - n), .slice ua un uc] 46)) (.cells zop 46)
      simpa using this
    have CL := HCL.out W3 b3
    have hya : y.a = x.a + n := by rw [e1]
    have hyn : y.n = x.n - n := by rw [e1]
    have hyc : y.c = true := by rw [e1]
    rw [hya, hyn, hyc] at FN ⊢
    have FN3 : Hid (∀ w5 v5, Ow w5 W3.heap.size v5 y.d → Below W3.heap.size W3 w5 → _) := fun w5 v5 o5 b5 => FN.out W3 w5 v5 g3 r3 b3 o5 b5
    clear hya hyn hyc FN HCL b3 g3 r3 hy e1 e2 b2 g2 r2 s2 h hW2 a0 a1 n0 n1 ha hn hc
    go_enter Tryd.func26, Tryd.ntmps26
    go_wp2_with fail
    rw [← hW3]
    clear hW3
    refine CL.mono ?_
    rintro e w5 ⟨v5, rfl, o5, b5⟩
    obtain ⟨g5, g6, r6, gz, oz, bz⟩ := FN3.out w5 v5 o5 b5
    obtain ⟨d0, d1, d2, d3⟩ := cell4 g5
    have f5 : ∀ i, w5.frozen? ⟨w.heap.size, i, none⟩ = false := fun _ => frozen_of_row _ _ _ _ _ g5
    obtain ⟨p0, p1, p2, p3⟩ := cell4 g6
    obtain ⟨q0, q1, q2, q3⟩ := cell4 r6
    have f6 : ∀ i, (w5.setCell ⟨w.heap.size, 3, none⟩ v5).frozen? ⟨w.heap.size + 1, i, none⟩ = false := fun _ => frozen_of_row _ _ _ _ _ r6
    have GZ : Hid ((st4 (w5.setCell ⟨w.heap.size, 3, none⟩ v5) (w.heap.size + 1) (.bool true) (.int .i64 (x.a + n)) (.int .i64 (x.n - n)) v5).heap[w.heap.size + 1]? = some (.cells #[.bool true, .int .i64 (x.a + n), .int .i64 (x.n - n), v5] 46 (0, 0))) := gz
    have OZ : Hid (Ow (st4 (w5.setCell ⟨w.heap.size, 3, none⟩ v5) (w.heap.size + 1) (.bool true) (.int .i64 (x.a + n)) (.int .i64 (x.n - n)) v5) w.heap.size v5 y.d) := oz
    have BZ : Hid (Below w.heap.size w (st4 (w5.setCell ⟨w.heap.size, 3, none⟩ v5) (w.heap.size + 1) (.bool true) (.int .i64 (x.a + n)) (.int .i64 (x.n - n)) v5)) := bz
    obtain ⟨a5, c5, rfl⟩ := o5.shape
    rw [← HNN.out] at GZ OZ BZ p0 p1 p2 p3 q0 q1 q2 q3 f6 ⊢
    clear g5 g6 r6 gz oz bz o5 b5 FN3 CL
    go_wp2
    rw [st4_eq]
    generalize st4 (w5.setCell ⟨w.heap.size, 3, none⟩ (.slice a5 nn c5)) (w.heap.size + 1) (.bool true) (.int .i64 (x.a + n)) (.int .i64 (x.n - n)) (.slice a5 nn c5) = WZ at *
    obtain ⟨z0, z1, z2, z3⟩ := cell4 GZ.out
    refine bodyPost_ret (v := .agg #[.bool true, .int .i64 (x.a + n), .int .i64 (x.n - n), .slice a5 nn c5]) ?h rfl ?_
    case h => simp [results, Tryd.results26, go_sem, z0, z1, z2, z3]
    exact ⟨a5, c5, rfl, OZ.out, BZ.out⟩
  | false =>
    have hn1 := hn hc
    have e1 : y = ⟨false, x.a, x.n, x.d.drop n⟩ := by rw [hy]; unfold wouX; rw [if_neg (by rw [hc]; simp), Int.toNat_natCast]
    have hya : y.a = x.a := by rw [e1]
    have hyn : y.n = x.n := by rw [e1]
    have hyc : y.c = false := by rw [e1]
    have hyd : y.d = x.d.drop n := by rw [e1]
    rw [hya, hyn, hyc] at FN ⊢
    rw [hc] at hW2 g2 
    have FN3 : Hid (∀ w5 v5, Ow w5 W2.heap.size v5 y.d → Below W2.heap.size W2 w5 → _) := fun w5 v5 o5 b5 => FN.out W2 w5 v5 g2 r2 b2 o5 b5
    have q1 : (n : Int) ≤ (uc : Int) := by omega
    have q2 : (0 : Int) ≤ (n : Int) := by omega
    have q3 : (n : Int) ≤ (un : Int) := by omega
    have q4 : (un : Int) ≤ (uc : Int) := by omega
    by_cases hcn : uc = n
    · have CL := clone_ow (.slice ua 0 0) [] W2 ⟨ua, 0, rfl, Nat.le_refl _, by unfold maxLen; omega, fun _ => rfl, .inl rfl⟩ (by simp)
      have e3 : y.d = [] := by rw [hyd]; exact List.drop_of_length_le (by rw [← HUN.out]; omega)
      rw [← e3] at CL
      have hW3 := hW2
      have hcn' : n = uc := hcn.symm
      have hun2 : n = un := by omega
      clear hya hyn hyc FN b2 g2 r2 hy e1 hyd e3 s2 h hW2 ha hn hc hcn
      subst hcn' 
      subst hun2
      go_enter Tryd.func26, Tryd.ntmps26
      go_wp2_with fail
      rw [← hW3]
      clear hW3
      refine CL.mono ?_
      rintro e w5 ⟨v5, rfl, o5, b5⟩
      obtain ⟨g5, g6, r6, gz, oz, bz⟩ := FN3.out w5 v5 o5 b5
      obtain ⟨d0, d1, d2, d3⟩ := cell4 g5
      have f5 : ∀ i, w5.frozen? ⟨w.heap.size, i, none⟩ = false := fun _ => frozen_of_row _ _ _ _ _ g5
      obtain ⟨p0, p1, p2, p3⟩ := cell4 g6
      obtain ⟨q0, q1, q2, q3⟩ := cell4 r6
      have f6 : ∀ i, (w5.setCell ⟨w.heap.size, 3, none⟩ v5).frozen? ⟨w.heap.size + 1, i, none⟩ = false := fun _ => frozen_of_row _ _ _ _ _ r6
      have GZ : Hid ((st4 (w5.setCell ⟨w.heap.size, 3, none⟩ v5) (w.heap.size + 1) (.bool false) (.int .i64 x.a) (.int .i64 x.n) v5).heap[w.heap.size + 1]? = some (.cells #[.bool false, .int .i64 x.a, .int .i64 x.n, v5] 46 (0, 0))) := gz
      have OZ : Hid (Ow (st4 (w5.setCell ⟨w.heap.size, 3, none⟩ v5) (w.heap.size + 1) (.bool false) (.int .i64 x.a) (.int .i64 x.n) v5) w.heap.size v5 y.d) := oz
      have BZ : Hid (Below w.heap.size w (st4 (w5.setCell ⟨w.heap.size, 3, none⟩ v5) (w.heap.size + 1) (.bool false) (.int .i64 x.a) (.int .i64 x.n) v5)) := bz
      obtain ⟨a5, c5, rfl⟩ := o5.shape
      rw [← HNN.out] at GZ OZ BZ p0 p1 p2 p3 q0 q1 q2 q3 f6 ⊢
      clear g5 g6 r6 gz oz bz o5 b5 FN3 CL
      go_wp2
      rw [st4_eq]
      generalize st4 (w5.setCell ⟨w.heap.size, 3, none⟩ (.slice a5 nn c5)) (w.heap.size + 1) (.bool false) (.int .i64 x.a) (.int .i64 x.n) (.slice a5 nn c5) = WZ at *
      obtain ⟨z0, z1, z2, z3⟩ := cell4 GZ.out
      refine bodyPost_ret (v := .agg #[.bool false, .int .i64 x.a, .int .i64 x.n, .slice a5 nn c5]) ?h rfl ?_
      case h => simp [results, Tryd.results26, go_sem, z0, z1, z2, z3]
      exact ⟨a5, c5, rfl, OZ.out, BZ.out⟩
    · obtain ⟨x1, rfl⟩ : ∃ x1, ua = some x1 := by
        cases ua with
        | none => have := h3 rfl; omega
        | some x => exact ⟨x, rfl⟩
      have CL := clone_ow _ _ W2 (sl_from s2 n hn1) (by rw [List.length_drop, ← HUN.out]; omega)
      rw [← hyd] at CL
      have hW3 := hW2
      clear hya hyn hyc FN b2 g2 r2 hy e1 hyd s2 h hW2 ha hn hc
      go_enter Tryd.func26, Tryd.ntmps26
      go_wp2_with fail
      rw [← hW3]
      clear hW3
      refine CL.mono ?_
      rintro e w5 ⟨v5, rfl, o5, b5⟩
      obtain ⟨g5, g6, r6, gz, oz, bz⟩ := FN3.out w5 v5 o5 b5
      obtain ⟨d0, d1, d2, d3⟩ := cell4 g5
      have f5 : ∀ i, w5.frozen? ⟨w.heap.size, i, none⟩ = false := fun _ => frozen_of_row _ _ _ _ _ g5
      obtain ⟨p0, p1, p2, p3⟩ := cell4 g6
      obtain ⟨q0, q1, q2, q3⟩ := cell4 r6
      have f6 : ∀ i, (w5.setCell ⟨w.heap.size, 3, none⟩ v5).frozen? ⟨w.heap.size + 1, i, none⟩ = false := fun _ => frozen_of_row _ _ _ _ _ r6
      have GZ : Hid ((st4 (w5.setCell ⟨w.heap.size, 3, none⟩ v5) (w.heap.size + 1) (.bool false) (.int .i64 x.a) (.int .i64 x.n) v5).heap[w.heap.size + 1]? = some (.cells #[.bool false, .int .i64 x.a, .int .i64 x.n, v5] 46 (0, 0))) := gz
      have OZ : Hid (Ow (st4 (w5.setCell ⟨w.heap.size, 3, none⟩ v5) (w.heap.size + 1) (.bool false) (.int .i64 x.a) (.int .i64 x.n) v5) w.heap.size v5 y.d) := oz
      have BZ : Hid (Below w.heap.size w (st4 (w5.setCell ⟨w.heap.size, 3, none⟩ v5) (w.heap.size + 1) (.bool false) (.int .i64 x.a) (.int .i64 x.n) v5)) := bz
      obtain ⟨a5, c5, rfl⟩ := o5.shape
      rw [← HNN.out] at GZ OZ BZ p0 p1 p2 p3 q0 q1 q2 q3 f6 ⊢
      clear g5 g6 r6 gz oz bz o5 b5 FN3 CL
      go_wp2
      rw [st4_eq]
      generalize st4 (w5.setCell ⟨w.heap.size, 3, none⟩ (.slice a5 nn c5)) (w.heap.size + 1) (.bool false) (.int .i64 x.a) (.int .i64 x.n) (.slice a5 nn c5) = WZ at *
      obtain ⟨z0, z1, z2, z3⟩ := cell4 GZ.out
      refine bodyPost_ret (v := .agg #[.bool false, .int .i64 x.a, .int .i64 x.n, .slice a5 nn c5]) ?h rfl ?_
      case h => simp [results, Tryd.results26, go_sem, z0, z1, z2, z3]
      exact ⟨a5, c5, rfl, OZ.out, BZ.out⟩
end Go.Proofs.YtfccjeepmhgckaaDoor
