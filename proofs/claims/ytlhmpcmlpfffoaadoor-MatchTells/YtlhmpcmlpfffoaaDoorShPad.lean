/-
  What sha.padding answers.
-/
import Derived.Test.YtlhmpcmlpfffoaaDoorShTold
namespace Go.Proofs.YtlhmpcmlpfffoaaDoor.Sh
open Go.RowKit
set_option maxRecDepth 100000

/-- The padding with its last j bytes laid. -/
def ppad (n j : Nat) : List Int := 128 :: (List.replicate (Pl.zers n + (8 - j)) 0 ++ (Pl.count n).drop (8 - j))
theorem count_len (n : Nat) : (Pl.count n).length = 8 := by unfold Pl.count; simp
theorem ppad_len (n j : Nat) (h : j ≤ 8) : (ppad n j).length = Pl.zers n + 9 := by
  unfold ppad
  simp [count_len]
  omega
theorem ppad_all (n : Nat) : ppad n 8 = Pl.pad n := by unfold ppad Pl.pad; simp
theorem ppad_zero (n : Nat) : ppad n 0 = 128 :: List.replicate (Pl.zers n + 8) 0 := by
  unfold ppad
  rw [List.drop_eq_nil_of_le (by rw [count_len]; omega)]
  simp
theorem ppad_set (n j : Nat) (h : j < 8) : (ppad n j).set (Pl.zers n + 8 - j) ((Pl.count n).getD (7 - j) 0) = ppad n (j + 1) := by
  unfold ppad
  have hc := count_len n
  generalize Pl.zers n = z
  generalize Pl.count n = c at *
  rw [show z + 8 - j = (z + (7 - j)) + 1 by omega, List.set_cons_succ, List.set_append_left _ _ (by simp; omega)]
  rw [show 8 - (j + 1) = 7 - j by omega, show z + (8 - j) = (z + (7 - j)) + 1 by omega, List.replicate_succ', List.set_append_right _ _ (by simp)]
  rw [List.drop_eq_getElem_cons (show 7 - j < c.length by omega), show 7 - j + 1 = 8 - j by omega]
  simp [List.getD, List.getElem?_eq_getElem (show 7 - j < c.length by omega)]
theorem count_get (n j : Nat) (h : j < 8) : (Pl.count n).getD (7 - j) 0 = (((n * 8 / 2 ^ (8 * j)) % 256 : Nat) : Int) := by
  unfold Pl.count
  have : ((List.range 8).map fun i => (((n * 8 / 2 ^ (8 * (7 - i))) % 256 : Nat) : Int)).getD (7 - j) 0 = (((n * 8 / 2 ^ (8 * (7 - (7 - j)))) % 256 : Nat) : Int) := by
    simp [List.getD, show 7 - j < 8 by omega]
  rw [this, show 7 - (7 - j) = j by omega]
theorem count_byte (n i : Nat) : 0 ≤ (Pl.count n).getD i 0 ∧ (Pl.count n).getD i 0 < 256 := by
  rcases Nat.lt_or_ge i 8 with h | h
  · have := count_get n (7 - i) (by omega)
    rw [show 7 - (7 - i) = i by omega] at this
    rw [this]
    have h2 := Nat.mod_lt (n * 8 / 2 ^ (8 * (7 - i))) (show 0 < 256 by omega)
    omega
  · rw [List.getD, List.getElem?_eq_none (by rw [count_len]; exact h)]; simp

set_option maxHeartbeats 1000000 in
set_option maxRecDepth 100000 in
theorem padding_any (n : Nat) (w : World) (hn : n ≤ 1000000000000000000) :
    Calls Tryd.prog 59 #[.int .i64 n] w fun e w' => e = .returned (.slice (some ⟨w.heap.size, 0, none⟩) (Pl.zers n + 9) (Pl.zers n + 9)) ∧ Sl w' (.slice (some ⟨w.heap.size, 0, none⟩) (Pl.zers n + 9) (Pl.zers n + 9)) (Pl.pad n) ∧ Below w.heap.size w w' := by
  obtain ⟨i0, hi, hz0, hz1, hz2⟩ := info_parts info5'
  obtain ⟨z, hz⟩ : ∃ z, z = Pl.zers n := ⟨_, rfl⟩
  have HZ : Hid (Pl.zers n = z) := hz.symm
  have hzd : z = (64 - (n % 64 + 9) % 64) % 64 := hz
  rw [← hz]
  have e1 : Int.tmod (n : Int) 64 = ((n % 64 : Nat) : Int) := by rw [Int.tmod_eq_emod_of_nonneg (by omega)]; omega
  have e2 : Int.tmod (((n % 64 : Nat) : Int) + 1 + 8) 64 = (((n % 64 + 9) % 64 : Nat) : Int) := by rw [Int.tmod_eq_emod_of_nonneg (by omega)]; omega
  have e3 : Int.tmod (64 - (((n % 64 + 9) % 64 : Nat) : Int)) 64 = (z : Int) := by rw [Int.tmod_eq_emod_of_nonneg (by omega)]; omega
  have hzl : z < 64 := by omega
  have hc8 : IntKind.u64.wrap ((n : Int) * 8) = ((n * 8 : Nat) : Int) := by rw [wrap64]; omega
  have hm1 : n % 64 < 64 := Nat.mod_lt _ (by omega)
  have hm2 : (n % 64 + 9) % 64 < 64 := Nat.mod_lt _ (by omega)
  clear hz hzd
  generalize hr : n % 64 = r at *
  generalize ho : (r + 9) % 64 = o at *
  clear hr ho
  go_enter Tryd.func59, Tryd.ntmps59
  go_wp2_with (at_make; refine wpList_make_full _ rfl _ _ 22 rfl w.heap.size 5 i0 (.int .u8 0) 1 Tryd.underlying22 hi hz0 hz1 .i64 .i64 _ _ (z + 9) rfl rfl (by congr 1; omega) (by congr 1; omega) (by rw [hz2]; omega) (by unfold maxLen; omega) (Nat.le_refl _) (Hid.out ?_))
  unfold Hid
  intro w1 own1 hgrow
  have b1 : Below w.heap.size w w1 := (Below.refl _ w).grown hgrow (Nat.le_refl _) (fun k hk => by cases hk)
  have hp1 : w1.heap[w.heap.size]? = some (.cells (u8s (List.replicate (z + 9) 0)) 5 (0, 0)) := by
    have e0 : (madeCells #[Value.int .u8 0] (z + 9)).toList = (List.replicate (z + 9) (0 : Int)).map (Value.int .u8) := by
      rw [toList_madeCells_one]
      simp
    rw [e0] at own1
    rcases own1.2 with ⟨hv, _⟩ | ⟨g', cap', cur', hv, hg', hh, hc', hm', hs', ht'⟩
    · cases hv
    · cases hv
      rw [hh]
      congr 2
      apply Array.ext'
      simp only [Nat.mul_one] at hs' ht'
      rw [List.take_of_length_le (by simp only [Array.length_toList]; omega)] at ht'
      rw [ht']
      simp [u8s]
  have BB : Hid (Below w.heap.size w w1) := b1
  have HP : Hid (w1.heap[w.heap.size]? = some (.cells (u8s (List.replicate (z + 9) 0)) 5 (0, 0))) := hp1
  have kc0 := (cell_of_row _ _ 0 _ _ _ hp1).trans (u8s_get _ 0 (by simp))
  have kf0 := frozen_of_row _ _ 0 _ _ hp1
  have HP0 : Hid ((w1.setCell ⟨w.heap.size, 0, none⟩ (.int .u8 128)).heap[w.heap.size]? = some (.cells (u8s (ppad n 0)) 5 (0, 0))) := by
    have := heap_setCell_same _ _ 0 _ _ (.int .u8 128) hp1
    rw [u8s_set] at this
    rw [ppad_zero, HZ.out]
    exact this
  have BB0 : Hid (Below w.heap.size w (w1.setCell ⟨w.heap.size, 0, none⟩ (.int .u8 128))) := b1.setCell (Nat.le_refl _) _
  generalize (List.replicate (z + 9) 0).getD 0 0 = old at *
  clear own1 hgrow b1 hp1 HP BB e1 e2 e3
  have lz : (0 : Int) < ((z + 9 : Nat) : Int) := by omega
  go_wp2_with fail
  clear kc0 kf0
  obtain ⟨c, hc⟩ : ∃ c, c = n * 8 := ⟨_, rfl⟩
  have HC : Hid (c = n * 8) := hc
  have hcl : c < 18446744073709551616 := by omega
  have e8 : (n : Int) * 8 = (c : Int) := by omega
  rw [e8]
  clear hc hc8 e8
  go_loopw [25] (fun i wr => ∃ j : Nat, j ≤ 8 ∧ i = .int .i64 j ∧ wr.heap[w.heap.size]? = some (.cells (u8s (ppad n j)) 5 (0, 0)) ∧ Below w.heap.size w wr) (fun i _ => 8 - (intOf i).toNat)
  case atStart => exact ⟨0, by omega, rfl, HP0.out, BB0.out⟩
  case round =>
    clear HP0 BB0
    obtain ⟨j, hj, rfl, g, b⟩ := hrel
    by_cases hlt : j < 8
    · have lt2 : (j : Int) < 8 := by omega
      have kf := frozen_of_row _ _ (z + 8 - j) _ _ g
      have kc := (cell_of_row _ _ (z + 8 - j) _ _ _ g).trans (u8s_get _ (z + 8 - j) (by rw [ppad_len _ _ hj, HZ.out]; omega))
      have NS : Hid ((wr.setCell ⟨w.heap.size, z + 8 - j, none⟩ (.int .u8 (c / 2 ^ (8 * j) % 256 : Nat))).heap[w.heap.size]? = some (.cells (u8s (ppad n (j + 1))) 5 (0, 0))) := by
        have := heap_setCell_same _ _ (z + 8 - j) _ _ (.int .u8 ((Pl.count n).getD (7 - j) 0)) g
        rw [u8s_set, ← HZ.out, ppad_set _ _ hlt, count_get _ _ hlt, HZ.out, ← HC.out] at this
        exact this
      have NB : Hid (Below w.heap.size w (wr.setCell ⟨w.heap.size, z + 8 - j, none⟩ (.int .u8 (c / 2 ^ (8 * j) % 256 : Nat)))) := b.setCell (Nat.le_refl _) _
      have q0 : IntKind.i64.wrap (((z + 9 : Nat) : Int) - 1) = ((z + 8 : Nat) : Int) := by simp [IntKind.wrap, IntKind.bits, IntKind.signed]; omega
      have q1 : IntKind.i64.wrap (((z + 8 : Nat) : Int) - (j : Int)) = ((z + 8 - j : Nat) : Int) := by simp [IntKind.wrap, IntKind.bits, IntKind.signed]; omega
      have q3 : IntKind.i64.wrap (8 * (j : Int)) = ((8 * j : Nat) : Int) := by simp [IntKind.wrap, IntKind.bits, IntKind.signed]; omega
      have s1 : (c : Int) / 2 ^ min (8 * j) 64 = ((c / 2 ^ (8 * j) : Nat) : Int) := by rw [Nat.min_eq_left (by omega)]; simp
      have s2 : ((c / 2 ^ (8 * j) : Nat) : Int) % 256 = ((c / 2 ^ (8 * j) % 256 : Nat) : Int) := by omega
      have t1 : ((z + 8 - j : Nat) : Int) < ((z + 9 : Nat) : Int) := by omega
      have t2 : z + 8 - j < z + 9 := by omega
      generalize c / 2 ^ (8 * j) % 256 = y at *
      generalize c / 2 ^ (8 * j) = yy at *
      generalize 8 * j = m8 at *
      generalize (ppad n j).getD (z + 8 - j) 0 = old2 at *
      generalize z + 8 - j = k at *
      generalize z + 8 = z8 at *
      generalize z + 9 = z9 at *
      clear g b HC
      go_wp2
      go_roundw
      case rel => exact ⟨j + 1, by omega, by go_num, NS.out, NB.out⟩
      case measure => simp [intOf]; omega
    · obtain rfl : j = 8 := by omega
      have HS : Hid (Sl wr (.slice (some ⟨w.heap.size, 0, none⟩) (z + 9) (z + 9)) (Pl.pad n)) := by
        have hl : (Pl.pad n).length = z + 9 := by rw [← ppad_all, ppad_len n 8 (by omega), HZ.out]
        rw [ppad_all] at g
        refine ⟨some ⟨w.heap.size, 0, none⟩, z + 9, by rw [hl], by omega, by unfold maxLen; omega, (fun h => by cases h), .inr ⟨by omega, w.heap.size, 0, rfl, by omega, by unfold maxLen; omega, fun i hi => ?_, ?_⟩⟩
        · rw [Nat.zero_add, cell_of_row _ _ _ _ _ _ g, u8s_get _ _ hi]
        · intro i
          unfold Pl.pad
          match i with
          | 0 => simp
          | i + 1 =>
            rw [List.getD_cons_succ]
            rcases Nat.lt_or_ge i (Pl.zers n) with h | h
            · simp [List.getD, List.getElem?_append_left, h]
            · rw [List.getD, List.getElem?_append_right (by simpa using h)]
              exact count_byte n _
      have HB : Hid (Below w.heap.size w wr) := b
      clear g b
      go_wp2
      go_ret
      exact ⟨rfl, HS.out, HB.out⟩
end Go.Proofs.YtlhmpcmlpfffoaaDoor.Sh
