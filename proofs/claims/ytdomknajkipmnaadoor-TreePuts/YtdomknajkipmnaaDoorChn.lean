/-
  What Children answers.
-/
import Derived.Test.YtdomknajkipmnaaDoorCe
import Derived.Test.YtdomknajkipmnaaDoorFl
namespace Go.Proofs.YtdomknajkipmnaaDoor
open Go.RowKit

theorem infoS : (Tryd.prog.info? 9).map (fun i => (i.zero, i.size, i.bytes)) = some (some (.string ByteArray.empty), 1, 16) := by kernel_rfl
/-- Texts in a row of the call's own. -/
def OS (w : World) (B : Nat) (v : Value) (xs : List ByteArray) : Prop := w.ownsRow B 9 1 v xs.length (xs.map Value.string)
theorem OS.nil (w : World) (B : Nat) : OS w B (.slice none 0 0) [] := ⟨rfl, .inl ⟨rfl, rfl⟩⟩
theorem OS.ss {w : World} {B : Nat} {v : Value} {xs : List ByteArray} (h : OS w B v xs) : SS w v xs := by
  have h' := h
  rcases h.2 with ⟨rfl, h2⟩ | ⟨g, cap, cur, rfl, hg, hh, hl, r⟩
  · obtain rfl : xs = [] := List.length_eq_zero_iff.1 h2
    exact SS.nil w
  · refine ⟨_, cap, rfl, hl, .inr ⟨g, 0, rfl, fun i x hx => ?_⟩⟩
    have := h'.cells (g := g) rfl i (.string x) (by rw [List.getElem?_map, hx]; rfl)
    rwa [Addr.add_lit] at this
theorem chi_next (l : List En) (q : List UInt8) (j : Nat) (h : j < l.length) : chi (l.take (j + 1)) q = if par (atE l j).k = q then chi (l.take j) q ++ [(atE l j).p] else chi (l.take j) q := by
  unfold chi
  rw [List.take_add_one, List.getElem?_eq_getElem h, List.filter_append, List.map_append, atE_eq l j h]
  by_cases hb : par (l[j]).k = q
  · rw [if_pos hb]; simp [hb]
  · rw [if_neg hb]; simp [hb]
theorem chi_len (l : List En) (q : List UInt8) (j : Nat) : (chi (l.take j) q).length ≤ l.length := by
  unfold chi
  rw [List.length_map]
  have h1 := List.length_filter_le (fun y : En => decide (par y.k = q)) (l.take j)
  rw [List.length_take] at h1
  omega

set_option maxHeartbeats 2000000 in
theorem children_any (v : Value) (l : List En) (q : ByteArray) (w : World) (h : ES w v l) (hl : Lt l) :
    Calls Tryd.prog 21 #[v, .string q] w fun e w' => ∃ v', e = .returned v' ∧ SS w' v' (chi l (dl q)) ∧ Below w.heap.size w w' := by
  obtain ⟨i9, hi, hz0, hz1, hz2⟩ := info_parts infoS
  obtain ⟨a, c, rfl, h2, h3, h4⟩ := h.shape
  have HS : Hid (ES w (.slice a l.length c) l) := h
  have HL : Hid (Lt l) := hl
  have hn := hl.1
  have HC9 : Hid (∀ j, (chi (l.take j) (dl q)).length ≤ 100) := fun j => Nat.le_trans (chi_len l (dl q) j) hl.1
  have HNX : Hid (∀ j, j < l.length → chi (l.take (j + 1)) (dl q) = if par (atE l j).k = dl q then chi (l.take j) (dl q) ++ [(atE l j).p] else chi (l.take j) (dl q)) := fun j hj => chi_next l (dl q) j hj
  have CI := isIn_any q w
  obtain ⟨n, hn'⟩ : ∃ n, n = l.length := ⟨_, rfl⟩
  have HN : Hid (n = l.length) := hn'
  rw [← hn'] at HS HNX h2 hn ⊢
  clear h hl h3 h4 hn'
  go_enter Tryd.func21, Tryd.ntmps21
  go_wp2_with fail
  refine CI.mono ?_
  rintro e w1 ⟨g, rfl, hg, b1⟩
  have B1 : Hid (Below w.heap.size w w1) := b1
  have HG : Hid (∀ W, Below w1.heap.size w1 W → W.cell? ⟨g, 0, none⟩ = some (.string q)) := fun W hb => (hb.cell (World.block_lt_of_cell? _ _ hg)).trans hg
  have S1 : Hid (ES w1 (.slice a n c) l) := HS.out.kept b1
  clear b1 hg CI HS
  go_wp2_with fail
  go_loopw [6, 13] (fun s q1 wr => ∃ j : Nat, j ≤ n ∧ q1 = .int .i64 j ∧ OS wr w1.heap.size s (chi (l.take j) (dl q)) ∧ Below w1.heap.size w1 wr) (fun _ q1 _ => n - (intOf q1).toNat)
  case atStart => exact ⟨0, by omega, rfl, OS.nil _ _, Below.refl _ _⟩
  case round =>
    obtain ⟨j, hj, rfl, os, bel⟩ := hrel
    have HB : Hid (Below w1.heap.size w1 wr) := bel
    have HO : Hid (OS wr w1.heap.size u6 (chi (l.take j) (dl q))) := os
    obtain ⟨va, vc, rfl⟩ := own_shape os
    obtain ⟨nv, hnv⟩ : ∃ nv, nv = (chi (l.take j) (dl q)).length := ⟨_, rfl⟩
    have HJ : Hid (nv = (chi (l.take j) (dl q)).length) := hnv
    have hj9 : nv ≤ 100 := by rw [hnv]; exact HC9.out j
    rw [← hnv] at HO ⊢
    clear bel os hnv
    by_cases hlt : j < n
    · have lt2 : (j : Int) < (n : Int) := by omega
      obtain ⟨b, off, ua, un, uc, rfl, c1, c2, c3, hun, hsl⟩ := (S1.out.kept HB.out).at j (by rw [← HN.out]; exact hlt)
      have q1 : IntKind.i64.wrap ((j : Int) + 1) = ((j + 1 : Nat) : Int) := by simp [IntKind.wrap, IntKind.bits, IntKind.signed]; omega
      have HT : Hid (chi (l.take (j + 1)) (dl q) = if par (atE l j).k = dl q then chi (l.take j) (dl q) ++ [(atE l j).p] else chi (l.take j) (dl q)) := HNX.out j hlt
      obtain ⟨W2, hW2⟩ : ∃ W2, W2 = wr.alloc (.cells #[.string (atE l j).p, .bool (atE l j).d, .slice ua un uc] 32) := ⟨_, rfl⟩
      have b2 : Below wr.heap.size wr W2 := by rw [hW2]; exact (Below.refl _ _).alloc (Nat.le_refl _) _
      have B2 : Hid (Below w1.heap.size w1 W2) := HB.out.trans (b2.mono HB.out.size)
      have K2 : Hid (W2.heap[wr.heap.size]? = some (.cells #[.string (atE l j).p, .bool (atE l j).d, .slice ua un uc] 32 (0, 0))) := by unfold Hid; rw [hW2]; exact heap_alloc_new _ _
      have O2 : Hid (W2.ownsRow w1.heap.size 9 1 (.slice va nv vc) (chi (l.take j) (dl q)).length ((chi (l.take j) (dl q)).map Value.string)) := own_below HO.out b2
      have CS := isIn1_any (.agg #[.string (atE l j).p, .bool (atE l j).d, .slice ua un uc]) (atE l j) q g W2 ⟨ua, un, uc, rfl, hsl.kept b2⟩ (HL.out.at j).1 (HG.out W2 B2.out)
      clear b2 hun hsl HO
      generalize atE l j = x at *
      generalize chi (l.take j) (dl q) = L at *
      rw [← HJ.out] at O2
      by_cases hin : par x.k = dl q
      · have HT2 : Hid (chi (l.take (j + 1)) (dl q) = L ++ [x.p]) := by unfold Hid; rw [HT.out, if_pos hin]
        rw [decide_eq_true hin] at CS
        clear HT hin
        go_wp2_with fail
        rw [← hW2]
        clear hW2
        refine CS.mono ?_
        rintro e w3 ⟨rfl, b3⟩
        obtain ⟨p0, p1, p2, -, -, -⟩ := trio ((b3.block _ (lt_of_block K2.out)).trans K2.out)
        obtain ⟨W4, hW4⟩ : ∃ W4, W4 = w3.alloc (.cells #[.string x.p] 9) := ⟨_, rfl⟩
        have n4 : Below w3.heap.size w3 W4 := by rw [hW4]; exact (Below.refl _ _).alloc (Nat.le_refl _) _
        have b24 : Below W2.heap.size W2 W4 := b3.trans (n4.mono b3.size)
        have B4 : Hid (Below w1.heap.size w1 W4) := B2.out.trans (b24.mono B2.out.size)
        have O4 : Hid (W4.ownsRow w1.heap.size 9 1 (.slice va nv vc) nv (L.map Value.string)) := own_below O2.out b24
        have NW : Hid (∀ (i : Nat) u, [Value.string x.p][i]? = some u → W4.cell? ((⟨w3.heap.size, 0, none⟩ : Addr).add i) = some u) := fun i u hu => by
          rw [hW4, Addr.add_lit, Nat.zero_add, cell_of_row _ _ _ _ _ _ (heap_alloc_new _ _)]
          simpa using hu
        have N1 : Hid (∀ u ∈ [Value.string x.p], u.oneCell' = true) := fun u hu => by
          simp only [List.mem_singleton] at hu
          rw [hu]; rfl
        subst hW4
        clear b3 n4 b24 CS
        go_wp2_with (at_builtin; refine wpList_append_own_wide _ rfl _ _ 35 rfl w1.heap.size 9 i9 (.string ByteArray.empty) 1 16 Tryd.underlying35 hi hz0 hz1 hz2 rfl (by decide) _ nv (L.map Value.string) rfl O4.out ⟨w3.heap.size, 0, none⟩ 1 1 [.string x.p] rfl rfl NW.out N1.out (by unfold maxLen; omega) (by omega) B4.out.size (Hid.out ?_))
        unfold Hid
        intro v5 w5 o5 g5 _
        have O5 : Hid (OS w5 w1.heap.size v5 (chi (l.take (j + 1)) (dl q))) := by
          unfold Hid OS
          rw [HT2.out, List.length_append, List.map_append, ← HJ.out]
          exact o5
        have B5 : Hid (Below w1.heap.size w1 w5) := B4.out.grown g5 B4.out.size (own_base O4.out)
        clear o5 g5 O4 NW N1
        go_wp2
        go_roundw
        case rel => exact ⟨j + 1, by omega, by go_num, O5.out, B5.out⟩
        case measure => simp [intOf]; omega
      · have HT2 : Hid (chi (l.take (j + 1)) (dl q) = L) := by unfold Hid; rw [HT.out, if_neg hin]
        rw [decide_eq_false hin] at CS
        clear HT hin
        go_wp2_with fail
        rw [← hW2]
        clear hW2
        refine CS.mono ?_
        rintro e w3 ⟨rfl, b3⟩
        have B3 : Hid (Below w1.heap.size w1 w3) := B2.out.trans (b3.mono B2.out.size)
        have O3 : Hid (OS w3 w1.heap.size (.slice va nv vc) (chi (l.take (j + 1)) (dl q))) := by
          unfold Hid OS
          rw [HT2.out, ← HJ.out]
          exact own_below O2.out b3
        clear b3 CS
        go_wp2
        go_roundw
        case rel => exact ⟨j + 1, by omega, by go_num, O3.out, B3.out⟩
        case measure => simp [intOf]; omega
    · obtain rfl : j = n := by omega
      have HR : Hid (SS wr (.slice va nv vc) (chi l (dl q))) := by
        have h1 := HO.out.ss
        have h2 : l.take j = l := by rw [HN.out, List.take_length]
        rw [h2] at h1
        exact h1
      go_wp2
      go_ret
      exact ⟨_, rfl, HR.out, B1.out.trans (HB.out.mono B1.out.size)⟩
end Go.Proofs.YtdomknajkipmnaaDoor
