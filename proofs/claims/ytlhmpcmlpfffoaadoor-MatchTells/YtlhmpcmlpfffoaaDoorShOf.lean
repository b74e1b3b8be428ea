/-
  What sha.Of answers: the sum of the parts, one behind the other; nothing that was there is changed.
-/
import Derived.Test.YtlhmpcmlpfffoaaDoorShSum
namespace Go.Proofs.YtlhmpcmlpfffoaaDoor.Sh
open Go.RowKit
set_option maxRecDepth 100000

/-- A slice of slices of bytes, as Of reads it. -/
def Parts (w : World) (p : Option Addr) (ZZ : List (List Int)) : Prop :=
  ZZ.length ≤ 9223372036854775807 ∧ (ZZ = [] ∨ ∃ b off, p = some ⟨b, off, none⟩ ∧ ∀ i, i < ZZ.length → ∃ v, w.cell? ⟨b, off + i, none⟩ = some v ∧ Sl w v (ZZ.getD i []))
theorem flat_succ (ZZ : List (List Int)) (j : Nat) (h : j < ZZ.length) : (ZZ.take (j + 1)).flatten = (ZZ.take j).flatten ++ ZZ.getD j [] := by
  rw [List.take_add_one, List.getElem?_eq_getElem h, List.flatten_append]
  simp [List.getD, List.getElem?_eq_getElem h]
theorem flat_le (ZZ : List (List Int)) (j : Nat) : (ZZ.take j).flatten.length ≤ ZZ.flatten.length := by
  have h : ZZ.flatten = (ZZ.take j).flatten ++ (ZZ.drop j).flatten := by rw [← List.flatten_append, List.take_append_drop]
  rw [h, List.length_append]; omega
theorem hsof_nil {w : World} {G : Nat} (h : Hs w G (Pl.words Pl.init) (List.replicate 64 0) 0) : HsOf w G [] := by
  exact ⟨_, h, byteList (List.replicate 64 0) (by decide), fun i hi => by simp at hi⟩
theorem _root_.Go.Proofs.YtlhmpcmlpfffoaaDoor.Sl.apart {w : World} {v : Value} {xs : List Int} {g : Nat} (h : Sl w v xs) (hg : w.heap.size ≤ g) : Apart g v := by
  obtain ⟨a, cap, rfl, h1, h2, h3, h4⟩ := h
  rintro a' l' c' e hl
  cases e
  rcases h4 with h4 | ⟨_, b, off, e, _, _, hc, _⟩
  · omega
  · cases e
    have := World.block_lt_of_cell? _ _ (hc 0 hl)
    show b ≠ g
    have h5 : b < w.heap.size := this
    omega

set_option maxHeartbeats 2000000 in
set_option maxRecDepth 100000 in
theorem of_any (p : Option Addr) (kc : Nat) (ZZ : List (List Int)) (w : World) (ht : Tab w) (hP : Parts w p ZZ) (hbig : ZZ.flatten.length ≤ 100000000000000000) :
    Calls Tryd.prog 23 #[.slice p ZZ.length kc] w fun e w' => e = .returned (.agg (u8s (Pl.sha ZZ.flatten))) ∧ Below w.heap.size w w' := by
  obtain ⟨wa, hwa⟩ : ∃ wa, wa = w.alloc (.cells (u8s (List.replicate 32 0)) 48) := ⟨_, rfl⟩
  have ba : Below w.heap.size w wa := by rw [hwa]; exact (Below.refl _ _).alloc (Nat.le_refl _) _
  have g0 : wa.heap[w.heap.size]? = some (.cells (u8s (List.replicate 32 0)) 48 (0, 0)) := by rw [hwa]; exact heap_alloc_new _ _
  have hta := ht.below ba ht.size
  have cn := new_any wa hta
  have hlt : w.heap.size < wa.heap.size := World.block_lt_of_cell? _ _ ((cell_of_row _ _ 0 _ _ _ g0).trans (u8s_get _ 0 (by simp)))
  have hF : 2 ≤ wa.heap.size := hta.size
  obtain ⟨F, hF'⟩ : ∃ F, F = wa.heap.size := ⟨_, rfl⟩
  have hwz : w.alloc (.cells #[.int .u8 0, .int .u8 0, .int .u8 0, .int .u8 0, .int .u8 0, .int .u8 0, .int .u8 0, .int .u8 0, .int .u8 0, .int .u8 0, .int .u8 0, .int .u8 0, .int .u8 0, .int .u8 0, .int .u8 0, .int .u8 0, .int .u8 0, .int .u8 0, .int .u8 0, .int .u8 0, .int .u8 0, .int .u8 0, .int .u8 0, .int .u8 0, .int .u8 0, .int .u8 0, .int .u8 0, .int .u8 0, .int .u8 0, .int .u8 0, .int .u8 0, .int .u8 0] 48) = wa := hwa.symm
  rw [← hF'] at cn hlt hF
  have HF : Hid (F = wa.heap.size) := hF'
  have HBA : Hid (Below w.heap.size w wa) := ba
  have HG0 : Hid (wa.heap[w.heap.size]? = some (.cells (u8s (List.replicate 32 0)) 48 (0, 0))) := g0
  have HT : Hid (Tab wa) := hta
  have HI : Hid ((Tryd.prog.info? 48).map (·.size) = some (u8s (Pl.sha ZZ.flatten)).size) := by unfold Hid; rw [u8s_size, sha_len]; exact size26
  have HO : Hid ((u8s (List.replicate 32 0)).size = (u8s (Pl.sha ZZ.flatten)).size) := by unfold Hid; rw [u8s_size, u8s_size, sha_len]; simp
  have HB0 : Hid (∀ j, (ZZ.take j).flatten.length ≤ 100000000000000000) := fun j => Nat.le_trans (flat_le ZZ j) hbig
  have hL := hP.1
  have HP : Hid (ZZ = [] ∨ ∃ b off, p = some ⟨b, off, none⟩ ∧ ∀ i, i < ZZ.length → ∃ v, wa.cell? ⟨b, off + i, none⟩ = some v ∧ Sl wa v (ZZ.getD i []) ∧ Apart F v) := by
    rcases hP.2 with h | ⟨b, off, e, h⟩
    · exact .inl h
    · refine .inr ⟨b, off, e, fun i hi => ?_⟩
      obtain ⟨v, h1, h2⟩ := h i hi
      exact ⟨v, (ba.cell (World.block_lt_of_cell? _ _ h1)).trans h1, h2.kept ba, h2.apart (by omega)⟩
  obtain ⟨k, hk⟩ : ∃ k, k = ZZ.length := ⟨_, rfl⟩
  have HK : Hid (k = ZZ.length) := hk
  rw [← hk] at hL ⊢
  clear hk ht ba g0 hta hF' hwa hP hbig
  go_enter Tryd.func23, Tryd.ntmps23
  go_wp2_with fail
  refine cn.mono ?_
  rintro e w1 ⟨rfl, n1, b1⟩
  have hb1 : Below wa.heap.size wa w1 := by rw [← HF.out]; exact b1
  have HW1 : Hid (HsOf w1 F []) := hsof_nil n1
  have HB1 : Hid (Below F wa w1) := b1
  have hF1 : F < w1.heap.size := n1.lt
  clear cn n1 b1 hb1
  go_wp2_with fail
  go_loopw [9] (fun q wr => ∃ j : Nat, j ≤ k ∧ q = .int .i64 j ∧ HsOf wr F (ZZ.take j).flatten ∧ Below F wa wr) (fun q _ => k - (intOf q).toNat)
  case atStart => exact ⟨0, by omega, rfl, HW1.out, HB1.out⟩
  case round =>
    clear HW1 HB1
    obtain ⟨j, hj, rfl, hs, bel⟩ := hrel
    have HH : Hid (HsOf wr F (ZZ.take j).flatten) := hs
    have BE : Hid (Below F wa wr) := bel
    by_cases hltj : j < k
    · have lt2 : (j : Int) < (k : Int) := by omega
      rcases HP.out with h0 | ⟨b, off, rfl, hp⟩
      · rw [h0] at HK; have := HK.out; simp at this; omega
      · obtain ⟨v, c1, c2, c3⟩ := hp j (by rw [← HK.out]; exact hltj)
        have hbF : b < F := by have := World.block_lt_of_cell? _ _ c1; have := HF.out; simp at *; omega
        have kc1 := (bel.cell (p := ⟨b, off + j, none⟩) hbF).trans c1
        have belw : Below wa.heap.size wa wr := by rw [← HF.out]; exact bel
        have cw := write_any F (ZZ.take j).flatten v (ZZ.getD j []) wr (HT.out.below bel hF) hs (c2.kept belw) c3 hF (by
          have h1 := HB0.out (j + 1)
          rw [flat_succ ZZ j (by rw [← HK.out]; exact hltj), List.length_append] at h1
          omega)
        rw [← flat_succ ZZ j (by rw [← HK.out]; exact hltj)] at cw
        obtain ⟨ad, cp, hv, -⟩ := c2
        subst hv
        have hFw : F ≤ wr.heap.size := by have := BE.out.size; have := HF.out; omega
        clear hs bel hp c1 c3 belw
        go_wp2_with fail
        refine cw.mono ?_
        rintro e w2 ⟨⟨u2, rfl⟩, h2, b2⟩
        have H2 : Hid (HsOf w2 F (ZZ.take (j + 1)).flatten) := h2
        have B2 : Hid (Below F wa w2) := BE.out.trans (b2.below (Nat.le_refl _) hFw)
        clear cw h2 b2
        go_wp2
        go_roundw
        case rel => exact ⟨j + 1, by omega, by go_num, H2.out, B2.out⟩
        case measure => simp [intOf]; omega
    · obtain rfl : j = k := by omega
      have hz : (ZZ.take j).flatten = ZZ.flatten := by rw [HK.out, List.take_length]
      rw [hz] at hs
      have cs := sum_any F ZZ.flatten wr (HT.out.below bel hF) hs (by have := HB0.out j; rw [hz] at this; exact this)
      have hFw : F ≤ wr.heap.size := by have := BE.out.size; have := HF.out; omega
      clear hs bel hz
      go_wp2_with fail
      refine cs.mono ?_
      rintro e w4 ⟨rfl, b4⟩
      have hB4 : Below F wa w4 := BE.out.trans (b4.mono hFw)
      have G4 : Hid (w4.heap[w.heap.size]? = some (.cells (u8s (List.replicate 32 0)) 48 (0, 0))) := (hB4.block _ hlt).trans HG0.out
      have B4 : Hid (Below w.heap.size w w4) := HBA.out.trans (hB4.mono (by omega))
      clear cs b4 hB4
      go_wp2_with (refine wpList_store_row rfl 48 _ _ rfl w.heap.size (u8s (Pl.sha ZZ.flatten)) rfl rfl 48 _ G4.out HI.out HO.out (u8s_one _) ?_)
      refine bodyPost_ret (v := .agg (u8s (Pl.sha ZZ.flatten))) (results_cell_row rfl _ _ w.heap.size 48 (u8s (Pl.sha ZZ.flatten)) (0, 0) _ rfl (setRow_heap _ _ _ _ _ _ G4.out) Tryd.underlying48 rfl HI.out) rfl ⟨rfl, below_setRow B4.out (Nat.le_refl _) _⟩
end Go.Proofs.YtlhmpcmlpfffoaaDoor.Sh
