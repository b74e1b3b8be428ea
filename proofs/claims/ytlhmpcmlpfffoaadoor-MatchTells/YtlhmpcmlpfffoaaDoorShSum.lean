/-
  What (*sha.Hasher).Sum answers: the sum of what was written so far; nothing that was there is changed.
-/
import Derived.Test.YtlhmpcmlpfffoaaDoorShWrite
namespace Go.Proofs.YtlhmpcmlpfffoaaDoor.Sh
open Go.RowKit
set_option maxRecDepth 100000

theorem pad_len (n : Nat) : (Pl.pad n).length = Pl.zers n + 9 := by rw [← ppad_all, ppad_len n 8 (by omega)]
theorem zers_lt (n : Nat) : Pl.zers n < 64 := Nat.mod_lt _ (by omega)
theorem sha_len (l : List Int) : (Pl.sha l).length = 32 := digest_len _

set_option maxHeartbeats 2000000 in
set_option maxRecDepth 100000 in
theorem sum_any (G : Nat) (l : List Int) (w : World) (ht : Tab w) (hh : HsOf w G l) (hbig : l.length ≤ 100000000000000000) :
    Calls Tryd.prog 42 #[.pointer (some ⟨G, 0, none⟩)] w fun e w' => e = .returned (.agg (u8s (Pl.sha l))) ∧ Below w.heap.size w w' := by
  obtain ⟨wa, hwa⟩ : ∃ wa, wa = w.alloc (.cells (u8s (List.replicate 32 0)) 48) := ⟨_, rfl⟩
  have ba : Below w.heap.size w wa := by rw [hwa]; exact (Below.refl _ _).alloc (Nat.le_refl _) _
  have g0 : wa.heap[w.heap.size]? = some (.cells (u8s (List.replicate 32 0)) 48 (0, 0)) := by rw [hwa]; exact heap_alloc_new _ _
  have ha := hh.kept ba
  have hta := ht.below ba ht.size
  obtain ⟨R, r1, r2, r3⟩ := ha
  have cf := fork_any G _ R _ wa r1
  have hlt : w.heap.size < wa.heap.size := World.block_lt_of_cell? _ _ ((cell_of_row _ _ 0 _ _ _ g0).trans (u8s_get _ 0 (by simp)))
  have hF : 2 ≤ wa.heap.size := hta.size
  obtain ⟨F, hF'⟩ : ∃ F, F = wa.heap.size := ⟨_, rfl⟩
  have HWA : Hid (w.alloc (.cells (u8s (List.replicate 32 0)) 48) = wa) := hwa.symm
  have hwz : w.alloc (.cells #[.int .u8 0, .int .u8 0, .int .u8 0, .int .u8 0, .int .u8 0, .int .u8 0, .int .u8 0, .int .u8 0, .int .u8 0, .int .u8 0, .int .u8 0, .int .u8 0, .int .u8 0, .int .u8 0, .int .u8 0, .int .u8 0, .int .u8 0, .int .u8 0, .int .u8 0, .int .u8 0, .int .u8 0, .int .u8 0, .int .u8 0, .int .u8 0, .int .u8 0, .int .u8 0, .int .u8 0, .int .u8 0, .int .u8 0, .int .u8 0, .int .u8 0, .int .u8 0] 48) = wa := hwa.symm
  rw [← hF'] at cf hlt hF
  have HF : Hid (F = wa.heap.size) := hF'
  have HBA : Hid (Below w.heap.size w wa) := ba
  have HG0 : Hid (wa.heap[w.heap.size]? = some (.cells (u8s (List.replicate 32 0)) 48 (0, 0))) := g0
  have HR : Hid (Pl.Byt R ∧ ∀ i, i < l.length % 64 → R.getD i 0 = l.getD (64 * (l.length / 64) + i) 0) := ⟨r2, r3⟩
  have HH : Hid (Hs wa G (Pl.words (Pl.absorb l)) R l.length) := r1
  have HT : Hid (Tab wa) := hta
  have HS : Hid (Pl.sha l = Pl.digest (Pl.absorb (l ++ Pl.pad l.length))) := rfl
  have HI : Hid ((Tryd.prog.info? 48).map (·.size) = some (u8s (Pl.sha l)).size) := by unfold Hid; rw [u8s_size, sha_len]; exact size26
  have HO : Hid ((u8s (List.replicate 32 0)).size = (u8s (Pl.sha l)).size) := by unfold Hid; rw [u8s_size, u8s_size, sha_len]; simp
  obtain ⟨n, hn⟩ : ∃ n, n = l.length := ⟨_, rfl⟩
  have HN : Hid (n = l.length) := hn
  clear hn hh ht ba g0 hta r1 r2 r3 hF' hwa
  go_enter Tryd.func42, Tryd.ntmps42
  go_wp2_with fail
  refine cf.mono ?_
  rintro e w1 ⟨rfl, f1, b1⟩
  have tb1 := HT.out.below b1 hF
  have hb1 : Below wa.heap.size wa w1 := by rw [← HF.out]; exact b1
  have k72 := (HH.out.kept hb1).num
  have HF1 : Hid (HsOf w1 F l) := ⟨R, f1, HR.out⟩
  have cp := padding_any l.length w1 (by omega)
  have hFl := f1.lt
  have HTB : Hid (Tab w1) := tb1
  have HB1 : Hid (Below F wa w1) := b1
  rw [← HN.out] at k72 cp
  clear cf f1 b1 tb1 hb1
  go_wp2_with fail
  refine cp.mono ?_
  rintro e w2 ⟨rfl, sl2, b2⟩
  rw [HN.out] at sl2
  have cw := write_any F l _ _ w2 (HTB.out.below b2 HTB.out.size) (HF1.out.kept b2) sl2 (fun a' l' c' e' _ => by cases e'; show w1.heap.size ≠ F; omega) hF (by have := zers_lt l.length; rw [pad_len]; omega)
  rw [← HN.out] at cw
  have HB2 : Hid (Below w1.heap.size w1 w2) := b2
  clear cp sl2 b2
  go_wp2_with fail
  refine cw.mono ?_
  rintro e w3 ⟨⟨u3, rfl⟩, h3, b3⟩
  rw [HN.out] at h3
  obtain ⟨R3, h3, -, -⟩ := h3
  have ct := told_any F _ R3 _ w3 h3
  rw [← HS.out] at ct
  have HB3 : Hid (But F w2 w3) := b3
  clear cw h3 b3
  go_wp2_with fail
  refine ct.mono ?_
  rintro e w4 ⟨rfl, b4⟩
  have z1 : F ≤ w1.heap.size := by omega
  have z2 := HB2.out.size
  have hB4 : Below F wa w4 := (HB1.out.trans (HB2.out.mono z1)).trans ((HB3.out.below (Nat.le_refl _) (by omega)).trans (b4.mono (by have := HB3.out.size; omega)))
  have G4 : Hid (w4.heap[w.heap.size]? = some (.cells (u8s (List.replicate 32 0)) 48 (0, 0))) := (hB4.block _ hlt).trans HG0.out
  have B4 : Hid (Below w.heap.size w w4) := HBA.out.trans (hB4.mono (by omega))
  clear ct b4 hB4
  go_wp2_with (refine wpList_store_row rfl 48 _ _ rfl w.heap.size (u8s (Pl.sha l)) rfl rfl 48 _ G4.out HI.out HO.out (u8s_one _) ?_)
  refine bodyPost_ret (v := .agg (u8s (Pl.sha l))) (results_cell_row rfl _ _ w.heap.size 48 (u8s (Pl.sha l)) (0, 0) _ rfl (setRow_heap _ _ _ _ _ _ G4.out) Tryd.underlying48 rfl HI.out) rfl ⟨rfl, below_setRow B4.out (Nat.le_refl _) _⟩

theorem built26 : Tryd.prog.built 48 [] = some (u8s (List.replicate 32 0)) := by kernel_rfl

set_option maxHeartbeats 2000000 in
set_option maxRecDepth 100000 in
theorem sum_nil (w : World) : Calls Tryd.prog 42 #[.pointer none] w fun e w' => e = .returned (.agg (u8s (List.replicate 32 0))) ∧ Below w.heap.size w w' := by
  have HB : Hid (Below w.heap.size w (w.alloc (.cells (u8s (List.replicate 32 0)) 48))) := (Below.refl _ _).alloc (Nat.le_refl _) _
  go_enter Tryd.func42, Tryd.ntmps42
  go_wp2_with (refine wpList_store_row rfl 48 _ _ rfl w.heap.size (u8s (List.replicate 32 0)) rfl rfl 48 _ (heap_alloc_new _ _) size26 rfl (u8s_one _) ?_)
  refine bodyPost_ret (v := .agg (u8s (List.replicate 32 0))) (results_cell_row rfl _ _ w.heap.size 48 (u8s (List.replicate 32 0)) (0, 0) _ rfl (setRow_heap _ _ _ _ _ _ (heap_alloc_new _ _)) Tryd.underlying48 rfl size26) rfl ⟨rfl, below_setRow ((Below.refl _ _).alloc (Nat.le_refl _) _) (Nat.le_refl _) _⟩
end Go.Proofs.YtlhmpcmlpfffoaaDoor.Sh
