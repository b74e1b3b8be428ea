/-
  What (*sha.Hasher).Sum answers: the sum of what was written so far; nothing that was there is changed.
  What sha.Of answers: the sum of the parts, one behind the other; nothing that was there is changed.
  Two sums compared; a variable that holds a sum.
-/
import Derived.Test.YtiollhmbdhepkaaGreatDoorYbj
import Derived.Test.YtiollhmbdhepkaaGreatDoorYay
import Derived.Laws.StructEq
namespace Go.Proofs.YtiollhmbdhepkaaGreatDoor.Sh
open Go.RowKit
set_option maxRecDepth 100000

theorem pad_len (n : Nat) : (Pl.pad n).length = Pl.zers n + 9 := by rw [← ppad_all, ppad_len n 8 (by omega)]
theorem zers_lt (n : Nat) : Pl.zers n < 64 := Nat.mod_lt _ (by omega)
theorem sha_len (l : List Int) : (Pl.sha l).length = 32 := digest_len _

set_option maxHeartbeats 2000000 in
set_option maxRecDepth 100000 in
theorem sum_any (G : Nat) (l : List Int) (w : World) (ht : Tab w) (hh : HsOf w G l) (hbig : l.length ≤ 100000000000000000) :
    Calls Tryz.prog 136 #[.pointer (some ⟨G, 0, none⟩)] w fun e w' => e = .returned (.agg (u8s (Pl.sha l))) ∧ Below w.heap.size w w' := by
  obtain ⟨wa, hwa⟩ : ∃ wa, wa = w.alloc (.cells (u8s (List.replicate 32 0)) 47) := ⟨_, rfl⟩
  have ba : Below w.heap.size w wa := by rw [hwa]; exact (Below.refl _ _).alloc (Nat.le_refl _) _
  have g0 : wa.heap[w.heap.size]? = some (.cells (u8s (List.replicate 32 0)) 47 (0, 0)) := by rw [hwa]; exact heap_alloc_new _ _
  have ha := hh.kept ba
  have hta := ht.below ba ht.size
  obtain ⟨R, r1, r2, r3⟩ := ha
  have cf := fork_any G _ R _ wa r1
  have hlt : w.heap.size < wa.heap.size := World.block_lt_of_cell? _ _ ((cell_of_row _ _ 0 _ _ _ g0).trans (u8s_get _ 0 (by simp)))
  have hF : 4 ≤ wa.heap.size := hta.size
  obtain ⟨F, hF'⟩ : ∃ F, F = wa.heap.size := ⟨_, rfl⟩
  have HWA : Hid (w.alloc (.cells (u8s (List.replicate 32 0)) 47) = wa) := hwa.symm
  have hwz : w.alloc (.cells #[.int .u8 0, .int .u8 0, .int .u8 0, .int .u8 0, .int .u8 0, .int .u8 0, .int .u8 0, .int .u8 0, .int .u8 0, .int .u8 0, .int .u8 0, .int .u8 0, .int .u8 0, .int .u8 0, .int .u8 0, .int .u8 0, .int .u8 0, .int .u8 0, .int .u8 0, .int .u8 0, .int .u8 0, .int .u8 0, .int .u8 0, .int .u8 0, .int .u8 0, .int .u8 0, .int .u8 0, .int .u8 0, .int .u8 0, .int .u8 0, .int .u8 0, .int .u8 0] 47) = wa := hwa.symm
  rw [← hF'] at cf hlt hF
  have HF : Hid (F = wa.heap.size) := hF'
  have HBA : Hid (Below w.heap.size w wa) := ba
  have HG0 : Hid (wa.heap[w.heap.size]? = some (.cells (u8s (List.replicate 32 0)) 47 (0, 0))) := g0
  have HR : Hid (Pl.Byt R ∧ ∀ i, i < l.length % 64 → R.getD i 0 = l.getD (64 * (l.length / 64) + i) 0) := ⟨r2, r3⟩
  have HH : Hid (Hs wa G (Pl.words (Pl.absorb l)) R l.length) := r1
  have HT : Hid (Tab wa) := hta
  have HS : Hid (Pl.sha l = Pl.digest (Pl.absorb (l ++ Pl.pad l.length))) := rfl
  have HI : Hid ((Tryz.prog.info? 47).map (·.size) = some (u8s (Pl.sha l)).size) := by unfold Hid; rw [u8s_size, sha_len]; exact size26
  have HO : Hid ((u8s (List.replicate 32 0)).size = (u8s (Pl.sha l)).size) := by unfold Hid; rw [u8s_size, u8s_size, sha_len]; simp
  obtain ⟨n, hn⟩ : ∃ n, n = l.length := ⟨_, rfl⟩
  have HN : Hid (n = l.length) := hn
  clear hn hh ht ba g0 hta r1 r2 r3 hF' hwa
  go_enter Tryz.func136, Tryz.ntmps136
  go_wp2_with fail
  refine cf.mono ?_
  rintro e w1 ⟨rfl, f1, b1⟩
  have tb1 := HT.out.below b1 hF
  have hb1 : Below wa.heap.size wa w1 := by rw [← HF.out]; exact b1
  have k72 := (HH.out.kept hb1).num
  have HF1 : Hid (HsOf w1 F l) := ⟨R, f1, HR.out⟩
  have cp := padding_any l.length w1 (by omega)
  have hFl := f1.lt
  have HTB : Hid (Tab w1) := tb1
  have HB1 : Hid (Below F wa w1) := b1
  rw [← HN.out] at k72 cp
  clear cf f1 b1 tb1 hb1
  go_wp2_with fail
  refine cp.mono ?_
  rintro e w2 ⟨rfl, sl2, b2⟩
  rw [HN.out] at sl2
  have cw := write_any F l _ _ w2 (HTB.out.below b2 HTB.out.size) (HF1.out.kept b2) sl2 (fun a' l' c' e' _ => by cases e'; show w1.heap.size ≠ F; omega) hF (by have := zers_lt l.length; rw [pad_len]; omega)
  rw [← HN.out] at cw
  have HB2 : Hid (Below w1.heap.size w1 w2) := b2
  clear cp sl2 b2
  go_wp2_with fail
  refine cw.mono ?_
  rintro e w3 ⟨⟨u3, rfl⟩, h3, b3⟩
  rw [HN.out] at h3
  obtain ⟨R3, h3, -, -⟩ := h3
  have ct := told_any F _ R3 _ w3 h3
  rw [← HS.out] at ct
  have HB3 : Hid (But F w2 w3) := b3
  clear cw h3 b3
  go_wp2_with fail
  refine ct.mono ?_
  rintro e w4 ⟨rfl, b4⟩
  have z1 : F ≤ w1.heap.size := by omega
  have z2 := HB2.out.size
  have hB4 : Below F wa w4 := (HB1.out.trans (HB2.out.mono z1)).trans ((HB3.out.below (Nat.le_refl _) (by omega)).trans (b4.mono (by have := HB3.out.size; omega)))
  have G4 : Hid (w4.heap[w.heap.size]? = some (.cells (u8s (List.replicate 32 0)) 47 (0, 0))) := (hB4.block _ hlt).trans HG0.out
  have B4 : Hid (Below w.heap.size w w4) := HBA.out.trans (hB4.mono (by omega))
  clear ct b4 hB4
  go_wp2_with (refine wpList_store_row rfl 47 _ _ rfl w.heap.size (u8s (Pl.sha l)) rfl rfl 47 _ G4.out HI.out HO.out (u8s_one _) ?_)
  refine bodyPost_ret (v := .agg (u8s (Pl.sha l))) (results_cell_row rfl _ _ w.heap.size 47 (u8s (Pl.sha l)) (0, 0) _ rfl (setRow_heap _ _ _ _ _ _ G4.out) Tryz.underlying47 rfl HI.out) rfl ⟨rfl, below_setRow B4.out (Nat.le_refl _) _⟩

end Go.Proofs.YtiollhmbdhepkaaGreatDoor.Sh
namespace Go.Proofs.YtiollhmbdhepkaaGreatDoor.Sh
open Go.RowKit
set_option maxRecDepth 100000

theorem flat_le (ZZ : List (List Int)) (j : Nat) : (ZZ.take j).flatten.length ≤ ZZ.flatten.length := by
  have h : ZZ.flatten = (ZZ.take j).flatten ++ (ZZ.drop j).flatten := by rw [← List.flatten_append, List.take_append_drop]
  rw [h, List.length_append]; omega
theorem hsof_nil {w : World} {G : Nat} (h : Hs w G (Pl.words Pl.init) (List.replicate 64 0) 0) : HsOf w G [] := by
  exact ⟨_, h, byteList (List.replicate 64 0) (by decide), fun i hi => by simp at hi⟩
theorem _root_.Go.Proofs.YtiollhmbdhepkaaGreatDoor.Sl.apart {w : World} {v : Value} {xs : List Int} {g : Nat} (h : Sl w v xs) (hg : w.heap.size ≤ g) : Apart g v := by
  obtain ⟨a, cap, rfl, h1, h2, h3, h4⟩ := h
  rintro a' l' c' e hl
  cases e
  rcases h4 with h4 | ⟨_, b, off, e, _, _, hc, _⟩
  · omega
  · cases e
    have := World.block_lt_of_cell? _ _ (hc 0 hl)
    show b ≠ g
    have h5 : b < w.heap.size := this
    omega

set_option maxHeartbeats 2000000 in
set_option maxRecDepth 100000 in
theorem of_any (p : Option Addr) (kc : Nat) (ZZ : List (List Int)) (w : World) (ht : Tab w) (hP : Parts w p ZZ) (hbig : ZZ.flatten.length ≤ 100000000000000000) :
    Calls Tryz.prog 111 #[.slice p ZZ.length kc] w fun e w' => e = .returned (.agg (u8s (Pl.sha ZZ.flatten))) ∧ Below w.heap.size w w' := by
  obtain ⟨wa, hwa⟩ : ∃ wa, wa = w.alloc (.cells (u8s (List.replicate 32 0)) 47) := ⟨_, rfl⟩
  have ba : Below w.heap.size w wa := by rw [hwa]; exact (Below.refl _ _).alloc (Nat.le_refl _) _
  have g0 : wa.heap[w.heap.size]? = some (.cells (u8s (List.replicate 32 0)) 47 (0, 0)) := by rw [hwa]; exact heap_alloc_new _ _
  have hta := ht.below ba ht.size
  have cn := new_any wa hta
  have hlt : w.heap.size < wa.heap.size := World.block_lt_of_cell? _ _ ((cell_of_row _ _ 0 _ _ _ g0).trans (u8s_get _ 0 (by simp)))
  have hF : 4 ≤ wa.heap.size := hta.size
  obtain ⟨F, hF'⟩ : ∃ F, F = wa.heap.size := ⟨_, rfl⟩
  have hwz : w.alloc (.cells #[.int .u8 0, .int .u8 0, .int .u8 0, .int .u8 0, .int .u8 0, .int .u8 0, .int .u8 0, .int .u8 0, .int .u8 0, .int .u8 0, .int .u8 0, .int .u8 0, .int .u8 0, .int .u8 0, .int .u8 0, .int .u8 0, .int .u8 0, .int .u8 0, .int .u8 0, .int .u8 0, .int .u8 0, .int .u8 0, .int .u8 0, .int .u8 0, .int .u8 0, .int .u8 0, .int .u8 0, .int .u8 0, .int .u8 0, .int .u8 0, .int .u8 0, .int .u8 0] 47) = wa := hwa.symm
  rw [← hF'] at cn hlt hF
  have HF : Hid (F = wa.heap.size) := hF'
  have HBA : Hid (Below w.heap.size w wa) := ba
  have HG0 : Hid (wa.heap[w.heap.size]? = some (.cells (u8s (List.replicate 32 0)) 47 (0, 0))) := g0
  have HT : Hid (Tab wa) := hta
  have HI : Hid ((Tryz.prog.info? 47).map (·.size) = some (u8s (Pl.sha ZZ.flatten)).size) := by unfold Hid; rw [u8s_size, sha_len]; exact size26
  have HO : Hid ((u8s (List.replicate 32 0)).size = (u8s (Pl.sha ZZ.flatten)).size) := by unfold Hid; rw [u8s_size, u8s_size, sha_len]; simp
  have HB0 : Hid (∀ j, (ZZ.take j).flatten.length ≤ 100000000000000000) := fun j => Nat.le_trans (flat_le ZZ j) hbig
  have hL := hP.1
  have HP : Hid (ZZ = [] ∨ ∃ b off, p = some ⟨b, off, none⟩ ∧ ∀ i, i < ZZ.length → ∃ v, wa.cell? ⟨b, off + i, none⟩ = some v ∧ Sl wa v (ZZ.getD i []) ∧ Apart F v) := by
    rcases hP.2 with h | ⟨b, off, e, h⟩
    · exact .inl h
    · refine .inr ⟨b, off, e, fun i hi => ?_⟩
      obtain ⟨v, h1, h2⟩ := h i hi
      exact ⟨v, (ba.cell (World.block_lt_of_cell? _ _ h1)).trans h1, h2.kept ba, h2.apart (by omega)⟩
  obtain ⟨k, hk⟩ : ∃ k, k = ZZ.length := ⟨_, rfl⟩
  have HK : Hid (k = ZZ.length) := hk
  rw [← hk] at hL ⊢
  clear hk ht ba g0 hta hF' hwa hP hbig
  go_enter Tryz.func111, Tryz.ntmps111
  go_wp2_with fail
  refine cn.mono ?_
  rintro e w1 ⟨rfl, n1, b1⟩
  have hb1 : Below wa.heap.size wa w1 := by rw [← HF.out]; exact b1
  have HW1 : Hid (HsOf w1 F []) := hsof_nil n1
  have HB1 : Hid (Below F wa w1) := b1
  have hF1 : F < w1.heap.size := n1.lt
  clear cn n1 b1 hb1
  go_wp2_with fail
  go_loopw [9] (fun q wr => ∃ j : Nat, j ≤ k ∧ q = .int .i64 j ∧ HsOf wr F (ZZ.take j).flatten ∧ Below F wa wr) (fun q _ => k - (intOf q).toNat)
  case atStart => exact ⟨0, by omega, rfl, HW1.out, HB1.out⟩
  case round =>
    clear HW1 HB1
    obtain ⟨j, hj, rfl, hs, bel⟩ := hrel
    have HH : Hid (HsOf wr F (ZZ.take j).flatten) := hs
    have BE : Hid (Below F wa wr) := bel
    by_cases hltj : j < k
    · have lt2 : (j : Int) < (k : Int) := by omega
      rcases HP.out with h0 | ⟨b, off, rfl, hp⟩
      · rw [h0] at HK; have := HK.out; simp at this; omega
      · obtain ⟨v, c1, c2, c3⟩ := hp j (by rw [← HK.out]; exact hltj)
        have hbF : b < F := by have := World.block_lt_of_cell? _ _ c1; have := HF.out; simp at *; omega
        have kc1 := (bel.cell (p := ⟨b, off + j, none⟩) hbF).trans c1
        have belw : Below wa.heap.size wa wr := by rw [← HF.out]; exact bel
        have cw := write_any F (ZZ.take j).flatten v (ZZ.getD j []) wr (HT.out.below bel hF) hs (c2.kept belw) c3 hF (by
          have h1 := HB0.out (j + 1)
          rw [flat_succ ZZ j (by rw [← HK.out]; exact hltj), List.length_append] at h1
          omega)
        rw [← flat_succ ZZ j (by rw [← HK.out]; exact hltj)] at cw
        obtain ⟨ad, cp, hv, -⟩ := c2
        subst hv
        have hFw : F ≤ wr.heap.size := by have := BE.out.size; have := HF.out; omega
        clear hs bel hp c1 c3 belw
        go_wp2_with fail
        refine cw.mono ?_
        rintro e w2 ⟨⟨u2, rfl⟩, h2, b2⟩
        have H2 : Hid (HsOf w2 F (ZZ.take (j + 1)).flatten) := h2
        have B2 : Hid (Below F wa w2) := BE.out.trans (b2.below (Nat.le_refl _) hFw)
        clear cw h2 b2
        go_wp2
        go_roundw
        case rel => exact ⟨j + 1, by omega, by go_num, H2.out, B2.out⟩
        case measure => simp [intOf]; omega
    · obtain rfl : j = k := by omega
      have hz : (ZZ.take j).flatten = ZZ.flatten := by rw [HK.out, List.take_length]
      rw [hz] at hs
      have cs := sum_any F ZZ.flatten wr (HT.out.below bel hF) hs (by have := HB0.out j; rw [hz] at this; exact this)
      have hFw : F ≤ wr.heap.size := by have := BE.out.size; have := HF.out; omega
      clear hs bel hz
      go_wp2_with fail
      refine cs.mono ?_
      rintro e w4 ⟨rfl, b4⟩
      have hB4 : Below F wa w4 := BE.out.trans (b4.mono hFw)
      have G4 : Hid (w4.heap[w.heap.size]? = some (.cells (u8s (List.replicate 32 0)) 47 (0, 0))) := (hB4.block _ hlt).trans HG0.out
      have B4 : Hid (Below w.heap.size w w4) := HBA.out.trans (hB4.mono (by omega))
      clear cs b4 hB4
      go_wp2_with (refine wpList_store_row rfl 47 _ _ rfl w.heap.size (u8s (Pl.sha ZZ.flatten)) rfl rfl 47 _ G4.out HI.out HO.out (u8s_one _) ?_)
      refine bodyPost_ret (v := .agg (u8s (Pl.sha ZZ.flatten))) (results_cell_row rfl _ _ w.heap.size 47 (u8s (Pl.sha ZZ.flatten)) (0, 0) _ rfl (setRow_heap _ _ _ _ _ _ G4.out) Tryz.underlying47 rfl HI.out) rfl ⟨rfl, below_setRow B4.out (Nat.le_refl _) _⟩
end Go.Proofs.YtiollhmbdhepkaaGreatDoor.Sh
namespace Go.Proofs.YtiollhmbdhepkaaGreatDoor.Sh
open Go.RowKit
set_option maxRecDepth 100000

theorem all_eq : ∀ (xs ys : List Int), xs.length = ys.length → ((List.range xs.length).all fun i => xs.getD i 0 == ys.getD i 0) = (xs == ys)
  | [], [], _ => rfl
  | x :: xs, y :: ys, h => by
    have ih := all_eq xs ys (by simpa using h)
    rw [List.length_cons, List.range_succ_eq_map, List.all_cons, List.all_map]
    simp only [List.getD_cons_zero, Function.comp_def, List.getD_cons_succ, ih]
    simp [List.cons_beq_cons]
  | [], _ :: _, h => by simp at h
  | _ :: _, [], h => by simp at h
theorem sizeOf5 : ∀ w, (sizeOf 5).run Tryz.prog w = .ok 1 w := by
  obtain ⟨i0, hi, hz0, hz1, hz2⟩ := info_parts info5'
  intro w
  simp [sizeOf, typeInfo, hi, hz1]
theorem eq_u8s (A B : List Int) (hA : A.length = 32) (hB : B.length = 32) (w : World) : (Op.equalIn 10000 47 (.agg (u8s A)) (.agg (u8s B))).run Tryz.prog w = .ok (A == B) w := by
  rw [← all_eq A B (hA.trans hB.symm), hA, List.range_eq_range', show (10000 : Nat) = 9999 + 1 from rfl, Op.equalIn]
  simp only [Sem.run_bind, run_underlying Tryz.underlying47, Result.andThen_ok, sizeOf5, Std.Legacy.Range.forIn_eq_forIn_range', Std.Legacy.Range.size, Nat.sub_zero, Nat.add_sub_cancel, Nat.div_one]
  have hl : ∀ i ∈ List.range' 0 32 1, i < 32 := fun i hi => by simpa using (List.mem_range'_1.1 hi).2
  generalize List.range' 0 32 1 = l at hl ⊢
  induction l with
  | nil => simp
  | cons i l ih =>
    have hi : i < 32 := hl i (by simp)
    have px : (part 5 (u8s A) (i * 1)).run Tryz.prog w = .ok (.int .u8 (A.getD i 0)) w := by
      simp [part, isAgg, run_underlying Tryz.underlying5, u8s_get A i (by omega)]
    have py : (part 5 (u8s B) (i * 1)).run Tryz.prog w = .ok (.int .u8 (B.getD i 0)) w := by
      simp [part, isAgg, run_underlying Tryz.underlying5, u8s_get B i (by omega)]
    have pe : (Op.equalIn 9999 5 (.int .u8 (A.getD i 0)) (.int .u8 (B.getD i 0))).run Tryz.prog w = .ok (A.getD i 0 == B.getD i 0) w := run_equalIn_int w 9998 5 .u8 .u8 _ _ Tryz.underlying5
    simp only [List.forIn_cons, Sem.run_bind, px, py, pe, Result.andThen_ok, List.all_cons]
    cases hb : (A.getD i 0 == B.getD i 0)
    · simp
    · simp only [Bool.not_true, Bool.false_eq_true, if_false, Sem.run_pure, Result.andThen_ok, Bool.true_and]
      exact ih fun j hj => hl j (by simp [hj])

/-- A variable that holds a sum. -/
def SX (X : Nat) (A : List Int) (x : World) : Prop := x.heap[X]? = some (.cells (u8s A) 47 (0, 0))
theorem SX.load {X : Nat} {A : List Int} (hA : A.length = 32) (x : World) (h : SX X A x) : (Instr.loadAt 47 (.pointer (some ⟨X, 0, none⟩))).run Tryz.prog x = .ok (.agg (u8s A)) x := by
  simp only [Instr.loadAt, Instr.sureAddr, Sem.run_bind, Sem.run_pure, Result.andThen_ok]
  exact run_loadVar_row x X 47 47 (u8s A) (0, 0) _ h Tryz.underlying47 rfl (by rw [u8s_size, hA]; exact size26)
theorem SX.alloc {X : Nat} {A : List Int} {x : World} (h : SX X A x) (o : Obj) : SX X A (x.alloc o) := by
  unfold SX at *
  have hl : X < x.heap.size := (Array.getElem?_eq_some_iff.1 h).1
  rw [Below.heap_alloc _ _ _ hl]; exact h
theorem SX.drew {X : Nat} {A : List Int} {x : World} (h : SX X A x) : SX X A x.drew := h
theorem SX.below {X B : Nat} {A : List Int} {x y : World} (h : SX X A x) (hb : Below B x y) (hX : X < B) : SX X A y := (hb.block X hX).trans h
end Go.Proofs.YtiollhmbdhepkaaGreatDoor.Sh
