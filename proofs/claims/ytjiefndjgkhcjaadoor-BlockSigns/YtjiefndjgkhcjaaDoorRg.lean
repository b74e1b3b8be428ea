/-
  What the document's Sign and Same answer.
-/
import Derived.Test.YtjiefndjgkhcjaaDoorSi
import Derived.Test.YtjiefndjgkhcjaaDoorShROf
import Derived.Test.YtjiefndjgkhcjaaDoorRoRef
namespace Go.Proofs.YtjiefndjgkhcjaaDoor
open Go.RowKit
set_option maxRecDepth 100000

set_option maxHeartbeats 4000000 in
theorem rsign_any (v : Value) (b : List Int) (z : Int) (w : World) (h : Sl w v b) :
    Calls Tryd.prog 11 #[v, .int .i64 z] w fun e w' => ∃ v', e = .returned (.tuple #[v', .int .i64 (bsig b z).2]) ∧ RI w' w.heap.size v' (bsig b z).1 ∧ Below w.heap.size w w' := by
  obtain ⟨a, c, rfl, h2, h3, h4, -⟩ := id h
  have HS : Hid (Sl w (.slice a b.length c) b) := h
  have HM : Hid (bsig b z = if z < 1 ∨ 4096 < z then ([], 2) else if 65536 < b.length ∨ 4096 < b.length / z.toNat then ([], 5) else (sgs b z.toNat (b.length / z.toNat), 0)) := rfl
  obtain ⟨L, hL⟩ : ∃ L, L = b.length := ⟨_, rfl⟩
  have HL : Hid (L = b.length) := hL
  rw [← hL] at HS HM h2 ⊢
  clear h hL h4
  generalize bsig b z = R at *
  by_cases h1 : z < 1 ∨ 4096 < z
  · obtain rfl : R = ([], 2) := by have := HM.out; rwa [if_pos h1] at this
    clear HM
    by_cases h6 : z < 1
    · clear h1
      go_enter Tryd.func11, Tryd.ntmps11
      go_wp2
      go_ret2
      exact ⟨_, rfl, RI.nil _ _, Below.refl _ _⟩
    · have h7 : 4096 < z := by omega
      clear h1
      go_enter Tryd.func11, Tryd.ntmps11
      go_wp2
      go_ret2
      exact ⟨_, rfl, RI.nil _ _, Below.refl _ _⟩
  have y1 : ¬ z < 1 := by omega
  have y2 : ¬ 4096 < z := by omega
  obtain ⟨zn, rfl⟩ : ∃ k : Nat, z = k := ⟨z.toNat, by omega⟩
  have hm : L ≤ 9223372036854775807 := by unfold maxLen at h3; omega
  have HM2 : Hid (R = if 65536 < L ∨ 4096 < L / zn then ([], 5) else (sgs b zn (L / zn), 0)) := by
    have := HM.out
    rw [if_neg h1, Int.toNat_natCast] at this
    exact this
  have z1 : 1 ≤ zn := by omega
  have z2 : zn ≤ 4096 := by omega
  have HBL : Hid (∀ j, j < L / zn → (j + 1) * zn ≤ L) := fun j hj => blk_le L zn j hj
  have HDV : Hid (∀ j, (j + 1) * zn ≤ L → j < L / zn) := fun j hj => by
    rw [Nat.lt_iff_add_one_le, Nat.le_div_iff_mul_le (by omega)]
    exact hj
  have g3 : ¬ (zn : Int) = 0 := by omega
  have g4 : Int.tdiv (L : Int) (zn : Int) = ((L / zn : Nat) : Int) := (Int.ofNat_tdiv L zn).symm
  have g4' : (L : Int) / (zn : Int) = ((L / zn : Nat) : Int) := (Int.natCast_ediv L zn).symm
  have g5 : L / zn ≤ L := Nat.div_le_self L zn
  clear HM h1
  generalize L / zn = q at *
  by_cases h5 : 65536 < L ∨ 4096 < q
  · obtain rfl : R = ([], 5) := by have := HM2.out; rwa [if_pos h5] at this
    clear HM2
    by_cases h6 : 65536 < L
    · have h7 : 65536 < (L : Int) := by omega
      clear h5
      go_enter Tryd.func11, Tryd.ntmps11
      go_wp2
      go_ret2
      exact ⟨_, rfl, RI.nil _ _, Below.refl _ _⟩
    · have h7 : ¬ 65536 < (L : Int) := by omega
      have h8 : 4096 < (q : Int) := by omega
      clear h5
      go_enter Tryd.func11, Tryd.ntmps11
      go_wp2
      go_ret2
      exact ⟨_, rfl, RI.nil _ _, Below.refl _ _⟩
  · obtain rfl : R = (sgs b zn q, 0) := by have := HM2.out; rwa [if_neg h5] at this
    have h7 : ¬ 65536 < (L : Int) := by omega
    have h8 : ¬ 4096 < (q : Int) := by omega
    have hq : q ≤ 4096 := by omega
    have hl : L ≤ 65536 := by omega
    clear HM2 h5
    go_enter Tryd.func11, Tryd.ntmps11
    go_wp2
    go_loopw [6, 7] (fun s p wr => ∃ j i : Nat, i = j * zn ∧ j ≤ q ∧ p = .int .i64 i ∧ RI wr w.heap.size s (sgs b zn j) ∧ Below w.heap.size w wr) (fun _ p _ => L + 1 - (intOf p).toNat)
    case atStart => exact ⟨0, 0, by omega, by omega, rfl, RI.nil _ _, Below.refl _ _⟩
    case round =>
      obtain ⟨j, i, hi, hj, rfl, oe, bel⟩ := hrel
      have HB : Hid (Below w.heap.size w wr) := bel
      have HO : Hid (RI wr w.heap.size u6 (sgs b zn j)) := oe
      obtain ⟨va, vc, rfl, -⟩ := oe.is.shape
      rw [sgs_len] at HO ⊢
      have HI : Hid (i = j * zn) := hi
      have e1 : (j + 1) * zn = i + zn := by rw [Nat.add_mul, Nat.one_mul, hi]
      have HE1 : Hid ((j + 1) * zn = i + zn) := e1
      clear bel oe hi
      by_cases hlt : j < q
      · have hbl := HBL.out j hlt
        rw [e1] at hbl
        have lt2 : (i : Int) + (zn : Int) ≤ (L : Int) := by omega
        have hs := HS.out.kept HB.out
        obtain ⟨bb, off, rfl⟩ : ∃ bb off, a = some ⟨bb, off, none⟩ := by
          obtain ⟨a', c', e, _, _, _, hr⟩ := hs
          cases e
          rcases hr with hr | ⟨_, bb, off, e, _⟩
          · have := HL.out; omega
          · exact ⟨bb, off, e⟩
        have HSB : Hid (∀ x, Below w.heap.size w x → Sl x (.slice (some ⟨bb, off + i, none⟩) zn (c - i)) (blk b zn j)) := fun x hx => sl_blk (HS.out.kept hx) zn i j hbl HI.out
        have hbk := blk_len b zn j (by rw [HE1.out, ← HL.out]; exact hbl)
        have C1 := Ro.rsum_any _ (blk b zn j) wr (HSB.out wr HB.out)
        have C2 := Sh.rof_any _ (blk b zn j) wr (HSB.out wr HB.out) (by omega)
        have HBF : Hid (Tryd.prog.built 57 [(0, .int .u32 (Ro.rs (blk b zn j))), (1, .agg (u8c (Sh.Pl.sha (blk b zn j))))] = some (sumB (blk b zn j)).cells.toArray) := builtF _ _ (Sh.sha_len _)
        have HT1 : Hid (sgs b zn (j + 1) = sgs b zn j ++ [sumB (blk b zn j)]) := sgs_succ b zn j
        have HY : Hid (Sg.ok (sumB (blk b zn j))) := sumB_ok _
        have HJ : Hid ((sgs b zn j).length = j) := sgs_len _ _ _
        rw [u8_eq] at C2
        clear hs e1 hbk HSB
        generalize sumB (blk b zn j) = y at *
        generalize sgs b zn j = LL at *
        generalize Ro.rs (blk b zn j) = kk at *
        generalize Sh.Pl.sha (blk b zn j) = SS at *
        have n1 : (0 : Int) ≤ (i : Int) := by omega
        have n2 : (i : Int) ≤ ((i + zn : Nat) : Int) := by omega
        have n3 : ((i + zn : Nat) : Int) ≤ (c : Int) := by omega
        have n4 : (i + zn) - i = zn := by omega
        go_wp2_with fail
        refine C1.mono ?_
        rintro e w5 ⟨rfl, hq5⟩
        replace hq5 := hq5.symm
        subst hq5
        clear C1
        go_wp2_with fail
        refine C2.mono ?_
        rintro e w2 ⟨rfl, b2⟩
        clear C2
        obtain ⟨W3, hW3⟩ : ∃ W3, W3 = w2.alloc (.cells y.cells.toArray 57) := ⟨_, rfl⟩
        have b3 : Below w2.heap.size w2 W3 := by rw [hW3]; exact al_below _ _
        have b13 : Below wr.heap.size wr W3 := b2.trans (b3.mono b2.size)
        have B3 : Hid (Below w.heap.size w W3) := HB.out.trans (b13.mono HB.out.size)
        have R3 : Hid (RI W3 w.heap.size (.slice va j vc) LL) := HO.out.below b13
        have K3 : Hid (W3.rangeAt w2.heap.size 0 y.cells) := by unfold Hid; rw [hW3]; exact (IB.new w2 y).range
        clear b2 b3 b13 HO
        go_wp2_with (refine wpList_built rfl 57 [(0, _), (1, _)] rfl _ rfl y.cells.toArray HBF.out (Hid.out ?_))
        unfold Hid
        go_wp2_with (refine wpList_bsI rfl _ rfl y HY.out rfl (Hid.out ?_))
        unfold Hid
        rw [← hW3]
        clear hW3
        go_wp2_with (at_builtin; refine wpList_append_it rfl _ _ rfl w.heap.size _ LL rfl R3.out w2.heap.size y 1 HY.out rfl K3.out (by rw [HJ.out]; omega) B3.out.size (Hid.out ?_))
        unfold Hid
        intro v4 w4 r4 g4x
        have B4 : Hid (Below w.heap.size w w4) := B3.out.grown g4x B3.out.size (own_base R3.out.1)
        have O4 : Hid (RI w4 w.heap.size v4 (sgs b zn (j + 1))) := by
          unfold Hid
          rw [HT1.out]
          exact r4
        clear r4 g4x R3 K3
        go_wp2
        go_roundw
        case rel => exact ⟨j + 1, i + zn, HE1.out.symm, by omega, by go_num, O4.out, B4.out⟩
        case measure => simp [intOf]; omega
      · obtain rfl : j = q := by omega
        have hnl : ¬ i + zn ≤ L := fun h => hlt (HDV.out j (by rw [e1]; exact h))
        have lt2 : ¬ (i : Int) + (zn : Int) ≤ (L : Int) := by omega
        have hiL : i ≤ 16777216 := by rw [HI.out]; exact Nat.le_trans (Nat.mul_le_mul hq z2) (by omega)
        clear e1
        go_wp2
        go_ret2
        exact ⟨_, rfl, HO.out, HB.out⟩
end Go.Proofs.YtjiefndjgkhcjaaDoor
