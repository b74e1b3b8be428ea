/-
  What Sign answers.
-/
import Derived.Test.YtlhmpcmlpfffoaaDoorSc
import Derived.Test.YtlhmpcmlpfffoaaDoorBz
namespace Go.Proofs.YtlhmpcmlpfffoaaDoor
open Go.RowKit
set_option maxRecDepth 100000

/-- The block at a place. -/
def blk (b : List Int) (z j : Nat) : List Int := (b.drop (j * z)).take z
/-- The sums of the first blocks. -/
def sgs (b : List Int) (z n : Nat) : List Sg := (List.range n).map fun j => sumB (blk b z j)
theorem sgs_len (b : List Int) (z n : Nat) : (sgs b z n).length = n := by simp [sgs]
theorem sgs_succ (b : List Int) (z n : Nat) : sgs b z (n + 1) = sgs b z n ++ [sumB (blk b z n)] := by simp [sgs, List.range_succ]
theorem sgs_ok (b : List Int) (z n : Nat) : ∀ x ∈ sgs b z n, x.ok := fun x hx => by
  simp only [sgs, List.mem_map] at hx
  obtain ⟨j, _, rfl⟩ := hx
  exact sumB_ok _
/-- A file's sums. -/
def bsig (b : List Int) (z : Int) : List Sg × Int := if z < 1 ∨ 4096 < z then ([], 2) else if 65536 < b.length ∨ 4096 < b.length / z.toNat then ([], 5) else (sgs b z.toNat (b.length / z.toNat), 0)
theorem blk_le (L z j : Nat) (h : j < L / z) : (j + 1) * z ≤ L := by
  have h1 : (j + 1) * z ≤ L / z * z := Nat.mul_le_mul_right z h
  exact Nat.le_trans h1 (Nat.div_mul_le_self L z)
theorem blk_len (b : List Int) (z j : Nat) (h : (j + 1) * z ≤ b.length) : (blk b z j).length = z := by
  unfold blk
  rw [List.length_take, List.length_drop]
  have : (j + 1) * z = j * z + z := by rw [Nat.add_mul, Nat.one_mul]
  omega
/-- A block, as a slice. -/
theorem sl_blk {w : World} {bb off len cap : Nat} {b : List Int} (h : Sl w (.slice (some ⟨bb, off, none⟩) len cap) b) (z i j : Nat) (hi : i + z ≤ len) (hj : i = j * z) : Sl w (.slice (some ⟨bb, off + i, none⟩) z (cap - i)) (blk b z j) := by
  subst hj
  have h1 := h.drop (j * z) (by omega)
  exact h1.take z (by omega)
set_option maxHeartbeats 4000000 in
theorem sign_any (v : Value) (b : List Int) (z : Int) (w : World) (h : Sl w v b) (ht : Ta w) :
    Calls Tryd.prog 24 #[v, .int .i64 z] w fun e w' => ∃ v', e = .returned (.tuple #[v', .int .i64 (bsig b z).2]) ∧ RI w' w.heap.size v' (bsig b z).1 ∧ Below w.heap.size w w' := by
  have CM := maybe_any z w
  obtain ⟨a, c, rfl, h2, h3, h4, -⟩ := id h
  have HS : Hid (Sl w (.slice a b.length c) b) := h
  have HT : Hid (Ta w) := ht
  have HM : Hid (bsig b z = if z < 1 ∨ 4096 < z then ([], 2) else if 65536 < b.length ∨ 4096 < b.length / z.toNat then ([], 5) else (sgs b z.toNat (b.length / z.toNat), 0)) := rfl
  obtain ⟨L, hL⟩ : ∃ L, L = b.length := ⟨_, rfl⟩
  have HL : Hid (L = b.length) := hL
  rw [← hL] at HS HM h2 ⊢
  clear h ht hL h4
  generalize bsig b z = R at *
  by_cases h1 : z < 1 ∨ 4096 < z
  · obtain rfl : R = ([], 2) := by have := HM.out; rwa [if_pos h1] at this
    rw [decide_eq_false (by omega)] at CM
    clear h1 HM
    go_enter Tryd.func24, Tryd.ntmps24
    go_wp2_with fail
    refine CM.mono ?_
    rintro e w1 ⟨rfl, rfl⟩
    clear CM
    go_wp2
    go_ret2
    exact ⟨_, rfl, RI.nil _ _, Below.refl _ _⟩
  rw [decide_eq_true (by omega)] at CM
  obtain ⟨zn, rfl⟩ : ∃ k : Nat, z = k := ⟨z.toNat, by omega⟩
  have hm : L ≤ 9223372036854775807 := by unfold maxLen at h3; omega
  have CC := count_any zn L w (by omega) hm
  have HM2 : Hid (R = if 65536 < L ∨ 4096 < L / zn then ([], 5) else (sgs b zn (L / zn), 0)) := by
    have := HM.out
    rw [if_neg h1, Int.toNat_natCast] at this
    exact this
  have z1 : 1 ≤ zn := by omega
  have z2 : zn ≤ 4096 := by omega
  have HBL : Hid (∀ j, j < L / zn → (j + 1) * zn ≤ L) := fun j hj => blk_le L zn j hj
  clear HM h1
  generalize L / zn = q at *
  by_cases h5 : 65536 < L ∨ 4096 < q
  · obtain rfl : R = ([], 5) := by have := HM2.out; rwa [if_pos h5] at this
    clear HM2
    by_cases h6 : 65536 < L
    · have h7 : 65536 < (L : Int) := by omega
      clear h5
      go_enter Tryd.func24, Tryd.ntmps24
      go_wp2_with fail
      refine CM.mono ?_
      rintro e w1 ⟨rfl, rfl⟩
      clear CM
      go_wp2_with fail
      refine CC.mono ?_
      rintro e w1 ⟨rfl, rfl⟩
      clear CC
      go_wp2
      go_ret2
      exact ⟨_, rfl, RI.nil _ _, Below.refl _ _⟩
    · have h7 : ¬ 65536 < (L : Int) := by omega
      have h8 : 4096 < (q : Int) := by omega
      clear h5
      go_enter Tryd.func24, Tryd.ntmps24
      go_wp2_with fail
      refine CM.mono ?_
      rintro e w1 ⟨rfl, rfl⟩
      clear CM
      go_wp2_with fail
      refine CC.mono ?_
      rintro e w1 ⟨rfl, rfl⟩
      clear CC
      go_wp2
      go_ret2
      exact ⟨_, rfl, RI.nil _ _, Below.refl _ _⟩
  · obtain rfl : R = (sgs b zn q, 0) := by have := HM2.out; rwa [if_neg h5] at this
    have h7 : ¬ 65536 < (L : Int) := by omega
    have h8 : ¬ 4096 < (q : Int) := by omega
    have hq : q ≤ 4096 := by omega
    have hl : L ≤ 65536 := by omega
    clear HM2 h5
    go_enter Tryd.func24, Tryd.ntmps24
    go_wp2_with fail
    refine CM.mono ?_
    rintro e w1 ⟨rfl, hq0⟩
    replace hq0 := hq0.symm
    subst hq0
    clear CM
    go_wp2_with fail
    refine CC.mono ?_
    rintro e w1 ⟨rfl, hq0⟩
    replace hq0 := hq0.symm
    subst hq0
    clear CC
    go_wp2
    go_loopw [7, 24] (fun s p wr => ∃ j : Nat, j ≤ q ∧ p = .int .i64 j ∧ RI wr w.heap.size s (sgs b zn j) ∧ Below w.heap.size w wr) (fun _ p _ => q - (intOf p).toNat)
    case atStart => exact ⟨0, by omega, rfl, RI.nil _ _, Below.refl _ _⟩
    case round =>
      obtain ⟨j, hj, rfl, oe, bel⟩ := hrel
      have HB : Hid (Below w.heap.size w wr) := bel
      have HO : Hid (RI wr w.heap.size u7 (sgs b zn j)) := oe
      obtain ⟨va, vc, rfl, -⟩ := oe.is.shape
      rw [sgs_len] at HO ⊢
      clear bel oe
      by_cases hlt : j < q
      · have lt2 : (j : Int) < (q : Int) := by omega
        have hbl := HBL.out j hlt
        have e1 : (j + 1) * zn = j * zn + zn := by rw [Nat.add_mul, Nat.one_mul]
        obtain ⟨i, hi⟩ : ∃ i, i = j * zn := ⟨_, rfl⟩
        rw [e1, ← hi] at hbl
        have m1 : (j : Int) * (zn : Int) = (i : Int) := by rw [hi, Int.natCast_mul]
        have m2 : ((j : Int) + 1) * (zn : Int) = ((i + zn : Nat) : Int) := by rw [Int.add_mul, Int.one_mul, m1]; omega
        have hs := HS.out.kept HB.out
        obtain ⟨bb, off, rfl⟩ : ∃ bb off, a = some ⟨bb, off, none⟩ := by
          obtain ⟨a', c', e, _, _, _, hr⟩ := hs
          cases e
          rcases hr with hr | ⟨_, bb, off, e, _⟩
          · have := HL.out; omega
          · exact ⟨bb, off, e⟩
        have hsl := sl_blk hs zn i j hbl hi
        have CO := sumsOf_any _ _ wr hsl (HT.out.kept HB.out) (by rw [blk_len b zn j (by rw [e1, ← hi, ← HL.out]; exact hbl)]; omega)
        have HT1 : Hid (sgs b zn (j + 1) = sgs b zn j ++ [sumB (blk b zn j)]) := sgs_succ b zn j
        have HY : Hid (Sg.ok (sumB (blk b zn j))) := sumB_ok _
        have HJ : Hid ((sgs b zn j).length = j) := sgs_len _ _ _
        clear hs hsl e1
        have HI : Hid (i = j * zn) := hi
        clear hi
        generalize sumB (blk b zn j) = y at *
        generalize sgs b zn j = LL at *
        unfold Sg.val at CO
        have n1 : (0 : Int) ≤ (i : Int) := by omega
        have n2 : (i : Int) ≤ ((i + zn : Nat) : Int) := by omega
        have n3 : ((i + zn : Nat) : Int) ≤ (c : Int) := by omega
        have n4 : (i + zn) - i = zn := by omega
        go_wp2_with fail
        refine CO.mono ?_
        rintro e w2 ⟨rfl, b2⟩
        clear CO
        obtain ⟨W3, hW3⟩ : ∃ W3, W3 = w2.alloc (.cells y.cells.toArray 57) := ⟨_, rfl⟩
        have b3 : Below w2.heap.size w2 W3 := by rw [hW3]; exact al_below _ _
        have b13 : Below wr.heap.size wr W3 := b2.trans (b3.mono b2.size)
        have B3 : Hid (Below w.heap.size w W3) := HB.out.trans (b13.mono HB.out.size)
        have R3 : Hid (RI W3 w.heap.size (.slice va j vc) LL) := HO.out.below b13
        have K3 : Hid (W3.rangeAt w2.heap.size 0 y.cells) := by unfold Hid; rw [hW3]; exact (IB.new w2 y).range
        clear b2 b3 b13 HO
        go_wp2_with (refine wpList_bsI rfl _ rfl y HY.out rfl (Hid.out ?_))
        unfold Hid
        rw [← hW3]
        clear hW3
        go_wp2_with (at_builtin; refine wpList_append_it rfl _ _ rfl w.heap.size _ LL rfl R3.out w2.heap.size y 1 HY.out rfl K3.out (by rw [HJ.out]; omega) B3.out.size (Hid.out ?_))
        unfold Hid
        intro v4 w4 r4 g4
        have B4 : Hid (Below w.heap.size w w4) := B3.out.grown g4 B3.out.size (own_base R3.out.1)
        have O4 : Hid (RI w4 w.heap.size v4 (sgs b zn (j + 1))) := by
          unfold Hid
          rw [HT1.out]
          exact r4
        clear r4 g4 R3 K3
        go_wp2
        go_roundw
        case rel => exact ⟨j + 1, by omega, by go_num, O4.out, B4.out⟩
        case measure => simp [intOf]; omega
      · obtain rfl : j = q := by omega
        go_wp2
        go_ret2
        exact ⟨_, rfl, HO.out, HB.out⟩
end Go.Proofs.YtlhmpcmlpfffoaaDoor
