/-
  What every right program tells of eight bytes.
-/
import Derived.Test.YtjiefndjgkhcjaaDoorNw
import Derived.Test.YtjiefndjgkhcjaaDoorFd
import Derived.Lib.SlBytesConst
namespace Go.Proofs.YtjiefndjgkhcjaaDoor
open Go.RowKit Go.Maps
set_option maxRecDepth 100000

theorem conv_last (w : World) (C : Array Value) (n c : Nat) : (convert 22 22 (.slice (some ⟨w.heap.size, 0, none⟩) n c)).run Tryd.prog (w.alloc (.cells C 5)) = .ok (.slice (some ⟨w.heap.size, 0, none⟩) n c) (w.alloc (.cells C 5 (C.size, C.size + 1))) :=
  Lib.run_convert_bytes_const w 22 5 C n c Tryd.underlying22 Tryd.underlying5
/-- Bytes of a constant, as a slice. -/
theorem sl_const (w : World) (X : List Int) (m : Nat × Nat) (hX : X.all (fun z => 0 ≤ z && z < 256) = true) (hl : X.length ≤ maxLen) : Sl (w.alloc (.cells (X.map (Value.int .u8)).toArray 5 m)) (.slice (some ⟨w.heap.size, 0, none⟩) X.length X.length) X := by
  refine ⟨_, X.length, rfl, Nat.le_refl _, hl, (fun e => by cases e), ?_⟩
  rcases Nat.eq_zero_or_pos X.length with h0 | hp
  · exact .inl h0
  · refine .inr ⟨hp, w.heap.size, 0, rfl, Nat.le_refl _, hl, fun i hi => ?_, byteList X hX⟩
    rw [cell_of_row _ _ _ _ _ _ (heap_alloc_new _ _)]
    simp [List.getD, hi]
def aw8 : List Int := [97, 98, 99, 100, 101, 102, 103, 104]
def awl : List Sg := [sumB [97, 98, 99], sumB [100, 101, 102]]
theorem aw_sig : bsig aw8 3 = (awl, 0) := by
  unfold bsig
  rw [if_neg (by decide), if_neg (by decide)]
  rfl
theorem aw_chk : chk 3 8 2 = 0 := by decide
theorem aw_rs : ¬ Ro.rs [97, 98, 99] = Ro.rs [100, 101, 102] := by decide
theorem aw_fi : fi awl (Ro.rs [100, 101, 102]) (Sh.Pl.sha [100, 101, 102]) = 1 := by
  unfold fi awl
  rw [List.findIdx_cons]
  have h1 : decide ((sumB [97, 98, 99]).k = Ro.rs [100, 101, 102]) = false := decide_eq_false aw_rs
  rw [h1, Bool.false_and, cond_false, List.findIdx_cons]
  have h2 : decide ((sumB [100, 101, 102]).k = Ro.rs [100, 101, 102]) = true := decide_eq_true rfl
  have h3 : decide ((sumB [100, 101, 102]).s = Sh.Pl.sha [100, 101, 102]) = true := decide_eq_true rfl
  rw [h2, h3]
  rfl
theorem aw_fnd : bfnd awl 3 [100, 101, 102] = (3, true) := by
  unfold bfnd
  rw [aw_fi, if_pos ⟨rfl, by decide⟩]
  rfl
theorem aw_no : bfnd awl 3 [103, 104] = (0, false) := by
  unfold bfnd
  rw [if_neg (fun h => by have := h.1; revert this; decide)]
theorem aw_s0 : bsz 0 = 16 := by decide
theorem aw_s1 : bsz 257 = 32 := by decide
theorem aw_s2 : bsz 65536 = 256 := by decide
set_option maxHeartbeats 4000000 in
theorem awake_any (w : World) (ht : Ta w) : Calls Tryd.prog 9 #[] w fun e w' => e = .returned (.bool true) ∧ Below w.heap.size w w' := by
  obtain ⟨W1, hW1⟩ : ∃ W1, W1 = w.alloc (.cells (aw8.map (Value.int .u8)).toArray 5 (8, 9)) := ⟨_, rfl⟩
  have b1 : Below w.heap.size w W1 := by rw [hW1]; exact al_below _ _
  have s1 : Sl W1 (.slice (some ⟨w.heap.size, 0, none⟩) 8 8) aw8 := by rw [hW1]; exact sl_const w aw8 (8, 9) (by decide) (by unfold maxLen; decide)
  have CS1 := sign_any _ aw8 3 W1 s1 (ht.kept b1)
  rw [aw_sig] at CS1
  have hcv := conv_last w #[.int .u8 97, .int .u8 98, .int .u8 99, .int .u8 100, .int .u8 101, .int .u8 102, .int .u8 103, .int .u8 104] 8 8
  have hw1 : w.alloc (.cells #[.int .u8 97, .int .u8 98, .int .u8 99, .int .u8 100, .int .u8 101, .int .u8 102, .int .u8 103, .int .u8 104] 5 (8, 8 + 1)) = W1 := hW1.symm
  have HB1 : Hid (Below w.heap.size w W1) := b1
  have HT : Hid (Ta w) := ht
  clear hW1 b1 s1 ht
  go_enter Tryd.func9, Tryd.ntmps9
  go_wp2_with fail
  try rw [hw1]
  clear hw1 hcv
  refine CS1.mono ?_
  rintro e w2 ⟨v2, rfl, r2, b2⟩
  clear CS1
  have B2 : Hid (Below w.heap.size w w2) := HB1.out.trans (b2.mono HB1.out.size)
  have CN := new_any 3 8 v2 awl w2 r2.is (by decide)
  obtain ⟨a2, c2, rfl, -⟩ := r2.is.shape
  have el : awl.length = 2 := rfl
  rw [el] at CN ⊢
  rw [aw_chk] at CN
  clear r2 b2 HB1 el
  go_wp2_with fail
  refine CN.mono ?_
  rintro e w3 ⟨v3, rfl, n3, b3⟩
  clear CN
  have B3 : Hid (Below w.heap.size w w3) := B2.out.trans (b3.mono B2.out.size)
  unfold NX at n3
  rw [if_pos (by decide)] at n3
  obtain ⟨g, m, rfl, ix⟩ := n3
  have I3 : Hid (∀ x, Below w3.heap.size w3 x → IX x w2.heap.size g m 3 2 awl) := fun x hx => ix.kept hx
  obtain ⟨W4, hW4⟩ : ∃ W4, W4 = w3.alloc (.cells #[.int .u8 100, .int .u8 101, .int .u8 102] 5 (3, 3 + 1)) := ⟨_, rfl⟩
  have b4 : Below w3.heap.size w3 W4 := by rw [hW4]; exact al_below _ _
  have B4 : Hid (Below w.heap.size w W4) := B3.out.trans (b4.mono B3.out.size)
  have s4 : Sl W4 (.slice (some ⟨w3.heap.size, 0, none⟩) 3 3) [100, 101, 102] := by rw [hW4]; exact sl_const w3 [100, 101, 102] (3, 4) (by decide) (by unfold maxLen; decide)
  have CF := find_any W4 w2.heap.size g m 3 2 awl (I3.out _ b4) _ [100, 101, 102] s4 (HT.out.kept B4.out) (by decide)
  rw [aw_fnd] at CF
  have hcv := conv_last w3 #[.int .u8 100, .int .u8 101, .int .u8 102] 3 3
  have hw4 : w3.alloc (.cells #[.int .u8 100, .int .u8 101, .int .u8 102] 5 (3, 3 + 1)) = W4 := hW4.symm
  have B34 : Hid (Below w3.heap.size w3 W4) := b4
  clear hW4 b4 s4 ix b3 B2 B3
  go_wp2_with fail
  try rw [hw4]
  clear hw4 hcv
  refine CF.mono ?_
  rintro e w5 ⟨rfl, b5⟩
  clear CF
  have B5 : Hid (Below w.heap.size w w5) := B4.out.trans (b5.mono B4.out.size)
  have B35 : Hid (Below w3.heap.size w3 w5) := B34.out.trans (b5.mono B34.out.size)
  obtain ⟨W6, hW6⟩ : ∃ W6, W6 = w5.alloc (.cells #[.int .u8 103, .int .u8 104] 5 (2, 2 + 1)) := ⟨_, rfl⟩
  have b6 : Below w5.heap.size w5 W6 := by rw [hW6]; exact al_below _ _
  have B6 : Hid (Below w.heap.size w W6) := B5.out.trans (b6.mono B5.out.size)
  have B36 : Hid (Below w3.heap.size w3 W6) := B35.out.trans (b6.mono B35.out.size)
  have s6 : Sl W6 (.slice (some ⟨w5.heap.size, 0, none⟩) 2 2) [103, 104] := by rw [hW6]; exact sl_const w5 [103, 104] (2, 3) (by decide) (by unfold maxLen; decide)
  have CF := find_any W6 w2.heap.size g m 3 2 awl (I3.out _ B36.out) _ [103, 104] s6 (HT.out.kept B6.out) (by decide)
  rw [aw_no] at CF
  have hcv := conv_last w5 #[.int .u8 103, .int .u8 104] 2 2
  have hw6 : w5.alloc (.cells #[.int .u8 103, .int .u8 104] 5 (2, 2 + 1)) = W6 := hW6.symm
  clear hW6 b6 s6 b5 B4 B34 B35 B5
  go_wp2_with fail
  try rw [hw6]
  clear hw6 hcv
  refine CF.mono ?_
  rintro e w7 ⟨rfl, b7⟩
  clear CF
  have B7 : Hid (Below w.heap.size w w7) := B6.out.trans (b7.mono B6.out.size)
  have B37 : Hid (Below w3.heap.size w3 w7) := B36.out.trans (b7.mono B36.out.size)
  obtain ⟨n7, g7⟩ := I3.out w7 B37.out
  have CL := ilen_any w7 _ _ _ _ _ _ _ _ g7
  have CZ := isize_any w7 _ _ _ _ _ _ _ _ g7
  have C0 := size_any 0 w7
  have C1 := size_any 257 w7
  have C2 := size_any 65536 w7
  rw [aw_s0] at C0
  rw [aw_s1] at C1
  rw [aw_s2] at C2
  clear g7 b7 B6 B36 B37 I3
  go_wp2_with fail
  refine CL.mono ?_
  rintro e w8 ⟨rfl, hq⟩
  replace hq := hq.symm
  subst hq
  clear CL
  go_wp2_with fail
  refine CZ.mono ?_
  rintro e w8 ⟨rfl, hq⟩
  replace hq := hq.symm
  subst hq
  clear CZ
  go_wp2_with fail
  refine C0.mono ?_
  rintro e w8 ⟨rfl, hq⟩
  replace hq := hq.symm
  subst hq
  clear C0
  go_wp2_with fail
  refine C1.mono ?_
  rintro e w8 ⟨rfl, hq⟩
  replace hq := hq.symm
  subst hq
  clear C1
  go_wp2_with fail
  refine C2.mono ?_
  rintro e w8 ⟨rfl, hq⟩
  replace hq := hq.symm
  subst hq
  clear C2
  go_wp2
  go_ret
  exact ⟨rfl, B7.out⟩
end Go.Proofs.YtjiefndjgkhcjaaDoor
