/-
  What every right program makes of one pair of trees.
-/
import Derived.Test.YtajcabfeabbknaaGreatDoorPn
import Derived.Test.YtajcabfeabbknaaGreatDoorAp
import Derived.Test.YtajcabfeabbknaaGreatDoorPq
import Derived.Test.YtajcabfeabbknaaGreatDoorAf
import Derived.Test.YtajcabfeabbknaaGreatDoorRh
namespace Go.Proofs.YtajcabfeabbknaaGreatDoor
open Go.RowKit

def sA : ByteArray := ⟨#[97]⟩
def sB : ByteArray := ⟨#[98]⟩
def sAt : ByteArray := ⟨#[97, 126]⟩
def sBt : ByteArray := ⟨#[98, 126]⟩
def tN : ByteArray := ⟨#[110, 101, 119]⟩
def tO : ByteArray := ⟨#[111, 108, 100]⟩
def tX : ByteArray := ⟨#[120]⟩
def aN : En := ⟨sA, false, sb tN⟩
def aO : En := ⟨sA, false, sb tO⟩
def bX : En := ⟨sB, false, sb tX⟩
def aT : En := ⟨sAt, false, sb tO⟩
def bT : En := ⟨sBt, false, sb tX⟩
def PP : Pol := ⟨true, true⟩
theorem aw1 : want [aN] [aO, bX] PP = ([aN, aT, bT], 0) := by rfl
theorem aw2 : plan [aN] [aO, bX] PP = ([⟨0, sA, sAt⟩, ⟨0, sB, sBt⟩, ⟨1, sB, ⟨#[]⟩⟩, ⟨3, sA, ⟨#[]⟩⟩], 0) := by rfl
theorem aw3 : apl [aO, bX] ⟨3, sA, ⟨#[]⟩⟩ [aN] = ([aN, bX], 0) := by rfl
theorem aw4 : pth [aO, bX] [aN, aT, bT] sA aO true = true := by rfl
theorem lt_of {l : List En} (h : l.length ≤ 100) (h2 : ∀ x ∈ l, x.p.size ≤ 1000 ∧ x.z.length ≤ 100000) : Lt l := ⟨h, h2⟩
theorem aL1 : Lt [aN] := ⟨by decide, fun x hx => by simp only [List.mem_cons, List.not_mem_nil, or_false] at hx; rw [hx]; decide⟩
theorem aL2 : Lt [aO, bX] := ⟨by decide, fun x hx => by
  simp only [List.mem_cons, List.not_mem_nil, or_false] at hx
  rcases hx with hx | hx <;> rw [hx] <;> decide⟩
theorem aL3 : Lt [aN, aT, bT] := ⟨by decide, fun x hx => by
  simp only [List.mem_cons, List.not_mem_nil, or_false] at hx
  rcases hx with hx | hx | hx <;> rw [hx] <;> decide⟩
theorem es_two {w : World} {g : Nat} {x y : En} {u v : Value} (h : w.heap[g]? = some (.cells #[.string x.p, .bool x.d, u, .string y.p, .bool y.d, v] 46 (0, 0))) (hu : Sl w u x.z) (hv : Sl w v y.z) : ES w (.slice (some ⟨g, 0, none⟩) 2 2) [x, y] := by
  refine ⟨fun i => if i = 0 then u else v, _, 2, rfl, Nat.le_refl _, by unfold maxLen; omega, (fun e => by cases e), .inr ⟨g, 0, rfl, fun i hi => ?_⟩⟩
  rcases (show i = 0 ∨ i = 1 by simp at hi; omega) with rfl | rfl
  · refine ⟨?_, ?_, ?_, hu⟩ <;> simp [World.cell?, h]
  · refine ⟨?_, ?_, ?_, hv⟩ <;> simp [World.cell?, h]
theorem es_three {w : World} {g : Nat} {x y z : En} {u v t : Value} (h : w.heap[g]? = some (.cells #[.string x.p, .bool x.d, u, .string y.p, .bool y.d, v, .string z.p, .bool z.d, t] 46 (0, 0))) (hu : Sl w u x.z) (hv : Sl w v y.z) (ht : Sl w t z.z) : ES w (.slice (some ⟨g, 0, none⟩) 3 3) [x, y, z] := by
  refine ⟨fun i => if i = 0 then u else if i = 1 then v else t, _, 3, rfl, Nat.le_refl _, by unfold maxLen; omega, (fun e => by cases e), .inr ⟨g, 0, rfl, fun i hi => ?_⟩⟩
  rcases (show i = 0 ∨ i = 1 ∨ i = 2 by simp at hi; omega) with rfl | rfl | rfl
  · refine ⟨?_, ?_, ?_, hu⟩ <;> simp [World.cell?, h]
  · refine ⟨?_, ?_, ?_, hv⟩ <;> simp [World.cell?, h]
  · refine ⟨?_, ?_, ?_, ht⟩ <;> simp [World.cell?, h]
set_option maxHeartbeats 8000000 in
set_option maxRecDepth 100000 in
theorem awake_any (w : World) (hm : Mx w) :
    Calls Tryz.prog 6 #[] w fun e w' => e = .returned (.bool true) ∧ Below w.heap.size w w' := by
  have F1 : Hid (∀ W, Calls Tryz.prog 18 #[.string ⟨#[97]⟩, .string ⟨#[110, 101, 119]⟩] W fun e w' => ∃ u, e = .returned u ∧ EV w' u aN ∧ Below W.heap.size W w') := fun W => file_any sA tN W (by decide)
  have F2 : Hid (∀ W, Calls Tryz.prog 18 #[.string ⟨#[97]⟩, .string ⟨#[111, 108, 100]⟩] W fun e w' => ∃ u, e = .returned u ∧ EV w' u aO ∧ Below W.heap.size W w') := fun W => file_any sA tO W (by decide)
  have F3 : Hid (∀ W, Calls Tryz.prog 18 #[.string ⟨#[98]⟩, .string ⟨#[120]⟩] W fun e w' => ∃ u, e = .returned u ∧ EV w' u bX ∧ Below W.heap.size W w') := fun W => file_any sB tX W (by decide)
  have F4 : Hid (∀ W, Calls Tryz.prog 18 #[.string ⟨#[97, 126]⟩, .string ⟨#[111, 108, 100]⟩] W fun e w' => ∃ u, e = .returned u ∧ EV w' u aT ∧ Below W.heap.size W w') := fun W => file_any sAt tO W (by decide)
  have F5 : Hid (∀ W, Calls Tryz.prog 18 #[.string ⟨#[98, 126]⟩, .string ⟨#[120]⟩] W fun e w' => ∃ u, e = .returned u ∧ EV w' u bT ∧ Below W.heap.size W w') := fun W => file_any sBt tX W (by decide)
  have CW : Hid (∀ W vs vd, Mx W → ES W vs [aN] → ES W vd [aO, bX] → Calls Tryz.prog 7 #[vs, vd, .agg #[.bool true, .bool true]] W fun e w' => ∃ v', e = .returned (.tuple #[v', .int .i64 0]) ∧ OE w' W.heap.size v' [aN, aT, bT] ∧ Below W.heap.size W w') := fun W vs vd hm h1 h2 => by
    have := want_any vs vd _ _ PP W h1 aL1 h2 aL2 hm
    rw [aw1] at this
    exact this
  have CP : Hid (∀ W vs vd, Mx W → ES W vs [aN] → ES W vd [aO, bX] → Calls Tryz.prog 9 #[vs, vd, .agg #[.bool true, .bool true]] W fun e w' => ∃ v', e = .returned (.tuple #[v', .int .i64 0]) ∧ SR w' W.heap.size v' [⟨0, sA, sAt⟩, ⟨0, sB, sBt⟩, ⟨1, sB, ⟨#[]⟩⟩, ⟨3, sA, ⟨#[]⟩⟩] ∧ Below W.heap.size W w') := fun W vs vd hm h1 h2 => by
    have := plan_any vs vd _ _ PP W h1 aL1 h2 aL2 hm
    rw [aw2] at this
    exact this
  have CA : Hid (∀ W vs vd, Mx W → ES W vs [aN] → ES W vd [aO, bX] → Calls Tryz.prog 14 #[vd, .agg #[.int .u8 3, .string ⟨#[97]⟩, .string ⟨#[]⟩], vs] W fun e w' => ∃ v', e = .returned (.tuple #[v', .int .i64 0]) ∧ OE w' W.heap.size v' [aN, bX] ∧ Below W.heap.size W w') := fun W vs vd hm h1 h2 => by
    have := apply_any vd vs [aO, bX] [aN] ⟨3, sA, ⟨#[]⟩⟩ W h2 aL2 h1 aL1 (by decide) (by decide) hm
    rw [aw3] at this
    exact this
  have CT : Hid (∀ W vd vw u, ES W vd [aO, bX] → ES W vw [aN, aT, bT] → EV W u aO → Calls Tryz.prog 16 #[vd, vw, .string ⟨#[97]⟩, u, .bool true] W fun e w' => e = .returned (.bool true) ∧ Below W.heap.size W w') := fun W vd vw u h1 h2 h3 => by
    have := pathI_any vd vw u [aO, bX] [aN, aT, bT] sA aO W h1 aL2 h2 aL3 h3
    rw [aw4] at this
    exact this
  have CS : Hid (∀ W v u l, l.length ≤ 100 → ES W v l → ES W u l → Calls Tryz.prog 11 #[v, u] W fun e w' => e = .returned (.bool true) ∧ Below W.heap.size W w') := fun W v u l hl h1 h2 => by
    have := rsame_any v u l l W h1 h2 (by omega) (by omega)
    rw [(sam_iff l l).2 rfl] at this
    exact this
  have M0 : Hid (Mx w) := hm
  clear hm
  go_enter Tryz.func6, Tryz.ntmps6
  go_wp2_with fail
  refine (F1.out w).mono ?_
  rintro e w1 ⟨u1, rfl, ⟨xa1, xn1, xc1, rfl, s1⟩, b1⟩
  have B1 : Hid (Below w.heap.size w w1) := b1
  obtain ⟨W2, hW2⟩ : ∃ W2, W2 = w1.alloc (.cells #[.string aN.p, .bool aN.d, .slice xa1 xn1 xc1] 46) := ⟨_, rfl⟩
  have b2 : Below w1.heap.size w1 W2 := by rw [hW2]; exact (Below.refl _ _).alloc (Nat.le_refl _) _
  have E2 : Hid (ES W2 (.slice (some ⟨w1.heap.size, 0, none⟩) 1 1) [aN]) := es_one (by rw [hW2]; exact heap_alloc_new _ _) (s1.kept b2)
  have B2 : Hid (Below w.heap.size w W2) := B1.out.trans (b2.mono B1.out.size)
  clear b1 b2 s1
  go_wp2_with fail
  rw [← hW2]
  clear hW2
  refine (F2.out W2).mono ?_
  rintro e w3 ⟨u3, rfl, ⟨xa3, xn3, xc3, rfl, s3⟩, b3⟩
  have B3 : Hid (Below w.heap.size w w3) := B2.out.trans (b3.mono B2.out.size)
  have E3 : Hid (ES w3 (.slice (some ⟨w1.heap.size, 0, none⟩) 1 1) [aN]) := E2.out.kept b3
  have SL3 : Hid (Sl w3 (.slice xa3 xn3 xc3) aO.z) := s3
  clear b3 s3 E2 B2
  go_wp2_with fail
  refine (F3.out w3).mono ?_
  rintro e w4 ⟨u4, rfl, ⟨xa4, xn4, xc4, rfl, s4⟩, b4⟩
  obtain ⟨W5, hW5⟩ : ∃ W5, W5 = w4.alloc (.cells #[.string aO.p, .bool aO.d, .slice xa3 xn3 xc3, .string bX.p, .bool bX.d, .slice xa4 xn4 xc4] 46) := ⟨_, rfl⟩
  obtain ⟨W6, hW6⟩ : ∃ W6, W6 = W5.alloc (.cells #[.bool true, .bool true] 24) := ⟨_, rfl⟩
  have b5 : Below w4.heap.size w4 W5 := by rw [hW5]; exact (Below.refl _ _).alloc (Nat.le_refl _) _
  have b6 : Below W5.heap.size W5 W6 := by rw [hW6]; exact (Below.refl _ _).alloc (Nat.le_refl _) _
  have D5 : Hid (ES W6 (.slice (some ⟨w4.heap.size, 0, none⟩) 2 2) [aO, bX]) := (es_two (by rw [hW5]; exact heap_alloc_new _ _) ((SL3.out.kept b4).kept b5) (s4.kept b5)).kept b6
  have b46 : Below w4.heap.size w4 W6 := b5.trans (b6.mono b5.size)
  have E6 : Hid (ES W6 (.slice (some ⟨w1.heap.size, 0, none⟩) 1 1) [aN]) := (E3.out.kept b4).kept b46
  have B6 : Hid (Below w.heap.size w W6) := B3.out.trans ((b4.trans (b46.mono b4.size)).mono B3.out.size)
  have s5 : W5.heap.size = w4.heap.size + 1 := by rw [hW5]; simp
  have k6 : W6.cell? ⟨w4.heap.size + 1, 0, none⟩ = some (.bool true) ∧ W6.cell? ⟨w4.heap.size + 1, 1, none⟩ = some (.bool true) := by
    rw [hW6, World.cell?_alloc_at _ _ _ _ s5.symm, World.cell?_alloc_at _ _ _ _ s5.symm]; exact ⟨rfl, rfl⟩
  have HK : Hid (∀ W, Below W6.heap.size W6 W → W.cell? ⟨w4.heap.size + 1, 0, none⟩ = some (.bool true) ∧ W.cell? ⟨w4.heap.size + 1, 1, none⟩ = some (.bool true)) := fun W hb => ⟨(hb.cell (World.block_lt_of_cell? _ _ k6.1)).trans k6.1, (hb.cell (World.block_lt_of_cell? _ _ k6.2)).trans k6.2⟩
  have M6 : Hid (Mx W6) := M0.out.kept B6.out
  obtain ⟨k6a, k6b⟩ := k6
  rw [hW6, hW5] at k6a k6b
  clear b4 b5 b6 b46 s4 s5 E3 SL3 B3
  go_wp2_with fail
  rw [← hW5, ← hW6]
  clear hW5 hW6 k6a k6b
  refine (CW.out W6 _ _ M6.out E6.out D5.out).mono ?_
  rintro e w7 ⟨v7, rfl, o7, b7⟩
  have B7 : Hid (Below W6.heap.size W6 w7) := b7
  have EW : Hid (ES w7 v7 [aN, aT, bT]) := o7.es
  obtain ⟨a7, c7, rfl, -⟩ := o7.es.shape
  obtain ⟨k7a, k7b⟩ := HK.out w7 b7
  clear b7 o7 CW
  go_wp2_with fail
  refine (CP.out w7 _ _ (M6.out.kept B7.out) (E6.out.kept B7.out) (D5.out.kept B7.out)).mono ?_
  rintro e w8 ⟨v8, rfl, o8, b8⟩
  have B8 : Hid (Below W6.heap.size W6 w8) := B7.out.trans (b8.mono B7.out.size)
  have E8 : Hid (ES w8 (.slice a7 3 c7) [aN, aT, bT]) := EW.out.kept b8
  have T8 : Hid (TS w8 v8 [⟨0, sA, sAt⟩, ⟨0, sB, sBt⟩, ⟨1, sB, ⟨#[]⟩⟩, ⟨3, sA, ⟨#[]⟩⟩]) := o8.ts
  obtain ⟨a8, c8, rfl⟩ := own_shape o8
  clear b8 o8 CP k7a k7b EW B7
  go_wp2_with fail
  refine (CA.out w8 _ _ (M6.out.kept B8.out) (E6.out.kept B8.out) (D5.out.kept B8.out)).mono ?_
  rintro e w9 ⟨v9, rfl, o9, b9⟩
  have B9 : Hid (Below W6.heap.size W6 w9) := B8.out.trans (b9.mono B8.out.size)
  have E9 : Hid (ES w9 (.slice a7 3 c7) [aN, aT, bT]) := E8.out.kept b9
  have T9 : Hid (TS w9 (.slice a8 4 c8) [⟨0, sA, sAt⟩, ⟨0, sB, sBt⟩, ⟨1, sB, ⟨#[]⟩⟩, ⟨3, sA, ⟨#[]⟩⟩]) := T8.out.keep b9
  have X9 : Hid (ES w9 v9 [aN, bX]) := o9.es
  obtain ⟨a9, c9, rfl, -⟩ := o9.es.shape
  clear b9 o9 CA E8 T8 B8
  go_wp2_with fail
  refine (F1.out w9).mono ?_
  rintro e w10 ⟨u10, rfl, ⟨xa10, xn10, xc10, rfl, s10⟩, b10⟩
  go_wp2_with fail
  refine (F4.out w10).mono ?_
  rintro e w11 ⟨u11, rfl, ⟨xa11, xn11, xc11, rfl, s11⟩, b11⟩
  go_wp2_with fail
  refine (F5.out w11).mono ?_
  rintro e w12 ⟨u12, rfl, ⟨xa12, xn12, xc12, rfl, s12⟩, b12⟩
  obtain ⟨W13, hW13⟩ : ∃ W13, W13 = w12.alloc (.cells #[.string aN.p, .bool aN.d, .slice xa10 xn10 xc10, .string aT.p, .bool aT.d, .slice xa11 xn11 xc11, .string bT.p, .bool bT.d, .slice xa12 xn12 xc12] 46) := ⟨_, rfl⟩
  have b13 : Below w12.heap.size w12 W13 := by rw [hW13]; exact (Below.refl _ _).alloc (Nat.le_refl _) _
  have b11X : Below w11.heap.size w11 W13 := b12.trans (b13.mono b12.size)
  have b10X : Below w10.heap.size w10 W13 := b11.trans (b11X.mono b11.size)
  have b9X : Below w9.heap.size w9 W13 := b10.trans (b10X.mono b10.size)
  have E13 : ES W13 (.slice (some ⟨w12.heap.size, 0, none⟩) 3 3) [aN, aT, bT] := es_three (by rw [hW13]; exact heap_alloc_new _ _) (s10.kept b10X) (s11.kept b11X) (s12.kept b13)
  have C13 := CS.out W13 _ _ [aN, aT, bT] (by decide) (E9.out.kept b9X) E13
  have B13 : Hid (Below w9.heap.size w9 W13) := b9X
  clear s10 s11 s12 b10 b11 b12 b13 b11X b10X b9X E13
  go_wp2_with fail
  rw [← hW13]
  clear hW13
  refine C13.mono ?_
  rintro e w14 ⟨rfl, b14⟩
  have B14 : Hid (Below w9.heap.size w9 w14) := B13.out.trans (b14.mono B13.out.size)
  clear b14 C13 B13
  obtain ⟨tb, toff, rfl, c8l, y0, y1, y2⟩ : ∃ b off, a8 = some ⟨b, off, none⟩ ∧ 4 ≤ c8 ∧ w14.cell? ⟨b, off + 6, none⟩ = some (.int .u8 1) ∧ w14.cell? ⟨b, off + 7, none⟩ = some (.string ⟨#[98]⟩) ∧ w14.cell? ⟨b, off + 8, none⟩ = some (.string ⟨#[]⟩) := by
    obtain ⟨a', c', e, h1, _, h3⟩ := T9.out.keep B14.out
    cases e
    rcases h3 with h3 | ⟨b, off, rfl, h4⟩
    · cases h3
    · exact ⟨b, off, rfl, h1, h4 6 (by decide), h4 7 (by decide), h4 8 (by decide)⟩
  go_wp2_with fail
  refine (F1.out w14).mono ?_
  rintro e w15 ⟨u15, rfl, ⟨xa15, xn15, xc15, rfl, s15⟩, b15⟩
  clear y0 y1 y2
  go_wp2_with fail
  refine (F3.out w15).mono ?_
  rintro e w16 ⟨u16, rfl, ⟨xa16, xn16, xc16, rfl, s16⟩, b16⟩
  obtain ⟨W17, hW17⟩ : ∃ W17, W17 = w16.alloc (.cells #[.string aN.p, .bool aN.d, .slice xa15 xn15 xc15, .string bX.p, .bool bX.d, .slice xa16 xn16 xc16] 46) := ⟨_, rfl⟩
  have b17 : Below w16.heap.size w16 W17 := by rw [hW17]; exact (Below.refl _ _).alloc (Nat.le_refl _) _
  have b15X : Below w15.heap.size w15 W17 := b16.trans (b17.mono b16.size)
  have b14X : Below w14.heap.size w14 W17 := b15.trans (b15X.mono b15.size)
  have b9Y : Below w9.heap.size w9 W17 := B14.out.trans (b14X.mono B14.out.size)
  have C17 := CS.out W17 _ _ [aN, bX] (by decide) (X9.out.kept b9Y) (es_two (by rw [hW17]; exact heap_alloc_new _ _) (s15.kept b15X) (s16.kept b17))
  have B17 : Hid (Below w9.heap.size w9 W17) := b9Y
  clear s15 s16 b15 b16 b17 b15X b14X b9Y
  go_wp2_with fail
  rw [← hW17]
  clear hW17
  refine C17.mono ?_
  rintro e w18 ⟨rfl, b18⟩
  have B18 : Hid (Below w9.heap.size w9 w18) := B17.out.trans (b18.mono B17.out.size)
  clear b18 C17 B17
  go_wp2_with fail
  refine (F2.out w18).mono ?_
  rintro e w19 ⟨u19, rfl, ev19, b19⟩
  have B19 : Hid (Below w9.heap.size w9 w19) := B18.out.trans (b19.mono B18.out.size)
  have D19 : Hid (Below W6.heap.size W6 w19) := B9.out.trans (B19.out.mono B9.out.size)
  have C19 := CT.out w19 _ _ u19 (D5.out.kept D19.out) (E9.out.kept B19.out) ev19
  have BB : Hid (Below w.heap.size w w19) := B6.out.trans (D19.out.mono B6.out.size)
  obtain ⟨xa19, xn19, xc19, rfl, _⟩ := ev19
  clear b19 B18 B19 D19
  go_wp2_with fail
  refine C19.mono ?_
  rintro e w20 ⟨rfl, b20⟩
  have BZ : Hid (Below w.heap.size w w20) := BB.out.trans (b20.mono BB.out.size)
  clear C19 b20
  go_wp2
  go_ret
  exact ⟨rfl, BZ.out⟩
end Go.Proofs.YtajcabfeabbknaaGreatDoor
