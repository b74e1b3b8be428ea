/-
  What every right program lays of one tree.
-/
import Derived.Test.YtdnbiibijoggoaaGreatDoorIh
import Derived.Test.YtdnbiibijoggoaaGreatDoorIe
import Derived.Lib.SlBytesConst
namespace Go.Proofs.YtdnbiibijoggoaaGreatDoor
open Go.RowKit
set_option maxRecDepth 100000

def sA : ByteArray := ⟨#[97]⟩
def sAB : ByteArray := ⟨#[97, 47, 98]⟩
def xA : En := ⟨sA, true, []⟩
def xAB : En := ⟨sAB, false, [97, 98, 99]⟩
def iAB : It := ⟨sAB, false, 3, Sh.abcL⟩
def l2 : List It := [bare sA, iAB]
theorem aw0 : ckT [xA, xAB] = 0 := by rfl
theorem iAB_eq : itm xAB = iAB := by
  unfold itm
  rw [if_neg (by decide)]
  show (⟨sAB, false, ((3 : Nat) : Int), Sh.Pl.sha [97, 98, 99]⟩ : It) = iAB
  rw [Sh.abc_sum]
  rfl
theorem aw1 : mak [xA, xAB] = (l2, 0) := by
  unfold mak
  rw [aw0, if_neg (by decide)]
  show ([itm xA, itm xAB], (0 : Int)) = (l2, 0)
  rw [iAB_eq]
  rfl
theorem aw2 : mck l2 = 0 := by decide +kernel
theorem l2_ok : ∀ x ∈ l2, x.ok := by
  intro x hx
  rcases List.mem_cons.1 hx with rfl | hx
  · exact bare_ok _
  · rcases List.mem_cons.1 hx with rfl | hx
    · exact ⟨rfl, byteList _ (by decide), by decide, by decide⟩
    · cases hx
theorem l2_p : ∀ x ∈ l2, x.p.size ≤ 1000 := by
  intro x hx
  rcases List.mem_cons.1 hx with rfl | hx
  · decide
  · rcases List.mem_cons.1 hx with rfl | hx
    · decide
    · cases hx
def b2 : List Int := layL l2
theorem aw3 : mput l2 = (b2, 0) := mput_ok l2 aw2
theorem aw4 : mget b2 = (l2, 0) := mget_lay l2 l2_ok aw2
theorem aw5 : b2.length = 42 := by decide +kernel
theorem aw6 : b2.take 9 = [2, 1, 97, 1, 3, 97, 47, 98, 0] := by decide +kernel
theorem aw7 : fin l2 sAB = some iAB := by rfl
theorem aw8 : tot 0 l2 = 3 := by decide +kernel
theorem aw9 : saI l2 l2 = true := (saI_iff _ _).2 rfl
theorem iAB_ok : iAB.ok := l2_ok _ (by simp [l2])
theorem awL : Lt [xA, xAB] := ⟨by decide, fun x hx => by
  rcases List.mem_cons.1 hx with rfl | hx
  · decide
  · rcases List.mem_cons.1 hx with rfl | hx
    · decide
    · cases hx⟩
theorem sl_abc (w : World) (g : Nat) (h : w.heap[g]? = some (.cells #[.int .u8 97, .int .u8 98, .int .u8 99] 5 (3, 3 + 1))) : Sl w (.slice (some ⟨g, 0, none⟩) 3 3) [97, 98, 99] := by
  refine ⟨_, 3, rfl, Nat.le_refl _, by unfold maxLen; omega, (fun e => by cases e), .inr ⟨by decide, g, 0, rfl, Nat.le_refl _, by unfold maxLen; omega, fun i hi => ?_, byteList _ (by decide)⟩⟩
  rcases (show i = 0 ∨ i = 1 ∨ i = 2 by simp at hi; omega) with rfl | rfl | rfl <;> simp [World.cell?, h]
theorem es_two (w : World) (g : Nat) (u : Value) (h : w.heap[g]? = some (.cells #[.string sA, .bool true, .slice none 0 0, .string sAB, .bool false, u] 54 (0, 0))) (hu : Sl w u [97, 98, 99]) : ES w (.slice (some ⟨g, 0, none⟩) 2 2) [xA, xAB] := by
  refine ⟨fun i => if i = 0 then .slice none 0 0 else u, _, 2, rfl, Nat.le_refl _, by unfold maxLen; omega, (fun e => by cases e), .inr ⟨g, 0, rfl, fun i hi => ?_⟩⟩
  rcases (show i = 0 ∨ i = 1 by simp at hi; omega) with rfl | rfl
  · refine ⟨?_, ?_, ?_, Sl.none _⟩ <;> simp [World.cell?, h] <;> rfl
  · refine ⟨?_, ?_, ?_, hu⟩ <;> simp [World.cell?, h] <;> rfl
theorem conv_last (w : World) (C : Array Value) (n c : Nat) : (convert 34 34 (.slice (some ⟨w.heap.size, 0, none⟩) n c)).run Tryz.prog (w.alloc (.cells C 5)) = .ok (.slice (some ⟨w.heap.size, 0, none⟩) n c) (w.alloc (.cells C 5 (C.size, C.size + 1))) :=
  Lib.run_convert_bytes_const w 34 5 C n c Tryz.underlying34 Tryz.underlying5
theorem Sl.take9 {w : World} {a : Option Addr} {n c : Nat} {X : List Int} (h : Sl w (.slice a n c) X) (m : Nat) (hm : m ≤ n) : Sl w (.slice a m c) (X.take m) := by
  obtain ⟨a', c', e, h1, h2, h3, h4⟩ := h
  cases e
  have hl : (X.take m).length = m := by rw [List.length_take]; omega
  refine ⟨a, c, by rw [hl], by omega, h2, h3, ?_⟩
  rw [hl]
  rcases Nat.eq_zero_or_pos m with h0 | h0
  · exact .inl h0
  · rcases h4 with h4 | ⟨hp, b, off, rfl, hlc, hx, hc, hz⟩
    · omega
    · refine .inr ⟨h0, b, off, rfl, by omega, hx, fun i hi => ?_, take_bytes X m hz⟩
      rw [hc i (by omega)]
      simp [List.getD, hi]
set_option maxHeartbeats 4000000 in
theorem awake_any (w : World) (hw : Wd w) :
    Calls Tryz.prog 7 #[] w fun e w' => e = .returned (.bool true) ∧ Below w.heap.size w w' := by
  obtain ⟨W1, hW1⟩ : ∃ W1, W1 = w.alloc (.cells #[.int .u8 97, .int .u8 98, .int .u8 99] 5 (3, 3 + 1)) := ⟨_, rfl⟩
  have b1 : Below w.heap.size w W1 := by rw [hW1]; exact al_below _ _
  have s1 : W1.heap.size = w.heap.size + 1 := by rw [hW1]; simp
  have sl1 : Sl W1 (.slice (some ⟨w.heap.size, 0, none⟩) 3 3) [97, 98, 99] := sl_abc W1 _ (by rw [hW1]; exact heap_alloc_new _ _)
  obtain ⟨W2, hW2⟩ : ∃ W2, W2 = W1.alloc (.cells #[.string sA, .bool true, .slice none 0 0, .string sAB, .bool false, .slice (some ⟨w.heap.size, 0, none⟩) 3 3] 54) := ⟨_, rfl⟩
  have b2' : Below W1.heap.size W1 W2 := by rw [hW2]; exact al_below _ _
  have E2 : ES W2 (.slice (some ⟨W1.heap.size, 0, none⟩) 2 2) [xA, xAB] := es_two W2 _ _ (by rw [hW2]; exact heap_alloc_new _ _) (sl1.kept b2')
  have B2 : Hid (Below w.heap.size w W2) := b1.trans (b2'.mono b1.size)
  rw [s1] at E2
  have c1 := make_any _ _ W2 E2 awL (hw.kept B2.out)
  rw [aw1] at c1
  have C2 : Hid (∀ W v, Below w.heap.size w W → IS W v l2 → Calls Tryz.prog 12 #[v] W fun e w' => ∃ v', e = .returned (.tuple #[v', .int .i64 0]) ∧ Ow w' W.heap.size v' b2 ∧ Below W.heap.size W w') := fun W v hb hi => by
    have := put_any v l2 W hi (by decide) l2_p (hw.kept hb)
    rw [aw3] at this
    exact this
  have C3 : Hid (∀ W v, Below w.heap.size w W → Sl W v b2 → Calls Tryz.prog 23 #[v] W fun e w' => ∃ v', e = .returned (.tuple #[v', .int .i64 0]) ∧ RI w' W.heap.size v' l2 ∧ Below W.heap.size W w') := fun W v hb hi => by
    have := get_any v b2 W hi (by rw [aw5]; omega) (hw.kept hb)
    rw [aw4] at this
    exact this
  have C4 : Hid (∀ W v, IS W v l2 → Calls Tryz.prog 14 #[v, .string ⟨#[97, 47, 98]⟩] W fun e w' => e = .returned (.tuple #[.agg iAB.cells.toArray, .bool true]) ∧ Below W.heap.size W w') := fun W v hi => by
    have := find_any v l2 sAB W hi (by decide)
    rw [aw7] at this
    exact this
  have C5 : Hid (∀ W v, IS W v l2 → Calls Tryz.prog 20 #[v] W fun e w' => e = .returned (.int .i64 3) ∧ Below W.heap.size W w') := fun W v hi => by
    have := total_any v l2 W hi (by decide)
    rw [aw8] at this
    exact this
  have C6 : Hid (∀ W v u, IS W v l2 → IS W u l2 → Calls Tryz.prog 22 #[v, u] W fun e w' => e = .returned (.bool true) ∧ Below W.heap.size W w') := fun W v u hi hj => by
    have := msame_any v u l2 l2 W hi hj (by decide) (by decide)
    rw [aw9] at this
    exact this
  have hcv := conv_last w #[.int .u8 97, .int .u8 98, .int .u8 99] 3 3
  simp only [List.size_toArray, List.length_cons, List.length_nil, Nat.zero_add] at hcv
  have hw2 : (w.alloc (.cells #[.int .u8 97, .int .u8 98, .int .u8 99] 5 (3, 3 + 1))).alloc (.cells #[.string ⟨#[97]⟩, .bool true, .slice none 0 0, .string ⟨#[97, 47, 98]⟩, .bool false, .slice (some ⟨w.heap.size, 0, none⟩) 3 3] 54) = W2 := by rw [hW2, hW1]; rfl
  have HW2 : Hid ((w.alloc (.cells #[.int .u8 97, .int .u8 98, .int .u8 99] 5 (3, 3 + 1))).alloc (.cells #[.string ⟨#[97]⟩, .bool true, .slice none 0 0, .string ⟨#[97, 47, 98]⟩, .bool false, .slice (some ⟨w.heap.size, 0, none⟩) 3 3] 54) = W2) := hw2
  clear hW1 hW2 b1 s1 sl1 b2' E2 hw hw2
  go_enter Tryz.func7, Tryz.ntmps7
  go_wp2_with fail
  rw [HW2.out]
  clear HW2 hcv
  refine c1.mono ?_
  rintro e w1 ⟨v1, rfl, o1, b1⟩
  clear c1
  have B1 : Hid (Below w.heap.size w w1) := B2.out.trans (b1.mono B2.out.size)
  have I1 : Hid (IS w1 v1 l2) := o1.is
  obtain ⟨va, vc, rfl, _, _, _⟩ := o1.is.shape
  have c2 := C2.out w1 _ B1.out I1.out
  rw [show l2.length = 2 from rfl] at I1 c2 ⊢
  clear o1 b1 B2 C2
  go_wp2_with fail
  refine c2.mono ?_
  rintro e w3 ⟨v3, rfl, o3, b3⟩
  clear c2
  have B3 : Hid (Below w.heap.size w w3) := B1.out.trans (b3.mono B1.out.size)
  have I3 : Hid (IS w3 (.slice va 2 vc) l2) := I1.out.kept b3
  have S3 : Hid (Sl w3 v3 b2) := o3.sl
  have c3 := C3.out w3 _ B3.out S3.out
  obtain ⟨ba, bc, e3, h42, _⟩ := o3.sl
  subst e3
  rw [aw5] at S3 c3 h42 ⊢
  clear o3 b3 B1 I1 C3
  go_wp2_with fail
  refine c3.mono ?_
  rintro e w4 ⟨v4, rfl, o4, b4⟩
  clear c3
  have B4 : Hid (Below w.heap.size w w4) := B3.out.trans (b4.mono B3.out.size)
  have I4 : Hid (IS w4 (.slice va 2 vc) l2) := I3.out.kept b4
  have J4 : Hid (IS w4 v4 l2) := o4.is
  have S4 : Hid (Sl w4 (.slice ba 42 bc) b2) := S3.out.kept b4
  obtain ⟨ma, mc, rfl, _, _, _⟩ := o4.is.shape
  rw [show l2.length = 2 from rfl] at J4 ⊢
  have c4 := C4.out w4 _ J4.out
  clear o4 b4 B3 I3 S3 C4
  go_wp2_with fail
  refine c4.mono ?_
  rintro e w5 ⟨rfl, b5⟩
  clear c4
  obtain ⟨W6, hW6⟩ : ∃ W6, W6 = w5.alloc (.cells iAB.cells.toArray 42) := ⟨_, rfl⟩
  have b6 : Below w5.heap.size w5 W6 := by rw [hW6]; exact al_below _ _
  have b46 := b5.trans (b6.mono b5.size)
  have r6 : W6.rangeAt w5.heap.size 0 iAB.cells := by rw [hW6]; exact (IB.new w5 iAB).range
  have k2 : W6.cell? ⟨w5.heap.size, 2, none⟩ = some (.int .i64 3) := r6 2 _ rfl
  have k3 : W6.cell? ⟨w5.heap.size, 3, none⟩ = some (.int .u8 186) := r6 3 _ rfl
  have k34 : W6.cell? ⟨w5.heap.size, 34, none⟩ = some (.int .u8 173) := r6 34 _ rfl
  have B6 : Hid (Below w.heap.size w W6) := B4.out.trans (b46.mono B4.out.size)
  have I6 : Hid (IS W6 (.slice va 2 vc) l2) := I4.out.kept b46
  have J6 : Hid (IS W6 (.slice ma 2 mc) l2) := J4.out.kept b46
  have cv : (convert 34 9 (.slice ba 9 bc)).run Tryz.prog W6 = .ok (.string ⟨#[2, 1, 97, 1, 3, 97, 47, 98, 0]⟩) W6 := by
    have := (Sl.take9 (S4.out.kept b46) 9 (by omega)).conv
    rw [aw6] at this
    exact this
  have h9 : (9 : Int) ≤ (bc : Int) := by omega
  have h9n : 9 ≤ bc := by omega
  have e6 := alloc_it w5 iAB
  rw [← hW6] at e6
  have HE6 : Hid ((w5.alloc (.cells #[.string ⟨#[]⟩, .bool false, .int .i64 0, .int .u8 0, .int .u8 0, .int .u8 0, .int .u8 0, .int .u8 0, .int .u8 0, .int .u8 0, .int .u8 0, .int .u8 0, .int .u8 0, .int .u8 0, .int .u8 0, .int .u8 0, .int .u8 0, .int .u8 0, .int .u8 0, .int .u8 0, .int .u8 0, .int .u8 0, .int .u8 0, .int .u8 0, .int .u8 0, .int .u8 0, .int .u8 0, .int .u8 0, .int .u8 0, .int .u8 0, .int .u8 0, .int .u8 0, .int .u8 0, .int .u8 0, .int .u8 0] 42)).setRow w5.heap.size iAB.cells.toArray = W6) := e6
  have c5 := C5.out W6 _ I6.out
  clear hW6 b6 b5 b46 r6 e6 B4 I4 J4 S4 C5 h42
  go_wp2_with (refine wpList_store_row rfl 42 _ _ rfl w5.heap.size iAB.cells.toArray rfl rfl 42 izc (new_it w5) (It.info _ iAB_ok) (izc_size.trans (It.size _ iAB_ok).symm) (It.ones _) (Hid.out ?_))
  unfold Hid
  rw [HE6.out]
  clear HE6
  go_wp2_with fail
  refine c5.mono ?_
  rintro e w7 ⟨rfl, b7⟩
  clear c5
  have B7 : Hid (Below w.heap.size w w7) := B6.out.trans (b7.mono B6.out.size)
  have c6 := C6.out w7 _ _ (I6.out.kept b7) (J6.out.kept b7)
  clear b7 B6 I6 J6 C6 k2 k3 k34 cv
  go_wp2_with fail
  refine c6.mono ?_
  rintro e w8 ⟨rfl, b8⟩
  clear c6
  have B8 : Hid (Below w.heap.size w w8) := B7.out.trans (b8.mono B7.out.size)
  clear b8
  go_wp2
  go_ret
  exact ⟨rfl, B8.out⟩
end Go.Proofs.YtdnbiibijoggoaaGreatDoor
