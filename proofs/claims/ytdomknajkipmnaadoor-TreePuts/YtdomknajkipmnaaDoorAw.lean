/-
  What every right program makes of two entries.
-/
import Derived.Test.YtdomknajkipmnaaDoorPu
import Derived.Test.YtdomknajkipmnaaDoorRm
import Derived.Test.YtdomknajkipmnaaDoorGt
import Derived.Test.YtdomknajkipmnaaDoorLg
import Derived.Lib.SlBytesConst
namespace Go.Proofs.YtdomknajkipmnaaDoor
open Go.RowKit

def sA : ByteArray := ⟨#[97]⟩
def sAB : ByteArray := ⟨#[97, 47, 98]⟩
def xA : En := ⟨sA, true, []⟩
def xAB0 : En := ⟨sAB, false, []⟩
def xAB : En := ⟨sAB, false, [120]⟩
theorem aw1 : put [] xAB0 = ([], 8) := by rfl
theorem aw2 : put [xA] xAB = ([xA, xAB], 0) := by rfl
theorem aw3 : rem [xA, xAB] (dl sA) = ([], 10) := by rfl
theorem aw4 : got [xA, xAB] (dl sAB) = xAB := by rfl
theorem aw5 : gotB [xA, xAB] (dl sAB) = true := by rfl
theorem aw6 : ckT [xA, xAB] = 0 := by rfl
theorem aw7 : sam [xA, xAB] [xA, xAB] = true := (sam_iff _ _).2 rfl
theorem aw8 : sam [xA, xAB] [] = false := by rfl
theorem awL : Lt [xA, xAB] := ⟨by decide, fun x hx => by
  rcases List.mem_cons.1 hx with rfl | hx
  · decide
  · rcases List.mem_cons.1 hx with rfl | hx
    · decide
    · cases hx⟩
theorem awL1 : Lt [xA] := ⟨by decide, fun x hx => awL.2 x (by simp at hx; simp [hx])⟩
theorem awL0 : Lt [] := ⟨by decide, fun x hx => by cases hx⟩
theorem sl_x (w : World) (g : Nat) (h : w.heap[g]? = some (.cells #[.int .u8 120] 5 (1, 1 + 1))) : Sl w (.slice (some ⟨g, 0, none⟩) 1 1) [120] := by
  refine ⟨_, 1, rfl, Nat.le_refl _, by unfold maxLen; omega, (fun e => by cases e), .inr ⟨by decide, g, 0, rfl, Nat.le_refl _, by unfold maxLen; omega, fun i hi => ?_, byteList _ (by decide)⟩⟩
  obtain rfl : i = 0 := by simpa using hi
  simp [World.cell?, h]
theorem es_xA (w : World) (g : Nat) (h : w.heap[g]? = some (.cells #[.string sA, .bool true, .slice none 0 0] 32 (0, 0))) : ES w (.slice (some ⟨g, 0, none⟩) 1 1) [xA] := by
  refine ⟨fun _ => .slice none 0 0, _, 1, rfl, Nat.le_refl _, by unfold maxLen; omega, (fun e => by cases e), .inr ⟨g, 0, rfl, fun i hi => ?_⟩⟩
  obtain rfl : i = 0 := by simpa using hi
  obtain ⟨p0, p1, p2, -, -, -⟩ := trio h
  exact ⟨p0, p1, p2, Sl.none _⟩
theorem es_two (w : World) (g : Nat) (u : Value) (h : w.heap[g]? = some (.cells #[.string sA, .bool true, .slice none 0 0, .string sAB, .bool false, u] 32 (0, 0))) (hu : Sl w u [120]) : ES w (.slice (some ⟨g, 0, none⟩) 2 2) [xA, xAB] := by
  refine ⟨fun i => if i = 0 then .slice none 0 0 else u, _, 2, rfl, Nat.le_refl _, by unfold maxLen; omega, (fun e => by cases e), .inr ⟨g, 0, rfl, fun i hi => ?_⟩⟩
  rcases (show i = 0 ∨ i = 1 by simp at hi; omega) with rfl | rfl
  · refine ⟨?_, ?_, ?_, Sl.none _⟩ <;> simp [World.cell?, h] <;> rfl
  · refine ⟨?_, ?_, ?_, hu⟩ <;> simp [World.cell?, h] <;> rfl
theorem conv_last (w : World) (C : Array Value) (n c : Nat) : (convert 30 30 (.slice (some ⟨w.heap.size, 0, none⟩) n c)).run Tryd.prog (w.alloc (.cells C 5)) = .ok (.slice (some ⟨w.heap.size, 0, none⟩) n c) (w.alloc (.cells C 5 (C.size, C.size + 1))) :=
  Lib.run_convert_bytes_const w 30 5 C n c Tryd.underlying30 Tryd.underlying5
theorem conv_last1 (w : World) (o : Obj) (C : Array Value) (n c : Nat) : (convert 30 30 (.slice (some ⟨w.heap.size + 1, 0, none⟩) n c)).run Tryd.prog ((w.alloc o).alloc (.cells C 5)) = .ok (.slice (some ⟨w.heap.size + 1, 0, none⟩) n c) ((w.alloc o).alloc (.cells C 5 (C.size, C.size + 1))) := by
  have := conv_last (w.alloc o) C n c
  rwa [show (w.alloc o).heap.size = w.heap.size + 1 by show (w.heap.push o).size = _; simp] at this
set_option maxHeartbeats 1000000 in
theorem two_any (w : World) : Calls Tryd.prog 31 #[] w fun e w' => ∃ v, e = .returned v ∧ ES w' v [xA, xAB] ∧ Below w.heap.size w w' := by
  obtain ⟨W1, hW1⟩ : ∃ W1, W1 = w.alloc (.cells #[.int .u8 120] 5 (1, 1 + 1)) := ⟨_, rfl⟩
  have b1 : Below w.heap.size w W1 := by rw [hW1]; exact (Below.refl _ _).alloc (Nat.le_refl _) _
  have s1 : W1.heap.size = w.heap.size + 1 := by rw [hW1]; simp
  have sl1 : Sl W1 (.slice (some ⟨w.heap.size, 0, none⟩) 1 1) [120] := sl_x W1 _ (by rw [hW1]; exact heap_alloc_new _ _)
  obtain ⟨W2, hW2⟩ : ∃ W2, W2 = W1.alloc (.cells #[.string sA, .bool true, .slice none 0 0, .string sAB, .bool false, .slice (some ⟨w.heap.size, 0, none⟩) 1 1] 32) := ⟨_, rfl⟩
  have b2 : Below W1.heap.size W1 W2 := by rw [hW2]; exact (Below.refl _ _).alloc (Nat.le_refl _) _
  have E2 : Hid (ES W2 (.slice (some ⟨W1.heap.size, 0, none⟩) 2 2) [xA, xAB]) := es_two W2 _ _ (by rw [hW2]; exact heap_alloc_new _ _) (sl1.kept b2)
  have B2 : Hid (Below w.heap.size w W2) := b1.trans (b2.mono b1.size)
  rw [s1] at E2
  subst hW2 hW1
  clear b1 s1 sl1 b2
  have hcv := conv_last w #[.int .u8 120] 1 1
  simp only [List.size_toArray, List.length_cons, List.length_nil, Nat.zero_add] at hcv
  go_enter Tryd.func31, Tryd.ntmps31
  go_wp2
  go_ret
  exact ⟨_, rfl, E2.out, B2.out⟩

set_option maxHeartbeats 4000000 in
theorem awake_any (w : World) (hm : Mx w) :
    Calls Tryd.prog 9 #[] w fun e w' => e = .returned (.bool true) ∧ Below w.heap.size w w' := by
  have C1 : Hid (∀ W, Mx W → Calls Tryd.prog 25 #[.slice none 0 0, .agg #[.string ⟨#[97, 47, 98]⟩, .bool false, .slice none 0 0]] W fun e w' => ∃ v, e = .returned (.tuple #[v, .int .i64 8]) ∧ OE w' W.heap.size v [] ∧ Below W.heap.size W w') := fun W hm => by
    have := put_any _ _ [] xAB0 W (ES.nil W) awL0 ⟨none, 0, 0, rfl, Sl.none _⟩ (by decide) (by decide) hm
    rw [aw1] at this
    exact this
  have C2 : Hid (∀ W g f, Mx W → W.heap[g]? = some (.cells #[.string sA, .bool true, .slice none 0 0] 32 (0, 0)) → W.heap[f]? = some (.cells #[.int .u8 120] 5 (1, 1 + 1)) → Calls Tryd.prog 25 #[.slice (some ⟨g, 0, none⟩) 1 1, .agg #[.string ⟨#[97, 47, 98]⟩, .bool false, .slice (some ⟨f, 0, none⟩) 1 1]] W fun e w' => ∃ v, e = .returned (.tuple #[v, .int .i64 0]) ∧ OE w' W.heap.size v [xA, xAB] ∧ Below W.heap.size W w') := fun W g f hm hg hf => by
    have := put_any _ _ [xA] xAB W (es_xA W g hg) awL1 ⟨some ⟨f, 0, none⟩, 1, 1, rfl, sl_x W f hf⟩ (by decide) (by decide) hm
    rw [aw2] at this
    exact this
  have C3 : Hid (∀ W v, Mx W → ES W v [xA, xAB] → Calls Tryd.prog 27 #[v, .string ⟨#[97]⟩] W fun e w' => ∃ v, e = .returned (.tuple #[v, .int .i64 10]) ∧ OE w' W.heap.size v [] ∧ Below W.heap.size W w') := fun W v hm hv => by
    have := rem_any v [xA, xAB] sA W hv awL hm
    rw [aw3] at this
    exact this
  have C4 : Hid (∀ W v, ES W v [xA, xAB] → Calls Tryd.prog 19 #[v, .string ⟨#[97, 47, 98]⟩] W fun e w' => ∃ u, e = .returned (.tuple #[u, .bool true]) ∧ EV w' u xAB ∧ Below W.heap.size W w') := fun W v hv => by
    have := get_any v [xA, xAB] sAB W hv awL
    rw [aw4, aw5] at this
    exact this
  have C5 : Hid (∀ W v u, ES W v [xA, xAB] → ES W u [xA, xAB] → Calls Tryd.prog 14 #[v, u] W fun e w' => e = .returned (.bool true) ∧ Below W.heap.size W w') := fun W v u hv hu => by
    have := same_any v u _ _ W hv hu (by decide) (by decide)
    rw [aw7] at this
    exact this
  have C6 : Hid (∀ W v, ES W v [xA, xAB] → Calls Tryd.prog 14 #[v, .slice none 0 0] W fun e w' => e = .returned (.bool false) ∧ Below W.heap.size W w') := fun W v hv => by
    have := same_any v _ _ [] W hv (ES.nil W) (by decide) (by decide)
    rw [aw8] at this
    exact this
  have C7 : Hid (∀ W v, Mx W → ES W v [xA, xAB] → Calls Tryd.prog 10 #[v] W fun e w' => e = .returned (.int .i64 0) ∧ Below W.heap.size W w') := fun W v hm hv => by
    have := checkT_any v _ W hv awL hm
    rw [aw6] at this
    exact this
  have M0 : Hid (Mx w) := hm
  clear hm
  go_enter Tryd.func9, Tryd.ntmps9
  go_wp2_with fail
  refine (C1.out w M0.out).mono ?_
  rintro e w1 ⟨v1, rfl, o1, b1⟩
  have B1 : Hid (Below w.heap.size w w1) := b1
  have M1 : Hid (Mx w1) := M0.out.kept b1
  obtain ⟨a1, c1, rfl, -⟩ := o1.es.shape
  clear o1 b1 M0 C1
  obtain ⟨W2, hW2⟩ : ∃ W2, W2 = (w1.alloc (.cells #[.string ⟨#[97]⟩, .bool true, .slice none 0 0] 32)).alloc (.cells #[.int .u8 120] 5 (1, 1 + 1)) := ⟨_, rfl⟩
  have b2 : Below w1.heap.size w1 W2 := by rw [hW2]; exact ((Below.refl _ _).alloc (Nat.le_refl _) _).alloc (by simp) _
  have k1 : W2.heap[w1.heap.size]? = some (.cells #[.string sA, .bool true, .slice none 0 0] 32 (0, 0)) := by rw [hW2]; exact heap_alloc2_old _ _ _
  have k2 : W2.heap[w1.heap.size + 1]? = some (.cells #[.int .u8 120] 5 (1, 1 + 1)) := by
    have := heap_alloc_new (w1.alloc (.cells #[.string ⟨#[97]⟩, .bool true, .slice none 0 0] 32)) (.cells #[.int .u8 120] 5 (1, 1 + 1))
    rw [hW2]
    simpa using this
  have c2 := C2.out W2 _ _ (M1.out.kept b2) k1 k2
  have B2 : Hid (Below w.heap.size w W2) := B1.out.trans (b2.mono B1.out.size)
  have M2 : Hid (Mx W2) := M1.out.kept b2
  clear k1 k2 b2 C2
  have hcv := conv_last1 w1 (.cells #[.string ⟨#[97]⟩, .bool true, .slice none 0 0] 32) #[.int .u8 120] 1 1
  simp only [List.size_toArray, List.length_cons, List.length_nil, Nat.zero_add] at hcv
  go_wp2_with fail
  rw [← hW2]
  clear hW2
  refine c2.mono ?_
  rintro e w3 ⟨v3, rfl, o3, b3⟩
  have B3 : Hid (Below w.heap.size w w3) := B2.out.trans (b3.mono B2.out.size)
  have M3 : Hid (Mx w3) := M2.out.kept b3
  obtain ⟨a3, c3, rfl, -⟩ := o3.es.shape
  have E3 : Hid (ES w3 (.slice a3 2 c3) [xA, xAB]) := o3.es
  clear o3 b3 c2 M2 B2 B1
  go_wp2_with fail
  refine (C3.out w3 _ M3.out E3.out).mono ?_
  rintro e w4 ⟨v4, rfl, o4, b4⟩
  have B4 : Hid (Below w.heap.size w w4) := B3.out.trans (b4.mono B3.out.size)
  have M4 : Hid (Mx w4) := M3.out.kept b4
  have E4 : Hid (ES w4 (.slice a3 2 c3) [xA, xAB]) := E3.out.kept b4
  obtain ⟨a4, c4, rfl, -⟩ := o4.es.shape
  clear o4 b4 M3 B3 E3 C3
  go_wp2_with fail
  refine (C4.out w4 _ E4.out).mono ?_
  rintro e w5 ⟨u5, rfl, ⟨ua, un, uc, rfl, s5⟩, b5⟩
  obtain ⟨W6, hW6⟩ : ∃ W6, W6 = w5.alloc (.cells #[.string xAB.p, .bool xAB.d, .slice ua un uc] 32) := ⟨_, rfl⟩
  have b6 : Below w5.heap.size w5 W6 := by rw [hW6]; exact (Below.refl _ _).alloc (Nat.le_refl _) _
  have b46 : Below w4.heap.size w4 W6 := b5.trans (b6.mono b5.size)
  have B6 : Hid (Below w.heap.size w W6) := B4.out.trans (b46.mono B4.out.size)
  have M6 : Hid (Mx W6) := M4.out.kept b46
  have E6 : Hid (ES W6 (.slice a3 2 c3) [xA, xAB]) := E4.out.kept b46
  have S6 : Hid (Sl W6 (.slice ua un uc) [120]) := s5.kept b6
  have K6 : Hid (W6.heap[w5.heap.size]? = some (.cells #[.string xAB.p, .bool xAB.d, .slice ua un uc] 32 (0, 0))) := by unfold Hid; rw [hW6]; exact heap_alloc_new _ _
  clear s5 b5 b6 b46 M4 B4 E4 C4
  go_wp2_with fail
  rw [← hW6]
  clear hW6
  refine (two_any W6).mono ?_
  rintro e w7 ⟨v7, rfl, e7, b7⟩
  have c5 := C5.out w7 _ v7 (E6.out.kept b7) e7
  obtain ⟨a7, c7, rfl, -⟩ := e7.shape
  have B7 : Hid (Below W6.heap.size W6 w7) := b7
  clear b7 e7 C5
  go_wp2_with fail
  refine c5.mono ?_
  rintro e w8 ⟨rfl, b8⟩
  have B8 : Hid (Below W6.heap.size W6 w8) := B7.out.trans (b8.mono B7.out.size)
  clear b8 c5 B7
  have c6 := C6.out w8 _ (E6.out.kept B8.out)
  go_wp2_with fail
  refine c6.mono ?_
  rintro e w9 ⟨rfl, b9⟩
  have B9 : Hid (Below W6.heap.size W6 w9) := B8.out.trans (b9.mono B8.out.size)
  clear b9 c6 B8
  obtain ⟨-, -, p2, -, -, -⟩ := trio ((B9.out.block _ (lt_of_block K6.out)).trans K6.out)
  have cv := (S6.out.kept B9.out).conv
  have hx : strB [120] = ⟨#[120]⟩ := by rfl
  rw [hx] at cv
  have c7 := C7.out w9 _ (M6.out.kept B9.out) (E6.out.kept B9.out)
  clear hx
  go_wp2_with fail
  refine c7.mono ?_
  rintro e w10 ⟨rfl, b10⟩
  have B10 : Hid (Below w.heap.size w w10) := B6.out.trans ((B9.out.trans (b10.mono B9.out.size)).mono B6.out.size)
  clear b10 c7 cv p2
  go_wp2
  go_ret
  exact ⟨rfl, B10.out⟩
end Go.Proofs.YtdomknajkipmnaaDoor
