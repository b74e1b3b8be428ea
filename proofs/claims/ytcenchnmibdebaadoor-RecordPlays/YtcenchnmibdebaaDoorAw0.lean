/-
  The closed case, plainly.
-/
import Derived.Test.YtcenchnmibdebaaDoorSw
import Derived.Test.YtcenchnmibdebaaDoorPla
namespace Go.Proofs.YtcenchnmibdebaaDoor
open Go.RowKit
set_option maxRecDepth 100000

def r1 : Rc := ⟨1, ⟨5, ⟨#[]⟩, z32, 0, 9⟩⟩
theorem r1_ok : r1.ok := ⟨by show (0 : Int) ≤ 1; omega, by show (1 : Int) < 256; omega, z32_len, z32_bytes, by unfold i64; show _ ∧ _; simp [r1], i64_0, by unfold i64; simp [r1]⟩
theorem rck_r1 : rck r1 = 0 := by decide
def p1 : List Int := [7, 1, 5, 9, 196, 255, 40, 250]
theorem put_r1 : putB r1 = p1 := by decide
theorem p1_bts : Bts p1 := byteList p1 (by decide)
theorem ahE_p1 : ahE p1 = 0 := by decide
theorem ahU_p1 : ahU p1 = 8 := by decide
theorem ahR_p1 : ahR p1 = r1 := by kernel_rfl
theorem scn_p1 : scn p1 = ([r1], 8, 0) := by
  rw [scn_ok p1_bts (by decide) ahE_p1, ahU_p1, ahR_p1]
  rw [show p1.drop (8 : Int).toNat = [] from rfl, scn_nil]
  rfl
def q1 : Rc := ⟨0, ⟨0, ⟨#[97]⟩, z32, 9, 0⟩⟩
def q2 : Rc := ⟨1, ⟨0, ⟨#[]⟩, z32, 0, 3⟩⟩
def q3 : Rc := ⟨2, ⟨0, ⟨#[]⟩, z32, 0, 0⟩⟩
theorem q_play : play st0 [q1, q2, q3] = (⟨[], 1⟩, 3) := by kernel_rfl
theorem q_ok : ∀ r ∈ [q1, q2, q3], r.ok := fun r hr => by
  simp only [List.mem_cons, List.not_mem_nil, or_false] at hr
  rcases hr with rfl | rfl | rfl <;> exact ⟨by decide, by decide, z32_len, z32_bytes, by unfold i64; decide, by unfold i64; decide, by unfold i64; decide⟩
theorem q_i : ∀ r ∈ [q1, q2, q3], r.x.i ≤ 4611686018427387904 := fun r hr => by
  simp only [List.mem_cons, List.not_mem_nil, or_false] at hr
  rcases hr with rfl | rfl | rfl <;> decide
theorem b_q1 : Tryd.prog.built 33 [(2, .string ⟨#[97]⟩), (4, .int .i64 9)] = some q1.cells.toArray := by kernel_rfl
theorem b_q2 : Tryd.prog.built 33 [(0, .int .u8 1), (5, .int .i64 3)] = some q2.cells.toArray := by kernel_rfl
theorem b_q3 : Tryd.prog.built 33 [(0, .int .u8 2)] = some q3.cells.toArray := by kernel_rfl
theorem b_r1 : Tryd.prog.built 33 [(0, .int .u8 1), (1, .int .i64 5), (5, .int .i64 9)] = some r1.cells.toArray := by kernel_rfl
def q123 : List Value := ([q1, q2, q3].map Rc.cells).flatten
theorem bs_q : Tryd.prog.builtSlice 33 3 [(0, .agg q1.cells.toArray), (1, .agg q2.cells.toArray), (2, .agg q3.cells.toArray)] = some q123.toArray := by kernel_rfl
theorem rs_block {w : World} {g : Nat} {l : List Rc} (hg : w.heap[g]? = some (.cells (l.map Rc.cells).flatten.toArray 33 (0, 0))) (hok : ∀ r ∈ l, r.ok) (hm : l.length ≤ 1000) : RS w (.slice (some ⟨g, 0, none⟩) l.length l.length) l := by
  refine ⟨⟨_, l.length, by rw [List.length_map], by rw [List.length_map]; exact Nat.le_refl _, by unfold maxLen; omega, fun e => (by cases e), cl_rc hok, .inr ⟨g, 0, rfl, fun i hi j v hv => ?_⟩⟩, hok⟩
  have h1 := (cl_rc hok).get hi hv
  rw [Nat.zero_add]
  unfold World.cell?
  rw [hg]
  simpa using h1
theorem wpList_bs3 {w : World} {ops : Array Oper} {rest : List Oper} {o : Oper} {a : Act} {Q : Exit → Act → World → Prop} (hgd : o.guard = none) (x y z : Operand) (ho : o.op = .buildSlice 40 3 #[(0, x), (1, y), (2, z)])
    (c1 c2 c3 cs : Array Value) (hx : a.eval x = .agg c1) (hy : a.eval y = .agg c2) (hz : a.eval z = .agg c3) (hb : Tryd.prog.builtSlice 33 3 [(0, .agg c1), (1, .agg c2), (2, .agg c3)] = some cs)
    (h : wpList Tryd.prog ops Q rest (a.put o.dst (.slice (some ⟨w.heap.size, 0, none⟩) 3 3)) (w.alloc (.cells cs 33))) : wpList Tryd.prog ops Q (o :: rest) a w :=
  Great.wpList_buildSliceTo hgd 40 33 3 #[(0, x), (1, y), (2, z)] ho w.heap.size rfl o.dst rfl Tryd.underlying40 cs (by simpa [hx, hy, hz] using hb) h
set_option maxHeartbeats 4000000 in
theorem awake_any (w : World) (ht : Tb w) : Calls Tryd.prog 5 #[] w fun e w' => e = .returned (.bool true) ∧ Below w.heap.size w w' := by
  have C1 := put_any r1 w r1_ok ht (by show (⟨#[]⟩ : ByteArray).size ≤ 1000; decide)
  rw [rck_r1, put_r1] at C1
  have C2 : Hid (∀ W v, Below w.heap.size w W → Sl W v p1 → Calls Tryd.prog 18 #[v] W fun e w' => ∃ v', e = .returned (.tuple #[v', .int .i64 8, .int .i64 0]) ∧ RR w' W.heap.size v' [r1] ∧ Below W.heap.size W w') := fun W v hb hs => by
    have := scan_any v p1 W hs (ht.kept hb) (by decide)
    rw [scn_p1] at this
    exact this
  have C3 : Hid (∀ W, W.heap.size + 1 ≤ 1000000000000000000000 ∨ True → Calls Tryd.prog 14 #[.slice (some ⟨W.heap.size, 0, none⟩) 3 3] (W.alloc (.cells q123.toArray 33)) fun e w' => ∃ v', e = .returned (.tuple #[.agg #[v', .int .i64 1], .int .i64 3]) ∧ RP w' (W.heap.size + 1) v' [] ∧ Below W.heap.size W w') := fun W _ => by
    have b := al_below W (.cells q123.toArray 33)
    have := play_any _ [q1, q2, q3] (W.alloc (.cells q123.toArray 33)) (rs_block (heap_alloc_new W _) q_ok (by decide)) (by decide) q_i
    rw [q_play] at this
    refine this.mono ?_
    rintro e w' ⟨v', h1, h2, h3⟩
    refine ⟨v', h1, by have := h2; simp at this; exact this, b.trans (h3.mono b.size)⟩
  have HS1 : Hid (strB [7, 1, 5, 9] = ⟨#[7, 1, 5, 9]⟩) := rfl
  have BR1 : Hid (Tryd.prog.built 33 [(0, .int .u8 1), (1, .int .i64 5), (5, .int .i64 9)] = some r1.cells.toArray) := b_r1
  have BQ1 : Hid (Tryd.prog.built 33 [(2, .string ⟨#[97]⟩), (4, .int .i64 9)] = some q1.cells.toArray) := b_q1
  have BQ2 : Hid (Tryd.prog.built 33 [(0, .int .u8 1), (5, .int .i64 3)] = some q2.cells.toArray) := b_q2
  have BQ3 : Hid (Tryd.prog.built 33 [(0, .int .u8 2)] = some q3.cells.toArray) := b_q3
  have BSQ : Hid (Tryd.prog.builtSlice 33 3 [(0, .agg q1.cells.toArray), (1, .agg q2.cells.toArray), (2, .agg q3.cells.toArray)] = some q123.toArray) := bs_q
  have HO : Hid (r1.x.o = 9 ∧ r1.ok) := ⟨rfl, r1_ok⟩
  unfold Rc.val at C1
  clear ht
  have HP1 : Hid (p1.take 4 = [7, 1, 5, 9] ∧ p1.length = 8) := ⟨rfl, rfl⟩
  generalize p1 = pp at *
  generalize r1 = rr at *
  generalize q1.cells.toArray = c1 at *
  generalize q2.cells.toArray = c2 at *
  generalize q3.cells.toArray = c3 at *
  generalize q123.toArray = c123 at *
  go_enter Tryd.func5, Tryd.ntmps5
  go_wp2_with (refine wpList_built rfl 33 _ rfl [(0, .int .u8 1), (1, .int .i64 5), (5, .int .i64 9)] rfl rr.cells.toArray BR1.out ?_)
  refine C1.mono ?_
  rintro e w1 ⟨v1, rfl, s1, b1⟩
  have B1 : Hid (Below w.heap.size w w1) := b1
  have S1 : Hid (Sl w1 v1 pp) := s1
  have c2' := C2.out w1 v1 b1 s1
  obtain ⟨a1, k1, rfl, kc1, -⟩ := id s1
  rw [HP1.out.2] at kc1 c2' S1 ⊢
  clear C1 C2 b1 s1 BR1
  go_wp2_with fail
  refine c2'.mono ?_
  rintro e w2 ⟨v2, rfl, rr2, b2⟩
  have B2 : Hid (Below w.heap.size w w2) := B1.out.trans (b2.mono B1.out.size)
  have S2 : Hid (Sl w2 (.slice a1 8 k1) pp) := S1.out.kept b2
  have R2 : Hid (RR w2 w1.heap.size v2 [rr]) := rr2
  obtain ⟨a2, k2, rfl, -, -, -⟩ := rr2.is.shape
  clear c2' b2 B1 S1 rr2
  have c3' := C3.out w2 (.inr trivial)
  obtain ⟨W3, hW3⟩ : ∃ W3, W3 = w2.alloc (.cells c123 33) := ⟨_, rfl⟩
  have b3 : Below w2.heap.size w2 W3 := by rw [hW3]; exact al_below _ _
  rw [← hW3] at c3'
  simp only [List.length_cons, List.length_nil, Nat.zero_add] at R2 ⊢
  go_wp2_with (first
    | refine wpList_built rfl 33 _ rfl [(2, .string ⟨#[97]⟩), (4, .int .i64 9)] rfl c1 BQ1.out ?_
    | refine wpList_built rfl 33 _ rfl [(0, .int .u8 1), (5, .int .i64 3)] rfl c2 BQ2.out ?_
    | refine wpList_built rfl 33 _ rfl [(0, .int .u8 2)] rfl c3 BQ3.out ?_
    | refine wpList_bs3 rfl _ _ _ rfl c1 c2 c3 c123 rfl rfl rfl BSQ.out (Hid.out ?_))
  unfold Hid
  rw [← hW3]
  clear hW3
  go_wp2_with fail
  refine c3'.mono ?_
  rintro e w4 ⟨v4, rfl, p4, b4⟩
  have B4 : Hid (Below w.heap.size w w4) := B2.out.trans (b4.mono B2.out.size)
  have S4 : Hid (Sl w4 (.slice a1 8 k1) pp) := S2.out.kept b4
  have R4 : Hid (RR w4 w1.heap.size (.slice a2 1 k2) [rr]) := R2.out.below b4
  obtain ⟨a4, k4, e4, -, -, -⟩ := p4.is.shape
  subst e4
  clear c3' b4 B2 S2 R2 p4 b3
  simp only [List.length_nil]
  obtain ⟨W5, hW5⟩ : ∃ W5, W5 = w4.alloc (.cells #[.slice a4 0 k4, .int .i64 1] 43) := ⟨_, rfl⟩
  have b5 : Below w4.heap.size w4 W5 := by rw [hW5]; exact al_below _ _
  have g5 : W5.heap[w4.heap.size]? = some (.cells #[.slice a4 0 k4, .int .i64 1] 43 (0, 0)) := by rw [hW5]; exact heap_alloc_new _ _
  have x0 : W5.cell? ⟨w4.heap.size, 0, none⟩ = some (.slice a4 0 k4) := by simp [World.cell?, g5]
  have x1 : W5.cell? ⟨w4.heap.size, 1, none⟩ = some (.int .i64 1) := by simp [World.cell?, g5]
  have HE1 : Hid ((w4.alloc (.cells #[.slice none 0 0, .int .i64 0] 43)).setRow w4.heap.size #[.slice a4 0 k4, .int .i64 1] = W5) := by unfold Hid; rw [hW5]; exact World.setRow_alloc_new _ _ _ _
  have B5 : Hid (Below w.heap.size w W5) := B4.out.trans (b5.mono B4.out.size)
  have s5 := (S4.out.kept b5).take 4 (by omega)
  rw [HP1.out.1] at s5
  have cv := s5.conv
  rw [HS1.out] at cv
  obtain ⟨b6, o6, rfl, hr6⟩ := (R4.out.below b5).is.at 0 (by simp)
  have o9 := (rcC hr6 HO.out.2).2.2.2.2.2
  have e9 : (atR [rr] 0).x.o = 9 := HO.out.1
  rw [e9] at o9
  simp only [Nat.zero_mul, Nat.add_zero] at o9
  have q4 : (4 : Int) ≤ (k1 : Int) := by omega
  clear hW5 b5 g5 s5 hr6 e9 B4 S4 R4
  go_wp2_with (refine wpList_store_row rfl 43 _ _ rfl w4.heap.size #[.slice a4 0 k4, .int .i64 1] rfl rfl 43 #[.slice none 0 0, .int .i64 0] (new_st w4) sizeT rfl (st_ones _ _ _ _) (Hid.out ?_))
  unfold Hid
  rw [HE1.out]
  clear HE1
  go_wp2
  go_ret
  exact ⟨rfl, B5.out⟩
end Go.Proofs.YtcenchnmibdebaaDoor
