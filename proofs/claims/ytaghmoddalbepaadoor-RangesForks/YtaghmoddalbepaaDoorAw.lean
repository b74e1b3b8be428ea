/-
  The closed case.
-/
import Derived.Test.YtaghmoddalbepaaDoorPu
import Derived.Test.YtaghmoddalbepaaDoorGe
namespace Go.Proofs.YtaghmoddalbepaaDoor
open Go.RowKit Go.Shelf
set_option maxRecDepth 100000

def l23 : List Sp := [(2, 3), (7, 9)]
theorem l23_canon : Canon l23 := by
  unfold l23
  refine ⟨fun x hx => ?_, ?_⟩
  · simp only [List.mem_cons, List.not_mem_nil, or_false] at hx
    rcases hx with rfl | rfl <;> (unfold Okk; decide)
  · refine List.pairwise_cons.2 ⟨fun y hy => ?_, List.pairwise_singleton _ _⟩
    rw [List.mem_singleton.1 hy]
    decide
theorem put_l23 : putB l23 = [9, 1, 2, 2, 1] := by decide
theorem get_l23 : getP [9, 1, 2, 2, 1] = (l23, 5, 0) := by
  have := getP_put l23_canon (by decide) (by decide) []
  rw [List.append_nil, put_l23] at this
  exact this
theorem su_bt {g : Nat} {w0 w w' : World} {v v' : Value} (h : SU w w' g v v') (b : Bt g w0 w) (ho : ∀ k, v.ownBlock = some k → w0.heap.size ≤ k) : Bt g w0 w' :=
  ⟨h.os.trans b.os, h.tape.trans b.tape, h.output.trans b.output, Nat.le_trans b.size h.size, fun k hk hn => (h.block k (by have := b.size; omega) hn (fun e => by have := ho k e; omega)).trans (b.block k hk hn)⟩
theorem SSp.bt {w w' : World} {g : Nat} {v : Value} {l : List Sp} (h : SSp w v l) (hb : Bt g w w') (hr : ∀ k, rowB v = some k → k < w.heap.size ∧ k ≠ g) : SSp w' v l :=
  h.kt (n := w.heap.size) (X := fun k => k = g) (fun k _ hk hx ho _ => (hb.block k hk hx).trans ho) hr
theorem two_sp (w : World) (x y : Sp) : SSp (w.alloc (.cells #[.int .i64 x.1, .int .i64 x.2, .int .i64 y.1, .int .i64 y.2] 58)) (.slice (some ⟨w.heap.size, 0, none⟩) 2 2) [x, y] :=
  RSp.is (B := 0) (RSp.of ⟨rfl, .inr ⟨w.heap.size, 2, _, rfl, Nat.zero_le _, heap_alloc_new _ _, Nat.le_refl _, by unfold maxLen; omega, rfl, rfl⟩⟩)
set_option maxHeartbeats 4000000 in
theorem awake_any (w : World) (hw : Fi.Wid w) : Calls Tryd.prog 8 #[] w fun e w' => e = .returned (.bool true) ∧ Below w.heap.size w w' := by
  have cn := new_any w
  obtain ⟨w1, hw1⟩ : ∃ w1, w1 = w.alloc (.cells #[.slice none 0 0] 60) := ⟨_, rfl⟩
  have HB1 : Hid (Below w.heap.size w w1) := by unfold Hid; rw [hw1]; exact al_below _ _
  have HS1 : Hid (∀ B, ST w1 B w.heap.size (.slice none 0 0) []) := fun B => by rw [hw1]; exact st_new w B
  have HW : Hid (Fi.Wid w) := hw
  rw [← hw1] at cn
  clear hw hw1
  go_enter Tryd.func8, Tryd.ntmps8
  go_wp2_with fail
  refine cn.mono ?_
  rintro e wq ⟨rfl, eq⟩
  rw [eq]
  clear cn eq wq
  obtain ⟨w2, hw2⟩ : ∃ w2, w2 = w1.alloc (.cells #[.int .i64 2, .int .i64 3, .int .i64 7, .int .i64 9] 58) := ⟨_, rfl⟩
  have b2 : Below w1.heap.size w1 w2 := by rw [hw2]; exact al_below _ _
  have s2 : SSp w2 (.slice (some ⟨w1.heap.size, 0, none⟩) l23.length 2) l23 := by rw [hw2]; exact two_sp w1 (2, 3) (7, 9)
  have HB2 : Hid (Below w.heap.size w w2) := HB1.out.trans (b2.mono HB1.out.size)
  have HS2 : Hid (∀ B, ST w2 B w.heap.size (.slice none 0 0) []) := fun B => (HS1.out B).below b2
  have hz2 : w1.heap.size < w2.heap.size := by rw [hw2]; simp
  have cp := put_yes w2 (some ⟨w1.heap.size, 0, none⟩) 2 l23 (HW.out.below HB2.out HW.out.pos) s2 (fun k hk => by rw [show k = w1.heap.size by simpa [rowB] using hk.symm]; exact hz2) l23_canon (by decide) (by decide)
  rw [put_l23, show l23.length = 2 from rfl] at cp
  clear b2 s2 hz2 HS1 HB1
  go_wp2_with fail
  rw [← hw2]
  clear hw2
  refine cp.mono ?_
  rintro e w3 ⟨v3, rfl, o3, b3⟩
  obtain ⟨a3, c3, rfl⟩ := o3.shape
  have HB3 : Hid (Below w.heap.size w w3) := HB2.out.trans (b3.mono HB2.out.size)
  have HS3 : Hid (∀ B, ST w3 B w.heap.size (.slice none 0 0) []) := fun B => (HS2.out B).below b3
  have HO3 : Hid (Ow w3 w2.heap.size (.slice a3 5 c3) [9, 1, 2, 2, 1]) := o3
  have cg := get_any w3 _ _ (HW.out.below HB3.out HW.out.pos) o3.sl (by decide)
  rw [get_l23] at cg
  simp only [List.length_cons, List.length_nil, Nat.zero_add, Nat.reduceAdd] at cg ⊢
  clear cp o3 b3 HS2
  go_wp2_with fail
  refine cg.mono ?_
  rintro e w4 ⟨v4, rfl, r4, b4⟩
  obtain ⟨a4, c4, rfl, -, -, -⟩ := r4.is.shape
  have HB4 : Hid (Below w.heap.size w w4) := HB3.out.trans (b4.mono HB3.out.size)
  have HS4 : Hid (ST w4 w4.heap.size w.heap.size (.slice none 0 0) []) := (HS3.out _).below b4
  have HO4 : Hid (Ow w4 w2.heap.size (.slice a3 5 c3) [9, 1, 2, 2, 1]) := HO3.out.below b4
  have HR4 : Hid (RSp w4 w3.heap.size (.slice a4 2 c4) l23) := r4
  rw [show l23.length = 2 from rfl]
  have HT4 : Hid (Bt w.heap.size w4 w4) := Bt.refl _ _
  clear cg r4 b4 HO3 HS3
  have ca5 := add_any w4 w4.heap.size w.heap.size (.slice none 0 0) [] 5 7 HS4.out (by decide) HT4.out.size
  rw [show adB [] 5 7 = true by decide, show adP [] 5 7 = [(5, 7)] by decide] at ca5
  go_wp2_with fail
  refine ca5.mono ?_
  rintro e w5 ⟨rfl, v5s, s5, u5⟩
  have HS5 : Hid (ST w5 w4.heap.size w.heap.size v5s [(5, 7)]) := s5
  have HT5 : Hid (Bt w.heap.size w4 w5) := su_bt u5 HT4.out (own_base HS4.out.rs.1)
  clear ca5 s5 u5
  have ca6 := add_any w5 w4.heap.size w.heap.size v5s [(5, 7)] 9 9 HS5.out (by decide) HT5.out.size
  rw [show adB [(5, 7)] 9 9 = true by decide, show adP [(5, 7)] 9 9 = [(5, 7), (9, 9)] by decide] at ca6
  go_wp2_with fail
  refine ca6.mono ?_
  rintro e w6 ⟨rfl, v6s, s6, u6⟩
  have HS6 : Hid (ST w6 w4.heap.size w.heap.size v6s [(5, 7), (9, 9)]) := s6
  have HT6 : Hid (Bt w.heap.size w4 w6) := su_bt u6 HT5.out (own_base HS5.out.rs.1)
  clear ca6 s6 u6
  have ca7 := add_any w6 w4.heap.size w.heap.size v6s [(5, 7), (9, 9)] 8 8 HS6.out (by decide) HT6.out.size
  rw [show adB [(5, 7), (9, 9)] 8 8 = true by decide, show adP [(5, 7), (9, 9)] 8 8 = [(5, 9)] by decide] at ca7
  go_wp2_with fail
  refine ca7.mono ?_
  rintro e w7 ⟨rfl, v7s, s7, u7⟩
  have HS7 : Hid (ST w7 w4.heap.size w.heap.size v7s [(5, 9)]) := s7
  have HT7 : Hid (Bt w.heap.size w4 w7) := su_bt u7 HT6.out (own_base HS6.out.rs.1)
  clear ca7 s7 u7
  have ca8 := add_any w7 w4.heap.size w.heap.size v7s [(5, 9)] 6 9 HS7.out (by decide) HT7.out.size
  rw [show adB [(5, 9)] 6 9 = false by decide, show adP [(5, 9)] 6 9 = [(5, 9)] by decide] at ca8
  go_wp2_with fail
  refine ca8.mono ?_
  rintro e w8 ⟨rfl, v8s, s8, u8⟩
  have HS8 : Hid (ST w8 w4.heap.size w.heap.size v8s [(5, 9)]) := s8
  have HT8 : Hid (Bt w.heap.size w4 w8) := su_bt u8 HT7.out (own_base HS7.out.rs.1)
  clear ca8 s8 u8
  have cl := len_any w8 w4.heap.size w.heap.size v8s [(5, 9)] HS8.out
  go_wp2_with fail
  refine cl.mono ?_
  rintro e wq ⟨rfl, eq⟩
  rw [eq]
  clear cl eq wq
  have cc := countAll_any w8 (some ⟨w.heap.size, 0, none⟩) [(5, 9)] HS8.out.sqA
  rw [show cnt [(5, 9)] = 5 by decide] at cc
  go_wp2_with fail
  refine cc.mono ?_
  rintro e w9 ⟨rfl, b9⟩
  have HT9 : Hid (Bt w.heap.size w4 w9) := HT8.out.trans (Bt.of b9)
  have hgl : w.heap.size < w4.heap.size := Nat.lt_of_lt_of_le (blk_lt HS4.out.sb) (Nat.le_refl _)
  have o9 : Ow w9 w2.heap.size (.slice a3 5 c3) [9, 1, 2, 2, 1] := HO4.out.keep (fun k cs hk hh => (HT9.out.block k (blk_lt hh) (fun e => by
    have := HS4.out.sb
    unfold SB at this
    rw [← e, hh] at this
    cases this)).trans hh)
  have cv := o9.sl.conv
  rw [show strB [9, 1, 2, 2, 1] = (⟨#[9, 1, 2, 2, 1]⟩ : ByteArray) from rfl] at cv
  have r9 : RSp w9 w3.heap.size (.slice a4 2 c4) l23 := HR4.out.keep (fun k cs hk hh => (HT9.out.block k (blk_lt hh) (fun e => by
    have := HS4.out.sb
    unfold SB at this
    rw [← e, hh] at this
    cases this)).trans hh)
  have HR9 : Hid (RSp w9 w3.heap.size (.slice a4 2 c4) l23) := r9
  have HB9 : Hid (Below w.heap.size w w9) := HT9.out.below HB4.out (Nat.le_refl _) HB4.out.size
  clear cc b9 o9 r9 hgl
  obtain ⟨w10, hw10⟩ : ∃ w10, w10 = w9.alloc (.cells #[.int .i64 2, .int .i64 3, .int .i64 7, .int .i64 9] 58) := ⟨_, rfl⟩
  have b10 : Below w9.heap.size w9 w10 := by rw [hw10]; exact al_below _ _
  have s10 : SSp w10 (.slice (some ⟨w9.heap.size, 0, none⟩) 2 2) l23 := by rw [hw10]; exact two_sp w9 (2, 3) (7, 9)
  have cs := rsame_any w10 _ _ l23 l23 (HR9.out.below b10).is s10 (by decide)
  rw [decide_eq_true rfl] at cs
  have HB10 : Hid (Below w.heap.size w w10) := HB9.out.trans (b10.mono HB9.out.size)
  clear b10 s10 HR9 HB9
  go_wp2_with fail
  rw [← hw10]
  clear hw10
  refine cs.mono ?_
  rintro e w11 ⟨rfl, b11⟩
  have HB11 : Hid (Below w.heap.size w w11) := HB10.out.trans (b11.mono HB10.out.size)
  clear cs b11
  go_wp2
  go_ret
  exact ⟨rfl, HB11.out⟩
end Go.Proofs.YtaghmoddalbepaaDoor
