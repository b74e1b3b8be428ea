/-
  What Put answers.
-/
import Derived.Test.YtjiefndjgkhcjaaDoorLy
import Derived.Test.YtjiefndjgkhcjaaDoorBz
namespace Go.Proofs.YtjiefndjgkhcjaaDoor
open Go.RowKit
set_option maxRecDepth 100000

set_option maxHeartbeats 1000000 in
theorem fnum_own (n : Int) (w : World) (hw : Fi.Wid w) :
    Calls Tryd.prog 33 #[.int .i64 n] w fun r w' => ∃ v, r = .returned v ∧ Ow w' w.heap.size v (Fi.numB n) ∧ Below w.heap.size w w' := by
  by_cases h0 : Fi.lenOf n = 0
  · have hn : Fi.numB n = [] := by unfold Fi.numB; rw [if_pos h0]
    rw [hn]
    have c := Fi.put_no n w hw h0
    clear hn h0
    go_enter Tryd.func33, Tryd.ntmps33
    go_wp2_with (go_at_call 53; refine c.mono ?_; rintro e w' ⟨rfl, rfl⟩)
    go_ret
    exact ⟨_, rfl, ⟨World.ownsRow_nil _ _ _ _, fun k => by simp⟩, Below.refl _ _⟩
  · obtain ⟨W, hW, hW0, hI, h1, h2, hn⟩ := Fi.pos_lim n h0
    have c := Fi.put_ok n W w hw hW hW0
    have hl := Fi.pb_len n W hI
    have hW8 : W ≤ 8 := by rcases hI with rfl | rfl | rfl | rfl <;> omega
    have HS : Hid (Ow (w.alloc (.cells (Fi.pbA n W) 5)) w.heap.size (.slice (some ⟨w.heap.size, 0, none⟩) W W) (Fi.numB n)) := by
      unfold Hid
      rw [hn]
      refine ⟨?_, Fi.pb_bytes n W hI h1 h2⟩
      rw [hl]
      refine ⟨by simp [hl], .inr ⟨w.heap.size, W, Fi.pbA n W, rfl, Nat.le_refl _, heap_alloc_new _ _, Nat.le_refl _, by unfold maxLen; omega, by unfold Fi.pbA; simp [hl], by unfold Fi.pbA; simp; exact List.take_of_length_le (by simp [hl])⟩⟩
    clear hn hl h0 hW hW0
    go_enter Tryd.func33, Tryd.ntmps33
    go_wp2_with (go_at_call 53; refine c.mono ?_; rintro e w' ⟨rfl, rfl⟩)
    go_ret
    exact ⟨_, rfl, HS.out, (Below.refl _ _).alloc (Nat.le_refl _) _⟩
theorem numB_len8 (n : Int) : (Fi.numB n).length ≤ 8 := by
  unfold Fi.numB
  split
  · simp
  · rename_i h0
    obtain ⟨W, hW, _, hI, _, _, hn⟩ := Fi.pos_lim n h0
    rw [hW, Int.toNat_natCast, Fi.pb_len n W hI]
    rcases hI with rfl | rfl | rfl | rfl <;> omega
/-- The bytes of sums, one behind the other. -/
def layL (z n : Int) (l : List Sg) : List Int := Fi.numB z ++ (Fi.numB n ++ (l.map layG).flatten)
def bput (z n : Int) (l : List Sg) : List Int × Int := if chk z n l.length ≠ 0 then ([], chk z n l.length) else (layL z n l, 0)
theorem lays_len : ∀ (l : List Sg), (∀ x ∈ l, x.ok) → (l.map layG).flatten.length = l.length * 36
  | [], _ => by simp
  | x :: l, h => by
    have ih := lays_len l (fun y hy => h y (by simp [hy]))
    rw [List.map_cons, List.flatten_cons, List.length_append, List.length_cons, layG_len x (h x (by simp)), ih]
    omega
theorem LP.two {w : World} {B : Nat} {u v : Value} {X Y : List Int} (h : Ow w B u X) (k : Ow w B v Y) (hB : B ≤ w.heap.size) : LP (w.alloc (.cells #[u, v] 22)) B (.slice (some ⟨w.heap.size, 0, none⟩) 2 2) [X, Y] := by
  refine ⟨[u, v], ⟨rfl, .inr ⟨w.heap.size, 2, #[u, v], rfl, hB, heap_alloc_new _ _, Nat.le_refl _, by unfold maxLen; omega, rfl, rfl⟩⟩, fun i hi => ?_⟩
  rcases (show i = 0 ∨ i = 1 by simp at hi; omega) with rfl | rfl
  · exact ⟨u, rfl, h.below (al_below _ _)⟩
  · exact ⟨v, rfl, k.below (al_below _ _)⟩
set_option maxHeartbeats 2000000 in
theorem put_any (z n : Int) (v : Value) (l : List Sg) (w : World) (h : GS w v l) (hl : l.length ≤ 90000) (hw : Fi.Wid w) :
    Calls Tryd.prog 15 #[.int .i64 z, .int .i64 n, v] w fun e w' => ∃ v', e = .returned (.tuple #[v', .int .i64 (bput z n l).2]) ∧ Ow w' w.heap.size v' (bput z n l).1 ∧ Below w.heap.size w w' := by
  obtain ⟨a, c, rfl, h2, h3, h4⟩ := h.shape
  have CK := check_any z n a l.length c w (by omega)
  have HS : Hid (GS w (.slice a l.length c) l) := h
  have HOK : Hid (∀ x ∈ l, x.ok) := h.ok
  have HBIG : Hid ((Fi.numB z :: Fi.numB n :: l.map layG).flatten.length ≤ 200000000000000) := by
    unfold Hid
    have h1 := lays_len l h.ok
    have h2 := numB_len8 z
    have h5 := numB_len8 n
    rw [List.flatten_cons, List.flatten_cons, List.length_append, List.length_append]
    omega
  have HW : Hid (Fi.Wid w) := hw
  have HM : Hid (bput z n l = if chk z n l.length ≠ 0 then ([], chk z n l.length) else (layL z n l, 0)) := rfl
  have HY : Hid (layL z n l = (Fi.numB z :: Fi.numB n :: l.map layG).flatten) := by unfold Hid layL; simp
  obtain ⟨L, hn'⟩ : ∃ L, L = l.length := ⟨_, rfl⟩
  have HN : Hid (L = l.length) := hn'
  have CNN : Hid (∀ W k, Below w.heap.size w W → Calls Tryd.prog 33 #[.int .i64 k] W fun r w' => ∃ v, r = .returned v ∧ Ow w' W.heap.size v (Fi.numB k) ∧ Below W.heap.size W w') := fun W k hb => fnum_own k W (hw.below hb hw.pos)
  rw [← hn'] at HS h2 hl CK HM ⊢
  clear h h3 h4 hn' hw
  generalize bput z n l = R at *
  generalize chk z n L = k at *
  generalize layL z n l = Y at *
  go_enter Tryd.func15, Tryd.ntmps15
  go_wp2_with fail
  refine CK.mono ?_
  rintro e w1 ⟨rfl, hq⟩
  replace hq := hq.symm
  subst hq
  clear CK
  by_cases hk : k = 0
  · subst hk
    obtain rfl : R = (Y, 0) := by have := HM.out; simpa using this
    clear HM
    have cn := CNN.out w z (Below.refl _ _)
    go_wp2_with fail
    refine cn.mono ?_
    rintro e w1 ⟨v1, rfl, o1, b1⟩
    clear cn
    have B1 : Hid (Below w.heap.size w w1) := b1
    have O1 : Hid (Ow w1 w.heap.size v1 (Fi.numB z)) := o1
    obtain ⟨za, zc, rfl⟩ := o1.shape
    have cn := CNN.out w1 n b1
    clear o1 b1 CNN
    obtain ⟨nz, hnz⟩ : ∃ nz, nz = (Fi.numB z).length := ⟨_, rfl⟩
    rw [← hnz] at O1 ⊢
    clear hnz
    go_wp2_with fail
    refine cn.mono ?_
    rintro e w2 ⟨v2, rfl, o2, b2⟩
    clear cn
    have B2 : Hid (Below w.heap.size w w2) := B1.out.trans (b2.mono B1.out.size)
    have L3 := LP.two (O1.out.below b2) (o2.mono B1.out.size) B2.out.size
    obtain ⟨W3, hW3⟩ : ∃ W3, W3 = w2.alloc (.cells #[.slice za nz zc, v2] 22) := ⟨_, rfl⟩
    rw [← hW3] at L3
    have B3 : Hid (Below w.heap.size w W3) := by unfold Hid; rw [hW3]; exact B2.out.trans ((al_below _ _).mono B2.out.size)
    obtain ⟨na, nc, rfl⟩ := o2.shape
    have HL3 : Hid (LP W3 w.heap.size (.slice (some ⟨w2.heap.size, 0, none⟩) 2 2) (Fi.numB z :: Fi.numB n :: (l.take 0).map layG)) := L3
    have hw3 : w2.alloc (.cells #[.slice za nz zc, .slice na (Fi.numB n).length nc] 22) = W3 := hW3.symm
    clear o2 b2 L3 hW3 B1 B2 O1
    go_wp2_with fail
    try rw [hw3]
    clear hw3
    go_loopw [9, 26] (fun s q wr => ∃ j : Nat, j ≤ L ∧ q = .int .i64 j ∧ LP wr w.heap.size s (Fi.numB z :: Fi.numB n :: (l.take j).map layG) ∧ Below w.heap.size w wr) (fun _ q _ => L - (intOf q).toNat)
    case atStart => exact ⟨0, by omega, rfl, HL3.out, B3.out⟩
    case round =>
      clear HL3 B3
      obtain ⟨j, hj, rfl, oe, bel⟩ := hrel
      have HB : Hid (Below w.heap.size w wr) := bel
      have HO : Hid (LP wr w.heap.size u9 (Fi.numB z :: Fi.numB n :: (l.take j).map layG)) := oe
      have hlj : (Fi.numB z :: Fi.numB n :: (l.take j).map layG).length = j + 2 := by rw [List.length_cons, List.length_cons, List.length_map, List.length_take, ← HN.out]; omega
      obtain ⟨va, vc, rfl, -⟩ := oe.parts (by rw [hlj]; omega)
      rw [hlj] at HO ⊢
      clear bel oe
      by_cases hlt : j < L
      · have lt2 : (j : Int) < (L : Int) := by omega
        obtain ⟨b, off, rfl, hr⟩ := (HS.out.kept HB.out).at j (by rw [← HN.out]; exact hlt)
        have hx : (atI l j).ok := Sg.at l HOK.out j
        have HT : Hid (Fi.numB z :: Fi.numB n :: (l.take (j + 1)).map layG = (Fi.numB z :: Fi.numB n :: (l.take j).map layG) ++ [layG (atI l j)]) := by unfold Hid; rw [takeI_at l j (by rw [← HN.out]; exact hlt)]; simp
        generalize atI l j = x at *
        have RN : Hid (wr.rangeAt b (off + j * 33) x.cells) := hr
        have HZ : Hid ((Tryd.prog.info? 57).map (·.size) = some x.cells.length) := sizeI.trans (by rw [Sg.len hx])
        have HI : Hid ((Tryd.prog.info? 57).map (·.size) = some x.cells.toArray.size) := Sg.info x hx
        have HE : Hid (izc.size = x.cells.toArray.size) := izc_size.trans (Sg.size x hx).symm
        obtain ⟨W1, hW1⟩ : ∃ W1, W1 = wr.alloc (.cells x.cells.toArray 57) := ⟨_, rfl⟩
        have b1 : Below wr.heap.size wr W1 := by rw [hW1]; exact al_below _ _
        have R1 : Hid (W1.rangeAt wr.heap.size 0 x.cells) := by unfold Hid; rw [hW1]; exact (IB.new wr x).range
        have B1 : Hid (Below w.heap.size w W1) := HB.out.trans (b1.mono HB.out.size)
        have CO := lay_any x W1 hx
        have O1 : Hid (LP W1 w.heap.size (.slice va (j + 2) vc) (Fi.numB z :: Fi.numB n :: (l.take j).map layG)) := HO.out.below b1
        have e1 := alloc_it wr x
        rw [← hW1] at e1
        have HE1 : Hid ((wr.alloc (.cells #[.int .u32 0, .int .u8 0, .int .u8 0, .int .u8 0, .int .u8 0, .int .u8 0, .int .u8 0, .int .u8 0, .int .u8 0, .int .u8 0, .int .u8 0, .int .u8 0, .int .u8 0, .int .u8 0, .int .u8 0, .int .u8 0, .int .u8 0, .int .u8 0, .int .u8 0, .int .u8 0, .int .u8 0, .int .u8 0, .int .u8 0, .int .u8 0, .int .u8 0, .int .u8 0, .int .u8 0, .int .u8 0, .int .u8 0, .int .u8 0, .int .u8 0, .int .u8 0, .int .u8 0] 57)).setRow wr.heap.size x.cells.toArray = W1) := e1
        have H1 : Hid (∀ v ∈ x.cells, v.oneCell' = true) := Sg.one x
        clear b1 HO hr hx e1 hW1
        generalize Fi.numB z :: Fi.numB n :: (l.take j).map layG = LL at *
        have HJ : Hid (LL.length = j + 2) := hlj
        clear hlj
        unfold Sg.val at CO
        generalize layG x = X at *
        generalize x.cells = cs at *
        go_wp2_with (refine wpList_load_mid rfl 57 _ rfl b (off + j * 33) rfl cs _ RN.out Tryd.underlying57 rfl HZ.out (Hid.out ?_))
        unfold Hid
        go_wp2_with (refine wpList_store_row rfl 57 _ _ rfl wr.heap.size cs.toArray rfl rfl 57 izc (new_it wr) HI.out HE.out (all_oneCell_toArray H1.out) (Hid.out ?_))
        unfold Hid
        rw [HE1.out]
        go_wp2_with (refine wpList_load_mid rfl 57 _ rfl wr.heap.size 0 rfl cs _ R1.out Tryd.underlying57 rfl HZ.out (Hid.out ?_))
        unfold Hid
        go_wp2_with fail
        refine CO.mono ?_
        rintro e w2 ⟨u, rfl, o2, b2⟩
        clear CO
        obtain ⟨W3, hW3⟩ : ∃ W3, W3 = w2.alloc (.cells #[u] 22) := ⟨_, rfl⟩
        have b3 : Below w2.heap.size w2 W3 := by rw [hW3]; exact al_below _ _
        have b13 : Below W1.heap.size W1 W3 := b2.trans (b3.mono b2.size)
        have B3 : Hid (Below w.heap.size w W3) := B1.out.trans (b13.mono B1.out.size)
        have L3 : Hid (LP W3 w.heap.size (.slice va (j + 2) vc) LL) := O1.out.below b13
        have O3 : Hid (Ow W3 w.heap.size u X) := (o2.mono B1.out.size).below b3
        have K3 : Hid (W3.cell? ⟨w2.heap.size, 0, none⟩ = some u) := by unfold Hid; rw [hW3, World.cell?_alloc_at _ _ _ _ rfl]; rfl
        obtain ⟨ua, uc, rfl⟩ := o2.shape
        have HW3 : Hid (w2.alloc (.cells #[.slice ua X.length uc] 22) = W3) := hW3.symm
        clear o2 b2 b3 b13 O1 hW3
        generalize X.length = nx at *
        go_wp2_with (at_builtin; rw [HW3.out]; refine wpList_append_lp rfl _ _ rfl w.heap.size _ LL rfl L3.out w2.heap.size (.slice ua nx uc) X 1 O3.out rfl K3.out (by rw [HJ.out]; omega) B3.out.size (Hid.out ?_))
        unfold Hid
        intro v4 w4 r4 g4
        have B4 : Hid (Below w.heap.size w w4) := B3.out.trans g4
        have O4 : Hid (LP w4 w.heap.size v4 (Fi.numB z :: Fi.numB n :: (l.take (j + 1)).map layG)) := by
          unfold Hid
          rw [HT.out]
          exact r4
        clear r4 g4 L3 O3 K3
        go_wp2
        go_roundw
        case rel => exact ⟨j + 1, by omega, by go_num, O4.out, B4.out⟩
        case measure => simp [intOf]; omega
      · obtain rfl : j = L := by omega
        have h1 := HO.out
        have h2 : l.take j = l := by rw [HN.out, List.take_length]
        rw [h2] at h1
        obtain ⟨p, c', e, hP⟩ := h1.parts (by rw [List.length_cons, List.length_cons, List.length_map, ← HN.out]; omega)
        have cj := fjoin_any p c' _ wr hP HBIG.out
        rw [← HY.out] at cj
        have e2 : (Fi.numB z :: Fi.numB n :: l.map layG).length = j + 2 := by rw [List.length_cons, List.length_cons, List.length_map, ← HN.out]
        rw [e2] at cj e
        cases e
        clear h1 h2 hP e2 hlj
        go_wp2_with fail
        refine cj.mono ?_
        rintro e w5 ⟨v5, rfl, o5, b5⟩
        clear cj
        have OZ : Hid (Ow w5 w.heap.size v5 Y) := o5.mono HB.out.size
        have BZ : Hid (Below w.heap.size w w5) := HB.out.trans (b5.mono HB.out.size)
        obtain ⟨ja, jc, rfl⟩ := o5.shape
        clear o5 b5
        go_wp2
        go_ret2
        exact ⟨_, rfl, OZ.out, BZ.out⟩
  · obtain rfl : R = ([], k) := by have := HM.out; rwa [if_pos hk] at this
    have hk2 : (k != 0) = true := by simpa using hk
    go_wp2
    go_ret2
    exact ⟨_, rfl, ⟨World.ownsRow_nil _ _ _ _, fun k => by simp⟩, Below.refl _ _⟩
end Go.Proofs.YtjiefndjgkhcjaaDoor
