/-
  MatchCounts: how many bytes any operations copy, how many they have, and whether any two lists are the same, is told as the document says, and without an index all are bytes, which are memory of their own; at most 300 operations, 20000 bytes, numbers up to two to the 40th, else the closed case alone is asked. It holds for every input of the row; the two tables of sha (first, rounds) hold what their declarations lay when the call begins.
-/
import Derived.Test.YtlhmpcmlpfffoaaDoorFr
import Derived.Test.YtlhmpcmlpfffoaaDoorRw
namespace Go.Proofs.YtlhmpcmlpfffoaaDoor.matchCounts
open Go.ChangeShapes Go.WideShapes Go.ChangeAt Go.RowKit Go.Deep Go.ChangeMaps
set_option maxRecDepth 100000

set_option maxHeartbeats 2000000 in
theorem search_nil (v : Value) (b : List Int) (w : World) (h : Sl w v b) (hb : b.length ≤ 100000) :
    Calls Tryd.prog 13 #[.pointer none, v] w fun e w' => ∃ v', e = .returned v' ∧ OX w' w.heap.size v' (whl b) ∧ Below w.heap.size w w' := by
  have CW := whole_any v b w h (by omega)
  obtain ⟨a, c, rfl, -⟩ := id h
  clear h hb
  generalize b.length = L at *
  generalize whl b = R at *
  go_enter Tryd.func13, Tryd.ntmps13
  go_wp2_with fail
  go_step3
  go_wp2_with fail
  refine CW.mono ?_
  rintro e w1 ⟨v1, rfl, o1, b1⟩
  clear CW
  have O1 : Hid (OX w1 w.heap.size v1 R) := o1
  have B1 : Hid (Below w.heap.size w w1) := b1
  obtain ⟨a1, c1, rfl, -⟩ := o1.shape
  clear o1 b1
  generalize R.length = rn at *
  go_wp2
  try rw [Exit.noGoto_ret]
  go_ret
  exact ⟨_, rfl, O1.out, B1.out⟩
/-- The bytes of a Whole: in a block of their own, which the row's only operation has. -/
def DW (w0 : World) (gr gd L dc : Nat) (w : World) : Prop := w.cell? ⟨gr, 3, none⟩ = some (.slice (some ⟨gd, 0, none⟩) L dc) ∧ (∃ cur, w.heap[gd]? = some (.cells cur 5 (0, 0))) ∧ (∃ Y : List Int, Y.length = L ∧ Sl w (.slice (some ⟨gd, 0, none⟩) L dc) Y) ∧ Below w0.heap.size w0 w
theorem DW.of {w0 w : World} {v : Value} {b : List Int} (h : OX w w0.heap.size v (whl b)) (hb : b ≠ []) (bel : Below w0.heap.size w0 w) : ∃ gr gd dc rc, v = .slice (some ⟨gr, 0, none⟩) 1 rc ∧ gr ≠ gd ∧ w0.heap.size ≤ gd ∧ b.length ≤ dc ∧ ∀ x, Below w.heap.size w x → DW w0 gr gd b.length dc x := by
  rw [whl_some hb] at h
  obtain ⟨U, r, o⟩ := h
  have o0 := (o 0 (by simp)).1
  have h' : w.ownsRow w0.heap.size 5 1 (U 0) b.length (b.map (Value.int .u8)) := o0
  have hxs : XSU w v [⟨false, 0, 0, b⟩] U := r.xsu fun i hi => sl_owned (o i hi).1 (o i hi).2
  have hsl : Sl w (U 0) b := sl_owned (o 0 (by simp)).1 (o 0 (by simp)).2
  rcases r.2 with ⟨_, e⟩ | ⟨gr, rc, cur, rfl, hgr, hhr, _⟩
  · simp at e
  rcases h'.2 with ⟨_, e⟩ | ⟨gd, dc, cur2, eu, hgd, hhd, hdc, _⟩
  · exact absurd (List.length_eq_zero_iff.1 e) hb
  obtain ⟨a', c', e', _, _, _, h5⟩ := hxs
  cases e'
  rcases h5 with h5 | ⟨b', off, e2, h6⟩
  · cases h5
  cases e2
  obtain ⟨-, -, -, k3, -⟩ := h6 0 (by simp)
  simp only [Nat.zero_mul, Nat.zero_add] at k3
  rw [eu] at k3 hsl
  refine ⟨gr, gd, dc, rc, rfl, fun e => ?_, hgd, hdc, fun x hx => ⟨?_, ⟨cur2, (hx.block gd (Array.getElem?_eq_some_iff.1 hhd).1).trans hhd⟩, ⟨b, rfl, hsl.kept hx⟩, bel.trans (hx.mono bel.size)⟩⟩
  · rw [e, hhd] at hhr
    cases hhr
  · exact (hx.cell (World.block_lt_of_cell? _ _ k3)).trans k3
theorem DW.step {w0 : World} {gr gd L dc : Nat} {w : World} (h : DW w0 gr gd L dc w) (hne : gr ≠ gd) (hg : w0.heap.size ≤ gd) (q : Nat) (hq : q < L) : ∃ y : Int, 0 ≤ y ∧ y < 256 ∧ w.cell? ⟨gd, q, none⟩ = some (.int .u8 y) ∧ w.frozen? ⟨gd, q, none⟩ = false ∧ ∀ z, 0 ≤ z → z < 256 → DW w0 gr gd L dc (w.setCell ⟨gd, q, none⟩ (.int .u8 z)) := by
  obtain ⟨h1, ⟨cur, h2⟩, ⟨Y, h3, h4⟩, h5⟩ := h
  have hb := h4.bytes q
  refine ⟨Y.getD q 0, hb.1, hb.2, ?_, frozen_of_row _ _ _ _ _ h2, fun z z0 z1 => ⟨?_, ⟨_, heap_setCell_same _ _ _ _ _ _ h2⟩, ⟨Y.set q z, by rw [List.length_set]; exact h3, ?_⟩, h5.setCell hg _⟩⟩
  · obtain ⟨a', c', e', _, _, _, h6⟩ := h4
    cases e'
    rcases h6 with h6 | ⟨_, b', off', e, _, _, hcc, _⟩
    · omega
    · cases e
      have := hcc q (by omega)
      rwa [Nat.zero_add] at this
  · rw [World.cell?_setCell_other _ _ _ _ (by intro e; cases e; exact hne rfl)]
    exact h1
  · have := h4.set q hq z ⟨z0, z1⟩
    rwa [Nat.zero_add] at this
set_option maxHeartbeats 8000000 in
theorem walk (v0 : Value) (l : List Xp) (v1 : Value) (m : List Xp) (v2 : Value) (b : List Int) (w : World) (hw : Ta w) (h0 : XS w v0 l) (h1 : XS w v1 m) (h2 : SlX w v2 b) :
    Calls Tryd.prog 5 #[v0, v1, v2] w fun e w' => e = .returned (.bool true) ∧ Below w.heap.size w w' := by
  have CA : Hid (∀ W, Below w.heap.size w W → Calls Tryd.prog 9 #[] W fun e w' => e = .returned (.bool true) ∧ Below W.heap.size W w') := fun W hb => awake_any W (hw.kept hb)
  obtain ⟨a2, c2, rfl, hc2, hm2, hn2, -⟩ := id h2.1
  have H2 : Hid (SlX w (.slice a2 b.length c2) b) := h2
  obtain ⟨LB, hLB⟩ : ∃ LB, LB = b.length := ⟨_, rfl⟩
  have HLB : Hid (LB = b.length) := hLB
  rw [← hLB] at H2 hc2 ⊢
  have bLB : (LB : Int) ≤ 9223372036854775807 := by unfold maxLen at hm2; omega
  have C1 := light_any v0 l 300 20000 w h0 (by decide) (by decide)
  have C2 := light_any v1 m 300 20000 w h1 (by decide) (by decide)
  obtain ⟨a0, c0, rfl, -⟩ := h0.shape
  obtain ⟨a1, c1, rfl, -⟩ := h1.shape
  have X0 : Hid (∀ x, Below w.heap.size w x → XS x (.slice a0 l.length c0) l) := fun x hx => h0.kept hx
  have X1 : Hid (∀ x, Below w.heap.size w x → XS x (.slice a1 m.length c1) m) := fun x hx => h1.kept hx
  have HW : Hid (Ta w) := hw
  have hgl : ∀ r, (r = true → Lgt l 300 20000) → (r = true → l.length ≤ 100000 ∧ lit l ≤ 1000000 ∧ Nb l) := fun r h q => by
    obtain ⟨g1, g2, g3⟩ := h q
    have := lit_byt l
    exact ⟨by omega, by omega, g3⟩
  have HGL : Hid (Lgt l 300 20000 → l.length ≤ 100000 ∧ lit l ≤ 1000000 ∧ Nb l) := fun h => hgl true (fun _ => h) rfl
  have HGM : Hid (Lgt m 300 20000 → m.length ≤ 100000) := fun h => by have := h.1; omega
  clear h0 h1 h2 hw hgl hLB hm2 hn2
  generalize hln : l.length = ll at *
  generalize hmn : m.length = mn at *
  go_enter Tryd.func5, Tryd.ntmps5
  go_wp2_with fail
  refine C1.mono ?_
  rintro e w1 ⟨r1, rfl, hq1, hG1⟩
  replace hq1 := hq1.symm
  subst hq1
  clear C1
  cases r1 with
  | false =>
    clear C2 hG1
    have ca := CA.out w (Below.refl w.heap.size w)
    go_wp2_with fail
    refine ca.mono ?_
    rintro e wz ⟨rfl, bz⟩
    have BZ : Hid (Below w.heap.size w wz) := ((Below.refl w.heap.size w)).trans (bz.mono ((Below.refl w.heap.size w)).size)
    clear ca bz
    go_wp2
    go_ret
    exact ⟨rfl, BZ.out⟩
  | true =>
    have G1 := HGL.out (hG1 rfl)
    obtain ⟨gl1, gl2, gl3⟩ := G1
    have HNB : Hid (Nb l) := gl3
    have HLT : Hid (lit l ≤ 1000000) := gl2
    clear hG1 HGL gl2 gl3
    go_wp2_with fail
    refine C2.mono ?_
    rintro e w1 ⟨r2, rfl, hq1, hG2⟩
    replace hq1 := hq1.symm
    subst hq1
    clear C2
    cases r2 with
    | false =>
      clear hG2
      have ca := CA.out w (Below.refl w.heap.size w)
      go_wp2_with fail
      refine ca.mono ?_
      rintro e wz ⟨rfl, bz⟩
      have BZ : Hid (Below w.heap.size w wz) := ((Below.refl w.heap.size w)).trans (bz.mono ((Below.refl w.heap.size w)).size)
      clear ca bz
      go_wp2
      go_ret
      exact ⟨rfl, BZ.out⟩
    | true =>
      have gm1 := HGM.out (hG2 rfl)
      clear hG2 HGM
      by_cases h6 : 20000 < LB
      · have h7 : 20000 < (LB : Int) := by omega
        have ca := CA.out w (Below.refl w.heap.size w)
        go_wp2_with fail
        refine ca.mono ?_
        rintro e wz ⟨rfl, bz⟩
        have BZ : Hid (Below w.heap.size w wz) := ((Below.refl w.heap.size w)).trans (bz.mono ((Below.refl w.heap.size w)).size)
        clear ca bz
        go_wp2
        go_ret
        exact ⟨rfl, BZ.out⟩
      · have h7 : ¬ 20000 < (LB : Int) := by omega
        have B0 : Hid (Below w.heap.size w w) := Below.refl _ _
        have CC := counts_any _ l w (X0.out w (Below.refl _ _)) (by rw [hln]; exact gl1) HNB.out HLT.out
        have HSB : Hid (∀ x, Below w.heap.size w x → Sl x (.slice a2 LB c2) b) := fun x hx => H2.out.1.kept hx
        have HWL : Hid ((whl b).length ≤ 100000) := by unfold Hid; have := (whl_len b).2; omega
        have tcp : (cpd l == cpd l) = true := by simp
        have tli : ((lit l : Int) == (lit l : Int)) = true := by simp
        go_wp2_with fail
        refine CC.mono ?_
        rintro e w1 ⟨rfl, hq1⟩
        replace hq1 := hq1.symm
        subst hq1
        clear CC
        have CW := whole_any _ b w (HSB.out w (Below.refl _ _)) (by rw [← HLB.out]; omega)
        go_wp2_with fail
        refine CW.mono ?_
        rintro e w1 ⟨v3, rfl, o1, b1⟩
        clear CW
        have B1 : Hid (Below w.heap.size w w1) := B0.out.trans (b1.mono B0.out.size)
        have O1 : Hid (∀ x, Below w1.heap.size w1 x → XS x v3 (whl b)) := fun x hx => (o1.below hx).xs
        have OX1 : Hid (OX w1 w.heap.size v3 (whl b)) := o1
        obtain ⟨ra, rc, rfl, -⟩ := o1.shape
        have CP := copied_any _ l w1 (X0.out w1 B1.out) (by rw [hln]; exact gl1) HNB.out
        clear o1 b1
        generalize hwn : (whl b).length = wn at *
        go_wp2_with fail
        refine CP.mono ?_
        rintro e w2 ⟨rfl, b2⟩
        clear CP
        have B2 : Hid (Below w.heap.size w w2) := B1.out.trans (b2.mono B1.out.size)
        have B12 : Hid (Below w1.heap.size w1 w2) := b2
        have CT := literal_any _ l w2 (X0.out w2 B2.out) (by rw [hln]; exact gl1) HLT.out
        clear b2
        go_wp2_with fail
        refine CT.mono ?_
        rintro e w3 ⟨rfl, b3⟩
        clear CT
        have B3 : Hid (Below w.heap.size w w3) := B2.out.trans (b3.mono B2.out.size)
        have B13 : Hid (Below w1.heap.size w1 w3) := B12.out.trans (b3.mono B12.out.size)
        have CS1 := same_any _ _ l m w3 (X0.out w3 B3.out) (X1.out w3 B3.out) (by rw [hln]; exact gl1) (by rw [hmn]; exact gm1)
        clear b3 B12
        go_wp2_with fail
        refine CS1.mono ?_
        rintro e w4 ⟨rfl, b4⟩
        clear CS1
        have B4 : Hid (Below w.heap.size w w4) := B3.out.trans (b4.mono B3.out.size)
        have B14 : Hid (Below w1.heap.size w1 w4) := B13.out.trans (b4.mono B13.out.size)
        have CS2 := rsame_any _ _ l m w4 (X0.out w4 B4.out) (X1.out w4 B4.out) (by rw [hln]; exact gl1) (by rw [hmn]; exact gm1)
        clear b4 B13
        generalize saX l m = sb at *
        have tsb : (sb == sb) = true := by simp
        go_wp2_with fail
        refine CS2.mono ?_
        rintro e w5 ⟨rfl, b5⟩
        clear CS2
        have B5 : Hid (Below w.heap.size w w5) := B4.out.trans (b5.mono B4.out.size)
        have B15 : Hid (Below w1.heap.size w1 w5) := B14.out.trans (b5.mono B14.out.size)
        have CW := rwhole_any _ b w5 (HSB.out w5 B5.out) (by rw [← HLB.out]; omega)
        clear b5 B14
        go_wp2_with fail
        refine CW.mono ?_
        rintro e w6 ⟨v6, rfl, o6, b6⟩
        clear CW
        have B6 : Hid (Below w.heap.size w w6) := B5.out.trans (b6.mono B5.out.size)
        have B16 : Hid (Below w1.heap.size w1 w6) := B15.out.trans (b6.mono B15.out.size)
        have CS3 := rsame_any _ _ (whl b) (whl b) w6 (O1.out w6 B16.out) o6.xs (by rw [hwn]; exact HWL.out) (by rw [hwn]; exact HWL.out)
        rw [saX_self] at CS3
        obtain ⟨ra6, rc6, rfl, -⟩ := o6.shape
        rw [hwn] at CS3 ⊢
        clear o6 b6 B15
        go_wp2_with fail
        refine CS3.mono ?_
        rintro e w7 ⟨rfl, b7⟩
        clear CS3
        have B7 : Hid (Below w.heap.size w w7) := B6.out.trans (b7.mono B6.out.size)
        have B17 : Hid (Below w1.heap.size w1 w7) := B16.out.trans (b7.mono B16.out.size)
        have CSN := search_nil _ b w7 (HSB.out w7 B7.out) (by rw [← HLB.out]; omega)
        clear b7 B16
        go_wp2_with fail
        refine CSN.mono ?_
        rintro e w8 ⟨v8, rfl, o8, b8⟩
        clear CSN
        have B8 : Hid (Below w.heap.size w w8) := B7.out.trans (b8.mono B7.out.size)
        have B18 : Hid (Below w1.heap.size w1 w8) := B17.out.trans (b8.mono B17.out.size)
        have O8 : Hid (∀ x, Below w8.heap.size w8 x → XS x v8 (whl b)) := fun x hx => (o8.below hx).xs
        have CW := rwhole_any _ b w8 (HSB.out w8 B8.out) (by rw [← HLB.out]; omega)
        obtain ⟨ra8, rc8, rfl, -⟩ := o8.shape
        rw [hwn] at O8 ⊢
        clear o8 b8 B17
        go_wp2_with fail
        refine CW.mono ?_
        rintro e w9 ⟨v9, rfl, o9, b9⟩
        clear CW
        have B9 : Hid (Below w.heap.size w w9) := B8.out.trans (b9.mono B8.out.size)
        have B19 : Hid (Below w1.heap.size w1 w9) := B18.out.trans (b9.mono B18.out.size)
        have CS4 := rsame_any _ _ (whl b) (whl b) w9 (O8.out w9 b9) o9.xs (by rw [hwn]; exact HWL.out) (by rw [hwn]; exact HWL.out)
        rw [saX_self] at CS4
        obtain ⟨ra9, rc9, rfl, -⟩ := o9.shape
        rw [hwn] at CS4 ⊢
        clear o9 b9 B18 O8
        go_wp2_with fail
        refine CS4.mono ?_
        rintro e w10 ⟨rfl, b10⟩
        clear CS4
        have B10 : Hid (Below w.heap.size w w10) := B9.out.trans (b10.mono B9.out.size)
        have B1A : Hid (Below w1.heap.size w1 w10) := B19.out.trans (b10.mono B19.out.size)
        have cv := (HSB.out w10 B10.out).conv
        have HCV : Hid (∀ x, Below w.heap.size w x → (convert 22 9 (.slice a2 LB c2)).run Tryd.prog x = .ok (.string (strB b)) x) := fun x hx => (HSB.out x hx).conv
        generalize strB b = S at *
        have tS : (S.toList == S.toList) = true := by simp
        clear b10 B19
        go_wp2_with fail
        clear cv
        by_cases hb : b = []
        · obtain rfl : wn = 0 := by rw [← hwn, hb]; rfl
          go_loopw [12] (fun p wr => p = .int .i64 0 ∧ Below w.heap.size w wr) (fun p _ => 0)
          case atStart => exact ⟨rfl, B10.out⟩
          case round =>
            obtain ⟨rfl, bel⟩ := hrel
            have HBB : Hid (Below w.heap.size w wr) := bel
            clear bel
            have cv2 := HCV.out wr HBB.out
            have ca := CA.out wr HBB.out
            have BWW : Hid (Below w.heap.size w wr) := HBB.out
            go_wp2_with fail
            refine ca.mono ?_
            rintro e wz ⟨rfl, bz⟩
            have BZ : Hid (Below w.heap.size w wz) := BWW.out.trans (bz.mono BWW.out.size)
            clear ca bz cv2
            go_wp2
            go_ret
            exact ⟨rfl, BZ.out⟩
        · obtain ⟨gr, gd, dc, rc', e, hne, hgd, hdc, hdw⟩ := DW.of OX1.out hb B1.out
          cases e
          clear hwn
          rw [← HLB.out] at hdc hdw
          have DW0 := hdw w10 B1A.out
          clear hdw hb
          go_loopw [12] (fun p wr => ∃ j : Nat, j ≤ 1 ∧ p = .int .i64 j ∧ DW w gr gd LB dc wr) (fun p _ => 1 - (intOf p).toNat)
          case atStart => exact ⟨0, by omega, rfl, DW0⟩
          case round =>
            obtain ⟨j, hj, rfl, dw⟩ := hrel
            have HDW : Hid (DW w gr gd LB dc wr) := dw
            clear dw DW0
            by_cases hlt : j = 0
            · subst hlt
              go_wp2_with fail
              go_loopw [13] (fun p wr => ∃ t : Nat, t ≤ LB ∧ p = .int .i64 t ∧ DW w gr gd LB dc wr) (fun p _ => LB - (intOf p).toNat)
              case atStart => exact ⟨0, by omega, rfl, HDW.out⟩
              case round =>
                obtain ⟨t, ht, rfl, dw⟩ := hrel
                have kc := dw.1
                have HD2 : Hid (DW w gr gd LB dc wr) := dw
                clear HDW dw
                by_cases hq : t < LB
                · have hq2 : (t : Int) < (LB : Int) := by omega
                  have hq3 : (0 : Int) ≤ (t : Int) := by omega
                  obtain ⟨y, y0, y1, ky, kf, hst⟩ := HD2.out.step hne hgd t hq
                  have HST : Hid (∀ z, 0 ≤ z → z < 256 → DW w gr gd LB dc (wr.setCell ⟨gd, t, none⟩ (.int .u8 z))) := hst
                  clear hst
                  go_wp2
                  go_roundw
                  case rel => exact ⟨t + 1, by omega, by go_num, HST.out _ (by omega) (by omega)⟩
                  case measure => simp [intOf]; omega
                · have hq2 : ¬ (t : Int) < (LB : Int) := by omega
                  go_wp2
                  go_roundw
                  case rel => exact ⟨1, by omega, by go_num, HD2.out⟩
                  case measure => simp [intOf]
            · obtain rfl : j = 1 := by omega
              have HBB : Hid (Below w.heap.size w wr) := HDW.out.2.2.2
              clear HDW
              have cv2 := HCV.out wr HBB.out
              have ca := CA.out wr HBB.out
              have BWW : Hid (Below w.heap.size w wr) := HBB.out
              go_wp2_with fail
              refine ca.mono ?_
              rintro e wz ⟨rfl, bz⟩
              have BZ : Hid (Below w.heap.size w wz) := BWW.out.trans (bz.mono BWW.out.size)
              clear ca bz cv2
              go_wp2
              go_ret
              exact ⟨rfl, BZ.out⟩

theorem contract (H : Type) (enc : TypeId × Value → H) (W : World) (base : Nat) (args : Array Value) (ds gs : List (DataW H)) (before : List MemPlace)
    (hval : ∀ (j : Nat) t v, Tryd.f5.params[j]? = some t → args[j]? = some v → Value.okWide Tryd.prog W .any base t v)
    (hW : DataW.Whole enc Tryd.prog Tryd.f5.params.toList Rows.matchCountsSpec.vars false W args.toList ds gs before) (hL : laidMetH Tryd.prog Rows.matchCountsRow.laid W)
    (hsz0 : (DataW.weightsEach Tryd.prog (Tryd.f5.params.toList ++ Rows.matchCountsSpec.plain.varTypes Tryd.prog) (ds ++ gs)).all (· ≤ reachBytes) = true) :
    Calls Tryd.prog 5 args W fun e W' => ∃ v, e = .returned v ∧ Rows.matchCountsSpec.post enc Tryd.prog Tryd.f5 false true false false W args v W' := by
  have hW' := hW
  obtain ⟨p, q, hA0, hV, rfl, hfz, hnd⟩ := hW
  have hA : DataW.TrodAll enc Tryd.prog W 0 (fun _ => true) true Tryd.f5.params.toList args.toList ds p := hA0
  rw [Tryd.params5] at hA hval hsz0
  obtain ⟨v0, vs0, d0, ds0, p0, q0, hargs, rfl, rfl, h0, r0⟩ := trodAll_cons hA
  obtain ⟨v1, vs1, d1, ds1, p1, q1, rfl, rfl, rfl, h1, r1⟩ := trodAll_cons r0
  obtain ⟨v2, vs2, d2, ds2, p2, q2, rfl, rfl, rfl, h2, r2⟩ := trodAll_cons r1
  obtain ⟨rfl, rfl, rfl⟩ := trodAll_nil r2
  obtain rfl : args = #[v0, v1, v2] := by cases args; simp_all
  obtain ⟨rfl, rfl⟩ := trodVars_none hV
  have k0 := h0
  have lt0 : ∀ x ∈ p0, x.block < W.heap.size := by obtain ⟨m, hm⟩ := k0; exact DataW.trod_lt m _ _ _ hm
  obtain ⟨L0, w0⟩ := ops_in (hval 0 31 v0 rfl rfl) h0
  have k1 := h1
  have lt1 : ∀ x ∈ p1, x.block < W.heap.size := by obtain ⟨m, hm⟩ := k1; exact DataW.trod_lt m _ _ _ hm
  obtain ⟨L1, w1⟩ := ops_in (hval 1 31 v1 rfl rfl) h1
  have k2 := h2
  have lt2 : ∀ x ∈ p2, x.block < W.heap.size := by obtain ⟨m, hm⟩ := k2; exact DataW.trod_lt m _ _ _ hm
  obtain ⟨L2, w2⟩ := slx_in (hval 2 22 v2 rfl rfl) h2
  clear hA0
  refine (walk v0 L0 v1 L1 v2 L2 W (ta_of hL) w0 w1 w2).mono fun e W' ⟨he, bel⟩ => ?_
  subst he
  exact ⟨_, rfl, _, _, _, [], _, [], hW', trodAll_mk1 (shut_bool Tryd.underlying4 _), (trodAll_cons_mk (Below.trod laidOut (by kernel_rfl) (of_decide_eq_true (by kernel_rfl)) k0 bel lt0) (trodAll_cons_mk (Below.trod laidOut (by kernel_rfl) (of_decide_eq_true (by kernel_rfl)) k1 bel lt1) (trodAll_cons_mk (Below.trod laidOut (by kernel_rfl) (of_decide_eq_true (by kernel_rfl)) k2 bel lt2) trodAll_mk0))), rfl, bel.frame _, fun h => by cases h⟩

theorem laid_met (os : Os) : laidMet Tryd.prog Rows.matchCountsRow.laid (({ World.holding Tryd.prog os ⟨#[], #[], []⟩ with heap := (((World.holding Tryd.prog os ⟨#[], #[], []⟩).heap.modify 0 (fun
      | .cells _ t frozen => .cells shaFirst t frozen
      | o => o)).modify 1 (fun
      | .cells _ t frozen => .cells shaRounds t frozen
      | o => o)) } : World).forCall (fun _ _ => 0) ⟨#[], #[.slice none 0 0, .slice none 0 0, .slice none 0 0], []⟩).memory :=
  laidMet_of_run' 8 (by kernel_rfl) (by kernel_rfl)
theorem reads (os : Os) {H : Type} (enc : TypeId × Value → H) : ∃ places, DataW.whole enc Tryd.prog (({ World.holding Tryd.prog os ⟨#[], #[], []⟩ with heap := (((World.holding Tryd.prog os ⟨#[], #[], []⟩).heap.modify 0 (fun
      | .cells _ t frozen => .cells shaFirst t frozen
      | o => o)).modify 1 (fun
      | .cells _ t frozen => .cells shaRounds t frozen
      | o => o)) } : World).forCall (fun _ _ => 0) ⟨#[], #[.slice none 0 0, .slice none 0 0, .slice none 0 0], []⟩).memory Tryd.f5.params.toList Rows.matchCountsSpec.vars false #[Value.slice none 0 0, .slice none 0 0, .slice none 0 0].toList 8 = some ([.nil, .nil, .nil], [], places) :=
  ⟨[], by kernel_rfl⟩

set_option maxRecDepth 100000 in
theorem lifted (os : Os) (started : os.Started) (H : Type) (enc : TypeId × Value → H) (F : Stop.Interp) :
    ReturnsInHanded {} Tryd.checked os 5 .any ((OpenSpec.ofChange Rows.matchCountsSpec).preRow enc Tryd.prog Tryd.f5 Rows.matchCountsRow.domain false Rows.matchCountsRow.laid) (((OpenSpec.ofChange Rows.matchCountsSpec).at F).post enc Tryd.prog Tryd.f5 false true false false) := by
  obtain ⟨places, hx⟩ := reads os enc
  refine returnsInHanded_of_row (C := Tryd.checked) (s := OpenSpec.ofChange Rows.matchCountsSpec) own started (by kernel_rfl) Tryd.func5
    (witness_row_at (enc := enc) (C := Tryd.checked) false ({ World.holding Tryd.prog os ⟨#[], #[], []⟩ with heap := (((World.holding Tryd.prog os ⟨#[], #[], []⟩).heap.modify 0 (fun
      | .cells _ t frozen => .cells shaFirst t frozen
      | o => o)).modify 1 (fun
      | .cells _ t frozen => .cells shaRounds t frozen
      | o => o)) } : World) #[.slice none 0 0, .slice none 0 0, .slice none 0 0] rfl (by kernel_rfl) (by kernel_rfl) (by kernel_rfl)
      (OpenSpec.preRow_of_cond 8 hx (by kernel_rfl) (fun k hk => by cases hk) (by kernel_rfl) (laid_met os))) ?_
  intro W base args ds gs before hval hW _ _ hsz hL _ _
  exact contract H enc W base args ds gs before hval hW hL hsz

theorem said : Rows.MatchCountsSaid :=
  OpenClaim.holds_of_cond 5 Tryd.f5 rfl rfl rfl rfl rfl rfl rfl ⟨rfl, rfl, rfl, rfl, rfl⟩ rfl rfl rfl rfl rfl (by kernel_rfl) Tryd.func5 (by kernel_rfl)
    (of_decide_eq_true (by kernel_rfl)) (by unfold Func.isWrapper; first | (rw [if_pos (by decide +kernel)]; kernel_rfl) | (rw [if_neg (by decide +kernel)]; exact ⟨rfl, rfl⟩))
    (fun os started H enc _ F => by rw [OpenClaim.pre_eq_preRow]; exact lifted os started H enc F)

theorem plain (f : FuncId) (fn : Func) (hf : Tryd.pinned.checked.prog.funcNamed "sumpter/sumpterlaw12.MatchCounts" = some f) (hfn : Tryd.pinned.checked.prog.funcs[f]? = some fn) :
    false = Tryd.pinned.checked.prog.looks [] ∧ ∀ (j : Nat) t, fn.params[j]? = some t → Tryd.pinned.checked.prog.wantsStandIn t = false := by
  obtain rfl : f = 5 := Option.some.inj ((show Tryd.prog.funcNamed "sumpter/sumpterlaw12.MatchCounts" = some 5 by kernel_rfl).symm.trans hf) |>.symm
  obtain rfl : fn = Tryd.f5 := (Option.some.inj (Tryd.func5.symm.trans hfn)).symm
  refine ⟨by kernel_rfl, fun j t ht => ?_⟩
  rw [Tryd.params5] at ht
  have hm : t ∈ [31, 31, 22] := by simpa using Array.mem_of_getElem? ht
  have hall : ([31, 31, 22].all fun u => !Tryd.prog.wantsStandIn u) = true := by kernel_rfl
  exact (show Tryd.prog.wantsStandIn t = false by simpa using List.all_eq_true.1 hall t hm)
end Go.Proofs.YtlhmpcmlpfffoaaDoor.matchCounts

namespace Go.Proofs.YtlhmpcmlpfffoaaDoor
/-- The card of MatchCounts. -/
theorem matchCounts_card : Rows.MatchCountsCardSaid :=
  Claim7.holds_tied_plain_at .later [] _ _ _ _ matchCounts.said (fun _ h => by cases h) (by kernel_rfl) (fun _ h => by cases h) matchCounts_row_tie rfl ⟨rfl, rfl⟩ (by kernel_rfl) rfl matchCounts.plain (by kernel_rfl)
#print axioms matchCounts_card
end Go.Proofs.YtlhmpcmlpfffoaaDoor
