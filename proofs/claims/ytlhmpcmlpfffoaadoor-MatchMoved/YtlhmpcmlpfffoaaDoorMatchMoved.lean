/-
  MatchMoved: bytes that are put ahead of a file cost no more than themselves and two blocks; files of at most 300 bytes, blocks of 1 to 64, else the closed case alone is asked. It holds for every input of the row; the two tables of sha (first, rounds) hold what their declarations lay when the call begins.
-/
import Derived.Test.YtlhmpcmlpfffoaaDoorFr
import Derived.Test.YtlhmpcmlpfffoaaDoorXq
import Derived.Laws.Closers25b
namespace Go.Proofs.YtlhmpcmlpfffoaaDoor.matchMoved
open Go.ChangeShapes Go.WideShapes Go.ChangeAt Go.RowKit Go.Deep Go.ChangeMaps
set_option maxRecDepth 100000

set_option maxHeartbeats 8000000 in
theorem walk (v0 : Value) (o : List Int) (v1 : Value) (b : List Int) (s : Int) (w : World) (hw : Ta w) (h0 : SlX w v0 o) (h1 : SlX w v1 b) (hs : (Lit.int .u8 s).wf = true) :
    Calls Tryd.prog 8 #[v0, v1, .int .u8 s] w fun e w' => e = .returned (.bool true) ∧ Below w.heap.size w w' := by
  have s1 := bounds_u8 hs
  obtain ⟨k, hk⟩ : ∃ k : Nat, (1 : Int) + s % 64 = k := ⟨(1 + s % 64).toNat, by omega⟩
  have k1 : 1 ≤ k := by omega
  have k2 : k ≤ 64 := by omega
  have ht : Int.tmod s 64 = s % 64 := Int.tmod_eq_emod_of_nonneg s1.1
  have CA : Hid (∀ W, Below w.heap.size w W → Calls Tryd.prog 9 #[] W fun e w' => e = .returned (.bool true) ∧ Below W.heap.size W w') := fun W hb => awake_any W (hw.kept hb)
  obtain ⟨a0, c0, rfl, hc0, hm0, hn0, -⟩ := id h0.1
  have H0 : Hid (SlX w (.slice a0 o.length c0) o) := h0
  obtain ⟨LO, hLO⟩ : ∃ LO, LO = o.length := ⟨_, rfl⟩
  have HLO : Hid (LO = o.length) := hLO
  rw [← hLO] at H0 hc0 ⊢
  have bLO : (LO : Int) ≤ 9223372036854775807 := by unfold maxLen at hm0; omega
  obtain ⟨a1, c1, rfl, hc1, hm1, hn1, -⟩ := id h1.1
  have H1 : Hid (SlX w (.slice a1 b.length c1) b) := h1
  obtain ⟨LB, hLB⟩ : ∃ LB, LB = b.length := ⟨_, rfl⟩
  have HLB : Hid (LB = b.length) := hLB
  rw [← hLB] at H1 hc1 ⊢
  have bLB : (LB : Int) ≤ 9223372036854775807 := by unfold maxLen at hm1; omega
  have HW : Hid (Ta w) := hw
  clear h0 h1 hs hw hLO hLB hm0 hm1 hn0 hn1
  by_cases h4 : 300 < LO
  · have h5 : 300 < (LO : Int) := by omega
    go_enter Tryd.func8, Tryd.ntmps8
    have ca := CA.out w (Below.refl w.heap.size w)
    go_wp2_with fail
    refine ca.mono ?_
    rintro e wz ⟨rfl, bz⟩
    have BZ : Hid (Below w.heap.size w wz) := ((Below.refl w.heap.size w)).trans (bz.mono ((Below.refl w.heap.size w)).size)
    clear ca bz
    go_wp2
    go_ret
    exact ⟨rfl, BZ.out⟩
  · have h5 : ¬ 300 < (LO : Int) := by omega
    by_cases h6 : 300 < LB
    · have h7 : 300 < (LB : Int) := by omega
      go_enter Tryd.func8, Tryd.ntmps8
      have ca := CA.out w (Below.refl w.heap.size w)
      go_wp2_with fail
      refine ca.mono ?_
      rintro e wz ⟨rfl, bz⟩
      have BZ : Hid (Below w.heap.size w wz) := ((Below.refl w.heap.size w)).trans (bz.mono ((Below.refl w.heap.size w)).size)
      clear ca bz
      go_wp2
      go_ret
      exact ⟨rfl, BZ.out⟩
    · have h7 : ¬ 300 < (LB : Int) := by omega
      have B0 : Hid (Below w.heap.size w w) := Below.refl _ _
      go_enter Tryd.func8, Tryd.ntmps8
      go_wp2_with fail
      go_loopw [8, 10] (fun s p wr => ∃ (j : Nat) (X : List Int), j ≤ LO ∧ p = .int .i64 j ∧ X.length = j ∧ (∀ q, 0 ≤ X.getD q 0 ∧ X.getD q 0 < 256) ∧ wr.ownsRow w.heap.size 5 1 s X.length (X.map (Value.int .u8)) ∧ Below w.heap.size w wr) (fun _ p _ => LO - (intOf p).toNat)
      case atStart => exact ⟨0, [], by omega, rfl, rfl, fun q => by simp, World.ownsRow_nil _ _ _ _, Below.refl _ _⟩
      case round =>
        obtain ⟨j, X, hj, rfl, hX, hby, own, bel⟩ := hrel
        have HB : Hid (Below w.heap.size w wr) := bel
        have HX : Hid (X.length = j) := hX
        have HO : Hid (wr.ownsRow w.heap.size 5 1 u8 X.length (X.map (Value.int .u8))) := own
        have HY : Hid (∀ q, 0 ≤ X.getD q 0 ∧ X.getD q 0 < 256) := hby
        obtain ⟨ua, uc, rfl⟩ := own_shape own
        rw [hX]
        clear hX hby own bel
        by_cases hlt : j < LO
        · have lt2 : (j : Int) < (LO : Int) := by omega
          have BWR : Hid (Below w.heap.size w wr) := B0.out.trans (HB.out.mono B0.out.size)
          obtain ⟨xb, xo, rfl, kc⟩ : ∃ xb xo, a0 = some ⟨xb, xo, none⟩ ∧ wr.cell? ⟨xb, xo + j, none⟩ = some (.int .u8 (o.getD j 0)) := by
            obtain ⟨a', c', e', g1, g2, g3, g4⟩ := H0.out.1.kept BWR.out
            cases e'
            rcases g4 with g4 | ⟨hp, b', off', e, hlc, hmx, hcc, hzz⟩
            · have := HLO.out; omega
            · cases e
              exact ⟨_, _, rfl, hcc j (by rw [← HLO.out]; exact hlt)⟩
          obtain ⟨y1, y2⟩ := H0.out.1.bytes j
          generalize o.getD j 0 = y at *
          obtain ⟨y3, y4⟩ : 0 ≤ bits .or .u8 y 128 ∧ bits .or .u8 y 128 < 256 := by
            have hq := bits_within .or .u8 y 128
            have q1 : IntKind.u8.min = 0 := rfl
            have q2 : IntKind.u8.max = 255 := rfl
            omega
          obtain ⟨yy, hyy⟩ : ∃ yy, bits .or .u8 y 128 = yy := ⟨_, rfl⟩
          rw [hyy] at y3 y4
          obtain ⟨W1, hW1⟩ : ∃ W1, W1 = wr.alloc (.cells #[.int .u8 yy] 5) := ⟨_, rfl⟩
          have b1 : Below wr.heap.size wr W1 := by rw [hW1]; exact al_below _ _
          have S1 : Hid (Sl W1 (.slice (some ⟨wr.heap.size, 0, none⟩) 1 1) [yy]) := by unfold Hid; rw [hW1]; exact Ro.sl_one wr yy y3 y4
          have O1 : Hid (W1.ownsRow w.heap.size 5 1 (.slice ua j uc) j (X.map (Value.int .u8))) := by unfold Hid; have := own_below HO.out b1; rwa [HX.out] at this
          have B1 : Hid (Below w.heap.size w W1) := HB.out.trans (b1.mono HB.out.size)
          have hw1 := hW1.symm
          have HBG : Hid (j + [yy].length ≤ 200000000000000) := by unfold Hid; rw [List.length_singleton]; omega
          clear hW1 b1 HO
          go_wp2_with (at_builtin; refine wpList_append_sl rfl _ _ rfl w.heap.size _ j (X.map (Value.int .u8)) rfl O1.out _ [yy] rfl S1.out HBG.out B1.out.size (Hid.out ?_))
          unfold Hid
          intro v2 w2 o2 g2
          have O2 : Hid (w2.ownsRow w.heap.size 5 1 v2 (X ++ [yy]).length ((X ++ [yy]).map (Value.int .u8))) := by
            unfold Hid
            rw [List.length_append, List.map_append, HX.out]
            exact o2
          have B2 : Hid (Below w.heap.size w w2) := B1.out.grown g2 B1.out.size (own_base O1.out)
          have HX2 : Hid ((X ++ [yy]).length = j + 1) := by unfold Hid; rw [List.length_append, List.length_singleton, HX.out]
          have HY2 : Hid (∀ q, 0 ≤ (X ++ [yy]).getD q 0 ∧ (X ++ [yy]).getD q 0 < 256) := Ro.bytes_app HY.out (Ro.bytes_one y3 y4)
          obtain ⟨ua2, uc2, rfl⟩ := own_shape o2
          clear o2 g2 S1 O1 B1 hw1 hyy kc
          go_wp2
          go_roundw
          case rel => exact ⟨j + 1, X ++ [yy], by omega, by go_num, HX2.out, HY2.out, O2.out, B2.out⟩
          case measure => simp [intOf]; omega
        · have lt2 : ¬ (j : Int) < (LO : Int) := by omega
          obtain ⟨w1, hw1⟩ : ∃ w1, w1 = wr := ⟨wr, rfl⟩
          subst hw1
          obtain ⟨XO, hXO⟩ : ∃ XO, XO = X := ⟨X, rfl⟩
          subst hXO
          obtain ⟨JO, hJO⟩ : ∃ JO, JO = j := ⟨j, rfl⟩
          subst hJO
          have SO : Hid (∀ x, Below w1.heap.size w1 x → Sl x (.slice ua JO uc) XO) := fun x hx => by
            have := own_below HO.out hx
            rw [HX.out] at this
            exact sl_owned this HY.out
          have HXO : Hid (XO.length = JO) := HX
          have HYO : Hid (∀ q, 0 ≤ XO.getD q 0 ∧ XO.getD q 0 < 256) := HY
          have BA : Hid (Below w.heap.size w w1) := HB
          obtain ⟨oa, oc, hoa, hoc⟩ : ∃ oa oc, oa = ua ∧ oc = uc := ⟨_, _, rfl, rfl⟩
          subst hoa hoc
          have hJO : JO ≤ 300 := by omega
          clear HO HX HY HB hj
          go_wp2_with fail
          go_loopw [9, 11] (fun s p wr => ∃ (j : Nat) (X : List Int), j ≤ LB ∧ p = .int .i64 j ∧ X.length = j ∧ (∀ q, 0 ≤ X.getD q 0 ∧ X.getD q 0 < 256) ∧ wr.ownsRow w1.heap.size 5 1 s X.length (X.map (Value.int .u8)) ∧ Below w1.heap.size w1 wr) (fun _ p _ => LB - (intOf p).toNat)
          case atStart => exact ⟨0, [], by omega, rfl, rfl, fun q => by simp, World.ownsRow_nil _ _ _ _, Below.refl _ _⟩
          case round =>
            obtain ⟨j, X, hj, rfl, hX, hby, own, bel⟩ := hrel
            have HB : Hid (Below w1.heap.size w1 wr) := bel
            have HX : Hid (X.length = j) := hX
            have HO : Hid (wr.ownsRow w1.heap.size 5 1 u9 X.length (X.map (Value.int .u8))) := own
            have HY : Hid (∀ q, 0 ≤ X.getD q 0 ∧ X.getD q 0 < 256) := hby
            obtain ⟨ua, uc, rfl⟩ := own_shape own
            rw [hX]
            clear hX hby own bel
            by_cases hlt : j < LB
            · have lt2 : (j : Int) < (LB : Int) := by omega
              have BWR : Hid (Below w.heap.size w wr) := BA.out.trans (HB.out.mono BA.out.size)
              obtain ⟨xb, xo, rfl, kc⟩ : ∃ xb xo, a1 = some ⟨xb, xo, none⟩ ∧ wr.cell? ⟨xb, xo + j, none⟩ = some (.int .u8 (b.getD j 0)) := by
                obtain ⟨a', c', e', g1, g2, g3, g4⟩ := H1.out.1.kept BWR.out
                cases e'
                rcases g4 with g4 | ⟨hp, b', off', e, hlc, hmx, hcc, hzz⟩
                · have := HLB.out; omega
                · cases e
                  exact ⟨_, _, rfl, hcc j (by rw [← HLB.out]; exact hlt)⟩
              obtain ⟨y1, y2⟩ := H1.out.1.bytes j
              generalize b.getD j 0 = y at *
              obtain ⟨y3, y4⟩ : 0 ≤ bits .and .u8 y 127 ∧ bits .and .u8 y 127 < 256 := by
                have hq := bits_within .and .u8 y 127
                have q1 : IntKind.u8.min = 0 := rfl
                have q2 : IntKind.u8.max = 255 := rfl
                omega
              obtain ⟨yy, hyy⟩ : ∃ yy, bits .and .u8 y 127 = yy := ⟨_, rfl⟩
              rw [hyy] at y3 y4
              obtain ⟨W1, hW1⟩ : ∃ W1, W1 = wr.alloc (.cells #[.int .u8 yy] 5) := ⟨_, rfl⟩
              have b1 : Below wr.heap.size wr W1 := by rw [hW1]; exact al_below _ _
              have S1 : Hid (Sl W1 (.slice (some ⟨wr.heap.size, 0, none⟩) 1 1) [yy]) := by unfold Hid; rw [hW1]; exact Ro.sl_one wr yy y3 y4
              have O1 : Hid (W1.ownsRow w1.heap.size 5 1 (.slice ua j uc) j (X.map (Value.int .u8))) := by unfold Hid; have := own_below HO.out b1; rwa [HX.out] at this
              have B1 : Hid (Below w1.heap.size w1 W1) := HB.out.trans (b1.mono HB.out.size)
              have hw1 := hW1.symm
              have HBG : Hid (j + [yy].length ≤ 200000000000000) := by unfold Hid; rw [List.length_singleton]; omega
              clear hW1 b1 HO
              go_wp2_with (at_builtin; refine wpList_append_sl rfl _ _ rfl w1.heap.size _ j (X.map (Value.int .u8)) rfl O1.out _ [yy] rfl S1.out HBG.out B1.out.size (Hid.out ?_))
              unfold Hid
              intro v2 w2 o2 g2
              have O2 : Hid (w2.ownsRow w1.heap.size 5 1 v2 (X ++ [yy]).length ((X ++ [yy]).map (Value.int .u8))) := by
                unfold Hid
                rw [List.length_append, List.map_append, HX.out]
                exact o2
              have B2 : Hid (Below w1.heap.size w1 w2) := B1.out.grown g2 B1.out.size (own_base O1.out)
              have HX2 : Hid ((X ++ [yy]).length = j + 1) := by unfold Hid; rw [List.length_append, List.length_singleton, HX.out]
              have HY2 : Hid (∀ q, 0 ≤ (X ++ [yy]).getD q 0 ∧ (X ++ [yy]).getD q 0 < 256) := Ro.bytes_app HY.out (Ro.bytes_one y3 y4)
              obtain ⟨ua2, uc2, rfl⟩ := own_shape o2
              clear o2 g2 S1 O1 B1 hw1 hyy kc
              go_wp2
              go_roundw
              case rel => exact ⟨j + 1, X ++ [yy], by omega, by go_num, HX2.out, HY2.out, O2.out, B2.out⟩
              case measure => simp [intOf]; omega
            · have lt2 : ¬ (j : Int) < (LB : Int) := by omega
              have hJA : j ≤ 300 := by omega
              have B1 : Hid (Below w.heap.size w wr) := BA.out.trans (HB.out.mono BA.out.size)
              have SA : Hid (∀ x, Below wr.heap.size wr x → Sl x (.slice ua j uc) X) := fun x hx => by
                have := own_below HO.out hx
                rw [HX.out] at this
                exact sl_owned this HY.out
              have SO1 : Hid (∀ x, Below wr.heap.size wr x → Sl x (.slice oa JO oc) XO) := fun x hx => SO.out x (HB.out.trans (hx.mono HB.out.size))
              have C1 := index_any _ XO k wr (SO1.out wr (Below.refl _ _)) (HW.out.kept B1.out) (by omega) (by omega) (by rw [HXO.out]; omega)
              have HSN : Hid ((sums XO k).length ≤ 4096) := by unfold Hid; rw [sums_len, HXO.out]; have := Nat.div_le_self JO k; omega
              have HMV := srch_moved X XO k (by omega)
              rw [HX.out] at HMV
              have HBL : Hid ((X ++ XO).length ≤ 600) := by unfold Hid; rw [List.length_append, HX.out, HXO.out]; omega
              have HRL : Hid ((srch (bfnd (sums XO k) k) k (X ++ XO) 0 0 []).length ≤ 100000) := by
                unfold Hid
                have := srch_len (bfnd (sums XO k) k) k (X ++ XO) (by omega)
                have := HBL.out
                omega
              have HM2 : Hid (lit (srch (bfnd (sums XO k) k) k (X ++ XO) 0 0 []) ≤ j + k + k) := HMV
              clear HO HB BA SO HMV hj lt2
              go_wp2_with fail
              refine C1.mono ?_
              rintro e w2 ⟨B, g, m, N, rfl, ix, b2⟩
              clear C1
              have B2 : Hid (Below w.heap.size w w2) := B1.out.trans (b2.mono B1.out.size)
              have I2 : Hid (∀ x, Below w2.heap.size w2 x → IX x B g m k N (sums XO k)) := fun x hx => ix.kept hx
              obtain ⟨W3, hW3⟩ : ∃ W3, W3 = w2.alloc (.cells #[] 5) := ⟨_, rfl⟩
              have b3 : Below w2.heap.size w2 W3 := by rw [hW3]; exact al_below _ _
              have b13 : Below wr.heap.size wr W3 := b2.trans (b3.mono b2.size)
              have O3 : Hid (W3.ownsRow w2.heap.size 5 1 (.slice (some ⟨w2.heap.size, 0, none⟩) 0 0) 0 []) := by unfold Hid; rw [hW3]; exact Ro.own_empty w2
              have S3 : Hid (Sl W3 (.slice ua j uc) X) := SA.out W3 b13
              have S2O : Hid (Sl w2 (.slice oa JO oc) XO) := SO1.out w2 b2
              have B3 : Hid (Below w2.heap.size w2 W3) := b3
              have hw3 := hW3.symm
              have HBG : Hid (0 + X.length ≤ 200000000000000) := by unfold Hid; rw [HX.out]; omega
              have HBG2 : Hid (j + XO.length ≤ 200000000000000) := by unfold Hid; rw [HXO.out]; omega
              clear hW3 b3 b13 ix b2 SA SO1
              go_wp2_with (at_builtin; refine wpList_append_sl rfl _ _ rfl w2.heap.size _ 0 [] rfl O3.out _ X rfl S3.out HBG.out B3.out.size (Hid.out ?_))
              unfold Hid
              intro v4 w4 o4 g4
              have B4 : Hid (Below w2.heap.size w2 w4) := B3.out.grown g4 B3.out.size (own_base O3.out)
              have O4 : Hid (w4.ownsRow w2.heap.size 5 1 v4 j (X.map (Value.int .u8))) := by
                unfold Hid
                rw [HX.out] at o4
                exact o4
              have S4O : Hid (Sl w4 (.slice oa JO oc) XO) := S2O.out.kept B4.out
              obtain ⟨a4, c4, rfl⟩ := own_shape O4.out
              clear o4 g4 O3 S3 B3 hw3 HBG
              go_wp2_with (at_builtin; refine wpList_append_sl rfl _ _ rfl w2.heap.size _ j (X.map (Value.int .u8)) rfl O4.out _ XO rfl S4O.out HBG2.out B4.out.size (Hid.out ?_))
              unfold Hid
              intro v5 w5 o5 g5
              have b5 : Below w2.heap.size w2 w5 := B4.out.grown g5 B4.out.size (own_base O4.out)
              have B5 : Hid (Below w.heap.size w w5) := B2.out.trans (b5.mono B2.out.size)
              have o5' : w5.ownsRow w2.heap.size 5 1 v5 (X ++ XO).length ((X ++ XO).map (Value.int .u8)) := by
                rw [List.length_append, List.map_append, HX.out]
                exact o5
              have sx5 : SlX w5 v5 (X ++ XO) := ⟨sl_owned o5' (Ro.bytes_app HY.out HYO.out), fun x n c e hc => by
                rcases o5'.2 with ⟨e2, _⟩ | ⟨g', cap, cur, e2, _⟩
                · rw [e] at e2; cases e2
                · rw [e] at e2; cases e2; rfl⟩
              have CS := search_any w5 B g m k N (sums XO k) (I2.out w5 b5) v5 (X ++ XO) sx5 (HW.out.kept B5.out) (by omega) (by omega) HSN.out (by have := HBL.out; omega)
              obtain ⟨a5, c5, rfl⟩ := own_shape o5
              clear o5 g5 b5 o5' sx5 O4 S4O B4 I2 HBG2
              generalize j + XO.length = l5 at *
              go_wp2_with fail
              refine CS.mono ?_
              rintro e w6 ⟨v6, rfl, o6, b6⟩
              clear CS
              have B6 : Hid (Below w.heap.size w w6) := B5.out.trans (b6.mono B5.out.size)
              have CL := literal_any _ _ w6 o6.xs HRL.out (by have := HM2.out; omega)
              obtain ⟨a6, c6, rfl, -⟩ := o6.shape
              have hlit := HM2.out
              clear o6 b6 HM2
              generalize lit (srch (bfnd (sums XO k) k) k (X ++ XO) 0 0 []) = ll at *
              generalize (srch (bfnd (sums XO k) k) k (X ++ XO) 0 0 []).length = l6 at *
              have hl2 : (ll : Int) ≤ (j : Int) + (k : Int) + (k : Int) := by omega
              go_wp2_with fail
              refine CL.mono ?_
              rintro e w7 ⟨rfl, b7⟩
              clear CL
              have B7 : Hid (Below w.heap.size w w7) := B6.out.trans (b7.mono B6.out.size)
              clear b7
              have ca := CA.out w7 B7.out
              go_wp2_with fail
              refine ca.mono ?_
              rintro e wz ⟨rfl, bz⟩
              have BZ : Hid (Below w.heap.size w wz) := (B7.out).trans (bz.mono (B7.out).size)
              clear ca bz
              go_wp2
              go_ret
              exact ⟨rfl, BZ.out⟩

theorem contract (H : Type) (enc : TypeId × Value → H) (W : World) (base : Nat) (args : Array Value) (ds gs : List (DataW H)) (before : List MemPlace)
    (hval : ∀ (j : Nat) t v, Tryd.f8.params[j]? = some t → args[j]? = some v → Value.okWide Tryd.prog W .any base t v)
    (hW : DataW.Whole enc Tryd.prog Tryd.f8.params.toList Rows.matchMovedSpec.vars false W args.toList ds gs before) (hL : laidMetH Tryd.prog Rows.matchMovedRow.laid W)
    (hsz0 : (DataW.weightsEach Tryd.prog (Tryd.f8.params.toList ++ Rows.matchMovedSpec.plain.varTypes Tryd.prog) (ds ++ gs)).all (· ≤ reachBytes) = true) :
    Calls Tryd.prog 8 args W fun e W' => ∃ v, e = .returned v ∧ Rows.matchMovedSpec.post enc Tryd.prog Tryd.f8 false true false false W args v W' := by
  have hW' := hW
  obtain ⟨p, q, hA0, hV, rfl, hfz, hnd⟩ := hW
  have hA : DataW.TrodAll enc Tryd.prog W 0 (fun _ => true) true Tryd.f8.params.toList args.toList ds p := hA0
  rw [Tryd.params8] at hA hval hsz0
  obtain ⟨v0, vs0, d0, ds0, p0, q0, hargs, rfl, rfl, h0, r0⟩ := trodAll_cons hA
  obtain ⟨v1, vs1, d1, ds1, p1, q1, rfl, rfl, rfl, h1, r1⟩ := trodAll_cons r0
  obtain ⟨v2, vs2, d2, ds2, p2, q2, rfl, rfl, rfl, h2, r2⟩ := trodAll_cons r1
  obtain ⟨rfl, rfl, rfl⟩ := trodAll_nil r2
  obtain rfl : args = #[v0, v1, v2] := by cases args; simp_all
  obtain ⟨rfl, rfl⟩ := trodVars_none hV
  have k0 := h0
  have lt0 : ∀ x ∈ p0, x.block < W.heap.size := by obtain ⟨m, hm⟩ := k0; exact DataW.trod_lt m _ _ _ hm
  obtain ⟨L0, w0⟩ := slx_in (hval 0 22 v0 rfl rfl) h0
  have k1 := h1
  have lt1 : ∀ x ∈ p1, x.block < W.heap.size := by obtain ⟨m, hm⟩ := k1; exact DataW.trod_lt m _ _ _ hm
  obtain ⟨L1, w1⟩ := slx_in (hval 1 22 v1 rfl rfl) h1
  obtain ⟨a2, rfl, rfl, rfl, w2⟩ := open_int Tryd.underlying5 (hval 2 5 v2 rfl rfl) h2
  clear hA0
  refine (walk v0 L0 v1 L1 a2 W (ta_of hL) w0 w1 w2).mono fun e W' ⟨he, bel⟩ => ?_
  subst he
  exact ⟨_, rfl, _, _, _, [], _, [], hW', trodAll_mk1 (shut_bool Tryd.underlying4 _), (trodAll_cons_mk (Below.trod laidOut (by kernel_rfl) (of_decide_eq_true (by kernel_rfl)) k0 bel lt0) (trodAll_cons_mk (Below.trod laidOut (by kernel_rfl) (of_decide_eq_true (by kernel_rfl)) k1 bel lt1) (trodAll_cons_mk (shut_int Tryd.underlying5 w2) trodAll_mk0))), rfl, bel.frame _, fun h => by cases h⟩

theorem laid_met (os : Os) : laidMet Tryd.prog Rows.matchMovedRow.laid (({ World.holding Tryd.prog os ⟨#[], #[], []⟩ with heap := (((World.holding Tryd.prog os ⟨#[], #[], []⟩).heap.modify 0 (fun
      | .cells _ t frozen => .cells shaFirst t frozen
      | o => o)).modify 1 (fun
      | .cells _ t frozen => .cells shaRounds t frozen
      | o => o)) } : World).forCall (fun _ _ => 0) ⟨#[], #[.slice none 0 0, .slice none 0 0, .int .u8 0], []⟩).memory :=
  laidMet_of_run' 8 (by kernel_rfl) (by kernel_rfl)
theorem reads (os : Os) {H : Type} (enc : TypeId × Value → H) : ∃ places, DataW.whole enc Tryd.prog (({ World.holding Tryd.prog os ⟨#[], #[], []⟩ with heap := (((World.holding Tryd.prog os ⟨#[], #[], []⟩).heap.modify 0 (fun
      | .cells _ t frozen => .cells shaFirst t frozen
      | o => o)).modify 1 (fun
      | .cells _ t frozen => .cells shaRounds t frozen
      | o => o)) } : World).forCall (fun _ _ => 0) ⟨#[], #[.slice none 0 0, .slice none 0 0, .int .u8 0], []⟩).memory Tryd.f8.params.toList Rows.matchMovedSpec.vars false #[Value.slice none 0 0, .slice none 0 0, .int .u8 0].toList 8 = some ([.nil, .nil, .lit (.int .u8 0)], [], places) :=
  ⟨[], by kernel_rfl⟩

set_option maxRecDepth 100000 in
theorem lifted (os : Os) (started : os.Started) (H : Type) (enc : TypeId × Value → H) (F : Stop.Interp) :
    ReturnsInHanded {} Tryd.checked os 8 .any ((OpenSpec.ofChange Rows.matchMovedSpec).preRow enc Tryd.prog Tryd.f8 Rows.matchMovedRow.domain false Rows.matchMovedRow.laid) (((OpenSpec.ofChange Rows.matchMovedSpec).at F).post enc Tryd.prog Tryd.f8 false true false false) := by
  obtain ⟨places, hx⟩ := reads os enc
  refine returnsInHanded_of_row (C := Tryd.checked) (s := OpenSpec.ofChange Rows.matchMovedSpec) own started (by kernel_rfl) Tryd.func8
    (witness_row_at (enc := enc) (C := Tryd.checked) false ({ World.holding Tryd.prog os ⟨#[], #[], []⟩ with heap := (((World.holding Tryd.prog os ⟨#[], #[], []⟩).heap.modify 0 (fun
      | .cells _ t frozen => .cells shaFirst t frozen
      | o => o)).modify 1 (fun
      | .cells _ t frozen => .cells shaRounds t frozen
      | o => o)) } : World) #[.slice none 0 0, .slice none 0 0, .int .u8 0] rfl (by kernel_rfl) (by kernel_rfl) (by kernel_rfl)
      (OpenSpec.preRow_of_cond 8 hx (by kernel_rfl) (fun k hk => by cases hk) (by kernel_rfl) (laid_met os))) ?_
  intro W base args ds gs before hval hW _ _ hsz hL _ _
  exact contract H enc W base args ds gs before hval hW hL hsz

theorem said : Rows.MatchMovedSaid :=
  OpenClaim.holds_of_cond 8 Tryd.f8 rfl rfl rfl rfl rfl rfl rfl ⟨rfl, rfl, rfl, rfl, rfl⟩ rfl rfl rfl rfl rfl (by kernel_rfl) Tryd.func8 (by kernel_rfl)
    (of_decide_eq_true (by kernel_rfl)) (by unfold Func.isWrapper; first | (rw [if_pos (by decide +kernel)]; kernel_rfl) | (rw [if_neg (by decide +kernel)]; exact ⟨rfl, rfl⟩))
    (fun os started H enc _ F => by rw [OpenClaim.pre_eq_preRow]; exact lifted os started H enc F)

theorem plain (f : FuncId) (fn : Func) (hf : Tryd.pinned.checked.prog.funcNamed "sumpter/sumpterlaw12.MatchMoved" = some f) (hfn : Tryd.pinned.checked.prog.funcs[f]? = some fn) :
    false = Tryd.pinned.checked.prog.looks [] ∧ ∀ (j : Nat) t, fn.params[j]? = some t → Tryd.pinned.checked.prog.wantsStandIn t = false := by
  obtain rfl : f = 8 := Option.some.inj ((show Tryd.prog.funcNamed "sumpter/sumpterlaw12.MatchMoved" = some 8 by kernel_rfl).symm.trans hf) |>.symm
  obtain rfl : fn = Tryd.f8 := (Option.some.inj (Tryd.func8.symm.trans hfn)).symm
  refine ⟨by kernel_rfl, fun j t ht => ?_⟩
  rw [Tryd.params8] at ht
  have hm : t ∈ [22, 22, 5] := by simpa using Array.mem_of_getElem? ht
  have hall : ([22, 22, 5].all fun u => !Tryd.prog.wantsStandIn u) = true := by kernel_rfl
  exact (show Tryd.prog.wantsStandIn t = false by simpa using List.all_eq_true.1 hall t hm)
end Go.Proofs.YtlhmpcmlpfffoaaDoor.matchMoved

namespace Go.Proofs.YtlhmpcmlpfffoaaDoor
/-- The card of MatchMoved. -/
theorem matchMoved_card : Rows.MatchMovedCardSaid :=
  Claim7.holds_tied_plain_at .later [] _ _ _ _ matchMoved.said (fun _ h => by cases h) (by kernel_rfl) (fun _ h => by cases h) matchMoved_row_tie rfl ⟨rfl, rfl⟩ (by kernel_rfl) rfl matchMoved.plain (by kernel_rfl)
#print axioms matchMoved_card
end Go.Proofs.YtlhmpcmlpfffoaaDoor
