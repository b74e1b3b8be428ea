/-
  The steps, applied one behind the other, lead from the one tree to the one that is wanted; each tree between is a tree, and has at each path what was there, or what is wanted, or nothing, where that may be: for every two lists of entries and every policy, no condition.
-/
import Derived.Test.YtajcabfeabbknaaDoorFr
import Derived.Test.YtajcabfeabbknaaDoorLa
import Derived.Test.YtajcabfeabbknaaDoorLb
import Derived.Deep.RegionHeld3
namespace Go.Proofs.YtajcabfeabbknaaDoor.mergeReaches
open Go.ChangeShapes Go.WideShapes Go.ChangeAt Go.RowKit Go.Deep Go.ChangeMaps
set_option maxRecDepth 100000

set_option maxHeartbeats 8000000 in
set_option maxRecDepth 100000 in
theorem walk (v : Value) (s : List En) (u : Value) (d : List En) (pv : Value) (P : Pol) (w : World) (hw : Mx w) (hs : ES w v s) (hd : ES w u d) (hp : pv = .agg #[.bool P.del, .bool P.bak]) :
    Calls Tryd.prog 3 #[v, u, pv] w fun e w' => e = .returned (.bool true) ∧ Below w.heap.size w w' := by
  subst hp
  obtain ⟨a, c, rfl, g2, g3, _⟩ := hs.shape
  obtain ⟨a2, c2, rfl, g4, g5, _⟩ := hd.shape
  obtain ⟨W1, hW1⟩ : ∃ W1, W1 = w.alloc (.cells #[.bool P.del, .bool P.bak] 24) := ⟨_, rfl⟩
  have b1 : Below w.heap.size w W1 := by rw [hW1]; exact (Below.refl _ _).alloc (Nat.le_refl _) _
  have k1 : W1.cell? ⟨w.heap.size, 0, none⟩ = some (.bool P.del) ∧ W1.cell? ⟨w.heap.size, 1, none⟩ = some (.bool P.bak) := by
    rw [hW1, World.cell?_alloc_at _ _ _ _ rfl, World.cell?_alloc_at _ _ _ _ rfl]; exact ⟨rfl, rfl⟩
  have HES : Hid (ES W1 (.slice a s.length c) s) := hs.kept b1
  have HED : Hid (ES W1 (.slice a2 d.length c2) d) := hd.kept b1
  have HM : Hid (Mx W1) := hw.kept b1
  have B1 : Hid (Below w.heap.size w W1) := b1
  have CAW : Hid (∀ W, Below W1.heap.size W1 W → Calls Tryd.prog 7 #[] W fun e w' => e = .returned (.bool true) ∧ Below W.heap.size W w') := fun W hb => awake_any W (HM.out.kept hb)
  have CL1 := light_any _ s 40 2000 W1 HES.out (by omega) (by omega) (by unfold maxLen at g3; omega)
  have CL2 := light_any _ d 40 2000 W1 HED.out (by omega) (by omega) (by unfold maxLen at g5; omega)
  have CW : Hid (Lt s → Lt d → Calls Tryd.prog 8 #[.slice a s.length c, .slice a2 d.length c2, .agg #[.bool P.del, .bool P.bak]] W1 fun e w' => ∃ v', e = .returned (.tuple #[v', .int .i64 (want s d P).2]) ∧ OE w' W1.heap.size v' (want s d P).1 ∧ Below W1.heap.size W1 w') := fun l1 l2 => want_any _ _ s d P W1 HES.out l1 HED.out l2 HM.out
  have CP : Hid (∀ W, Below W1.heap.size W1 W → Lt s → Lt d → Calls Tryd.prog 9 #[.slice a s.length c, .slice a2 d.length c2, .agg #[.bool P.del, .bool P.bak]] W fun e w' => ∃ v', e = .returned (.tuple #[v', .int .i64 (plan s d P).2]) ∧ SR w' W.heap.size v' (plan s d P).1 ∧ Below W.heap.size W w') := fun W hb l1 l2 => plan_any _ _ s d P W (HES.out.kept hb) l1 (HED.out.kept hb) l2 (HM.out.kept hb)
  have HBAD : Hid ((want s d P).2 ≠ 0 → (want s d P).1 = [] ∧ plan s d P = ([], (want s d P).2)) := want_bad
  have HGOOD : Hid (Lt s → Lt d → (want s d P).2 = 0 → plan s d P = (pln s d (want s d P).1 P, 0) ∧ Lt (want s d P).1 ∧ Srt d ∧ Srt (want s d P).1 ∧ Rn s (Gd d (want s d P).1) (fun l => l = (want s d P).1) (pln s d (want s d P).1 P) d ∧ (pln s d (want s d P).1 P).length ≤ 400 ∧ ∀ x ∈ pln s d (want s d P).1 P, x.p.size ≤ 1000 ∧ x.t.size ≤ 1000) := fun l1 l2 e => by
    obtain ⟨h1, h2, h3, h4⟩ := want_ok e
    have hlw : Lt (want s d P).1 := by rw [h3]; exact wnt_lt l1 l2 (by omega)
    refine ⟨by unfold plan; rw [if_neg (by simp [e])], hlw, (tree_wf h2).1, by rw [h3]; exact (wnt_wf (tree_wf h1) (tree_wf h2)).1, ?_, pln_small l1 l2 hlw⟩
    rw [h3]
    exact reach (tree_wf h1) h2 h4
  obtain ⟨G1, hG1⟩ : ∃ G1 : Prop, G1 = (s.length ≤ 40 ∧ ∀ x ∈ s, x.p.size ≤ 1000 ∧ x.z.length ≤ 2000) := ⟨_, rfl⟩
  obtain ⟨G2, hG2⟩ : ∃ G2 : Prop, G2 = (d.length ≤ 40 ∧ ∀ x ∈ d, x.p.size ≤ 1000 ∧ x.z.length ≤ 2000) := ⟨_, rfl⟩
  rw [← hG1] at CL1
  rw [← hG2] at CL2
  have HG1 : Hid (G1 → Lt s) := fun h => by rw [hG1] at h; exact ⟨by omega, fun x hx => ⟨(h.2 x hx).1, by have := (h.2 x hx).2; omega⟩⟩
  have HG2 : Hid (G2 → Lt d) := fun h => by rw [hG2] at h; exact ⟨by omega, fun x hx => ⟨(h.2 x hx).1, by have := (h.2 x hx).2; omega⟩⟩
  obtain ⟨n, hn⟩ : ∃ n, n = s.length := ⟨_, rfl⟩
  obtain ⟨m, hm⟩ : ∃ m, m = d.length := ⟨_, rfl⟩
  have HMD : Hid (m = d.length) := hm
  rw [← hn] at HES CL1 CW CP ⊢
  rw [← hm] at HED CL2 CW CP ⊢
  obtain ⟨kk1, kk2⟩ := k1
  have HKK : Hid (∀ W, Below W1.heap.size W1 W → W.cell? ⟨w.heap.size, 0, none⟩ = some (.bool P.del) ∧ W.cell? ⟨w.heap.size, 1, none⟩ = some (.bool P.bak)) := fun W hb => ⟨(hb.cell (World.block_lt_of_cell? _ _ kk1)).trans kk1, (hb.cell (World.block_lt_of_cell? _ _ kk2)).trans kk2⟩
  clear hw hs hd g2 g3 g4 g5 hG1 hG2 hn hm b1 kk1 kk2
  generalize want s d P = R at *
  generalize plan s d P = Q at *
  go_enter Tryd.func3, Tryd.ntmps3
  go_wp2_with fail
  rw [← hW1]
  clear hW1
  refine CL1.mono ?_
  rintro e wq ⟨r1, rfl, hq, hr⟩
  replace hq := hq.symm
  subst hq
  have HR1 : Hid (r1 = true → G1) := hr
  clear hr CL1
  cases r1 with
  | false =>
    go_wp2_with fail
    refine (CAW.out W1 (Below.refl _ _)).mono ?_
    rintro e w2 ⟨rfl, b2⟩
    have B2 : Hid (Below w.heap.size w w2) := B1.out.trans (b2.mono B1.out.size)
    clear b2
    go_wp2
    go_ret
    exact ⟨rfl, B2.out⟩
  | true =>
  have LS : Hid (Lt s) := HG1.out (HR1.out rfl)
  clear HR1 HG1
  go_wp2_with fail
  refine CL2.mono ?_
  rintro e wq ⟨r2, rfl, hq, hr⟩
  replace hq := hq.symm
  subst hq
  have HR2 : Hid (r2 = true → G2) := hr
  clear hr CL2
  cases r2 with
  | false =>
    go_wp2_with fail
    refine (CAW.out W1 (Below.refl _ _)).mono ?_
    rintro e w2 ⟨rfl, b2⟩
    have B2 : Hid (Below w.heap.size w w2) := B1.out.trans (b2.mono B1.out.size)
    clear b2
    go_wp2
    go_ret
    exact ⟨rfl, B2.out⟩
  | true =>
  have LD : Hid (Lt d) := HG2.out (HR2.out rfl)
  clear HR2 HG2
  obtain ⟨kk1, kk2⟩ := HKK.out W1 (Below.refl _ _)
  go_wp2_with fail
  refine (CW.out LS.out LD.out).mono ?_
  rintro e w3 ⟨v3, rfl, o3, b3⟩
  have B3 : Hid (Below W1.heap.size W1 w3) := b3
  have E3 : Hid (ES w3 v3 R.1) := o3.es
  obtain ⟨a3, c3, rfl, _, _, _⟩ := o3.es.shape
  clear b3 o3 CW kk1 kk2
  obtain ⟨kk1, kk2⟩ := HKK.out w3 B3.out
  go_wp2_with fail
  refine (CP.out w3 B3.out LS.out LD.out).mono ?_
  rintro e w4 ⟨v4, rfl, o4, b4⟩
  have B4 : Hid (Below W1.heap.size W1 w4) := B3.out.trans (b4.mono B3.out.size)
  have E4 : Hid (ES w4 (.slice a3 R.1.length c3) R.1) := E3.out.kept b4
  have T4 : Hid (TS w4 v4 Q.1) := o4.ts
  obtain ⟨a4, c4, rfl⟩ := own_shape o4
  have B4w : Hid (Below w.heap.size w w4) := B1.out.trans (B4.out.mono B1.out.size)
  clear b4 o4 CP kk1 kk2 HKK E3 B3
  by_cases h0 : R.2 = 0
  case neg =>
    obtain ⟨e1, e2⟩ := HBAD.out h0
    rw [e2]
    rw [e1] at E4 ⊢
    clear e1 e2 E4 T4 HBAD HGOOD
    generalize R.2 = rk at *
    have t0 : (rk != 0) = true := by simp [h0]
    go_wp2_with fail
    refine (CAW.out w4 B4.out).mono ?_
    rintro e w5 ⟨rfl, b5⟩
    have B5 : Hid (Below w.heap.size w w5) := B4w.out.trans (b5.mono B4w.out.size)
    clear b5
    go_wp2
    go_ret
    exact ⟨rfl, B5.out⟩
  obtain ⟨q1, q2, q3, q4, q5, q6, q7⟩ := HGOOD.out LS.out LD.out h0
  rw [q1] at T4 ⊢
  rw [h0]
  clear h0 HBAD HGOOD q1
  have LW : Hid (Lt R.1) := q2
  have SD : Hid (Srt d) := q3
  have SW : Hid (Srt R.1) := q4
  have HP : Hid (∀ x ∈ pln s d R.1 P, x.p.size ≤ 1000 ∧ x.t.size ≤ 1000) := q7
  have RN : Hid (Rn s (Gd d R.1) (fun l => l = R.1) (pln s d R.1 P) d) := q5
  clear q2 q3 q4 q5 q7
  obtain ⟨nr, hnr⟩ : ∃ nr, nr = R.1.length := ⟨_, rfl⟩
  rw [← hnr] at E4 ⊢
  clear hnr
  generalize pln s d R.1 P = L at *
  obtain ⟨nl, hnl⟩ : ∃ nl, nl = L.length := ⟨_, rfl⟩
  have HNL : Hid (nl = L.length) := hnl
  rw [← hnl] at q6
  have T4' : Hid (TS w4 (.slice a4 nl c4) L) := by rw [hnl]; exact T4.out
  rw [← hnl]
  clear hnl T4
  have D0 : Hid (ES w4 (.slice a2 m c2) d) := HED.out.kept B4.out
  go_wp2
  go_loopw [11, 12] (fun x q wr => ∃ (j : Nat) (now : List En), j ≤ nl ∧ q = .int .i64 j ∧ ES wr x now ∧ Lt now ∧ Rn s (Gd d R.1) (fun l => l = R.1) (L.drop j) now ∧ Below w4.heap.size w4 wr) (fun _ q _ => nl - (intOf q).toNat)
  case atStart => exact ⟨0, d, by omega, rfl, D0.out, LD.out, RN.out, Below.refl _ _⟩
  case round =>
    obtain ⟨j, now, hj, rfl, en, ln, rn, bel⟩ := hrel
    have HB : Hid (Below w4.heap.size w4 wr) := bel
    have HBW : Hid (Below W1.heap.size W1 wr) := B4.out.trans (bel.mono B4.out.size)
    have BW : Hid (Below w.heap.size w wr) := B4w.out.trans (bel.mono B4w.out.size)
    have EN : Hid (ES wr u11 now) := en
    have LN : Hid (Lt now) := ln
    have RNJ : Hid (Rn s (Gd d R.1) (fun l => l = R.1) (L.drop j) now) := rn
    obtain ⟨an, cn, rfl, _, _, _⟩ := en.shape
    clear bel en ln rn D0 RN
    by_cases hlt : j < nl
    · have lt2 : (j : Int) < (nl : Int) := by omega
      have hjl : j < L.length := by rw [← HNL.out]; exact hlt
      obtain ⟨tb, toff, hta, htc, y0, y1, y2⟩ : ∃ b off, a4 = some ⟨b, off, none⟩ ∧ nl ≤ c4 ∧ wr.cell? ⟨b, off + j * 3, none⟩ = some (.int .u8 (atS L j).κ) ∧ wr.cell? ⟨b, off + j * 3 + 1, none⟩ = some (.string (atS L j).p) ∧ wr.cell? ⟨b, off + j * 3 + 2, none⟩ = some (.string (atS L j).t) := by
        obtain ⟨a', c', e, h1, _, h3⟩ := T4'.out.keep HB.out
        cases e
        rcases h3 with h3 | ⟨b, off, rfl, h4⟩
        · rw [h3] at hjl; cases hjl
        · obtain ⟨x0, x1, x2⟩ := cellsT_get L j hjl
          exact ⟨b, off, rfl, h1, (h4 _ (by omega)).trans x0, (h4 _ (by omega)).trans x1, (h4 _ (by omega)).trans x2⟩
      subst hta
      have q1 : IntKind.i64.wrap ((j : Int) + 1) = ((j + 1 : Nat) : Int) := by simp [IntKind.wrap, IntKind.bits, IntKind.signed]; omega
      have HX : Hid ((atS L j).p.size ≤ 1000 ∧ (atS L j).t.size ≤ 1000) := HP.out _ (by rw [atS_eq L j hjl]; exact List.getElem_mem hjl)
      have RN2 : Hid (((apl now (atS L j) s).2 = 5 ∧ 64 ≤ now.length) ∨ ((apl now (atS L j) s).2 = 0 ∧ Gd d R.1 (apl now (atS L j) s).1 ∧ Rn s (Gd d R.1) (fun l => l = R.1) (L.drop (j + 1)) (apl now (atS L j) s).1)) := by
        have h1 := RNJ.out
        rw [List.drop_eq_getElem_cons hjl] at h1
        unfold Rn at h1
        rw [← atS_eq L j hjl] at h1
        exact h1
      have CA := apply_any (.slice an now.length cn) (.slice a n c) now s (atS L j) wr EN.out LN.out (HES.out.kept HBW.out) LS.out HX.out.1 HX.out.2 (HM.out.kept HBW.out)
      clear hjl RNJ HX
      generalize atS L j = x at *
      generalize x.κ = κ at *
      generalize x.p = xp at *
      generalize x.t = xt at *
      generalize apl now x s = A at *
      obtain ⟨nn, hnn⟩ : ∃ nn, nn = now.length := ⟨_, rfl⟩
      rw [← hnn] at RN2 CA EN ⊢
      clear hnn
      go_wp2_with fail
      refine CA.mono ?_
      rintro e w5 ⟨v5, rfl, o5, b5⟩
      have B5 : Hid (Below w4.heap.size w4 w5) := HB.out.trans (b5.mono HB.out.size)
      have B5W : Hid (Below W1.heap.size W1 w5) := B4.out.trans (B5.out.mono B4.out.size)
      have E5 : Hid (ES w5 v5 A.1) := o5.es
      obtain ⟨a5, c5, rfl, _, _, _⟩ := o5.es.shape
      clear CA b5 o5 y0 y1 y2
      rcases RN2.out with ⟨r1, r2⟩ | ⟨r1, r2, r3⟩
      · rw [r1]
        have t1 : (64 : Int) ≤ (nn : Int) := by omega
        clear RN2 r1 r2
        generalize A.1.length = na at *
        go_wp2_with fail
        refine (CAW.out w5 B5W.out).mono ?_
        rintro e w6 ⟨rfl, b6⟩
        have B6 : Hid (Below w.heap.size w w6) := B1.out.trans ((B5W.out.trans (b6.mono B5W.out.size)).mono B1.out.size)
        clear b6
        go_wp2
        go_ret
        exact ⟨rfl, B6.out⟩
      · rw [r1]
        have hck := r2.1
        have hbt := r2.2
        have LA : Hid (Lt A.1) := lt_tree hck
        have SA : Hid (Srt A.1) := (tree_wf hck).1
        have R3 : Hid (Rn s (Gd d R.1) (fun l => l = R.1) (L.drop (j + 1)) A.1) := r3
        have CC := checkT_any (.slice a5 A.1.length c5) A.1 w5 E5.out LA.out (HM.out.kept B5W.out)
        rw [hck] at CC
        have CB1 : Hid (∀ W, Below w5.heap.size w5 W → Calls Tryd.prog 12 #[.slice a2 m c2, .slice a3 nr c3, .slice a5 A.1.length c5] W fun e w' => e = .returned (.bool true) ∧ Below W.heap.size W w') := fun W hb => by
          have h1 := B5W.out.trans (hb.mono B5W.out.size)
          have h2 := B5.out.trans (hb.mono B5.out.size)
          exact between_any _ _ _ d R.1 A.1 W (HED.out.kept h1) LD.out (E4.out.kept h2) LW.out (E5.out.kept hb) LA.out (btw_at SD.out SA.out hbt) (btw_is SA.out hbt)
        have CB2 : Hid (∀ W, Below w5.heap.size w5 W → Calls Tryd.prog 12 #[.slice a3 nr c3, .slice a2 m c2, .slice a5 A.1.length c5] W fun e w' => e = .returned (.bool true) ∧ Below W.heap.size W w') := fun W hb => by
          have h1 := B5W.out.trans (hb.mono B5W.out.size)
          have h2 := B5.out.trans (hb.mono B5.out.size)
          exact between_any _ _ _ R.1 d A.1 W (E4.out.kept h2) LW.out (HED.out.kept h1) LD.out (E5.out.kept hb) LA.out (btw_at SW.out SA.out hbt.symm) (btw_is SA.out hbt.symm)
        clear RN2 r1 r2 r3 hck hbt
        obtain ⟨na, hna⟩ : ∃ na, na = A.1.length := ⟨_, rfl⟩
        rw [← hna] at E5 CC CB1 CB2 ⊢
        clear hna
        go_wp2_with fail
        refine CC.mono ?_
        rintro e w6 ⟨rfl, b6⟩
        have D6 : Hid (Below w5.heap.size w5 w6) := b6
        clear CC b6
        go_wp2_with fail
        refine (CB1.out w6 D6.out).mono ?_
        rintro e w7 ⟨rfl, b7⟩
        have D7 : Hid (Below w5.heap.size w5 w7) := D6.out.trans (b7.mono D6.out.size)
        clear b7
        go_wp2_with fail
        refine (CB2.out w7 D7.out).mono ?_
        rintro e w8 ⟨rfl, b8⟩
        have D8 : Hid (Below w5.heap.size w5 w8) := D7.out.trans (b8.mono D7.out.size)
        have E8 : Hid (ES w8 (.slice a5 na c5) A.1) := E5.out.kept D8.out
        have B8 : Hid (Below w4.heap.size w4 w8) := B5.out.trans (D8.out.mono B5.out.size)
        clear b8 CB1 CB2
        go_wp2
        go_roundw
        case rel => exact ⟨j + 1, A.1, by omega, by go_num, E8.out, LA.out, R3.out, B8.out⟩
        case measure => simp [intOf]; omega
    · obtain rfl : j = nl := by omega
      have hnow : now = R.1 := by
        have h1 := RNJ.out
        rw [List.drop_of_length_le (by rw [← HNL.out]; exact Nat.le_refl _)] at h1
        exact h1
      subst hnow
      have CS := same_any (.slice an R.1.length cn) (.slice a3 nr c3) R.1 R.1 wr EN.out (E4.out.kept HB.out) (by have := LW.out.1; omega) (by have := LW.out.1; omega)
      rw [(sam_iff _ _).2 rfl] at CS
      generalize R.1.length = nw at *
      go_wp2_with fail
      refine CS.mono ?_
      rintro e w5 ⟨rfl, b5⟩
      have B5 : Hid (Below W1.heap.size W1 w5) := HBW.out.trans (b5.mono HBW.out.size)
      clear CS b5
      go_wp2_with fail
      refine (CAW.out w5 B5.out).mono ?_
      rintro e w6 ⟨rfl, b6⟩
      have B6 : Hid (Below w.heap.size w w6) := B1.out.trans ((B5.out.trans (b6.mono B5.out.size)).mono B1.out.size)
      clear b6
      go_wp2
      go_ret
      exact ⟨rfl, B6.out⟩

theorem contract (H : Type) (enc : TypeId × Value → H) (W : World) (base : Nat) (args : Array Value) (ds gs : List (DataW H)) (before : List MemPlace)
    (hval : ∀ (j : Nat) t v, Tryd.f3.params[j]? = some t → args[j]? = some v → Value.okWide Tryd.prog W .any base t v)
    (hW : DataW.Whole enc Tryd.prog Tryd.f3.params.toList Rows.mergeReachesSpec.vars false W args.toList ds gs before) (_hL : laidMetH Tryd.prog Rows.mergeReachesRow.laid W) (hsh : W.ShapedOpen Tryd.prog)
    (hsz0 : (DataW.weightsEach Tryd.prog (Tryd.f3.params.toList ++ Rows.mergeReachesSpec.plain.varTypes Tryd.prog) (ds ++ gs)).all (· ≤ reachBytes) = true) :
    Calls Tryd.prog 3 args W fun e W' => ∃ v, e = .returned v ∧ Rows.mergeReachesSpec.post enc Tryd.prog Tryd.f3 false true false false W args v W' := by
  have hW' := hW
  obtain ⟨p, q, hA0, hV, rfl, hfz, hnd⟩ := hW
  have hA : DataW.TrodAll enc Tryd.prog W 0 (fun _ => true) true Tryd.f3.params.toList args.toList ds p := hA0
  rw [Tryd.params3] at hA hval hsz0
  obtain ⟨v0, vs0, d0, ds0, p0, q0, hargs, rfl, rfl, h0, r0⟩ := trodAll_cons hA
  obtain ⟨v1, vs1, d1, ds1, p1, q1, rfl, rfl, rfl, h1, r1⟩ := trodAll_cons r0
  obtain ⟨v2, vs2, d2, ds2, p2, q2, rfl, rfl, rfl, h2, r2⟩ := trodAll_cons r1
  obtain ⟨rfl, rfl, rfl⟩ := trodAll_nil r2
  obtain rfl : args = #[v0, v1, v2] := by cases args; simp_all
  obtain ⟨rfl, rfl⟩ := trodVars_none hV
  have k0 := h0
  have lt0 : ∀ x ∈ p0, x.block < W.heap.size := by obtain ⟨m, hm⟩ := k0; exact DataW.trod_lt m _ _ _ hm
  obtain ⟨L0, w0⟩ := ents_in (hval 0 22 v0 rfl rfl) h0
  have k1 := h1
  have lt1 : ∀ x ∈ p1, x.block < W.heap.size := by obtain ⟨m, hm⟩ := k1; exact DataW.trod_lt m _ _ _ hm
  obtain ⟨L1, w1⟩ := ents_in (hval 1 22 v1 rfl rfl) h1
  have k2 := h2
  have lt2 : ∀ x ∈ p2, x.block < W.heap.size := by obtain ⟨m, hm⟩ := k2; exact DataW.trod_lt m _ _ _ hm
  obtain ⟨L2, w2⟩ := pol_in (hval 2 24 v2 rfl rfl) h2
  clear hA0
  refine (walk v0 L0 v1 L1 v2 L2 W (mx_of hsh) w0 w1 w2).mono fun e W' ⟨he, bel⟩ => ?_
  subst he
  exact ⟨_, rfl, _, _, _, [], _, [], hW', trodAll_mk1 (shut_bool Tryd.underlying4 _), (trodAll_cons_mk (Below.trod laidOut (by kernel_rfl) (of_decide_eq_true (by kernel_rfl)) k0 bel lt0) (trodAll_cons_mk (Below.trod laidOut (by kernel_rfl) (of_decide_eq_true (by kernel_rfl)) k1 bel lt1) (trodAll_cons_mk (Below.trod laidOut (by kernel_rfl) (of_decide_eq_true (by kernel_rfl)) k2 bel lt2) trodAll_mk0))), rfl, bel.frame _, fun h => by cases h⟩

theorem laid_met (os : Os) : laidMet Tryd.prog Rows.mergeReachesRow.laid (({ World.holding Tryd.prog os ⟨#[], #[], []⟩ with heap := ((((World.holding Tryd.prog os ⟨#[], #[], []⟩).heap.modify 0 (fun
      | .cells _ t frozen => .cells #[.int .i64 0] t frozen
      | o => o)).modify 1 (fun
      | .cells _ t frozen => .cells firstCells t frozen
      | o => o)).modify 2 (fun
      | .cells _ t frozen => .cells rangeCells t frozen
      | o => o)) } : World).forCall (fun _ _ => 0) ⟨#[], #[.slice none 0 0, .slice none 0 0, .agg #[.bool false, .bool false]], []⟩).memory :=
  laidMet_of_run' 8 (by kernel_rfl) (by kernel_rfl)
theorem reads (os : Os) {H : Type} (enc : TypeId × Value → H) : ∃ places, DataW.whole enc Tryd.prog (({ World.holding Tryd.prog os ⟨#[], #[], []⟩ with heap := ((((World.holding Tryd.prog os ⟨#[], #[], []⟩).heap.modify 0 (fun
      | .cells _ t frozen => .cells #[.int .i64 0] t frozen
      | o => o)).modify 1 (fun
      | .cells _ t frozen => .cells firstCells t frozen
      | o => o)).modify 2 (fun
      | .cells _ t frozen => .cells rangeCells t frozen
      | o => o)) } : World).forCall (fun _ _ => 0) ⟨#[], #[.slice none 0 0, .slice none 0 0, .agg #[.bool false, .bool false]], []⟩).memory Tryd.f3.params.toList Rows.mergeReachesSpec.vars false #[Value.slice none 0 0, .slice none 0 0, .agg #[.bool false, .bool false]].toList 8 = some ([.nil, .nil, .agg [.lit (.bool false), .lit (.bool false)]], [], places) :=
  ⟨[], by kernel_rfl⟩

set_option maxRecDepth 100000 in
theorem lifted (os : Os) (started : os.Started) (H : Type) (enc : TypeId × Value → H) (F : Stop.Interp) :
    ReturnsInHanded {} Tryd.checked os 3 .any ((OpenSpec.ofChange Rows.mergeReachesSpec).preRow enc Tryd.prog Tryd.f3 Rows.mergeReachesRow.domain false Rows.mergeReachesRow.laid) (((OpenSpec.ofChange Rows.mergeReachesSpec).at F).post enc Tryd.prog Tryd.f3 false true false false) := by
  obtain ⟨places, hx⟩ := reads os enc
  refine returnsInHanded_of_row (C := Tryd.checked) (s := OpenSpec.ofChange Rows.mergeReachesSpec) own started (by kernel_rfl) Tryd.func3
    (witness_row_at (enc := enc) (C := Tryd.checked) false ({ World.holding Tryd.prog os ⟨#[], #[], []⟩ with heap := ((((World.holding Tryd.prog os ⟨#[], #[], []⟩).heap.modify 0 (fun
      | .cells _ t frozen => .cells #[.int .i64 0] t frozen
      | o => o)).modify 1 (fun
      | .cells _ t frozen => .cells firstCells t frozen
      | o => o)).modify 2 (fun
      | .cells _ t frozen => .cells rangeCells t frozen
      | o => o)) } : World) #[.slice none 0 0, .slice none 0 0, .agg #[.bool false, .bool false]] rfl (by kernel_rfl) (by kernel_rfl) (by kernel_rfl)
      (OpenSpec.preRow_of_cond 8 hx (by kernel_rfl) (fun k hk => by cases hk) (by kernel_rfl) (laid_met os))) ?_
  intro W base args ds gs before hval hW _ _ hsz hL hsh _
  exact contract H enc W base args ds gs before hval hW hL hsh hsz

theorem said : Rows.MergeReachesSaid :=
  OpenClaim.holds_of_cond 3 Tryd.f3 rfl rfl rfl rfl rfl rfl rfl ⟨rfl, rfl, rfl, rfl, rfl⟩ rfl rfl rfl rfl rfl (by kernel_rfl) Tryd.func3 (by kernel_rfl)
    (of_decide_eq_true (by kernel_rfl)) (by unfold Func.isWrapper; first | (rw [if_pos (by decide +kernel)]; kernel_rfl) | (rw [if_neg (by decide +kernel)]; exact ⟨rfl, rfl⟩))
    (fun os started H enc _ F => by rw [OpenClaim.pre_eq_preRow]; exact lifted os started H enc F)

theorem plain (f : FuncId) (fn : Func) (hf : Tryd.pinned.checked.prog.funcNamed "sumpter/sumpterlaw09.MergeReaches" = some f) (hfn : Tryd.pinned.checked.prog.funcs[f]? = some fn) :
    false = Tryd.pinned.checked.prog.looks [] ∧ ∀ (j : Nat) t, fn.params[j]? = some t → Tryd.pinned.checked.prog.wantsStandIn t = false := by
  obtain rfl : f = 3 := Option.some.inj ((show Tryd.prog.funcNamed "sumpter/sumpterlaw09.MergeReaches" = some 3 by kernel_rfl).symm.trans hf) |>.symm
  obtain rfl : fn = Tryd.f3 := (Option.some.inj (Tryd.func3.symm.trans hfn)).symm
  refine ⟨by kernel_rfl, fun j t ht => ?_⟩
  rw [Tryd.params3] at ht
  have hm : t ∈ [22, 22, 24] := by simpa using Array.mem_of_getElem? ht
  have hall : ([22, 22, 24].all fun u => !Tryd.prog.wantsStandIn u) = true := by kernel_rfl
  exact (show Tryd.prog.wantsStandIn t = false by simpa using List.all_eq_true.1 hall t hm)
end Go.Proofs.YtajcabfeabbknaaDoor.mergeReaches

namespace Go.Proofs.YtajcabfeabbknaaDoor
/-- The card of MergeReaches. -/
theorem mergeReaches_card : Rows.MergeReachesCardSaid :=
  Claim7.holds_tied_plain_at .later [] _ _ _ _ mergeReaches.said (fun _ h => by cases h) (by kernel_rfl) (fun _ h => by cases h) mergeReaches_row_tie rfl ⟨rfl, rfl⟩ (by kernel_rfl) rfl mergeReaches.plain (by kernel_rfl)
#print axioms mergeReaches_card
end Go.Proofs.YtajcabfeabbknaaDoor
