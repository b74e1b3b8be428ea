/- walk -/
import Derived.Test.YtfccjeepmhgckaaDoorFr
import Derived.Test.YtfccjeepmhgckaaDoorMat
import Derived.Test.YtfccjeepmhgckaaDoorFd2
namespace Go.Proofs.YtfccjeepmhgckaaDoor.deltaFeeds
open Go.ChangeShapes Go.WideShapes Go.ChangeAt Go.RowKit Go.Deep Go.ChangeMaps
set_option maxRecDepth 100000
set_option maxHeartbeats 16000000 in
theorem walk (old : Int) (a : Option Addr) (len cap : Nat) (ZZ : List (List Int)) (w : World) (hw : Fi.Wid w) (h0 : (Lit.int .i64 old).wf = true) (hr : RowsIn w a len cap ZZ) :
    Calls Tryd.prog 3 #[.int .i64 old, .slice a len cap] w fun e w' => e = .returned (.bool true) ∧ Below w.heap.size w w' := by
  have ho := bounds_i64 h0
  have CA : Hid (∀ W, Below w.heap.size w W → Calls Tryd.prog 5 #[] W fun e w' => e = .returned (.bool true) ∧ Below w.heap.size w w') := fun W hb => by
    refine (awake_any W (Wid.kept hw hb)).mono ?_
    rintro e w' ⟨rfl, b⟩
    exact ⟨rfl, hb.trans (b.mono hb.size)⟩
  have HT : Hid (∀ W, Below w.heap.size w W → Fi.Wid W) := fun W hb => Wid.kept hw hb
  obtain ⟨k1, k2, k3, k4⟩ := hr
  have hm : len ≤ 9223372036854775807 := by unfold maxLen at k2; omega
  clear hw k2 k1 h0
  by_cases h1 : 60 < len
  · have h2 : (60 : Int) < (len : Int) := by omega
    have c := CA.out w (Below.refl _ _)
    clear k3 k4
    go_enter Tryd.func3, Tryd.ntmps3
    go_wp2_with fail
    refine c.mono ?_
    rintro e wz ⟨rfl, bz⟩
    go_wp2
    go_ret
    exact ⟨rfl, bz⟩
  have q1 : ¬ (60 : Int) < (len : Int) := by omega
  have K3 : Hid (ZZ.length = len) := k3
  have K4 : Hid (len = 0 ∨ ∃ b off, a = some ⟨b, off, none⟩ ∧ ∀ i, i < len → ∃ v, w.cell? ⟨b, off + i, none⟩ = some v ∧ Sl w v (ZZ.getD i [])) := k4
  have cn := dnew_any old w ho.2
  have HO : Hid (old ≤ 9223372036854775807) := ho.2
  clear k3 k4 h1 ho
  go_enter Tryd.func3, Tryd.ntmps3
  go_wp2_with fail
  refine cn.mono ?_
  rintro e w1 ⟨rfl, d1, b1⟩
  clear cn
  obtain ⟨W2, hW2⟩ : ∃ W2, W2 = w1.alloc (.cells #[.int .i64 old, .int .i64 0, .slice none 0 0, .int .i64 0] 28) := ⟨_, rfl⟩
  have b2 : Below w1.heap.size w1 W2 := by rw [hW2]; exact al_below _ _
  have ST0 : Hid (ST w W2 w.heap.size w1.heap.size (.slice none 0 0) (.slice none 0 0) ⟨old, 0, [], 0⟩) := by
    refine ⟨d1.kept b2, ?_, ⟨Sl.none _, fun x n c e _ => (by cases e)⟩, b1.trans (b2.mono b1.size), fun k e => (by cases e), fun k e => (by cases e), ?_, b1.size⟩
    · rw [hW2]; exact heap_alloc_new _ _
    · have := d1.lt; omega
  have HX : Hid (w.heap.size < w1.heap.size) := d1.lt
  clear d1 b1
  go_wp2_with fail
  rw [← hW2]
  clear hW2 b2
  generalize w1.heap.size = gx at *
  go_loopw [7, 8] (fun nv i wr => ∃ (j n : Nat) (D : Dc) (rv bv : Value), j ≤ len ∧ i = .int .i64 j ∧ nv = .int .i64 n ∧ n ≤ 4000 ∧ D.rest.length ≤ n ∧ ST w wr w.heap.size gx rv bv D) (fun _ i _ => len - (intOf i).toNat)
  case atStart => exact ⟨0, 0, ⟨old, 0, [], 0⟩, _, _, by omega, rfl, rfl, by omega, Nat.le_refl _, ST0.out⟩
  case round =>
    clear ST0
    obtain ⟨j, n, D, rv, bv, hj, rfl, rfl, hn, hD, st⟩ := hrel
    by_cases hlt : j < len
    · obtain ⟨b, off, rfl, hc⟩ := K4.out.resolve_left (by omega)
      obtain ⟨v, hv, sv⟩ := hc j hlt
      generalize ZZ.getD j [] = Z at *
      obtain ⟨va, vc, rfl, hvl, hvm, -⟩ := id sv
      have lt2 : (j : Int) < (len : Int) := by omega
      have hvr := (st.bel.cell (World.block_lt_of_cell? _ _ hv)).trans hv
      have HCV : Hid (∀ W, Below w.heap.size w W → W.cell? ⟨b, off + j, none⟩ = some (.slice va Z.length vc)) := fun W hb => (hb.cell (World.block_lt_of_cell? _ _ hv)).trans hv
      have HSV : Hid (∀ W, Below w.heap.size w W → Sl W (.slice va Z.length vc) Z) := fun W hb => sv.kept hb
      unfold maxLen at hvm
      obtain ⟨L, hL⟩ : ∃ L, L = Z.length := ⟨_, rfl⟩
      have HL : Hid (L = Z.length) := hL
      rw [← hL] at hvr HCV HSV hvl
      clear hv sv hL hc
      by_cases hz : 4000 < n + L
      · have c := CA.out wr st.bel
        clear st HCV HSV
        obtain ⟨m, hmn, hm4⟩ : ∃ m : Nat, min (L : Int) 4001 = (m : Int) ∧ 4000 < n + m := by
          by_cases h5 : L ≤ 4001
          · exact ⟨L, by omega, hz⟩
          · exact ⟨4001, by omega, by omega⟩
        have ya : IntKind.i64.wrap ((n : Int) + (m : Int)) = ((n + m : Nat) : Int) := by rw [IntKind.wrap_i64]; omega
        have yb : wrap64 ((n : Int) + (m : Int)) = ((n + m : Nat) : Int) := by unfold wrap64; omega
        have yc : (4000 : Int) < (n : Int) + (m : Int) := by omega
        go_wp2_with fail
        refine c.mono ?_
        rintro e wz ⟨rfl, bz⟩
        clear c
        go_wp2
        go_ret
        exact ⟨rfl, bz⟩
      · have hmn : min (L : Int) 4001 = (L : Int) := by omega
        have ya : IntKind.i64.wrap ((n : Int) + (L : Int)) = ((n + L : Nat) : Int) := by rw [IntKind.wrap_i64]; omega
        have yb : wrap64 ((n : Int) + (L : Int)) = ((n + L : Nat) : Int) := by unfold wrap64; omega
        have yc : ¬ (4000 : Int) < (n : Int) + (L : Int) := by omega
        obtain ⟨W3, hW3⟩ : ∃ W3, W3 = wr.alloc (.cells #[] 5) := ⟨_, rfl⟩
        have b3 : Below wr.heap.size wr W3 := by rw [hW3]; exact al_below _ _
        have O3 : Hid (Ow W3 wr.heap.size (.slice (some ⟨wr.heap.size, 0, none⟩) 0 0) []) := by unfold Hid; rw [hW3]; exact ow_empty wr
        have ST3 : Hid (∀ W, Below wr.heap.size wr W → ST w W w.heap.size gx rv bv D) := fun W hb => st.kept hb
        have B3 : Hid (Below wr.heap.size wr W3) := b3
        have hvr3 := HCV.out W3 (st.bel.trans (b3.mono st.bel.size))
        have hw3 := hW3.symm
        have HBW : Hid (Below w.heap.size w wr) := st.bel
        clear st b3 hW3
        go_wp2_with (at_builtin; refine wpList_append_ow rfl _ _ rfl wr.heap.size _ [] rfl O3.out _ Z rfl (HSV.out _ (HBW.out.trans (B3.out.mono HBW.out.size))) (by have := HL.out; simp only [List.length_nil]; omega) B3.out.size (Hid.out ?_))
        unfold Hid
        intro v4 w4 o4 b4
        try rw [List.nil_append] at o4
        have b34 : Below wr.heap.size wr w4 := B3.out.trans b4
        have st4' := ST3.out w4 b34
        have c := feed_any w4 w.heap.size w.heap.size rv v4 D Z st4'.dc o4.sl (fun W hb => HT.out W (st4'.bel.trans hb)) (by have := HL.out; omega)
        have HFD : Hid (∀ e w5, FP D Z w.heap.size w.heap.size rv w4 e w5 → ∃ lv rv', e = .returned (.tuple #[lv, .int .i64 (feedP D Z).2.2]) ∧ SM w w5 w.heap.size gx rv' bv lv D (feedP D Z).1 (feedP D Z).2.1) := fun e w5 hf => st4'.fed hf
        have HDB : Hid ((feedP D Z).1.rest.length ≤ n + L ∧ (feedP D Z).2.1.length ≤ 100000 ∧ 0 ≤ D.made ∧ D.made ≤ 65536 ∧ D.old ≤ 9223372036854775807 ∧ D.rest.length + Z.length ≤ 90000) := by
          obtain ⟨-, -, -, -, -, q6, q7, q8⟩ := st4'.dc
          have := feedP_len Z q6 q7
          have := HL.out
          exact ⟨by omega, by omega, q6, q7, q8, by omega⟩
        obtain ⟨a4, c4, rfl⟩ := o4.shape
        rw [← HL.out] at c ⊢
        clear o4 b4 b34 st4' ST3 B3 O3 hvr hvr3 hw3 hmn ya yb yc
        go_wp2_with fail
        refine c.mono ?_
        intro e w5 hf
        obtain ⟨lv, rv', rfl, sm⟩ := HFD.out e w5 hf
        clear c hf HFD
        obtain ⟨h1, h2, h3, h4, h5, h6⟩ := HDB.out
        have CF : Hid (∀ W, Below w5.heap.size w5 W → Calls Tryd.prog 8 #[.agg #[.int .i64 D.old, .int .i64 D.made, bv, .int .i64 D.err], .slice va L vc] W fun e w' => RF D Z bv W e w') := fun W hb => rfeed_any D bv _ Z W (sm.s.kept hb) (HSV.out W (sm.bel.trans (hb.mono sm.bel.size))) h3 h4 h5 h6
        obtain ⟨la, lc, rfl, -, -, -⟩ := sm.ox.shape
        obtain ⟨ba, bc, hbv, -⟩ := id sm.s.1
        have hcv5 := HCV.out w5 sm.bel
        obtain ⟨x0, x1, x2, x3⟩ := sm.x.cells
        have fx := sm.x.free
        have SM5 : Hid (SM w w5 w.heap.size gx rv' bv (.slice la (feedP D Z).2.1.length lc) D (feedP D Z).1 (feedP D Z).2.1) := sm
        clear sm h1 h2 h3 h4 h5 h6
        unfold RF at CF
        generalize feedP D Z = P at *
        obtain ⟨⟨o', m', r', e'⟩, l', z'⟩ := P
        simp only at CF SM5 HDB ⊢
        obtain ⟨nl, hnl⟩ : ∃ nl, nl = l'.length := ⟨_, rfl⟩
        obtain ⟨nr, hnr⟩ : ∃ nr, nr = r'.length := ⟨_, rfl⟩
        have HNL : Hid (nl = l'.length) := hnl
        have HNR : Hid (nr = r'.length) := hnr
        rw [← hnl] at SM5 ⊢
        clear hnl hnr
        subst hbv
        generalize D.rest.length = nb at *
        have FT : Hid (∀ W, Below w5.heap.size w5 W → (W.cell? ⟨gx, 0, none⟩ = some (.int .i64 D.old) ∧ W.cell? ⟨gx, 1, none⟩ = some (.int .i64 D.made) ∧ W.cell? ⟨gx, 2, none⟩ = some (.slice ba nb bc) ∧ W.cell? ⟨gx, 3, none⟩ = some (.int .i64 D.err)) ∧ W.cell? ⟨b, off + j, none⟩ = some (.slice va L vc)) := fun W hb => ⟨(SM5.out.kept hb).x.cells, HCV.out W (SM5.out.bel.trans (hb.mono SM5.out.bel.size))⟩
        have a1 : Below w5.heap.size w5 (w5.drew.alloc (.cells zrd 28)) := (Below.refl _ _).drew.alloc (Nat.le_refl _) _
        obtain ⟨⟨y0, y1, y2, y3⟩, y4⟩ := FT.out _ a1
        have nb5 : b < w5.heap.size := World.block_lt_of_cell? _ _ hcv5
        have ng5 : gx < w5.heap.size := World.block_lt_of_cell? _ _ x0
        have nb6 : ¬ b = w5.heap.size := by omega
        have ng6 : ¬ gx = w5.heap.size := by omega
        clear a1
        go_wp2_with fail
        go_region_with ((go_at_call 8; refine (CF.out _ (by first | exact (Below.refl _ _).drew | exact ((Below.refl _ _).drew.alloc (Nat.le_refl _) _))).mono ?_; rintro e w6 ⟨b6, bv', mv, rfl, sx6, ox6, hbv6⟩; obtain ⟨ba', bc', rfl, -⟩ := id sx6.1; obtain ⟨ma, mc, rfl, -, -, -⟩ := ox6.shape; rw [← HNL.out] at ox6 ⊢; rw [← HNR.out] at sx6 hbv6 ⊢; (first | (have gy : w6.heap[w5.heap.size]? = some (.cells zrd 28 (0, 0)) := (b6.block w5.heap.size (by simp)).trans (heap_alloc_new w5.drew (.cells zrd 28)); obtain ⟨p0, p1, p2, p3⟩ := cell4 gy; have fp : ∀ i, w6.frozen? ⟨w5.heap.size, i, none⟩ = false := fun _ => frozen_of_row _ _ _ _ _ gy) | skip)))
        all_goals
          have KEY : Hid (∀ W7 yb, RB W7 yb o' m' (.slice ba' nr bc') e' → Below w5.heap.size w5 W7 → SlX W7 (.slice ba' nr bc') r' → OX W7 w5.heap.size (.slice ma nl mc) l' → ((.slice ba' nr bc' : Value) = .slice ba nb bc ∨ ∀ i, (Value.slice ba' nr bc').ownBlock = some i → w5.heap.size ≤ i ∧ i < W7.heap.size) →
              yb ≠ gx → ST w (st4 W7 gx (.int .i64 o') (.int .i64 m') (.slice ba' nr bc') (.int .i64 e')) w.heap.size gx rv' (.slice ba' nr bc') ⟨o', m', r', e'⟩ ∧ OX (st4 W7 gx (.int .i64 o') (.int .i64 m') (.slice ba' nr bc') (.int .i64 e')) w.heap.size (.slice la nl lc) l' ∧ OX (st4 W7 gx (.int .i64 o') (.int .i64 m') (.slice ba' nr bc') (.int .i64 e')) w.heap.size (.slice ma nl mc) l') := fun W7 yb hr hb hs hx hv hy =>
            SM5.out.both (D' := ⟨o', m', r', e'⟩) hb hs hx (hv.imp id fun q i e => (q i e).1) (fun i e => by
              rcases hv with q | q
              · rw [q] at e
                exact Nat.lt_of_lt_of_le (SM5.out.bb i e).2 hb.size
              · exact (q i e).2)
          first
            | (have gy' := gy
               rw [st4_eq]
               have r7 : RB (st4 w6 w5.heap.size (.int .i64 o') (.int .i64 m') (.slice ba' nr bc') (.int .i64 e')) w5.heap.size o' m' (.slice ba' nr bc') e' := RB.st (show RB w6 w5.heap.size 0 0 (.slice none 0 0) 0 from gy) _ _ _ _
               have bb6 : Below w5.heap.size w5 w6 := ((Below.refl w5.heap.size w5).drew.alloc (Nat.le_refl _) (.cells zrd 28)).trans (b6.mono (by simp))
               have bb7 : Below w5.heap.size w5 (st4 w6 w5.heap.size (.int .i64 o') (.int .i64 m') (.slice ba' nr bc') (.int .i64 e')) := bb6.trans (st4_below _ _ _ _ _ _ _ (Nat.le_refl _))
               have kq := KEY.out _ _ r7 bb7 (slx_off sx6 (fun k hk => st4_other _ _ _ _ _ _ k hk) gy (db_u8 _ _ _ _ _ _)) (OX.kp (ox6.mono (by simp)) (Kp.st4 _ _ _ _ _ _ _) gy (by decide) (by decide)) (hbv6.imp id fun q i e => ⟨Nat.le_trans (by simp) (q i e).1, by rw [st4_size]; exact (q i e).2⟩) (fun e => ng6 e.symm)
               have x7 := (SM5.out.kept bb7).x
               generalize st4 w6 w5.heap.size (.int .i64 o') (.int .i64 m') (.slice ba' nr bc') (.int .i64 e') = W7 at *
               clear gy gy' p0 p1 p2 p3 fp)
            | (have r7 : RB (w6.alloc (.cells #[.int .i64 o', .int .i64 m', .slice ba' nr bc', .int .i64 e'] 28)) w6.heap.size o' m' (.slice ba' nr bc') e' := heap_alloc_new _ _
               have bb6 : Below w5.heap.size w5 w6 := (Below.refl w5.heap.size w5).drew.trans b6
               have b67 := al_below w6 (.cells #[.int .i64 o', .int .i64 m', .slice ba' nr bc', .int .i64 e'] 28)
               have bb7 := bb6.trans (b67.mono bb6.size)
               have kq := KEY.out _ _ r7 bb7 (sx6.kept b67) (ox6.below b67) (hbv6.imp id fun q i e => ⟨(q i e).1, Nat.lt_of_lt_of_le (q i e).2 b67.size⟩) (by have := bb6.size; omega)
               have x7 := (SM5.out.kept bb7).x
               generalize w6.alloc (.cells #[.int .i64 o', .int .i64 m', .slice ba' nr bc', .int .i64 e'] 28) = W7 at *
               clear b67)
          obtain ⟨st8, ox8, mx8⟩ := kq
          obtain ⟨g0, g1, g2, g3⟩ := r7.cells
          obtain ⟨z0, z1, z2, z3⟩ := x7.cells
          have fz := x7.free
          have ST8 : Hid (∀ W, Below (st4 W7 gx (.int .i64 o') (.int .i64 m') (.slice ba' nr bc') (.int .i64 e')).heap.size (st4 W7 gx (.int .i64 o') (.int .i64 m') (.slice ba' nr bc') (.int .i64 e')) W → ST w W w.heap.size gx rv' (.slice ba' nr bc') ⟨o', m', r', e'⟩ ∧ XS W (.slice la nl lc) l' ∧ XS W (.slice ma nl mc) l') := fun W hb => ⟨st8.kept hb, (ox8.below hb).xs, (mx8.below hb).xs⟩
          clear st8 ox8 mx8 r7 x7 KEY bb6 bb7 sx6 ox6 hbv6 b6 y0 y1 y2 y3 y4 x0 x1 x2 x3 fx hcv5 FT CF SM5 nb5 ng5 nb6 ng6
          go_wp2_with fail
          rw [st4_eq]
          generalize st4 W7 gx (.int .i64 o') (.int .i64 m') (.slice ba' nr bc') (.int .i64 e') = W8 at *
          clear g0 g1 g2 g3 z0 z1 z2 z3 fz
          have HP : Hid (∀ W, Below W8.heap.size W8 W → W.cell? ⟨gx, 1, none⟩ = some (.int .i64 m') ∧ W.cell? ⟨gx, 2, none⟩ = some (.slice ba' nr bc')) := fun W hb => ⟨(ST8.out W hb).1.x.cells.2.1, (ST8.out W hb).1.x.cells.2.2.1⟩
          have CS : Hid (∀ W, Below W8.heap.size W8 W → Calls Tryd.prog 9 #[.slice la nl lc, .slice ma nl mc] W fun e w' => e = .returned (.bool true) ∧ Below W.heap.size W w') := fun W hb => by
            have := rsame_any _ _ l' l' W (ST8.out W hb).2.1 (ST8.out W hb).2.2 HDB.out.2.1 HDB.out.2.1
            rwa [saX_self] at this
          have CMa : Hid (∀ W, Below W8.heap.size W8 W → Calls Tryd.prog 10 #[.pointer (some ⟨w.heap.size, 0, none⟩)] W fun e w' => e = .returned (.int .i64 m') ∧ w' = W) := fun W hb => made_any W _ _ _ _ (ST8.out W hb).1.dc
          have CRe : Hid (∀ W, Below W8.heap.size W8 W → Calls Tryd.prog 11 #[.pointer (some ⟨w.heap.size, 0, none⟩)] W fun e w' => e = .returned (.int .i64 (nr : Nat)) ∧ w' = W) := fun W hb => by
            have := rest_any W _ _ _ _ (ST8.out W hb).1.dc
            rw [HNR.out]
            exact this
          have t0 : (z' != z') = false := by simp
          have t1 : (m' != m') = false := by simp
          have t2 : ((nr : Int) != (nr : Int)) = false := by simp
          go_region_held3 (fun W => W.cell? ⟨gx, 1, none⟩ = some (.int .i64 m') ∧ W.cell? ⟨gx, 2, none⟩ = some (.slice ba' nr bc')) (first | exact HP.out _ (Below.refl _ _) | exact HP.out _ (Below.refl _ _).drew | exact HP.out _ d9) (first
            | (go_at_call 9; refine (CS.out _ (Below.refl _ _).drew).mono ?_; rintro e w9 ⟨rfl, b9⟩; have d9 : Below W8.heap.size W8 w9 := (Below.refl W8.heap.size W8).drew.trans b9)
            | (go_at_call 10; refine (CMa.out _ d9).mono ?_; rintro e wq ⟨rfl, hq⟩; replace hq := hq.symm; subst hq)
            | (go_at_call 11; refine (CRe.out _ d9).mono ?_; rintro e wq ⟨rfl, hq⟩; replace hq := hq.symm; subst hq))
          have ST9 : Hid (ST w w9 w.heap.size gx rv' (.slice ba' nr bc') ⟨o', m', r', e'⟩) := (ST8.out w9 d9).1
          clear d9 ST8 HP CS CMa CRe
          go_wp2
          go_roundw
          case rel => exact ⟨j + 1, n + L, ⟨o', m', r', e'⟩, rv', _, by omega, by go_num, by go_num, by omega, HDB.out.1, ST9.out⟩
          case measure => simp [intOf]; omega
    · obtain rfl : j = len := by omega
      have hlt2 : ¬ (j : Int) < (j : Int) := by omega
      have c := CA.out wr st.bel
      clear st
      go_wp2_with fail
      refine c.mono ?_
      rintro e wz ⟨rfl, bz⟩
      clear c
      go_wp2
      go_ret
      exact ⟨rfl, bz⟩
end Go.Proofs.YtfccjeepmhgckaaDoor.deltaFeeds
