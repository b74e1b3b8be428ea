/- walk -/
import Derived.Test.YtgnampbbkaolmaaDoorFr
import Derived.Test.YtgnampbbkaolmaaDoorPkD
namespace Go.Proofs.YtgnampbbkaolmaaDoor.deltaMirrors
open Go.ChangeShapes Go.WideShapes Go.ChangeAt Go.RowKit Go.Deep Go.ChangeMaps
set_option maxRecDepth 100000
theorem shp_kept {w w' : World} {p : Option Addr} {ZZ : List (List Int)} (h : Sh.Parts w p ZZ) (hb : Below w.heap.size w w') : Sh.Parts w' p ZZ := by
  obtain ⟨h1, h2⟩ := h
  refine ⟨h1, ?_⟩
  rcases h2 with h2 | ⟨b, off, e, h2⟩
  · exact .inl h2
  · refine .inr ⟨b, off, e, fun i hi => ?_⟩
    obtain ⟨v, k1, k2⟩ := h2 i hi
    exact ⟨v, (Below.cell hb (World.block_lt_of_cell? _ _ k1)).trans k1, Sl.kept k2 hb⟩
theorem guardH : Tryd.prog.eqGuardType Tryd.prog.depth 59 = false := by kernel_rfl
theorem eqH_run (A B : List Int) (hA : A.length = 32) (hB : B.length = 32) (w : World) : (binOp .eql 59 (.agg (u8c A)) (.agg (u8c B))).run Tryd.prog w = .ok (.bool (A == B)) w := by
  have h' : (Op.equal 59 (.agg (u8c A)) (.agg (u8c B))).run Tryd.prog w = .ok (A == B) w := eq_u8c 9998 A B hA hB w
  show (do pure (.bool (← Op.equal 59 (.agg (u8c A)) (.agg (u8c B)))) : Sem Value).run Tryd.prog w = _
  rw [Sem.run_bind, h']
  rfl
theorem yields_eqh {S : World → Prop} {ops : Array Oper} {o : Oper} {a : Act} (hw : Region.wanted o (yielded ops a.tmps) = true) (x y : Operand) (t : TypeId) (ho : o.op = .binOp .eql 59 x y t)
    (U V : Array Value) (b : Bool) (hx : a.eval x = .agg U) (hy : a.eval y = .agg V) (hE : ∀ w, (binOp BinOp.eql 59 (.agg U) (.agg V)).run Tryd.prog w = .ok (.bool b) w) : YieldsIf Tryd.prog ops S o (.bool b) a :=
  .inl ⟨hw, fun w _ => by
    unfold execOp
    simp only [ho, hx, hy, Sem.run_bind, run_eqGuard_agg _ _ _ _ _ _ _ guardH, hE, Result.andThen_ok, Sem.run_pure]⟩
theorem feed_all (old : Int) (ho : old < 4611686018427387904) (m : List Xp) (hm : ∀ x ∈ m, mayX x old = true) (ht : totX m ≤ 65536) : feedP ⟨old, 0, [], 0⟩ (putX m) = (⟨old, totX m, [], 0⟩, m, 0) := by
  have h := tks_all old ho m 0 [] (Int.le_refl _) hm (by omega)
  unfold feedP
  simp only [if_true, List.nil_append, Int.zero_add] at h ⊢
  rw [h]
  rfl
set_option maxHeartbeats 16000000 in
theorem walk (v0 : Value) (o : List Int) (v1 : Value) (b : List Int) (s : Int) (w : World) (hw : Tb w) (h0 : SlX w v0 o) (h1 : SlX w v1 b) (hs : (Lit.int .u8 s).wf = true) :
    Calls Tryd.prog 7 #[v0, v1, .int .u8 s] w fun e w' => e = .returned (.bool true) ∧ Below w.heap.size w w' := by
  have s1 := bounds_u8 hs
  obtain ⟨k, hk⟩ : ∃ k : Nat, (1 : Int) + s % 64 = k := ⟨(1 + s % 64).toNat, by omega⟩
  have k1 : 1 ≤ k := by omega
  have k2 : k ≤ 64 := by omega
  have ht : Int.tmod s 64 = s % 64 := Int.tmod_eq_emod_of_nonneg s1.1
  have CA : Hid (∀ W, Below w.heap.size w W → Calls Tryd.prog 9 #[] W fun e w' => e = .returned (.bool true) ∧ Below W.heap.size W w') := fun W hb => awake_any W (Wid.kept hw.2 hb)
  obtain ⟨a0, c0, rfl, hc0, hm0, hn0, -⟩ := id h0.1
  have H0 : Hid (SlX w (.slice a0 o.length c0) o) := h0
  obtain ⟨LO, hLO⟩ : ∃ LO, LO = o.length := ⟨_, rfl⟩
  have HLO : Hid (LO = o.length) := hLO
  rw [← hLO] at H0 hc0 ⊢
  have bLO : (LO : Int) ≤ 9223372036854775807 := by unfold maxLen at hm0; omega
  obtain ⟨a1, c1, rfl, hc1, hm1, hn1, -⟩ := id h1.1
  have H1 : Hid (SlX w (.slice a1 b.length c1) b) := h1
  obtain ⟨LB, hLB⟩ : ∃ LB, LB = b.length := ⟨_, rfl⟩
  have HLB : Hid (LB = b.length) := hLB
  rw [← hLB] at H1 hc1 ⊢
  have bLB : (LB : Int) ≤ 9223372036854775807 := by unfold maxLen at hm1; omega
  have HW : Hid (Tb w) := hw
  clear h0 h1 hs hw hLO hLB hm0 hm1 hn0 hn1
  by_cases h4 : 400 < LO
  · have h5 : 400 < (LO : Int) := by omega
    go_enter Tryd.func7, Tryd.ntmps7
    have ca := CA.out w (Below.refl w.heap.size w)
    go_wp2_with fail
    refine ca.mono ?_
    rintro e wz ⟨rfl, bz⟩
    have BZ : Hid (Below w.heap.size w wz) := bz
    clear ca bz
    go_wp2
    go_ret
    exact ⟨rfl, BZ.out⟩
  · have h5 : ¬ 400 < (LO : Int) := by omega
    by_cases h6 : 400 < LB
    · have h7 : 400 < (LB : Int) := by omega
      go_enter Tryd.func7, Tryd.ntmps7
      have ca := CA.out w (Below.refl w.heap.size w)
      go_wp2_with fail
      refine ca.mono ?_
      rintro e wz ⟨rfl, bz⟩
      have BZ : Hid (Below w.heap.size w wz) := bz
      clear ca bz
      go_wp2
      go_ret
      exact ⟨rfl, BZ.out⟩
    · have h7 : ¬ 400 < (LB : Int) := by omega
      have hbo : o.length ≤ 4096 := by rw [← HLO.out]; omega
      have hSN : (sums o k).length ≤ 4096 := by rw [sums_len]; have := Nat.div_le_self o.length k; omega
      have CS := sign_any _ o k w H0.out.1 HW.out.1
      rw [bsig_ok o k (by omega) (by omega) hbo] at CS
      have CN : Hid (∀ x u, RI x w.heap.size u (sums o k) → Calls Tryd.prog 25 #[.int .i64 (k : Int), .int .i64 (LO : Int), u] x fun e w' => ∃ g m, e = .returned (.tuple #[.pointer (some ⟨g, 0, none⟩), .int .i64 0]) ∧ IX w' x.heap.size g m k ((sums o k).length : Int) (sums o k) ∧ Below x.heap.size x w') := fun x u hu => by
        rw [HLO.out]
        have c := new_any k o.length u (sums o k) x hu.is (by omega)
        rw [chk_ok o k (by omega) (by omega) hbo] at c
        refine c.mono ?_
        rintro e w' ⟨v', rfl, nx, bb⟩
        unfold NX at nx
        rw [if_pos (chk_ok o k (by omega) (by omega) hbo)] at nx
        obtain ⟨g, m, rfl, ix⟩ := nx
        exact ⟨g, m, rfl, ix, bb⟩
      obtain ⟨R, hR⟩ : ∃ R, R = srch (bfnd (sums o k) k) k b 0 0 [] := ⟨_, rfl⟩
      obtain ⟨M1, M2, M3, M4, M5, M6⟩ := mirror o b k (by omega) R hR
      rw [← HLO.out] at M1
      rw [← HLB.out] at M2 M3 M4 M5
      have CSR : Hid (∀ x B g m N, IX x B g m k N (sums o k) → Below w.heap.size w x → Calls Tryd.prog 26 #[.pointer (some ⟨g, 0, none⟩), .slice a1 LB c1] x fun e w' => ∃ v', e = .returned v' ∧ OX w' x.heap.size v' R ∧ Below x.heap.size x w') := fun x B g m N ix hb => by
        have := search_any x B g m k N (sums o k) ix _ b (H1.out.kept hb) (Ta.kept HW.out.1 hb) (by omega) (by omega) hSN (by rw [← HLB.out]; omega)
        rw [← hR] at this
        exact this
      have CP : Hid (∀ x v, XS x v R → Below w.heap.size w x → Calls Tryd.prog 19 #[v] x fun e w' => ∃ v', e = .returned v' ∧ Ow w' x.heap.size v' (putX R) ∧ Below x.heap.size x w') := fun x v hx hb =>
        put_any v R x hx (by omega) (fun y hy => by have := byt_mem R y hy; omega) (Wid.kept HW.out.2 hb)
      have CF : Hid (∀ x B v, DC x B B (.slice none 0 0) ⟨LO, 0, [], 0⟩ → Sl x v (putX R) → Below w.heap.size w x → w.heap.size ≤ B → B ≤ x.heap.size → Calls Tryd.prog 14 #[.pointer (some ⟨B, 0, none⟩), v] x fun e w' => ∃ lv, e = .returned (.tuple #[lv, .int .i64 0]) ∧ XS w' lv R ∧ Below w.heap.size w w') := fun x B v dc sl hb hB hx => by
        have c := feed_any x B B (.slice none 0 0) v ⟨LO, 0, [], 0⟩ (putX R) dc sl (fun W hW => Wid.kept HW.out.2 (hb.trans (hW.mono hB))) (by have := put_byt R; show 0 + (putX R).length ≤ 90000; omega)
        refine c.mono ?_
        rintro e w' ⟨lv, rv', he, ox, -, kp, -⟩
        rw [feed_all LO (by omega) R M1 (by omega)] at he ox
        exact ⟨lv, he, ox.ox.xs, hb.trans ((kp.below (B := B) (Nat.le_refl _) (fun k e => by cases e) hx).mono hB)⟩
      have CAP : Hid (∀ x u, XS x u R → Below w.heap.size w x → Calls Tryd.prog 10 #[.slice a0 LO c0, u] x fun e w' => ∃ v', e = .returned (.tuple #[v', .int .i64 0]) ∧ Ow w' x.heap.size v' (makeX o R) ∧ Below x.heap.size x w') := fun x u hx hb => by
        have c := apply_any _ u o R x (H0.out.kept hb) hx (by omega)
        have e : appX o R = (makeX o R, 0) := if_pos (chkX_of (by omega) (by rw [← HLO.out]; exact M1) (by omega))
        rw [e] at c
        exact c
      have hdl : (LO : Int) ≤ 9223372036854775807 := by omega
      have HM5 : Hid ((makeX o R).length = LB) := M5
      have HM6 : Hid (makeX o R = b ∨ ∃ A t, (A + 1) * k ≤ o.length ∧ t + k ≤ b.length ∧ Sh.Pl.sha (cut o (A * k) k) = Sh.Pl.sha (cut b t k) ∧ cut o (A * k) k ≠ cut b t k) := M6
      clear M1 M2 M3 M4 M5 M6 hR hSN hbo
      generalize sums o k = SO at *
      simp only at CS
      go_enter Tryd.func7, Tryd.ntmps7
      go_wp2_with fail
      refine CS.mono ?_
      rintro e w1 ⟨v2, rfl, r1, b1⟩
      clear CS
      have cn := CN.out w1 v2 r1
      have B1 : Hid (Below w.heap.size w w1) := b1
      obtain ⟨a2, c2, rfl, -⟩ := r1.is.shape
      clear r1 b1 CN
      generalize SO.length = sn at *
      go_wp2_with fail
      refine cn.mono ?_
      rintro e w2 ⟨g, m, rfl, ix, b2⟩
      clear cn
      have I2 : Hid (IX w2 w1.heap.size g m k (sn : Int) SO) := ix
      have B2 : Hid (Below w.heap.size w w2) := B1.out.trans (b2.mono B1.out.size)
      clear ix b2 B1
      have c := dnew_any (LO : Int) w2 hdl
      go_wp2_with fail
      refine c.mono ?_
      rintro e w3 ⟨rfl, d3, b3⟩
      clear c
      have B3 : Hid (Below w.heap.size w w3) := B2.out.trans (b3.mono B2.out.size)
      have c := CSR.out w3 _ g m _ (I2.out.kept b3) B3.out
      have D3 : Hid (DC w3 w2.heap.size w2.heap.size (.slice none 0 0) ⟨LO, 0, [], 0⟩) := d3
      have Z3 : Hid (w2.heap.size ≤ w3.heap.size) := b3.size
      clear I2 CSR d3 b3
      go_wp2_with fail
      refine c.mono ?_
      rintro e w4 ⟨v4, rfl, o4, b4⟩
      clear c
      have B4 : Hid (Below w.heap.size w w4) := B3.out.trans (b4.mono B3.out.size)
      have D4 : Hid (DC w4 w2.heap.size w2.heap.size (.slice none 0 0) ⟨LO, 0, [], 0⟩) := D3.out.kept b4
      have Z4 : Hid (w2.heap.size ≤ w4.heap.size) := Nat.le_trans Z3.out b4.size
      have c := CP.out w4 v4 o4.xs B4.out
      clear o4 b4 CP D3 Z3 B3
      go_wp2_with fail
      refine c.mono ?_
      rintro e w5 ⟨v5, rfl, o5, b5⟩
      clear c
      have B5 : Hid (Below w.heap.size w w5) := B4.out.trans (b5.mono B4.out.size)
      have c := CF.out w5 w2.heap.size v5 (D4.out.kept b5) o5.sl B5.out B2.out.size (Nat.le_trans Z4.out b5.size)
      clear o5 b5 CF D4 Z4 B4
      go_wp2_with fail
      refine c.mono ?_
      rintro e w6 ⟨v6, rfl, x6, b6⟩
      clear c
      have B6 : Hid (Below w.heap.size w w6) := b6
      have c := CAP.out w6 v6 x6 b6
      clear x6 b6 CAP B5 B2
      go_wp2_with fail
      refine c.mono ?_
      rintro e w7 ⟨v7, rfl, o7, b7⟩
      clear c
      have B7 : Hid (Below w.heap.size w w7) := B6.out.trans (b7.mono B6.out.size)
      obtain ⟨a7, c7, rfl⟩ := o7.shape
      have cv1 := o7.sl.conv
      have cv2 := (H1.out.1.kept B7.out).conv
      have hbe := strB_beq o7.sl.bytes (H1.out.1.kept B7.out).bytes
      clear o7 b7 B6
      rw [HM5.out] at cv1 ⊢
      clear HM5
      by_cases hZ : makeX o R = b
      · as_aux_lemma =>
          rw [hZ] at cv1
          clear hbe HM6 hZ
          generalize strB b = S at *
          have e8 : (S.toList == S.toList) = true := by simp
          have ca := CA.out w7 B7.out
          go_wp2_with fail
          refine ca.mono ?_
          rintro e wz ⟨rfl, bz⟩
          have BZ : Hid (Below w.heap.size w wz) := B7.out.trans (bz.mono B7.out.size)
          clear ca bz
          go_wp2
          go_ret
          exact ⟨rfl, BZ.out⟩
      · as_aux_lemma =>
          rw [decide_eq_false hZ] at hbe
          rcases HM6.out with he | ⟨A, t, q1, q2, q3, q4⟩
          · exact absurd he hZ
          have HSH : Hid (Sh.Pl.sha (cut o (A * k) k) = Sh.Pl.sha (cut b t k)) := q3
          have HUN : Hid (cut o (A * k) k ≠ cut b t k) := q4
          rw [← HLO.out] at q1
          rw [← HLB.out] at q2
          clear HM6 hZ q3 q4
          obtain ⟨xb, xo, rfl⟩ : ∃ xb xo, a1 = some ⟨xb, xo, none⟩ := by
            obtain ⟨a', c', e', _, _, _, g4⟩ := H1.out.1
            cases e'
            rcases g4 with g4 | ⟨_, b', off', e, _⟩
            · have := HLB.out; omega
            · exact ⟨_, _, e⟩
          have hkA : k ≤ (A + 1) * k := Nat.le_mul_of_pos_left k (by omega)
          obtain ⟨yb, yo, rfl⟩ : ∃ yb yo, a0 = some ⟨yb, yo, none⟩ := by
            obtain ⟨a', c', e', _, _, _, g4⟩ := H0.out.1
            cases e'
            rcases g4 with g4 | ⟨_, b', off', e, _⟩
            · have := HLO.out; omega
            · exact ⟨_, _, e⟩
          have HQ1 : Hid (∀ i, i ≤ A → (i + 1) * k ≤ LO) := fun i hi => Nat.le_trans (Nat.mul_le_mul_right k (by omega)) q1
          clear hkA q1
          generalize strB (makeX o R) = S1 at *
          generalize strB b = S2 at *
          have e8 : (S1.toList == S2.toList) = false := hbe
          have e9 : ((LB : Int) == (LB : Int)) = true := by simp
          go_wp2_with fail
          clear cv1 cv2 hbe e8 e9
          go_loopw [16] (fun q wr => ∃ i U : Nat, i ≤ A ∧ U = i * k ∧ q = .int .i64 (U : Int) ∧ Below w7.heap.size w7 wr) (fun q _ => LO - (intOf q).toNat)
          case atStart => exact ⟨0, 0, by omega, by rw [Nat.zero_mul], rfl, Below.refl _ _⟩
          case round =>
            obtain ⟨i, U, hi, hU, rfl, bel⟩ := hrel
            have HB0 : Hid (Below w7.heap.size w7 wr) := bel
            have hUk : U + k ≤ LO := by
              have := HQ1.out i hi
              rw [Nat.add_mul, Nat.one_mul, ← hU] at this
              exact this
            have HU : Hid (U = i * k) := hU
            have HUN2 : Hid (U + k = (i + 1) * k) := by unfold Hid; rw [Nat.add_mul, Nat.one_mul, ← hU]
            have lt1 : (U : Int) + (k : Int) ≤ (LO : Int) := by omega
            clear bel hU
            go_wp2_with fail
            go_loopw [17] (fun q wr => ∃ j : Nat, j ≤ LB ∧ (i = A → j ≤ t) ∧ q = .int .i64 (j : Int) ∧ Below w7.heap.size w7 wr) (fun q _ => LB + 1 - (intOf q).toNat)
            case atStart => exact ⟨0, Nat.zero_le _, fun _ => Nat.zero_le _, rfl, HB0.out⟩
            case round =>
              obtain ⟨j, hjL, hj, rfl, bel⟩ := hrel
              have HB : Hid (Below w7.heap.size w7 wr) := bel
              have HJ : Hid (i = A → j ≤ t) := hj
              clear bel HB0 hj
              by_cases hjk : j + k ≤ LB
              · have lt2 : (j : Int) + (k : Int) ≤ (LB : Int) := by omega
                have BWR : Hid (Below w.heap.size w wr) := B7.out.trans (HB.out.mono B7.out.size)
                have FS1 : Hid (∀ x, From wr x → Sl x (.slice (some ⟨yb, yo + U, none⟩) k (c0 - U)) (cut o U k)) := fun x hx => ((H0.out.1.kept (BWR.out.trans (Below.mono hx BWR.out.size))).drop U (by omega)).take k (by omega)
                have FS2 : Hid (∀ x, From wr x → Sl x (.slice (some ⟨xb, xo + j, none⟩) k (c1 - j)) (cut b j k)) := fun x hx => ((H1.out.1.kept (BWR.out.trans (Below.mono hx BWR.out.size))).drop j (by omega)).take k (by omega)
                have FC1 : Hid (∀ x, From wr x → (convert 22 9 (.slice (some ⟨yb, yo + U, none⟩) k (c0 - U))).run Tryd.prog x = .ok (.string (strB (cut o U k))) x) := fun x hx => (FS1.out x hx).conv
                have FC2 : Hid (∀ x, From wr x → (convert 22 9 (.slice (some ⟨xb, xo + j, none⟩) k (c1 - j))).run Tryd.prog x = .ok (.string (strB (cut b j k))) x) := fun x hx => (FS2.out x hx).conv
                have FB : Hid (∀ x, From wr x → Below w7.heap.size w7 x) := fun x hx => HB.out.trans (Below.mono hx HB.out.size)
                have hbe := strB_beq (FS1.out wr (Below.refl _ _)).bytes (FS2.out wr (Below.refl _ _)).bytes
                have u0 : (0 : Int) ≤ (U : Int) := by omega
                have u1 : (U : Int) ≤ (U : Int) + (k : Int) := by omega
                have u2 : (U : Int) + (k : Int) ≤ (c0 : Int) := by omega
                have u3 : ((U : Int) + (k : Int)).toNat - U = k := by omega
                have u3' : U + k - U = k := by omega
                have u4 : ¬ c0 = U := by omega
                have u5 : IntKind.i64.wrap ((U : Int) + (k : Int)) = (U : Int) + (k : Int) := by simp [IntKind.wrap, IntKind.bits, IntKind.signed]; omega
                have p0 : (0 : Int) ≤ (j : Int) := by omega
                have p1 : (j : Int) ≤ (j : Int) + (k : Int) := by omega
                have p2 : (j : Int) + (k : Int) ≤ (c1 : Int) := by omega
                have p3 : ((j : Int) + (k : Int)).toNat - j = k := by omega
                have p3' : j + k - j = k := by omega
                have p4 : ¬ c1 = j := by omega
                have p5 : IntKind.i64.wrap ((j : Int) + (k : Int)) = (j : Int) + (k : Int) := by simp [IntKind.wrap, IntKind.bits, IntKind.signed]; omega
                by_cases hX : cut o U k = cut b j k
                · as_aux_lemma =>
                    have HNX : Hid (i = A → j + 1 ≤ t) := fun e => by
                      have h1 := HJ.out e
                      rcases Nat.lt_or_ge j t with h2 | h2
                      · exact h2
                      · obtain rfl : j = t := by omega
                        rw [HU.out, e] at hX
                        exact absurd hX HUN.out
                    rw [hX] at FC1
                    clear hbe hX FS1 FS2 HSH HUN HU HJ
                    generalize strB (cut b j k) = S at *
                    have e8 : (S.toList != S.toList) = false := by simp
                    go_wp2_with fail
                    refine wp_region_held_drew (S := From wr) (by kernel_rfl) ((Below.refl _ _).drew) (fun _ => ?_)
                    refine wpAnyH_on ((Below.refl _ _).drew) (fun u0 hu0 bu0 => ?_)
                    replace FC1 := on FC1 bu0
                    replace FC2 := on FC2 bu0
                    replace FB := on FB bu0
                    refine wpAnyH_take (i := 0) (oi := { dst := some 102, op := Op.move (Operand.tmp 0), type := 22, pos := "own.go:74", after := #[], guard := none }) (v := ?vs1) rfl (by kernel_rfl) (by kernel_rfl) (by kernel_rfl) (fun _ _ _ h => h) (Or.inl ⟨by rfl, ?ys1⟩) (Below.refl _ _) ?rs1
                    case ys1 => (intro w hSw; go_simp; try with_reducible rfl)
                    try simp only [Act.put, List.setIfInBounds_toArray, List.set_cons_zero, List.set_cons_succ]
                    refine wpAnyH_take (i := 1) (oi := { dst := some 103, op := Op.move (Operand.tmp 16), type := 3, pos := "own.go:74", after := #[], guard := none }) (v := ?vs2) rfl (by kernel_rfl) (by kernel_rfl) (by kernel_rfl) (fun _ _ _ h => h) (Or.inl ⟨by rfl, ?ys2⟩) (Below.refl _ _) ?rs2
                    case ys2 => (intro w hSw; go_simp; try with_reducible rfl)
                    try simp only [Act.put, List.setIfInBounds_toArray, List.set_cons_zero, List.set_cons_succ]
                    refine wpAnyH_take (i := 2) (oi := { dst := some 104, op := Op.move (Operand.tmp 16), type := 3, pos := "own.go:74", after := #[], guard := none }) (v := ?vs3) rfl (by kernel_rfl) (by kernel_rfl) (by kernel_rfl) (fun _ _ _ h => h) (Or.inl ⟨by rfl, ?ys3⟩) (Below.refl _ _) ?rs3
                    case ys3 => (intro w hSw; go_simp; try with_reducible rfl)
                    try simp only [Act.put, List.setIfInBounds_toArray, List.set_cons_zero, List.set_cons_succ]
                    refine wpAnyH_take (i := 3) (oi := { dst := some 105, op := Op.move (Operand.tmp 7), type := 3, pos := "own.go:74", after := #[], guard := none }) (v := ?vs4) rfl (by kernel_rfl) (by kernel_rfl) (by kernel_rfl) (fun _ _ _ h => h) (Or.inl ⟨by rfl, ?ys4⟩) (Below.refl _ _) ?rs4
                    case ys4 => (intro w hSw; go_simp; try with_reducible rfl)
                    try simp only [Act.put, List.setIfInBounds_toArray, List.set_cons_zero, List.set_cons_succ]
                    refine wpAnyH_take (i := 4) (oi := { dst := some 106, op := Op.binOp BinOp.add 3 (Operand.tmp 104) (Operand.tmp 105) 3, type := 3, pos := "own.go:74", after := #[{ on := 2, ground := Ground.data }, { on := 3, ground := Ground.data }], guard := none }) (v := .int .i64 ((U : Int) + (k : Int))) rfl (by kernel_rfl) (by kernel_rfl) (by kernel_rfl) (fun _ _ _ h => h) (Or.inl ⟨by rfl, ?ys5⟩) (Below.refl _ _) ?rs5
                    case ys5 => (intro w hSw; go_simp; try with_reducible rfl)
                    try simp only [Act.put, List.setIfInBounds_toArray, List.set_cons_zero, List.set_cons_succ]
                    refine wpAnyH_take (i := 5) (oi := { dst := some 107, op := Op.slice 22 (Operand.tmp 102) (some (Operand.tmp 103)) (some (Operand.tmp 106)) none, type := 22, pos := "own.go:74", after := #[{ on := 0, ground := Ground.data }, { on := 1, ground := Ground.data }, { on := 4, ground := Ground.data }], guard := none }) (v := .slice (some ⟨yb, yo + U, none⟩) k (c0 - U)) rfl (by kernel_rfl) (by kernel_rfl) (by kernel_rfl) (fun _ _ _ h => h) (Or.inl ⟨by rfl, ?ys6⟩) (Below.refl _ _) ?rs6
                    case ys6 => (intro w hSw; go_simp; try with_reducible rfl)
                    try simp only [Act.put, List.setIfInBounds_toArray, List.set_cons_zero, List.set_cons_succ]
                    refine wpAnyH_take (i := 6) (oi := { dst := some 108, op := Op.convert 22 9 (Operand.tmp 107), type := 9, pos := "own.go:74", after := #[{ on := 5, ground := Ground.data }], guard := none }) (v := .string S) rfl (by kernel_rfl) (by kernel_rfl) (by kernel_rfl) (fun _ _ _ h => h) (Or.inl ⟨by rfl, ?ys7⟩) (Below.refl _ _) ?rs7
                    case ys7 => (intro w hSw; have t0 := FC1.out w hSw; go_simp; try with_reducible rfl)
                    try simp only [Act.put, List.setIfInBounds_toArray, List.set_cons_zero, List.set_cons_succ]
                    refine wpAnyH_take (i := 7) (oi := { dst := some 109, op := Op.move (Operand.tmp 1), type := 22, pos := "own.go:74", after := #[], guard := none }) (v := ?vs8) rfl (by kernel_rfl) (by kernel_rfl) (by kernel_rfl) (fun _ _ _ h => h) (Or.inl ⟨by rfl, ?ys8⟩) (Below.refl _ _) ?rs8
                    case ys8 => (intro w hSw; go_simp; try with_reducible rfl)
                    try simp only [Act.put, List.setIfInBounds_toArray, List.set_cons_zero, List.set_cons_succ]
                    refine wpAnyH_take (i := 8) (oi := { dst := some 110, op := Op.move (Operand.tmp 17), type := 3, pos := "own.go:74", after := #[], guard := none }) (v := ?vs9) rfl (by kernel_rfl) (by kernel_rfl) (by kernel_rfl) (fun _ _ _ h => h) (Or.inl ⟨by rfl, ?ys9⟩) (Below.refl _ _) ?rs9
                    case ys9 => (intro w hSw; go_simp; try with_reducible rfl)
                    try simp only [Act.put, List.setIfInBounds_toArray, List.set_cons_zero, List.set_cons_succ]
                    refine wpAnyH_take (i := 9) (oi := { dst := some 111, op := Op.move (Operand.tmp 17), type := 3, pos := "own.go:74", after := #[], guard := none }) (v := ?vs10) rfl (by kernel_rfl) (by kernel_rfl) (by kernel_rfl) (fun _ _ _ h => h) (Or.inl ⟨by rfl, ?ys10⟩) (Below.refl _ _) ?rs10
                    case ys10 => (intro w hSw; go_simp; try with_reducible rfl)
                    try simp only [Act.put, List.setIfInBounds_toArray, List.set_cons_zero, List.set_cons_succ]
                    refine wpAnyH_take (i := 10) (oi := { dst := some 112, op := Op.move (Operand.tmp 7), type := 3, pos := "own.go:74", after := #[], guard := none }) (v := ?vs11) rfl (by kernel_rfl) (by kernel_rfl) (by kernel_rfl) (fun _ _ _ h => h) (Or.inl ⟨by rfl, ?ys11⟩) (Below.refl _ _) ?rs11
                    case ys11 => (intro w hSw; go_simp; try with_reducible rfl)
                    try simp only [Act.put, List.setIfInBounds_toArray, List.set_cons_zero, List.set_cons_succ]
                    refine wpAnyH_take (i := 11) (oi := { dst := some 113, op := Op.binOp BinOp.add 3 (Operand.tmp 111) (Operand.tmp 112) 3, type := 3, pos := "own.go:74", after := #[{ on := 9, ground := Ground.data }, { on := 10, ground := Ground.data }], guard := none }) (v := .int .i64 ((j : Int) + (k : Int))) rfl (by kernel_rfl) (by kernel_rfl) (by kernel_rfl) (fun _ _ _ h => h) (Or.inl ⟨by rfl, ?ys12⟩) (Below.refl _ _) ?rs12
                    case ys12 => (intro w hSw; go_simp; try with_reducible rfl)
                    try simp only [Act.put, List.setIfInBounds_toArray, List.set_cons_zero, List.set_cons_succ]
                    refine wpAnyH_take (i := 12) (oi := { dst := some 114, op := Op.slice 22 (Operand.tmp 109) (some (Operand.tmp 110)) (some (Operand.tmp 113)) none, type := 22, pos := "own.go:74", after := #[{ on := 7, ground := Ground.data }, { on := 8, ground := Ground.data }, { on := 11, ground := Ground.data }], guard := none }) (v := .slice (some ⟨xb, xo + j, none⟩) k (c1 - j)) rfl (by kernel_rfl) (by kernel_rfl) (by kernel_rfl) (fun _ _ _ h => h) (Or.inl ⟨by rfl, ?ys13⟩) (Below.refl _ _) ?rs13
                    case ys13 => (intro w hSw; go_simp; try with_reducible rfl)
                    try simp only [Act.put, List.setIfInBounds_toArray, List.set_cons_zero, List.set_cons_succ]
                    refine wpAnyH_take (i := 13) (oi := { dst := some 115, op := Op.convert 22 9 (Operand.tmp 114), type := 9, pos := "own.go:74", after := #[{ on := 12, ground := Ground.data }], guard := none }) (v := .string S) rfl (by kernel_rfl) (by kernel_rfl) (by kernel_rfl) (fun _ _ _ h => h) (Or.inl ⟨by rfl, ?ys14⟩) (Below.refl _ _) ?rs14
                    case ys14 => (intro w hSw; have t0 := FC2.out w hSw; go_simp; try with_reducible rfl)
                    try simp only [Act.put, List.setIfInBounds_toArray, List.set_cons_zero, List.set_cons_succ]
                    refine wpAnyH_take (i := 14) (oi := { dst := some 116, op := Op.binOp BinOp.neq 9 (Operand.tmp 108) (Operand.tmp 115) 9, type := 4, pos := "own.go:74", after := #[{ on := 6, ground := Ground.data }, { on := 13, ground := Ground.data }], guard := none }) (v := .bool false) rfl (by kernel_rfl) (by kernel_rfl) (by kernel_rfl) (fun _ _ _ h => h) (Or.inl ⟨by rfl, ?ys15⟩) (Below.refl _ _) ?rs15
                    case ys15 => (intro w hSw; go_simp; try with_reducible rfl)
                    try simp only [Act.put, List.setIfInBounds_toArray, List.set_cons_zero, List.set_cons_succ]
                    refine wpAnyH_take (i := 15) (oi := { dst := some 117, op := Op.move (Operand.tmp 116), type := 4, pos := "own.go:74", after := #[{ on := 14, ground := Ground.data }], guard := none }) (v := .bool false) rfl (by kernel_rfl) (by kernel_rfl) (by kernel_rfl) (fun _ _ _ h => h) (Or.inl ⟨by rfl, ?ys16⟩) (Below.refl _ _) ?rs16
                    case ys16 => (intro w hSw; go_simp; try with_reducible rfl)
                    try simp only [Act.put, List.setIfInBounds_toArray, List.set_cons_zero, List.set_cons_succ]
                    refine wpAnyH_take (i := 16) (oi := { dst := some 118, op := Op.move (Operand.tmp 0), type := 22, pos := "own.go:74", after := #[{ on := 15, ground := Ground.guard }], guard := some (15, true) }) (v := undef) rfl (by kernel_rfl) (by kernel_rfl) (by kernel_rfl) (fun _ _ _ h => h) (Or.inr ⟨by rfl, rfl⟩) (Below.refl _ _) ?_
                    try simp only [Act.put, List.setIfInBounds_toArray, List.set_cons_zero, List.set_cons_succ]
                    refine wpAnyH_take (i := 17) (oi := { dst := some 119, op := Op.move (Operand.tmp 16), type := 3, pos := "own.go:74", after := #[{ on := 15, ground := Ground.guard }], guard := some (15, true) }) (v := undef) rfl (by kernel_rfl) (by kernel_rfl) (by kernel_rfl) (fun _ _ _ h => h) (Or.inr ⟨by rfl, rfl⟩) (Below.refl _ _) ?_
                    try simp only [Act.put, List.setIfInBounds_toArray, List.set_cons_zero, List.set_cons_succ]
                    refine wpAnyH_take (i := 18) (oi := { dst := some 120, op := Op.move (Operand.tmp 16), type := 3, pos := "own.go:74", after := #[{ on := 15, ground := Ground.guard }], guard := some (15, true) }) (v := undef) rfl (by kernel_rfl) (by kernel_rfl) (by kernel_rfl) (fun _ _ _ h => h) (Or.inr ⟨by rfl, rfl⟩) (Below.refl _ _) ?_
                    try simp only [Act.put, List.setIfInBounds_toArray, List.set_cons_zero, List.set_cons_succ]
                    refine wpAnyH_take (i := 19) (oi := { dst := some 121, op := Op.move (Operand.tmp 7), type := 3, pos := "own.go:74", after := #[{ on := 15, ground := Ground.guard }], guard := some (15, true) }) (v := undef) rfl (by kernel_rfl) (by kernel_rfl) (by kernel_rfl) (fun _ _ _ h => h) (Or.inr ⟨by rfl, rfl⟩) (Below.refl _ _) ?_
                    try simp only [Act.put, List.setIfInBounds_toArray, List.set_cons_zero, List.set_cons_succ]
                    refine wpAnyH_take (i := 20) (oi := { dst := some 122, op := Op.binOp BinOp.add 3 (Operand.tmp 120) (Operand.tmp 121) 3, type := 3, pos := "own.go:74", after := #[{ on := 18, ground := Ground.data }, { on := 19, ground := Ground.data }, { on := 15, ground := Ground.guard }], guard := some (15, true) }) (v := undef) rfl (by kernel_rfl) (by kernel_rfl) (by kernel_rfl) (fun _ _ _ h => h) (Or.inr ⟨by rfl, rfl⟩) (Below.refl _ _) ?_
                    try simp only [Act.put, List.setIfInBounds_toArray, List.set_cons_zero, List.set_cons_succ]
                    refine wpAnyH_take (i := 21) (oi := { dst := some 123, op := Op.slice 22 (Operand.tmp 118) (some (Operand.tmp 119)) (some (Operand.tmp 122)) none, type := 22, pos := "own.go:74", after := #[{ on := 16, ground := Ground.data }, { on := 17, ground := Ground.data }, { on := 20, ground := Ground.data }, { on := 15, ground := Ground.guard }], guard := some (15, true) }) (v := undef) rfl (by kernel_rfl) (by kernel_rfl) (by kernel_rfl) (fun _ _ _ h => h) (Or.inr ⟨by rfl, rfl⟩) (Below.refl _ _) ?_
                    try simp only [Act.put, List.setIfInBounds_toArray, List.set_cons_zero, List.set_cons_succ]
                    refine wpAnyH_take (i := 22) (oi := { dst := some 124, op := Op.buildSlice 33 1 #[(0, Operand.tmp 123)], type := 33, pos := "own.go:74", after := #[{ on := 21, ground := Ground.data }, { on := 15, ground := Ground.guard }], guard := some (15, true) }) (v := undef) rfl (by kernel_rfl) (by kernel_rfl) (by kernel_rfl) (fun _ _ _ h => h) (Or.inr ⟨by rfl, rfl⟩) (Below.refl _ _) ?_
                    try simp only [Act.put, List.setIfInBounds_toArray, List.set_cons_zero, List.set_cons_succ]
                    refine wpAnyH_take (i := 23) (oi := { dst := some 125, op := Op.call { callee := Callee.value (Operand.func 27), args := #[Operand.tmp 124], argTypes := #[33] }, type := 59, pos := "own.go:74", after := #[{ on := 22, ground := Ground.data }, { on := 15, ground := Ground.chain }, { on := 15, ground := Ground.guard }], guard := some (15, true) }) (v := undef) rfl (by kernel_rfl) (by kernel_rfl) (by kernel_rfl) (fun _ _ _ h => h) (Or.inr ⟨by rfl, rfl⟩) (Below.refl _ _) ?_
                    try simp only [Act.put, List.setIfInBounds_toArray, List.set_cons_zero, List.set_cons_succ]
                    refine wpAnyH_take (i := 24) (oi := { dst := some 126, op := Op.move (Operand.tmp 1), type := 22, pos := "own.go:74", after := #[{ on := 15, ground := Ground.guard }], guard := some (15, true) }) (v := undef) rfl (by kernel_rfl) (by kernel_rfl) (by kernel_rfl) (fun _ _ _ h => h) (Or.inr ⟨by rfl, rfl⟩) (Below.refl _ _) ?_
                    try simp only [Act.put, List.setIfInBounds_toArray, List.set_cons_zero, List.set_cons_succ]
                    refine wpAnyH_take (i := 25) (oi := { dst := some 127, op := Op.move (Operand.tmp 17), type := 3, pos := "own.go:74", after := #[{ on := 15, ground := Ground.guard }], guard := some (15, true) }) (v := undef) rfl (by kernel_rfl) (by kernel_rfl) (by kernel_rfl) (fun _ _ _ h => h) (Or.inr ⟨by rfl, rfl⟩) (Below.refl _ _) ?_
                    try simp only [Act.put, List.setIfInBounds_toArray, List.set_cons_zero, List.set_cons_succ]
                    refine wpAnyH_take (i := 26) (oi := { dst := some 128, op := Op.move (Operand.tmp 17), type := 3, pos := "own.go:74", after := #[{ on := 15, ground := Ground.guard }], guard := some (15, true) }) (v := undef) rfl (by kernel_rfl) (by kernel_rfl) (by kernel_rfl) (fun _ _ _ h => h) (Or.inr ⟨by rfl, rfl⟩) (Below.refl _ _) ?_
                    try simp only [Act.put, List.setIfInBounds_toArray, List.set_cons_zero, List.set_cons_succ]
                    refine wpAnyH_take (i := 27) (oi := { dst := some 129, op := Op.move (Operand.tmp 7), type := 3, pos := "own.go:74", after := #[{ on := 15, ground := Ground.guard }], guard := some (15, true) }) (v := undef) rfl (by kernel_rfl) (by kernel_rfl) (by kernel_rfl) (fun _ _ _ h => h) (Or.inr ⟨by rfl, rfl⟩) (Below.refl _ _) ?_
                    try simp only [Act.put, List.setIfInBounds_toArray, List.set_cons_zero, List.set_cons_succ]
                    refine wpAnyH_take (i := 28) (oi := { dst := some 130, op := Op.binOp BinOp.add 3 (Operand.tmp 128) (Operand.tmp 129) 3, type := 3, pos := "own.go:74", after := #[{ on := 26, ground := Ground.data }, { on := 27, ground := Ground.data }, { on := 15, ground := Ground.guard }], guard := some (15, true) }) (v := undef) rfl (by kernel_rfl) (by kernel_rfl) (by kernel_rfl) (fun _ _ _ h => h) (Or.inr ⟨by rfl, rfl⟩) (Below.refl _ _) ?_
                    try simp only [Act.put, List.setIfInBounds_toArray, List.set_cons_zero, List.set_cons_succ]
                    refine wpAnyH_take (i := 29) (oi := { dst := some 131, op := Op.slice 22 (Operand.tmp 126) (some (Operand.tmp 127)) (some (Operand.tmp 130)) none, type := 22, pos := "own.go:74", after := #[{ on := 24, ground := Ground.data }, { on := 25, ground := Ground.data }, { on := 28, ground := Ground.data }, { on := 15, ground := Ground.guard }], guard := some (15, true) }) (v := undef) rfl (by kernel_rfl) (by kernel_rfl) (by kernel_rfl) (fun _ _ _ h => h) (Or.inr ⟨by rfl, rfl⟩) (Below.refl _ _) ?_
                    try simp only [Act.put, List.setIfInBounds_toArray, List.set_cons_zero, List.set_cons_succ]
                    refine wpAnyH_take (i := 30) (oi := { dst := some 132, op := Op.buildSlice 33 1 #[(0, Operand.tmp 131)], type := 33, pos := "own.go:74", after := #[{ on := 29, ground := Ground.data }, { on := 15, ground := Ground.guard }], guard := some (15, true) }) (v := undef) rfl (by kernel_rfl) (by kernel_rfl) (by kernel_rfl) (fun _ _ _ h => h) (Or.inr ⟨by rfl, rfl⟩) (Below.refl _ _) ?_
                    try simp only [Act.put, List.setIfInBounds_toArray, List.set_cons_zero, List.set_cons_succ]
                    refine wpAnyH_take (i := 31) (oi := { dst := some 133, op := Op.call { callee := Callee.value (Operand.func 27), args := #[Operand.tmp 132], argTypes := #[33] }, type := 59, pos := "own.go:74", after := #[{ on := 30, ground := Ground.data }, { on := 23, ground := Ground.chain }, { on := 15, ground := Ground.guard }], guard := some (15, true) }) (v := undef) rfl (by kernel_rfl) (by kernel_rfl) (by kernel_rfl) (fun _ _ _ h => h) (Or.inr ⟨by rfl, rfl⟩) (Below.refl _ _) ?_
                    try simp only [Act.put, List.setIfInBounds_toArray, List.set_cons_zero, List.set_cons_succ]
                    refine wpAnyH_take (i := 32) (oi := { dst := some 134, op := Op.binOp BinOp.eql 59 (Operand.tmp 125) (Operand.tmp 133) 59, type := 4, pos := "own.go:74", after := #[{ on := 23, ground := Ground.data }, { on := 31, ground := Ground.data }, { on := 15, ground := Ground.guard }], guard := some (15, true) }) (v := undef) rfl (by kernel_rfl) (by kernel_rfl) (by kernel_rfl) (fun _ _ _ h => h) (Or.inr ⟨by rfl, rfl⟩) (Below.refl _ _) ?_
                    try simp only [Act.put, List.setIfInBounds_toArray, List.set_cons_zero, List.set_cons_succ]
                    refine wpAnyH_take (i := 33) (oi := { dst := some 135, op := Op.pick (Operand.tmp 117) (Operand.tmp 134) (Operand.const (Value.bool false)), type := 4, pos := "own.go:74", after := #[{ on := 15, ground := Ground.data }, { on := 32, ground := Ground.data }], guard := none }) (v := .bool false) rfl (by kernel_rfl) (by kernel_rfl) (by kernel_rfl) (fun _ _ _ h => h) (Or.inl ⟨by rfl, ?ys34⟩) (Below.refl _ _) ?rs34
                    case ys34 => (intro w hSw; go_simp; try with_reducible rfl)
                    try simp only [Act.put, List.setIfInBounds_toArray, List.set_cons_zero, List.set_cons_succ]
                    refine wpAnyH_done (by kernel_rfl) ?_ _
                    have B9 : Hid (Below w7.heap.size w7 u0) := FB.out _ (Below.refl _ _)
                    clear FC1 FC2 FB
                    go_wp2
                    go_roundw
                    case rel => exact ⟨j + 1, by omega, HNX.out, by go_num, B9.out⟩
                    case measure => simp [intOf]; omega
                · as_aux_lemma =>
                    rw [decide_eq_false hX] at hbe
                    have FT : Hid (∀ x, From wr x → Sh.Tab x) := fun x hx => Ta.kept HW.out.1 (BWR.out.trans (Below.mono hx BWR.out.size))
                    have hl1 : (cut o U k).length = k := cut_len o U k (by rw [← HLO.out]; exact hUk)
                    have hl2 : (cut b j k).length = k := cut_len b j k (by rw [← HLB.out]; exact hjk)
                    have CO1 : Hid (∀ x g, Sh.Tab x → Sh.Parts x (some ⟨g, 0, none⟩) [cut o U k] → Calls Tryd.prog 27 #[.slice (some ⟨g, 0, none⟩) 1 1] x fun e w' => e = .returned (.agg (u8c (Sh.Pl.sha (cut o U k)))) ∧ Below x.heap.size x w') := fun x g hT hP => of1 _ x g hT hP (by omega)
                    have CO2 : Hid (∀ x g, Sh.Tab x → Sh.Parts x (some ⟨g, 0, none⟩) [cut b j k] → Calls Tryd.prog 27 #[.slice (some ⟨g, 0, none⟩) 1 1] x fun e w' => e = .returned (.agg (u8c (Sh.Pl.sha (cut b j k)))) ∧ Below x.heap.size x w') := fun x g hT hP => of1 _ x g hT hP (by omega)
                    have E1 : Hid (∀ W, (binOp BinOp.eql 59 (.agg (u8c (Sh.Pl.sha (cut o U k)))) (.agg (u8c (Sh.Pl.sha (cut b j k))))).run Tryd.prog W = .ok (.bool (Sh.Pl.sha (cut o U k) == Sh.Pl.sha (cut b j k))) W) := fun W => eqH_run _ _ (Sh.sha_len _) (Sh.sha_len _) W
                    by_cases hS : Sh.Pl.sha (cut o U k) = Sh.Pl.sha (cut b j k)
                    · rw [show (Sh.Pl.sha (cut o U k) == Sh.Pl.sha (cut b j k)) = true by simp [hS]] at E1
                      clear hX hS hl1 hl2 HSH HUN HU HJ
                      generalize Sh.Pl.sha (cut o U k) = D1 at *
                      generalize Sh.Pl.sha (cut b j k) = D2 at *
                      generalize strB (cut o U k) = S1 at *
                      generalize strB (cut b j k) = S2 at *
                      generalize cut o U k = X1 at *
                      generalize cut b j k = X2 at *
                      have e8 : (S1.toList != S2.toList) = true := by simp [bne, hbe]
                      have e7 : ¬ S1.toList = S2.toList := by simpa using hbe
                      clear hbe
                      go_wp2_with fail
                      refine wp_region_held_drew (S := From wr) (by kernel_rfl) ((Below.refl _ _).drew) (fun _ => ?_)
                      refine wpAnyH_on ((Below.refl _ _).drew) (fun u0 hu0 bu0 => ?_)
                      replace FC1 := on FC1 bu0
                      replace FC2 := on FC2 bu0
                      replace FS1 := on FS1 bu0
                      replace FS2 := on FS2 bu0
                      replace FT := on FT bu0
                      replace FB := on FB bu0
                      refine wpAnyH_take (i := 0) (oi := { dst := some 102, op := Op.move (Operand.tmp 0), type := 22, pos := "own.go:74", after := #[], guard := none }) (v := ?vh1) rfl (by kernel_rfl) (by kernel_rfl) (by kernel_rfl) (fun _ _ _ h => h) (Or.inl ⟨by rfl, ?yh1⟩) (Below.refl _ _) ?rh1
                      case yh1 => (intro w hSw; go_simp; try with_reducible rfl)
                      try simp only [Act.put, List.setIfInBounds_toArray, List.set_cons_zero, List.set_cons_succ]
                      refine wpAnyH_take (i := 1) (oi := { dst := some 103, op := Op.move (Operand.tmp 16), type := 3, pos := "own.go:74", after := #[], guard := none }) (v := ?vh2) rfl (by kernel_rfl) (by kernel_rfl) (by kernel_rfl) (fun _ _ _ h => h) (Or.inl ⟨by rfl, ?yh2⟩) (Below.refl _ _) ?rh2
                      case yh2 => (intro w hSw; go_simp; try with_reducible rfl)
                      try simp only [Act.put, List.setIfInBounds_toArray, List.set_cons_zero, List.set_cons_succ]
                      refine wpAnyH_take (i := 2) (oi := { dst := some 104, op := Op.move (Operand.tmp 16), type := 3, pos := "own.go:74", after := #[], guard := none }) (v := ?vh3) rfl (by kernel_rfl) (by kernel_rfl) (by kernel_rfl) (fun _ _ _ h => h) (Or.inl ⟨by rfl, ?yh3⟩) (Below.refl _ _) ?rh3
                      case yh3 => (intro w hSw; go_simp; try with_reducible rfl)
                      try simp only [Act.put, List.setIfInBounds_toArray, List.set_cons_zero, List.set_cons_succ]
                      refine wpAnyH_take (i := 3) (oi := { dst := some 105, op := Op.move (Operand.tmp 7), type := 3, pos := "own.go:74", after := #[], guard := none }) (v := ?vh4) rfl (by kernel_rfl) (by kernel_rfl) (by kernel_rfl) (fun _ _ _ h => h) (Or.inl ⟨by rfl, ?yh4⟩) (Below.refl _ _) ?rh4
                      case yh4 => (intro w hSw; go_simp; try with_reducible rfl)
                      try simp only [Act.put, List.setIfInBounds_toArray, List.set_cons_zero, List.set_cons_succ]
                      refine wpAnyH_take (i := 4) (oi := { dst := some 106, op := Op.binOp BinOp.add 3 (Operand.tmp 104) (Operand.tmp 105) 3, type := 3, pos := "own.go:74", after := #[{ on := 2, ground := Ground.data }, { on := 3, ground := Ground.data }], guard := none }) (v := .int .i64 ((U : Int) + (k : Int))) rfl (by kernel_rfl) (by kernel_rfl) (by kernel_rfl) (fun _ _ _ h => h) (Or.inl ⟨by rfl, ?yh5⟩) (Below.refl _ _) ?rh5
                      case yh5 => (intro w hSw; go_simp; try with_reducible rfl)
                      try simp only [Act.put, List.setIfInBounds_toArray, List.set_cons_zero, List.set_cons_succ]
                      refine wpAnyH_take (i := 5) (oi := { dst := some 107, op := Op.slice 22 (Operand.tmp 102) (some (Operand.tmp 103)) (some (Operand.tmp 106)) none, type := 22, pos := "own.go:74", after := #[{ on := 0, ground := Ground.data }, { on := 1, ground := Ground.data }, { on := 4, ground := Ground.data }], guard := none }) (v := .slice (some ⟨yb, yo + U, none⟩) k (c0 - U)) rfl (by kernel_rfl) (by kernel_rfl) (by kernel_rfl) (fun _ _ _ h => h) (Or.inl ⟨by rfl, ?yh6⟩) (Below.refl _ _) ?rh6
                      case yh6 => (intro w hSw; go_simp; try with_reducible rfl)
                      try simp only [Act.put, List.setIfInBounds_toArray, List.set_cons_zero, List.set_cons_succ]
                      refine wpAnyH_take (i := 6) (oi := { dst := some 108, op := Op.convert 22 9 (Operand.tmp 107), type := 9, pos := "own.go:74", after := #[{ on := 5, ground := Ground.data }], guard := none }) (v := .string S1) rfl (by kernel_rfl) (by kernel_rfl) (by kernel_rfl) (fun _ _ _ h => h) (Or.inl ⟨by rfl, ?yh7⟩) (Below.refl _ _) ?rh7
                      case yh7 => (intro w hSw; have t0 := FC1.out w hSw; go_simp; try with_reducible rfl)
                      try simp only [Act.put, List.setIfInBounds_toArray, List.set_cons_zero, List.set_cons_succ]
                      refine wpAnyH_take (i := 7) (oi := { dst := some 109, op := Op.move (Operand.tmp 1), type := 22, pos := "own.go:74", after := #[], guard := none }) (v := ?vh8) rfl (by kernel_rfl) (by kernel_rfl) (by kernel_rfl) (fun _ _ _ h => h) (Or.inl ⟨by rfl, ?yh8⟩) (Below.refl _ _) ?rh8
                      case yh8 => (intro w hSw; go_simp; try with_reducible rfl)
                      try simp only [Act.put, List.setIfInBounds_toArray, List.set_cons_zero, List.set_cons_succ]
                      refine wpAnyH_take (i := 8) (oi := { dst := some 110, op := Op.move (Operand.tmp 17), type := 3, pos := "own.go:74", after := #[], guard := none }) (v := ?vh9) rfl (by kernel_rfl) (by kernel_rfl) (by kernel_rfl) (fun _ _ _ h => h) (Or.inl ⟨by rfl, ?yh9⟩) (Below.refl _ _) ?rh9
                      case yh9 => (intro w hSw; go_simp; try with_reducible rfl)
                      try simp only [Act.put, List.setIfInBounds_toArray, List.set_cons_zero, List.set_cons_succ]
                      refine wpAnyH_take (i := 9) (oi := { dst := some 111, op := Op.move (Operand.tmp 17), type := 3, pos := "own.go:74", after := #[], guard := none }) (v := ?vh10) rfl (by kernel_rfl) (by kernel_rfl) (by kernel_rfl) (fun _ _ _ h => h) (Or.inl ⟨by rfl, ?yh10⟩) (Below.refl _ _) ?rh10
                      case yh10 => (intro w hSw; go_simp; try with_reducible rfl)
                      try simp only [Act.put, List.setIfInBounds_toArray, List.set_cons_zero, List.set_cons_succ]
                      refine wpAnyH_take (i := 10) (oi := { dst := some 112, op := Op.move (Operand.tmp 7), type := 3, pos := "own.go:74", after := #[], guard := none }) (v := ?vh11) rfl (by kernel_rfl) (by kernel_rfl) (by kernel_rfl) (fun _ _ _ h => h) (Or.inl ⟨by rfl, ?yh11⟩) (Below.refl _ _) ?rh11
                      case yh11 => (intro w hSw; go_simp; try with_reducible rfl)
                      try simp only [Act.put, List.setIfInBounds_toArray, List.set_cons_zero, List.set_cons_succ]
                      refine wpAnyH_take (i := 11) (oi := { dst := some 113, op := Op.binOp BinOp.add 3 (Operand.tmp 111) (Operand.tmp 112) 3, type := 3, pos := "own.go:74", after := #[{ on := 9, ground := Ground.data }, { on := 10, ground := Ground.data }], guard := none }) (v := .int .i64 ((j : Int) + (k : Int))) rfl (by kernel_rfl) (by kernel_rfl) (by kernel_rfl) (fun _ _ _ h => h) (Or.inl ⟨by rfl, ?yh12⟩) (Below.refl _ _) ?rh12
                      case yh12 => (intro w hSw; go_simp; try with_reducible rfl)
                      try simp only [Act.put, List.setIfInBounds_toArray, List.set_cons_zero, List.set_cons_succ]
                      refine wpAnyH_take (i := 12) (oi := { dst := some 114, op := Op.slice 22 (Operand.tmp 109) (some (Operand.tmp 110)) (some (Operand.tmp 113)) none, type := 22, pos := "own.go:74", after := #[{ on := 7, ground := Ground.data }, { on := 8, ground := Ground.data }, { on := 11, ground := Ground.data }], guard := none }) (v := .slice (some ⟨xb, xo + j, none⟩) k (c1 - j)) rfl (by kernel_rfl) (by kernel_rfl) (by kernel_rfl) (fun _ _ _ h => h) (Or.inl ⟨by rfl, ?yh13⟩) (Below.refl _ _) ?rh13
                      case yh13 => (intro w hSw; go_simp; try with_reducible rfl)
                      try simp only [Act.put, List.setIfInBounds_toArray, List.set_cons_zero, List.set_cons_succ]
                      refine wpAnyH_take (i := 13) (oi := { dst := some 115, op := Op.convert 22 9 (Operand.tmp 114), type := 9, pos := "own.go:74", after := #[{ on := 12, ground := Ground.data }], guard := none }) (v := .string S2) rfl (by kernel_rfl) (by kernel_rfl) (by kernel_rfl) (fun _ _ _ h => h) (Or.inl ⟨by rfl, ?yh14⟩) (Below.refl _ _) ?rh14
                      case yh14 => (intro w hSw; have t0 := FC2.out w hSw; go_simp; try with_reducible rfl)
                      try simp only [Act.put, List.setIfInBounds_toArray, List.set_cons_zero, List.set_cons_succ]
                      refine wpAnyH_take (i := 14) (oi := { dst := some 116, op := Op.binOp BinOp.neq 9 (Operand.tmp 108) (Operand.tmp 115) 9, type := 4, pos := "own.go:74", after := #[{ on := 6, ground := Ground.data }, { on := 13, ground := Ground.data }], guard := none }) (v := .bool true) rfl (by kernel_rfl) (by kernel_rfl) (by kernel_rfl) (fun _ _ _ h => h) (Or.inl ⟨by rfl, ?yh15⟩) (Below.refl _ _) ?rh15
                      case yh15 => (intro w hSw; go_simp; try exact e7; try with_reducible rfl)
                      try simp only [Act.put, List.setIfInBounds_toArray, List.set_cons_zero, List.set_cons_succ]
                      refine wpAnyH_take (i := 15) (oi := { dst := some 117, op := Op.move (Operand.tmp 116), type := 4, pos := "own.go:74", after := #[{ on := 14, ground := Ground.data }], guard := none }) (v := .bool true) rfl (by kernel_rfl) (by kernel_rfl) (by kernel_rfl) (fun _ _ _ h => h) (Or.inl ⟨by rfl, ?yh16⟩) (Below.refl _ _) ?rh16
                      case yh16 => (intro w hSw; go_simp; try with_reducible rfl)
                      try simp only [Act.put, List.setIfInBounds_toArray, List.set_cons_zero, List.set_cons_succ]
                      refine wpAnyH_take (i := 16) (oi := { dst := some 118, op := Op.move (Operand.tmp 0), type := 22, pos := "own.go:74", after := #[{ on := 15, ground := Ground.guard }], guard := some (15, true) }) (v := ?vh17) rfl (by kernel_rfl) (by kernel_rfl) (by kernel_rfl) (fun _ _ _ h => h) (Or.inl ⟨by rfl, ?yh17⟩) (Below.refl _ _) ?rh17
                      case yh17 => (intro w hSw; go_simp; try with_reducible rfl)
                      try simp only [Act.put, List.setIfInBounds_toArray, List.set_cons_zero, List.set_cons_succ]
                      refine wpAnyH_take (i := 17) (oi := { dst := some 119, op := Op.move (Operand.tmp 16), type := 3, pos := "own.go:74", after := #[{ on := 15, ground := Ground.guard }], guard := some (15, true) }) (v := ?vh18) rfl (by kernel_rfl) (by kernel_rfl) (by kernel_rfl) (fun _ _ _ h => h) (Or.inl ⟨by rfl, ?yh18⟩) (Below.refl _ _) ?rh18
                      case yh18 => (intro w hSw; go_simp; try with_reducible rfl)
                      try simp only [Act.put, List.setIfInBounds_toArray, List.set_cons_zero, List.set_cons_succ]
                      refine wpAnyH_take (i := 18) (oi := { dst := some 120, op := Op.move (Operand.tmp 16), type := 3, pos := "own.go:74", after := #[{ on := 15, ground := Ground.guard }], guard := some (15, true) }) (v := ?vh19) rfl (by kernel_rfl) (by kernel_rfl) (by kernel_rfl) (fun _ _ _ h => h) (Or.inl ⟨by rfl, ?yh19⟩) (Below.refl _ _) ?rh19
                      case yh19 => (intro w hSw; go_simp; try with_reducible rfl)
                      try simp only [Act.put, List.setIfInBounds_toArray, List.set_cons_zero, List.set_cons_succ]
                      refine wpAnyH_take (i := 19) (oi := { dst := some 121, op := Op.move (Operand.tmp 7), type := 3, pos := "own.go:74", after := #[{ on := 15, ground := Ground.guard }], guard := some (15, true) }) (v := ?vh20) rfl (by kernel_rfl) (by kernel_rfl) (by kernel_rfl) (fun _ _ _ h => h) (Or.inl ⟨by rfl, ?yh20⟩) (Below.refl _ _) ?rh20
                      case yh20 => (intro w hSw; go_simp; try with_reducible rfl)
                      try simp only [Act.put, List.setIfInBounds_toArray, List.set_cons_zero, List.set_cons_succ]
                      refine wpAnyH_take (i := 20) (oi := { dst := some 122, op := Op.binOp BinOp.add 3 (Operand.tmp 120) (Operand.tmp 121) 3, type := 3, pos := "own.go:74", after := #[{ on := 18, ground := Ground.data }, { on := 19, ground := Ground.data }, { on := 15, ground := Ground.guard }], guard := some (15, true) }) (v := .int .i64 ((U : Int) + (k : Int))) rfl (by kernel_rfl) (by kernel_rfl) (by kernel_rfl) (fun _ _ _ h => h) (Or.inl ⟨by rfl, ?yh21⟩) (Below.refl _ _) ?rh21
                      case yh21 => (intro w hSw; go_simp; try with_reducible rfl)
                      try simp only [Act.put, List.setIfInBounds_toArray, List.set_cons_zero, List.set_cons_succ]
                      refine wpAnyH_take (i := 21) (oi := { dst := some 123, op := Op.slice 22 (Operand.tmp 118) (some (Operand.tmp 119)) (some (Operand.tmp 122)) none, type := 22, pos := "own.go:74", after := #[{ on := 16, ground := Ground.data }, { on := 17, ground := Ground.data }, { on := 20, ground := Ground.data }, { on := 15, ground := Ground.guard }], guard := some (15, true) }) (v := .slice (some ⟨yb, yo + U, none⟩) k (c0 - U)) rfl (by kernel_rfl) (by kernel_rfl) (by kernel_rfl) (fun _ _ _ h => h) (Or.inl ⟨by rfl, ?yh22⟩) (Below.refl _ _) ?rh22
                      case yh22 => (intro w hSw; go_simp; try with_reducible rfl)
                      try simp only [Act.put, List.setIfInBounds_toArray, List.set_cons_zero, List.set_cons_succ]
                      refine wpAnyH_take (i := 24) (oi := { dst := some 126, op := Op.move (Operand.tmp 1), type := 22, pos := "own.go:74", after := #[{ on := 15, ground := Ground.guard }], guard := some (15, true) }) (v := ?vh23) rfl (by kernel_rfl) (by kernel_rfl) (by kernel_rfl) (fun _ _ _ h => h) (Or.inl ⟨by rfl, ?yh23⟩) (Below.refl _ _) ?rh23
                      case yh23 => (intro w hSw; go_simp; try with_reducible rfl)
                      try simp only [Act.put, List.setIfInBounds_toArray, List.set_cons_zero, List.set_cons_succ]
                      refine wpAnyH_take (i := 25) (oi := { dst := some 127, op := Op.move (Operand.tmp 17), type := 3, pos := "own.go:74", after := #[{ on := 15, ground := Ground.guard }], guard := some (15, true) }) (v := ?vh24) rfl (by kernel_rfl) (by kernel_rfl) (by kernel_rfl) (fun _ _ _ h => h) (Or.inl ⟨by rfl, ?yh24⟩) (Below.refl _ _) ?rh24
                      case yh24 => (intro w hSw; go_simp; try with_reducible rfl)
                      try simp only [Act.put, List.setIfInBounds_toArray, List.set_cons_zero, List.set_cons_succ]
                      refine wpAnyH_take (i := 26) (oi := { dst := some 128, op := Op.move (Operand.tmp 17), type := 3, pos := "own.go:74", after := #[{ on := 15, ground := Ground.guard }], guard := some (15, true) }) (v := ?vh25) rfl (by kernel_rfl) (by kernel_rfl) (by kernel_rfl) (fun _ _ _ h => h) (Or.inl ⟨by rfl, ?yh25⟩) (Below.refl _ _) ?rh25
                      case yh25 => (intro w hSw; go_simp; try with_reducible rfl)
                      try simp only [Act.put, List.setIfInBounds_toArray, List.set_cons_zero, List.set_cons_succ]
                      refine wpAnyH_take (i := 27) (oi := { dst := some 129, op := Op.move (Operand.tmp 7), type := 3, pos := "own.go:74", after := #[{ on := 15, ground := Ground.guard }], guard := some (15, true) }) (v := ?vh26) rfl (by kernel_rfl) (by kernel_rfl) (by kernel_rfl) (fun _ _ _ h => h) (Or.inl ⟨by rfl, ?yh26⟩) (Below.refl _ _) ?rh26
                      case yh26 => (intro w hSw; go_simp; try with_reducible rfl)
                      try simp only [Act.put, List.setIfInBounds_toArray, List.set_cons_zero, List.set_cons_succ]
                      refine wpAnyH_take (i := 28) (oi := { dst := some 130, op := Op.binOp BinOp.add 3 (Operand.tmp 128) (Operand.tmp 129) 3, type := 3, pos := "own.go:74", after := #[{ on := 26, ground := Ground.data }, { on := 27, ground := Ground.data }, { on := 15, ground := Ground.guard }], guard := some (15, true) }) (v := .int .i64 ((j : Int) + (k : Int))) rfl (by kernel_rfl) (by kernel_rfl) (by kernel_rfl) (fun _ _ _ h => h) (Or.inl ⟨by rfl, ?yh27⟩) (Below.refl _ _) ?rh27
                      case yh27 => (intro w hSw; go_simp; try with_reducible rfl)
                      try simp only [Act.put, List.setIfInBounds_toArray, List.set_cons_zero, List.set_cons_succ]
                      refine wpAnyH_take (i := 29) (oi := { dst := some 131, op := Op.slice 22 (Operand.tmp 126) (some (Operand.tmp 127)) (some (Operand.tmp 130)) none, type := 22, pos := "own.go:74", after := #[{ on := 24, ground := Ground.data }, { on := 25, ground := Ground.data }, { on := 28, ground := Ground.data }, { on := 15, ground := Ground.guard }], guard := some (15, true) }) (v := .slice (some ⟨xb, xo + j, none⟩) k (c1 - j)) rfl (by kernel_rfl) (by kernel_rfl) (by kernel_rfl) (fun _ _ _ h => h) (Or.inl ⟨by rfl, ?yh28⟩) (Below.refl _ _) ?rh28
                      case yh28 => (intro w hSw; go_simp; try with_reducible rfl)
                      try simp only [Act.put, List.setIfInBounds_toArray, List.set_cons_zero, List.set_cons_succ]
                      refine wpAnyH_ready (rs := [22, 30]) (by kernel_rfl) (by simp) ?_
                      refine AllReadyH.cons (o := { dst := some 124, op := Op.buildSlice 33 1 #[(0, Operand.tmp 123)], type := 33, pos := "own.go:74", after := #[{ on := 21, ground := Ground.data }, { on := 15, ground := Ground.guard }], guard := some (15, true) }) rfl (fun KK hKK => ?_) ?_
                      · have pu29 := parts1 (FS1.out _ (Below.refl _ _))
                        go_simp
                        refine hKK.out _ _ (al_below _ _) (fun _ => ?_)
                        clear hKK KK
                        try simp only [Act.put, List.setIfInBounds_toArray, List.set_cons_zero, List.set_cons_succ]
                        refine wpAnyH_on (al_below _ _) (fun u29 hu29 bu29 => ?_)
                        replace FC1 := on FC1 bu29
                        replace FC2 := on FC2 bu29
                        replace FS1 := on FS1 bu29
                        replace FS2 := on FS2 bu29
                        replace FT := on FT bu29
                        replace FB := on FB bu29
                        have FP1 : Hid (∀ x, From u29 x → Sh.Parts x (some ⟨u0.heap.size, 0, none⟩) [X1]) := fun x hx => shp_kept (by rw [hu29.out]; exact pu29) hx
                        clear pu29
                        refine wpAnyH_ready (rs := [23, 30]) (by kernel_rfl) (by simp) ?_
                        refine AllReadyH.cons (o := { dst := some 125, op := Op.call { callee := Callee.value (Operand.func 27), args := #[Operand.tmp 124], argTypes := #[33] }, type := 59, pos := "own.go:74", after := #[{ on := 22, ground := Ground.data }, { on := 15, ground := Ground.chain }, { on := 15, ground := Ground.guard }], guard := some (15, true) }) rfl (fun KK hKK => ?_) ?_
                        · go_simp
                          refine (CO1.out _ _ (FT.out _ (Below.refl _ _)) (FP1.out _ (Below.refl _ _))).mono ?_
                          rintro e u30' ⟨rfl, bu30'⟩
                          (try go_wp2_with fail)
                          refine hKK.out _ _ (bu30') (fun _ => ?_)
                          clear hKK KK
                          try simp only [Act.put, List.setIfInBounds_toArray, List.set_cons_zero, List.set_cons_succ]
                          refine wpAnyH_on (bu30') (fun u30 hu30 bu30 => ?_)
                          replace FC1 := on FC1 bu30
                          replace FC2 := on FC2 bu30
                          replace FS1 := on FS1 bu30
                          replace FS2 := on FS2 bu30
                          replace FT := on FT bu30
                          replace FB := on FB bu30
                          replace FP1 := on FP1 bu30
                          refine wpAnyH_ready (rs := [30]) (by kernel_rfl) (by simp) ?_
                          refine AllReadyH.cons (o := { dst := some 132, op := Op.buildSlice 33 1 #[(0, Operand.tmp 131)], type := 33, pos := "own.go:74", after := #[{ on := 29, ground := Ground.data }, { on := 15, ground := Ground.guard }], guard := some (15, true) }) rfl (fun KK hKK => ?_) ?_
                          · have pu31 := parts1 (FS2.out _ (Below.refl _ _))
                            go_simp
                            refine hKK.out _ _ (al_below _ _) (fun _ => ?_)
                            clear hKK KK
                            try simp only [Act.put, List.setIfInBounds_toArray, List.set_cons_zero, List.set_cons_succ]
                            refine wpAnyH_on (al_below _ _) (fun u31 hu31 bu31 => ?_)
                            replace FC1 := on FC1 bu31
                            replace FC2 := on FC2 bu31
                            replace FS1 := on FS1 bu31
                            replace FS2 := on FS2 bu31
                            replace FT := on FT bu31
                            replace FB := on FB bu31
                            replace FP1 := on FP1 bu31
                            have FP2 : Hid (∀ x, From u31 x → Sh.Parts x (some ⟨u30.heap.size, 0, none⟩) [X2]) := fun x hx => shp_kept (by rw [hu31.out]; exact pu31) hx
                            clear pu31
                            refine wpAnyH_ready (rs := [31]) (by kernel_rfl) (by simp) ?_
                            refine AllReadyH.cons (o := { dst := some 133, op := Op.call { callee := Callee.value (Operand.func 27), args := #[Operand.tmp 132], argTypes := #[33] }, type := 59, pos := "own.go:74", after := #[{ on := 30, ground := Ground.data }, { on := 23, ground := Ground.chain }, { on := 15, ground := Ground.guard }], guard := some (15, true) }) rfl (fun KK hKK => ?_) ?_
                            · go_simp
                              refine (CO2.out _ _ (FT.out _ (Below.refl _ _)) (FP2.out _ (Below.refl _ _))).mono ?_
                              rintro e u32' ⟨rfl, bu32'⟩
                              (try go_wp2_with fail)
                              refine hKK.out _ _ (bu32') (fun _ => ?_)
                              clear hKK KK
                              try simp only [Act.put, List.setIfInBounds_toArray, List.set_cons_zero, List.set_cons_succ]
                              refine wpAnyH_on (bu32') (fun u32 hu32 bu32 => ?_)
                              replace FC1 := on FC1 bu32
                              replace FC2 := on FC2 bu32
                              replace FS1 := on FS1 bu32
                              replace FS2 := on FS2 bu32
                              replace FT := on FT bu32
                              replace FB := on FB bu32
                              replace FP1 := on FP1 bu32
                              replace FP2 := on FP2 bu32
                              refine wpAnyH_take (i := 32) (oi := { dst := some 134, op := Op.binOp BinOp.eql 59 (Operand.tmp 125) (Operand.tmp 133) 59, type := 4, pos := "own.go:74", after := #[{ on := 23, ground := Ground.data }, { on := 31, ground := Ground.data }, { on := 15, ground := Ground.guard }], guard := some (15, true) }) (v := .bool true) rfl (by kernel_rfl) (by kernel_rfl) (by kernel_rfl) (fun _ _ _ h => h) (yields_eqh (by rfl) _ _ _ rfl (u8c D1) (u8c D2) true rfl rfl (fun w => E1.out w)) (Below.refl _ _) ?_
                              try simp only [Act.put, List.setIfInBounds_toArray, List.set_cons_zero, List.set_cons_succ]
                              refine wpAnyH_take (i := 33) (oi := { dst := some 135, op := Op.pick (Operand.tmp 117) (Operand.tmp 134) (Operand.const (Value.bool false)), type := 4, pos := "own.go:74", after := #[{ on := 15, ground := Ground.data }, { on := 32, ground := Ground.data }], guard := none }) (v := .bool true) rfl (by kernel_rfl) (by kernel_rfl) (by kernel_rfl) (fun _ _ _ h => h) (Or.inl ⟨by rfl, ?yh34⟩) (Below.refl _ _) ?rh34
                              case yh34 => (intro w hSw; go_simp; try with_reducible rfl)
                              try simp only [Act.put, List.setIfInBounds_toArray, List.set_cons_zero, List.set_cons_succ]
                              refine wpAnyH_done (by kernel_rfl) ?_ _
                              have B9 : Hid (Below w.heap.size w u32) := B7.out.trans (Below.mono (FB.out _ (Below.refl _ _)) B7.out.size)
                              clear FC1 FC2 FS1 FS2 FT FB FP1 FP2 CO1 CO2 E1
                              have ca := CA.out _ B9.out
                              go_wp2_with fail
                              refine ca.mono ?_
                              rintro e wz ⟨rfl, bz⟩
                              have BZ : Hid (Below w.heap.size w wz) := B9.out.trans (bz.mono B9.out.size)
                              clear ca bz
                              go_wp2
                              go_ret
                              exact ⟨rfl, BZ.out⟩
                            exact AllReadyH.nil
                          exact AllReadyH.nil
                        refine AllReadyH.cons (o := { dst := some 132, op := Op.buildSlice 33 1 #[(0, Operand.tmp 131)], type := 33, pos := "own.go:74", after := #[{ on := 29, ground := Ground.data }, { on := 15, ground := Ground.guard }], guard := some (15, true) }) rfl (fun KK hKK => ?_) ?_
                        · have pu35 := parts1 (FS2.out _ (Below.refl _ _))
                          go_simp
                          refine hKK.out _ _ (al_below _ _) (fun _ => ?_)
                          clear hKK KK
                          try simp only [Act.put, List.setIfInBounds_toArray, List.set_cons_zero, List.set_cons_succ]
                          refine wpAnyH_on (al_below _ _) (fun u35 hu35 bu35 => ?_)
                          replace FC1 := on FC1 bu35
                          replace FC2 := on FC2 bu35
                          replace FS1 := on FS1 bu35
                          replace FS2 := on FS2 bu35
                          replace FT := on FT bu35
                          replace FB := on FB bu35
                          replace FP1 := on FP1 bu35
                          have FP2 : Hid (∀ x, From u35 x → Sh.Parts x (some ⟨u29.heap.size, 0, none⟩) [X2]) := fun x hx => shp_kept (by rw [hu35.out]; exact pu35) hx
                          clear pu35
                          refine wpAnyH_ready (rs := [23]) (by kernel_rfl) (by simp) ?_
                          refine AllReadyH.cons (o := { dst := some 125, op := Op.call { callee := Callee.value (Operand.func 27), args := #[Operand.tmp 124], argTypes := #[33] }, type := 59, pos := "own.go:74", after := #[{ on := 22, ground := Ground.data }, { on := 15, ground := Ground.chain }, { on := 15, ground := Ground.guard }], guard := some (15, true) }) rfl (fun KK hKK => ?_) ?_
                          · go_simp
                            refine (CO1.out _ _ (FT.out _ (Below.refl _ _)) (FP1.out _ (Below.refl _ _))).mono ?_
                            rintro e u36' ⟨rfl, bu36'⟩
                            (try go_wp2_with fail)
                            refine hKK.out _ _ (bu36') (fun _ => ?_)
                            clear hKK KK
                            try simp only [Act.put, List.setIfInBounds_toArray, List.set_cons_zero, List.set_cons_succ]
                            refine wpAnyH_on (bu36') (fun u36 hu36 bu36 => ?_)
                            replace FC1 := on FC1 bu36
                            replace FC2 := on FC2 bu36
                            replace FS1 := on FS1 bu36
                            replace FS2 := on FS2 bu36
                            replace FT := on FT bu36
                            replace FB := on FB bu36
                            replace FP1 := on FP1 bu36
                            replace FP2 := on FP2 bu36
                            refine wpAnyH_ready (rs := [31]) (by kernel_rfl) (by simp) ?_
                            refine AllReadyH.cons (o := { dst := some 133, op := Op.call { callee := Callee.value (Operand.func 27), args := #[Operand.tmp 132], argTypes := #[33] }, type := 59, pos := "own.go:74", after := #[{ on := 30, ground := Ground.data }, { on := 23, ground := Ground.chain }, { on := 15, ground := Ground.guard }], guard := some (15, true) }) rfl (fun KK hKK => ?_) ?_
                            · go_simp
                              refine (CO2.out _ _ (FT.out _ (Below.refl _ _)) (FP2.out _ (Below.refl _ _))).mono ?_
                              rintro e u37' ⟨rfl, bu37'⟩
                              (try go_wp2_with fail)
                              refine hKK.out _ _ (bu37') (fun _ => ?_)
                              clear hKK KK
                              try simp only [Act.put, List.setIfInBounds_toArray, List.set_cons_zero, List.set_cons_succ]
                              refine wpAnyH_on (bu37') (fun u37 hu37 bu37 => ?_)
                              replace FC1 := on FC1 bu37
                              replace FC2 := on FC2 bu37
                              replace FS1 := on FS1 bu37
                              replace FS2 := on FS2 bu37
                              replace FT := on FT bu37
                              replace FB := on FB bu37
                              replace FP1 := on FP1 bu37
                              replace FP2 := on FP2 bu37
                              refine wpAnyH_take (i := 32) (oi := { dst := some 134, op := Op.binOp BinOp.eql 59 (Operand.tmp 125) (Operand.tmp 133) 59, type := 4, pos := "own.go:74", after := #[{ on := 23, ground := Ground.data }, { on := 31, ground := Ground.data }, { on := 15, ground := Ground.guard }], guard := some (15, true) }) (v := .bool true) rfl (by kernel_rfl) (by kernel_rfl) (by kernel_rfl) (fun _ _ _ h => h) (yields_eqh (by rfl) _ _ _ rfl (u8c D1) (u8c D2) true rfl rfl (fun w => E1.out w)) (Below.refl _ _) ?_
                              try simp only [Act.put, List.setIfInBounds_toArray, List.set_cons_zero, List.set_cons_succ]
                              refine wpAnyH_take (i := 33) (oi := { dst := some 135, op := Op.pick (Operand.tmp 117) (Operand.tmp 134) (Operand.const (Value.bool false)), type := 4, pos := "own.go:74", after := #[{ on := 15, ground := Ground.data }, { on := 32, ground := Ground.data }], guard := none }) (v := .bool true) rfl (by kernel_rfl) (by kernel_rfl) (by kernel_rfl) (fun _ _ _ h => h) (Or.inl ⟨by rfl, ?yh39⟩) (Below.refl _ _) ?rh39
                              case yh39 => (intro w hSw; go_simp; try with_reducible rfl)
                              try simp only [Act.put, List.setIfInBounds_toArray, List.set_cons_zero, List.set_cons_succ]
                              refine wpAnyH_done (by kernel_rfl) ?_ _
                              have B9 : Hid (Below w.heap.size w u37) := B7.out.trans (Below.mono (FB.out _ (Below.refl _ _)) B7.out.size)
                              clear FC1 FC2 FS1 FS2 FT FB FP1 FP2 CO1 CO2 E1
                              have ca := CA.out _ B9.out
                              go_wp2_with fail
                              refine ca.mono ?_
                              rintro e wz ⟨rfl, bz⟩
                              have BZ : Hid (Below w.heap.size w wz) := B9.out.trans (bz.mono B9.out.size)
                              clear ca bz
                              go_wp2
                              go_ret
                              exact ⟨rfl, BZ.out⟩
                            exact AllReadyH.nil
                          exact AllReadyH.nil
                        exact AllReadyH.nil
                      refine AllReadyH.cons (o := { dst := some 132, op := Op.buildSlice 33 1 #[(0, Operand.tmp 131)], type := 33, pos := "own.go:74", after := #[{ on := 29, ground := Ground.data }, { on := 15, ground := Ground.guard }], guard := some (15, true) }) rfl (fun KK hKK => ?_) ?_
                      · have pu40 := parts1 (FS2.out _ (Below.refl _ _))
                        go_simp
                        refine hKK.out _ _ (al_below _ _) (fun _ => ?_)
                        clear hKK KK
                        try simp only [Act.put, List.setIfInBounds_toArray, List.set_cons_zero, List.set_cons_succ]
                        refine wpAnyH_on (al_below _ _) (fun u40 hu40 bu40 => ?_)
                        replace FC1 := on FC1 bu40
                        replace FC2 := on FC2 bu40
                        replace FS1 := on FS1 bu40
                        replace FS2 := on FS2 bu40
                        replace FT := on FT bu40
                        replace FB := on FB bu40
                        have FP2 : Hid (∀ x, From u40 x → Sh.Parts x (some ⟨u0.heap.size, 0, none⟩) [X2]) := fun x hx => shp_kept (by rw [hu40.out]; exact pu40) hx
                        clear pu40
                        refine wpAnyH_ready (rs := [22]) (by kernel_rfl) (by simp) ?_
                        refine AllReadyH.cons (o := { dst := some 124, op := Op.buildSlice 33 1 #[(0, Operand.tmp 123)], type := 33, pos := "own.go:74", after := #[{ on := 21, ground := Ground.data }, { on := 15, ground := Ground.guard }], guard := some (15, true) }) rfl (fun KK hKK => ?_) ?_
                        · have pu41 := parts1 (FS1.out _ (Below.refl _ _))
                          go_simp
                          refine hKK.out _ _ (al_below _ _) (fun _ => ?_)
                          clear hKK KK
                          try simp only [Act.put, List.setIfInBounds_toArray, List.set_cons_zero, List.set_cons_succ]
                          refine wpAnyH_on (al_below _ _) (fun u41 hu41 bu41 => ?_)
                          replace FC1 := on FC1 bu41
                          replace FC2 := on FC2 bu41
                          replace FS1 := on FS1 bu41
                          replace FS2 := on FS2 bu41
                          replace FT := on FT bu41
                          replace FB := on FB bu41
                          replace FP2 := on FP2 bu41
                          have FP1 : Hid (∀ x, From u41 x → Sh.Parts x (some ⟨u40.heap.size, 0, none⟩) [X1]) := fun x hx => shp_kept (by rw [hu41.out]; exact pu41) hx
                          clear pu41
                          refine wpAnyH_ready (rs := [23]) (by kernel_rfl) (by simp) ?_
                          refine AllReadyH.cons (o := { dst := some 125, op := Op.call { callee := Callee.value (Operand.func 27), args := #[Operand.tmp 124], argTypes := #[33] }, type := 59, pos := "own.go:74", after := #[{ on := 22, ground := Ground.data }, { on := 15, ground := Ground.chain }, { on := 15, ground := Ground.guard }], guard := some (15, true) }) rfl (fun KK hKK => ?_) ?_
                          · go_simp
                            refine (CO1.out _ _ (FT.out _ (Below.refl _ _)) (FP1.out _ (Below.refl _ _))).mono ?_
                            rintro e u42' ⟨rfl, bu42'⟩
                            (try go_wp2_with fail)
                            refine hKK.out _ _ (bu42') (fun _ => ?_)
                            clear hKK KK
                            try simp only [Act.put, List.setIfInBounds_toArray, List.set_cons_zero, List.set_cons_succ]
                            refine wpAnyH_on (bu42') (fun u42 hu42 bu42 => ?_)
                            replace FC1 := on FC1 bu42
                            replace FC2 := on FC2 bu42
                            replace FS1 := on FS1 bu42
                            replace FS2 := on FS2 bu42
                            replace FT := on FT bu42
                            replace FB := on FB bu42
                            replace FP2 := on FP2 bu42
                            replace FP1 := on FP1 bu42
                            refine wpAnyH_ready (rs := [31]) (by kernel_rfl) (by simp) ?_
                            refine AllReadyH.cons (o := { dst := some 133, op := Op.call { callee := Callee.value (Operand.func 27), args := #[Operand.tmp 132], argTypes := #[33] }, type := 59, pos := "own.go:74", after := #[{ on := 30, ground := Ground.data }, { on := 23, ground := Ground.chain }, { on := 15, ground := Ground.guard }], guard := some (15, true) }) rfl (fun KK hKK => ?_) ?_
                            · go_simp
                              refine (CO2.out _ _ (FT.out _ (Below.refl _ _)) (FP2.out _ (Below.refl _ _))).mono ?_
                              rintro e u43' ⟨rfl, bu43'⟩
                              (try go_wp2_with fail)
                              refine hKK.out _ _ (bu43') (fun _ => ?_)
                              clear hKK KK
                              try simp only [Act.put, List.setIfInBounds_toArray, List.set_cons_zero, List.set_cons_succ]
                              refine wpAnyH_on (bu43') (fun u43 hu43 bu43 => ?_)
                              replace FC1 := on FC1 bu43
                              replace FC2 := on FC2 bu43
                              replace FS1 := on FS1 bu43
                              replace FS2 := on FS2 bu43
                              replace FT := on FT bu43
                              replace FB := on FB bu43
                              replace FP2 := on FP2 bu43
                              replace FP1 := on FP1 bu43
                              refine wpAnyH_take (i := 32) (oi := { dst := some 134, op := Op.binOp BinOp.eql 59 (Operand.tmp 125) (Operand.tmp 133) 59, type := 4, pos := "own.go:74", after := #[{ on := 23, ground := Ground.data }, { on := 31, ground := Ground.data }, { on := 15, ground := Ground.guard }], guard := some (15, true) }) (v := .bool true) rfl (by kernel_rfl) (by kernel_rfl) (by kernel_rfl) (fun _ _ _ h => h) (yields_eqh (by rfl) _ _ _ rfl (u8c D1) (u8c D2) true rfl rfl (fun w => E1.out w)) (Below.refl _ _) ?_
                              try simp only [Act.put, List.setIfInBounds_toArray, List.set_cons_zero, List.set_cons_succ]
                              refine wpAnyH_take (i := 33) (oi := { dst := some 135, op := Op.pick (Operand.tmp 117) (Operand.tmp 134) (Operand.const (Value.bool false)), type := 4, pos := "own.go:74", after := #[{ on := 15, ground := Ground.data }, { on := 32, ground := Ground.data }], guard := none }) (v := .bool true) rfl (by kernel_rfl) (by kernel_rfl) (by kernel_rfl) (fun _ _ _ h => h) (Or.inl ⟨by rfl, ?yh45⟩) (Below.refl _ _) ?rh45
                              case yh45 => (intro w hSw; go_simp; try with_reducible rfl)
                              try simp only [Act.put, List.setIfInBounds_toArray, List.set_cons_zero, List.set_cons_succ]
                              refine wpAnyH_done (by kernel_rfl) ?_ _
                              have B9 : Hid (Below w.heap.size w u43) := B7.out.trans (Below.mono (FB.out _ (Below.refl _ _)) B7.out.size)
                              clear FC1 FC2 FS1 FS2 FT FB FP1 FP2 CO1 CO2 E1
                              have ca := CA.out _ B9.out
                              go_wp2_with fail
                              refine ca.mono ?_
                              rintro e wz ⟨rfl, bz⟩
                              have BZ : Hid (Below w.heap.size w wz) := B9.out.trans (bz.mono B9.out.size)
                              clear ca bz
                              go_wp2
                              go_ret
                              exact ⟨rfl, BZ.out⟩
                            exact AllReadyH.nil
                          exact AllReadyH.nil
                        exact AllReadyH.nil
                      exact AllReadyH.nil
                    · have HNX : Hid (i = A → j + 1 ≤ t) := fun e => by
                        have h1 := HJ.out e
                        rcases Nat.lt_or_ge j t with h2 | h2
                        · exact h2
                        · obtain rfl : j = t := by omega
                          rw [HU.out, e] at hS
                          exact absurd HSH.out hS
                      rw [show (Sh.Pl.sha (cut o U k) == Sh.Pl.sha (cut b j k)) = false by simpa using hS] at E1
                      clear hX hS hl1 hl2 HSH HUN HU HJ
                      generalize Sh.Pl.sha (cut o U k) = D1 at *
                      generalize Sh.Pl.sha (cut b j k) = D2 at *
                      generalize strB (cut o U k) = S1 at *
                      generalize strB (cut b j k) = S2 at *
                      generalize cut o U k = X1 at *
                      generalize cut b j k = X2 at *
                      have e8 : (S1.toList != S2.toList) = true := by simp [bne, hbe]
                      have e7 : ¬ S1.toList = S2.toList := by simpa using hbe
                      clear hbe
                      go_wp2_with fail
                      refine wp_region_held_drew (S := From wr) (by kernel_rfl) ((Below.refl _ _).drew) (fun _ => ?_)
                      refine wpAnyH_on ((Below.refl _ _).drew) (fun u0 hu0 bu0 => ?_)
                      replace FC1 := on FC1 bu0
                      replace FC2 := on FC2 bu0
                      replace FS1 := on FS1 bu0
                      replace FS2 := on FS2 bu0
                      replace FT := on FT bu0
                      replace FB := on FB bu0
                      refine wpAnyH_take (i := 0) (oi := { dst := some 102, op := Op.move (Operand.tmp 0), type := 22, pos := "own.go:74", after := #[], guard := none }) (v := ?vm1) rfl (by kernel_rfl) (by kernel_rfl) (by kernel_rfl) (fun _ _ _ h => h) (Or.inl ⟨by rfl, ?ym1⟩) (Below.refl _ _) ?rm1
                      case ym1 => (intro w hSw; go_simp; try with_reducible rfl)
                      try simp only [Act.put, List.setIfInBounds_toArray, List.set_cons_zero, List.set_cons_succ]
                      refine wpAnyH_take (i := 1) (oi := { dst := some 103, op := Op.move (Operand.tmp 16), type := 3, pos := "own.go:74", after := #[], guard := none }) (v := ?vm2) rfl (by kernel_rfl) (by kernel_rfl) (by kernel_rfl) (fun _ _ _ h => h) (Or.inl ⟨by rfl, ?ym2⟩) (Below.refl _ _) ?rm2
                      case ym2 => (intro w hSw; go_simp; try with_reducible rfl)
                      try simp only [Act.put, List.setIfInBounds_toArray, List.set_cons_zero, List.set_cons_succ]
                      refine wpAnyH_take (i := 2) (oi := { dst := some 104, op := Op.move (Operand.tmp 16), type := 3, pos := "own.go:74", after := #[], guard := none }) (v := ?vm3) rfl (by kernel_rfl) (by kernel_rfl) (by kernel_rfl) (fun _ _ _ h => h) (Or.inl ⟨by rfl, ?ym3⟩) (Below.refl _ _) ?rm3
                      case ym3 => (intro w hSw; go_simp; try with_reducible rfl)
                      try simp only [Act.put, List.setIfInBounds_toArray, List.set_cons_zero, List.set_cons_succ]
                      refine wpAnyH_take (i := 3) (oi := { dst := some 105, op := Op.move (Operand.tmp 7), type := 3, pos := "own.go:74", after := #[], guard := none }) (v := ?vm4) rfl (by kernel_rfl) (by kernel_rfl) (by kernel_rfl) (fun _ _ _ h => h) (Or.inl ⟨by rfl, ?ym4⟩) (Below.refl _ _) ?rm4
                      case ym4 => (intro w hSw; go_simp; try with_reducible rfl)
                      try simp only [Act.put, List.setIfInBounds_toArray, List.set_cons_zero, List.set_cons_succ]
                      refine wpAnyH_take (i := 4) (oi := { dst := some 106, op := Op.binOp BinOp.add 3 (Operand.tmp 104) (Operand.tmp 105) 3, type := 3, pos := "own.go:74", after := #[{ on := 2, ground := Ground.data }, { on := 3, ground := Ground.data }], guard := none }) (v := .int .i64 ((U : Int) + (k : Int))) rfl (by kernel_rfl) (by kernel_rfl) (by kernel_rfl) (fun _ _ _ h => h) (Or.inl ⟨by rfl, ?ym5⟩) (Below.refl _ _) ?rm5
                      case ym5 => (intro w hSw; go_simp; try with_reducible rfl)
                      try simp only [Act.put, List.setIfInBounds_toArray, List.set_cons_zero, List.set_cons_succ]
                      refine wpAnyH_take (i := 5) (oi := { dst := some 107, op := Op.slice 22 (Operand.tmp 102) (some (Operand.tmp 103)) (some (Operand.tmp 106)) none, type := 22, pos := "own.go:74", after := #[{ on := 0, ground := Ground.data }, { on := 1, ground := Ground.data }, { on := 4, ground := Ground.data }], guard := none }) (v := .slice (some ⟨yb, yo + U, none⟩) k (c0 - U)) rfl (by kernel_rfl) (by kernel_rfl) (by kernel_rfl) (fun _ _ _ h => h) (Or.inl ⟨by rfl, ?ym6⟩) (Below.refl _ _) ?rm6
                      case ym6 => (intro w hSw; go_simp; try with_reducible rfl)
                      try simp only [Act.put, List.setIfInBounds_toArray, List.set_cons_zero, List.set_cons_succ]
                      refine wpAnyH_take (i := 6) (oi := { dst := some 108, op := Op.convert 22 9 (Operand.tmp 107), type := 9, pos := "own.go:74", after := #[{ on := 5, ground := Ground.data }], guard := none }) (v := .string S1) rfl (by kernel_rfl) (by kernel_rfl) (by kernel_rfl) (fun _ _ _ h => h) (Or.inl ⟨by rfl, ?ym7⟩) (Below.refl _ _) ?rm7
                      case ym7 => (intro w hSw; have t0 := FC1.out w hSw; go_simp; try with_reducible rfl)
                      try simp only [Act.put, List.setIfInBounds_toArray, List.set_cons_zero, List.set_cons_succ]
                      refine wpAnyH_take (i := 7) (oi := { dst := some 109, op := Op.move (Operand.tmp 1), type := 22, pos := "own.go:74", after := #[], guard := none }) (v := ?vm8) rfl (by kernel_rfl) (by kernel_rfl) (by kernel_rfl) (fun _ _ _ h => h) (Or.inl ⟨by rfl, ?ym8⟩) (Below.refl _ _) ?rm8
                      case ym8 => (intro w hSw; go_simp; try with_reducible rfl)
                      try simp only [Act.put, List.setIfInBounds_toArray, List.set_cons_zero, List.set_cons_succ]
                      refine wpAnyH_take (i := 8) (oi := { dst := some 110, op := Op.move (Operand.tmp 17), type := 3, pos := "own.go:74", after := #[], guard := none }) (v := ?vm9) rfl (by kernel_rfl) (by kernel_rfl) (by kernel_rfl) (fun _ _ _ h => h) (Or.inl ⟨by rfl, ?ym9⟩) (Below.refl _ _) ?rm9
                      case ym9 => (intro w hSw; go_simp; try with_reducible rfl)
                      try simp only [Act.put, List.setIfInBounds_toArray, List.set_cons_zero, List.set_cons_succ]
                      refine wpAnyH_take (i := 9) (oi := { dst := some 111, op := Op.move (Operand.tmp 17), type := 3, pos := "own.go:74", after := #[], guard := none }) (v := ?vm10) rfl (by kernel_rfl) (by kernel_rfl) (by kernel_rfl) (fun _ _ _ h => h) (Or.inl ⟨by rfl, ?ym10⟩) (Below.refl _ _) ?rm10
                      case ym10 => (intro w hSw; go_simp; try with_reducible rfl)
                      try simp only [Act.put, List.setIfInBounds_toArray, List.set_cons_zero, List.set_cons_succ]
                      refine wpAnyH_take (i := 10) (oi := { dst := some 112, op := Op.move (Operand.tmp 7), type := 3, pos := "own.go:74", after := #[], guard := none }) (v := ?vm11) rfl (by kernel_rfl) (by kernel_rfl) (by kernel_rfl) (fun _ _ _ h => h) (Or.inl ⟨by rfl, ?ym11⟩) (Below.refl _ _) ?rm11
                      case ym11 => (intro w hSw; go_simp; try with_reducible rfl)
                      try simp only [Act.put, List.setIfInBounds_toArray, List.set_cons_zero, List.set_cons_succ]
                      refine wpAnyH_take (i := 11) (oi := { dst := some 113, op := Op.binOp BinOp.add 3 (Operand.tmp 111) (Operand.tmp 112) 3, type := 3, pos := "own.go:74", after := #[{ on := 9, ground := Ground.data }, { on := 10, ground := Ground.data }], guard := none }) (v := .int .i64 ((j : Int) + (k : Int))) rfl (by kernel_rfl) (by kernel_rfl) (by kernel_rfl) (fun _ _ _ h => h) (Or.inl ⟨by rfl, ?ym12⟩) (Below.refl _ _) ?rm12
                      case ym12 => (intro w hSw; go_simp; try with_reducible rfl)
                      try simp only [Act.put, List.setIfInBounds_toArray, List.set_cons_zero, List.set_cons_succ]
                      refine wpAnyH_take (i := 12) (oi := { dst := some 114, op := Op.slice 22 (Operand.tmp 109) (some (Operand.tmp 110)) (some (Operand.tmp 113)) none, type := 22, pos := "own.go:74", after := #[{ on := 7, ground := Ground.data }, { on := 8, ground := Ground.data }, { on := 11, ground := Ground.data }], guard := none }) (v := .slice (some ⟨xb, xo + j, none⟩) k (c1 - j)) rfl (by kernel_rfl) (by kernel_rfl) (by kernel_rfl) (fun _ _ _ h => h) (Or.inl ⟨by rfl, ?ym13⟩) (Below.refl _ _) ?rm13
                      case ym13 => (intro w hSw; go_simp; try with_reducible rfl)
                      try simp only [Act.put, List.setIfInBounds_toArray, List.set_cons_zero, List.set_cons_succ]
                      refine wpAnyH_take (i := 13) (oi := { dst := some 115, op := Op.convert 22 9 (Operand.tmp 114), type := 9, pos := "own.go:74", after := #[{ on := 12, ground := Ground.data }], guard := none }) (v := .string S2) rfl (by kernel_rfl) (by kernel_rfl) (by kernel_rfl) (fun _ _ _ h => h) (Or.inl ⟨by rfl, ?ym14⟩) (Below.refl _ _) ?rm14
                      case ym14 => (intro w hSw; have t0 := FC2.out w hSw; go_simp; try with_reducible rfl)
                      try simp only [Act.put, List.setIfInBounds_toArray, List.set_cons_zero, List.set_cons_succ]
                      refine wpAnyH_take (i := 14) (oi := { dst := some 116, op := Op.binOp BinOp.neq 9 (Operand.tmp 108) (Operand.tmp 115) 9, type := 4, pos := "own.go:74", after := #[{ on := 6, ground := Ground.data }, { on := 13, ground := Ground.data }], guard := none }) (v := .bool true) rfl (by kernel_rfl) (by kernel_rfl) (by kernel_rfl) (fun _ _ _ h => h) (Or.inl ⟨by rfl, ?ym15⟩) (Below.refl _ _) ?rm15
                      case ym15 => (intro w hSw; go_simp; try exact e7; try with_reducible rfl)
                      try simp only [Act.put, List.setIfInBounds_toArray, List.set_cons_zero, List.set_cons_succ]
                      refine wpAnyH_take (i := 15) (oi := { dst := some 117, op := Op.move (Operand.tmp 116), type := 4, pos := "own.go:74", after := #[{ on := 14, ground := Ground.data }], guard := none }) (v := .bool true) rfl (by kernel_rfl) (by kernel_rfl) (by kernel_rfl) (fun _ _ _ h => h) (Or.inl ⟨by rfl, ?ym16⟩) (Below.refl _ _) ?rm16
                      case ym16 => (intro w hSw; go_simp; try with_reducible rfl)
                      try simp only [Act.put, List.setIfInBounds_toArray, List.set_cons_zero, List.set_cons_succ]
                      refine wpAnyH_take (i := 16) (oi := { dst := some 118, op := Op.move (Operand.tmp 0), type := 22, pos := "own.go:74", after := #[{ on := 15, ground := Ground.guard }], guard := some (15, true) }) (v := ?vm17) rfl (by kernel_rfl) (by kernel_rfl) (by kernel_rfl) (fun _ _ _ h => h) (Or.inl ⟨by rfl, ?ym17⟩) (Below.refl _ _) ?rm17
                      case ym17 => (intro w hSw; go_simp; try with_reducible rfl)
                      try simp only [Act.put, List.setIfInBounds_toArray, List.set_cons_zero, List.set_cons_succ]
                      refine wpAnyH_take (i := 17) (oi := { dst := some 119, op := Op.move (Operand.tmp 16), type := 3, pos := "own.go:74", after := #[{ on := 15, ground := Ground.guard }], guard := some (15, true) }) (v := ?vm18) rfl (by kernel_rfl) (by kernel_rfl) (by kernel_rfl) (fun _ _ _ h => h) (Or.inl ⟨by rfl, ?ym18⟩) (Below.refl _ _) ?rm18
                      case ym18 => (intro w hSw; go_simp; try with_reducible rfl)
                      try simp only [Act.put, List.setIfInBounds_toArray, List.set_cons_zero, List.set_cons_succ]
                      refine wpAnyH_take (i := 18) (oi := { dst := some 120, op := Op.move (Operand.tmp 16), type := 3, pos := "own.go:74", after := #[{ on := 15, ground := Ground.guard }], guard := some (15, true) }) (v := ?vm19) rfl (by kernel_rfl) (by kernel_rfl) (by kernel_rfl) (fun _ _ _ h => h) (Or.inl ⟨by rfl, ?ym19⟩) (Below.refl _ _) ?rm19
                      case ym19 => (intro w hSw; go_simp; try with_reducible rfl)
                      try simp only [Act.put, List.setIfInBounds_toArray, List.set_cons_zero, List.set_cons_succ]
                      refine wpAnyH_take (i := 19) (oi := { dst := some 121, op := Op.move (Operand.tmp 7), type := 3, pos := "own.go:74", after := #[{ on := 15, ground := Ground.guard }], guard := some (15, true) }) (v := ?vm20) rfl (by kernel_rfl) (by kernel_rfl) (by kernel_rfl) (fun _ _ _ h => h) (Or.inl ⟨by rfl, ?ym20⟩) (Below.refl _ _) ?rm20
                      case ym20 => (intro w hSw; go_simp; try with_reducible rfl)
                      try simp only [Act.put, List.setIfInBounds_toArray, List.set_cons_zero, List.set_cons_succ]
                      refine wpAnyH_take (i := 20) (oi := { dst := some 122, op := Op.binOp BinOp.add 3 (Operand.tmp 120) (Operand.tmp 121) 3, type := 3, pos := "own.go:74", after := #[{ on := 18, ground := Ground.data }, { on := 19, ground := Ground.data }, { on := 15, ground := Ground.guard }], guard := some (15, true) }) (v := .int .i64 ((U : Int) + (k : Int))) rfl (by kernel_rfl) (by kernel_rfl) (by kernel_rfl) (fun _ _ _ h => h) (Or.inl ⟨by rfl, ?ym21⟩) (Below.refl _ _) ?rm21
                      case ym21 => (intro w hSw; go_simp; try with_reducible rfl)
                      try simp only [Act.put, List.setIfInBounds_toArray, List.set_cons_zero, List.set_cons_succ]
                      refine wpAnyH_take (i := 21) (oi := { dst := some 123, op := Op.slice 22 (Operand.tmp 118) (some (Operand.tmp 119)) (some (Operand.tmp 122)) none, type := 22, pos := "own.go:74", after := #[{ on := 16, ground := Ground.data }, { on := 17, ground := Ground.data }, { on := 20, ground := Ground.data }, { on := 15, ground := Ground.guard }], guard := some (15, true) }) (v := .slice (some ⟨yb, yo + U, none⟩) k (c0 - U)) rfl (by kernel_rfl) (by kernel_rfl) (by kernel_rfl) (fun _ _ _ h => h) (Or.inl ⟨by rfl, ?ym22⟩) (Below.refl _ _) ?rm22
                      case ym22 => (intro w hSw; go_simp; try with_reducible rfl)
                      try simp only [Act.put, List.setIfInBounds_toArray, List.set_cons_zero, List.set_cons_succ]
                      refine wpAnyH_take (i := 24) (oi := { dst := some 126, op := Op.move (Operand.tmp 1), type := 22, pos := "own.go:74", after := #[{ on := 15, ground := Ground.guard }], guard := some (15, true) }) (v := ?vm23) rfl (by kernel_rfl) (by kernel_rfl) (by kernel_rfl) (fun _ _ _ h => h) (Or.inl ⟨by rfl, ?ym23⟩) (Below.refl _ _) ?rm23
                      case ym23 => (intro w hSw; go_simp; try with_reducible rfl)
                      try simp only [Act.put, List.setIfInBounds_toArray, List.set_cons_zero, List.set_cons_succ]
                      refine wpAnyH_take (i := 25) (oi := { dst := some 127, op := Op.move (Operand.tmp 17), type := 3, pos := "own.go:74", after := #[{ on := 15, ground := Ground.guard }], guard := some (15, true) }) (v := ?vm24) rfl (by kernel_rfl) (by kernel_rfl) (by kernel_rfl) (fun _ _ _ h => h) (Or.inl ⟨by rfl, ?ym24⟩) (Below.refl _ _) ?rm24
                      case ym24 => (intro w hSw; go_simp; try with_reducible rfl)
                      try simp only [Act.put, List.setIfInBounds_toArray, List.set_cons_zero, List.set_cons_succ]
                      refine wpAnyH_take (i := 26) (oi := { dst := some 128, op := Op.move (Operand.tmp 17), type := 3, pos := "own.go:74", after := #[{ on := 15, ground := Ground.guard }], guard := some (15, true) }) (v := ?vm25) rfl (by kernel_rfl) (by kernel_rfl) (by kernel_rfl) (fun _ _ _ h => h) (Or.inl ⟨by rfl, ?ym25⟩) (Below.refl _ _) ?rm25
                      case ym25 => (intro w hSw; go_simp; try with_reducible rfl)
                      try simp only [Act.put, List.setIfInBounds_toArray, List.set_cons_zero, List.set_cons_succ]
                      refine wpAnyH_take (i := 27) (oi := { dst := some 129, op := Op.move (Operand.tmp 7), type := 3, pos := "own.go:74", after := #[{ on := 15, ground := Ground.guard }], guard := some (15, true) }) (v := ?vm26) rfl (by kernel_rfl) (by kernel_rfl) (by kernel_rfl) (fun _ _ _ h => h) (Or.inl ⟨by rfl, ?ym26⟩) (Below.refl _ _) ?rm26
                      case ym26 => (intro w hSw; go_simp; try with_reducible rfl)
                      try simp only [Act.put, List.setIfInBounds_toArray, List.set_cons_zero, List.set_cons_succ]
                      refine wpAnyH_take (i := 28) (oi := { dst := some 130, op := Op.binOp BinOp.add 3 (Operand.tmp 128) (Operand.tmp 129) 3, type := 3, pos := "own.go:74", after := #[{ on := 26, ground := Ground.data }, { on := 27, ground := Ground.data }, { on := 15, ground := Ground.guard }], guard := some (15, true) }) (v := .int .i64 ((j : Int) + (k : Int))) rfl (by kernel_rfl) (by kernel_rfl) (by kernel_rfl) (fun _ _ _ h => h) (Or.inl ⟨by rfl, ?ym27⟩) (Below.refl _ _) ?rm27
                      case ym27 => (intro w hSw; go_simp; try with_reducible rfl)
                      try simp only [Act.put, List.setIfInBounds_toArray, List.set_cons_zero, List.set_cons_succ]
                      refine wpAnyH_take (i := 29) (oi := { dst := some 131, op := Op.slice 22 (Operand.tmp 126) (some (Operand.tmp 127)) (some (Operand.tmp 130)) none, type := 22, pos := "own.go:74", after := #[{ on := 24, ground := Ground.data }, { on := 25, ground := Ground.data }, { on := 28, ground := Ground.data }, { on := 15, ground := Ground.guard }], guard := some (15, true) }) (v := .slice (some ⟨xb, xo + j, none⟩) k (c1 - j)) rfl (by kernel_rfl) (by kernel_rfl) (by kernel_rfl) (fun _ _ _ h => h) (Or.inl ⟨by rfl, ?ym28⟩) (Below.refl _ _) ?rm28
                      case ym28 => (intro w hSw; go_simp; try with_reducible rfl)
                      try simp only [Act.put, List.setIfInBounds_toArray, List.set_cons_zero, List.set_cons_succ]
                      refine wpAnyH_ready (rs := [22, 30]) (by kernel_rfl) (by simp) ?_
                      refine AllReadyH.cons (o := { dst := some 124, op := Op.buildSlice 33 1 #[(0, Operand.tmp 123)], type := 33, pos := "own.go:74", after := #[{ on := 21, ground := Ground.data }, { on := 15, ground := Ground.guard }], guard := some (15, true) }) rfl (fun KK hKK => ?_) ?_
                      · have pu29 := parts1 (FS1.out _ (Below.refl _ _))
                        go_simp
                        refine hKK.out _ _ (al_below _ _) (fun _ => ?_)
                        clear hKK KK
                        try simp only [Act.put, List.setIfInBounds_toArray, List.set_cons_zero, List.set_cons_succ]
                        refine wpAnyH_on (al_below _ _) (fun u29 hu29 bu29 => ?_)
                        replace FC1 := on FC1 bu29
                        replace FC2 := on FC2 bu29
                        replace FS1 := on FS1 bu29
                        replace FS2 := on FS2 bu29
                        replace FT := on FT bu29
                        replace FB := on FB bu29
                        have FP1 : Hid (∀ x, From u29 x → Sh.Parts x (some ⟨u0.heap.size, 0, none⟩) [X1]) := fun x hx => shp_kept (by rw [hu29.out]; exact pu29) hx
                        clear pu29
                        refine wpAnyH_ready (rs := [23, 30]) (by kernel_rfl) (by simp) ?_
                        refine AllReadyH.cons (o := { dst := some 125, op := Op.call { callee := Callee.value (Operand.func 27), args := #[Operand.tmp 124], argTypes := #[33] }, type := 59, pos := "own.go:74", after := #[{ on := 22, ground := Ground.data }, { on := 15, ground := Ground.chain }, { on := 15, ground := Ground.guard }], guard := some (15, true) }) rfl (fun KK hKK => ?_) ?_
                        · go_simp
                          refine (CO1.out _ _ (FT.out _ (Below.refl _ _)) (FP1.out _ (Below.refl _ _))).mono ?_
                          rintro e u30' ⟨rfl, bu30'⟩
                          (try go_wp2_with fail)
                          refine hKK.out _ _ (bu30') (fun _ => ?_)
                          clear hKK KK
                          try simp only [Act.put, List.setIfInBounds_toArray, List.set_cons_zero, List.set_cons_succ]
                          refine wpAnyH_on (bu30') (fun u30 hu30 bu30 => ?_)
                          replace FC1 := on FC1 bu30
                          replace FC2 := on FC2 bu30
                          replace FS1 := on FS1 bu30
                          replace FS2 := on FS2 bu30
                          replace FT := on FT bu30
                          replace FB := on FB bu30
                          replace FP1 := on FP1 bu30
                          refine wpAnyH_ready (rs := [30]) (by kernel_rfl) (by simp) ?_
                          refine AllReadyH.cons (o := { dst := some 132, op := Op.buildSlice 33 1 #[(0, Operand.tmp 131)], type := 33, pos := "own.go:74", after := #[{ on := 29, ground := Ground.data }, { on := 15, ground := Ground.guard }], guard := some (15, true) }) rfl (fun KK hKK => ?_) ?_
                          · have pu31 := parts1 (FS2.out _ (Below.refl _ _))
                            go_simp
                            refine hKK.out _ _ (al_below _ _) (fun _ => ?_)
                            clear hKK KK
                            try simp only [Act.put, List.setIfInBounds_toArray, List.set_cons_zero, List.set_cons_succ]
                            refine wpAnyH_on (al_below _ _) (fun u31 hu31 bu31 => ?_)
                            replace FC1 := on FC1 bu31
                            replace FC2 := on FC2 bu31
                            replace FS1 := on FS1 bu31
                            replace FS2 := on FS2 bu31
                            replace FT := on FT bu31
                            replace FB := on FB bu31
                            replace FP1 := on FP1 bu31
                            have FP2 : Hid (∀ x, From u31 x → Sh.Parts x (some ⟨u30.heap.size, 0, none⟩) [X2]) := fun x hx => shp_kept (by rw [hu31.out]; exact pu31) hx
                            clear pu31
                            refine wpAnyH_ready (rs := [31]) (by kernel_rfl) (by simp) ?_
                            refine AllReadyH.cons (o := { dst := some 133, op := Op.call { callee := Callee.value (Operand.func 27), args := #[Operand.tmp 132], argTypes := #[33] }, type := 59, pos := "own.go:74", after := #[{ on := 30, ground := Ground.data }, { on := 23, ground := Ground.chain }, { on := 15, ground := Ground.guard }], guard := some (15, true) }) rfl (fun KK hKK => ?_) ?_
                            · go_simp
                              refine (CO2.out _ _ (FT.out _ (Below.refl _ _)) (FP2.out _ (Below.refl _ _))).mono ?_
                              rintro e u32' ⟨rfl, bu32'⟩
                              (try go_wp2_with fail)
                              refine hKK.out _ _ (bu32') (fun _ => ?_)
                              clear hKK KK
                              try simp only [Act.put, List.setIfInBounds_toArray, List.set_cons_zero, List.set_cons_succ]
                              refine wpAnyH_on (bu32') (fun u32 hu32 bu32 => ?_)
                              replace FC1 := on FC1 bu32
                              replace FC2 := on FC2 bu32
                              replace FS1 := on FS1 bu32
                              replace FS2 := on FS2 bu32
                              replace FT := on FT bu32
                              replace FB := on FB bu32
                              replace FP1 := on FP1 bu32
                              replace FP2 := on FP2 bu32
                              refine wpAnyH_take (i := 32) (oi := { dst := some 134, op := Op.binOp BinOp.eql 59 (Operand.tmp 125) (Operand.tmp 133) 59, type := 4, pos := "own.go:74", after := #[{ on := 23, ground := Ground.data }, { on := 31, ground := Ground.data }, { on := 15, ground := Ground.guard }], guard := some (15, true) }) (v := .bool false) rfl (by kernel_rfl) (by kernel_rfl) (by kernel_rfl) (fun _ _ _ h => h) (yields_eqh (by rfl) _ _ _ rfl (u8c D1) (u8c D2) false rfl rfl (fun w => E1.out w)) (Below.refl _ _) ?_
                              try simp only [Act.put, List.setIfInBounds_toArray, List.set_cons_zero, List.set_cons_succ]
                              refine wpAnyH_take (i := 33) (oi := { dst := some 135, op := Op.pick (Operand.tmp 117) (Operand.tmp 134) (Operand.const (Value.bool false)), type := 4, pos := "own.go:74", after := #[{ on := 15, ground := Ground.data }, { on := 32, ground := Ground.data }], guard := none }) (v := .bool false) rfl (by kernel_rfl) (by kernel_rfl) (by kernel_rfl) (fun _ _ _ h => h) (Or.inl ⟨by rfl, ?ym34⟩) (Below.refl _ _) ?rm34
                              case ym34 => (intro w hSw; go_simp; try with_reducible rfl)
                              try simp only [Act.put, List.setIfInBounds_toArray, List.set_cons_zero, List.set_cons_succ]
                              refine wpAnyH_done (by kernel_rfl) ?_ _
                              have B9 : Hid (Below w7.heap.size w7 u32) := FB.out _ (Below.refl _ _)
                              clear FC1 FC2 FS1 FS2 FT FB FP1 FP2 CO1 CO2 E1
                              go_wp2
                              go_roundw
                              case rel => exact ⟨j + 1, by omega, HNX.out, by go_num, B9.out⟩
                              case measure => simp [intOf]; omega
                            exact AllReadyH.nil
                          exact AllReadyH.nil
                        refine AllReadyH.cons (o := { dst := some 132, op := Op.buildSlice 33 1 #[(0, Operand.tmp 131)], type := 33, pos := "own.go:74", after := #[{ on := 29, ground := Ground.data }, { on := 15, ground := Ground.guard }], guard := some (15, true) }) rfl (fun KK hKK => ?_) ?_
                        · have pu35 := parts1 (FS2.out _ (Below.refl _ _))
                          go_simp
                          refine hKK.out _ _ (al_below _ _) (fun _ => ?_)
                          clear hKK KK
                          try simp only [Act.put, List.setIfInBounds_toArray, List.set_cons_zero, List.set_cons_succ]
                          refine wpAnyH_on (al_below _ _) (fun u35 hu35 bu35 => ?_)
                          replace FC1 := on FC1 bu35
                          replace FC2 := on FC2 bu35
                          replace FS1 := on FS1 bu35
                          replace FS2 := on FS2 bu35
                          replace FT := on FT bu35
                          replace FB := on FB bu35
                          replace FP1 := on FP1 bu35
                          have FP2 : Hid (∀ x, From u35 x → Sh.Parts x (some ⟨u29.heap.size, 0, none⟩) [X2]) := fun x hx => shp_kept (by rw [hu35.out]; exact pu35) hx
                          clear pu35
                          refine wpAnyH_ready (rs := [23]) (by kernel_rfl) (by simp) ?_
                          refine AllReadyH.cons (o := { dst := some 125, op := Op.call { callee := Callee.value (Operand.func 27), args := #[Operand.tmp 124], argTypes := #[33] }, type := 59, pos := "own.go:74", after := #[{ on := 22, ground := Ground.data }, { on := 15, ground := Ground.chain }, { on := 15, ground := Ground.guard }], guard := some (15, true) }) rfl (fun KK hKK => ?_) ?_
                          · go_simp
                            refine (CO1.out _ _ (FT.out _ (Below.refl _ _)) (FP1.out _ (Below.refl _ _))).mono ?_
                            rintro e u36' ⟨rfl, bu36'⟩
                            (try go_wp2_with fail)
                            refine hKK.out _ _ (bu36') (fun _ => ?_)
                            clear hKK KK
                            try simp only [Act.put, List.setIfInBounds_toArray, List.set_cons_zero, List.set_cons_succ]
                            refine wpAnyH_on (bu36') (fun u36 hu36 bu36 => ?_)
                            replace FC1 := on FC1 bu36
                            replace FC2 := on FC2 bu36
                            replace FS1 := on FS1 bu36
                            replace FS2 := on FS2 bu36
                            replace FT := on FT bu36
                            replace FB := on FB bu36
                            replace FP1 := on FP1 bu36
                            replace FP2 := on FP2 bu36
                            refine wpAnyH_ready (rs := [31]) (by kernel_rfl) (by simp) ?_
                            refine AllReadyH.cons (o := { dst := some 133, op := Op.call { callee := Callee.value (Operand.func 27), args := #[Operand.tmp 132], argTypes := #[33] }, type := 59, pos := "own.go:74", after := #[{ on := 30, ground := Ground.data }, { on := 23, ground := Ground.chain }, { on := 15, ground := Ground.guard }], guard := some (15, true) }) rfl (fun KK hKK => ?_) ?_
                            · go_simp
                              refine (CO2.out _ _ (FT.out _ (Below.refl _ _)) (FP2.out _ (Below.refl _ _))).mono ?_
                              rintro e u37' ⟨rfl, bu37'⟩
                              (try go_wp2_with fail)
                              refine hKK.out _ _ (bu37') (fun _ => ?_)
                              clear hKK KK
                              try simp only [Act.put, List.setIfInBounds_toArray, List.set_cons_zero, List.set_cons_succ]
                              refine wpAnyH_on (bu37') (fun u37 hu37 bu37 => ?_)
                              replace FC1 := on FC1 bu37
                              replace FC2 := on FC2 bu37
                              replace FS1 := on FS1 bu37
                              replace FS2 := on FS2 bu37
                              replace FT := on FT bu37
                              replace FB := on FB bu37
                              replace FP1 := on FP1 bu37
                              replace FP2 := on FP2 bu37
                              refine wpAnyH_take (i := 32) (oi := { dst := some 134, op := Op.binOp BinOp.eql 59 (Operand.tmp 125) (Operand.tmp 133) 59, type := 4, pos := "own.go:74", after := #[{ on := 23, ground := Ground.data }, { on := 31, ground := Ground.data }, { on := 15, ground := Ground.guard }], guard := some (15, true) }) (v := .bool false) rfl (by kernel_rfl) (by kernel_rfl) (by kernel_rfl) (fun _ _ _ h => h) (yields_eqh (by rfl) _ _ _ rfl (u8c D1) (u8c D2) false rfl rfl (fun w => E1.out w)) (Below.refl _ _) ?_
                              try simp only [Act.put, List.setIfInBounds_toArray, List.set_cons_zero, List.set_cons_succ]
                              refine wpAnyH_take (i := 33) (oi := { dst := some 135, op := Op.pick (Operand.tmp 117) (Operand.tmp 134) (Operand.const (Value.bool false)), type := 4, pos := "own.go:74", after := #[{ on := 15, ground := Ground.data }, { on := 32, ground := Ground.data }], guard := none }) (v := .bool false) rfl (by kernel_rfl) (by kernel_rfl) (by kernel_rfl) (fun _ _ _ h => h) (Or.inl ⟨by rfl, ?ym39⟩) (Below.refl _ _) ?rm39
                              case ym39 => (intro w hSw; go_simp; try with_reducible rfl)
                              try simp only [Act.put, List.setIfInBounds_toArray, List.set_cons_zero, List.set_cons_succ]
                              refine wpAnyH_done (by kernel_rfl) ?_ _
                              have B9 : Hid (Below w7.heap.size w7 u37) := FB.out _ (Below.refl _ _)
                              clear FC1 FC2 FS1 FS2 FT FB FP1 FP2 CO1 CO2 E1
                              go_wp2
                              go_roundw
                              case rel => exact ⟨j + 1, by omega, HNX.out, by go_num, B9.out⟩
                              case measure => simp [intOf]; omega
                            exact AllReadyH.nil
                          exact AllReadyH.nil
                        exact AllReadyH.nil
                      refine AllReadyH.cons (o := { dst := some 132, op := Op.buildSlice 33 1 #[(0, Operand.tmp 131)], type := 33, pos := "own.go:74", after := #[{ on := 29, ground := Ground.data }, { on := 15, ground := Ground.guard }], guard := some (15, true) }) rfl (fun KK hKK => ?_) ?_
                      · have pu40 := parts1 (FS2.out _ (Below.refl _ _))
                        go_simp
                        refine hKK.out _ _ (al_below _ _) (fun _ => ?_)
                        clear hKK KK
                        try simp only [Act.put, List.setIfInBounds_toArray, List.set_cons_zero, List.set_cons_succ]
                        refine wpAnyH_on (al_below _ _) (fun u40 hu40 bu40 => ?_)
                        replace FC1 := on FC1 bu40
                        replace FC2 := on FC2 bu40
                        replace FS1 := on FS1 bu40
                        replace FS2 := on FS2 bu40
                        replace FT := on FT bu40
                        replace FB := on FB bu40
                        have FP2 : Hid (∀ x, From u40 x → Sh.Parts x (some ⟨u0.heap.size, 0, none⟩) [X2]) := fun x hx => shp_kept (by rw [hu40.out]; exact pu40) hx
                        clear pu40
                        refine wpAnyH_ready (rs := [22]) (by kernel_rfl) (by simp) ?_
                        refine AllReadyH.cons (o := { dst := some 124, op := Op.buildSlice 33 1 #[(0, Operand.tmp 123)], type := 33, pos := "own.go:74", after := #[{ on := 21, ground := Ground.data }, { on := 15, ground := Ground.guard }], guard := some (15, true) }) rfl (fun KK hKK => ?_) ?_
                        · have pu41 := parts1 (FS1.out _ (Below.refl _ _))
                          go_simp
                          refine hKK.out _ _ (al_below _ _) (fun _ => ?_)
                          clear hKK KK
                          try simp only [Act.put, List.setIfInBounds_toArray, List.set_cons_zero, List.set_cons_succ]
                          refine wpAnyH_on (al_below _ _) (fun u41 hu41 bu41 => ?_)
                          replace FC1 := on FC1 bu41
                          replace FC2 := on FC2 bu41
                          replace FS1 := on FS1 bu41
                          replace FS2 := on FS2 bu41
                          replace FT := on FT bu41
                          replace FB := on FB bu41
                          replace FP2 := on FP2 bu41
                          have FP1 : Hid (∀ x, From u41 x → Sh.Parts x (some ⟨u40.heap.size, 0, none⟩) [X1]) := fun x hx => shp_kept (by rw [hu41.out]; exact pu41) hx
                          clear pu41
                          refine wpAnyH_ready (rs := [23]) (by kernel_rfl) (by simp) ?_
                          refine AllReadyH.cons (o := { dst := some 125, op := Op.call { callee := Callee.value (Operand.func 27), args := #[Operand.tmp 124], argTypes := #[33] }, type := 59, pos := "own.go:74", after := #[{ on := 22, ground := Ground.data }, { on := 15, ground := Ground.chain }, { on := 15, ground := Ground.guard }], guard := some (15, true) }) rfl (fun KK hKK => ?_) ?_
                          · go_simp
                            refine (CO1.out _ _ (FT.out _ (Below.refl _ _)) (FP1.out _ (Below.refl _ _))).mono ?_
                            rintro e u42' ⟨rfl, bu42'⟩
                            (try go_wp2_with fail)
                            refine hKK.out _ _ (bu42') (fun _ => ?_)
                            clear hKK KK
                            try simp only [Act.put, List.setIfInBounds_toArray, List.set_cons_zero, List.set_cons_succ]
                            refine wpAnyH_on (bu42') (fun u42 hu42 bu42 => ?_)
                            replace FC1 := on FC1 bu42
                            replace FC2 := on FC2 bu42
                            replace FS1 := on FS1 bu42
                            replace FS2 := on FS2 bu42
                            replace FT := on FT bu42
                            replace FB := on FB bu42
                            replace FP2 := on FP2 bu42
                            replace FP1 := on FP1 bu42
                            refine wpAnyH_ready (rs := [31]) (by kernel_rfl) (by simp) ?_
                            refine AllReadyH.cons (o := { dst := some 133, op := Op.call { callee := Callee.value (Operand.func 27), args := #[Operand.tmp 132], argTypes := #[33] }, type := 59, pos := "own.go:74", after := #[{ on := 30, ground := Ground.data }, { on := 23, ground := Ground.chain }, { on := 15, ground := Ground.guard }], guard := some (15, true) }) rfl (fun KK hKK => ?_) ?_
                            · go_simp
                              refine (CO2.out _ _ (FT.out _ (Below.refl _ _)) (FP2.out _ (Below.refl _ _))).mono ?_
                              rintro e u43' ⟨rfl, bu43'⟩
                              (try go_wp2_with fail)
                              refine hKK.out _ _ (bu43') (fun _ => ?_)
                              clear hKK KK
                              try simp only [Act.put, List.setIfInBounds_toArray, List.set_cons_zero, List.set_cons_succ]
                              refine wpAnyH_on (bu43') (fun u43 hu43 bu43 => ?_)
                              replace FC1 := on FC1 bu43
                              replace FC2 := on FC2 bu43
                              replace FS1 := on FS1 bu43
                              replace FS2 := on FS2 bu43
                              replace FT := on FT bu43
                              replace FB := on FB bu43
                              replace FP2 := on FP2 bu43
                              replace FP1 := on FP1 bu43
                              refine wpAnyH_take (i := 32) (oi := { dst := some 134, op := Op.binOp BinOp.eql 59 (Operand.tmp 125) (Operand.tmp 133) 59, type := 4, pos := "own.go:74", after := #[{ on := 23, ground := Ground.data }, { on := 31, ground := Ground.data }, { on := 15, ground := Ground.guard }], guard := some (15, true) }) (v := .bool false) rfl (by kernel_rfl) (by kernel_rfl) (by kernel_rfl) (fun _ _ _ h => h) (yields_eqh (by rfl) _ _ _ rfl (u8c D1) (u8c D2) false rfl rfl (fun w => E1.out w)) (Below.refl _ _) ?_
                              try simp only [Act.put, List.setIfInBounds_toArray, List.set_cons_zero, List.set_cons_succ]
                              refine wpAnyH_take (i := 33) (oi := { dst := some 135, op := Op.pick (Operand.tmp 117) (Operand.tmp 134) (Operand.const (Value.bool false)), type := 4, pos := "own.go:74", after := #[{ on := 15, ground := Ground.data }, { on := 32, ground := Ground.data }], guard := none }) (v := .bool false) rfl (by kernel_rfl) (by kernel_rfl) (by kernel_rfl) (fun _ _ _ h => h) (Or.inl ⟨by rfl, ?ym45⟩) (Below.refl _ _) ?rm45
                              case ym45 => (intro w hSw; go_simp; try with_reducible rfl)
                              try simp only [Act.put, List.setIfInBounds_toArray, List.set_cons_zero, List.set_cons_succ]
                              refine wpAnyH_done (by kernel_rfl) ?_ _
                              have B9 : Hid (Below w7.heap.size w7 u43) := FB.out _ (Below.refl _ _)
                              clear FC1 FC2 FS1 FS2 FT FB FP1 FP2 CO1 CO2 E1
                              go_wp2
                              go_roundw
                              case rel => exact ⟨j + 1, by omega, HNX.out, by go_num, B9.out⟩
                              case measure => simp [intOf]; omega
                            exact AllReadyH.nil
                          exact AllReadyH.nil
                        exact AllReadyH.nil
                      exact AllReadyH.nil
              · as_aux_lemma =>
                  have lt2 : ¬ (j : Int) + (k : Int) ≤ (LB : Int) := by omega
                  have lt3 : decide ((j : Int) + (k : Int) ≤ (LB : Int)) = false := decide_eq_false lt2
                  have hiA : i + 1 ≤ A := by
                    rcases Nat.lt_or_ge i A with h | h
                    · exact h
                    · have := HJ.out (by omega)
                      omega
                  go_wp2
                  go_roundw
                  case rel => exact ⟨i + 1, U + k, hiA, HUN2.out, by go_num, HB.out⟩
                  case measure => simp [intOf]; omega
end Go.Proofs.YtgnampbbkaolmaaDoor.deltaMirrors
