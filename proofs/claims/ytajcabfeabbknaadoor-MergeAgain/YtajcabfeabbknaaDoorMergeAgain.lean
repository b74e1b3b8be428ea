/-
  What is wanted is a tree with all of the source's; made the destination, without deleting, nothing more is to be done: for every two lists of entries and every policy, no condition.
-/
import Derived.Test.YtajcabfeabbknaaDoorFr
import Derived.Test.YtajcabfeabbknaaDoorLa
import Derived.Deep.RegionHeld3
namespace Go.Proofs.YtajcabfeabbknaaDoor.mergeAgain
open Go.ChangeShapes Go.WideShapes Go.ChangeAt Go.RowKit Go.Deep Go.ChangeMaps
set_option maxRecDepth 100000

set_option maxHeartbeats 8000000 in
set_option maxRecDepth 100000 in
theorem walk (v : Value) (s : List En) (u : Value) (d : List En) (pv : Value) (P : Pol) (w : World) (hw : Mx w) (hs : ES w v s) (hd : ES w u d) (hp : pv = .agg #[.bool P.del, .bool P.bak]) :
    Calls Tryd.prog 4 #[v, u, pv] w fun e w' => e = .returned (.bool true) ∧ Below w.heap.size w w' := by
  subst hp
  obtain ⟨a, c, rfl, g2, g3, _⟩ := hs.shape
  obtain ⟨a2, c2, rfl, g4, g5, _⟩ := hd.shape
  obtain ⟨W1, hW1⟩ : ∃ W1, W1 = w.alloc (.cells #[.bool P.del, .bool P.bak] 24) := ⟨_, rfl⟩
  have b1 : Below w.heap.size w W1 := by rw [hW1]; exact (Below.refl _ _).alloc (Nat.le_refl _) _
  have k1 : W1.cell? ⟨w.heap.size, 0, none⟩ = some (.bool P.del) ∧ W1.cell? ⟨w.heap.size, 1, none⟩ = some (.bool P.bak) := by
    rw [hW1, World.cell?_alloc_at _ _ _ _ rfl, World.cell?_alloc_at _ _ _ _ rfl]; exact ⟨rfl, rfl⟩
  have HES : Hid (ES W1 (.slice a s.length c) s) := hs.kept b1
  have HED : Hid (ES W1 (.slice a2 d.length c2) d) := hd.kept b1
  have HM : Hid (Mx W1) := hw.kept b1
  have B1 : Hid (Below w.heap.size w W1) := b1
  have CAW : Hid (∀ W, Below W1.heap.size W1 W → Calls Tryd.prog 7 #[] W fun e w' => e = .returned (.bool true) ∧ Below W.heap.size W w') := fun W hb => awake_any W (HM.out.kept hb)
  have CL1 := light_any _ s 40 2000 W1 HES.out (by omega) (by omega) (by unfold maxLen at g3; omega)
  have CL2 := light_any _ d 40 2000 W1 HED.out (by omega) (by omega) (by unfold maxLen at g5; omega)
  have CW : Hid (Lt s → Lt d → Calls Tryd.prog 8 #[.slice a s.length c, .slice a2 d.length c2, .agg #[.bool P.del, .bool P.bak]] W1 fun e w' => ∃ v', e = .returned (.tuple #[v', .int .i64 (want s d P).2]) ∧ OE w' W1.heap.size v' (want s d P).1 ∧ Below W1.heap.size W1 w') := fun l1 l2 => want_any _ _ s d P W1 HES.out l1 HED.out l2 HM.out
  have HWL : Hid (Lt s → Lt d → (want s d P).2 = 0 → Lt (want s d P).1) := fun l1 l2 e => by
    obtain ⟨_, _, h3, h4⟩ := want_ok e
    rw [h3]
    exact wnt_lt l1 l2 (by omega)
  have HAG : Hid ((want s d P).2 = 0 → ckT (want s d P).1 = 0 ∧ (∀ x ∈ s, gotB (want s d P).1 x.k = true ∧ got (want s d P).1 x.k = x) ∧ want s (want s d P).1 P0 = ((want s d P).1, 0) ∧ plan s (want s d P).1 P0 = ([], 0)) := again_all
  have g9 : s.length ≤ 9223372036854775807 := by unfold maxLen at g3; omega
  obtain ⟨G1, hG1⟩ : ∃ G1 : Prop, G1 = (s.length ≤ 40 ∧ ∀ x ∈ s, x.p.size ≤ 1000 ∧ x.z.length ≤ 2000) := ⟨_, rfl⟩
  obtain ⟨G2, hG2⟩ : ∃ G2 : Prop, G2 = (d.length ≤ 40 ∧ ∀ x ∈ d, x.p.size ≤ 1000 ∧ x.z.length ≤ 2000) := ⟨_, rfl⟩
  rw [← hG1] at CL1
  rw [← hG2] at CL2
  have HG1 : Hid (G1 → Lt s) := fun h => by rw [hG1] at h; exact ⟨by omega, fun x hx => ⟨(h.2 x hx).1, by have := (h.2 x hx).2; omega⟩⟩
  have HG2 : Hid (G2 → Lt d) := fun h => by rw [hG2] at h; exact ⟨by omega, fun x hx => ⟨(h.2 x hx).1, by have := (h.2 x hx).2; omega⟩⟩
  obtain ⟨n, hn⟩ : ∃ n, n = s.length := ⟨_, rfl⟩
  obtain ⟨m, hm⟩ : ∃ m, m = d.length := ⟨_, rfl⟩
  have HN : Hid (n = s.length) := hn
  rw [← hn] at HES CL1 CW g2 g9 ⊢
  rw [← hm] at HED CL2 CW ⊢
  obtain ⟨kk1, kk2⟩ := k1
  clear hw hs hd g3 g4 g5 hG1 hG2 hn hm b1
  have KK : Hid (W1.cell? ⟨w.heap.size, 0, none⟩ = some (.bool P.del) ∧ W1.cell? ⟨w.heap.size, 1, none⟩ = some (.bool P.bak)) := ⟨kk1, kk2⟩
  clear kk1 kk2
  generalize want s d P = R at *
  go_enter Tryd.func4, Tryd.ntmps4
  go_wp2_with fail
  rw [← hW1]
  clear hW1
  refine CL1.mono ?_
  rintro e wq ⟨r1, rfl, hq, hr⟩
  replace hq := hq.symm
  subst hq
  have HR1 : Hid (r1 = true → G1) := hr
  clear hr CL1
  cases r1 with
  | false =>
    go_wp2_with fail
    refine (CAW.out W1 (Below.refl _ _)).mono ?_
    rintro e w2 ⟨rfl, b2⟩
    have B2 : Hid (Below w.heap.size w w2) := B1.out.trans (b2.mono B1.out.size)
    clear b2
    go_wp2
    go_ret
    exact ⟨rfl, B2.out⟩
  | true =>
  have LS : Hid (Lt s) := HG1.out (HR1.out rfl)
  clear HR1 HG1
  go_wp2_with fail
  refine CL2.mono ?_
  rintro e wq ⟨r2, rfl, hq, hr⟩
  replace hq := hq.symm
  subst hq
  have HR2 : Hid (r2 = true → G2) := hr
  clear hr CL2
  cases r2 with
  | false =>
    go_wp2_with fail
    refine (CAW.out W1 (Below.refl _ _)).mono ?_
    rintro e w2 ⟨rfl, b2⟩
    have B2 : Hid (Below w.heap.size w w2) := B1.out.trans (b2.mono B1.out.size)
    clear b2
    go_wp2
    go_ret
    exact ⟨rfl, B2.out⟩
  | true =>
  have LD : Hid (Lt d) := HG2.out (HR2.out rfl)
  clear HR2 HG2
  obtain ⟨kk1, kk2⟩ := KK.out
  go_wp2_with fail
  refine (CW.out LS.out LD.out).mono ?_
  rintro e w3 ⟨v3, rfl, o3, b3⟩
  have B3 : Hid (Below W1.heap.size W1 w3) := b3
  have E3 : Hid (ES w3 v3 R.1) := o3.es
  obtain ⟨a3, c3, rfl, _, _, _⟩ := o3.es.shape
  clear b3 o3 CW kk1 kk2
  have B3w : Hid (Below w.heap.size w w3) := B1.out.trans (B3.out.mono B1.out.size)
  by_cases h0 : R.2 = 0
  case neg =>
    generalize R.2 = rk at *
    generalize R.1.length = rn at *
    have t0 : (rk != 0) = true := by simp [h0]
    go_wp2_with fail
    refine (CAW.out w3 B3.out).mono ?_
    rintro e w4 ⟨rfl, b4⟩
    have B4 : Hid (Below w.heap.size w w4) := B3w.out.trans (b4.mono B3w.out.size)
    clear b4
    go_wp2
    go_ret
    exact ⟨rfl, B4.out⟩
  have LW : Hid (Lt R.1) := HWL.out LS.out LD.out h0
  obtain ⟨q1, q2, q3, q4⟩ := HAG.out h0
  have HQ1 : Hid (ckT R.1 = 0) := q1
  have HQ2 : Hid (∀ x ∈ s, gotB R.1 x.k = true ∧ got R.1 x.k = x) := q2
  have CW2 : Hid (∀ W, Below w3.heap.size w3 W → Calls Tryd.prog 8 #[.slice a n c, .slice a3 R.1.length c3, .agg #[.bool false, .bool false]] W fun e w' => ∃ v', e = .returned (.tuple #[v', .int .i64 0]) ∧ OE w' W.heap.size v' R.1 ∧ Below W.heap.size W w') := fun W hb => by
    have hb' := B3.out.trans (hb.mono B3.out.size)
    have := want_any (.slice a n c) (.slice a3 R.1.length c3) s R.1 P0 W (HES.out.kept hb') LS.out (E3.out.kept hb) LW.out (HM.out.kept hb')
    rw [q3] at this
    exact this
  have CP2 : Hid (∀ W, Below w3.heap.size w3 W → Calls Tryd.prog 9 #[.slice a n c, .slice a3 R.1.length c3, .agg #[.bool false, .bool false]] W fun e w' => ∃ v', e = .returned (.tuple #[v', .int .i64 0]) ∧ SR w' W.heap.size v' [] ∧ Below W.heap.size W w') := fun W hb => by
    have hb' := B3.out.trans (hb.mono B3.out.size)
    have := plan_any (.slice a n c) (.slice a3 R.1.length c3) s R.1 P0 W (HES.out.kept hb') LS.out (E3.out.kept hb) LW.out (HM.out.kept hb')
    rw [q4] at this
    exact this
  have CC2 : Hid (∀ W, Below w3.heap.size w3 W → Calls Tryd.prog 11 #[.slice a3 R.1.length c3] W fun e w' => e = .returned (.int .i64 0) ∧ Below W.heap.size W w') := fun W hb => by
    have hb' := B3.out.trans (hb.mono B3.out.size)
    have := checkT_any (.slice a3 R.1.length c3) R.1 W (E3.out.kept hb) LW.out (HM.out.kept hb')
    rw [q1] at this
    exact this
  have CS2 : Hid (∀ W v', Below w3.heap.size w3 W → ES W v' R.1 → Calls Tryd.prog 13 #[v', .slice a3 R.1.length c3] W fun e w' => e = .returned (.bool true) ∧ Below W.heap.size W w') := fun W v' hb he => by
    have := same_any v' (.slice a3 R.1.length c3) R.1 R.1 W he (E3.out.kept hb) (by have := LW.out.1; omega) (by have := LW.out.1; omega)
    rw [(sam_iff _ _).2 rfl] at this
    exact this
  have CG : Hid (∀ W (x : En), Below w3.heap.size w3 W → x ∈ s → Calls Tryd.prog 14 #[.slice a3 R.1.length c3, .string x.p] W fun e w' => ∃ u, e = .returned (.tuple #[u, .bool true]) ∧ EV w' u x ∧ Below W.heap.size W w') := fun W x hb hx => by
    have := get_any (.slice a3 R.1.length c3) R.1 x.p W (E3.out.kept hb) LW.out
    rw [(HQ2.out x hx).1, (HQ2.out x hx).2] at this
    exact this
  clear q1 q2 q3 q4 HAG HWL
  rw [h0]
  clear h0
  obtain ⟨nr, hnr⟩ : ∃ nr, nr = R.1.length := ⟨_, rfl⟩
  rw [← hnr] at E3 CW2 CP2 CC2 CS2 CG ⊢
  clear hnr
  go_wp2
  go_loopw [9] (fun q wr => ∃ j : Nat, j ≤ n ∧ q = .int .i64 j ∧ Below w3.heap.size w3 wr) (fun q _ => n - (intOf q).toNat)
  case atStart => exact ⟨0, by omega, rfl, Below.refl _ _⟩
  case round =>
    obtain ⟨j, hj, rfl, bel⟩ := hrel
    have HB : Hid (Below w3.heap.size w3 wr) := bel
    have HBW : Hid (Below W1.heap.size W1 wr) := B3.out.trans (bel.mono B3.out.size)
    have BW : Hid (Below w.heap.size w wr) := B3w.out.trans (bel.mono B3w.out.size)
    clear bel
    by_cases hlt : j < n
    · have lt2 : (j : Int) < (n : Int) := by omega
      obtain ⟨b, off, ua, un, uc, rfl, c1, c2, c3', hun, s1⟩ := (HES.out.kept HBW.out).at j (by rw [← HN.out]; exact hlt)
      have q1 : IntKind.i64.wrap ((j : Int) + 1) = ((j + 1 : Nat) : Int) := by simp [IntKind.wrap, IntKind.bits, IntKind.signed]; omega
      have CG1 := CG.out wr (atE s j) HB.out (atE_mem s j (by rw [← HN.out]; exact hlt))
      have HC : Hid (∀ W, Below wr.heap.size wr W → W.cell? ⟨b, off + j * 3, none⟩ = some (.string (atE s j).p) ∧ W.cell? ⟨b, off + j * 3 + 1, none⟩ = some (.bool (atE s j).d) ∧ W.cell? ⟨b, off + j * 3 + 2, none⟩ = some (.slice ua un uc)) := fun W hb => ⟨(hb.cell (World.block_lt_of_cell? _ _ c1)).trans c1, (hb.cell (World.block_lt_of_cell? _ _ c2)).trans c2, (hb.cell (World.block_lt_of_cell? _ _ c3')).trans c3'⟩
      have SX : Hid (Sl wr (.slice ua un uc) (atE s j).z) := s1
      clear hun s1
      generalize atE s j = x at *
      go_wp2_with fail
      refine CG1.mono ?_
      rintro e w4 ⟨u4, rfl, ⟨ya, yn, yc, rfl, sy⟩, b4⟩
      obtain ⟨W5, hW5⟩ : ∃ W5, W5 = w4.alloc (.cells #[.string x.p, .bool x.d, .slice ya yn yc] 43) := ⟨_, rfl⟩
      have b5 : Below w4.heap.size w4 W5 := by rw [hW5]; exact (Below.refl _ _).alloc (Nat.le_refl _) _
      have K5 : W5.heap[w4.heap.size]? = some (.cells #[.string x.p, .bool x.d, .slice ya yn yc] 43 (0, 0)) := by rw [hW5]; exact heap_alloc_new _ _
      have D5 : Hid (Below wr.heap.size wr W5) := b4.trans (b5.mono b4.size)
      have HT : Hid (∀ W, Below W5.heap.size W5 W → (W.cell? ⟨w4.heap.size, 0, none⟩ = some (.string x.p) ∧ W.cell? ⟨w4.heap.size, 1, none⟩ = some (.bool x.d) ∧ W.cell? ⟨w4.heap.size, 2, none⟩ = some (.slice ya yn yc)) ∧ W.cell? ⟨b, off + j * 3, none⟩ = some (.string x.p) ∧ W.cell? ⟨b, off + j * 3 + 1, none⟩ = some (.bool x.d) ∧ W.cell? ⟨b, off + j * 3 + 2, none⟩ = some (.slice ua un uc)) := fun W hb => by
        obtain ⟨p0, p1, p2, _⟩ := trio ((hb.block _ (lt_of_block K5)).trans K5)
        exact ⟨⟨p0, p1, p2⟩, HC.out W (D5.out.trans (hb.mono D5.out.size))⟩
      have CS := rsameEntry_any (.agg #[.string x.p, .bool x.d, .slice ya yn yc]) (.agg #[.string x.p, .bool x.d, .slice ua un uc]) x x W5.drew ⟨ya, yn, yc, rfl, (sy.kept b5).kept (Below.refl _ _).drew⟩ ⟨ua, un, uc, rfl, SX.out.kept D5.out.drew⟩
      rw [(samE_iff x x).2 rfl] at CS
      have DR : Hid (Below W5.heap.size W5 W5.drew) := (Below.refl _ _).drew
      clear CG1 b4 b5 K5 sy SX
      generalize x.p = xp at *
      generalize x.d = xd at *
      go_wp2
      rw [← hW5]
      clear hW5
      have k5 := HT.out W5 (Below.refl _ _)
      have k5d := HT.out W5.drew DR.out
      clear c1 c2 c3'
      go_region_held3 (fun W => (W.cell? ⟨w4.heap.size, 0, none⟩ = some (.string xp) ∧ W.cell? ⟨w4.heap.size, 1, none⟩ = some (.bool xd) ∧ W.cell? ⟨w4.heap.size, 2, none⟩ = some (.slice ya yn yc)) ∧ W.cell? ⟨b, off + j * 3, none⟩ = some (.string xp) ∧ W.cell? ⟨b, off + j * 3 + 1, none⟩ = some (.bool xd) ∧ W.cell? ⟨b, off + j * 3 + 2, none⟩ = some (.slice ua un uc)) (first | exact k5 | exact k5d | exact k6)
        (first
          | (go_at_call 15; refine CS.mono ?_; rintro e w6 ⟨rfl, b6⟩; have D6 := DR.out.trans (b6.mono DR.out.size); have k6 := HT.out w6 D6))
      all_goals
        have B6 : Hid (Below w3.heap.size w3 w6) := by
          have := D5.out.trans (D6.mono D5.out.size)
          exact HB.out.trans (this.mono HB.out.size)
        clear k5 k5d k6 D6 b6 CS
        go_wp2
        go_roundw
        case rel => exact ⟨j + 1, by omega, by go_num, B6.out⟩
        case measure => simp [intOf]; omega
    · obtain rfl : j = n := by omega
      go_wp2_with fail
      refine (CW2.out wr HB.out).mono ?_
      rintro e w4 ⟨v4, rfl, o4, b4⟩
      have B4 : Hid (Below w3.heap.size w3 w4) := HB.out.trans (b4.mono HB.out.size)
      have E4 : Hid (ES w4 v4 R.1) := o4.es
      obtain ⟨a4, c4, rfl, _, _, _⟩ := o4.es.shape
      clear b4 o4
      go_wp2_with fail
      refine (CP2.out w4 B4.out).mono ?_
      rintro e w5 ⟨v5, rfl, o5, b5⟩
      have B5 : Hid (Below w3.heap.size w3 w5) := B4.out.trans (b5.mono B4.out.size)
      have E5 : Hid (ES w5 (.slice a4 R.1.length c4) R.1) := E4.out.kept b5
      obtain ⟨a5, c5, rfl⟩ := own_shape o5
      clear b5 o5
      go_wp2_with fail
      refine (CC2.out w5 B5.out).mono ?_
      rintro e w6 ⟨rfl, b6⟩
      have B6 : Hid (Below w3.heap.size w3 w6) := B5.out.trans (b6.mono B5.out.size)
      have E6 : Hid (ES w6 (.slice a4 R.1.length c4) R.1) := E5.out.kept b6
      clear b6
      go_wp2_with fail
      refine (CS2.out w6 _ B6.out E6.out).mono ?_
      rintro e w7 ⟨rfl, b7⟩
      have B7 : Hid (Below w3.heap.size w3 w7) := B6.out.trans (b7.mono B6.out.size)
      clear b7
      have B7' : Hid (Below W1.heap.size W1 w7) := B3.out.trans (B7.out.mono B3.out.size)
      go_wp2_with fail
      refine (CAW.out w7 B7'.out).mono ?_
      rintro e w8 ⟨rfl, b8⟩
      have B8 : Hid (Below w.heap.size w w8) := B1.out.trans ((B7'.out.trans (b8.mono B7'.out.size)).mono B1.out.size)
      clear b8
      go_wp2
      go_ret
      exact ⟨rfl, B8.out⟩

theorem contract (H : Type) (enc : TypeId × Value → H) (W : World) (base : Nat) (args : Array Value) (ds gs : List (DataW H)) (before : List MemPlace)
    (hval : ∀ (j : Nat) t v, Tryd.f4.params[j]? = some t → args[j]? = some v → Value.okWide Tryd.prog W .any base t v)
    (hW : DataW.Whole enc Tryd.prog Tryd.f4.params.toList Rows.mergeAgainSpec.vars false W args.toList ds gs before) (_hL : laidMetH Tryd.prog Rows.mergeAgainRow.laid W) (hsh : W.ShapedOpen Tryd.prog)
    (hsz0 : (DataW.weightsEach Tryd.prog (Tryd.f4.params.toList ++ Rows.mergeAgainSpec.plain.varTypes Tryd.prog) (ds ++ gs)).all (· ≤ reachBytes) = true) :
    Calls Tryd.prog 4 args W fun e W' => ∃ v, e = .returned v ∧ Rows.mergeAgainSpec.post enc Tryd.prog Tryd.f4 false true false false W args v W' := by
  have hW' := hW
  obtain ⟨p, q, hA0, hV, rfl, hfz, hnd⟩ := hW
  have hA : DataW.TrodAll enc Tryd.prog W 0 (fun _ => true) true Tryd.f4.params.toList args.toList ds p := hA0
  rw [Tryd.params4] at hA hval hsz0
  obtain ⟨v0, vs0, d0, ds0, p0, q0, hargs, rfl, rfl, h0, r0⟩ := trodAll_cons hA
  obtain ⟨v1, vs1, d1, ds1, p1, q1, rfl, rfl, rfl, h1, r1⟩ := trodAll_cons r0
  obtain ⟨v2, vs2, d2, ds2, p2, q2, rfl, rfl, rfl, h2, r2⟩ := trodAll_cons r1
  obtain ⟨rfl, rfl, rfl⟩ := trodAll_nil r2
  obtain rfl : args = #[v0, v1, v2] := by cases args; simp_all
  obtain ⟨rfl, rfl⟩ := trodVars_none hV
  have k0 := h0
  have lt0 : ∀ x ∈ p0, x.block < W.heap.size := by obtain ⟨m, hm⟩ := k0; exact DataW.trod_lt m _ _ _ hm
  obtain ⟨L0, w0⟩ := ents_in (hval 0 22 v0 rfl rfl) h0
  have k1 := h1
  have lt1 : ∀ x ∈ p1, x.block < W.heap.size := by obtain ⟨m, hm⟩ := k1; exact DataW.trod_lt m _ _ _ hm
  obtain ⟨L1, w1⟩ := ents_in (hval 1 22 v1 rfl rfl) h1
  have k2 := h2
  have lt2 : ∀ x ∈ p2, x.block < W.heap.size := by obtain ⟨m, hm⟩ := k2; exact DataW.trod_lt m _ _ _ hm
  obtain ⟨L2, w2⟩ := pol_in (hval 2 24 v2 rfl rfl) h2
  clear hA0
  refine (walk v0 L0 v1 L1 v2 L2 W (mx_of hsh) w0 w1 w2).mono fun e W' ⟨he, bel⟩ => ?_
  subst he
  exact ⟨_, rfl, _, _, _, [], _, [], hW', trodAll_mk1 (shut_bool Tryd.underlying4 _), (trodAll_cons_mk (Below.trod laidOut (by kernel_rfl) (of_decide_eq_true (by kernel_rfl)) k0 bel lt0) (trodAll_cons_mk (Below.trod laidOut (by kernel_rfl) (of_decide_eq_true (by kernel_rfl)) k1 bel lt1) (trodAll_cons_mk (Below.trod laidOut (by kernel_rfl) (of_decide_eq_true (by kernel_rfl)) k2 bel lt2) trodAll_mk0))), rfl, bel.frame _, fun h => by cases h⟩

theorem laid_met (os : Os) : laidMet Tryd.prog Rows.mergeAgainRow.laid (({ World.holding Tryd.prog os ⟨#[], #[], []⟩ with heap := ((((World.holding Tryd.prog os ⟨#[], #[], []⟩).heap.modify 0 (fun
      | .cells _ t frozen => .cells #[.int .i64 0] t frozen
      | o => o)).modify 1 (fun
      | .cells _ t frozen => .cells firstCells t frozen
      | o => o)).modify 2 (fun
      | .cells _ t frozen => .cells rangeCells t frozen
      | o => o)) } : World).forCall (fun _ _ => 0) ⟨#[], #[.slice none 0 0, .slice none 0 0, .agg #[.bool false, .bool false]], []⟩).memory :=
  laidMet_of_run' 8 (by kernel_rfl) (by kernel_rfl)
theorem reads (os : Os) {H : Type} (enc : TypeId × Value → H) : ∃ places, DataW.whole enc Tryd.prog (({ World.holding Tryd.prog os ⟨#[], #[], []⟩ with heap := ((((World.holding Tryd.prog os ⟨#[], #[], []⟩).heap.modify 0 (fun
      | .cells _ t frozen => .cells #[.int .i64 0] t frozen
      | o => o)).modify 1 (fun
      | .cells _ t frozen => .cells firstCells t frozen
      | o => o)).modify 2 (fun
      | .cells _ t frozen => .cells rangeCells t frozen
      | o => o)) } : World).forCall (fun _ _ => 0) ⟨#[], #[.slice none 0 0, .slice none 0 0, .agg #[.bool false, .bool false]], []⟩).memory Tryd.f4.params.toList Rows.mergeAgainSpec.vars false #[Value.slice none 0 0, .slice none 0 0, .agg #[.bool false, .bool false]].toList 8 = some ([.nil, .nil, .agg [.lit (.bool false), .lit (.bool false)]], [], places) :=
  ⟨[], by kernel_rfl⟩

set_option maxRecDepth 100000 in
theorem lifted (os : Os) (started : os.Started) (H : Type) (enc : TypeId × Value → H) (F : Stop.Interp) :
    ReturnsInHanded {} Tryd.checked os 4 .any ((OpenSpec.ofChange Rows.mergeAgainSpec).preRow enc Tryd.prog Tryd.f4 Rows.mergeAgainRow.domain false Rows.mergeAgainRow.laid) (((OpenSpec.ofChange Rows.mergeAgainSpec).at F).post enc Tryd.prog Tryd.f4 false true false false) := by
  obtain ⟨places, hx⟩ := reads os enc
  refine returnsInHanded_of_row (C := Tryd.checked) (s := OpenSpec.ofChange Rows.mergeAgainSpec) own started (by kernel_rfl) Tryd.func4
    (witness_row_at (enc := enc) (C := Tryd.checked) false ({ World.holding Tryd.prog os ⟨#[], #[], []⟩ with heap := ((((World.holding Tryd.prog os ⟨#[], #[], []⟩).heap.modify 0 (fun
      | .cells _ t frozen => .cells #[.int .i64 0] t frozen
      | o => o)).modify 1 (fun
      | .cells _ t frozen => .cells firstCells t frozen
      | o => o)).modify 2 (fun
      | .cells _ t frozen => .cells rangeCells t frozen
      | o => o)) } : World) #[.slice none 0 0, .slice none 0 0, .agg #[.bool false, .bool false]] rfl (by kernel_rfl) (by kernel_rfl) (by kernel_rfl)
      (OpenSpec.preRow_of_cond 8 hx (by kernel_rfl) (fun k hk => by cases hk) (by kernel_rfl) (laid_met os))) ?_
  intro W base args ds gs before hval hW _ _ hsz hL hsh _
  exact contract H enc W base args ds gs before hval hW hL hsh hsz

theorem said : Rows.MergeAgainSaid :=
  OpenClaim.holds_of_cond 4 Tryd.f4 rfl rfl rfl rfl rfl rfl rfl ⟨rfl, rfl, rfl, rfl, rfl⟩ rfl rfl rfl rfl rfl (by kernel_rfl) Tryd.func4 (by kernel_rfl)
    (of_decide_eq_true (by kernel_rfl)) (by unfold Func.isWrapper; first | (rw [if_pos (by decide +kernel)]; kernel_rfl) | (rw [if_neg (by decide +kernel)]; exact ⟨rfl, rfl⟩))
    (fun os started H enc _ F => by rw [OpenClaim.pre_eq_preRow]; exact lifted os started H enc F)

theorem plain (f : FuncId) (fn : Func) (hf : Tryd.pinned.checked.prog.funcNamed "sumpter/sumpterlaw09.MergeAgain" = some f) (hfn : Tryd.pinned.checked.prog.funcs[f]? = some fn) :
    false = Tryd.pinned.checked.prog.looks [] ∧ ∀ (j : Nat) t, fn.params[j]? = some t → Tryd.pinned.checked.prog.wantsStandIn t = false := by
  obtain rfl : f = 4 := Option.some.inj ((show Tryd.prog.funcNamed "sumpter/sumpterlaw09.MergeAgain" = some 4 by kernel_rfl).symm.trans hf) |>.symm
  obtain rfl : fn = Tryd.f4 := (Option.some.inj (Tryd.func4.symm.trans hfn)).symm
  refine ⟨by kernel_rfl, fun j t ht => ?_⟩
  rw [Tryd.params4] at ht
  have hm : t ∈ [22, 22, 24] := by simpa using Array.mem_of_getElem? ht
  have hall : ([22, 22, 24].all fun u => !Tryd.prog.wantsStandIn u) = true := by kernel_rfl
  exact (show Tryd.prog.wantsStandIn t = false by simpa using List.all_eq_true.1 hall t hm)
end Go.Proofs.YtajcabfeabbknaaDoor.mergeAgain

namespace Go.Proofs.YtajcabfeabbknaaDoor
/-- The card of MergeAgain. -/
theorem mergeAgain_card : Rows.MergeAgainCardSaid :=
  Claim7.holds_tied_plain_at .later [] _ _ _ _ mergeAgain.said (fun _ h => by cases h) (by kernel_rfl) (fun _ h => by cases h) mergeAgain_row_tie rfl ⟨rfl, rfl⟩ (by kernel_rfl) rfl mergeAgain.plain (by kernel_rfl)
#print axioms mergeAgain_card
end Go.Proofs.YtajcabfeabbknaaDoor
