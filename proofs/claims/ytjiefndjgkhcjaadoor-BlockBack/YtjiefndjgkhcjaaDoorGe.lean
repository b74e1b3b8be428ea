/-
  What Get answers.
-/
import Derived.Test.YtjiefndjgkhcjaaDoorTk
import Derived.Test.YtjiefndjgkhcjaaDoorPt
namespace Go.Proofs.YtjiefndjgkhcjaaDoor
open Go.RowKit
set_option maxRecDepth 100000

/-- Four results. -/
theorem results_tmp4 {fn : Func} {t u v x : Tmp} (h : fn.results = #[.tmp t, .tmp u, .tmp v, .tmp x]) (tmps : Array Value) (P : Program) (w : World) :
    (results fn tmps).run P w = .ok (.tuple #[tmps.getD t undef, tmps.getD u undef, tmps.getD v undef, tmps.getD x undef]) w := by
  simp [results, h]
/-- So many sums are read, up to the first error. -/
def rds : Nat → List Int → Int → List Sg × List Int × Int
  | 0, xs, e => ([], xs, e)
  | j + 1, xs, e => if (rds j xs e).2.2 = 0 then ((rds j xs e).1 ++ [(tkG (rds j xs e).2.1 (rds j xs e).2.2).1], (tkG (rds j xs e).2.1 (rds j xs e).2.2).2.1, (tkG (rds j xs e).2.1 (rds j xs e).2.2).2.2) else rds j xs e
theorem rds_stay (xs : List Int) (e : Int) (j : Nat) (h : (rds j xs e).2.2 ≠ 0) : ∀ m, rds (j + m) xs e = rds j xs e
  | 0 => rfl
  | m + 1 => by
    have ih := rds_stay xs e j h m
    rw [← Nat.add_assoc, rds, ih, if_neg h]
theorem rds_len : ∀ (j : Nat) (xs : List Int) (e : Int), (rds j xs e).1.length ≤ j
  | 0, _, _ => Nat.le_refl _
  | j + 1, xs, e => by
    have ih := rds_len j xs e
    rw [rds]
    split
    · rw [List.length_append, List.length_singleton]; omega
    · omega
/-- The two numbers ahead. -/
def gz (b : List Int) : Int × List Int × Int := rN b 0 4096
def gn (b : List Int) : Int × List Int × Int := rN (gz b).2.1 (gz b).2.2 65536
def rdN (b : List Int) : Nat := (gn b).1.toNat / (gz b).1.toNat
def rdA (b : List Int) : List Sg := (rds (rdN b) (gn b).2.1 (gn b).2.2).1
/-- What is told of a file, read. -/
def bget (b : List Int) : Int × Int × List Sg × Int := if (bput (gz b).1 (gn b).1 (rdA b)).2 = 0 ∧ (bput (gz b).1 (gn b).1 (rdA b)).1 = b then ((gz b).1, (gn b).1, rdA b, 0) else (0, 0, [], 4)
theorem naN_le (xs : List Int) (m : Int) (hm : 0 ≤ m) : Fi.naN xs m ≤ m := by
  unfold Fi.naN
  split
  · rename_i h
    unfold Fi.naE at h
    split at h
    · split at h
      · assumption
      · omega
    · rename_i h2; exact absurd h h2
  · exact hm
theorem Rd.below {w w' : World} {g s B : Nat} {xs : List Int} {e : Int} (h : Fi.Rd w g s xs e) (hb : Below B w w') (hg : g < B) (hs : s < B) : Fi.Rd w' g s xs e := by
  obtain ⟨a, cap, c0, c1, f0, f1, l1, l2, r, n, k, b⟩ := h
  have fz : ∀ {p : Addr}, p.block < B → w'.frozen? p = w.frozen? p := fun hp => World.frozen?_of_block (hb.block _ hp)
  refine ⟨a, cap, (hb.cell (p := ⟨g, 0, none⟩) hg).trans c0, (hb.cell (p := ⟨g, 1, none⟩) hg).trans c1, (fz (p := ⟨g, 0, none⟩) hg).trans f0, (fz (p := ⟨g, 1, none⟩) hg).trans f1, l1, l2, ?_, n, k, b⟩
  rcases r with h | ⟨hp, b', off, rfl, hlc, hm, hc, hz⟩
  · exact .inl h
  · have := (b ⟨b', off, none⟩ rfl).2
    simp only at this
    exact .inr ⟨hp, b', off, rfl, hlc, hm, fun i hi => (hb.cell (p := ⟨b', off + i, none⟩) (by show b' < B; omega)).trans (hc i hi), hz⟩
theorem RI.but {w w' : World} {g B : Nat} {v : Value} {l : List Sg} (h : RI w B v l) (hb : Sh.But g w w') (hg : g < B) : RI w' B v l := by
  obtain ⟨⟨h1, h2⟩, hok⟩ := h
  refine ⟨⟨h1, ?_⟩, hok⟩
  rcases h2 with h2 | ⟨k, cap, cur, hv, hk, hh, r⟩
  · exact .inl h2
  · exact .inr ⟨k, cap, cur, hv, hk, (hb.block k (Array.getElem?_eq_some_iff.1 hh).1 (by omega)).trans hh, r⟩
theorem But.low {w w' : World} {g B : Nat} (h : Sh.But g w w') (hB : B ≤ g) (hw : B ≤ w.heap.size) : Below B w w' := Sh.But.below h hB hw
theorem But.of2 {w0 w w' : World} {g : Nat} (h : Sh.But g w0 w) (hb : Below w0.heap.size w w') : Sh.But g w0 w' := ⟨hb.os.trans h.os, hb.tape.trans h.tape, hb.output.trans h.output, Nat.le_trans h.size hb.size, fun k hk hn => (hb.block k hk).trans (h.block k hk hn)⟩
theorem rN_lt (xs : List Int) (e : Int) (m : Nat) (hb : Bt xs) : 0 ≤ (rN xs e m).1 ∧ (rN xs e m).1 ≤ m := by
  refine ⟨(rN_bd xs e m hb).1, ?_⟩
  unfold rN
  split
  · exact naN_le xs m (by omega)
  · show (0 : Int) ≤ m
    omega
set_option maxHeartbeats 8000000 in
theorem get_any (v : Value) (b : List Int) (w : World) (h : Sl w v b) (hl : b.length ≤ 1000000) (hw : Fi.Wid w) :
    Calls Tryd.prog 17 #[v] w fun e w' => ∃ v', e = .returned (.tuple #[.int .i64 (bget b).1, .int .i64 (bget b).2.1, v', .int .i64 (bget b).2.2.2]) ∧ RI w' w.heap.size v' (bget b).2.2.1 ∧ Below w.heap.size w w' := by
  have C1 := Fi.new_any v b w hw (fsl h) (by omega)
  have HW : Hid (Fi.Wid w) := hw
  have HS : Hid (Sl w v b) := h
  have H3 : Hid (1 < w.heap.size) := hw.pos
  have HG : Hid (bget b = if (bput (gz b).1 (gn b).1 (rdA b)).2 = 0 ∧ (bput (gz b).1 (gn b).1 (rdA b)).1 = b then ((gz b).1, (gn b).1, rdA b, 0) else (0, 0, [], 4)) := rfl
  have HA : Hid (rdA b = (rds ((gn b).1.toNat / (gz b).1.toNat) (gn b).2.1 (gn b).2.2).1) := rfl
  have HB0 : Bt b := h.bytes
  have z1 := rN_lt b 0 4096 HB0
  have HB1 : Bt (gz b).2.1 := rN_bt b 0 4096 HB0
  have n1 := rN_lt (gz b).2.1 (gz b).2.2 65536 HB1
  have HB2 : Hid (Bt (gn b).2.1) := rN_bt (gz b).2.1 (gz b).2.2 65536 HB1
  have HZQ : Hid (rN b 0 4096 = gz b) := rfl
  have HNQ : Hid (rN (gz b).2.1 (gz b).2.2 65536 = gn b) := rfl
  have z2 : 0 ≤ (gz b).1 ∧ (gz b).1 ≤ 4096 := z1
  have n2 : 0 ≤ (gn b).1 ∧ (gn b).1 ≤ 65536 := n1
  obtain ⟨va, vc, rfl, -⟩ := id h
  clear h hw HB0 HB1 z1 n1
  generalize bget b = R at *
  obtain ⟨nb, hnb⟩ : ∃ nb, nb = b.length := ⟨_, rfl⟩
  rw [← hnb] at HS C1 hl ⊢
  clear hnb
  go_enter Tryd.func17, Tryd.ntmps17
  go_wp2_with fail
  refine C1.mono ?_
  rintro e w1 ⟨g, s, rfl, hg1, hg2, hs, rd1, b1⟩
  clear C1
  have C2 := rdNum g s b 0 4096 w1 (HW.out.below b1 HW.out.pos) rd1
  rw [HZQ.out] at C2
  have HB1 : Hid (Below w.heap.size w w1) := b1
  have HGS : Hid (1 < g ∧ g < w1.heap.size ∧ s < w1.heap.size ∧ w.heap.size ≤ g) := ⟨by have := H3.out; omega, hg2, by rcases hs with h | h <;> omega, hg1⟩
  clear rd1 b1 hg1 hg2 hs HZQ
  generalize gz b = qz at *
  obtain ⟨zz, zx, ze⟩ := qz
  simp only at C2 HA HG z2 HNQ
  go_wp2_with fail
  refine C2.mono ?_
  rintro e w2 ⟨rfl, rd2, of2⟩
  clear C2
  have HB2' : Hid (Below w.heap.size w w2) := HB1.out.trans (of2.below HGS.out.2.2.2)
  have HGT : Hid (1 < g ∧ g < w2.heap.size ∧ s < w2.heap.size ∧ w.heap.size ≤ g) := by unfold Hid; rw [of2.size]; exact HGS.out
  have C3 := rdNum g s zx ze 65536 w2 (HW.out.below HB2'.out HW.out.pos) rd2
  rw [HNQ.out] at C3
  clear rd2 of2 HB1 HGS HNQ
  generalize gn b = qn at *
  obtain ⟨nn, nx, ne⟩ := qn
  simp only at C3 HA HG n2 HB2
  go_wp2_with fail
  refine C3.mono ?_
  rintro e w3 ⟨rfl, rd3, of3⟩
  clear C3
  have HB3 : Hid (Below w.heap.size w w3) := HB2'.out.trans (of3.below HGT.out.2.2.2)
  have HG3 : Hid (1 < g ∧ g < w3.heap.size ∧ s < w3.heap.size ∧ w.heap.size ≤ g) := by unfold Hid; rw [of3.size]; exact HGT.out
  have RD3 : Hid (Fi.Rd w3 g s nx ne) := rd3
  obtain ⟨zn, rfl⟩ : ∃ k : Nat, zz = k := ⟨zz.toNat, by omega⟩
  obtain ⟨nk, rfl⟩ : ∃ k : Nat, nn = k := ⟨nn.toNat, by omega⟩
  have CC := count_any zn nk w3 (by omega) (by omega)
  rw [Int.toNat_natCast, Int.toNat_natCast] at HA
  have hNk : nk / zn ≤ nk := Nat.div_le_self nk zn
  clear rd3 of3 HB2' HGT
  generalize nk / zn = N at *
  have hN : N ≤ 65536 := by omega
  go_wp2_with fail
  refine CC.mono ?_
  rintro e w5 ⟨rfl, hq5⟩
  replace hq5 := hq5.symm
  subst hq5
  clear CC
  go_wp2
  go_loopw [4, 17] (fun s' q wr => ∃ j : Nat, j ≤ N ∧ q = .int .i64 j ∧ RI wr w3.heap.size s' (rds j nx ne).1 ∧ Fi.Rd wr g s (rds j nx ne).2.1 (rds j nx ne).2.2 ∧ Sh.But g w3 wr) (fun _ q _ => N - (intOf q).toNat)
  case atStart => exact ⟨0, by omega, rfl, RI.nil _ _, RD3.out, Sh.But.refl _ _⟩
  case round =>
    clear RD3
    obtain ⟨j, hj, rfl, ri, rd, bt⟩ := hrel
    have HO : Hid (RI wr w3.heap.size u4 (rds j nx ne).1) := ri
    have BT : Hid (Sh.But g w3 wr) := bt
    have hlj := rds_len j nx ne
    obtain ⟨ia, ic, rfl, _, _, _⟩ := ri.is.shape
    have hbw : Below w.heap.size w wr := HB3.out.trans (But.low bt HG3.out.2.2.2 HB3.out.size)
    have HBW : Hid (Below w.heap.size w wr) := hbw
    clear ri bt
    by_cases hlt : j < N
    · have lt2 : (j : Int) < (N : Int) := by omega
      have CE := Fi.err_any g s _ _ wr rd
      by_cases hpe : (rds j nx ne).2.2 = 0
      · have CT := take_any g s _ _ wr rd (Nat.lt_of_lt_of_le HG3.out.2.2.1 BT.out.size)
        have HR : Hid (rds (j + 1) nx ne = ((rds j nx ne).1 ++ [(tkG (rds j nx ne).2.1 (rds j nx ne).2.2).1], (tkG (rds j nx ne).2.1 (rds j nx ne).2.2).2.1, (tkG (rds j nx ne).2.1 (rds j nx ne).2.2).2.2)) := by unfold Hid; rw [rds, if_pos hpe]
        have HYO : Hid (Sg.ok (tkG (rds j nx ne).2.1 (rds j nx ne).2.2).1) := tkG_ok _ _ rd.bytes
        have HLJ : Hid ((rds j nx ne).1.length ≤ j) := hlj
        rw [hpe] at CE
        clear rd hbw hpe hlj
        generalize tkG (rds j nx ne).2.1 (rds j nx ne).2.2 = T at *
        obtain ⟨y, ty, te⟩ := T
        simp only at CT HR HYO
        generalize (rds j nx ne).1 = LL at *
        obtain ⟨nl, hnl⟩ : ∃ nl, nl = LL.length := ⟨_, rfl⟩
        rw [← hnl] at HO HLJ ⊢
        have HNL : Hid (nl = LL.length) := hnl
        clear hnl
        unfold Sg.val at CT
        go_wp2_with fail
        refine CE.mono ?_
        rintro e w6 ⟨rfl, hq6⟩
        replace hq6 := hq6.symm
        subst hq6
        clear CE
        go_wp2_with fail
        refine CT.mono ?_
        rintro e w4 ⟨rfl, rd4, bt4⟩
        clear CT
        obtain ⟨W5, hW5⟩ : ∃ W5, W5 = w4.alloc (.cells y.cells.toArray 57) := ⟨_, rfl⟩
        have b5 : Below w4.heap.size w4 W5 := by rw [hW5]; exact al_below _ _
        have R5 : Hid (RI W5 w3.heap.size (.slice ia nl ic) LL) := (HO.out.but bt4 HG3.out.2.1).below b5
        have K5 : Hid (W5.rangeAt w4.heap.size 0 y.cells) := by unfold Hid; rw [hW5]; exact (IB.new w4 y).range
        have D5 : Hid (Fi.Rd W5 g s ty te) := rd4.kept b5
        have B5 : Hid (Sh.But g w3 W5) := But.keep (BT.out.trans bt4) b5
        clear rd4 bt4 b5 HO BT
        go_wp2_with (refine wpList_bsI rfl _ rfl y HYO.out rfl (Hid.out ?_))
        unfold Hid
        rw [← hW5]
        clear hW5
        go_wp2_with (at_builtin; refine wpList_append_it rfl _ _ rfl w3.heap.size _ LL rfl R5.out w4.heap.size y 1 HYO.out rfl K5.out (by rw [← HNL.out]; have := HLJ.out; omega) B5.out.size (Hid.out ?_))
        unfold Hid
        intro v6 w6 r6 g6
        have b6 : Below w3.heap.size W5 w6 := (Below.refl w3.heap.size W5).grown g6 B5.out.size (own_base R5.out.1)
        have O6 : Hid (RI w6 w3.heap.size v6 (rds (j + 1) nx ne).1) := by unfold Hid; rw [HR.out]; exact r6
        have D6 : Hid (Fi.Rd w6 g s (rds (j + 1) nx ne).2.1 (rds (j + 1) nx ne).2.2) := by unfold Hid; rw [HR.out]; exact Rd.below D5.out b6 HG3.out.2.1 HG3.out.2.2.1
        have B6 : Hid (Sh.But g w3 w6) := But.of2 B5.out b6
        clear r6 g6 b6 R5 K5 D5 B5 HR
        go_wp2
        go_roundw
        case rel => exact ⟨j + 1, by omega, by go_num, O6.out, D6.out, B6.out⟩
        case measure => simp [intOf]; omega
      · have hst : rds N nx ne = rds j nx ne := by
          have := rds_stay nx ne j hpe (N - j)
          rwa [show j + (N - j) = N by omega] at this
        rw [hst] at HA
        have hp2 : ((rds j nx ne).2.2 != 0) = true := by simpa using hpe
        clear hst rd hpe
        generalize (rds j nx ne).2.2 = ee at *
        go_wp2_with fail
        refine CE.mono ?_
        rintro e w6 ⟨rfl, hq6⟩
        replace hq6 := hq6.symm
        subst hq6
        clear CE
        rw [← HA.out] at HO hlj ⊢
        have CP := put_any (zn : Int) (nk : Int) (.slice ia (rdA b).length ic) (rdA b) wr HO.out.is (by omega) (HW.out.below HBW.out HW.out.pos)
        have HOW : Hid (RI wr w.heap.size (.slice ia (rdA b).length ic) (rdA b)) := HO.out.mono HB3.out.size
        clear hlj HA HO BT
        generalize rdA b = LL at *
        generalize bput (zn : Int) (nk : Int) LL = P at *
        obtain ⟨pb, pe⟩ := P
        simp only at CP HG
        obtain ⟨nl, hnl⟩ : ∃ nl, nl = LL.length := ⟨_, rfl⟩
        rw [← hnl] at CP HOW ⊢
        clear hnl
        go_wp2_with fail
        refine CP.mono ?_
        rintro e w7 ⟨v7, rfl, o7, b7⟩
        clear CP
        have B7 : Hid (Below w.heap.size w w7) := HBW.out.trans (b7.mono HBW.out.size)
        have R7 : Hid (RI w7 w.heap.size (.slice ia nl ic) LL) := HOW.out.below b7
        have CQ := equal_any v7 (.slice va nb vc) pb b w7 o7.sl (HS.out.kept B7.out)
        obtain ⟨pa, pc, rfl⟩ := o7.shape
        generalize pb.length = np at *
        clear o7 b7 HOW HBW hbw
        by_cases hpe0 : pe = 0
        · subst hpe0
          have HG2 : Hid (R = if pb = b then ((zn : Int), (nk : Int), LL, 0) else (0, 0, [], 4)) := by unfold Hid; have := HG.out; simpa using this
          clear HG
          go_wp2_with fail
          refine CQ.mono ?_
          rintro e w8 ⟨rfl, hq⟩
          replace hq := hq.symm
          subst hq
          clear CQ
          by_cases hq : pb = b
          · have HRE : Hid (R = ((zn : Int), (nk : Int), LL, 0)) := by unfold Hid; have := HG2.out; rwa [if_pos hq] at this
            have t1 : decide (pb = b) = true := by simp [hq]
            rw [t1]
            clear HG2 hq t1
            go_wp2
            ((try simp only [Exit.inBlock, Exit.then]); refine bodyPost_ret (results_tmp4 rfl _ _ _) rfl ?_)
            exact ⟨.slice ia nl ic, by rw [HRE.out]; rfl, by rw [HRE.out]; exact R7.out, B7.out⟩
          · have HRE : Hid (R = (0, 0, [], 4)) := by unfold Hid; have := HG2.out; rwa [if_neg hq] at this
            have t1 : decide (pb = b) = false := by simp [hq]
            rw [t1]
            clear HG2 hq t1
            go_wp2
            ((try simp only [Exit.inBlock, Exit.then]); refine bodyPost_ret (results_tmp4 rfl _ _ _) rfl ?_)
            exact ⟨.slice none 0 0, by rw [HRE.out]; rfl, by rw [HRE.out]; exact RI.nil _ _, B7.out⟩
        · have HRE : Hid (R = (0, 0, [], 4)) := by unfold Hid; have := HG.out; rwa [if_neg (fun h => hpe0 h.1)] at this
          have t0 : (pe != 0) = true := by simpa using hpe0
          clear HG CQ
          go_wp2
          ((try simp only [Exit.inBlock, Exit.then]); refine bodyPost_ret (results_tmp4 rfl _ _ _) rfl ?_)
          exact ⟨.slice none 0 0, by rw [HRE.out]; rfl, by rw [HRE.out]; exact RI.nil _ _, B7.out⟩
    · obtain rfl : j = N := by omega
      clear rd
      rw [← HA.out] at HO hlj ⊢
      have CP := put_any (zn : Int) (nk : Int) (.slice ia (rdA b).length ic) (rdA b) wr HO.out.is (by omega) (HW.out.below HBW.out HW.out.pos)
      have HOW : Hid (RI wr w.heap.size (.slice ia (rdA b).length ic) (rdA b)) := HO.out.mono HB3.out.size
      clear hlj HA HO BT
      generalize rdA b = LL at *
      generalize bput (zn : Int) (nk : Int) LL = P at *
      obtain ⟨pb, pe⟩ := P
      simp only at CP HG
      obtain ⟨nl, hnl⟩ : ∃ nl, nl = LL.length := ⟨_, rfl⟩
      rw [← hnl] at CP HOW ⊢
      clear hnl
      go_wp2_with fail
      refine CP.mono ?_
      rintro e w7 ⟨v7, rfl, o7, b7⟩
      clear CP
      have B7 : Hid (Below w.heap.size w w7) := HBW.out.trans (b7.mono HBW.out.size)
      have R7 : Hid (RI w7 w.heap.size (.slice ia nl ic) LL) := HOW.out.below b7
      have CQ := equal_any v7 (.slice va nb vc) pb b w7 o7.sl (HS.out.kept B7.out)
      obtain ⟨pa, pc, rfl⟩ := o7.shape
      generalize pb.length = np at *
      clear o7 b7 HOW HBW hbw
      by_cases hpe0 : pe = 0
      · subst hpe0
        have HG2 : Hid (R = if pb = b then ((zn : Int), (nk : Int), LL, 0) else (0, 0, [], 4)) := by unfold Hid; have := HG.out; simpa using this
        clear HG
        go_wp2_with fail
        refine CQ.mono ?_
        rintro e w8 ⟨rfl, hq⟩
        replace hq := hq.symm
        subst hq
        clear CQ
        by_cases hq : pb = b
        · have HRE : Hid (R = ((zn : Int), (nk : Int), LL, 0)) := by unfold Hid; have := HG2.out; rwa [if_pos hq] at this
          have t1 : decide (pb = b) = true := by simp [hq]
          rw [t1]
          clear HG2 hq t1
          go_wp2
          ((try simp only [Exit.inBlock, Exit.then]); refine bodyPost_ret (results_tmp4 rfl _ _ _) rfl ?_)
          exact ⟨.slice ia nl ic, by rw [HRE.out]; rfl, by rw [HRE.out]; exact R7.out, B7.out⟩
        · have HRE : Hid (R = (0, 0, [], 4)) := by unfold Hid; have := HG2.out; rwa [if_neg hq] at this
          have t1 : decide (pb = b) = false := by simp [hq]
          rw [t1]
          clear HG2 hq t1
          go_wp2
          ((try simp only [Exit.inBlock, Exit.then]); refine bodyPost_ret (results_tmp4 rfl _ _ _) rfl ?_)
          exact ⟨.slice none 0 0, by rw [HRE.out]; rfl, by rw [HRE.out]; exact RI.nil _ _, B7.out⟩
      · have HRE : Hid (R = (0, 0, [], 4)) := by unfold Hid; have := HG.out; rwa [if_neg (fun h => hpe0 h.1)] at this
        have t0 : (pe != 0) = true := by simpa using hpe0
        clear HG CQ
        go_wp2
        ((try simp only [Exit.inBlock, Exit.then]); refine bodyPost_ret (results_tmp4 rfl _ _ _) rfl ?_)
        exact ⟨.slice none 0 0, by rw [HRE.out]; rfl, by rw [HRE.out]; exact RI.nil _ _, B7.out⟩
end Go.Proofs.YtjiefndjgkhcjaaDoor
