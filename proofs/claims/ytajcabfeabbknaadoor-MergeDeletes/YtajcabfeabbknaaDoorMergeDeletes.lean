/-
  With deleting, and without keeping, what is wanted is the source's tree; with keeping, what is beside it are files with a ~, whose bytes the destination had: for every two lists of entries, no condition.
-/
import Derived.Test.YtajcabfeabbknaaDoorFr
import Derived.Test.YtajcabfeabbknaaDoorLa
import Derived.Test.YtajcabfeabbknaaDoorOrd
import Derived.Deep.RegionHeld3
namespace Go.Proofs.YtajcabfeabbknaaDoor.mergeDeletes
open Go.ChangeShapes Go.WideShapes Go.ChangeAt Go.RowKit Go.Deep Go.ChangeMaps
set_option maxRecDepth 100000

theorem ex_last (y x : ByteArray) (h : dl y = dl x ++ [126]) : y.size = x.size + 1 ∧ y.extract 0 x.size = x := by
  have hs : y.size = x.size + 1 := by
    have := congrArg List.length h
    rw [List.length_append, dl_len, dl_len] at this
    exact this
  refine ⟨hs, ?_⟩
  apply dl_inj
  have e : dl (y.extract 0 x.size) = (dl y).take x.size := by simp [dl, ByteArray.data_extract]
  rw [e, h]
  exact List.take_left' (dl_len x)
set_option maxHeartbeats 8000000 in
set_option maxRecDepth 100000 in
theorem walk (v : Value) (s : List En) (u : Value) (d : List En) (w : World) (hw : Mx w) (hs : ES w v s) (hd : ES w u d) :
    Calls Tryd.prog 5 #[v, u] w fun e w' => e = .returned (.bool true) ∧ Below w.heap.size w w' := by
  obtain ⟨a, c, rfl, g2, g3, _⟩ := hs.shape
  obtain ⟨a2, c2, rfl, g4, g5, _⟩ := hd.shape
  have HES : Hid (ES w (.slice a s.length c) s) := hs
  have HED : Hid (ES w (.slice a2 d.length c2) d) := hd
  have HM : Hid (Mx w) := hw
  have CAW : Hid (∀ W, Below w.heap.size w W → Calls Tryd.prog 7 #[] W fun e w' => e = .returned (.bool true) ∧ Below W.heap.size W w') := fun W hb => awake_any W (HM.out.kept hb)
  have CL1 := light_any _ s 40 2000 w HES.out (by omega) (by omega) (by unfold maxLen at g3; omega)
  have CL2 := light_any _ d 40 2000 w HED.out (by omega) (by omega) (by unfold maxLen at g5; omega)
  have CC1 : Hid (Lt s → Calls Tryd.prog 11 #[.slice a s.length c] w fun e w' => e = .returned (.int .i64 (ckT s)) ∧ Below w.heap.size w w') := fun l1 => checkT_any _ s w HES.out l1 HM.out
  have CC2 : Hid (∀ W, Below w.heap.size w W → Lt d → Calls Tryd.prog 11 #[.slice a2 d.length c2] W fun e w' => e = .returned (.int .i64 (ckT d)) ∧ Below W.heap.size W w') := fun W hb l2 => checkT_any _ d W (HED.out.kept hb) l2 (HM.out.kept hb)
  have CWA : Hid (∀ W, Below w.heap.size w W → Lt s → Lt d → ckT s = 0 → ckT d = 0 → Calls Tryd.prog 8 #[.slice a s.length c, .slice a2 d.length c2, .agg #[.bool true, .bool false]] W fun e w' => ∃ v', e = .returned (.tuple #[v', .int .i64 0]) ∧ OE w' W.heap.size v' s ∧ Below W.heap.size W w') := fun W hb l1 l2 k1 k2 => by
    have := want_any (.slice a s.length c) (.slice a2 d.length c2) s d ⟨true, false⟩ W (HES.out.kept hb) l1 (HED.out.kept hb) l2 (HM.out.kept hb)
    rw [dele_all k1 k2] at this
    exact this
  have CWB : Hid (∀ W, Below w.heap.size w W → Lt s → Lt d → Calls Tryd.prog 8 #[.slice a s.length c, .slice a2 d.length c2, .agg #[.bool true, .bool true]] W fun e w' => ∃ v', e = .returned (.tuple #[v', .int .i64 (want s d ⟨true, true⟩).2]) ∧ OE w' W.heap.size v' (want s d ⟨true, true⟩).1 ∧ Below W.heap.size W w') := fun W hb l1 l2 => want_any _ _ s d ⟨true, true⟩ W (HES.out.kept hb) l1 (HED.out.kept hb) l2 (HM.out.kept hb)
  have CS : Hid (∀ W v', Below w.heap.size w W → Lt s → ES W v' s → Calls Tryd.prog 13 #[v', .slice a s.length c] W fun e w' => e = .returned (.bool true) ∧ Below W.heap.size W w') := fun W v' hb l1 he => by
    have := same_any v' (.slice a s.length c) s s W he (HES.out.kept hb) (by have := l1.1; omega) (by have := l1.1; omega)
    rw [(sam_iff _ _).2 rfl] at this
    exact this
  have CG1 : Hid (∀ W (q : ByteArray), Below w.heap.size w W → Lt s → Calls Tryd.prog 14 #[.slice a s.length c, .string q] W fun e w' => ∃ u, e = .returned (.tuple #[u, .bool (gotB s (dl q))]) ∧ EV w' u (got s (dl q)) ∧ Below W.heap.size W w') := fun W q hb l1 => get_any _ s q W (HES.out.kept hb) l1
  have CG2 : Hid (∀ W (x : En), Below w.heap.size w W → Lt d → gotB d x.k = true → got d x.k = x → Calls Tryd.prog 14 #[.slice a2 d.length c2, .string x.p] W fun e w' => ∃ u, e = .returned (.tuple #[u, .bool true]) ∧ EV w' u x ∧ Below W.heap.size W w') := fun W x hb l2 k1 k2 => by
    have := get_any (.slice a2 d.length c2) d x.p W (HED.out.kept hb) l2
    rw [k1, k2] at this
    exact this
  have CK : Hid (∀ W (x y : En), Below w.heap.size w W → x.p.size ≤ 1000 → kep x.k = y.k → Calls Tryd.prog 16 #[.string x.p] W fun e w' => e = .returned (.string y.p) ∧ Below W.heap.size W w') := fun W x y hb hp e => by
    have := kept_any x.p W (HM.out.kept hb) (by omega)
    rw [e, mk_dl] at this
    exact this
  have HFU : Hid (ckT s = 0 → ckT d = 0 → (want s d ⟨true, true⟩).2 ≠ 0 → want s d ⟨true, true⟩ = ([], 10)) := want_full
  have HDK : Hid ((want s d ⟨true, true⟩).2 = 0 → ∀ y ∈ (want s d ⟨true, true⟩).1, gotB s y.k = false →
    ∃ x, x ∈ d ∧ y.k = x.k ++ [126] ∧ x.k = y.k.dropLast ∧ gotB d x.k = true ∧ got d x.k = x ∧ y.d = false ∧ x.d = false ∧ y.z = x.z ∧ kep x.k = y.k) := dele_keep
  have HWL : Hid (Lt s → Lt d → (want s d ⟨true, true⟩).2 = 0 → (want s d ⟨true, true⟩).1.length ≤ 64) := fun l1 l2 e => by
    obtain ⟨_, _, h3, h4⟩ := want_ok e
    rw [h3]; exact h4
  obtain ⟨G1, hG1⟩ : ∃ G1 : Prop, G1 = (s.length ≤ 40 ∧ ∀ x ∈ s, x.p.size ≤ 1000 ∧ x.z.length ≤ 2000) := ⟨_, rfl⟩
  obtain ⟨G2, hG2⟩ : ∃ G2 : Prop, G2 = (d.length ≤ 40 ∧ ∀ x ∈ d, x.p.size ≤ 1000 ∧ x.z.length ≤ 2000) := ⟨_, rfl⟩
  rw [← hG1] at CL1
  rw [← hG2] at CL2
  have HG1 : Hid (G1 → Lt s) := fun h => by rw [hG1] at h; exact ⟨by omega, fun x hx => ⟨(h.2 x hx).1, by have := (h.2 x hx).2; omega⟩⟩
  have HG2 : Hid (G2 → Lt d) := fun h => by rw [hG2] at h; exact ⟨by omega, fun x hx => ⟨(h.2 x hx).1, by have := (h.2 x hx).2; omega⟩⟩
  obtain ⟨n, hn⟩ : ∃ n, n = s.length := ⟨_, rfl⟩
  obtain ⟨m, hm⟩ : ∃ m, m = d.length := ⟨_, rfl⟩
  have HN : Hid (n = s.length) := hn
  rw [← hn] at HES CL1 CC1 CWA CWB CS CG1 g2 ⊢
  rw [← hm] at HED CL2 CC2 CWA CWB CG2 ⊢
  clear hw hs hd g3 g4 g5 hG1 hG2 hn hm
  generalize want s d ⟨true, true⟩ = R at *
  generalize ckT s = ks at *
  generalize ckT d = kd at *
  go_enter Tryd.func5, Tryd.ntmps5
  go_wp2_with fail
  refine CL1.mono ?_
  rintro e wq ⟨r1, rfl, hq, hr⟩
  replace hq := hq.symm
  subst hq
  have HR1 : Hid (r1 = true → G1) := hr
  clear hr CL1
  cases r1 with
  | false =>
    go_wp2_with fail
    refine (CAW.out w (Below.refl _ _)).mono ?_
    rintro e w2 ⟨rfl, b2⟩
    have B2 : Hid (Below w.heap.size w w2) := b2
    clear b2
    go_wp2
    go_ret
    exact ⟨rfl, B2.out⟩
  | true =>
  have LS : Hid (Lt s) := HG1.out (HR1.out rfl)
  clear HR1 HG1
  go_wp2_with fail
  refine CL2.mono ?_
  rintro e wq ⟨r2, rfl, hq, hr⟩
  replace hq := hq.symm
  subst hq
  have HR2 : Hid (r2 = true → G2) := hr
  clear hr CL2
  cases r2 with
  | false =>
    go_wp2_with fail
    refine (CAW.out w (Below.refl _ _)).mono ?_
    rintro e w2 ⟨rfl, b2⟩
    have B2 : Hid (Below w.heap.size w w2) := b2
    clear b2
    go_wp2
    go_ret
    exact ⟨rfl, B2.out⟩
  | true =>
  have LD : Hid (Lt d) := HG2.out (HR2.out rfl)
  clear HR2 HG2
  go_wp2_with fail
  refine (CC1.out LS.out).mono ?_
  rintro e w1 ⟨rfl, b1⟩
  have B1 : Hid (Below w.heap.size w w1) := b1
  clear b1 CC1
  by_cases hk1 : ks = 0
  case neg =>
    have t0 : (ks != 0) = true := by simp [hk1]
    go_wp2_with fail
    refine (CAW.out w1 B1.out).mono ?_
    rintro e w2 ⟨rfl, b2⟩
    have B2 : Hid (Below w.heap.size w w2) := B1.out.trans (b2.mono B1.out.size)
    clear b2
    go_wp2
    go_ret
    exact ⟨rfl, B2.out⟩
  subst hk1
  go_wp2_with fail
  refine (CC2.out w1 B1.out LD.out).mono ?_
  rintro e w2 ⟨rfl, b2⟩
  have B2 : Hid (Below w.heap.size w w2) := B1.out.trans (b2.mono B1.out.size)
  clear b2 CC2 B1
  by_cases hk2 : kd = 0
  case neg =>
    have t0 : (kd != 0) = true := by simp [hk2]
    go_wp2_with fail
    refine (CAW.out w2 B2.out).mono ?_
    rintro e w3 ⟨rfl, b3⟩
    have B3 : Hid (Below w.heap.size w w3) := B2.out.trans (b3.mono B2.out.size)
    clear b3
    go_wp2
    go_ret
    exact ⟨rfl, B3.out⟩
  subst hk2
  go_wp2_with fail
  refine (CWA.out w2 B2.out LS.out LD.out (by first | rfl | trivial) (by first | rfl | trivial)).mono ?_
  rintro e w3 ⟨v3, rfl, o3, b3⟩
  have B3 : Hid (Below w.heap.size w w3) := B2.out.trans (b3.mono B2.out.size)
  have E3 : Hid (ES w3 v3 s) := o3.es
  obtain ⟨a3, c3, hv3, _, _, _⟩ := o3.es.shape
  subst hv3
  rw [← HN.out] at E3 ⊢
  clear b3 o3 CWA B2
  go_wp2_with fail
  refine (CWB.out w3 B3.out LS.out LD.out).mono ?_
  rintro e w4 ⟨v4, rfl, o4, b4⟩
  have B4 : Hid (Below w.heap.size w w4) := B3.out.trans (b4.mono B3.out.size)
  have E4 : Hid (ES w4 v4 R.1) := o4.es
  have A4 : Hid (ES w4 (.slice a3 n c3) s) := E3.out.kept b4
  obtain ⟨a4, c4, rfl, _, _, _⟩ := o4.es.shape
  clear b4 o4 CWB B3 E3
  go_wp2_with fail
  refine (CS.out w4 _ B4.out LS.out A4.out).mono ?_
  rintro e w5 ⟨rfl, b5⟩
  have B5 : Hid (Below w.heap.size w w5) := B4.out.trans (b5.mono B4.out.size)
  have E5 : Hid (ES w5 (.slice a4 R.1.length c4) R.1) := E4.out.kept b5
  clear b5 CS B4 E4 A4
  by_cases h0 : R.2 = 0
  case neg =>
    have hf := HFU.out (by first | rfl | trivial) (by first | rfl | trivial) h0
    subst hf
    go_wp2_with fail
    refine (CAW.out w5 B5.out).mono ?_
    rintro e w6 ⟨rfl, b6⟩
    have B6 : Hid (Below w.heap.size w w6) := B5.out.trans (b6.mono B5.out.size)
    clear b6
    go_wp2
    go_ret
    exact ⟨rfl, B6.out⟩
  have HK : Hid (∀ y ∈ R.1, gotB s y.k = false → ∃ x, x ∈ d ∧ y.k = x.k ++ [126] ∧ x.k = y.k.dropLast ∧ gotB d x.k = true ∧ got d x.k = x ∧ y.d = false ∧ x.d = false ∧ y.z = x.z ∧ kep x.k = y.k) := HDK.out h0
  have hrl := HWL.out LS.out LD.out h0
  rw [h0]
  clear h0 HDK HWL HFU
  obtain ⟨nr, hnr⟩ : ∃ nr, nr = R.1.length := ⟨_, rfl⟩
  have HNR : Hid (nr = R.1.length) := hnr
  rw [← hnr] at E5 hrl ⊢
  clear hnr
  go_wp2
  go_loopw [9] (fun q wr => ∃ j : Nat, j ≤ nr ∧ q = .int .i64 j ∧ Below w5.heap.size w5 wr) (fun q _ => nr - (intOf q).toNat)
  case atStart => exact ⟨0, by omega, rfl, Below.refl _ _⟩
  case round =>
    obtain ⟨j, hj, rfl, bel⟩ := hrel
    have HB : Hid (Below w5.heap.size w5 wr) := bel
    have BW : Hid (Below w.heap.size w wr) := B5.out.trans (bel.mono B5.out.size)
    clear bel
    by_cases hlt : j < nr
    · have lt2 : (j : Int) < (nr : Int) := by omega
      obtain ⟨b, off, ua, un, uc, rfl, c1, c2', c3', hun, s1⟩ := (E5.out.kept HB.out).at j (by rw [← HNR.out]; exact hlt)
      have q1 : IntKind.i64.wrap ((j : Int) + 1) = ((j + 1 : Nat) : Int) := by simp [IntKind.wrap, IntKind.bits, IntKind.signed]; omega
      have CG := CG1.out wr (atE R.1 j).p BW.out LS.out
      have HC : Hid (∀ W, Below wr.heap.size wr W → W.cell? ⟨b, off + j * 3, none⟩ = some (.string (atE R.1 j).p) ∧ W.cell? ⟨b, off + j * 3 + 1, none⟩ = some (.bool (atE R.1 j).d) ∧ W.cell? ⟨b, off + j * 3 + 2, none⟩ = some (.slice ua un uc)) := fun W hb => ⟨(hb.cell (World.block_lt_of_cell? _ _ c1)).trans c1, (hb.cell (World.block_lt_of_cell? _ _ c2')).trans c2', (hb.cell (World.block_lt_of_cell? _ _ c3')).trans c3'⟩
      have SX : Hid (Sl wr (.slice ua un uc) (atE R.1 j).z) := s1
      have HY : Hid (gotB s (dl (atE R.1 j).p) = false → ∃ x, x ∈ d ∧ (atE R.1 j).k = x.k ++ [126] ∧ x.k = (atE R.1 j).k.dropLast ∧ gotB d x.k = true ∧ got d x.k = x ∧ (atE R.1 j).d = false ∧ x.d = false ∧ (atE R.1 j).z = x.z ∧ kep x.k = (atE R.1 j).k) := HK.out _ (atE_mem R.1 j (by rw [← HNR.out]; exact hlt))
      clear hun s1
      generalize atE R.1 j = y at *
      generalize gotB s (dl y.p) = gb at *
      generalize got s (dl y.p) = gx at *
      go_wp2_with fail
      refine CG.mono ?_
      rintro e w6 ⟨u6, rfl, ⟨za, zn, zc, rfl, _⟩, b6⟩
      generalize gx.p = gp at *
      generalize gx.d = gd at *
      obtain ⟨W7, hW7⟩ : ∃ W7, W7 = w6.alloc (.cells #[.string gp, .bool gd, .slice za zn zc] 43) := ⟨_, rfl⟩
      have b7 : Below w6.heap.size w6 W7 := by rw [hW7]; exact (Below.refl _ _).alloc (Nat.le_refl _) _
      have D7 : Hid (Below wr.heap.size wr W7) := b6.trans (b7.mono b6.size)
      have B7 : Hid (Below w5.heap.size w5 W7) := HB.out.trans (D7.out.mono HB.out.size)
      have B7w : Hid (Below w.heap.size w W7) := BW.out.trans (D7.out.mono BW.out.size)
      clear CG b6 b7
      cases gb with
      | true =>
        have B7' : Hid (Below w5.heap.size w5 (w6.alloc (.cells #[.string gp, .bool gd, .slice za zn zc] 43))) := by rw [← hW7]; exact B7.out
        clear hW7 c1 c2' c3'
        go_wp2
        go_roundw
        case rel => exact ⟨j + 1, by omega, by go_num, B7'.out⟩
        case measure => simp [intOf]; omega
      | false =>
      obtain ⟨x, hxd, hyk, _, hx1, hx2, hy1, hx3, hyz, hkx⟩ := HY.out rfl
      obtain ⟨e1, e2⟩ := ex_last y.p x.p hyk
      have hxs : x.p.size ≤ 1000 := (LD.out.2 x hxd).1
      have CGx := CG2.out W7 x B7w.out LD.out hx1 hx2
      have CKx : Hid (∀ W, Below w.heap.size w W → Calls Tryd.prog 16 #[.string x.p] W fun e w' => e = .returned (.string y.p) ∧ Below W.heap.size W w') := fun W hb => CK.out W x y hb hxs hkx
      obtain ⟨d1, d2, d3⟩ := HC.out W7 D7.out
      rw [hW7] at d1 d2 d3
      obtain ⟨k, hk⟩ : ∃ k, k = x.p.size := ⟨_, rfl⟩
      rw [← hk] at e1 e2 hxs
      have w1 : IntKind.i64.wrap (k : Int) = (k : Int) := by rw [IntKind.wrap_i64]; omega
      have w1' : IntKind.i64.wrap ((k : Int) + 1 - 1) = (k : Int) := by rw [IntKind.wrap_i64]; omega
      rw [hy1] at d2 HC
      rw [hyz] at SX
      have hkk : k ≤ k + 1 := by omega
      clear HY hyk hx1 hx2 hy1 hyz hkx hk hxd c1 c2' c3'
      have HX3 : Hid (x.d = false) := hx3
      clear hx3
      generalize y.p = yp at *
      generalize y.d = yd at *
      go_wp2_with fail
      rw [← hW7]
      clear hW7
      refine CGx.mono ?_
      rintro e w8 ⟨u8, rfl, ⟨ta, tn, tc, rfl, st⟩, b8⟩
      have hd3 := HX3.out
      rw [hd3]
      generalize x.p = xp at *
      obtain ⟨W9, hW9⟩ : ∃ W9, W9 = w8.alloc (.cells #[.string xp, .bool false, .slice ta tn tc] 43) := ⟨_, rfl⟩
      have b9 : Below w8.heap.size w8 W9 := by rw [hW9]; exact (Below.refl _ _).alloc (Nat.le_refl _) _
      have K9 : W9.heap[w8.heap.size]? = some (.cells #[.string xp, .bool false, .slice ta tn tc] 43 (0, 0)) := by rw [hW9]; exact heap_alloc_new _ _
      have D9 : Hid (Below W7.heap.size W7 W9) := b8.trans (b9.mono b8.size)
      have R9 : Hid (Below wr.heap.size wr W9) := D7.out.trans (D9.out.mono D7.out.size)
      have FX : Hid (∀ W, From W9 W → W.cell? ⟨w8.heap.size, 0, none⟩ = some (.string xp) ∧ W.cell? ⟨w8.heap.size, 1, none⟩ = some (.bool false) ∧ W.cell? ⟨w8.heap.size, 2, none⟩ = some (.slice ta tn tc)) := fun W hb => by
        obtain ⟨p0, p1, p2, _⟩ := trio ((Below.block hb _ (lt_of_block K9)).trans K9)
        exact ⟨p0, p1, p2⟩
      have FY : Hid (∀ W, From W9 W → W.cell? ⟨b, off + j * 3, none⟩ = some (.string yp) ∧ W.cell? ⟨b, off + j * 3 + 1, none⟩ = some (.bool false) ∧ W.cell? ⟨b, off + j * 3 + 2, none⟩ = some (.slice ua un uc)) := fun W hb => HC.out W (R9.out.trans (Below.mono hb R9.out.size))
      have FS1 : Hid (∀ W, From W9 W → (convert 41 9 (.slice ta tn tc)).run Tryd.prog W = .ok (.string (strB x.z)) W) := fun W hb => Sl.conv ((st.kept b9).kept hb)
      have FS2 : Hid (∀ W, From W9 W → (convert 41 9 (.slice ua un uc)).run Tryd.prog W = .ok (.string (strB x.z)) W) := fun W hb => Sl.conv (SX.out.kept (R9.out.trans (Below.mono hb R9.out.size)))
      have FB : Hid (∀ W, From W9 W → Below w.heap.size w W ∧ Below w5.heap.size w5 W) := fun W hb => by
        have h1 := R9.out.trans (Below.mono hb R9.out.size)
        exact ⟨BW.out.trans (h1.mono BW.out.size), HB.out.trans (h1.mono HB.out.size)⟩
      clear CGx b8 b9 K9 st d1 d2 d3 HX3 hd3 e1 e2 w1 w1' SX HC
      generalize strB x.z = zs at *
      go_wp2
      rw [← hW9]
      clear hW9
      refine wp_region_held_drew (S := From W9) (by kernel_rfl) ((Below.refl _ _).drew) (fun _ => ?_)
      refine wpAnyH_on ((Below.refl _ _).drew) (fun u0 hu0 bu0 => ?_)
      replace FX := on FX bu0
      replace FY := on FY bu0
      replace FS1 := on FS1 bu0
      replace FS2 := on FS2 bu0
      replace FB := on FB bu0
      refine wpAnyH_take (i := 0) (oi := { dst := some 99, op := Op.move (Operand.tmp 7), type := 22, pos := "own.go:94", after := #[], guard := none }) (v := ?vr1) rfl (by kernel_rfl) (by kernel_rfl) (by kernel_rfl) (fun _ _ _ h => h) (Or.inl ⟨by rfl, ?yr1⟩) (Below.refl _ _) ?rr1
      case yr1 => (intro w hSw; go_simp; try with_reducible rfl)
      try simp only [Act.put, List.setIfInBounds_toArray, List.set_cons_zero, List.set_cons_succ]
      refine wpAnyH_take (i := 1) (oi := { dst := some 100, op := Op.move (Operand.tmp 9), type := 3, pos := "own.go:94", after := #[], guard := none }) (v := ?vr2) rfl (by kernel_rfl) (by kernel_rfl) (by kernel_rfl) (fun _ _ _ h => h) (Or.inl ⟨by rfl, ?yr2⟩) (Below.refl _ _) ?rr2
      case yr2 => (intro w hSw; go_simp; try with_reducible rfl)
      try simp only [Act.put, List.setIfInBounds_toArray, List.set_cons_zero, List.set_cons_succ]
      refine wpAnyH_take (i := 2) (oi := { dst := some 101, op := Op.indexAddr 22 (Operand.tmp 99) (Operand.tmp 100), type := 0, pos := "own.go:94", after := #[{ on := 0, ground := Ground.data }, { on := 1, ground := Ground.data }], guard := none }) (v := ?vr3) rfl (by kernel_rfl) (by kernel_rfl) (by kernel_rfl) (fun _ _ _ h => h) (Or.inl ⟨by rfl, ?yr3⟩) (Below.refl _ _) ?rr3
      case yr3 => (intro w hSw; go_simp; try with_reducible rfl)
      try simp only [Act.put, List.setIfInBounds_toArray, List.set_cons_zero, List.set_cons_succ]
      refine wpAnyH_take (i := 3) (oi := { dst := some 102, op := Op.fieldAddr 43 (Operand.tmp 101) 1, type := 0, pos := "own.go:94", after := #[{ on := 2, ground := Ground.data }], guard := none }) (v := ?vr4) rfl (by kernel_rfl) (by kernel_rfl) (by kernel_rfl) (fun _ _ _ h => h) (Or.inl ⟨by rfl, ?yr4⟩) (Below.refl _ _) ?rr4
      case yr4 => (intro w hSw; go_simp; try with_reducible rfl)
      try simp only [Act.put, List.setIfInBounds_toArray, List.set_cons_zero, List.set_cons_succ]
      refine wpAnyH_take (i := 4) (oi := { dst := some 103, op := Op.load 4 (Operand.tmp 102), type := 4, pos := "own.go:94", after := #[{ on := 3, ground := Ground.data }], guard := none }) (v := ?vr5) rfl (by kernel_rfl) (by kernel_rfl) (by kernel_rfl) (fun _ _ _ h => h) (Or.inl ⟨by rfl, ?yr5⟩) (Below.refl _ _) ?rr5
      case yr5 => (intro w hSw; obtain ⟨t0, t1, t2⟩ := FY.out w hSw; go_simp; try with_reducible rfl)
      try simp only [Act.put, List.setIfInBounds_toArray, List.set_cons_zero, List.set_cons_succ]
      refine wpAnyH_take (i := 5) (oi := { dst := some 104, op := Op.move (Operand.tmp 103), type := 4, pos := "own.go:94", after := #[{ on := 4, ground := Ground.data }], guard := none }) (v := ?vr6) rfl (by kernel_rfl) (by kernel_rfl) (by kernel_rfl) (fun _ _ _ h => h) (Or.inl ⟨by rfl, ?yr6⟩) (Below.refl _ _) ?rr6
      case yr6 => (intro w hSw; go_simp; try with_reducible rfl)
      try simp only [Act.put, List.setIfInBounds_toArray, List.set_cons_zero, List.set_cons_succ]
      refine wpAnyH_take (i := 6) (oi := { dst := some 105, op := Op.move (Operand.tmp 14), type := 4, pos := "own.go:94", after := #[{ on := 5, ground := Ground.guard }], guard := some (5, false) }) (v := ?vr7) rfl (by kernel_rfl) (by kernel_rfl) (by kernel_rfl) (fun _ _ _ h => h) (Or.inl ⟨by rfl, ?yr7⟩) (Below.refl _ _) ?rr7
      case yr7 => (intro w hSw; go_simp; try with_reducible rfl)
      try simp only [Act.put, List.setIfInBounds_toArray, List.set_cons_zero, List.set_cons_succ]
      refine wpAnyH_take (i := 7) (oi := { dst := some 106, op := Op.unOp UnOp.not 4 (Operand.tmp 105), type := 4, pos := "own.go:94", after := #[{ on := 6, ground := Ground.data }, { on := 5, ground := Ground.guard }], guard := some (5, false) }) (v := ?vr8) rfl (by kernel_rfl) (by kernel_rfl) (by kernel_rfl) (fun _ _ _ h => h) (Or.inl ⟨by rfl, ?yr8⟩) (Below.refl _ _) ?rr8
      case yr8 => (intro w hSw; go_simp; try with_reducible rfl)
      try simp only [Act.put, List.setIfInBounds_toArray, List.set_cons_zero, List.set_cons_succ]
      refine wpAnyH_take (i := 8) (oi := { dst := some 107, op := Op.pick (Operand.tmp 104) (Operand.const (Value.bool true)) (Operand.tmp 106), type := 4, pos := "own.go:94", after := #[{ on := 5, ground := Ground.data }, { on := 7, ground := Ground.data }], guard := none }) (v := ?vr9) rfl (by kernel_rfl) (by kernel_rfl) (by kernel_rfl) (fun _ _ _ h => h) (Or.inl ⟨by rfl, ?yr9⟩) (Below.refl _ _) ?rr9
      case yr9 => (intro w hSw; go_simp; try with_reducible rfl)
      try simp only [Act.put, List.setIfInBounds_toArray, List.set_cons_zero, List.set_cons_succ]
      refine wpAnyH_take (i := 9) (oi := { dst := some 108, op := Op.move (Operand.tmp 107), type := 4, pos := "own.go:94", after := #[{ on := 8, ground := Ground.data }, { on := 5, ground := Ground.chain }], guard := none }) (v := ?vr10) rfl (by kernel_rfl) (by kernel_rfl) (by kernel_rfl) (fun _ _ _ h => h) (Or.inl ⟨by rfl, ?yr10⟩) (Below.refl _ _) ?rr10
      case yr10 => (intro w hSw; go_simp; try with_reducible rfl)
      try simp only [Act.put, List.setIfInBounds_toArray, List.set_cons_zero, List.set_cons_succ]
      refine wpAnyH_take (i := 10) (oi := { dst := some 109, op := Op.fieldAddr 43 (Operand.tmp 13) 1, type := 0, pos := "own.go:94", after := #[{ on := 9, ground := Ground.guard }], guard := some (9, false) }) (v := ?vr11) rfl (by kernel_rfl) (by kernel_rfl) (by kernel_rfl) (fun _ _ _ h => h) (Or.inl ⟨by rfl, ?yr11⟩) (Below.refl _ _) ?rr11
      case yr11 => (intro w hSw; go_simp; try with_reducible rfl)
      try simp only [Act.put, List.setIfInBounds_toArray, List.set_cons_zero, List.set_cons_succ]
      refine wpAnyH_take (i := 11) (oi := { dst := some 110, op := Op.load 4 (Operand.tmp 109), type := 4, pos := "own.go:94", after := #[{ on := 10, ground := Ground.data }, { on := 9, ground := Ground.guard }], guard := some (9, false) }) (v := ?vr12) rfl (by kernel_rfl) (by kernel_rfl) (by kernel_rfl) (fun _ _ _ h => h) (Or.inl ⟨by rfl, ?yr12⟩) (Below.refl _ _) ?rr12
      case yr12 => (intro w hSw; obtain ⟨t0, t1, t2⟩ := FX.out w hSw; go_simp; try with_reducible rfl)
      try simp only [Act.put, List.setIfInBounds_toArray, List.set_cons_zero, List.set_cons_succ]
      refine wpAnyH_take (i := 12) (oi := { dst := some 111, op := Op.pick (Operand.tmp 108) (Operand.const (Value.bool true)) (Operand.tmp 110), type := 4, pos := "own.go:94", after := #[{ on := 9, ground := Ground.data }, { on := 11, ground := Ground.data }], guard := none }) (v := ?vr13) rfl (by kernel_rfl) (by kernel_rfl) (by kernel_rfl) (fun _ _ _ h => h) (Or.inl ⟨by rfl, ?yr13⟩) (Below.refl _ _) ?rr13
      case yr13 => (intro w hSw; go_simp; try with_reducible rfl)
      try simp only [Act.put, List.setIfInBounds_toArray, List.set_cons_zero, List.set_cons_succ]
      refine wpAnyH_take (i := 13) (oi := { dst := some 112, op := Op.move (Operand.tmp 111), type := 4, pos := "own.go:94", after := #[{ on := 12, ground := Ground.data }, { on := 9, ground := Ground.chain }], guard := none }) (v := ?vr14) rfl (by kernel_rfl) (by kernel_rfl) (by kernel_rfl) (fun _ _ _ h => h) (Or.inl ⟨by rfl, ?yr14⟩) (Below.refl _ _) ?rr14
      case yr14 => (intro w hSw; go_simp; try with_reducible rfl)
      try simp only [Act.put, List.setIfInBounds_toArray, List.set_cons_zero, List.set_cons_succ]
      refine wpAnyH_take (i := 14) (oi := { dst := some 113, op := Op.fieldAddr 43 (Operand.tmp 13) 2, type := 0, pos := "own.go:94", after := #[{ on := 13, ground := Ground.guard }], guard := some (13, false) }) (v := ?vr15) rfl (by kernel_rfl) (by kernel_rfl) (by kernel_rfl) (fun _ _ _ h => h) (Or.inl ⟨by rfl, ?yr15⟩) (Below.refl _ _) ?rr15
      case yr15 => (intro w hSw; go_simp; try with_reducible rfl)
      try simp only [Act.put, List.setIfInBounds_toArray, List.set_cons_zero, List.set_cons_succ]
      refine wpAnyH_take (i := 15) (oi := { dst := some 114, op := Op.load 41 (Operand.tmp 113), type := 41, pos := "own.go:94", after := #[{ on := 14, ground := Ground.data }, { on := 13, ground := Ground.guard }], guard := some (13, false) }) (v := ?vr16) rfl (by kernel_rfl) (by kernel_rfl) (by kernel_rfl) (fun _ _ _ h => h) (Or.inl ⟨by rfl, ?yr16⟩) (Below.refl _ _) ?rr16
      case yr16 => (intro w hSw; obtain ⟨t0, t1, t2⟩ := FX.out w hSw; go_simp; try with_reducible rfl)
      try simp only [Act.put, List.setIfInBounds_toArray, List.set_cons_zero, List.set_cons_succ]
      refine wpAnyH_take (i := 16) (oi := { dst := some 115, op := Op.convert 41 9 (Operand.tmp 114), type := 9, pos := "own.go:94", after := #[{ on := 15, ground := Ground.data }, { on := 13, ground := Ground.guard }], guard := some (13, false) }) (v := ?vr17) rfl (by kernel_rfl) (by kernel_rfl) (by kernel_rfl) (fun _ _ _ h => h) (Or.inl ⟨by rfl, ?yr17⟩) (Below.refl _ _) ?rr17
      case yr17 => (intro w hSw; have t := FS1.out w hSw; go_simp; try with_reducible rfl)
      try simp only [Act.put, List.setIfInBounds_toArray, List.set_cons_zero, List.set_cons_succ]
      refine wpAnyH_take (i := 17) (oi := { dst := some 116, op := Op.move (Operand.tmp 7), type := 22, pos := "own.go:94", after := #[{ on := 13, ground := Ground.guard }], guard := some (13, false) }) (v := ?vr18) rfl (by kernel_rfl) (by kernel_rfl) (by kernel_rfl) (fun _ _ _ h => h) (Or.inl ⟨by rfl, ?yr18⟩) (Below.refl _ _) ?rr18
      case yr18 => (intro w hSw; go_simp; try with_reducible rfl)
      try simp only [Act.put, List.setIfInBounds_toArray, List.set_cons_zero, List.set_cons_succ]
      refine wpAnyH_take (i := 18) (oi := { dst := some 117, op := Op.move (Operand.tmp 9), type := 3, pos := "own.go:94", after := #[{ on := 13, ground := Ground.guard }], guard := some (13, false) }) (v := ?vr19) rfl (by kernel_rfl) (by kernel_rfl) (by kernel_rfl) (fun _ _ _ h => h) (Or.inl ⟨by rfl, ?yr19⟩) (Below.refl _ _) ?rr19
      case yr19 => (intro w hSw; go_simp; try with_reducible rfl)
      try simp only [Act.put, List.setIfInBounds_toArray, List.set_cons_zero, List.set_cons_succ]
      refine wpAnyH_take (i := 19) (oi := { dst := some 118, op := Op.indexAddr 22 (Operand.tmp 116) (Operand.tmp 117), type := 0, pos := "own.go:94", after := #[{ on := 17, ground := Ground.data }, { on := 18, ground := Ground.data }, { on := 13, ground := Ground.guard }], guard := some (13, false) }) (v := ?vr20) rfl (by kernel_rfl) (by kernel_rfl) (by kernel_rfl) (fun _ _ _ h => h) (Or.inl ⟨by rfl, ?yr20⟩) (Below.refl _ _) ?rr20
      case yr20 => (intro w hSw; go_simp; try with_reducible rfl)
      try simp only [Act.put, List.setIfInBounds_toArray, List.set_cons_zero, List.set_cons_succ]
      refine wpAnyH_take (i := 20) (oi := { dst := some 119, op := Op.fieldAddr 43 (Operand.tmp 118) 2, type := 0, pos := "own.go:94", after := #[{ on := 19, ground := Ground.data }, { on := 13, ground := Ground.guard }], guard := some (13, false) }) (v := ?vr21) rfl (by kernel_rfl) (by kernel_rfl) (by kernel_rfl) (fun _ _ _ h => h) (Or.inl ⟨by rfl, ?yr21⟩) (Below.refl _ _) ?rr21
      case yr21 => (intro w hSw; go_simp; try with_reducible rfl)
      try simp only [Act.put, List.setIfInBounds_toArray, List.set_cons_zero, List.set_cons_succ]
      refine wpAnyH_take (i := 21) (oi := { dst := some 120, op := Op.load 41 (Operand.tmp 119), type := 41, pos := "own.go:94", after := #[{ on := 20, ground := Ground.data }, { on := 13, ground := Ground.guard }], guard := some (13, false) }) (v := ?vr22) rfl (by kernel_rfl) (by kernel_rfl) (by kernel_rfl) (fun _ _ _ h => h) (Or.inl ⟨by rfl, ?yr22⟩) (Below.refl _ _) ?rr22
      case yr22 => (intro w hSw; obtain ⟨t0, t1, t2⟩ := FY.out w hSw; go_simp; try with_reducible rfl)
      try simp only [Act.put, List.setIfInBounds_toArray, List.set_cons_zero, List.set_cons_succ]
      refine wpAnyH_take (i := 22) (oi := { dst := some 121, op := Op.convert 41 9 (Operand.tmp 120), type := 9, pos := "own.go:94", after := #[{ on := 21, ground := Ground.data }, { on := 13, ground := Ground.guard }], guard := some (13, false) }) (v := ?vr23) rfl (by kernel_rfl) (by kernel_rfl) (by kernel_rfl) (fun _ _ _ h => h) (Or.inl ⟨by rfl, ?yr23⟩) (Below.refl _ _) ?rr23
      case yr23 => (intro w hSw; have t := FS2.out w hSw; go_simp; try with_reducible rfl)
      try simp only [Act.put, List.setIfInBounds_toArray, List.set_cons_zero, List.set_cons_succ]
      refine wpAnyH_take (i := 23) (oi := { dst := some 122, op := Op.binOp BinOp.neq 9 (Operand.tmp 115) (Operand.tmp 121) 9, type := 4, pos := "own.go:94", after := #[{ on := 16, ground := Ground.data }, { on := 22, ground := Ground.data }, { on := 13, ground := Ground.guard }], guard := some (13, false) }) (v := ?vr24) rfl (by kernel_rfl) (by kernel_rfl) (by kernel_rfl) (fun _ _ _ h => h) (Or.inl ⟨by rfl, ?yr24⟩) (Below.refl _ _) ?rr24
      case yr24 => (intro w hSw; go_simp; try with_reducible rfl)
      try simp only [Act.put, List.setIfInBounds_toArray, List.set_cons_zero, List.set_cons_succ]
      refine wpAnyH_take (i := 24) (oi := { dst := some 123, op := Op.pick (Operand.tmp 112) (Operand.const (Value.bool true)) (Operand.tmp 122), type := 4, pos := "own.go:94", after := #[{ on := 13, ground := Ground.data }, { on := 23, ground := Ground.data }], guard := none }) (v := ?vr25) rfl (by kernel_rfl) (by kernel_rfl) (by kernel_rfl) (fun _ _ _ h => h) (Or.inl ⟨by rfl, ?yr25⟩) (Below.refl _ _) ?rr25
      case yr25 => (intro w hSw; go_simp; try with_reducible rfl)
      try simp only [Act.put, List.setIfInBounds_toArray, List.set_cons_zero, List.set_cons_succ]
      refine wpAnyH_take (i := 25) (oi := { dst := some 124, op := Op.move (Operand.tmp 123), type := 4, pos := "own.go:94", after := #[{ on := 24, ground := Ground.data }, { on := 13, ground := Ground.chain }], guard := none }) (v := ?vr26) rfl (by kernel_rfl) (by kernel_rfl) (by kernel_rfl) (fun _ _ _ h => h) (Or.inl ⟨by rfl, ?yr26⟩) (Below.refl _ _) ?rr26
      case yr26 => (intro w hSw; go_simp; try with_reducible rfl)
      try simp only [Act.put, List.setIfInBounds_toArray, List.set_cons_zero, List.set_cons_succ]
      refine wpAnyH_take (i := 26) (oi := { dst := some 125, op := Op.fieldAddr 43 (Operand.tmp 13) 0, type := 0, pos := "own.go:94", after := #[{ on := 25, ground := Ground.guard }], guard := some (25, false) }) (v := ?vr27) rfl (by kernel_rfl) (by kernel_rfl) (by kernel_rfl) (fun _ _ _ h => h) (Or.inl ⟨by rfl, ?yr27⟩) (Below.refl _ _) ?rr27
      case yr27 => (intro w hSw; go_simp; try with_reducible rfl)
      try simp only [Act.put, List.setIfInBounds_toArray, List.set_cons_zero, List.set_cons_succ]
      refine wpAnyH_take (i := 27) (oi := { dst := some 126, op := Op.load 9 (Operand.tmp 125), type := 9, pos := "own.go:94", after := #[{ on := 26, ground := Ground.data }, { on := 25, ground := Ground.guard }], guard := some (25, false) }) (v := ?vr28) rfl (by kernel_rfl) (by kernel_rfl) (by kernel_rfl) (fun _ _ _ h => h) (Or.inl ⟨by rfl, ?yr28⟩) (Below.refl _ _) ?rr28
      case yr28 => (intro w hSw; obtain ⟨t0, t1, t2⟩ := FX.out w hSw; go_simp; try with_reducible rfl)
      try simp only [Act.put, List.setIfInBounds_toArray, List.set_cons_zero, List.set_cons_succ]
      refine wpAnyH_take (i := 29) (oi := { dst := some 128, op := Op.move (Operand.tmp 7), type := 22, pos := "own.go:94", after := #[{ on := 25, ground := Ground.guard }], guard := some (25, false) }) (v := ?vr29) rfl (by kernel_rfl) (by kernel_rfl) (by kernel_rfl) (fun _ _ _ h => h) (Or.inl ⟨by rfl, ?yr29⟩) (Below.refl _ _) ?rr29
      case yr29 => (intro w hSw; go_simp; try with_reducible rfl)
      try simp only [Act.put, List.setIfInBounds_toArray, List.set_cons_zero, List.set_cons_succ]
      refine wpAnyH_take (i := 30) (oi := { dst := some 129, op := Op.move (Operand.tmp 9), type := 3, pos := "own.go:94", after := #[{ on := 25, ground := Ground.guard }], guard := some (25, false) }) (v := ?vr30) rfl (by kernel_rfl) (by kernel_rfl) (by kernel_rfl) (fun _ _ _ h => h) (Or.inl ⟨by rfl, ?yr30⟩) (Below.refl _ _) ?rr30
      case yr30 => (intro w hSw; go_simp; try with_reducible rfl)
      try simp only [Act.put, List.setIfInBounds_toArray, List.set_cons_zero, List.set_cons_succ]
      refine wpAnyH_take (i := 31) (oi := { dst := some 130, op := Op.indexAddr 22 (Operand.tmp 128) (Operand.tmp 129), type := 0, pos := "own.go:94", after := #[{ on := 29, ground := Ground.data }, { on := 30, ground := Ground.data }, { on := 25, ground := Ground.guard }], guard := some (25, false) }) (v := ?vr31) rfl (by kernel_rfl) (by kernel_rfl) (by kernel_rfl) (fun _ _ _ h => h) (Or.inl ⟨by rfl, ?yr31⟩) (Below.refl _ _) ?rr31
      case yr31 => (intro w hSw; go_simp; try with_reducible rfl)
      try simp only [Act.put, List.setIfInBounds_toArray, List.set_cons_zero, List.set_cons_succ]
      refine wpAnyH_take (i := 32) (oi := { dst := some 131, op := Op.fieldAddr 43 (Operand.tmp 130) 0, type := 0, pos := "own.go:94", after := #[{ on := 31, ground := Ground.data }, { on := 25, ground := Ground.guard }], guard := some (25, false) }) (v := ?vr32) rfl (by kernel_rfl) (by kernel_rfl) (by kernel_rfl) (fun _ _ _ h => h) (Or.inl ⟨by rfl, ?yr32⟩) (Below.refl _ _) ?rr32
      case yr32 => (intro w hSw; go_simp; try with_reducible rfl)
      try simp only [Act.put, List.setIfInBounds_toArray, List.set_cons_zero, List.set_cons_succ]
      refine wpAnyH_take (i := 33) (oi := { dst := some 132, op := Op.load 9 (Operand.tmp 131), type := 9, pos := "own.go:94", after := #[{ on := 32, ground := Ground.data }, { on := 25, ground := Ground.guard }], guard := some (25, false) }) (v := ?vr33) rfl (by kernel_rfl) (by kernel_rfl) (by kernel_rfl) (fun _ _ _ h => h) (Or.inl ⟨by rfl, ?yr33⟩) (Below.refl _ _) ?rr33
      case yr33 => (intro w hSw; obtain ⟨t0, t1, t2⟩ := FY.out w hSw; go_simp; try with_reducible rfl)
      try simp only [Act.put, List.setIfInBounds_toArray, List.set_cons_zero, List.set_cons_succ]
      refine wpAnyH_ready (rs := [28]) (by kernel_rfl) (by simp) ?_
      refine AllReadyH.cons (o := { dst := some 127, op := Op.call { callee := Callee.value (Operand.func 16), args := #[Operand.tmp 126], argTypes := #[9] }, type := 9, pos := "own.go:94", after := #[{ on := 27, ground := Ground.data }, { on := 25, ground := Ground.chain }, { on := 25, ground := Ground.guard }], guard := some (25, false) }) rfl (fun KK hKK => ?_) ?_
      · go_simp
        refine (CKx.out _ (FB.out _ (Below.refl _ _)).1).mono ?_
        rintro e u34' ⟨rfl, bu34'⟩
        (try go_wp2_with fail)
        refine hKK.out _ _ (bu34') (fun _ => ?_)
        clear hKK KK
        try simp only [Act.put, List.setIfInBounds_toArray, List.set_cons_zero, List.set_cons_succ]
        refine wpAnyH_on (bu34') (fun u34 hu34 bu34 => ?_)
        replace FX := on FX bu34
        replace FY := on FY bu34
        replace FS1 := on FS1 bu34
        replace FS2 := on FS2 bu34
        replace FB := on FB bu34
        refine wpAnyH_take (i := 34) (oi := { dst := some 133, op := Op.binOp BinOp.neq 9 (Operand.tmp 127) (Operand.tmp 132) 9, type := 4, pos := "own.go:94", after := #[{ on := 28, ground := Ground.data }, { on := 33, ground := Ground.data }, { on := 25, ground := Ground.guard }], guard := some (25, false) }) (v := ?vr35) rfl (by kernel_rfl) (by kernel_rfl) (by kernel_rfl) (fun _ _ _ h => h) (Or.inl ⟨by rfl, ?yr35⟩) (Below.refl _ _) ?rr35
        case yr35 => (intro w hSw; go_simp; try with_reducible rfl)
        try simp only [Act.put, List.setIfInBounds_toArray, List.set_cons_zero, List.set_cons_succ]
        refine wpAnyH_take (i := 35) (oi := { dst := some 134, op := Op.pick (Operand.tmp 124) (Operand.const (Value.bool true)) (Operand.tmp 133), type := 4, pos := "own.go:94", after := #[{ on := 25, ground := Ground.data }, { on := 34, ground := Ground.data }], guard := none }) (v := ?vr36) rfl (by kernel_rfl) (by kernel_rfl) (by kernel_rfl) (fun _ _ _ h => h) (Or.inl ⟨by rfl, ?yr36⟩) (Below.refl _ _) ?rr36
        case yr36 => (intro w hSw; go_simp; try with_reducible rfl)
        try simp only [Act.put, List.setIfInBounds_toArray, List.set_cons_zero, List.set_cons_succ]
        refine wpAnyH_done (by kernel_rfl) ?_ _
        have BZ : Hid (Below w5.heap.size w5 u34) := (FB.out _ (Below.refl _ _)).2
        clear FX FY FS1 FS2 FB CKx
        go_wp2
        go_roundw
        case rel => exact ⟨j + 1, by omega, by go_num, BZ.out⟩
        case measure => simp [intOf]; omega
      exact AllReadyH.nil
    · obtain rfl : j = nr := by omega
      go_wp2_with fail
      refine (CAW.out wr BW.out).mono ?_
      rintro e w8 ⟨rfl, b8⟩
      have B8 : Hid (Below w.heap.size w w8) := BW.out.trans (b8.mono BW.out.size)
      clear b8
      go_wp2
      go_ret
      exact ⟨rfl, B8.out⟩

theorem contract (H : Type) (enc : TypeId × Value → H) (W : World) (base : Nat) (args : Array Value) (ds gs : List (DataW H)) (before : List MemPlace)
    (hval : ∀ (j : Nat) t v, Tryd.f5.params[j]? = some t → args[j]? = some v → Value.okWide Tryd.prog W .any base t v)
    (hW : DataW.Whole enc Tryd.prog Tryd.f5.params.toList Rows.mergeDeletesSpec.vars false W args.toList ds gs before) (_hL : laidMetH Tryd.prog Rows.mergeDeletesRow.laid W) (hsh : W.ShapedOpen Tryd.prog)
    (hsz0 : (DataW.weightsEach Tryd.prog (Tryd.f5.params.toList ++ Rows.mergeDeletesSpec.plain.varTypes Tryd.prog) (ds ++ gs)).all (· ≤ reachBytes) = true) :
    Calls Tryd.prog 5 args W fun e W' => ∃ v, e = .returned v ∧ Rows.mergeDeletesSpec.post enc Tryd.prog Tryd.f5 false true false false W args v W' := by
  have hW' := hW
  obtain ⟨p, q, hA0, hV, rfl, hfz, hnd⟩ := hW
  have hA : DataW.TrodAll enc Tryd.prog W 0 (fun _ => true) true Tryd.f5.params.toList args.toList ds p := hA0
  rw [Tryd.params5] at hA hval hsz0
  obtain ⟨v0, vs0, d0, ds0, p0, q0, hargs, rfl, rfl, h0, r0⟩ := trodAll_cons hA
  obtain ⟨v1, vs1, d1, ds1, p1, q1, rfl, rfl, rfl, h1, r1⟩ := trodAll_cons r0
  obtain ⟨rfl, rfl, rfl⟩ := trodAll_nil r1
  obtain rfl : args = #[v0, v1] := by cases args; simp_all
  obtain ⟨rfl, rfl⟩ := trodVars_none hV
  have k0 := h0
  have lt0 : ∀ x ∈ p0, x.block < W.heap.size := by obtain ⟨m, hm⟩ := k0; exact DataW.trod_lt m _ _ _ hm
  obtain ⟨L0, w0⟩ := ents_in (hval 0 22 v0 rfl rfl) h0
  have k1 := h1
  have lt1 : ∀ x ∈ p1, x.block < W.heap.size := by obtain ⟨m, hm⟩ := k1; exact DataW.trod_lt m _ _ _ hm
  obtain ⟨L1, w1⟩ := ents_in (hval 1 22 v1 rfl rfl) h1
  clear hA0
  refine (walk v0 L0 v1 L1 W (mx_of hsh) w0 w1).mono fun e W' ⟨he, bel⟩ => ?_
  subst he
  exact ⟨_, rfl, _, _, _, [], _, [], hW', trodAll_mk1 (shut_bool Tryd.underlying4 _), (trodAll_cons_mk (Below.trod laidOut (by kernel_rfl) (of_decide_eq_true (by kernel_rfl)) k0 bel lt0) (trodAll_cons_mk (Below.trod laidOut (by kernel_rfl) (of_decide_eq_true (by kernel_rfl)) k1 bel lt1) trodAll_mk0)), rfl, bel.frame _, fun h => by cases h⟩

theorem laid_met (os : Os) : laidMet Tryd.prog Rows.mergeDeletesRow.laid (({ World.holding Tryd.prog os ⟨#[], #[], []⟩ with heap := ((((World.holding Tryd.prog os ⟨#[], #[], []⟩).heap.modify 0 (fun
      | .cells _ t frozen => .cells #[.int .i64 0] t frozen
      | o => o)).modify 1 (fun
      | .cells _ t frozen => .cells firstCells t frozen
      | o => o)).modify 2 (fun
      | .cells _ t frozen => .cells rangeCells t frozen
      | o => o)) } : World).forCall (fun _ _ => 0) ⟨#[], #[.slice none 0 0, .slice none 0 0], []⟩).memory :=
  laidMet_of_run' 8 (by kernel_rfl) (by kernel_rfl)
theorem reads (os : Os) {H : Type} (enc : TypeId × Value → H) : ∃ places, DataW.whole enc Tryd.prog (({ World.holding Tryd.prog os ⟨#[], #[], []⟩ with heap := ((((World.holding Tryd.prog os ⟨#[], #[], []⟩).heap.modify 0 (fun
      | .cells _ t frozen => .cells #[.int .i64 0] t frozen
      | o => o)).modify 1 (fun
      | .cells _ t frozen => .cells firstCells t frozen
      | o => o)).modify 2 (fun
      | .cells _ t frozen => .cells rangeCells t frozen
      | o => o)) } : World).forCall (fun _ _ => 0) ⟨#[], #[.slice none 0 0, .slice none 0 0], []⟩).memory Tryd.f5.params.toList Rows.mergeDeletesSpec.vars false #[Value.slice none 0 0, .slice none 0 0].toList 8 = some ([.nil, .nil], [], places) :=
  ⟨[], by kernel_rfl⟩

set_option maxRecDepth 100000 in
theorem lifted (os : Os) (started : os.Started) (H : Type) (enc : TypeId × Value → H) (F : Stop.Interp) :
    ReturnsInHanded {} Tryd.checked os 5 .any ((OpenSpec.ofChange Rows.mergeDeletesSpec).preRow enc Tryd.prog Tryd.f5 Rows.mergeDeletesRow.domain false Rows.mergeDeletesRow.laid) (((OpenSpec.ofChange Rows.mergeDeletesSpec).at F).post enc Tryd.prog Tryd.f5 false true false false) := by
  obtain ⟨places, hx⟩ := reads os enc
  refine returnsInHanded_of_row (C := Tryd.checked) (s := OpenSpec.ofChange Rows.mergeDeletesSpec) own started (by kernel_rfl) Tryd.func5
    (witness_row_at (enc := enc) (C := Tryd.checked) false ({ World.holding Tryd.prog os ⟨#[], #[], []⟩ with heap := ((((World.holding Tryd.prog os ⟨#[], #[], []⟩).heap.modify 0 (fun
      | .cells _ t frozen => .cells #[.int .i64 0] t frozen
      | o => o)).modify 1 (fun
      | .cells _ t frozen => .cells firstCells t frozen
      | o => o)).modify 2 (fun
      | .cells _ t frozen => .cells rangeCells t frozen
      | o => o)) } : World) #[.slice none 0 0, .slice none 0 0] rfl (by kernel_rfl) (by kernel_rfl) (by kernel_rfl)
      (OpenSpec.preRow_of_cond 8 hx (by kernel_rfl) (fun k hk => by cases hk) (by kernel_rfl) (laid_met os))) ?_
  intro W base args ds gs before hval hW _ _ hsz hL hsh _
  exact contract H enc W base args ds gs before hval hW hL hsh hsz

theorem said : Rows.MergeDeletesSaid :=
  OpenClaim.holds_of_cond 5 Tryd.f5 rfl rfl rfl rfl rfl rfl rfl ⟨rfl, rfl, rfl, rfl, rfl⟩ rfl rfl rfl rfl rfl (by kernel_rfl) Tryd.func5 (by kernel_rfl)
    (of_decide_eq_true (by kernel_rfl)) (by unfold Func.isWrapper; first | (rw [if_pos (by decide +kernel)]; kernel_rfl) | (rw [if_neg (by decide +kernel)]; exact ⟨rfl, rfl⟩))
    (fun os started H enc _ F => by rw [OpenClaim.pre_eq_preRow]; exact lifted os started H enc F)

theorem plain (f : FuncId) (fn : Func) (hf : Tryd.pinned.checked.prog.funcNamed "sumpter/sumpterlaw09.MergeDeletes" = some f) (hfn : Tryd.pinned.checked.prog.funcs[f]? = some fn) :
    false = Tryd.pinned.checked.prog.looks [] ∧ ∀ (j : Nat) t, fn.params[j]? = some t → Tryd.pinned.checked.prog.wantsStandIn t = false := by
  obtain rfl : f = 5 := Option.some.inj ((show Tryd.prog.funcNamed "sumpter/sumpterlaw09.MergeDeletes" = some 5 by kernel_rfl).symm.trans hf) |>.symm
  obtain rfl : fn = Tryd.f5 := (Option.some.inj (Tryd.func5.symm.trans hfn)).symm
  refine ⟨by kernel_rfl, fun j t ht => ?_⟩
  rw [Tryd.params5] at ht
  have hm : t ∈ [22, 22] := by simpa using Array.mem_of_getElem? ht
  have hall : ([22, 22].all fun u => !Tryd.prog.wantsStandIn u) = true := by kernel_rfl
  exact (show Tryd.prog.wantsStandIn t = false by simpa using List.all_eq_true.1 hall t hm)
end Go.Proofs.YtajcabfeabbknaaDoor.mergeDeletes

namespace Go.Proofs.YtajcabfeabbknaaDoor
/-- The card of MergeDeletes. -/
theorem mergeDeletes_card : Rows.MergeDeletesCardSaid :=
  Claim7.holds_tied_plain_at .later [] _ _ _ _ mergeDeletes.said (fun _ h => by cases h) (by kernel_rfl) (fun _ h => by cases h) mergeDeletes_row_tie rfl ⟨rfl, rfl⟩ (by kernel_rfl) rfl mergeDeletes.plain (by kernel_rfl)
#print axioms mergeDeletes_card
end Go.Proofs.YtajcabfeabbknaaDoor
