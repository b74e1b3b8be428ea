/-
  RangesBack: a set's spans, put, are got as they were, whatever stands behind; cut off they are none.
-/
import Derived.Test.YtaghmoddalbepaaDoorPkE
namespace Go.Proofs.YtaghmoddalbepaaDoor.rangesBack
open Go.ChangeShapes Go.WideShapes Go.ChangeAt Go.RowKit Go.Deep Go.ChangeMaps
set_option maxRecDepth 100000

set_option maxHeartbeats 8000000 in
theorem walk (v0 : Value) (L : List Cal) (a1 : Option Addr) (len1 cap1 : Nat) (z1 : List Int) (x2 : Int) (w : World) (hw : Fi.Wid w) (h0 : CQ w v0 L) (h1 : Bytes w a1 len1 cap1 z1) (h2 : (Lit.int .u16 x2).wf = true) :
    Calls Tryd.prog 6 #[v0, .slice a1 len1 cap1, .int .u16 x2] w fun e w' => e = .returned (.bool true) ∧ Below w.heap.size w w' := by
  obtain ⟨a0, c0, rfl⟩ := h0.shape
  have hb2 := bounds_u16 h2
  have HBE : Hid (Sl w (.slice a1 len1 cap1) (z1.take len1)) := h1.sl
  have hbl : (z1.take len1).length ≤ 140737488351232 := by
    obtain ⟨-, q1, q2, q3, -⟩ := h1
    rw [List.length_take]
    omega
  generalize z1.take len1 = ZB at *
  clear h1 h2
  by_cases h60 : 60 < L.length
  · have t0 : (60 : Int) < (L.length : Int) := by omega
    have ca := awake_any w hw
    clear h0 hw
    generalize L.length = n at *
    go_enter Tryd.func6, Tryd.ntmps6
    go_wp2_with fail
    refine ca.mono ?_
    rintro e w1 ⟨rfl, b1⟩
    have HB1 : Hid (Below w.heap.size w w1) := b1
    clear ca b1
    go_wp2
    go_ret
    exact ⟨rfl, HB1.out⟩
  have t0 : ¬ (60 : Int) < (L.length : Int) := by omega
  have cn1 := new_any w
  obtain ⟨w2, hw2⟩ : ∃ w2, w2 = w.alloc (.cells #[.slice none 0 0] 60) := ⟨_, rfl⟩
  have b2 : Below w.heap.size w w2 := by rw [hw2]; exact al_below _ _
  have st2 : ST w2 (w.heap.size + 2) w.heap.size (.slice none 0 0) [] := by rw [hw2]; exact st_new w _
  have hz2 : w2.heap.size = w.heap.size + 1 := by rw [hw2]; simp
  rw [← hw2] at cn1
  clear hw2
  obtain ⟨w3, hw3⟩ : ∃ w3, w3 = w2.alloc (.cells #[.slice none 0 0] 30) := ⟨_, rfl⟩
  have b3 : Below w2.heap.size w2 w3 := by rw [hw3]; exact al_below _ _
  have HB3 : Hid (Below w.heap.size w w3) := b2.trans (b3.mono b2.size)
  have HD3 : Hid (DB w3 (w.heap.size + 2) w.heap.size (w.heap.size + 1) (.slice none 0 0) (.slice none 0 0) []) := db_new (st2.below b3) (by rw [hw3, ← hz2]; exact heap_alloc_new w2 _) (by omega) (by omega)
  have HZ3 : Hid (w.heap.size + 2 ≤ w3.heap.size) := by unfold Hid; rw [hw3]; simp; omega
  have HQ : Hid (CQ w (.slice a0 L.length c0) L) := h0
  have HW0 : Hid (Fi.Wid w) := hw
  have HA0 : Hid (doL (L.take 0) [] = []) := rfl
  have HLN : Hid (∀ j, (doL (L.take j) []).length ≤ 120) := fun j => by
    have q := (doL_spec (L.take j) [] Canon.nil).2
    rw [List.length_take] at q
    simp only [List.length_nil] at q
    omega
  have HST : Hid (∀ j, j < L.length → doL (L.take (j + 1)) [] = doP (doL (L.take j) []) (atK L j)) := fun j hj => by rw [takeK hj, doL_snoc]
  have HOK : Hid (∀ j, j < L.length → okC (atK L j)) := fun j hj => h0.ok _ (by rw [atK_eq L j hj]; exact List.getElem_mem hj)
  have HFA : Hid (doL (L.take L.length) [] = doL L []) := by unfold Hid; rw [List.take_length]
  clear hw h0 b2 b3 st2
  generalize hFA : (fun j => doL (L.take j) []) = FA at *
  have HFA' : Hid (∀ j, doL (L.take j) [] = FA j) := fun j => by rw [← hFA]
  clear hFA
  simp only [HFA'.out] at HA0 HLN HST HFA
  clear HFA'
  generalize doL L [] = Z at *
  obtain ⟨n, hn⟩ : ∃ n, n = L.length := ⟨_, rfl⟩
  have HN : Hid (n = L.length) := hn
  rw [← hn] at t0 HQ HST HOK HFA h60 ⊢
  clear hn
  go_enter Tryd.func6, Tryd.ntmps6
  go_wp2_with fail
  refine cn1.mono ?_
  rintro e wq ⟨rfl, eq⟩
  rw [eq]
  clear cn1 eq wq
  go_wp2_with fail
  rw [← hw3]
  clear hw3 hz2
  go_loopw [9] (fun s9 wr => ∃ (j : Nat) (va ua : Value), j ≤ n ∧ s9 = .int .i64 j ∧ DB wr (w.heap.size + 2) w.heap.size (w.heap.size + 1) va ua (FA j) ∧ Below w.heap.size w wr ∧ w.heap.size + 2 ≤ wr.heap.size) (fun s9 _ => n - (intOf s9).toNat)
  case atStart => exact ⟨0, _, _, by omega, rfl, by rw [HA0.out]; exact HD3.out, HB3.out, HZ3.out⟩
  case round =>
    obtain ⟨j, va, ua, hj, rfl, db, bel, hz⟩ := hrel
    have HB : Hid (Below w.heap.size w wr) := bel
    have HD : Hid (DB wr (w.heap.size + 2) w.heap.size (w.heap.size + 1) va ua (FA j)) := db
    have HZ : Hid (w.heap.size + 2 ≤ wr.heap.size) := hz
    clear bel db hz
    by_cases hjn : j < n
    · have lt2 : (j : Int) < (n : Int) := by omega
      obtain ⟨b, off, rfl, -, -, -⟩ := HQ.out.at j (by rw [← HN.out]; exact hjn)
      have FR : Hid (∀ x, Below w.heap.size w x → x.cell? ⟨b, off + j * 3, none⟩ = some (.int .u8 (atK L j).1) ∧ x.cell? ⟨b, off + j * 3 + 1, none⟩ = some (.int .i64 (atK L j).2.1) ∧ x.cell? ⟨b, off + j * 3 + 2, none⟩ = some (.int .i64 (atK L j).2.2)) := fun x hx => by
        obtain ⟨b', off', e', k1, k2, k3⟩ := (HQ.out.kept hx).at j (by rw [← HN.out]; exact hjn)
        cases e'
        exact ⟨k1, k2, k3⟩
      have HX : Hid (okC (atK L j)) := HOK.out j hjn
      have HR : Hid (FA (j + 1) = doP (FA j) (atK L j)) := HST.out j hjn
      have HL : Hid ((FA j).length ≤ 900) := Nat.le_trans (HLN.out j) (by omega)
      generalize atK L j = x at *
      go_upto_region 7 with fail
      refine wp_region_held_drew (S := From w) (by kernel_rfl) (Below.drew (HB.out)) (fun _ => ?_)
      refine wpAnyH_name (fun u0 hu0 => ?_)
      have bu0 : Below w.heap.size w u0 := by rw [hu0.out]; exact Below.drew (HB.out)
      have Du0 : DB u0 (w.heap.size + 2) w.heap.size (w.heap.size + 1) va ua (FA j) := by rw [hu0.out]; exact HD.out.below ((Below.refl _ _).drew)
      have Zu0 : w.heap.size + 2 ≤ u0.heap.size := by rw [hu0.out]; exact HZ.out
      refine wpAnyH_take (i := 0) (oi := { dst := some 31, op := Op.move (Operand.tmp 7), type := 26, pos := "own.go:38", after := #[], guard := none }) (v := ?vr1) rfl (by kernel_rfl) (by kernel_rfl) (by kernel_rfl) (fun _ _ _ h => h) (Or.inl ⟨by rfl, ?yr1⟩) bu0 ?rr1
      case yr1 => (intro w hSw; go_simp; try with_reducible rfl)
      try simp only [Act.put, List.setIfInBounds_toArray, List.set_cons_zero, List.set_cons_succ]
      refine wpAnyH_take (i := 2) (oi := { dst := some 33, op := Op.move (Operand.tmp 0), type := 22, pos := "own.go:38", after := #[], guard := none }) (v := ?vr2) rfl (by kernel_rfl) (by kernel_rfl) (by kernel_rfl) (fun _ _ _ h => h) (Or.inl ⟨by rfl, ?yr2⟩) bu0 ?rr2
      case yr2 => (intro w hSw; go_simp; try with_reducible rfl)
      try simp only [Act.put, List.setIfInBounds_toArray, List.set_cons_zero, List.set_cons_succ]
      refine wpAnyH_take (i := 3) (oi := { dst := some 34, op := Op.move (Operand.tmp 9), type := 3, pos := "own.go:38", after := #[], guard := none }) (v := ?vr3) rfl (by kernel_rfl) (by kernel_rfl) (by kernel_rfl) (fun _ _ _ h => h) (Or.inl ⟨by rfl, ?yr3⟩) bu0 ?rr3
      case yr3 => (intro w hSw; go_simp; try with_reducible rfl)
      try simp only [Act.put, List.setIfInBounds_toArray, List.set_cons_zero, List.set_cons_succ]
      refine wpAnyH_take (i := 4) (oi := { dst := some 35, op := Op.indexAddr 22 (Operand.tmp 33) (Operand.tmp 34), type := 0, pos := "own.go:38", after := #[{ on := 2, ground := Ground.data }, { on := 3, ground := Ground.data }], guard := none }) (v := ?vr4) rfl (by kernel_rfl) (by kernel_rfl) (by kernel_rfl) (fun _ _ _ h => h) (Or.inl ⟨by rfl, ?yr4⟩) bu0 ?rr4
      case yr4 => (intro w hSw; go_simp; try with_reducible rfl)
      try simp only [Act.put, List.setIfInBounds_toArray, List.set_cons_zero, List.set_cons_succ]
      refine wpAnyH_take (i := 5) (oi := { dst := some 36, op := Op.load 24 (Operand.tmp 35), type := 24, pos := "own.go:38", after := #[{ on := 4, ground := Ground.data }], guard := none }) (v := .agg #[.int .u8 x.1, .int .i64 x.2.1, .int .i64 x.2.2]) rfl (by kernel_rfl) (by kernel_rfl) (by kernel_rfl) (fun _ _ _ h => h) (Or.inl ⟨by rfl, ?yr5⟩) bu0 ?rr5
      case yr5 => (intro w hSw; have t0 := (FR.out w hSw).1; have t1 := (FR.out w hSw).2.1; have t2 := (FR.out w hSw).2.2; go_simp; try with_reducible rfl)
      try simp only [Act.put, List.setIfInBounds_toArray, List.set_cons_zero, List.set_cons_succ]
      refine wpAnyH_ready (rs := [1]) (by kernel_rfl) (by simp) ?_
      refine AllReadyH.cons (o := { dst := some 32, op := Op.load 30 (Operand.tmp 8), type := 30, pos := "own.go:38", after := #[], guard := none }) rfl (fun KK hKK => ?_) ?_
      · have cau6 := Du0.cell
        go_simp
        refine hKK.out _ _ (bu0) (fun _ => ?_)
        clear hKK KK
        try simp only [Act.put, List.setIfInBounds_toArray, List.set_cons_zero, List.set_cons_succ]
        refine wpAnyH_name (fun u6 hu6 => ?_)
        have bu6 : Below w.heap.size w u6 := by rw [hu6.out]; exact (bu0)
        have Du6 : DB u6 (w.heap.size + 2) w.heap.size (w.heap.size + 1) va ua (FA j) := by rw [hu6.out]; exact Du0
        have Zu6 : w.heap.size + 2 ≤ u6.heap.size := by rw [hu6.out]; exact Zu0
        refine wpAnyH_ready (rs := [6]) (by kernel_rfl) (by simp) ?_
        refine AllReadyH.cons (o := { dst := some 37, op := Op.call { callee := Callee.value (Operand.func 10), args := #[Operand.tmp 31, Operand.tmp 32, Operand.tmp 36], argTypes := #[26, 30, 24] }, type := 31, pos := "own.go:38", after := #[{ on := 0, ground := Ground.data }, { on := 1, ground := Ground.data }, { on := 5, ground := Ground.data }], guard := none }) rfl (fun KK hKK => ?_) ?_
        · go_simp
          refine (do_any u6 _ _ _ _ _ _ Du6.dd HL.out Zu6 HX.out).mono ?_
          rintro e u7' ⟨uuu7, vvu7, rfl, du7, su7, ru7⟩
          obtain ⟨uxu7, uyu7, rfl, -, -, -⟩ := du7.sp.shape
          (try go_wp2_with fail)
          refine hKK.out _ _ (su_below su7 bu6 (by have := Zu6; omega) (by omega) (fun k e => by have := Du6.own k e; omega)) (fun _ => ?_)
          clear hKK KK
          try simp only [Act.put, List.setIfInBounds_toArray, List.set_cons_zero, List.set_cons_succ]
          refine wpAnyH_name (fun u7 hu7 => ?_)
          have bu7 : Below w.heap.size w u7 := by rw [hu7.out]; exact (su_below su7 bu6 (by have := Zu6; omega) (by omega) (fun k e => by have := Du6.own k e; omega))
          rw [← hu7.out] at du7 su7
          have Zu7 : w.heap.size + 2 ≤ u7.heap.size := Nat.le_trans Zu6 su7.size
          have DDu7 := db_do Du6 du7 su7 ru7 Zu6
          have cau7 : u7.cell? ⟨w.heap.size + 1, 0, none⟩ = some ua := by have := DDu7.1; simp [World.cell?, this]
          have cbu7 : u7.frozen? ⟨w.heap.size + 1, 0, none⟩ = false := by have := DDu7.1; simp [World.frozen?, this]
          refine wpAnyH_take (i := 7) (oi := { dst := some 30, op := Op.move (Operand.tmp 37), type := 31, pos := "own.go:38", after := #[{ on := 6, ground := Ground.data }], guard := none }) (v := ?vr8) rfl (by kernel_rfl) (by kernel_rfl) (by kernel_rfl) (fun _ _ _ h => h) (Or.inl ⟨by rfl, ?yr8⟩) bu7 ?rr8
          case yr8 => (intro w hSw; go_simp; try with_reducible rfl)
          try simp only [Act.put, List.setIfInBounds_toArray, List.set_cons_zero, List.set_cons_succ]
          refine wpAnyH_take (i := 8) (oi := { dst := some 38, op := Op.extract (Operand.tmp 30) 0, type := 30, pos := "own.go:38", after := #[{ on := 7, ground := Ground.data }], guard := none }) (v := ?vr9) rfl (by kernel_rfl) (by kernel_rfl) (by kernel_rfl) (fun _ _ _ h => h) (Or.inl ⟨by rfl, ?yr9⟩) bu7 ?rr9
          case yr9 => (intro w hSw; go_simp; try with_reducible rfl)
          try simp only [Act.put, List.setIfInBounds_toArray, List.set_cons_zero, List.set_cons_succ]
          refine wpAnyH_take (i := 9) (oi := { dst := some 39, op := Op.extract (Operand.tmp 30) 1, type := 4, pos := "own.go:38", after := #[{ on := 7, ground := Ground.data }, { on := 10, ground := Ground.gcOnly Departure.lateStores }], guard := none }) (v := ?vr10) rfl (by kernel_rfl) (by kernel_rfl) (by kernel_rfl) (fun _ _ _ h => h) (Or.inl ⟨by rfl, ?yr10⟩) bu7 ?rr10
          case yr10 => (intro w hSw; go_simp; try with_reducible rfl)
          try simp only [Act.put, List.setIfInBounds_toArray, List.set_cons_zero, List.set_cons_succ]
          refine wpAnyH_ready (rs := [10]) (by kernel_rfl) (by simp) ?_
          refine AllReadyH.cons (o := { dst := none, op := Op.store 30 (Operand.tmp 8) (Operand.tmp 38), type := 0, pos := "own.go:38", after := #[{ on := 8, ground := Ground.data }, { on := 6, ground := Ground.chain }, { on := 0, ground := Ground.phase }, { on := 1, ground := Ground.phase }, { on := 2, ground := Ground.phase }, { on := 3, ground := Ground.phase }, { on := 4, ground := Ground.phase }, { on := 5, ground := Ground.phase }, { on := 6, ground := Ground.phase }, { on := 7, ground := Ground.phase }, { on := 8, ground := Ground.phase }, { on := 9, ground := Ground.textOnly Departure.lateStores }], guard := none }) rfl (fun KK hKK => ?_) ?_
          · go_simp
            refine hKK.out _ _ (bu7.setCell (Nat.le_add_right w.heap.size 1) _) (fun _ => ?_)
            clear hKK KK
            try simp only [Act.put]
            refine wpAnyH_name (fun u11 hu11 => ?_)
            have bu11 : Below w.heap.size w u11 := by rw [hu11.out]; exact (bu7.setCell (Nat.le_add_right w.heap.size 1) _)
            have Du11 : DB u11 (w.heap.size + 2) w.heap.size (w.heap.size + 1) vvu7 (.slice uxu7 (doP (FA j) x).length uyu7) (FA (j + 1)) := by rw [hu11.out, HR.out]; exact DDu7.2
            have Zu11 : w.heap.size + 2 ≤ u11.heap.size := by rw [hu11.out]; simp only [World.setCell, Array.size_modify]; exact Zu7
            refine wpAnyH_done (by kernel_rfl) ?_ _
            have H1 : Hid (DB u11 (w.heap.size + 2) w.heap.size (w.heap.size + 1) vvu7 (.slice uxu7 (doP (FA j) x).length uyu7) (FA (j + 1))) := Du11
            have H2 := bu11
            have HB9 : Hid (Below w.heap.size w u11) := H2
            have HZ9 : Hid (w.heap.size + 2 ≤ u11.heap.size) := Zu11
            go_wp2
            go_roundw
            case rel => exact ⟨j + 1, _, _, by omega, by go_num, H1.out, HB9.out, HZ9.out⟩
            case measure => simp [intOf]; omega
          exact AllReadyH.nil
        exact AllReadyH.nil
      exact AllReadyH.nil
    · obtain rfl : j = n := by omega
      have lt2 : ¬ (j : Int) < (j : Int) := by omega
      have HDZ : Hid (ST wr (w.heap.size + 2) w.heap.size va Z) := by unfold Hid; rw [← HFA.out]; exact HD.out.dd.st
      have HZL : Hid (Z.length ≤ 120 ∧ Canon Z) := ⟨by rw [← HFA.out]; exact HLN.out j, HDZ.out.cn⟩
      have HWR : Hid (Fi.Wid wr) := HW0.out.below HB.out HW0.out.pos
      have HBF : Hid (∀ W, Below wr.heap.size wr W → Below w.heap.size w W) := fun W hb => HB.out.trans (hb.mono HB.out.size)
      have HAW : Hid (∀ W, Below wr.heap.size wr W → Calls Tryd.prog 8 #[] W fun e W' => e = .returned (.bool true) ∧ Below W.heap.size W W') := fun W hb => awake_any W (HWR.out.below hb HWR.out.pos)
      have HBEr : Hid (Sl wr (.slice a1 len1 cap1) ZB) := HBE.out.kept HB.out
      have cs1 := spans_any wr _ Z HDZ.out.sqA
      clear HFA HD HST HOK HQ HLN HD3 HB3 HZ3 HA0 HW0 HBE HB
      have HLEN : Hid (∀ W, Below wr.heap.size wr W → Calls Tryd.prog 18 #[.pointer (some ⟨w.heap.size, 0, none⟩)] W fun e W' => e = .returned (.int .i64 (Z.length : Nat)) ∧ W' = W) := fun W hb => len_any W _ _ _ _ (HDZ.out.below hb)
      go_wp2_with fail
      refine cs1.mono ?_
      rintro e w5 ⟨v5, rfl, r5, b5⟩
      obtain ⟨a5, c5, rfl, -, -, -⟩ := r5.is.shape
      have HB5 : Hid (Below wr.heap.size wr w5) := b5
      by_cases hyes : Z ≠ [] ∧ Z.length ≤ 64
      · have cp := put_yes w5 a5 c5 Z (HWR.out.below b5 HWR.out.pos) r5.is (fun k hk => (rsp_row r5 hk).2) HZL.out.2 hyes.1 hyes.2
        have HP1 : Hid (0 < (putB Z).length) := putB_pos HZL.out.2 hyes.1
        have HP2 : Hid ((putB Z).length ≤ 1032) := putB_len hyes.2
        have HP3 : Hid (∀ ys, getP (putB Z ++ ys) = (Z, (((putB Z).length : Nat) : Int), 0)) := fun ys => getP_put HZL.out.2 hyes.1 hyes.2 ys
        have HP4 : Hid (∀ k, k < (putB Z).length → getP ((putB Z).take k) = ([], 0, 3)) := fun k hk => getP_cut HZL.out.2 hyes.1 hyes.2 k hk
        clear cs1 r5 b5 hyes
        generalize putB Z = PZ at *
        obtain ⟨zn, hzn⟩ : ∃ zn, zn = Z.length := ⟨_, rfl⟩
        have HZN : Hid (zn = Z.length) := hzn
        rw [← hzn] at HZL cp HLEN ⊢
        clear hzn
        go_wp2_with fail
        refine cp.mono ?_
        rintro e w6 ⟨v6, rfl, ow6, b6⟩
        obtain ⟨a6, c6, rfl⟩ := ow6.shape
        have HO6 : Hid (Ow w6 w5.heap.size (.slice a6 PZ.length c6) PZ) := ow6
        have HB6 : Hid (Below wr.heap.size wr w6) := HB5.out.trans (b6.mono HB5.out.size)
        clear cp ow6 b6
        have hlp1 := HP1.out
        have hlp2 := HP2.out
        obtain ⟨m, hm⟩ : ∃ m, m = PZ.length := ⟨_, rfl⟩
        have HM : Hid (m = PZ.length) := hm
        rw [← hm] at hlp1 hlp2 HP1 HP2 HP3 HP4 HO6 ⊢
        clear hm
        have ne0 : ((m : Int) == 0) = false := by simp; omega
        have hn6 := ow_new w6
        have ba6 : Below w6.heap.size w6 (w6.alloc (.cells #[] 5)) := al_below _ _
        have HB7a : Hid (Below wr.heap.size wr (w6.alloc (.cells #[] 5))) := HB6.out.trans (ba6.mono HB6.out.size)
        have hs6 : Sl (w6.alloc (.cells #[] 5)) (.slice a6 m c6) PZ := HO6.out.sl.kept ba6
        have hbig1 : 0 + PZ.length ≤ 200000000000000 := by rw [← HM.out]; omega
        have hbig2 : PZ.length + ZB.length ≤ 200000000000000 := by rw [← HM.out]; omega
        have hsz6 : w6.heap.size ≤ (w6.alloc (.cells #[] 5)).heap.size := by simp
        go_wp2_with (at_builtin; refine wpList_append_sl rfl (.tmp 75) (.tmp 76) rfl w6.heap.size _ 0 [] rfl hn6.1 _ PZ rfl hs6 hbig1 hsz6 ?_)
        intro v7 w7 ho7 hg7
        have b7 : Below w6.heap.size w6 w7 := below_grw ba6 (Nat.le_refl _) hg7 (fun k e => by cases e; exact Nat.le_refl _)
        have HB7 : Hid (Below wr.heap.size wr w7) := HB6.out.trans (b7.mono HB6.out.size)
        have hs7 : Sl w7 (.slice a1 len1 cap1) ZB := HBEr.out.kept HB7.out
        have ow7 := own_base ho7
        clear hg7 hn6 hs6
        have hsz7 := b7.size
        go_wp2_with (at_builtin; refine wpList_append_sl rfl (.tmp 77) (.tmp 78) rfl w6.heap.size _ PZ.length _ rfl ho7 _ ZB rfl hs7 hbig2 hsz7 ?_)
        intro v8 w8 ho8 hg8
        have b8 : Below w6.heap.size w6 w8 := below_grw b7 (Nat.le_refl _) hg8 ow7
        have HB8 : Hid (Below wr.heap.size wr w8) := HB6.out.trans (b8.mono HB6.out.size)
        have HO8 : Hid (Ow w8 w5.heap.size (.slice a6 m c6) PZ) := HO6.out.below b8
        rw [← List.map_append] at ho8
        have hs8 : Sl w8 v8 (PZ ++ ZB) := sl_owned ho8 (bytes_app _ _ HO6.out.2 HBEr.out.bytes)
        have cg := get_any w8 v8 (PZ ++ ZB) (HWR.out.below HB8.out HWR.out.pos) hs8 (by rw [List.length_append, ← HM.out]; omega)
        rw [HP3.out] at cg
        clear ho7 hg8 ho8 hs7 hs8 b7 b8 ba6 hbig1 hbig2 hsz6 hsz7 ow7 HB7 HB7a HO6 HP3
        go_wp2_with fail
        refine cg.mono ?_
        rintro e w9 ⟨v9, rfl, r9, b9⟩
        have HR9 : Hid (RSp w9 w8.heap.size v9 Z) := r9
        have HB9 : Hid (Below wr.heap.size wr w9) := HB8.out.trans (b9.mono HB8.out.size)
        obtain ⟨a9, c9, rfl, -, -, -⟩ := r9.is.shape
        have sl9 : Sl w9 (.slice a6 m c6) PZ := (HO8.out.below b9).sl
        have m1 : IntKind.i64.wrap x2 = x2 := by rw [IntKind.wrap_i64]; omega
        have m2 : Int.tmod x2 (m : Int) = x2 % (m : Int) := Int.tmod_eq_emod_of_nonneg (by omega)
        obtain ⟨q, hq⟩ : ∃ q : Nat, (q : Int) = x2 % (m : Int) := ⟨(x2 % (m : Int)).toNat, by have := Int.emod_nonneg x2 (show (m : Int) ≠ 0 by omega); omega⟩
        have hqm : q < m := by have := Int.emod_lt_of_pos x2 (show 0 < (m : Int) by omega); omega
        rw [← hq] at m2
        have m3 : IntKind.i64.wrap (q : Int) = (q : Int) := by rw [IntKind.wrap_i64]; omega
        have cg2 := get_any w9 (.slice a6 q c6) (PZ.take q) (HWR.out.below HB9.out HWR.out.pos) (sl9.take q (by omega)) (by rw [List.length_take]; omega)
        rw [HP4.out q hqm] at cg2
        have hmc : m ≤ c6 ∧ c6 ≤ 9223372036854775807 ∧ ∃ ax, a6 = some ax := by
          obtain ⟨a', c', e', q1, q2, q3, -⟩ := sl9
          cases e'
          rw [← HM.out] at q1
          refine ⟨q1, by unfold maxLen at q2; omega, ?_⟩
          cases a6 with
          | none => have := q3 rfl; omega
          | some ax => exact ⟨ax, rfl⟩
        obtain ⟨hmc1, hmc2, ax, rfl⟩ := hmc
        have e1 : (q : Int) ≤ (c6 : Int) := by omega
        have e2 : 0 ≤ (q : Int) := by omega
        have ne1 : ¬ (m : Int) = 0 := by omega
        clear cg r9 b9 sl9 hq HO8
        rw [← HZN.out]
        go_wp2_with fail
        refine cg2.mono ?_
        rintro e w10 ⟨v10, rfl, r10, b10⟩
        obtain ⟨a10, c10, rfl, -, -, -⟩ := r10.is.shape
        have HB10 : Hid (Below wr.heap.size wr w10) := HB9.out.trans (b10.mono HB9.out.size)
        have HR10 : Hid (RSp w10 w8.heap.size (.slice a9 Z.length c9) Z) := HR9.out.below b10
        have cs2 := spans_any w10 _ Z (HDZ.out.below HB10.out).sqA
        clear cg2 r10 b10 m1 m2 m3 HR9
        rw [← HZN.out] at HR10
        go_wp2_with fail
        refine cs2.mono ?_
        rintro e w11 ⟨v11, rfl, r11, b11⟩
        obtain ⟨a11, c11, rfl, -, -, -⟩ := r11.is.shape
        have HB11 : Hid (Below wr.heap.size wr w11) := HB10.out.trans (b11.mono HB10.out.size)
        have cm := rsame_any w11 _ _ Z Z (HR10.out.below b11).is r11.is (by have := HZL.out.1; rw [← HZN.out]; omega)
        rw [decide_eq_true rfl] at cm
        clear cs2 r11 b11 HR10
        rw [← HZN.out] at cm ⊢
        go_wp2_with fail
        refine cm.mono ?_
        rintro e w12 ⟨rfl, b12⟩
        have HB12 : Hid (Below wr.heap.size wr w12) := HB11.out.trans (b12.mono HB11.out.size)
        have cw := HAW.out w12 HB12.out
        clear cm b12 HAW
        go_wp2_with fail
        refine cw.mono ?_
        rintro e w13 ⟨rfl, b13⟩
        have HB13 : Hid (Below w.heap.size w w13) := HBF.out _ (HB12.out.trans (b13.mono HB12.out.size))
        clear cw b13
        go_wp2
        go_ret
        exact ⟨rfl, HB13.out⟩
      · have hck : chkL Z ≠ 0 := by
          unfold chkL
          split
          · omega
          · next q => rw [if_pos (.inl (Classical.byContradiction fun e => hyes ⟨e, by omega⟩))]; omega
        have cp := put_no w5 _ Z r5.is (by have := HZL.out.1; omega) hck
        have HCK : Hid ((Z.length = 0 ∧ chkL Z = 4) ∨ (64 < Z.length ∧ chkL Z = 5)) := by
          unfold Hid chkL
          by_cases q : 64 < Z.length
          · rw [if_pos q]; exact .inr ⟨q, rfl⟩
          · rw [if_neg q]
            have : Z = [] := Classical.byContradiction fun e => hyes ⟨e, by omega⟩
            rw [if_pos (.inl this)]; exact .inl ⟨by rw [this]; rfl, rfl⟩
        clear cs1 r5 b5 hyes hck
        have hzl2 := HZL.out.1
        generalize chkL Z = ck at *
        generalize Z.length = zn at *
        go_wp2_with fail
        refine cp.mono ?_
        rintro e w6 ⟨rfl, b6⟩
        have HB6 : Hid (Below wr.heap.size wr w6) := HB5.out.trans (b6.mono HB5.out.size)
        have cl := HLEN.out w6 HB6.out
        have cw := HAW.out w6 HB6.out
        have HBG : Hid (∀ W, Below w6.heap.size w6 W → Below w.heap.size w W) := fun W hb => HBF.out W (HB6.out.trans (hb.mono HB6.out.size))
        clear cp b6 HLEN HAW HDZ HBEr
        rcases HCK.out with ⟨q1, q2⟩ | ⟨q1, q2⟩
        · subst q1 q2
          clear HCK
          go_wp2_with fail
          refine cl.mono ?_
          rintro e wq ⟨rfl, eq⟩
          rw [eq]
          clear cl eq wq
          go_wp2_with fail
          refine cw.mono ?_
          rintro e w9 ⟨rfl, b9⟩
          have HB9 : Hid (Below w.heap.size w w9) := HBG.out _ b9
          clear cw b9
          go_wp2
          go_ret
          exact ⟨rfl, HB9.out⟩
        · subst q2
          have ne0 : ((zn : Int) == 0) = false := by simp; omega
          have gt0 : (64 : Int) < (zn : Int) := by omega
          have cl2 := cl
          clear HCK
          go_wp2_with fail
          refine cl.mono ?_
          rintro e wq ⟨rfl, eq⟩
          rw [eq]
          clear cl eq wq
          go_wp2_with fail
          refine cl2.mono ?_
          rintro e wq ⟨rfl, eq⟩
          rw [eq]
          clear cl2 eq wq
          go_wp2_with fail
          refine cw.mono ?_
          rintro e w9 ⟨rfl, b9⟩
          have HB9 : Hid (Below w.heap.size w w9) := HBG.out _ b9
          clear cw b9
          go_wp2
          go_ret
          exact ⟨rfl, HB9.out⟩

theorem contract (H : Type) (enc : TypeId × Value → H) (W : World) (base : Nat) (args : Array Value) (ds gs : List (DataW H)) (before : List MemPlace)
    (hval : ∀ (j : Nat) t v, Tryd.f6.params[j]? = some t → args[j]? = some v → Value.okWide Tryd.prog W .any base t v)
    (hW : DataW.Whole enc Tryd.prog Tryd.f6.params.toList Rows.rangesBackSpec.vars false W args.toList ds gs before) (hL : laidMetH Tryd.prog Rows.rangesBackRow.laid W)
    (hsz0 : (DataW.weightsEach Tryd.prog (Tryd.f6.params.toList ++ Rows.rangesBackSpec.plain.varTypes Tryd.prog) (ds ++ gs)).all (· ≤ reachBytes) = true) :
    Calls Tryd.prog 6 args W fun e W' => ∃ v, e = .returned v ∧ Rows.rangesBackSpec.post enc Tryd.prog Tryd.f6 false true false false W args v W' := by
  have hW' := hW
  obtain ⟨p, q, hA0, hV, rfl, hfz, hnd⟩ := hW
  have hA : DataW.TrodAll enc Tryd.prog W 0 (fun _ => true) true Tryd.f6.params.toList args.toList ds p := hA0
  rw [Tryd.params6] at hA hval hsz0
  obtain ⟨v0, vs0, d0, ds0, p0, q0, hargs, rfl, rfl, h0, r0⟩ := trodAll_cons hA
  obtain ⟨v1, vs1, d1, ds1, p1, q1, rfl, rfl, rfl, h1, r1⟩ := trodAll_cons r0
  obtain ⟨v2, vs2, d2, ds2, p2, q2, rfl, rfl, rfl, h2, r2⟩ := trodAll_cons r1
  obtain ⟨rfl, rfl, rfl⟩ := trodAll_nil r2
  obtain rfl : args = #[v0, v1, v2] := by cases args; simp_all
  obtain ⟨rfl, rfl⟩ := trodVars_none hV
  have hsz : (DataW.weightsEach Tryd.prog [22, 50, 46] [d0, d1, d2]).all (· ≤ reachBytes) = true := hsz0
  have k0 := h0
  have lt0 : ∀ x ∈ p0, x.block < W.heap.size := by obtain ⟨m, hm⟩ := k0; exact DataW.trod_lt m _ _ _ hm
  obtain ⟨L0, w0⟩ := cls_in (hval 0 22 v0 rfl rfl) h0
  have k1 := h1
  have lt1 : ∀ x ∈ p1, x.block < W.heap.size := by obtain ⟨m, hm⟩ := k1; exact DataW.trod_lt m _ _ _ hm
  obtain ⟨a1, len1, cap1, z1, rfl, w1⟩ := bytes_open 1 (hval 1 50 v1 rfl rfl) h1 hsz rfl rfl
  obtain ⟨a2, rfl, rfl, rfl, w2⟩ := open_int Tryd.underlying46 (hval 2 46 v2 rfl rfl) h2
  clear hA0
  refine (walk v0 L0 a1 len1 cap1 z1 a2 W (wi_of hL) w0 w1 w2).mono fun e W' ⟨he, bel⟩ => ?_
  subst he
  exact ⟨_, rfl, _, _, _, [], _, [], hW', trodAll_mk1 (shut_bool Tryd.underlying4 _), (trodAll_cons_mk (Below.trod laidOut (by kernel_rfl) (of_decide_eq_true (by kernel_rfl)) k0 bel lt0) (trodAll_cons_mk (Below.trod laidOut (by kernel_rfl) (of_decide_eq_true (by kernel_rfl)) k1 bel lt1) (trodAll_cons_mk (shut_int Tryd.underlying46 w2) trodAll_mk0))), rfl, bel.frame _, fun h => by cases h⟩

theorem laid_met (os : Os) : laidMet Tryd.prog Rows.rangesBackRow.laid (({ World.holding Tryd.prog os ⟨#[], #[], []⟩ with heap := ((World.holding Tryd.prog os ⟨#[], #[], []⟩).heap.modify 0 (fun
      | .cells _ t frozen => .cells widT t frozen
      | o => o)) } : World).forCall (fun _ _ => 0) ⟨#[], #[.slice none 0 0, .slice none 0 0, .int .u16 0], []⟩).memory :=
  laidMet_of_run' 8 (by kernel_rfl) (by kernel_rfl)
theorem reads (os : Os) {H : Type} (enc : TypeId × Value → H) : ∃ places, DataW.whole enc Tryd.prog (({ World.holding Tryd.prog os ⟨#[], #[], []⟩ with heap := ((World.holding Tryd.prog os ⟨#[], #[], []⟩).heap.modify 0 (fun
      | .cells _ t frozen => .cells widT t frozen
      | o => o)) } : World).forCall (fun _ _ => 0) ⟨#[], #[.slice none 0 0, .slice none 0 0, .int .u16 0], []⟩).memory Tryd.f6.params.toList Rows.rangesBackSpec.vars false #[Value.slice none 0 0, .slice none 0 0, .int .u16 0].toList 8 = some ([.nil, .nil, .lit (.int .u16 0)], [], places) :=
  ⟨[], by kernel_rfl⟩

set_option maxRecDepth 100000 in
theorem lifted (os : Os) (started : os.Started) (H : Type) (enc : TypeId × Value → H) (F : Stop.Interp) :
    ReturnsInHanded {} Tryd.checked os 6 .any ((OpenSpec.ofChange Rows.rangesBackSpec).preRow enc Tryd.prog Tryd.f6 Rows.rangesBackRow.domain false Rows.rangesBackRow.laid) (((OpenSpec.ofChange Rows.rangesBackSpec).at F).post enc Tryd.prog Tryd.f6 false true false false) := by
  obtain ⟨places, hx⟩ := reads os enc
  refine returnsInHanded_of_row (C := Tryd.checked) (s := OpenSpec.ofChange Rows.rangesBackSpec) own started (by kernel_rfl) Tryd.func6
    (witness_row_at (enc := enc) (C := Tryd.checked) false ({ World.holding Tryd.prog os ⟨#[], #[], []⟩ with heap := ((World.holding Tryd.prog os ⟨#[], #[], []⟩).heap.modify 0 (fun
      | .cells _ t frozen => .cells widT t frozen
      | o => o)) } : World) #[.slice none 0 0, .slice none 0 0, .int .u16 0] rfl (by kernel_rfl) (by kernel_rfl) (by kernel_rfl)
      (OpenSpec.preRow_of_cond 8 hx (by kernel_rfl) (fun k hk => by cases hk) (by kernel_rfl) (laid_met os))) ?_
  intro W base args ds gs before hval hW _ _ hsz hL _ _
  exact contract H enc W base args ds gs before hval hW hL hsz

theorem said : Rows.RangesBackSaid :=
  OpenClaim.holds_of_cond 6 Tryd.f6 rfl rfl rfl rfl rfl rfl rfl ⟨rfl, rfl, rfl, rfl, rfl⟩ rfl rfl rfl rfl rfl (by kernel_rfl) Tryd.func6 (by kernel_rfl)
    (of_decide_eq_true (by kernel_rfl)) (by unfold Func.isWrapper; first | (rw [if_pos (by decide +kernel)]; kernel_rfl) | (rw [if_neg (by decide +kernel)]; exact ⟨rfl, rfl⟩))
    (fun os started H enc _ F => by rw [OpenClaim.pre_eq_preRow]; exact lifted os started H enc F)

theorem plain (f : FuncId) (fn : Func) (hf : Tryd.pinned.checked.prog.funcNamed "sumpter/sumpterlaw17.RangesBack" = some f) (hfn : Tryd.pinned.checked.prog.funcs[f]? = some fn) :
    false = Tryd.pinned.checked.prog.looks [] ∧ ∀ (j : Nat) t, fn.params[j]? = some t → Tryd.pinned.checked.prog.wantsStandIn t = false := by
  obtain rfl : f = 6 := Option.some.inj ((show Tryd.prog.funcNamed "sumpter/sumpterlaw17.RangesBack" = some 6 by kernel_rfl).symm.trans hf) |>.symm
  obtain rfl : fn = Tryd.f6 := (Option.some.inj (Tryd.func6.symm.trans hfn)).symm
  refine ⟨by kernel_rfl, fun j t ht => ?_⟩
  rw [Tryd.params6] at ht
  have hm : t ∈ [22, 50, 46] := by simpa using Array.mem_of_getElem? ht
  have hall : ([22, 50, 46].all fun u => !Tryd.prog.wantsStandIn u) = true := by kernel_rfl
  exact (show Tryd.prog.wantsStandIn t = false by simpa using List.all_eq_true.1 hall t hm)
end Go.Proofs.YtaghmoddalbepaaDoor.rangesBack

namespace Go.Proofs.YtaghmoddalbepaaDoor
/-- The card of RangesBack. -/
theorem rangesBack_card : Rows.RangesBackCardSaid :=
  Claim7.holds_tied_plain_at .later [] _ _ _ _ rangesBack.said (fun _ h => by cases h) (by kernel_rfl) (fun _ h => by cases h) rangesBack_row_tie rfl ⟨rfl, rfl⟩ (by kernel_rfl) rfl rangesBack.plain (by kernel_rfl)
#print axioms rangesBack_card
end Go.Proofs.YtaghmoddalbepaaDoor
