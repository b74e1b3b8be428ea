/-
  RangesForks: a fork goes its own way; a set that is not there has nothing.
-/
import Derived.Test.YtaghmoddalbepaaDoorPkE
namespace Go.Proofs.YtaghmoddalbepaaDoor.rangesForks
open Go.ChangeShapes Go.WideShapes Go.ChangeAt Go.RowKit Go.Deep Go.ChangeMaps
set_option maxRecDepth 100000

set_option maxHeartbeats 8000000 in
theorem walk (v0 : Value) (L : List Cal) (v1 : Value) (M : List Cal) (w : World) (hw : Fi.Wid w) (h0 : CQ w v0 L) (hm0 : CQ w v1 M) :
    Calls Tryd.prog 4 #[v0, v1] w fun e w' => e = .returned (.bool true) ∧ Below w.heap.size w w' := by
  obtain ⟨a0, c0, rfl⟩ := h0.shape
  obtain ⟨a1, c1, rfl⟩ := hm0.shape
  by_cases h60 : 100 < L.length
  · have t0 : (100 : Int) < (L.length : Int) := by omega
    have ca := awake_any w hw
    clear h0 hm0 hw
    generalize L.length = n at *
    generalize M.length = m at *
    go_enter Tryd.func4, Tryd.ntmps4
    go_wp2_with fail
    refine ca.mono ?_
    rintro e w1 ⟨rfl, b1⟩
    have HB1 : Hid (Below w.heap.size w w1) := b1
    clear ca b1
    go_wp2
    go_ret
    exact ⟨rfl, HB1.out⟩
  by_cases hm60 : 100 < M.length
  · have t0 : ¬ (100 : Int) < (L.length : Int) := by omega
    have t1 : (100 : Int) < (M.length : Int) := by omega
    have ca := awake_any w hw
    clear h0 hm0 hw
    generalize L.length = n at *
    generalize M.length = m at *
    go_enter Tryd.func4, Tryd.ntmps4
    go_wp2_with fail
    refine ca.mono ?_
    rintro e w1 ⟨rfl, b1⟩
    have HB1 : Hid (Below w.heap.size w w1) := b1
    clear ca b1
    go_wp2
    go_ret
    exact ⟨rfl, HB1.out⟩
  have t0 : ¬ (100 : Int) < (L.length : Int) := by omega
  have t1 : ¬ (100 : Int) < (M.length : Int) := by omega
  have cn1 := new_any w
  obtain ⟨w2, hw2⟩ : ∃ w2, w2 = w.alloc (.cells #[.slice none 0 0] 60) := ⟨_, rfl⟩
  have b2 : Below w.heap.size w w2 := by rw [hw2]; exact al_below _ _
  have st2 : ST w2 (w.heap.size + 2) w.heap.size (.slice none 0 0) [] := by rw [hw2]; exact st_new w _
  have hz2 : w2.heap.size = w.heap.size + 1 := by rw [hw2]; simp
  rw [← hw2] at cn1
  clear hw2
  obtain ⟨w3, hw3⟩ : ∃ w3, w3 = w2.alloc (.cells #[.slice none 0 0] 30) := ⟨_, rfl⟩
  have b3 : Below w2.heap.size w2 w3 := by rw [hw3]; exact al_below _ _
  have HB3 : Hid (Below w.heap.size w w3) := b2.trans (b3.mono b2.size)
  have HD3 : Hid (DB w3 (w.heap.size + 2) w.heap.size (w.heap.size + 1) (.slice none 0 0) (.slice none 0 0) []) := db_new (st2.below b3) (by rw [hw3, ← hz2]; exact heap_alloc_new w2 _) (by omega) (by omega)
  have HZ3 : Hid (w.heap.size + 2 ≤ w3.heap.size) := by unfold Hid; rw [hw3]; simp; omega
  have HQ : Hid (CQ w (.slice a0 L.length c0) L) := h0
  have HW0 : Hid (Fi.Wid w) := hw
  have HQ1 : Hid (CQ w (.slice a1 M.length c1) M) := hm0
  have HOK1 : Hid (∀ j, j < M.length → okC (atK M j)) := fun j hj => hm0.ok _ (by rw [atK_eq M j hj]; exact List.getElem_mem hj)
  have HA0 : Hid (doL (L.take 0) [] = []) := rfl
  have HLN : Hid (∀ j, (doL (L.take j) []).length ≤ 200) := fun j => by
    have q := (doL_spec (L.take j) [] Canon.nil).2
    rw [List.length_take] at q
    simp only [List.length_nil] at q
    omega
  have HST : Hid (∀ j, j < L.length → doL (L.take (j + 1)) [] = doP (doL (L.take j) []) (atK L j)) := fun j hj => by rw [takeK hj, doL_snoc]
  have HOK : Hid (∀ j, j < L.length → okC (atK L j)) := fun j hj => h0.ok _ (by rw [atK_eq L j hj]; exact List.getElem_mem hj)
  have HFA : Hid (doL (L.take L.length) [] = doL L []) := by unfold Hid; rw [List.take_length]
  clear hw h0 hm0 b2 b3 st2
  generalize hFA : (fun j => doL (L.take j) []) = FA at *
  have HFA' : Hid (∀ j, doL (L.take j) [] = FA j) := fun j => by rw [← hFA]
  clear hFA
  simp only [HFA'.out] at HA0 HLN HST HFA
  clear HFA'
  generalize doL L [] = Z at *
  obtain ⟨n, hn⟩ : ∃ n, n = L.length := ⟨_, rfl⟩
  have HN : Hid (n = L.length) := hn
  rw [← hn] at t0 HQ HST HOK HFA h60 ⊢
  clear hn
  obtain ⟨m, hm⟩ : ∃ m, m = M.length := ⟨_, rfl⟩
  have HM : Hid (m = M.length) := hm
  rw [← hm] at t1 HQ1 HOK1 hm60 ⊢
  clear hm
  go_enter Tryd.func4, Tryd.ntmps4
  go_wp2_with fail
  refine cn1.mono ?_
  rintro e wq ⟨rfl, eq⟩
  rw [eq]
  clear cn1 eq wq
  go_wp2_with fail
  rw [← hw3]
  clear hw3 hz2
  go_loopw [7] (fun s7 wr => ∃ (j : Nat) (va ua : Value), j ≤ n ∧ s7 = .int .i64 j ∧ DB wr (w.heap.size + 2) w.heap.size (w.heap.size + 1) va ua (FA j) ∧ Below w.heap.size w wr ∧ w.heap.size + 2 ≤ wr.heap.size) (fun s7 _ => n - (intOf s7).toNat)
  case atStart => exact ⟨0, _, _, by omega, rfl, by rw [HA0.out]; exact HD3.out, HB3.out, HZ3.out⟩
  case round =>
    obtain ⟨j, va, ua, hj, rfl, db, bel, hz⟩ := hrel
    have HB : Hid (Below w.heap.size w wr) := bel
    have HD : Hid (DB wr (w.heap.size + 2) w.heap.size (w.heap.size + 1) va ua (FA j)) := db
    have HZ : Hid (w.heap.size + 2 ≤ wr.heap.size) := hz
    clear bel db hz
    by_cases hjn : j < n
    · have lt2 : (j : Int) < (n : Int) := by omega
      obtain ⟨b, off, rfl, -, -, -⟩ := HQ.out.at j (by rw [← HN.out]; exact hjn)
      have FR : Hid (∀ x, Below w.heap.size w x → x.cell? ⟨b, off + j * 3, none⟩ = some (.int .u8 (atK L j).1) ∧ x.cell? ⟨b, off + j * 3 + 1, none⟩ = some (.int .i64 (atK L j).2.1) ∧ x.cell? ⟨b, off + j * 3 + 2, none⟩ = some (.int .i64 (atK L j).2.2)) := fun x hx => by
        obtain ⟨b', off', e', k1, k2, k3⟩ := (HQ.out.kept hx).at j (by rw [← HN.out]; exact hjn)
        cases e'
        exact ⟨k1, k2, k3⟩
      have HX : Hid (okC (atK L j)) := HOK.out j hjn
      have HR : Hid (FA (j + 1) = doP (FA j) (atK L j)) := HST.out j hjn
      have HL : Hid ((FA j).length ≤ 900) := Nat.le_trans (HLN.out j) (by omega)
      generalize atK L j = x at *
      go_upto_region 7 with fail
      refine wp_region_held_drew (S := From w) (by kernel_rfl) (Below.drew (HB.out)) (fun _ => ?_)
      refine wpAnyH_name (fun u0 hu0 => ?_)
      have bu0 : Below w.heap.size w u0 := by rw [hu0.out]; exact Below.drew (HB.out)
      have Du0 : DB u0 (w.heap.size + 2) w.heap.size (w.heap.size + 1) va ua (FA j) := by rw [hu0.out]; exact HD.out.below ((Below.refl _ _).drew)
      have Zu0 : w.heap.size + 2 ≤ u0.heap.size := by rw [hu0.out]; exact HZ.out
      refine wpAnyH_take (i := 0) (oi := { dst := some 34, op := Op.move (Operand.tmp 5), type := 26, pos := "law.go:92", after := #[], guard := none }) (v := ?vr1) rfl (by kernel_rfl) (by kernel_rfl) (by kernel_rfl) (fun _ _ _ h => h) (Or.inl ⟨by rfl, ?yr1⟩) bu0 ?rr1
      case yr1 => (intro w hSw; go_simp; try with_reducible rfl)
      try simp only [Act.put, List.setIfInBounds_toArray, List.set_cons_zero, List.set_cons_succ]
      refine wpAnyH_take (i := 2) (oi := { dst := some 36, op := Op.move (Operand.tmp 0), type := 22, pos := "law.go:92", after := #[], guard := none }) (v := ?vr2) rfl (by kernel_rfl) (by kernel_rfl) (by kernel_rfl) (fun _ _ _ h => h) (Or.inl ⟨by rfl, ?yr2⟩) bu0 ?rr2
      case yr2 => (intro w hSw; go_simp; try with_reducible rfl)
      try simp only [Act.put, List.setIfInBounds_toArray, List.set_cons_zero, List.set_cons_succ]
      refine wpAnyH_take (i := 3) (oi := { dst := some 37, op := Op.move (Operand.tmp 7), type := 3, pos := "law.go:92", after := #[], guard := none }) (v := ?vr3) rfl (by kernel_rfl) (by kernel_rfl) (by kernel_rfl) (fun _ _ _ h => h) (Or.inl ⟨by rfl, ?yr3⟩) bu0 ?rr3
      case yr3 => (intro w hSw; go_simp; try with_reducible rfl)
      try simp only [Act.put, List.setIfInBounds_toArray, List.set_cons_zero, List.set_cons_succ]
      refine wpAnyH_take (i := 4) (oi := { dst := some 38, op := Op.indexAddr 22 (Operand.tmp 36) (Operand.tmp 37), type := 0, pos := "law.go:92", after := #[{ on := 2, ground := Ground.data }, { on := 3, ground := Ground.data }], guard := none }) (v := ?vr4) rfl (by kernel_rfl) (by kernel_rfl) (by kernel_rfl) (fun _ _ _ h => h) (Or.inl ⟨by rfl, ?yr4⟩) bu0 ?rr4
      case yr4 => (intro w hSw; go_simp; try with_reducible rfl)
      try simp only [Act.put, List.setIfInBounds_toArray, List.set_cons_zero, List.set_cons_succ]
      refine wpAnyH_take (i := 5) (oi := { dst := some 39, op := Op.load 24 (Operand.tmp 38), type := 24, pos := "law.go:92", after := #[{ on := 4, ground := Ground.data }], guard := none }) (v := .agg #[.int .u8 x.1, .int .i64 x.2.1, .int .i64 x.2.2]) rfl (by kernel_rfl) (by kernel_rfl) (by kernel_rfl) (fun _ _ _ h => h) (Or.inl ⟨by rfl, ?yr5⟩) bu0 ?rr5
      case yr5 => (intro w hSw; have t0 := (FR.out w hSw).1; have t1 := (FR.out w hSw).2.1; have t2 := (FR.out w hSw).2.2; go_simp; try with_reducible rfl)
      try simp only [Act.put, List.setIfInBounds_toArray, List.set_cons_zero, List.set_cons_succ]
      refine wpAnyH_ready (rs := [1]) (by kernel_rfl) (by simp) ?_
      refine AllReadyH.cons (o := { dst := some 35, op := Op.load 30 (Operand.tmp 6), type := 30, pos := "law.go:92", after := #[], guard := none }) rfl (fun KK hKK => ?_) ?_
      · have cau6 := Du0.cell
        go_simp
        refine hKK.out _ _ (bu0) (fun _ => ?_)
        clear hKK KK
        try simp only [Act.put, List.setIfInBounds_toArray, List.set_cons_zero, List.set_cons_succ]
        refine wpAnyH_name (fun u6 hu6 => ?_)
        have bu6 : Below w.heap.size w u6 := by rw [hu6.out]; exact (bu0)
        have Du6 : DB u6 (w.heap.size + 2) w.heap.size (w.heap.size + 1) va ua (FA j) := by rw [hu6.out]; exact Du0
        have Zu6 : w.heap.size + 2 ≤ u6.heap.size := by rw [hu6.out]; exact Zu0
        refine wpAnyH_ready (rs := [6]) (by kernel_rfl) (by simp) ?_
        refine AllReadyH.cons (o := { dst := some 40, op := Op.call { callee := Callee.value (Operand.func 10), args := #[Operand.tmp 34, Operand.tmp 35, Operand.tmp 39], argTypes := #[26, 30, 24] }, type := 31, pos := "law.go:92", after := #[{ on := 0, ground := Ground.data }, { on := 1, ground := Ground.data }, { on := 5, ground := Ground.data }], guard := none }) rfl (fun KK hKK => ?_) ?_
        · go_simp
          refine (do_any u6 _ _ _ _ _ _ Du6.dd HL.out Zu6 HX.out).mono ?_
          rintro e u7' ⟨uuu7, vvu7, rfl, du7, su7, ru7⟩
          obtain ⟨uxu7, uyu7, rfl, -, -, -⟩ := du7.sp.shape
          (try go_wp2_with fail)
          refine hKK.out _ _ (su_below su7 bu6 (by have := Zu6; omega) (by omega) (fun k e => by have := Du6.own k e; omega)) (fun _ => ?_)
          clear hKK KK
          try simp only [Act.put, List.setIfInBounds_toArray, List.set_cons_zero, List.set_cons_succ]
          refine wpAnyH_name (fun u7 hu7 => ?_)
          have bu7 : Below w.heap.size w u7 := by rw [hu7.out]; exact (su_below su7 bu6 (by have := Zu6; omega) (by omega) (fun k e => by have := Du6.own k e; omega))
          rw [← hu7.out] at du7 su7
          have Zu7 : w.heap.size + 2 ≤ u7.heap.size := Nat.le_trans Zu6 su7.size
          have DDu7 := db_do Du6 du7 su7 ru7 Zu6
          have cau7 : u7.cell? ⟨w.heap.size + 1, 0, none⟩ = some ua := by have := DDu7.1; simp [World.cell?, this]
          have cbu7 : u7.frozen? ⟨w.heap.size + 1, 0, none⟩ = false := by have := DDu7.1; simp [World.frozen?, this]
          refine wpAnyH_take (i := 7) (oi := { dst := some 33, op := Op.move (Operand.tmp 40), type := 31, pos := "law.go:92", after := #[{ on := 6, ground := Ground.data }], guard := none }) (v := ?vr8) rfl (by kernel_rfl) (by kernel_rfl) (by kernel_rfl) (fun _ _ _ h => h) (Or.inl ⟨by rfl, ?yr8⟩) bu7 ?rr8
          case yr8 => (intro w hSw; go_simp; try with_reducible rfl)
          try simp only [Act.put, List.setIfInBounds_toArray, List.set_cons_zero, List.set_cons_succ]
          refine wpAnyH_take (i := 8) (oi := { dst := some 41, op := Op.extract (Operand.tmp 33) 0, type := 30, pos := "law.go:92", after := #[{ on := 7, ground := Ground.data }], guard := none }) (v := ?vr9) rfl (by kernel_rfl) (by kernel_rfl) (by kernel_rfl) (fun _ _ _ h => h) (Or.inl ⟨by rfl, ?yr9⟩) bu7 ?rr9
          case yr9 => (intro w hSw; go_simp; try with_reducible rfl)
          try simp only [Act.put, List.setIfInBounds_toArray, List.set_cons_zero, List.set_cons_succ]
          refine wpAnyH_take (i := 9) (oi := { dst := some 42, op := Op.extract (Operand.tmp 33) 1, type := 4, pos := "law.go:92", after := #[{ on := 7, ground := Ground.data }, { on := 10, ground := Ground.gcOnly Departure.lateStores }], guard := none }) (v := ?vr10) rfl (by kernel_rfl) (by kernel_rfl) (by kernel_rfl) (fun _ _ _ h => h) (Or.inl ⟨by rfl, ?yr10⟩) bu7 ?rr10
          case yr10 => (intro w hSw; go_simp; try with_reducible rfl)
          try simp only [Act.put, List.setIfInBounds_toArray, List.set_cons_zero, List.set_cons_succ]
          refine wpAnyH_ready (rs := [10]) (by kernel_rfl) (by simp) ?_
          refine AllReadyH.cons (o := { dst := none, op := Op.store 30 (Operand.tmp 6) (Operand.tmp 41), type := 0, pos := "law.go:92", after := #[{ on := 8, ground := Ground.data }, { on := 6, ground := Ground.chain }, { on := 0, ground := Ground.phase }, { on := 1, ground := Ground.phase }, { on := 2, ground := Ground.phase }, { on := 3, ground := Ground.phase }, { on := 4, ground := Ground.phase }, { on := 5, ground := Ground.phase }, { on := 6, ground := Ground.phase }, { on := 7, ground := Ground.phase }, { on := 8, ground := Ground.phase }, { on := 9, ground := Ground.textOnly Departure.lateStores }], guard := none }) rfl (fun KK hKK => ?_) ?_
          · go_simp
            refine hKK.out _ _ (bu7.setCell (Nat.le_add_right w.heap.size 1) _) (fun _ => ?_)
            clear hKK KK
            try simp only [Act.put]
            refine wpAnyH_name (fun u11 hu11 => ?_)
            have bu11 : Below w.heap.size w u11 := by rw [hu11.out]; exact (bu7.setCell (Nat.le_add_right w.heap.size 1) _)
            have Du11 : DB u11 (w.heap.size + 2) w.heap.size (w.heap.size + 1) vvu7 (.slice uxu7 (doP (FA j) x).length uyu7) (FA (j + 1)) := by rw [hu11.out, HR.out]; exact DDu7.2
            have Zu11 : w.heap.size + 2 ≤ u11.heap.size := by rw [hu11.out]; simp only [World.setCell, Array.size_modify]; exact Zu7
            refine wpAnyH_done (by kernel_rfl) ?_ _
            have H1 : Hid (DB u11 (w.heap.size + 2) w.heap.size (w.heap.size + 1) vvu7 (.slice uxu7 (doP (FA j) x).length uyu7) (FA (j + 1))) := Du11
            have H2 := bu11
            have HB9 : Hid (Below w.heap.size w u11) := H2
            have HZ9 : Hid (w.heap.size + 2 ≤ u11.heap.size) := Zu11
            go_wp2
            go_roundw
            case rel => exact ⟨j + 1, _, _, by omega, by go_num, H1.out, HB9.out, HZ9.out⟩
            case measure => simp [intOf]; omega
          exact AllReadyH.nil
        exact AllReadyH.nil
      exact AllReadyH.nil
    · obtain rfl : j = n := by omega
      have lt2 : ¬ (j : Int) < (j : Int) := by omega
      have HDZ : Hid (DB wr (w.heap.size + 2) w.heap.size (w.heap.size + 1) va ua Z) := by unfold Hid; rw [← HFA.out]; exact HD.out
      have HZL : Hid (Z.length ≤ 200 ∧ Canon Z) := ⟨by rw [← HFA.out]; exact HLN.out j, HDZ.out.dd.st.cn⟩
      obtain ⟨ua, uc, rfl, -, -, -⟩ := id HDZ.out.dd.sp.shape
      obtain ⟨zn, hzn⟩ : ∃ zn, zn = Z.length := ⟨_, rfl⟩
      have HZN : Hid (zn = Z.length) := hzn
      rw [← hzn] at HDZ HD
      clear hzn
      have hws : 2 ≤ wr.heap.size := by have := HZ.out; omega
      clear HFA HD HST HOK HQ HLN HD3 HB3 HZ3 HA0 HN
      generalize wr = w5 at *
      have FR8 : Hid (∀ x, Below w5.heap.size w5 x → x.cell? ⟨w.heap.size + 1, 0, none⟩ = some (.slice ua zn uc)) := fun x hx => (HDZ.out.below hx).cell
      go_upto_region 8 with fail
      go_cut [8, 9, 10] from 11 (fun s8 s9 s10 wx => ∃ g2 xb v2, s8 = .pointer (some ⟨g2, 0, none⟩) ∧ s9 = .pointer (some ⟨xb, 0, none⟩) ∧ s10 = .bool true ∧ DF wx w5.heap.size g2 xb v2 (.slice ua zn uc) Z ∧ w5.heap.size ≤ g2 ∧ w5.heap.size ≤ xb ∧ Below w5.heap.size w5 wx)
      case first =>
        refine wp_region_held_drew (S := From w5) (by kernel_rfl) (Below.drew (Below.refl _ _)) (fun _ => ?_)
        refine wpAnyH_name (fun u0 hu0 => ?_)
        have bu0 : Below w5.heap.size w5 u0 := by rw [hu0.out]; exact Below.drew (Below.refl _ _)
        refine wpAnyH_take (i := 0) (oi := { dst := some 43, op := Op.move (Operand.tmp 5), type := 26, pos := "law.go:94", after := #[], guard := none }) (v := ?vf1) rfl (by kernel_rfl) (by kernel_rfl) (by kernel_rfl) (fun _ _ _ h => h) (Or.inl ⟨by rfl, ?yf1⟩) bu0 ?rf1
        case yf1 => (intro w hSw; go_simp; try with_reducible rfl)
        try simp only [Act.put, List.setIfInBounds_toArray, List.set_cons_zero, List.set_cons_succ]
        refine wpAnyH_take (i := 2) (oi := { dst := some 45, op := Op.load 30 (Operand.tmp 6), type := 30, pos := "law.go:94", after := #[{ on := 4, ground := Ground.gcOnly Departure.lateStores }], guard := none }) (v := .agg #[.slice ua zn uc]) rfl (by kernel_rfl) (by kernel_rfl) (by kernel_rfl) (fun _ _ _ h => h) (Or.inl ⟨by rfl, ?yf2⟩) bu0 ?rf2
        case yf2 => (intro w hSw; have t0 := FR8.out w hSw; go_simp; try with_reducible rfl)
        try simp only [Act.put, List.setIfInBounds_toArray, List.set_cons_zero, List.set_cons_succ]
        refine wpAnyH_ready (rs := [1, 3]) (by kernel_rfl) (by simp) ?_
        refine AllReadyH.cons (o := { dst := some 44, op := Op.call { callee := Callee.value (Operand.func 12), args := #[Operand.tmp 43], argTypes := #[26] }, type := 26, pos := "law.go:94", after := #[{ on := 0, ground := Ground.data }], guard := none }) rfl (fun KK hKK => ?_) ?_
        · go_simp
          refine (fork_any u0 _ _ _ _ (HDZ.out.below bu0).dd.st).mono ?_
          rintro e u3' ⟨ggu3, vvu3, rfl, ku3, tu3, cu3⟩
          (try go_wp2_with fail)
          refine hKK.out _ _ (bu0.trans (Below.mono cu3 bu0.size)) (fun _ => ?_)
          clear hKK KK
          try simp only [Act.put, List.setIfInBounds_toArray, List.set_cons_zero, List.set_cons_succ]
          refine wpAnyH_name (fun u3 hu3 => ?_)
          have bu3 : Below w5.heap.size w5 u3 := by rw [hu3.out]; exact (bu0.trans (Below.mono cu3 bu0.size))
          rw [← hu3.out] at tu3 cu3
          refine wpAnyH_ready (rs := [3]) (by kernel_rfl) (by simp) ?_
          refine AllReadyH.cons (o := { dst := some 9, op := Op.alloc 30, type := 0, pos := "law.go:94", after := #[], guard := none }) rfl (fun KK hKK => ?_) ?_
          · go_simp
            refine hKK.out _ _ (bu3.alloc bu3.size _) (fun _ => ?_)
            clear hKK KK
            try simp only [Act.put, List.setIfInBounds_toArray, List.set_cons_zero, List.set_cons_succ]
            refine wpAnyH_name (fun u4 hu4 => ?_)
            have bu4 : Below w5.heap.size w5 u4 := by rw [hu4.out]; exact (bu3.alloc bu3.size _)
            have Xu4 : u4.heap[u3.heap.size]? = some (.cells #[.slice none 0 0] 30 (0, 0)) := by rw [hu4.out]; exact heap_alloc_new _ _
            refine wpAnyH_take (i := 4) (oi := { dst := some 8, op := Op.assign (Operand.tmp 44), type := 26, pos := "law.go:94", after := #[{ on := 1, ground := Ground.data }, { on := 1, ground := Ground.chain }, { on := 0, ground := Ground.phase }, { on := 1, ground := Ground.phase }, { on := 2, ground := Ground.textOnly Departure.lateStores }, { on := 3, ground := Ground.phase }], guard := none }) (v := ?vf5) rfl (by kernel_rfl) (by kernel_rfl) (by kernel_rfl) (fun _ _ _ h => h) (Or.inl ⟨by rfl, ?yf5⟩) bu4 ?rf5
            case yf5 => (intro w hSw; go_simp; try with_reducible rfl)
            try simp only [Act.put, List.setIfInBounds_toArray, List.set_cons_zero, List.set_cons_succ]
            refine wpAnyH_ready (rs := [5]) (by kernel_rfl) (by simp) ?_
            refine AllReadyH.cons (o := { dst := none, op := Op.store 30 (Operand.tmp 9) (Operand.tmp 45), type := 0, pos := "law.go:94", after := #[{ on := 3, ground := Ground.data }, { on := 2, ground := Ground.data }, { on := 4, ground := Ground.chain }, { on := 0, ground := Ground.phase }, { on := 1, ground := Ground.phase }, { on := 2, ground := Ground.phase }, { on := 3, ground := Ground.phase }, { on := 4, ground := Ground.phase }], guard := none }) rfl (fun KK hKK => ?_) ?_
            · have X9 : u4.heap[u3.heap.size]? = some (.cells #[.slice none 0 0] 30 (0, 0)) := by first | exact Xu4 | exact blk_kept Xu4 cu3 (blk_lt Xu4)
              have ca9 : u4.cell? ⟨u3.heap.size, 0, none⟩ = some (.slice none 0 0) := by simp [World.cell?, X9]
              have cb9 : u4.frozen? ⟨u3.heap.size, 0, none⟩ = false := by simp [World.frozen?, X9]
              have T9 : ST u4 u0.heap.size ggu3 vvu3 Z := by first | exact tu3 | exact tu3.below (by rw [hu4.out]; exact al_below _ _)
              have E9 : ggu3 ≠ u3.heap.size ∧ vvu3.ownBlock ≠ some u3.heap.size := by first | (refine ⟨fun e => ?_, fun e => ?_⟩; (· have := blk_lt tu3.sb; omega); (· have := own_lt tu3.rs _ e; omega)) | (have z9 := blk_lt Xu4; refine ⟨fun e => by omega, fun e => ?_⟩; have := own_base tu3.rs.1 _ e; omega)
              have HDF : Hid (DF (u4.setCell ⟨u3.heap.size, 0, none⟩ (.slice ua zn uc)) w5.heap.size ggu3 u3.heap.size vvu3 (.slice ua zn uc) Z) := df_fork HDZ.out bu4 T9 bu0.size (Nat.le_trans bu0.size ku3) X9 bu3.size E9.1 E9.2
              go_simp
              refine hKK.out _ _ (bu4.setCell bu3.size _) (fun _ => ?_)
              clear hKK KK
              try simp only [Act.put]
              refine wpAnyH_name (fun u6 hu6 => ?_)
              have bu6 : Below w5.heap.size w5 u6 := by rw [hu6.out]; exact (bu4.setCell bu3.size _)
              rw [← hu6.out] at HDF
              refine wpAnyH_take (i := 6) (oi := { dst := some 10, op := Op.assign (Operand.const (Value.bool true)), type := 4, pos := "law.go:94", after := #[{ on := 5, ground := Ground.chain }, { on := 0, ground := Ground.phase }, { on := 1, ground := Ground.phase }, { on := 2, ground := Ground.phase }, { on := 3, ground := Ground.phase }, { on := 4, ground := Ground.phase }, { on := 5, ground := Ground.phase }], guard := none }) (v := ?vf7) rfl (by kernel_rfl) (by kernel_rfl) (by kernel_rfl) (fun _ _ _ h => h) (Or.inl ⟨by rfl, ?yf7⟩) bu6 ?rf7
              case yf7 => (intro w hSw; go_simp; try with_reducible rfl)
              try simp only [Act.put, List.setIfInBounds_toArray, List.set_cons_zero, List.set_cons_succ]
              refine wpAnyH_done (by kernel_rfl) ?_ _
              have H2 := bu6
              have HBZ : Hid (Below w5.heap.size w5 u6) := H2
              have HK : Hid (w5.heap.size ≤ ggu3 ∧ w5.heap.size ≤ u3.heap.size) := ⟨Nat.le_trans bu0.size ku3, bu3.size⟩
              go_wp2
              go_meet
              exact ⟨_, _, _, rfl, rfl, rfl, HDF.out, HK.out.1, HK.out.2, HBZ.out⟩
            exact AllReadyH.nil
          exact AllReadyH.nil
        refine AllReadyH.cons (o := { dst := some 9, op := Op.alloc 30, type := 0, pos := "law.go:94", after := #[], guard := none }) rfl (fun KK hKK => ?_) ?_
        · go_simp
          refine hKK.out _ _ (bu0.alloc bu0.size _) (fun _ => ?_)
          clear hKK KK
          try simp only [Act.put, List.setIfInBounds_toArray, List.set_cons_zero, List.set_cons_succ]
          refine wpAnyH_name (fun u8 hu8 => ?_)
          have bu8 : Below w5.heap.size w5 u8 := by rw [hu8.out]; exact (bu0.alloc bu0.size _)
          have Xu8 : u8.heap[u0.heap.size]? = some (.cells #[.slice none 0 0] 30 (0, 0)) := by rw [hu8.out]; exact heap_alloc_new _ _
          refine wpAnyH_ready (rs := [1]) (by kernel_rfl) (by simp) ?_
          refine AllReadyH.cons (o := { dst := some 44, op := Op.call { callee := Callee.value (Operand.func 12), args := #[Operand.tmp 43], argTypes := #[26] }, type := 26, pos := "law.go:94", after := #[{ on := 0, ground := Ground.data }], guard := none }) rfl (fun KK hKK => ?_) ?_
          · go_simp
            refine (fork_any u8 _ _ _ _ (HDZ.out.below bu8).dd.st).mono ?_
            rintro e u9' ⟨ggu9, vvu9, rfl, ku9, tu9, cu9⟩
            (try go_wp2_with fail)
            refine hKK.out _ _ (bu8.trans (Below.mono cu9 bu8.size)) (fun _ => ?_)
            clear hKK KK
            try simp only [Act.put, List.setIfInBounds_toArray, List.set_cons_zero, List.set_cons_succ]
            refine wpAnyH_name (fun u9 hu9 => ?_)
            have bu9 : Below w5.heap.size w5 u9 := by rw [hu9.out]; exact (bu8.trans (Below.mono cu9 bu8.size))
            rw [← hu9.out] at tu9 cu9
            refine wpAnyH_take (i := 4) (oi := { dst := some 8, op := Op.assign (Operand.tmp 44), type := 26, pos := "law.go:94", after := #[{ on := 1, ground := Ground.data }, { on := 1, ground := Ground.chain }, { on := 0, ground := Ground.phase }, { on := 1, ground := Ground.phase }, { on := 2, ground := Ground.textOnly Departure.lateStores }, { on := 3, ground := Ground.phase }], guard := none }) (v := ?vf10) rfl (by kernel_rfl) (by kernel_rfl) (by kernel_rfl) (fun _ _ _ h => h) (Or.inl ⟨by rfl, ?yf10⟩) bu9 ?rf10
            case yf10 => (intro w hSw; go_simp; try with_reducible rfl)
            try simp only [Act.put, List.setIfInBounds_toArray, List.set_cons_zero, List.set_cons_succ]
            refine wpAnyH_ready (rs := [5]) (by kernel_rfl) (by simp) ?_
            refine AllReadyH.cons (o := { dst := none, op := Op.store 30 (Operand.tmp 9) (Operand.tmp 45), type := 0, pos := "law.go:94", after := #[{ on := 3, ground := Ground.data }, { on := 2, ground := Ground.data }, { on := 4, ground := Ground.chain }, { on := 0, ground := Ground.phase }, { on := 1, ground := Ground.phase }, { on := 2, ground := Ground.phase }, { on := 3, ground := Ground.phase }, { on := 4, ground := Ground.phase }], guard := none }) rfl (fun KK hKK => ?_) ?_
            · have X9 : u9.heap[u0.heap.size]? = some (.cells #[.slice none 0 0] 30 (0, 0)) := by first | exact Xu8 | exact blk_kept Xu8 cu9 (blk_lt Xu8)
              have ca9 : u9.cell? ⟨u0.heap.size, 0, none⟩ = some (.slice none 0 0) := by simp [World.cell?, X9]
              have cb9 : u9.frozen? ⟨u0.heap.size, 0, none⟩ = false := by simp [World.frozen?, X9]
              have T9 : ST u9 u8.heap.size ggu9 vvu9 Z := by first | exact tu9 | exact tu9.below (by rw [hu8.out]; exact al_below _ _)
              have E9 : ggu9 ≠ u0.heap.size ∧ vvu9.ownBlock ≠ some u0.heap.size := by first | (refine ⟨fun e => ?_, fun e => ?_⟩; (· have := blk_lt tu9.sb; omega); (· have := own_lt tu9.rs _ e; omega)) | (have z9 := blk_lt Xu8; refine ⟨fun e => by omega, fun e => ?_⟩; have := own_base tu9.rs.1 _ e; omega)
              have HDF : Hid (DF (u9.setCell ⟨u0.heap.size, 0, none⟩ (.slice ua zn uc)) w5.heap.size ggu9 u0.heap.size vvu9 (.slice ua zn uc) Z) := df_fork HDZ.out bu9 T9 bu8.size (Nat.le_trans bu8.size ku9) X9 bu0.size E9.1 E9.2
              go_simp
              refine hKK.out _ _ (bu9.setCell bu0.size _) (fun _ => ?_)
              clear hKK KK
              try simp only [Act.put]
              refine wpAnyH_name (fun u11 hu11 => ?_)
              have bu11 : Below w5.heap.size w5 u11 := by rw [hu11.out]; exact (bu9.setCell bu0.size _)
              rw [← hu11.out] at HDF
              refine wpAnyH_take (i := 6) (oi := { dst := some 10, op := Op.assign (Operand.const (Value.bool true)), type := 4, pos := "law.go:94", after := #[{ on := 5, ground := Ground.chain }, { on := 0, ground := Ground.phase }, { on := 1, ground := Ground.phase }, { on := 2, ground := Ground.phase }, { on := 3, ground := Ground.phase }, { on := 4, ground := Ground.phase }, { on := 5, ground := Ground.phase }], guard := none }) (v := ?vf12) rfl (by kernel_rfl) (by kernel_rfl) (by kernel_rfl) (fun _ _ _ h => h) (Or.inl ⟨by rfl, ?yf12⟩) bu11 ?rf12
              case yf12 => (intro w hSw; go_simp; try with_reducible rfl)
              try simp only [Act.put, List.setIfInBounds_toArray, List.set_cons_zero, List.set_cons_succ]
              refine wpAnyH_done (by kernel_rfl) ?_ _
              have H2 := bu11
              have HBZ : Hid (Below w5.heap.size w5 u11) := H2
              have HK : Hid (w5.heap.size ≤ ggu9 ∧ w5.heap.size ≤ u0.heap.size) := ⟨Nat.le_trans bu8.size ku9, bu0.size⟩
              go_wp2
              go_meet
              exact ⟨_, _, _, rfl, rfl, rfl, HDF.out, HK.out.1, HK.out.2, HBZ.out⟩
            exact AllReadyH.nil
          exact AllReadyH.nil
        exact AllReadyH.nil
      case rest =>
        obtain ⟨g2, xb, v2, rfl, rfl, rfl, df, hg2, hxb, bx⟩ := hcut
        have HDF : Hid (DF wc w5.heap.size g2 xb v2 (.slice ua zn uc) Z) := df
        have HG2 : Hid (w5.heap.size ≤ g2) := hg2
        have HXB : Hid (w5.heap.size ≤ xb) := hxb
        have HBX : Hid (Below w5.heap.size w5 wc) := bx
        clear df hg2 hxb bx
        have HA1 : Hid (doL (M.take 0) Z = Z) := rfl
        have HLN1 : Hid (∀ j, (doL (M.take j) Z).length ≤ 400) := fun j => by
          have q := (doL_spec (M.take j) Z HZL.out.2).2
          have := HZL.out.1
          rw [List.length_take, ← HM.out] at q
          omega
        have HST1 : Hid (∀ j, j < m → doL (M.take (j + 1)) Z = doP (doL (M.take j) Z) (atK M j)) := fun j hj => by rw [takeK (by rw [← HM.out]; exact hj), doL_snoc]
        generalize hFB : (fun j => doL (M.take j) Z) = FB at *
        have HFB : Hid (∀ j, doL (M.take j) Z = FB j) := fun j => by rw [← hFB]
        clear hFB
        simp only [HFB.out] at HA1 HLN1 HST1
        clear HFB
        go_wp2
        go_loopw [10, 11] (fun s10 s11 wr => ∃ (j : Nat) (vf uf : Value), j ≤ m ∧ s10 = .bool true ∧ s11 = .int .i64 j ∧ DF wr w5.heap.size g2 xb vf uf (FB j) ∧ Below w5.heap.size w5 wr) (fun _ s11 _ => m - (intOf s11).toNat)
        case atStart => exact ⟨0, _, _, by omega, rfl, rfl, by rw [HA1.out]; exact HDF.out, HBX.out⟩
        case round =>
          obtain ⟨i, vf, uf, hi, rfl, rfl, dg, bg⟩ := hrel
          have HDG : Hid (DF wr w5.heap.size g2 xb vf uf (FB i)) := dg
          have HBG : Hid (Below w5.heap.size w5 wr) := bg
          clear dg bg
          by_cases him : i < m
          · have lt3 : (i : Int) < (m : Int) := by omega
            obtain ⟨b, off, rfl, -, -, -⟩ := HQ1.out.at i (by rw [← HM.out]; exact him)
            have FR : Hid (∀ x, Below w5.heap.size w5 x → x.cell? ⟨b, off + i * 3, none⟩ = some (.int .u8 (atK M i).1) ∧ x.cell? ⟨b, off + i * 3 + 1, none⟩ = some (.int .i64 (atK M i).2.1) ∧ x.cell? ⟨b, off + i * 3 + 2, none⟩ = some (.int .i64 (atK M i).2.2)) := fun x hx => by
              obtain ⟨b', off', e', k1, k2, k3⟩ := (HQ1.out.kept (HB.out.trans (hx.mono HB.out.size))).at i (by rw [← HM.out]; exact him)
              cases e'
              exact ⟨k1, k2, k3⟩
            have HX : Hid (okC (atK M i)) := HOK1.out i him
            have HR : Hid (FB (i + 1) = doP (FB i) (atK M i)) := HST1.out i him
            have HL : Hid ((FB i).length ≤ 900) := Nat.le_trans (HLN1.out i) (by omega)
            generalize atK M i = x at *
            go_upto_region 14 with fail
            refine wp_region_held_drew (S := From w5) (by kernel_rfl) (Below.drew (HBG.out)) (fun _ => ?_)
            refine wpAnyH_name (fun u0 hu0 => ?_)
            have bu0 : Below w5.heap.size w5 u0 := by rw [hu0.out]; exact Below.drew (HBG.out)
            have Du0 : DF u0 w5.heap.size g2 xb vf uf (FB i) := by rw [hu0.out]; exact HDG.out.below ((Below.refl _ _).drew)
            refine wpAnyH_take (i := 0) (oi := { dst := some 55, op := Op.move (Operand.tmp 8), type := 26, pos := "law.go:99", after := #[], guard := none }) (v := ?vq1) rfl (by kernel_rfl) (by kernel_rfl) (by kernel_rfl) (fun _ _ _ h => h) (Or.inl ⟨by rfl, ?yq1⟩) bu0 ?rq1
            case yq1 => (intro w hSw; go_simp; try with_reducible rfl)
            try simp only [Act.put, List.setIfInBounds_toArray, List.set_cons_zero, List.set_cons_succ]
            refine wpAnyH_take (i := 2) (oi := { dst := some 57, op := Op.move (Operand.tmp 1), type := 22, pos := "law.go:99", after := #[], guard := none }) (v := ?vq2) rfl (by kernel_rfl) (by kernel_rfl) (by kernel_rfl) (fun _ _ _ h => h) (Or.inl ⟨by rfl, ?yq2⟩) bu0 ?rq2
            case yq2 => (intro w hSw; go_simp; try with_reducible rfl)
            try simp only [Act.put, List.setIfInBounds_toArray, List.set_cons_zero, List.set_cons_succ]
            refine wpAnyH_take (i := 3) (oi := { dst := some 58, op := Op.move (Operand.tmp 11), type := 3, pos := "law.go:99", after := #[], guard := none }) (v := ?vq3) rfl (by kernel_rfl) (by kernel_rfl) (by kernel_rfl) (fun _ _ _ h => h) (Or.inl ⟨by rfl, ?yq3⟩) bu0 ?rq3
            case yq3 => (intro w hSw; go_simp; try with_reducible rfl)
            try simp only [Act.put, List.setIfInBounds_toArray, List.set_cons_zero, List.set_cons_succ]
            refine wpAnyH_take (i := 4) (oi := { dst := some 59, op := Op.indexAddr 22 (Operand.tmp 57) (Operand.tmp 58), type := 0, pos := "law.go:99", after := #[{ on := 2, ground := Ground.data }, { on := 3, ground := Ground.data }], guard := none }) (v := ?vq4) rfl (by kernel_rfl) (by kernel_rfl) (by kernel_rfl) (fun _ _ _ h => h) (Or.inl ⟨by rfl, ?yq4⟩) bu0 ?rq4
            case yq4 => (intro w hSw; go_simp; try with_reducible rfl)
            try simp only [Act.put, List.setIfInBounds_toArray, List.set_cons_zero, List.set_cons_succ]
            refine wpAnyH_take (i := 5) (oi := { dst := some 60, op := Op.load 24 (Operand.tmp 59), type := 24, pos := "law.go:99", after := #[{ on := 4, ground := Ground.data }], guard := none }) (v := .agg #[.int .u8 x.1, .int .i64 x.2.1, .int .i64 x.2.2]) rfl (by kernel_rfl) (by kernel_rfl) (by kernel_rfl) (fun _ _ _ h => h) (Or.inl ⟨by rfl, ?yq5⟩) bu0 ?rq5
            case yq5 => (intro w hSw; have t0 := (FR.out w hSw).1; have t1 := (FR.out w hSw).2.1; have t2 := (FR.out w hSw).2.2; go_simp; try with_reducible rfl)
            try simp only [Act.put, List.setIfInBounds_toArray, List.set_cons_zero, List.set_cons_succ]
            refine wpAnyH_ready (rs := [1]) (by kernel_rfl) (by simp) ?_
            refine AllReadyH.cons (o := { dst := some 56, op := Op.load 30 (Operand.tmp 9), type := 30, pos := "law.go:99", after := #[], guard := none }) rfl (fun KK hKK => ?_) ?_
            · have cau6 := Du0.cell
              go_simp
              refine hKK.out _ _ (bu0) (fun _ => ?_)
              clear hKK KK
              try simp only [Act.put, List.setIfInBounds_toArray, List.set_cons_zero, List.set_cons_succ]
              refine wpAnyH_name (fun u6 hu6 => ?_)
              have bu6 : Below w5.heap.size w5 u6 := by rw [hu6.out]; exact (bu0)
              have Du6 : DF u6 w5.heap.size g2 xb vf uf (FB i) := by rw [hu6.out]; exact Du0
              refine wpAnyH_ready (rs := [6]) (by kernel_rfl) (by simp) ?_
              refine AllReadyH.cons (o := { dst := some 61, op := Op.call { callee := Callee.value (Operand.func 10), args := #[Operand.tmp 55, Operand.tmp 56, Operand.tmp 60], argTypes := #[26, 30, 24] }, type := 31, pos := "law.go:99", after := #[{ on := 0, ground := Ground.data }, { on := 1, ground := Ground.data }, { on := 5, ground := Ground.data }], guard := none }) rfl (fun KK hKK => ?_) ?_
              · go_simp
                refine (do_any u6 _ _ _ _ _ _ Du6.dd HL.out bu6.size HX.out).mono ?_
                rintro e u7' ⟨uuu7, vvu7, rfl, du7, su7, ru7⟩
                obtain ⟨uxu7, uyu7, rfl, -, -, -⟩ := du7.sp.shape
                (try go_wp2_with fail)
                refine hKK.out _ _ (su_below su7 bu6 bu6.size HG2.out (own_base Du6.dd.st.rs.1)) (fun _ => ?_)
                clear hKK KK
                try simp only [Act.put, List.setIfInBounds_toArray, List.set_cons_zero, List.set_cons_succ]
                refine wpAnyH_name (fun u7 hu7 => ?_)
                have bu7 : Below w5.heap.size w5 u7 := by rw [hu7.out]; exact (su_below su7 bu6 bu6.size HG2.out (own_base Du6.dd.st.rs.1))
                rw [← hu7.out] at du7 su7
                have DDu7 := df_do Du6 du7 su7 ru7
                have cau7 : u7.cell? ⟨xb, 0, none⟩ = some uf := by have := DDu7.1; simp [World.cell?, this]
                have cbu7 : u7.frozen? ⟨xb, 0, none⟩ = false := by have := DDu7.1; simp [World.frozen?, this]
                refine wpAnyH_take (i := 7) (oi := { dst := some 54, op := Op.move (Operand.tmp 61), type := 31, pos := "law.go:99", after := #[{ on := 6, ground := Ground.data }], guard := none }) (v := ?vq8) rfl (by kernel_rfl) (by kernel_rfl) (by kernel_rfl) (fun _ _ _ h => h) (Or.inl ⟨by rfl, ?yq8⟩) bu7 ?rq8
                case yq8 => (intro w hSw; go_simp; try with_reducible rfl)
                try simp only [Act.put, List.setIfInBounds_toArray, List.set_cons_zero, List.set_cons_succ]
                refine wpAnyH_take (i := 8) (oi := { dst := some 62, op := Op.extract (Operand.tmp 54) 0, type := 30, pos := "law.go:99", after := #[{ on := 7, ground := Ground.data }], guard := none }) (v := ?vq9) rfl (by kernel_rfl) (by kernel_rfl) (by kernel_rfl) (fun _ _ _ h => h) (Or.inl ⟨by rfl, ?yq9⟩) bu7 ?rq9
                case yq9 => (intro w hSw; go_simp; try with_reducible rfl)
                try simp only [Act.put, List.setIfInBounds_toArray, List.set_cons_zero, List.set_cons_succ]
                refine wpAnyH_take (i := 9) (oi := { dst := some 63, op := Op.extract (Operand.tmp 54) 1, type := 4, pos := "law.go:99", after := #[{ on := 7, ground := Ground.data }, { on := 10, ground := Ground.gcOnly Departure.lateStores }], guard := none }) (v := ?vq10) rfl (by kernel_rfl) (by kernel_rfl) (by kernel_rfl) (fun _ _ _ h => h) (Or.inl ⟨by rfl, ?yq10⟩) bu7 ?rq10
                case yq10 => (intro w hSw; go_simp; try with_reducible rfl)
                try simp only [Act.put, List.setIfInBounds_toArray, List.set_cons_zero, List.set_cons_succ]
                refine wpAnyH_ready (rs := [10]) (by kernel_rfl) (by simp) ?_
                refine AllReadyH.cons (o := { dst := none, op := Op.store 30 (Operand.tmp 9) (Operand.tmp 62), type := 0, pos := "law.go:99", after := #[{ on := 8, ground := Ground.data }, { on := 6, ground := Ground.chain }, { on := 0, ground := Ground.phase }, { on := 1, ground := Ground.phase }, { on := 2, ground := Ground.phase }, { on := 3, ground := Ground.phase }, { on := 4, ground := Ground.phase }, { on := 5, ground := Ground.phase }, { on := 6, ground := Ground.phase }, { on := 7, ground := Ground.phase }, { on := 8, ground := Ground.phase }, { on := 9, ground := Ground.textOnly Departure.lateStores }], guard := none }) rfl (fun KK hKK => ?_) ?_
                · go_simp
                  refine hKK.out _ _ (bu7.setCell HXB.out _) (fun _ => ?_)
                  clear hKK KK
                  try simp only [Act.put]
                  refine wpAnyH_name (fun u11 hu11 => ?_)
                  have bu11 : Below w5.heap.size w5 u11 := by rw [hu11.out]; exact (bu7.setCell HXB.out _)
                  have Du11 : DF u11 w5.heap.size g2 xb vvu7 (.slice uxu7 (doP (FB i) x).length uyu7) (FB (i + 1)) := by rw [hu11.out, HR.out]; exact DDu7.2
                  refine wpAnyH_take (i := 11) (oi := { dst := some 10, op := Op.assign (Operand.tmp 63), type := 4, pos := "law.go:99", after := #[{ on := 9, ground := Ground.data }, { on := 10, ground := Ground.chain }, { on := 0, ground := Ground.phase }, { on := 1, ground := Ground.phase }, { on := 2, ground := Ground.phase }, { on := 3, ground := Ground.phase }, { on := 4, ground := Ground.phase }, { on := 5, ground := Ground.phase }, { on := 6, ground := Ground.phase }, { on := 7, ground := Ground.phase }, { on := 8, ground := Ground.phase }, { on := 9, ground := Ground.phase }, { on := 10, ground := Ground.phase }], guard := none }) (v := ?vq12) rfl (by kernel_rfl) (by kernel_rfl) (by kernel_rfl) (fun _ _ _ h => h) (Or.inl ⟨by rfl, ?yq12⟩) bu11 ?rq12
                  case yq12 => (intro w hSw; go_simp; try with_reducible rfl)
                  try simp only [Act.put, List.setIfInBounds_toArray, List.set_cons_zero, List.set_cons_succ]
                  refine wpAnyH_done (by kernel_rfl) ?_ _
                  have H1 : Hid (DF u11 w5.heap.size g2 xb vvu7 (.slice uxu7 (doP (FB i) x).length uyu7) (FB (i + 1))) := Du11
                  have H2 := bu11
                  have HB9 : Hid (Below w5.heap.size w5 u11) := H2
                  go_wp2
                  go_roundw
                  case rel => exact ⟨i + 1, _, _, by omega, rfl, by go_num, H1.out, HB9.out⟩
                  case measure => simp [intOf]; omega
                exact AllReadyH.nil
              exact AllReadyH.nil
            exact AllReadyH.nil
          · obtain rfl : i = m := by omega
            have lt3 : ¬ (i : Int) < (i : Int) := by omega
            obtain ⟨fa, fc, rfl, -, -, -⟩ := id HDG.out.dd.sp.shape
            have HLF : Hid ((FB i).length ≤ 400) := HLN1.out i
            obtain ⟨fn, hfn⟩ : ∃ fn, fn = (FB i).length := ⟨_, rfl⟩
            rw [← hfn] at HDG
            clear hfn
            have HD2 : Hid (DB wr (w.heap.size + 2) w.heap.size (w.heap.size + 1) va (.slice ua zn uc) Z) := HDZ.out.below HBG.out
            have HBR : Hid (Below w.heap.size w wr) := HB.out.trans (HBG.out.mono HB.out.size)
            have HZ2 : Hid (Z.length ≤ 400) := by have := HZL.out.1; unfold Hid; omega
            have HS1 : Hid (∀ W, Below wr.heap.size wr W → W.cell? ⟨xb, 0, none⟩ = some (.slice fa fn fc) ∧ Calls Tryd.prog 11 #[.pointer (some ⟨g2, 0, none⟩), .agg #[.slice fa fn fc], .agg #[.int .u8 0, .int .i64 0, .int .i64 0]] W fun e W' => e = .returned (.bool true) ∧ Below W.heap.size W W') := fun W hW => ⟨(HDG.out.below hW).cell, same_any W _ _ _ _ _ (0, 0, 0) (HDG.out.below hW).dd HLF.out⟩
            have HS2 : Hid (∀ W, Below wr.heap.size wr W → W.cell? ⟨w.heap.size + 1, 0, none⟩ = some (.slice ua zn uc) ∧ Calls Tryd.prog 11 #[.pointer (some ⟨w.heap.size, 0, none⟩), .agg #[.slice ua zn uc], .agg #[.int .u8 0, .int .i64 0, .int .i64 0]] W fun e W' => e = .returned (.bool true) ∧ Below W.heap.size W W') := fun W hW => ⟨(HD2.out.below hW).cell, same_any W _ _ _ _ _ (0, 0, 0) (HD2.out.below hW).dd HZ2.out⟩
            have HAW : Hid (∀ W, Below wr.heap.size wr W → Calls Tryd.prog 8 #[] W fun e W' => e = .returned (.bool true) ∧ Below W.heap.size W W') := fun W hb => awake_any W ((HW0.out.below HBR.out HW0.out.pos).below hb (Nat.lt_of_lt_of_le HW0.out.pos HBR.out.size))
            clear HDG HD2 HDZ HB HBG HLN1 HST1 HDF HA1 HZL hws HZ FR8 HBX HG2 HXB HOK1 HQ1
            have cq := max_nil wr
            go_wp2_with fail
            refine cq.mono ?_
            rintro e wq ⟨rfl, eq⟩
            rw [eq]
            clear cq eq wq
            have cq := add_nil wr 1 2
            go_wp2_with fail
            refine cq.mono ?_
            rintro e wq ⟨rfl, eq⟩
            rw [eq]
            clear cq eq wq
            have cq := rem_nil wr 1 2
            go_wp2_with fail
            refine cq.mono ?_
            rintro e wq ⟨rfl, eq⟩
            rw [eq]
            clear cq eq wq
            have cq := hasNil wr 1
            go_wp2_with fail
            refine cq.mono ?_
            rintro e w6 ⟨rfl, b9⟩
            have Hw6 : Hid (Below wr.heap.size wr w6) := b9
            clear cq b9
            have cq := spansNil w6
            go_wp2_with fail
            refine cq.mono ?_
            rintro e w7 ⟨sa, sc, rfl, b9⟩
            have Hw7 : Hid (Below wr.heap.size wr w7) := Hw6.out.trans (b9.mono Hw6.out.size)
            clear cq b9
            have cq := len_nil w7
            go_wp2_with fail
            refine cq.mono ?_
            rintro e wq ⟨rfl, eq⟩
            rw [eq]
            clear cq eq wq
            have cq := countNil w7
            go_wp2_with fail
            refine cq.mono ?_
            rintro e w8 ⟨rfl, b9⟩
            have Hw8 : Hid (Below wr.heap.size wr w8) := Hw7.out.trans (b9.mono Hw7.out.size)
            clear cq b9
            have cq := gapsNil w8 1 2
            go_wp2_with fail
            refine cq.mono ?_
            rintro e w9 ⟨ga, gc, rfl, b9⟩
            have Hw9 : Hid (Below wr.heap.size wr w9) := Hw8.out.trans (b9.mono Hw8.out.size)
            clear cq b9
            have cq := trim_nil w9 0 (by omega)
            go_wp2_with fail
            refine cq.mono ?_
            rintro e wq ⟨rfl, eq⟩
            rw [eq]
            clear cq eq wq
            have cq := fork_nil w9
            go_wp2_with fail
            refine cq.mono ?_
            rintro e wq ⟨rfl, eq⟩
            rw [eq]
            clear cq eq wq
            obtain ⟨kx, cs1⟩ := HS1.out w9 Hw9.out
            go_wp2_with fail
            refine cs1.mono ?_
            rintro e w10 ⟨rfl, b9⟩
            have Hw10 : Hid (Below wr.heap.size wr w10) := Hw9.out.trans (b9.mono Hw9.out.size)
            clear cs1 b9 kx
            obtain ⟨kr, cs2⟩ := HS2.out w10 Hw10.out
            go_wp2_with fail
            refine cs2.mono ?_
            rintro e w11 ⟨rfl, b9⟩
            have Hw11 : Hid (Below wr.heap.size wr w11) := Hw10.out.trans (b9.mono Hw10.out.size)
            clear cs2 b9 kr
            have cw := HAW.out w11 Hw11.out
            go_wp2_with fail
            refine cw.mono ?_
            rintro e w12 ⟨rfl, b9⟩
            have Hw12 : Hid (Below w.heap.size w w12) := HBR.out.trans ((Hw11.out.trans (b9.mono Hw11.out.size)).mono HBR.out.size)
            clear cw b9
            go_wp2
            go_ret
            exact ⟨rfl, Hw12.out⟩

theorem contract (H : Type) (enc : TypeId × Value → H) (W : World) (base : Nat) (args : Array Value) (ds gs : List (DataW H)) (before : List MemPlace)
    (hval : ∀ (j : Nat) t v, Tryd.f4.params[j]? = some t → args[j]? = some v → Value.okWide Tryd.prog W .any base t v)
    (hW : DataW.Whole enc Tryd.prog Tryd.f4.params.toList Rows.rangesForksSpec.vars false W args.toList ds gs before) (hL : laidMetH Tryd.prog Rows.rangesForksRow.laid W)
    (hsz0 : (DataW.weightsEach Tryd.prog (Tryd.f4.params.toList ++ Rows.rangesForksSpec.plain.varTypes Tryd.prog) (ds ++ gs)).all (· ≤ reachBytes) = true) :
    Calls Tryd.prog 4 args W fun e W' => ∃ v, e = .returned v ∧ Rows.rangesForksSpec.post enc Tryd.prog Tryd.f4 false true false false W args v W' := by
  have hW' := hW
  obtain ⟨p, q, hA0, hV, rfl, hfz, hnd⟩ := hW
  have hA : DataW.TrodAll enc Tryd.prog W 0 (fun _ => true) true Tryd.f4.params.toList args.toList ds p := hA0
  rw [Tryd.params4] at hA hval hsz0
  obtain ⟨v0, vs0, d0, ds0, p0, q0, hargs, rfl, rfl, h0, r0⟩ := trodAll_cons hA
  obtain ⟨v1, vs1, d1, ds1, p1, q1, rfl, rfl, rfl, h1, r1⟩ := trodAll_cons r0
  obtain ⟨rfl, rfl, rfl⟩ := trodAll_nil r1
  obtain rfl : args = #[v0, v1] := by cases args; simp_all
  obtain ⟨rfl, rfl⟩ := trodVars_none hV
  have k0 := h0
  have lt0 : ∀ x ∈ p0, x.block < W.heap.size := by obtain ⟨m, hm⟩ := k0; exact DataW.trod_lt m _ _ _ hm
  obtain ⟨L0, w0⟩ := cls_in (hval 0 22 v0 rfl rfl) h0
  have k1 := h1
  have lt1 : ∀ x ∈ p1, x.block < W.heap.size := by obtain ⟨m, hm⟩ := k1; exact DataW.trod_lt m _ _ _ hm
  obtain ⟨L1, w1⟩ := cls_in (hval 1 22 v1 rfl rfl) h1
  clear hA0
  refine (walk v0 L0 v1 L1 W (wi_of hL) w0 w1).mono fun e W' ⟨he, bel⟩ => ?_
  subst he
  exact ⟨_, rfl, _, _, _, [], _, [], hW', trodAll_mk1 (shut_bool Tryd.underlying4 _), (trodAll_cons_mk (Below.trod laidOut (by kernel_rfl) (of_decide_eq_true (by kernel_rfl)) k0 bel lt0) (trodAll_cons_mk (Below.trod laidOut (by kernel_rfl) (of_decide_eq_true (by kernel_rfl)) k1 bel lt1) trodAll_mk0)), rfl, bel.frame _, fun h => by cases h⟩

theorem laid_met (os : Os) : laidMet Tryd.prog Rows.rangesForksRow.laid (({ World.holding Tryd.prog os ⟨#[], #[], []⟩ with heap := ((World.holding Tryd.prog os ⟨#[], #[], []⟩).heap.modify 0 (fun
      | .cells _ t frozen => .cells widT t frozen
      | o => o)) } : World).forCall (fun _ _ => 0) ⟨#[], #[.slice none 0 0, .slice none 0 0], []⟩).memory :=
  laidMet_of_run' 8 (by kernel_rfl) (by kernel_rfl)
theorem reads (os : Os) {H : Type} (enc : TypeId × Value → H) : ∃ places, DataW.whole enc Tryd.prog (({ World.holding Tryd.prog os ⟨#[], #[], []⟩ with heap := ((World.holding Tryd.prog os ⟨#[], #[], []⟩).heap.modify 0 (fun
      | .cells _ t frozen => .cells widT t frozen
      | o => o)) } : World).forCall (fun _ _ => 0) ⟨#[], #[.slice none 0 0, .slice none 0 0], []⟩).memory Tryd.f4.params.toList Rows.rangesForksSpec.vars false #[Value.slice none 0 0, .slice none 0 0].toList 8 = some ([.nil, .nil], [], places) :=
  ⟨[], by kernel_rfl⟩

set_option maxRecDepth 100000 in
theorem lifted (os : Os) (started : os.Started) (H : Type) (enc : TypeId × Value → H) (F : Stop.Interp) :
    ReturnsInHanded {} Tryd.checked os 4 .any ((OpenSpec.ofChange Rows.rangesForksSpec).preRow enc Tryd.prog Tryd.f4 Rows.rangesForksRow.domain false Rows.rangesForksRow.laid) (((OpenSpec.ofChange Rows.rangesForksSpec).at F).post enc Tryd.prog Tryd.f4 false true false false) := by
  obtain ⟨places, hx⟩ := reads os enc
  refine returnsInHanded_of_row (C := Tryd.checked) (s := OpenSpec.ofChange Rows.rangesForksSpec) own started (by kernel_rfl) Tryd.func4
    (witness_row_at (enc := enc) (C := Tryd.checked) false ({ World.holding Tryd.prog os ⟨#[], #[], []⟩ with heap := ((World.holding Tryd.prog os ⟨#[], #[], []⟩).heap.modify 0 (fun
      | .cells _ t frozen => .cells widT t frozen
      | o => o)) } : World) #[.slice none 0 0, .slice none 0 0] rfl (by kernel_rfl) (by kernel_rfl) (by kernel_rfl)
      (OpenSpec.preRow_of_cond 8 hx (by kernel_rfl) (fun k hk => by cases hk) (by kernel_rfl) (laid_met os))) ?_
  intro W base args ds gs before hval hW _ _ hsz hL _ _
  exact contract H enc W base args ds gs before hval hW hL hsz

theorem said : Rows.RangesForksSaid :=
  OpenClaim.holds_of_cond 4 Tryd.f4 rfl rfl rfl rfl rfl rfl rfl ⟨rfl, rfl, rfl, rfl, rfl⟩ rfl rfl rfl rfl rfl (by kernel_rfl) Tryd.func4 (by kernel_rfl)
    (of_decide_eq_true (by kernel_rfl)) (by unfold Func.isWrapper; first | (rw [if_pos (by decide +kernel)]; kernel_rfl) | (rw [if_neg (by decide +kernel)]; exact ⟨rfl, rfl⟩))
    (fun os started H enc _ F => by rw [OpenClaim.pre_eq_preRow]; exact lifted os started H enc F)

theorem plain (f : FuncId) (fn : Func) (hf : Tryd.pinned.checked.prog.funcNamed "sumpter/sumpterlaw17.RangesForks" = some f) (hfn : Tryd.pinned.checked.prog.funcs[f]? = some fn) :
    false = Tryd.pinned.checked.prog.looks [] ∧ ∀ (j : Nat) t, fn.params[j]? = some t → Tryd.pinned.checked.prog.wantsStandIn t = false := by
  obtain rfl : f = 4 := Option.some.inj ((show Tryd.prog.funcNamed "sumpter/sumpterlaw17.RangesForks" = some 4 by kernel_rfl).symm.trans hf) |>.symm
  obtain rfl : fn = Tryd.f4 := (Option.some.inj (Tryd.func4.symm.trans hfn)).symm
  refine ⟨by kernel_rfl, fun j t ht => ?_⟩
  rw [Tryd.params4] at ht
  have hm : t ∈ [22, 22] := by simpa using Array.mem_of_getElem? ht
  have hall : ([22, 22].all fun u => !Tryd.prog.wantsStandIn u) = true := by kernel_rfl
  exact (show Tryd.prog.wantsStandIn t = false by simpa using List.all_eq_true.1 hall t hm)
end Go.Proofs.YtaghmoddalbepaaDoor.rangesForks

namespace Go.Proofs.YtaghmoddalbepaaDoor
/-- The card of RangesForks. -/
theorem rangesForks_card : Rows.RangesForksCardSaid :=
  Claim7.holds_tied_plain_at .later [] _ _ _ _ rangesForks.said (fun _ h => by cases h) (by kernel_rfl) (fun _ h => by cases h) rangesForks_row_tie rfl ⟨rfl, rfl⟩ (by kernel_rfl) rfl rangesForks.plain (by kernel_rfl)
#print axioms rangesForks_card
end Go.Proofs.YtaghmoddalbepaaDoor
