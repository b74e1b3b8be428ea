/-
  RangesPlays: any calls leave the set, and tell, what the document says.
-/
import Derived.Test.YtaghmoddalbepaaDoorPkE
namespace Go.Proofs.YtaghmoddalbepaaDoor.rangesPlays
open Go.ChangeShapes Go.WideShapes Go.ChangeAt Go.RowKit Go.Deep Go.ChangeMaps
set_option maxRecDepth 100000

set_option maxHeartbeats 8000000 in
theorem walk (v0 : Value) (L : List Cal) (v1 : Value) (y : Cal) (w : World) (hw : Fi.Wid w) (h0 : CQ w v0 L) (h1 : v1 = .agg #[.int .u8 y.1, .int .i64 y.2.1, .int .i64 y.2.2] ∧ okC y) :
    Calls Tryd.prog 3 #[v0, v1] w fun e w' => e = .returned (.bool true) ∧ Below w.heap.size w w' := by
  obtain ⟨rfl, hy⟩ := h1
  obtain ⟨k, f, t⟩ := y
  unfold okC at hy
  simp only at hy ⊢
  obtain ⟨a0, c0, rfl⟩ := h0.shape
  obtain ⟨w1, hw1⟩ : ∃ w1, w1 = w.alloc (.cells #[.int .u8 k, .int .i64 f, .int .i64 t] 24) := ⟨_, rfl⟩
  have HB1 : Hid (Below w.heap.size w w1) := by unfold Hid; rw [hw1]; exact al_below _ _
  have HS1 : Hid (w1.heap.size = w.heap.size + 1) := by unfold Hid; rw [hw1]; simp
  have HA1 : Hid (w1.heap[w.heap.size]? = some (.cells #[.int .u8 k, .int .i64 f, .int .i64 t] 24 (0, 0))) := by unfold Hid; rw [hw1]; exact heap_alloc_new _ _
  have kk : w1.cell? ⟨w.heap.size, 0, none⟩ = some (.int .u8 k) := by have := HA1.out; simp [World.cell?, this]
  have kf : w1.cell? ⟨w.heap.size, 1, none⟩ = some (.int .i64 f) := by have := HA1.out; simp [World.cell?, this]
  have kt : w1.cell? ⟨w.heap.size, 2, none⟩ = some (.int .i64 t) := by have := HA1.out; simp [World.cell?, this]
  have HW : Hid (Fi.Wid w1) := hw.below HB1.out hw.pos
  have hwp := hw.pos
  have HW0 : Hid (Fi.Wid w) := hw
  have EARLY : Hid (Calls Tryd.prog 8 #[] w1 fun e w' => e = .returned (.bool true) ∧ Below w1.heap.size w1 w') := awake_any w1 HW.out
  by_cases h60 : 100 < L.length
  · have t0 : (100 : Int) < (L.length : Int) := by omega
    clear h0 hw
    generalize L.length = n at *
    go_enter Tryd.func3, Tryd.ntmps3
    go_wp2_with fail
    rw [← hw1]
    clear hw1
    go_wp2_with fail
    refine EARLY.out.mono ?_
    rintro e w9 ⟨rfl, b9⟩
    have HB9 : Hid (Below w.heap.size w w9) := HB1.out.trans (b9.mono HB1.out.size)
    clear b9 EARLY
    go_wp2
    go_ret
    exact ⟨rfl, HB9.out⟩
  have t0 : ¬ (100 : Int) < (L.length : Int) := by omega
  clear EARLY
  have cn1 := new_any w1
  obtain ⟨w2, hw2⟩ : ∃ w2, w2 = w1.alloc (.cells #[.slice none 0 0] 60) := ⟨_, rfl⟩
  have b2 : Below w1.heap.size w1 w2 := by rw [hw2]; exact al_below _ _
  have st2 : ST w2 (w.heap.size + 3) (w.heap.size + 1) (.slice none 0 0) [] := by rw [hw2, ← HS1.out]; exact st_new w1 _
  have hz2 : w2.heap.size = w.heap.size + 2 := by rw [hw2]; simp [HS1.out]
  rw [← hw2, HS1.out] at cn1
  clear hw2
  obtain ⟨w3, hw3⟩ : ∃ w3, w3 = w2.alloc (.cells #[.slice none 0 0] 30) := ⟨_, rfl⟩
  have b3 : Below w2.heap.size w2 w3 := by rw [hw3]; exact al_below _ _
  have HB3 : Hid (Below w.heap.size w w3) := HB1.out.trans ((b2.trans (b3.mono b2.size)).mono HB1.out.size)
  have HA3 : Hid (w3.heap[w.heap.size]? = some (.cells #[.int .u8 k, .int .i64 f, .int .i64 t] 24 (0, 0))) := blk_kept (blk_kept HA1.out b2 (blk_lt HA1.out)) b3 (by omega)
  have HD3 : Hid (DB w3 (w.heap.size + 3) (w.heap.size + 1) (w.heap.size + 2) (.slice none 0 0) (.slice none 0 0) []) := db_new (st2.below b3) (by rw [hw3, ← hz2]; exact heap_alloc_new w2 _) (by omega) (by omega)
  have HZ3 : Hid (w.heap.size + 3 ≤ w3.heap.size) := by unfold Hid; rw [hw3]; simp; omega
  have HQ : Hid (CQ w (.slice a0 L.length c0) L) := h0
  have HA0 : Hid (doL (L.take 0) [] = []) := rfl
  have HLN : Hid (∀ j, (doL (L.take j) []).length ≤ 200) := fun j => by
    have q := (doL_spec (L.take j) [] Canon.nil).2
    rw [List.length_take] at q
    simp only [List.length_nil] at q
    omega
  have HST : Hid (∀ j, j < L.length → doL (L.take (j + 1)) [] = doP (doL (L.take j) []) (atK L j)) := fun j hj => by rw [takeK hj, doL_snoc]
  have HOK : Hid (∀ j, j < L.length → okC (atK L j)) := fun j hj => h0.ok _ (by rw [atK_eq L j hj]; exact List.getElem_mem hj)
  have HFA : Hid (doL (L.take L.length) [] = doL L []) := by unfold Hid; rw [List.take_length]
  clear hw h0 b2 b3 st2 hwp
  generalize hFA : (fun j => doL (L.take j) []) = FA at *
  have HFA' : Hid (∀ j, doL (L.take j) [] = FA j) := fun j => by rw [← hFA]
  clear hFA
  simp only [HFA'.out] at HA0 HLN HST HFA
  clear HFA'
  generalize doL L [] = Z at *
  obtain ⟨n, hn⟩ : ∃ n, n = L.length := ⟨_, rfl⟩
  have HN : Hid (n = L.length) := hn
  rw [← hn] at t0 HQ HST HOK HFA h60 ⊢
  clear hn
  go_enter Tryd.func3, Tryd.ntmps3
  go_wp2_with fail
  rw [← hw1]
  clear hw1
  go_wp2_with fail
  refine cn1.mono ?_
  rintro e wq ⟨rfl, eq⟩
  rw [eq]
  clear cn1 eq wq
  go_wp2_with fail
  rw [← hw3]
  clear hw3 hz2 kf kt kk
  go_loopw [7, 8] (fun s7 s8 wr => ∃ (j : Nat) (va ua : Value), j ≤ n ∧ s7 = .bool true ∧ s8 = .int .i64 j ∧ DB wr (w.heap.size + 3) (w.heap.size + 1) (w.heap.size + 2) va ua (FA j) ∧ Below w.heap.size w wr ∧ w.heap.size + 3 ≤ wr.heap.size ∧ wr.heap[w.heap.size]? = some (.cells #[.int .u8 k, .int .i64 f, .int .i64 t] 24 (0, 0))) (fun _ s8 _ => n - (intOf s8).toNat)
  case atStart => exact ⟨0, _, _, by omega, rfl, rfl, by rw [HA0.out]; exact HD3.out, HB3.out, HZ3.out, HA3.out⟩
  case round =>
    obtain ⟨j, va, ua, hj, rfl, rfl, db, bel, hz, ha⟩ := hrel
    have HB : Hid (Below w.heap.size w wr) := bel
    have HD : Hid (DB wr (w.heap.size + 3) (w.heap.size + 1) (w.heap.size + 2) va ua (FA j)) := db
    have HA : Hid (wr.heap[w.heap.size]? = some (.cells #[.int .u8 k, .int .i64 f, .int .i64 t] 24 (0, 0))) := ha
    have HZ : Hid (w.heap.size + 3 ≤ wr.heap.size) := hz
    clear bel db ha hz
    by_cases hjn : j < n
    · have lt2 : (j : Int) < (n : Int) := by omega
      obtain ⟨b, off, rfl, -, -, -⟩ := HQ.out.at j (by rw [← HN.out]; exact hjn)
      have FR : Hid (∀ x, Below w.heap.size w x → x.cell? ⟨b, off + j * 3, none⟩ = some (.int .u8 (atK L j).1) ∧ x.cell? ⟨b, off + j * 3 + 1, none⟩ = some (.int .i64 (atK L j).2.1) ∧ x.cell? ⟨b, off + j * 3 + 2, none⟩ = some (.int .i64 (atK L j).2.2)) := fun x hx => by
        obtain ⟨b', off', e', k1, k2, k3⟩ := (HQ.out.kept hx).at j (by rw [← HN.out]; exact hjn)
        cases e'
        exact ⟨k1, k2, k3⟩
      have HX : Hid (okC (atK L j)) := HOK.out j hjn
      have HR : Hid (FA (j + 1) = doP (FA j) (atK L j)) := HST.out j hjn
      have HL : Hid ((FA j).length ≤ 900) := Nat.le_trans (HLN.out j) (by omega)
      have HL1 : Hid ((FA (j + 1)).length ≤ 400) := Nat.le_trans (HLN.out (j + 1)) (by omega)
      generalize atK L j = x at *
      go_upto_region 8 with fail
      refine wp_region_held_drew (S := From w) (by kernel_rfl) (Below.drew (HB.out)) (fun _ => ?_)
      refine wpAnyH_name (fun u0 hu0 => ?_)
      have bu0 : Below w.heap.size w u0 := by rw [hu0.out]; exact Below.drew (HB.out)
      have Du0 : DB u0 (w.heap.size + 3) (w.heap.size + 1) (w.heap.size + 2) va ua (FA j) := by rw [hu0.out]; exact HD.out.below ((Below.refl _ _).drew)
      have Au0 : u0.heap[w.heap.size]? = some (.cells #[.int .u8 k, .int .i64 f, .int .i64 t] 24 (0, 0)) := by rw [hu0.out]; exact HA.out
      have Zu0 : w.heap.size + 3 ≤ u0.heap.size := by rw [hu0.out]; exact HZ.out
      refine wpAnyH_take (i := 0) (oi := { dst := some 22, op := Op.move (Operand.tmp 5), type := 26, pos := "law.go:65", after := #[], guard := none }) (v := ?vr1) rfl (by kernel_rfl) (by kernel_rfl) (by kernel_rfl) (fun _ _ _ h => h) (Or.inl ⟨by rfl, ?yr1⟩) bu0 ?rr1
      case yr1 => (intro w hSw; go_simp; try with_reducible rfl)
      try simp only [Act.put, List.setIfInBounds_toArray, List.set_cons_zero, List.set_cons_succ]
      refine wpAnyH_take (i := 2) (oi := { dst := some 24, op := Op.move (Operand.tmp 0), type := 22, pos := "law.go:65", after := #[], guard := none }) (v := ?vr2) rfl (by kernel_rfl) (by kernel_rfl) (by kernel_rfl) (fun _ _ _ h => h) (Or.inl ⟨by rfl, ?yr2⟩) bu0 ?rr2
      case yr2 => (intro w hSw; go_simp; try with_reducible rfl)
      try simp only [Act.put, List.setIfInBounds_toArray, List.set_cons_zero, List.set_cons_succ]
      refine wpAnyH_take (i := 3) (oi := { dst := some 25, op := Op.move (Operand.tmp 8), type := 3, pos := "law.go:65", after := #[], guard := none }) (v := ?vr3) rfl (by kernel_rfl) (by kernel_rfl) (by kernel_rfl) (fun _ _ _ h => h) (Or.inl ⟨by rfl, ?yr3⟩) bu0 ?rr3
      case yr3 => (intro w hSw; go_simp; try with_reducible rfl)
      try simp only [Act.put, List.setIfInBounds_toArray, List.set_cons_zero, List.set_cons_succ]
      refine wpAnyH_take (i := 4) (oi := { dst := some 26, op := Op.indexAddr 22 (Operand.tmp 24) (Operand.tmp 25), type := 0, pos := "law.go:65", after := #[{ on := 2, ground := Ground.data }, { on := 3, ground := Ground.data }], guard := none }) (v := ?vr4) rfl (by kernel_rfl) (by kernel_rfl) (by kernel_rfl) (fun _ _ _ h => h) (Or.inl ⟨by rfl, ?yr4⟩) bu0 ?rr4
      case yr4 => (intro w hSw; go_simp; try with_reducible rfl)
      try simp only [Act.put, List.setIfInBounds_toArray, List.set_cons_zero, List.set_cons_succ]
      refine wpAnyH_take (i := 5) (oi := { dst := some 27, op := Op.load 24 (Operand.tmp 26), type := 24, pos := "law.go:65", after := #[{ on := 4, ground := Ground.data }], guard := none }) (v := .agg #[.int .u8 x.1, .int .i64 x.2.1, .int .i64 x.2.2]) rfl (by kernel_rfl) (by kernel_rfl) (by kernel_rfl) (fun _ _ _ h => h) (Or.inl ⟨by rfl, ?yr5⟩) bu0 ?rr5
      case yr5 => (intro w hSw; have t0 := (FR.out w hSw).1; have t1 := (FR.out w hSw).2.1; have t2 := (FR.out w hSw).2.2; go_simp; try with_reducible rfl)
      try simp only [Act.put, List.setIfInBounds_toArray, List.set_cons_zero, List.set_cons_succ]
      refine wpAnyH_ready (rs := [1]) (by kernel_rfl) (by simp) ?_
      refine AllReadyH.cons (o := { dst := some 23, op := Op.load 30 (Operand.tmp 6), type := 30, pos := "law.go:65", after := #[], guard := none }) rfl (fun KK hKK => ?_) ?_
      · have cau6 := Du0.cell
        go_simp
        refine hKK.out _ _ (bu0) (fun _ => ?_)
        clear hKK KK
        try simp only [Act.put, List.setIfInBounds_toArray, List.set_cons_zero, List.set_cons_succ]
        refine wpAnyH_name (fun u6 hu6 => ?_)
        have bu6 : Below w.heap.size w u6 := by rw [hu6.out]; exact (bu0)
        have Du6 : DB u6 (w.heap.size + 3) (w.heap.size + 1) (w.heap.size + 2) va ua (FA j) := by rw [hu6.out]; exact Du0
        have Au6 : u6.heap[w.heap.size]? = some (.cells #[.int .u8 k, .int .i64 f, .int .i64 t] 24 (0, 0)) := by rw [hu6.out]; exact Au0
        have Zu6 : w.heap.size + 3 ≤ u6.heap.size := by rw [hu6.out]; exact Zu0
        refine wpAnyH_ready (rs := [6]) (by kernel_rfl) (by simp) ?_
        refine AllReadyH.cons (o := { dst := some 28, op := Op.call { callee := Callee.value (Operand.func 10), args := #[Operand.tmp 22, Operand.tmp 23, Operand.tmp 27], argTypes := #[26, 30, 24] }, type := 31, pos := "law.go:65", after := #[{ on := 0, ground := Ground.data }, { on := 1, ground := Ground.data }, { on := 5, ground := Ground.data }], guard := none }) rfl (fun KK hKK => ?_) ?_
        · go_simp
          refine (do_any u6 _ _ _ _ _ _ Du6.dd HL.out Zu6 HX.out).mono ?_
          rintro e u7' ⟨uuu7, vvu7, rfl, du7, su7, ru7⟩
          obtain ⟨uxu7, uyu7, rfl, -, -, -⟩ := du7.sp.shape
          (try go_wp2_with fail)
          refine hKK.out _ _ (su_below su7 bu6 (by have := Zu6; omega) (by omega) (fun k e => by have := Du6.own k e; omega)) (fun _ => ?_)
          clear hKK KK
          try simp only [Act.put, List.setIfInBounds_toArray, List.set_cons_zero, List.set_cons_succ]
          refine wpAnyH_name (fun u7 hu7 => ?_)
          have bu7 : Below w.heap.size w u7 := by rw [hu7.out]; exact (su_below su7 bu6 (by have := Zu6; omega) (by omega) (fun k e => by have := Du6.own k e; omega))
          rw [← hu7.out] at du7 su7
          have Au7 : u7.heap[w.heap.size]? = some (.cells #[.int .u8 k, .int .i64 f, .int .i64 t] 24 (0, 0)) := (su7.block _ (by have := Zu6; omega) (by omega) (fun e => by have := Du6.own _ e; omega)).trans Au6
          have Zu7 : w.heap.size + 3 ≤ u7.heap.size := Nat.le_trans Zu6 su7.size
          have DDu7 := db_do Du6 du7 su7 ru7 Zu6
          have cau7 : u7.cell? ⟨w.heap.size + 2, 0, none⟩ = some ua := by have := DDu7.1; simp [World.cell?, this]
          have cbu7 : u7.frozen? ⟨w.heap.size + 2, 0, none⟩ = false := by have := DDu7.1; simp [World.frozen?, this]
          refine wpAnyH_take (i := 7) (oi := { dst := some 21, op := Op.move (Operand.tmp 28), type := 31, pos := "law.go:65", after := #[{ on := 6, ground := Ground.data }], guard := none }) (v := ?vr8) rfl (by kernel_rfl) (by kernel_rfl) (by kernel_rfl) (fun _ _ _ h => h) (Or.inl ⟨by rfl, ?yr8⟩) bu7 ?rr8
          case yr8 => (intro w hSw; go_simp; try with_reducible rfl)
          try simp only [Act.put, List.setIfInBounds_toArray, List.set_cons_zero, List.set_cons_succ]
          refine wpAnyH_take (i := 8) (oi := { dst := some 29, op := Op.extract (Operand.tmp 21) 0, type := 30, pos := "law.go:65", after := #[{ on := 7, ground := Ground.data }], guard := none }) (v := ?vr9) rfl (by kernel_rfl) (by kernel_rfl) (by kernel_rfl) (fun _ _ _ h => h) (Or.inl ⟨by rfl, ?yr9⟩) bu7 ?rr9
          case yr9 => (intro w hSw; go_simp; try with_reducible rfl)
          try simp only [Act.put, List.setIfInBounds_toArray, List.set_cons_zero, List.set_cons_succ]
          refine wpAnyH_take (i := 9) (oi := { dst := some 30, op := Op.extract (Operand.tmp 21) 1, type := 4, pos := "law.go:65", after := #[{ on := 7, ground := Ground.data }, { on := 10, ground := Ground.gcOnly Departure.lateStores }], guard := none }) (v := ?vr10) rfl (by kernel_rfl) (by kernel_rfl) (by kernel_rfl) (fun _ _ _ h => h) (Or.inl ⟨by rfl, ?yr10⟩) bu7 ?rr10
          case yr10 => (intro w hSw; go_simp; try with_reducible rfl)
          try simp only [Act.put, List.setIfInBounds_toArray, List.set_cons_zero, List.set_cons_succ]
          refine wpAnyH_ready (rs := [10]) (by kernel_rfl) (by simp) ?_
          refine AllReadyH.cons (o := { dst := none, op := Op.store 30 (Operand.tmp 6) (Operand.tmp 29), type := 0, pos := "law.go:65", after := #[{ on := 8, ground := Ground.data }, { on := 6, ground := Ground.chain }, { on := 0, ground := Ground.phase }, { on := 1, ground := Ground.phase }, { on := 2, ground := Ground.phase }, { on := 3, ground := Ground.phase }, { on := 4, ground := Ground.phase }, { on := 5, ground := Ground.phase }, { on := 6, ground := Ground.phase }, { on := 7, ground := Ground.phase }, { on := 8, ground := Ground.phase }, { on := 9, ground := Ground.textOnly Departure.lateStores }], guard := none }) rfl (fun KK hKK => ?_) ?_
          · go_simp
            refine hKK.out _ _ (bu7.setCell (Nat.le_add_right w.heap.size 2) _) (fun _ => ?_)
            clear hKK KK
            try simp only [Act.put]
            refine wpAnyH_name (fun u11 hu11 => ?_)
            have bu11 : Below w.heap.size w u11 := by rw [hu11.out]; exact (bu7.setCell (Nat.le_add_right w.heap.size 2) _)
            have Du11 : DB u11 (w.heap.size + 3) (w.heap.size + 1) (w.heap.size + 2) vvu7 (.slice uxu7 (doP (FA j) x).length uyu7) (FA (j + 1)) := by rw [hu11.out, HR.out]; exact DDu7.2
            have Au11 : u11.heap[w.heap.size]? = some (.cells #[.int .u8 k, .int .i64 f, .int .i64 t] 24 (0, 0)) := by rw [hu11.out, Below.heap_setCell _ _ _ _ (show w.heap.size ≠ w.heap.size + 2 by omega)]; exact Au7
            have Zu11 : w.heap.size + 3 ≤ u11.heap.size := by rw [hu11.out]; simp only [World.setCell, Array.size_modify]; exact Zu7
            refine wpAnyH_take (i := 11) (oi := { dst := some 7, op := Op.assign (Operand.tmp 30), type := 4, pos := "law.go:65", after := #[{ on := 9, ground := Ground.data }, { on := 10, ground := Ground.chain }, { on := 0, ground := Ground.phase }, { on := 1, ground := Ground.phase }, { on := 2, ground := Ground.phase }, { on := 3, ground := Ground.phase }, { on := 4, ground := Ground.phase }, { on := 5, ground := Ground.phase }, { on := 6, ground := Ground.phase }, { on := 7, ground := Ground.phase }, { on := 8, ground := Ground.phase }, { on := 9, ground := Ground.phase }, { on := 10, ground := Ground.phase }], guard := none }) (v := ?vr12) rfl (by kernel_rfl) (by kernel_rfl) (by kernel_rfl) (fun _ _ _ h => h) (Or.inl ⟨by rfl, ?yr12⟩) bu11 ?rr12
            case yr12 => (intro w hSw; go_simp; try with_reducible rfl)
            try simp only [Act.put, List.setIfInBounds_toArray, List.set_cons_zero, List.set_cons_succ]
            refine wpAnyH_done (by kernel_rfl) ?_ _
            have HD9 : Hid (DB u11 (w.heap.size + 3) (w.heap.size + 1) (w.heap.size + 2) vvu7 (.slice uxu7 (doP (FA j) x).length uyu7) (FA (j + 1))) := Du11
            have H2 := bu11
            have HB9 : Hid (Below w.heap.size w u11) := H2
            have HA9 : Hid (u11.heap[w.heap.size]? = some (.cells #[.int .u8 k, .int .i64 f, .int .i64 t] 24 (0, 0))) := Au11
            have HZ9 : Hid (w.heap.size + 3 ≤ u11.heap.size) := Zu11
            have FQ : Hid (∀ W, Below u11.heap.size u11 W → W.cell? ⟨w.heap.size + 2, 0, none⟩ = some (.slice uxu7 (doP (FA j) x).length uyu7) ∧ W.cell? ⟨b, off + j * 3, none⟩ = some (.int .u8 x.1) ∧ W.cell? ⟨b, off + j * 3 + 1, none⟩ = some (.int .i64 x.2.1) ∧ W.cell? ⟨b, off + j * 3 + 2, none⟩ = some (.int .i64 x.2.2)) := fun W hW => ⟨(HD9.out.below hW).cell, FR.out W (HB9.out.trans (hW.mono HB9.out.size))⟩
            have HCS : Hid (∀ W, Below u11.heap.size u11 W → Calls Tryd.prog 11 #[.pointer (some ⟨w.heap.size + 1, 0, none⟩), .agg #[.slice uxu7 (doP (FA j) x).length uyu7], .agg #[.int .u8 x.1, .int .i64 x.2.1, .int .i64 x.2.2]] W fun e W' => e = .returned (.bool true) ∧ Below W.heap.size W W') := fun W hW => same_any W _ _ _ _ _ x (HD9.out.below hW).dd HL1.out
            clear FR
            go_upto_region 9 with fail
            refine wp_region_held_drew (S := From u11) (by kernel_rfl) (Below.drew (Below.refl _ _)) (fun _ => ?_)
            refine wpAnyH_name (fun y0 hy0 => ?_)
            have by0 : Below u11.heap.size u11 y0 := by rw [hy0.out]; exact Below.drew (Below.refl _ _)
            refine wpAnyH_take (i := 0) (oi := { dst := some 31, op := Op.move (Operand.tmp 7), type := 4, pos := "law.go:66", after := #[], guard := none }) (v := ?vs1) rfl (by kernel_rfl) (by kernel_rfl) (by kernel_rfl) (fun _ _ _ h => h) (Or.inl ⟨by rfl, ?ys1⟩) by0 ?rs1
            case ys1 => (intro w hSw; go_simp; try with_reducible rfl)
            try simp only [Act.put, List.setIfInBounds_toArray, List.set_cons_zero, List.set_cons_succ]
            refine wpAnyH_take (i := 1) (oi := { dst := some 32, op := Op.unOp UnOp.not 4 (Operand.tmp 31), type := 4, pos := "law.go:66", after := #[{ on := 0, ground := Ground.data }], guard := none }) (v := .bool false) rfl (by kernel_rfl) (by kernel_rfl) (by kernel_rfl) (fun _ _ _ h => h) (Or.inl ⟨by rfl, ?ys2⟩) by0 ?rs2
            case ys2 => (intro w hSw; go_simp; try with_reducible rfl)
            try simp only [Act.put, List.setIfInBounds_toArray, List.set_cons_zero, List.set_cons_succ]
            refine wpAnyH_take (i := 2) (oi := { dst := some 33, op := Op.move (Operand.tmp 32), type := 4, pos := "law.go:66", after := #[{ on := 1, ground := Ground.data }], guard := none }) (v := .bool false) rfl (by kernel_rfl) (by kernel_rfl) (by kernel_rfl) (fun _ _ _ h => h) (Or.inl ⟨by rfl, ?ys3⟩) by0 ?rs3
            case ys3 => (intro w hSw; go_simp; try with_reducible rfl)
            try simp only [Act.put, List.setIfInBounds_toArray, List.set_cons_zero, List.set_cons_succ]
            refine wpAnyH_take (i := 3) (oi := { dst := some 34, op := Op.move (Operand.tmp 5), type := 26, pos := "law.go:66", after := #[{ on := 2, ground := Ground.guard }], guard := some (2, false) }) (v := ?vs4) rfl (by kernel_rfl) (by kernel_rfl) (by kernel_rfl) (fun _ _ _ h => h) (Or.inl ⟨by rfl, ?ys4⟩) by0 ?rs4
            case ys4 => (intro w hSw; go_simp; try with_reducible rfl)
            try simp only [Act.put, List.setIfInBounds_toArray, List.set_cons_zero, List.set_cons_succ]
            refine wpAnyH_take (i := 4) (oi := { dst := some 35, op := Op.load 30 (Operand.tmp 6), type := 30, pos := "law.go:66", after := #[{ on := 2, ground := Ground.guard }], guard := some (2, false) }) (v := .agg #[.slice uxu7 (doP (FA j) x).length uyu7]) rfl (by kernel_rfl) (by kernel_rfl) (by kernel_rfl) (fun _ _ _ h => h) (Or.inl ⟨by rfl, ?ys5⟩) by0 ?rs5
            case ys5 => (intro w hSw; have t0 := (FQ.out w hSw).1; have t1 := (FQ.out w hSw).2.1; have t2 := (FQ.out w hSw).2.2.1; have t3 := (FQ.out w hSw).2.2.2; go_simp; try with_reducible rfl)
            try simp only [Act.put, List.setIfInBounds_toArray, List.set_cons_zero, List.set_cons_succ]
            refine wpAnyH_take (i := 5) (oi := { dst := some 36, op := Op.move (Operand.tmp 0), type := 22, pos := "law.go:66", after := #[{ on := 2, ground := Ground.guard }], guard := some (2, false) }) (v := ?vs6) rfl (by kernel_rfl) (by kernel_rfl) (by kernel_rfl) (fun _ _ _ h => h) (Or.inl ⟨by rfl, ?ys6⟩) by0 ?rs6
            case ys6 => (intro w hSw; go_simp; try with_reducible rfl)
            try simp only [Act.put, List.setIfInBounds_toArray, List.set_cons_zero, List.set_cons_succ]
            refine wpAnyH_take (i := 6) (oi := { dst := some 37, op := Op.move (Operand.tmp 8), type := 3, pos := "law.go:66", after := #[{ on := 2, ground := Ground.guard }], guard := some (2, false) }) (v := ?vs7) rfl (by kernel_rfl) (by kernel_rfl) (by kernel_rfl) (fun _ _ _ h => h) (Or.inl ⟨by rfl, ?ys7⟩) by0 ?rs7
            case ys7 => (intro w hSw; go_simp; try with_reducible rfl)
            try simp only [Act.put, List.setIfInBounds_toArray, List.set_cons_zero, List.set_cons_succ]
            refine wpAnyH_take (i := 7) (oi := { dst := some 38, op := Op.indexAddr 22 (Operand.tmp 36) (Operand.tmp 37), type := 0, pos := "law.go:66", after := #[{ on := 5, ground := Ground.data }, { on := 6, ground := Ground.data }, { on := 2, ground := Ground.guard }], guard := some (2, false) }) (v := ?vs8) rfl (by kernel_rfl) (by kernel_rfl) (by kernel_rfl) (fun _ _ _ h => h) (Or.inl ⟨by rfl, ?ys8⟩) by0 ?rs8
            case ys8 => (intro w hSw; go_simp; try with_reducible rfl)
            try simp only [Act.put, List.setIfInBounds_toArray, List.set_cons_zero, List.set_cons_succ]
            refine wpAnyH_take (i := 8) (oi := { dst := some 39, op := Op.load 24 (Operand.tmp 38), type := 24, pos := "law.go:66", after := #[{ on := 7, ground := Ground.data }, { on := 2, ground := Ground.guard }], guard := some (2, false) }) (v := .agg #[.int .u8 x.1, .int .i64 x.2.1, .int .i64 x.2.2]) rfl (by kernel_rfl) (by kernel_rfl) (by kernel_rfl) (fun _ _ _ h => h) (Or.inl ⟨by rfl, ?ys9⟩) by0 ?rs9
            case ys9 => (intro w hSw; have t0 := (FQ.out w hSw).1; have t1 := (FQ.out w hSw).2.1; have t2 := (FQ.out w hSw).2.2.1; have t3 := (FQ.out w hSw).2.2.2; go_simp; try with_reducible rfl)
            try simp only [Act.put, List.setIfInBounds_toArray, List.set_cons_zero, List.set_cons_succ]
            refine wpAnyH_ready (rs := [9]) (by kernel_rfl) (by simp) ?_
            refine AllReadyH.cons (o := { dst := some 40, op := Op.call { callee := Callee.value (Operand.func 11), args := #[Operand.tmp 34, Operand.tmp 35, Operand.tmp 39], argTypes := #[26, 30, 24] }, type := 4, pos := "law.go:66", after := #[{ on := 3, ground := Ground.data }, { on := 4, ground := Ground.data }, { on := 8, ground := Ground.data }, { on := 2, ground := Ground.chain }, { on := 2, ground := Ground.guard }], guard := some (2, false) }) rfl (fun KK hKK => ?_) ?_
            · go_simp
              refine (HCS.out y0 by0).mono ?_
              rintro e y10' ⟨rfl, gy10⟩
              (try go_wp2_with fail)
              refine hKK.out _ _ (by0.trans (Below.mono gy10 by0.size)) (fun _ => ?_)
              clear hKK KK
              try simp only [Act.put, List.setIfInBounds_toArray, List.set_cons_zero, List.set_cons_succ]
              refine wpAnyH_name (fun y10 hy10 => ?_)
              have by10 : Below u11.heap.size u11 y10 := by rw [hy10.out]; exact (by0.trans (Below.mono gy10 by0.size))
              refine wpAnyH_take (i := 10) (oi := { dst := some 41, op := Op.unOp UnOp.not 4 (Operand.tmp 40), type := 4, pos := "law.go:66", after := #[{ on := 9, ground := Ground.data }, { on := 2, ground := Ground.guard }], guard := some (2, false) }) (v := .bool false) rfl (by kernel_rfl) (by kernel_rfl) (by kernel_rfl) (fun _ _ _ h => h) (Or.inl ⟨by rfl, ?ys11⟩) by10 ?rs11
              case ys11 => (intro w hSw; go_simp; try with_reducible rfl)
              try simp only [Act.put, List.setIfInBounds_toArray, List.set_cons_zero, List.set_cons_succ]
              refine wpAnyH_take (i := 11) (oi := { dst := some 42, op := Op.pick (Operand.tmp 33) (Operand.const (Value.bool true)) (Operand.tmp 41), type := 4, pos := "law.go:66", after := #[{ on := 2, ground := Ground.data }, { on := 10, ground := Ground.data }], guard := none }) (v := .bool false) rfl (by kernel_rfl) (by kernel_rfl) (by kernel_rfl) (fun _ _ _ h => h) (Or.inl ⟨by rfl, ?ys12⟩) by10 ?rs12
              case ys12 => (intro w hSw; go_simp; try with_reducible rfl)
              try simp only [Act.put, List.setIfInBounds_toArray, List.set_cons_zero, List.set_cons_succ]
              refine wpAnyH_done (by kernel_rfl) ?_ _
              have H3 := by10
              have HBX : Hid (Below u11.heap.size u11 y10) := H3
              clear HCS FQ
              go_wp2
              go_roundw
              case rel => exact ⟨j + 1, _, _, by omega, rfl, by go_num, HD9.out.below HBX.out, HB9.out.trans (HBX.out.mono HB9.out.size), Nat.le_trans HZ9.out HBX.out.size, blk_kept HA9.out HBX.out (blk_lt HA9.out)⟩
              case measure => simp [intOf]; omega
            exact AllReadyH.nil
          exact AllReadyH.nil
        exact AllReadyH.nil
      exact AllReadyH.nil
    · obtain rfl : j = n := by omega
      have lt2 : ¬ (j : Int) < (j : Int) := by omega
      have HDZ : Hid (DB wr (w.heap.size + 3) (w.heap.size + 1) (w.heap.size + 2) va ua Z) := by unfold Hid; rw [← HFA.out]; exact HD.out
      have HZL : Hid (Z.length ≤ 200) := by unfold Hid; rw [← HFA.out]; exact HLN.out j
      have kk : wr.cell? ⟨w.heap.size, 0, none⟩ = some (.int .u8 k) := by have := HA.out; simp [World.cell?, this]
      have kf : wr.cell? ⟨w.heap.size, 1, none⟩ = some (.int .i64 f) := by have := HA.out; simp [World.cell?, this]
      have kt : wr.cell? ⟨w.heap.size, 2, none⟩ = some (.int .i64 t) := by have := HA.out; simp [World.cell?, this]
      have kr := HDZ.out.cell
      have cs := same_any wr (w.heap.size + 3) (w.heap.size + 1) va ua Z (k, f, t) HDZ.out.dd (Nat.le_trans HZL.out (by omega))
      simp only at cs
      have HAW : Hid (∀ W, Below wr.heap.size wr W → Calls Tryd.prog 8 #[] W fun e W' => e = .returned (.bool true) ∧ Below W.heap.size W W') := fun W hb => awake_any W ((HW0.out.below HB.out HW0.out.pos).below hb (Nat.lt_of_lt_of_le HW0.out.pos HB.out.size))
      have HBF : Hid (∀ W, Below wr.heap.size wr W → Below w.heap.size w W) := fun W hb => HB.out.trans (hb.mono HB.out.size)
      clear HFA HD HST HOK HQ HLN HD3 HA3 HB3 HZ3 HA0 HB HA HDZ HZL
      go_wp2_with fail
      refine cs.mono ?_
      rintro e w5 ⟨rfl, b5⟩
      have HB5 : Hid (Below wr.heap.size wr w5) := b5
      have cw := HAW.out w5 b5
      clear cs b5 HAW kk kf kt kr
      go_wp2_with fail
      refine cw.mono ?_
      rintro e w9 ⟨rfl, b9⟩
      have HB9 : Hid (Below w.heap.size w w9) := HBF.out _ (HB5.out.trans (b9.mono HB5.out.size))
      clear cw b9
      go_wp2
      go_ret
      exact ⟨rfl, HB9.out⟩

theorem contract (H : Type) (enc : TypeId × Value → H) (W : World) (base : Nat) (args : Array Value) (ds gs : List (DataW H)) (before : List MemPlace)
    (hval : ∀ (j : Nat) t v, Tryd.f3.params[j]? = some t → args[j]? = some v → Value.okWide Tryd.prog W .any base t v)
    (hW : DataW.Whole enc Tryd.prog Tryd.f3.params.toList Rows.rangesPlaysSpec.vars false W args.toList ds gs before) (hL : laidMetH Tryd.prog Rows.rangesPlaysRow.laid W)
    (hsz0 : (DataW.weightsEach Tryd.prog (Tryd.f3.params.toList ++ Rows.rangesPlaysSpec.plain.varTypes Tryd.prog) (ds ++ gs)).all (· ≤ reachBytes) = true) :
    Calls Tryd.prog 3 args W fun e W' => ∃ v, e = .returned v ∧ Rows.rangesPlaysSpec.post enc Tryd.prog Tryd.f3 false true false false W args v W' := by
  have hW' := hW
  obtain ⟨p, q, hA0, hV, rfl, hfz, hnd⟩ := hW
  have hA : DataW.TrodAll enc Tryd.prog W 0 (fun _ => true) true Tryd.f3.params.toList args.toList ds p := hA0
  rw [Tryd.params3] at hA hval hsz0
  obtain ⟨v0, vs0, d0, ds0, p0, q0, hargs, rfl, rfl, h0, r0⟩ := trodAll_cons hA
  obtain ⟨v1, vs1, d1, ds1, p1, q1, rfl, rfl, rfl, h1, r1⟩ := trodAll_cons r0
  obtain ⟨rfl, rfl, rfl⟩ := trodAll_nil r1
  obtain rfl : args = #[v0, v1] := by cases args; simp_all
  obtain ⟨rfl, rfl⟩ := trodVars_none hV
  have k0 := h0
  have lt0 : ∀ x ∈ p0, x.block < W.heap.size := by obtain ⟨m, hm⟩ := k0; exact DataW.trod_lt m _ _ _ hm
  obtain ⟨L0, w0⟩ := cls_in (hval 0 22 v0 rfl rfl) h0
  have k1 := h1
  have lt1 : ∀ x ∈ p1, x.block < W.heap.size := by obtain ⟨m, hm⟩ := k1; exact DataW.trod_lt m _ _ _ hm
  obtain ⟨L1, w1⟩ := cal_in (hval 1 24 v1 rfl rfl) h1
  clear hA0
  refine (walk v0 L0 v1 L1 W (wi_of hL) w0 w1).mono fun e W' ⟨he, bel⟩ => ?_
  subst he
  exact ⟨_, rfl, _, _, _, [], _, [], hW', trodAll_mk1 (shut_bool Tryd.underlying4 _), (trodAll_cons_mk (Below.trod laidOut (by kernel_rfl) (of_decide_eq_true (by kernel_rfl)) k0 bel lt0) (trodAll_cons_mk (Below.trod laidOut (by kernel_rfl) (of_decide_eq_true (by kernel_rfl)) k1 bel lt1) trodAll_mk0)), rfl, bel.frame _, fun h => by cases h⟩

theorem laid_met (os : Os) : laidMet Tryd.prog Rows.rangesPlaysRow.laid (({ World.holding Tryd.prog os ⟨#[], #[], []⟩ with heap := ((World.holding Tryd.prog os ⟨#[], #[], []⟩).heap.modify 0 (fun
      | .cells _ t frozen => .cells widT t frozen
      | o => o)) } : World).forCall (fun _ _ => 0) ⟨#[], #[.slice none 0 0, .agg #[.int .u8 0, .int .i64 0, .int .i64 0]], []⟩).memory :=
  laidMet_of_run' 8 (by kernel_rfl) (by kernel_rfl)
theorem reads (os : Os) {H : Type} (enc : TypeId × Value → H) : ∃ places, DataW.whole enc Tryd.prog (({ World.holding Tryd.prog os ⟨#[], #[], []⟩ with heap := ((World.holding Tryd.prog os ⟨#[], #[], []⟩).heap.modify 0 (fun
      | .cells _ t frozen => .cells widT t frozen
      | o => o)) } : World).forCall (fun _ _ => 0) ⟨#[], #[.slice none 0 0, .agg #[.int .u8 0, .int .i64 0, .int .i64 0]], []⟩).memory Tryd.f3.params.toList Rows.rangesPlaysSpec.vars false #[Value.slice none 0 0, .agg #[.int .u8 0, .int .i64 0, .int .i64 0]].toList 8 = some ([.nil, .agg [.lit (.int .u8 0), .lit (.int .i64 0), .lit (.int .i64 0)]], [], places) :=
  ⟨[], by kernel_rfl⟩

set_option maxRecDepth 100000 in
theorem lifted (os : Os) (started : os.Started) (H : Type) (enc : TypeId × Value → H) (F : Stop.Interp) :
    ReturnsInHanded {} Tryd.checked os 3 .any ((OpenSpec.ofChange Rows.rangesPlaysSpec).preRow enc Tryd.prog Tryd.f3 Rows.rangesPlaysRow.domain false Rows.rangesPlaysRow.laid) (((OpenSpec.ofChange Rows.rangesPlaysSpec).at F).post enc Tryd.prog Tryd.f3 false true false false) := by
  obtain ⟨places, hx⟩ := reads os enc
  refine returnsInHanded_of_row (C := Tryd.checked) (s := OpenSpec.ofChange Rows.rangesPlaysSpec) own started (by kernel_rfl) Tryd.func3
    (witness_row_at (enc := enc) (C := Tryd.checked) false ({ World.holding Tryd.prog os ⟨#[], #[], []⟩ with heap := ((World.holding Tryd.prog os ⟨#[], #[], []⟩).heap.modify 0 (fun
      | .cells _ t frozen => .cells widT t frozen
      | o => o)) } : World) #[.slice none 0 0, .agg #[.int .u8 0, .int .i64 0, .int .i64 0]] rfl (by kernel_rfl) (by kernel_rfl) (by kernel_rfl)
      (OpenSpec.preRow_of_cond 8 hx (by kernel_rfl) (fun k hk => by cases hk) (by kernel_rfl) (laid_met os))) ?_
  intro W base args ds gs before hval hW _ _ hsz hL _ _
  exact contract H enc W base args ds gs before hval hW hL hsz

theorem said : Rows.RangesPlaysSaid :=
  OpenClaim.holds_of_cond 3 Tryd.f3 rfl rfl rfl rfl rfl rfl rfl ⟨rfl, rfl, rfl, rfl, rfl⟩ rfl rfl rfl rfl rfl (by kernel_rfl) Tryd.func3 (by kernel_rfl)
    (of_decide_eq_true (by kernel_rfl)) (by unfold Func.isWrapper; first | (rw [if_pos (by decide +kernel)]; kernel_rfl) | (rw [if_neg (by decide +kernel)]; exact ⟨rfl, rfl⟩))
    (fun os started H enc _ F => by rw [OpenClaim.pre_eq_preRow]; exact lifted os started H enc F)

theorem plain (f : FuncId) (fn : Func) (hf : Tryd.pinned.checked.prog.funcNamed "sumpter/sumpterlaw17.RangesPlays" = some f) (hfn : Tryd.pinned.checked.prog.funcs[f]? = some fn) :
    false = Tryd.pinned.checked.prog.looks [] ∧ ∀ (j : Nat) t, fn.params[j]? = some t → Tryd.pinned.checked.prog.wantsStandIn t = false := by
  obtain rfl : f = 3 := Option.some.inj ((show Tryd.prog.funcNamed "sumpter/sumpterlaw17.RangesPlays" = some 3 by kernel_rfl).symm.trans hf) |>.symm
  obtain rfl : fn = Tryd.f3 := (Option.some.inj (Tryd.func3.symm.trans hfn)).symm
  refine ⟨by kernel_rfl, fun j t ht => ?_⟩
  rw [Tryd.params3] at ht
  have hm : t ∈ [22, 24] := by simpa using Array.mem_of_getElem? ht
  have hall : ([22, 24].all fun u => !Tryd.prog.wantsStandIn u) = true := by kernel_rfl
  exact (show Tryd.prog.wantsStandIn t = false by simpa using List.all_eq_true.1 hall t hm)
end Go.Proofs.YtaghmoddalbepaaDoor.rangesPlays

namespace Go.Proofs.YtaghmoddalbepaaDoor
/-- The card of RangesPlays. -/
theorem rangesPlays_card : Rows.RangesPlaysCardSaid :=
  Claim7.holds_tied_plain_at .later [] _ _ _ _ rangesPlays.said (fun _ h => by cases h) (by kernel_rfl) (fun _ h => by cases h) rangesPlays_row_tie rfl ⟨rfl, rfl⟩ (by kernel_rfl) rfl rangesPlays.plain (by kernel_rfl)
#print axioms rangesPlays_card
end Go.Proofs.YtaghmoddalbepaaDoor
