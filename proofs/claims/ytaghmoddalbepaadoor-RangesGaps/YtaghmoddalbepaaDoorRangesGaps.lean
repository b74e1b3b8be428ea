/-
  RangesGaps: what is in a set, and what is told not to be, are together all.
-/
import Derived.Test.YtaghmoddalbepaaDoorPkE
namespace Go.Proofs.YtaghmoddalbepaaDoor.rangesGaps
open Go.ChangeShapes Go.WideShapes Go.ChangeAt Go.RowKit Go.Deep Go.ChangeMaps
set_option maxRecDepth 100000

set_option maxHeartbeats 8000000 in
theorem walk (v0 : Value) (L : List Cal) (v1 : Value) (y : Cal) (w : World) (hw : Fi.Wid w) (h0 : CQ w v0 L) (h1 : v1 = .agg #[.int .u8 y.1, .int .i64 y.2.1, .int .i64 y.2.2] ∧ okC y) :
    Calls Tryd.prog 7 #[v0, v1] w fun e w' => e = .returned (.bool true) ∧ Below w.heap.size w w' := by
  obtain ⟨rfl, hy⟩ := h1
  obtain ⟨k, f, t⟩ := y
  unfold okC at hy
  simp only at hy ⊢
  obtain ⟨a0, c0, rfl⟩ := h0.shape
  obtain ⟨w1, hw1⟩ : ∃ w1, w1 = w.alloc (.cells #[.int .u8 k, .int .i64 f, .int .i64 t] 24) := ⟨_, rfl⟩
  have HB1 : Hid (Below w.heap.size w w1) := by unfold Hid; rw [hw1]; exact al_below _ _
  have HS1 : Hid (w1.heap.size = w.heap.size + 1) := by unfold Hid; rw [hw1]; simp
  have HA1 : Hid (w1.heap[w.heap.size]? = some (.cells #[.int .u8 k, .int .i64 f, .int .i64 t] 24 (0, 0))) := by unfold Hid; rw [hw1]; exact heap_alloc_new _ _
  have kf : w1.cell? ⟨w.heap.size, 1, none⟩ = some (.int .i64 f) := by have := HA1.out; simp [World.cell?, this]
  have kt : w1.cell? ⟨w.heap.size, 2, none⟩ = some (.int .i64 t) := by have := HA1.out; simp [World.cell?, this]
  have HW : Hid (Fi.Wid w1) := hw.below HB1.out hw.pos
  have hwp := hw.pos
  have HW0 : Hid (Fi.Wid w) := hw
  have EARLY : Hid (Calls Tryd.prog 8 #[] w1 fun e w' => e = .returned (.bool true) ∧ Below w1.heap.size w1 w') := awake_any w1 HW.out
  by_cases h60 : 60 < L.length
  · have t0 : (60 : Int) < (L.length : Int) := by omega
    clear h0 hw
    generalize L.length = n at *
    go_enter Tryd.func7, Tryd.ntmps7
    go_wp2_with fail
    rw [← hw1]
    clear hw1
    go_wp2_with fail
    refine EARLY.out.mono ?_
    rintro e w9 ⟨rfl, b9⟩
    have HB9 : Hid (Below w.heap.size w w9) := HB1.out.trans (b9.mono HB1.out.size)
    clear b9 EARLY
    go_wp2
    go_ret
    exact ⟨rfl, HB9.out⟩
  have t0 : ¬ (60 : Int) < (L.length : Int) := by omega
  by_cases hf : f < 0
  · clear h0 hw
    generalize L.length = n at *
    go_enter Tryd.func7, Tryd.ntmps7
    go_wp2_with fail
    rw [← hw1]
    clear hw1
    go_wp2_with fail
    refine EARLY.out.mono ?_
    rintro e w9 ⟨rfl, b9⟩
    have HB9 : Hid (Below w.heap.size w w9) := HB1.out.trans (b9.mono HB1.out.size)
    clear b9 EARLY
    go_wp2
    go_ret
    exact ⟨rfl, HB9.out⟩
  by_cases hft : t < f
  · clear h0 hw
    generalize L.length = n at *
    go_enter Tryd.func7, Tryd.ntmps7
    go_wp2_with fail
    rw [← hw1]
    clear hw1
    go_wp2_with fail
    refine EARLY.out.mono ?_
    rintro e w9 ⟨rfl, b9⟩
    have HB9 : Hid (Below w.heap.size w w9) := HB1.out.trans (b9.mono HB1.out.size)
    clear b9 EARLY
    go_wp2
    go_ret
    exact ⟨rfl, HB9.out⟩
  by_cases ht : 1099511627776 < t
  · clear h0 hw
    generalize L.length = n at *
    go_enter Tryd.func7, Tryd.ntmps7
    go_wp2_with fail
    rw [← hw1]
    clear hw1
    go_wp2_with fail
    refine EARLY.out.mono ?_
    rintro e w9 ⟨rfl, b9⟩
    have HB9 : Hid (Below w.heap.size w w9) := HB1.out.trans (b9.mono HB1.out.size)
    clear b9 EARLY
    go_wp2
    go_ret
    exact ⟨rfl, HB9.out⟩
  clear EARLY
  have cn1 := new_any w1
  obtain ⟨w2, hw2⟩ : ∃ w2, w2 = w1.alloc (.cells #[.slice none 0 0] 60) := ⟨_, rfl⟩
  have b2 : Below w1.heap.size w1 w2 := by rw [hw2]; exact al_below _ _
  have st2 : ST w2 (w.heap.size + 3) (w.heap.size + 1) (.slice none 0 0) [] := by rw [hw2, ← HS1.out]; exact st_new w1 _
  have hz2 : w2.heap.size = w.heap.size + 2 := by rw [hw2]; simp [HS1.out]
  rw [← hw2, HS1.out] at cn1
  clear hw2
  obtain ⟨w3, hw3⟩ : ∃ w3, w3 = w2.alloc (.cells #[.slice none 0 0] 30) := ⟨_, rfl⟩
  have b3 : Below w2.heap.size w2 w3 := by rw [hw3]; exact al_below _ _
  have HB3 : Hid (Below w.heap.size w w3) := HB1.out.trans ((b2.trans (b3.mono b2.size)).mono HB1.out.size)
  have HA3 : Hid (w3.heap[w.heap.size]? = some (.cells #[.int .u8 k, .int .i64 f, .int .i64 t] 24 (0, 0))) := blk_kept (blk_kept HA1.out b2 (blk_lt HA1.out)) b3 (by omega)
  have HD3 : Hid (DB w3 (w.heap.size + 3) (w.heap.size + 1) (w.heap.size + 2) (.slice none 0 0) (.slice none 0 0) []) := db_new (st2.below b3) (by rw [hw3, ← hz2]; exact heap_alloc_new w2 _) (by omega) (by omega)
  have HZ3 : Hid (w.heap.size + 3 ≤ w3.heap.size) := by unfold Hid; rw [hw3]; simp; omega
  have HQ : Hid (CQ w (.slice a0 L.length c0) L) := h0
  have HA0 : Hid (doL (L.take 0) [] = []) := rfl
  have HLN : Hid (∀ j, (doL (L.take j) []).length ≤ 120) := fun j => by
    have q := (doL_spec (L.take j) [] Canon.nil).2
    rw [List.length_take] at q
    simp only [List.length_nil] at q
    omega
  have HST : Hid (∀ j, j < L.length → doL (L.take (j + 1)) [] = doP (doL (L.take j) []) (atK L j)) := fun j hj => by rw [takeK hj, doL_snoc]
  have HOK : Hid (∀ j, j < L.length → okC (atK L j)) := fun j hj => h0.ok _ (by rw [atK_eq L j hj]; exact List.getElem_mem hj)
  have HFA : Hid (doL (L.take L.length) [] = doL L []) := by unfold Hid; rw [List.take_length]
  have HOY : Hid (Okk (f, t)) := ⟨by simp only; omega, by simp only; omega, by simp only; omega⟩
  clear hw h0 b2 b3 st2 hwp
  generalize hFA : (fun j => doL (L.take j) []) = FA at *
  have HFA' : Hid (∀ j, doL (L.take j) [] = FA j) := fun j => by rw [← hFA]
  clear hFA
  simp only [HFA'.out] at HA0 HLN HST HFA
  clear HFA'
  generalize doL L [] = Z at *
  obtain ⟨n, hn⟩ : ∃ n, n = L.length := ⟨_, rfl⟩
  have HN : Hid (n = L.length) := hn
  rw [← hn] at t0 HQ HST HOK HFA h60 ⊢
  clear hn
  go_enter Tryd.func7, Tryd.ntmps7
  go_wp2_with fail
  rw [← hw1]
  clear hw1
  go_wp2_with fail
  refine cn1.mono ?_
  rintro e wq ⟨rfl, eq⟩
  rw [eq]
  clear cn1 eq wq
  go_wp2_with fail
  rw [← hw3]
  clear hw3 hz2 kf kt
  go_loopw [7] (fun s7 wr => ∃ (j : Nat) (va ua : Value), j ≤ n ∧ s7 = .int .i64 j ∧ DB wr (w.heap.size + 3) (w.heap.size + 1) (w.heap.size + 2) va ua (FA j) ∧ Below w.heap.size w wr ∧ w.heap.size + 3 ≤ wr.heap.size ∧ wr.heap[w.heap.size]? = some (.cells #[.int .u8 k, .int .i64 f, .int .i64 t] 24 (0, 0))) (fun s7 _ => n - (intOf s7).toNat)
  case atStart => exact ⟨0, _, _, by omega, rfl, by rw [HA0.out]; exact HD3.out, HB3.out, HZ3.out, HA3.out⟩
  case round =>
    obtain ⟨j, va, ua, hj, rfl, db, bel, hz, ha⟩ := hrel
    have HB : Hid (Below w.heap.size w wr) := bel
    have HD : Hid (DB wr (w.heap.size + 3) (w.heap.size + 1) (w.heap.size + 2) va ua (FA j)) := db
    have HA : Hid (wr.heap[w.heap.size]? = some (.cells #[.int .u8 k, .int .i64 f, .int .i64 t] 24 (0, 0))) := ha
    have HZ : Hid (w.heap.size + 3 ≤ wr.heap.size) := hz
    clear bel db ha hz
    by_cases hjn : j < n
    · have lt2 : (j : Int) < (n : Int) := by omega
      obtain ⟨b, off, rfl, -, -, -⟩ := HQ.out.at j (by rw [← HN.out]; exact hjn)
      have FR : Hid (∀ x, Below w.heap.size w x → x.cell? ⟨b, off + j * 3, none⟩ = some (.int .u8 (atK L j).1) ∧ x.cell? ⟨b, off + j * 3 + 1, none⟩ = some (.int .i64 (atK L j).2.1) ∧ x.cell? ⟨b, off + j * 3 + 2, none⟩ = some (.int .i64 (atK L j).2.2)) := fun x hx => by
        obtain ⟨b', off', e', k1, k2, k3⟩ := (HQ.out.kept hx).at j (by rw [← HN.out]; exact hjn)
        cases e'
        exact ⟨k1, k2, k3⟩
      have HX : Hid (okC (atK L j)) := HOK.out j hjn
      have HR : Hid (FA (j + 1) = doP (FA j) (atK L j)) := HST.out j hjn
      have HL : Hid ((FA j).length ≤ 900) := Nat.le_trans (HLN.out j) (by omega)
      generalize atK L j = x at *
      go_upto_region 7 with fail
      refine wp_region_held_drew (S := From w) (by kernel_rfl) (Below.drew (HB.out)) (fun _ => ?_)
      refine wpAnyH_name (fun u0 hu0 => ?_)
      have bu0 : Below w.heap.size w u0 := by rw [hu0.out]; exact Below.drew (HB.out)
      have Du0 : DB u0 (w.heap.size + 3) (w.heap.size + 1) (w.heap.size + 2) va ua (FA j) := by rw [hu0.out]; exact HD.out.below ((Below.refl _ _).drew)
      have Au0 : u0.heap[w.heap.size]? = some (.cells #[.int .u8 k, .int .i64 f, .int .i64 t] 24 (0, 0)) := by rw [hu0.out]; exact HA.out
      have Zu0 : w.heap.size + 3 ≤ u0.heap.size := by rw [hu0.out]; exact HZ.out
      refine wpAnyH_take (i := 0) (oi := { dst := some 41, op := Op.move (Operand.tmp 5), type := 26, pos := "own.go:59", after := #[], guard := none }) (v := ?vr1) rfl (by kernel_rfl) (by kernel_rfl) (by kernel_rfl) (fun _ _ _ h => h) (Or.inl ⟨by rfl, ?yr1⟩) bu0 ?rr1
      case yr1 => (intro w hSw; go_simp; try with_reducible rfl)
      try simp only [Act.put, List.setIfInBounds_toArray, List.set_cons_zero, List.set_cons_succ]
      refine wpAnyH_take (i := 2) (oi := { dst := some 43, op := Op.move (Operand.tmp 0), type := 22, pos := "own.go:59", after := #[], guard := none }) (v := ?vr2) rfl (by kernel_rfl) (by kernel_rfl) (by kernel_rfl) (fun _ _ _ h => h) (Or.inl ⟨by rfl, ?yr2⟩) bu0 ?rr2
      case yr2 => (intro w hSw; go_simp; try with_reducible rfl)
      try simp only [Act.put, List.setIfInBounds_toArray, List.set_cons_zero, List.set_cons_succ]
      refine wpAnyH_take (i := 3) (oi := { dst := some 44, op := Op.move (Operand.tmp 7), type := 3, pos := "own.go:59", after := #[], guard := none }) (v := ?vr3) rfl (by kernel_rfl) (by kernel_rfl) (by kernel_rfl) (fun _ _ _ h => h) (Or.inl ⟨by rfl, ?yr3⟩) bu0 ?rr3
      case yr3 => (intro w hSw; go_simp; try with_reducible rfl)
      try simp only [Act.put, List.setIfInBounds_toArray, List.set_cons_zero, List.set_cons_succ]
      refine wpAnyH_take (i := 4) (oi := { dst := some 45, op := Op.indexAddr 22 (Operand.tmp 43) (Operand.tmp 44), type := 0, pos := "own.go:59", after := #[{ on := 2, ground := Ground.data }, { on := 3, ground := Ground.data }], guard := none }) (v := ?vr4) rfl (by kernel_rfl) (by kernel_rfl) (by kernel_rfl) (fun _ _ _ h => h) (Or.inl ⟨by rfl, ?yr4⟩) bu0 ?rr4
      case yr4 => (intro w hSw; go_simp; try with_reducible rfl)
      try simp only [Act.put, List.setIfInBounds_toArray, List.set_cons_zero, List.set_cons_succ]
      refine wpAnyH_take (i := 5) (oi := { dst := some 46, op := Op.load 24 (Operand.tmp 45), type := 24, pos := "own.go:59", after := #[{ on := 4, ground := Ground.data }], guard := none }) (v := .agg #[.int .u8 x.1, .int .i64 x.2.1, .int .i64 x.2.2]) rfl (by kernel_rfl) (by kernel_rfl) (by kernel_rfl) (fun _ _ _ h => h) (Or.inl ⟨by rfl, ?yr5⟩) bu0 ?rr5
      case yr5 => (intro w hSw; have t0 := (FR.out w hSw).1; have t1 := (FR.out w hSw).2.1; have t2 := (FR.out w hSw).2.2; go_simp; try with_reducible rfl)
      try simp only [Act.put, List.setIfInBounds_toArray, List.set_cons_zero, List.set_cons_succ]
      refine wpAnyH_ready (rs := [1]) (by kernel_rfl) (by simp) ?_
      refine AllReadyH.cons (o := { dst := some 42, op := Op.load 30 (Operand.tmp 6), type := 30, pos := "own.go:59", after := #[], guard := none }) rfl (fun KK hKK => ?_) ?_
      · have cau6 := Du0.cell
        go_simp
        refine hKK.out _ _ (bu0) (fun _ => ?_)
        clear hKK KK
        try simp only [Act.put, List.setIfInBounds_toArray, List.set_cons_zero, List.set_cons_succ]
        refine wpAnyH_name (fun u6 hu6 => ?_)
        have bu6 : Below w.heap.size w u6 := by rw [hu6.out]; exact (bu0)
        have Du6 : DB u6 (w.heap.size + 3) (w.heap.size + 1) (w.heap.size + 2) va ua (FA j) := by rw [hu6.out]; exact Du0
        have Au6 : u6.heap[w.heap.size]? = some (.cells #[.int .u8 k, .int .i64 f, .int .i64 t] 24 (0, 0)) := by rw [hu6.out]; exact Au0
        have Zu6 : w.heap.size + 3 ≤ u6.heap.size := by rw [hu6.out]; exact Zu0
        refine wpAnyH_ready (rs := [6]) (by kernel_rfl) (by simp) ?_
        refine AllReadyH.cons (o := { dst := some 47, op := Op.call { callee := Callee.value (Operand.func 10), args := #[Operand.tmp 41, Operand.tmp 42, Operand.tmp 46], argTypes := #[26, 30, 24] }, type := 31, pos := "own.go:59", after := #[{ on := 0, ground := Ground.data }, { on := 1, ground := Ground.data }, { on := 5, ground := Ground.data }], guard := none }) rfl (fun KK hKK => ?_) ?_
        · go_simp
          refine (do_any u6 _ _ _ _ _ _ Du6.dd HL.out Zu6 HX.out).mono ?_
          rintro e u7' ⟨uuu7, vvu7, rfl, du7, su7, ru7⟩
          obtain ⟨uxu7, uyu7, rfl, -, -, -⟩ := du7.sp.shape
          (try go_wp2_with fail)
          refine hKK.out _ _ (su_below su7 bu6 (by have := Zu6; omega) (by omega) (fun k e => by have := Du6.own k e; omega)) (fun _ => ?_)
          clear hKK KK
          try simp only [Act.put, List.setIfInBounds_toArray, List.set_cons_zero, List.set_cons_succ]
          refine wpAnyH_name (fun u7 hu7 => ?_)
          have bu7 : Below w.heap.size w u7 := by rw [hu7.out]; exact (su_below su7 bu6 (by have := Zu6; omega) (by omega) (fun k e => by have := Du6.own k e; omega))
          rw [← hu7.out] at du7 su7
          have Au7 : u7.heap[w.heap.size]? = some (.cells #[.int .u8 k, .int .i64 f, .int .i64 t] 24 (0, 0)) := (su7.block _ (by have := Zu6; omega) (by omega) (fun e => by have := Du6.own _ e; omega)).trans Au6
          have Zu7 : w.heap.size + 3 ≤ u7.heap.size := Nat.le_trans Zu6 su7.size
          have DDu7 := db_do Du6 du7 su7 ru7 Zu6
          have cau7 : u7.cell? ⟨w.heap.size + 2, 0, none⟩ = some ua := by have := DDu7.1; simp [World.cell?, this]
          have cbu7 : u7.frozen? ⟨w.heap.size + 2, 0, none⟩ = false := by have := DDu7.1; simp [World.frozen?, this]
          refine wpAnyH_take (i := 7) (oi := { dst := some 40, op := Op.move (Operand.tmp 47), type := 31, pos := "own.go:59", after := #[{ on := 6, ground := Ground.data }], guard := none }) (v := ?vr8) rfl (by kernel_rfl) (by kernel_rfl) (by kernel_rfl) (fun _ _ _ h => h) (Or.inl ⟨by rfl, ?yr8⟩) bu7 ?rr8
          case yr8 => (intro w hSw; go_simp; try with_reducible rfl)
          try simp only [Act.put, List.setIfInBounds_toArray, List.set_cons_zero, List.set_cons_succ]
          refine wpAnyH_take (i := 8) (oi := { dst := some 48, op := Op.extract (Operand.tmp 40) 0, type := 30, pos := "own.go:59", after := #[{ on := 7, ground := Ground.data }], guard := none }) (v := ?vr9) rfl (by kernel_rfl) (by kernel_rfl) (by kernel_rfl) (fun _ _ _ h => h) (Or.inl ⟨by rfl, ?yr9⟩) bu7 ?rr9
          case yr9 => (intro w hSw; go_simp; try with_reducible rfl)
          try simp only [Act.put, List.setIfInBounds_toArray, List.set_cons_zero, List.set_cons_succ]
          refine wpAnyH_take (i := 9) (oi := { dst := some 49, op := Op.extract (Operand.tmp 40) 1, type := 4, pos := "own.go:59", after := #[{ on := 7, ground := Ground.data }, { on := 10, ground := Ground.gcOnly Departure.lateStores }], guard := none }) (v := ?vr10) rfl (by kernel_rfl) (by kernel_rfl) (by kernel_rfl) (fun _ _ _ h => h) (Or.inl ⟨by rfl, ?yr10⟩) bu7 ?rr10
          case yr10 => (intro w hSw; go_simp; try with_reducible rfl)
          try simp only [Act.put, List.setIfInBounds_toArray, List.set_cons_zero, List.set_cons_succ]
          refine wpAnyH_ready (rs := [10]) (by kernel_rfl) (by simp) ?_
          refine AllReadyH.cons (o := { dst := none, op := Op.store 30 (Operand.tmp 6) (Operand.tmp 48), type := 0, pos := "own.go:59", after := #[{ on := 8, ground := Ground.data }, { on := 6, ground := Ground.chain }, { on := 0, ground := Ground.phase }, { on := 1, ground := Ground.phase }, { on := 2, ground := Ground.phase }, { on := 3, ground := Ground.phase }, { on := 4, ground := Ground.phase }, { on := 5, ground := Ground.phase }, { on := 6, ground := Ground.phase }, { on := 7, ground := Ground.phase }, { on := 8, ground := Ground.phase }, { on := 9, ground := Ground.textOnly Departure.lateStores }], guard := none }) rfl (fun KK hKK => ?_) ?_
          · go_simp
            refine hKK.out _ _ (bu7.setCell (Nat.le_add_right w.heap.size 2) _) (fun _ => ?_)
            clear hKK KK
            try simp only [Act.put]
            refine wpAnyH_name (fun u11 hu11 => ?_)
            have bu11 : Below w.heap.size w u11 := by rw [hu11.out]; exact (bu7.setCell (Nat.le_add_right w.heap.size 2) _)
            have Du11 : DB u11 (w.heap.size + 3) (w.heap.size + 1) (w.heap.size + 2) vvu7 (.slice uxu7 (doP (FA j) x).length uyu7) (FA (j + 1)) := by rw [hu11.out, HR.out]; exact DDu7.2
            have Au11 : u11.heap[w.heap.size]? = some (.cells #[.int .u8 k, .int .i64 f, .int .i64 t] 24 (0, 0)) := by rw [hu11.out, Below.heap_setCell _ _ _ _ (show w.heap.size ≠ w.heap.size + 2 by omega)]; exact Au7
            have Zu11 : w.heap.size + 3 ≤ u11.heap.size := by rw [hu11.out]; simp only [World.setCell, Array.size_modify]; exact Zu7
            refine wpAnyH_done (by kernel_rfl) ?_ _
            have H1 : Hid (DB u11 (w.heap.size + 3) (w.heap.size + 1) (w.heap.size + 2) vvu7 (.slice uxu7 (doP (FA j) x).length uyu7) (FA (j + 1))) := Du11
            have H2 := bu11
            have HB9 : Hid (Below w.heap.size w u11) := H2
            have HA9 : Hid (u11.heap[w.heap.size]? = some (.cells #[.int .u8 k, .int .i64 f, .int .i64 t] 24 (0, 0))) := Au11
            have HZ9 : Hid (w.heap.size + 3 ≤ u11.heap.size) := Zu11
            go_wp2
            go_roundw
            case rel => exact ⟨j + 1, _, _, by omega, by go_num, H1.out, HB9.out, HZ9.out, HA9.out⟩
            case measure => simp [intOf]; omega
          exact AllReadyH.nil
        exact AllReadyH.nil
      exact AllReadyH.nil
    · obtain rfl : j = n := by omega
      have lt2 : ¬ (j : Int) < (j : Int) := by omega
      have HDZ : Hid (DB wr (w.heap.size + 3) (w.heap.size + 1) (w.heap.size + 2) va ua Z) := by unfold Hid; rw [← HFA.out]; exact HD.out
      have HZL : Hid (Z.length ≤ 120 ∧ Canon Z) := ⟨by rw [← HFA.out]; exact HLN.out j, HDZ.out.dd.st.cn⟩
      have kf : wr.cell? ⟨w.heap.size, 1, none⟩ = some (.int .i64 f) := by have := HA.out; simp [World.cell?, this]
      have kt : wr.cell? ⟨w.heap.size, 2, none⟩ = some (.int .i64 t) := by have := HA.out; simp [World.cell?, this]
      have cg := gaps_any wr (some ⟨w.heap.size + 1, 0, none⟩) f t (clip Z f t) (fun _ => HDZ.out.dd.st.sq hft)
      have eG : (if ((some (⟨w.heap.size + 1, 0, none⟩ : Addr)).isSome = true ∧ may f t = true) then gap t f (clip Z f t) else []) = gapL Z f t := by unfold gapL; simp
      rw [eG] at cg
      clear eG HFA HD HST HOK HQ HLN HD3 HA3 HB3 HZ3 HA0
      have HGL : Hid ((gapL Z f t).length ≤ 121 ∧ (gapL Z f t).length < 4294967296) := by have := gapL_len Z f t; have := HZL.out.1; constructor <;> omega
      have HSG : Hid (∀ i, i < (gapL Z f t).length → rmN (gpS ((gapL Z f t).take i) Z) (atS (gapL Z f t) i).1 (atS (gapL Z f t) i).2 = 0 ∧ rmP (gpS ((gapL Z f t).take i) Z) (atS (gapL Z f t) i).1 (atS (gapL Z f t) i).2 = gpS ((gapL Z f t).take i) Z ∧
        adB (gpS ((gapL Z f t).take i) Z) (atS (gapL Z f t) i).1 (atS (gapL Z f t) i).2 = true ∧ adP (gpS ((gapL Z f t).take i) Z) (atS (gapL Z f t) i).1 (atS (gapL Z f t) i).2 = gpS ((gapL Z f t).take (i + 1)) Z) := fun i hi => gp_step HZL.out.2 HOY.out hi
      have HFE : Hid (gapL (gpS ((gapL Z f t).take (gapL Z f t).length) Z) f t = [] ∧ 0 < cnt (clip (gpS ((gapL Z f t).take (gapL Z f t).length) Z) f f) ∧ 0 < cnt (clip (gpS ((gapL Z f t).take (gapL Z f t).length) Z) t t)) := by unfold Hid; rw [List.take_length]; exact gp_end HZL.out.2 HOY.out
      have HF0 : Hid (gpS ((gapL Z f t).take 0) Z = Z) := rfl
      have HFL : Hid (∀ i, (gpS ((gapL Z f t).take i) Z).length ≤ 241) := fun i => by
        have g1 := (gapL_spec HZL.out.2 HOY.out).1
        have := (gpS_spec ((gapL Z f t).take i) Z HZL.out.2 (fun y hy => g1.1 y (List.mem_of_mem_take hy))).2.1
        have h1 := HZL.out.1
        have h2 := HGL.out.1
        rw [List.length_take] at this
        omega
      generalize gapL Z f t = G at *
      generalize hFS : (fun i => gpS (G.take i) Z) = FS at *
      have HFS : Hid (∀ i, gpS (G.take i) Z = FS i) := fun i => by rw [← hFS]
      clear hFS
      simp only [HFS.out] at HSG HFE HF0 HFL
      clear HFS
      go_wp2_with fail
      refine cg.mono ?_
      rintro e w5 ⟨gv, rfl, r5, b5⟩
      obtain ⟨ga, gc, rfl, -, -, -⟩ := r5.is.shape
      have HG5 : Hid (SSp w5 (.slice ga G.length gc) G) := r5.is
      have HB5 : Hid (Below w.heap.size w w5) := HB.out.trans (b5.mono HB.out.size)
      have HA5 : Hid (w5.heap[w.heap.size]? = some (.cells #[.int .u8 k, .int .i64 f, .int .i64 t] 24 (0, 0))) := blk_kept HA.out b5 (blk_lt HA.out)
      have cf := fork_any w5 (w.heap.size + 3) (w.heap.size + 1) va Z (HDZ.out.dd.st.below b5)
      have HW5 : Hid (w.heap.size < w5.heap.size) := by have := HZ.out; have := b5.size; unfold Hid; omega
      clear cg r5 b5 HA HZ HDZ kf kt HB
      obtain ⟨m, hm⟩ : ∃ m, m = G.length := ⟨_, rfl⟩
      have HM : Hid (m = G.length) := hm
      rw [← hm] at HG5 HGL HSG HFE ⊢
      clear hm
      have hm121 : m ≤ 121 := HGL.out.1
      go_wp2_with fail
      refine cf.mono ?_
      rintro e w6 ⟨g2, v2, rfl, hg2, s6, b6⟩
      have HS6 : Hid (ST w6 w5.heap.size g2 v2 Z) := s6
      have HB6 : Hid (Below w5.heap.size w5 w6) := b6
      have HG2 : Hid (w5.heap.size ≤ g2) := hg2
      clear cf s6 b6 hg2
      go_wp2
      go_loopw [10] (fun s10 wx => ∃ (i : Nat) (vf : Value), i ≤ m ∧ s10 = .int .i64 i ∧ ST wx w5.heap.size g2 vf (FS i) ∧ Below w5.heap.size w5 wx) (fun s10 _ => m - (intOf s10).toNat)
      case atStart => exact ⟨0, _, by omega, rfl, by rw [HF0.out]; exact HS6.out, HB6.out⟩
      case round =>
        obtain ⟨i, vf, hi, rfl, sf, bx⟩ := hrel
        have HSF : Hid (ST wr w5.heap.size g2 vf (FS i)) := sf
        have HBX : Hid (Below w5.heap.size w5 wr) := bx
        clear sf bx
        by_cases him : i < m
        · have lt3 : (i : Int) < (m : Int) := by omega
          obtain ⟨b, off, rfl, -⟩ := HG5.out.at i (by rw [← HM.out]; exact him)
          have FR : Hid (∀ x, Below w5.heap.size w5 x → x.cell? ⟨b, off + i * 2, none⟩ = some (.int .i64 (atS G i).1) ∧ x.cell? ⟨b, off + i * 2 + 1, none⟩ = some (.int .i64 (atS G i).2)) := fun x hx => by
            obtain ⟨b', off', e', hr⟩ := (HG5.out.kept hx).at i (by rw [← HM.out]; exact him)
            cases e'
            exact ⟨hr 0 _ rfl, hr 1 _ rfl⟩
          obtain ⟨q1, q2, q3, q4⟩ := HSG.out i him
          have CR : Hid (∀ W v, ST W w5.heap.size g2 v (FS i) → w5.heap.size ≤ W.heap.size → Calls Tryd.prog 15 #[.pointer (some ⟨g2, 0, none⟩), .int .i64 (atS G i).1, .int .i64 (atS G i).2] W fun e W' => e = .returned (.int .i64 0) ∧ ∃ v', ST W' w5.heap.size g2 v' (FS i) ∧ SU W W' g2 v v') := fun W v hs hz => by
            have := rem_any W w5.heap.size g2 v (FS i) (atS G i).1 (atS G i).2 hs (by have := HFL.out i; omega) hz
            rw [q1, q2] at this
            exact this
          have CA : Hid (∀ W v, ST W w5.heap.size g2 v (FS i) → w5.heap.size ≤ W.heap.size → Calls Tryd.prog 14 #[.pointer (some ⟨g2, 0, none⟩), .int .i64 (atS G i).1, .int .i64 (atS G i).2] W fun e W' => e = .returned (.bool true) ∧ ∃ v', ST W' w5.heap.size g2 v' (FS (i + 1)) ∧ SU W W' g2 v v') := fun W v hs hz => by
            have := add_any W w5.heap.size g2 v (FS i) (atS G i).1 (atS G i).2 hs (by have := HFL.out i; omega) hz
            rw [q3, q4] at this
            exact this
          clear q1 q2 q3 q4
          generalize atS G i = x at *
          go_upto_region 13 with fail
          refine wp_region_held_drew (S := From w5) (by kernel_rfl) (Below.drew (HBX.out)) (fun _ => ?_)
          refine wpAnyH_name (fun u0 hu0 => ?_)
          have bu0 : Below w5.heap.size w5 u0 := by rw [hu0.out]; exact Below.drew (HBX.out)
          have Su0 : ST u0 w5.heap.size g2 vf (FS i) := by rw [hu0.out]; exact HSF.out.below ((Below.refl _ _).drew)
          refine wpAnyH_take (i := 0) (oi := { dst := some 64, op := Op.move (Operand.tmp 9), type := 26, pos := "own.go:64", after := #[], guard := none }) (v := ?vs1) rfl (by kernel_rfl) (by kernel_rfl) (by kernel_rfl) (fun _ _ _ h => h) (Or.inl ⟨by rfl, ?ys1⟩) bu0 ?rs1
          case ys1 => (intro w hSw; go_simp; try with_reducible rfl)
          try simp only [Act.put, List.setIfInBounds_toArray, List.set_cons_zero, List.set_cons_succ]
          refine wpAnyH_take (i := 1) (oi := { dst := some 65, op := Op.move (Operand.tmp 8), type := 28, pos := "own.go:64", after := #[], guard := none }) (v := ?vs2) rfl (by kernel_rfl) (by kernel_rfl) (by kernel_rfl) (fun _ _ _ h => h) (Or.inl ⟨by rfl, ?ys2⟩) bu0 ?rs2
          case ys2 => (intro w hSw; go_simp; try with_reducible rfl)
          try simp only [Act.put, List.setIfInBounds_toArray, List.set_cons_zero, List.set_cons_succ]
          refine wpAnyH_take (i := 2) (oi := { dst := some 66, op := Op.move (Operand.tmp 10), type := 3, pos := "own.go:64", after := #[], guard := none }) (v := ?vs3) rfl (by kernel_rfl) (by kernel_rfl) (by kernel_rfl) (fun _ _ _ h => h) (Or.inl ⟨by rfl, ?ys3⟩) bu0 ?rs3
          case ys3 => (intro w hSw; go_simp; try with_reducible rfl)
          try simp only [Act.put, List.setIfInBounds_toArray, List.set_cons_zero, List.set_cons_succ]
          refine wpAnyH_take (i := 3) (oi := { dst := some 67, op := Op.indexAddr 28 (Operand.tmp 65) (Operand.tmp 66), type := 0, pos := "own.go:64", after := #[{ on := 1, ground := Ground.data }, { on := 2, ground := Ground.data }], guard := none }) (v := ?vs4) rfl (by kernel_rfl) (by kernel_rfl) (by kernel_rfl) (fun _ _ _ h => h) (Or.inl ⟨by rfl, ?ys4⟩) bu0 ?rs4
          case ys4 => (intro w hSw; go_simp; try with_reducible rfl)
          try simp only [Act.put, List.setIfInBounds_toArray, List.set_cons_zero, List.set_cons_succ]
          refine wpAnyH_take (i := 4) (oi := { dst := some 68, op := Op.fieldAddr 58 (Operand.tmp 67) 0, type := 0, pos := "own.go:64", after := #[{ on := 3, ground := Ground.data }], guard := none }) (v := ?vs5) rfl (by kernel_rfl) (by kernel_rfl) (by kernel_rfl) (fun _ _ _ h => h) (Or.inl ⟨by rfl, ?ys5⟩) bu0 ?rs5
          case ys5 => (intro w hSw; go_simp; try with_reducible rfl)
          try simp only [Act.put, List.setIfInBounds_toArray, List.set_cons_zero, List.set_cons_succ]
          refine wpAnyH_take (i := 5) (oi := { dst := some 69, op := Op.load 3 (Operand.tmp 68), type := 3, pos := "own.go:64", after := #[{ on := 4, ground := Ground.data }], guard := none }) (v := .int .i64 x.1) rfl (by kernel_rfl) (by kernel_rfl) (by kernel_rfl) (fun _ _ _ h => h) (Or.inl ⟨by rfl, ?ys6⟩) bu0 ?rs6
          case ys6 => (intro w hSw; have t0 := (FR.out w hSw).1; have t1 := (FR.out w hSw).2; go_simp; try with_reducible rfl)
          try simp only [Act.put, List.setIfInBounds_toArray, List.set_cons_zero, List.set_cons_succ]
          refine wpAnyH_take (i := 6) (oi := { dst := some 70, op := Op.move (Operand.tmp 8), type := 28, pos := "own.go:64", after := #[], guard := none }) (v := ?vs7) rfl (by kernel_rfl) (by kernel_rfl) (by kernel_rfl) (fun _ _ _ h => h) (Or.inl ⟨by rfl, ?ys7⟩) bu0 ?rs7
          case ys7 => (intro w hSw; go_simp; try with_reducible rfl)
          try simp only [Act.put, List.setIfInBounds_toArray, List.set_cons_zero, List.set_cons_succ]
          refine wpAnyH_take (i := 7) (oi := { dst := some 71, op := Op.move (Operand.tmp 10), type := 3, pos := "own.go:64", after := #[], guard := none }) (v := ?vs8) rfl (by kernel_rfl) (by kernel_rfl) (by kernel_rfl) (fun _ _ _ h => h) (Or.inl ⟨by rfl, ?ys8⟩) bu0 ?rs8
          case ys8 => (intro w hSw; go_simp; try with_reducible rfl)
          try simp only [Act.put, List.setIfInBounds_toArray, List.set_cons_zero, List.set_cons_succ]
          refine wpAnyH_take (i := 8) (oi := { dst := some 72, op := Op.indexAddr 28 (Operand.tmp 70) (Operand.tmp 71), type := 0, pos := "own.go:64", after := #[{ on := 6, ground := Ground.data }, { on := 7, ground := Ground.data }], guard := none }) (v := ?vs9) rfl (by kernel_rfl) (by kernel_rfl) (by kernel_rfl) (fun _ _ _ h => h) (Or.inl ⟨by rfl, ?ys9⟩) bu0 ?rs9
          case ys9 => (intro w hSw; go_simp; try with_reducible rfl)
          try simp only [Act.put, List.setIfInBounds_toArray, List.set_cons_zero, List.set_cons_succ]
          refine wpAnyH_take (i := 9) (oi := { dst := some 73, op := Op.fieldAddr 58 (Operand.tmp 72) 1, type := 0, pos := "own.go:64", after := #[{ on := 8, ground := Ground.data }], guard := none }) (v := ?vs10) rfl (by kernel_rfl) (by kernel_rfl) (by kernel_rfl) (fun _ _ _ h => h) (Or.inl ⟨by rfl, ?ys10⟩) bu0 ?rs10
          case ys10 => (intro w hSw; go_simp; try with_reducible rfl)
          try simp only [Act.put, List.setIfInBounds_toArray, List.set_cons_zero, List.set_cons_succ]
          refine wpAnyH_take (i := 10) (oi := { dst := some 74, op := Op.load 3 (Operand.tmp 73), type := 3, pos := "own.go:64", after := #[{ on := 9, ground := Ground.data }], guard := none }) (v := .int .i64 x.2) rfl (by kernel_rfl) (by kernel_rfl) (by kernel_rfl) (fun _ _ _ h => h) (Or.inl ⟨by rfl, ?ys11⟩) bu0 ?rs11
          case ys11 => (intro w hSw; have t0 := (FR.out w hSw).1; have t1 := (FR.out w hSw).2; go_simp; try with_reducible rfl)
          try simp only [Act.put, List.setIfInBounds_toArray, List.set_cons_zero, List.set_cons_succ]
          refine wpAnyH_ready (rs := [11]) (by kernel_rfl) (by simp) ?_
          refine AllReadyH.cons (o := { dst := some 75, op := Op.call { callee := Callee.value (Operand.func 15), args := #[Operand.tmp 64, Operand.tmp 69, Operand.tmp 74], argTypes := #[26, 3, 3] }, type := 3, pos := "own.go:64", after := #[{ on := 0, ground := Ground.data }, { on := 5, ground := Ground.data }, { on := 10, ground := Ground.data }], guard := none }) rfl (fun KK hKK => ?_) ?_
          · go_simp
            refine (CR.out u0 _ Su0 bu0.size).mono ?_
            rintro e u12' ⟨rfl, vvu12, tu12, qu12⟩
            (try go_wp2_with fail)
            refine hKK.out _ _ (su_below qu12 bu0 bu0.size HG2.out (own_base Su0.rs.1)) (fun _ => ?_)
            clear hKK KK
            try simp only [Act.put, List.setIfInBounds_toArray, List.set_cons_zero, List.set_cons_succ]
            refine wpAnyH_name (fun u12 hu12 => ?_)
            have bu12 : Below w5.heap.size w5 u12 := by rw [hu12.out]; exact (su_below qu12 bu0 bu0.size HG2.out (own_base Su0.rs.1))
            rw [← hu12.out] at tu12 qu12
            have Su12 : ST u12 w5.heap.size g2 vvu12 (FS i) := tu12
            refine wpAnyH_take (i := 12) (oi := { dst := some 76, op := Op.binOp BinOp.neq 3 (Operand.tmp 75) (Operand.const (Value.int IntKind.i64 0)) 3, type := 4, pos := "own.go:64", after := #[{ on := 11, ground := Ground.data }], guard := none }) (v := .bool false) rfl (by kernel_rfl) (by kernel_rfl) (by kernel_rfl) (fun _ _ _ h => h) (Or.inl ⟨by rfl, ?ys13⟩) bu12 ?rs13
            case ys13 => (intro w hSw; go_simp; try with_reducible rfl)
            try simp only [Act.put, List.setIfInBounds_toArray, List.set_cons_zero, List.set_cons_succ]
            refine wpAnyH_take (i := 13) (oi := { dst := some 77, op := Op.move (Operand.tmp 76), type := 4, pos := "own.go:64", after := #[{ on := 12, ground := Ground.data }, { on := 11, ground := Ground.chain }], guard := none }) (v := .bool false) rfl (by kernel_rfl) (by kernel_rfl) (by kernel_rfl) (fun _ _ _ h => h) (Or.inl ⟨by rfl, ?ys14⟩) bu12 ?rs14
            case ys14 => (intro w hSw; go_simp; try with_reducible rfl)
            try simp only [Act.put, List.setIfInBounds_toArray, List.set_cons_zero, List.set_cons_succ]
            refine wpAnyH_take (i := 14) (oi := { dst := some 78, op := Op.move (Operand.tmp 9), type := 26, pos := "own.go:64", after := #[{ on := 13, ground := Ground.guard }], guard := some (13, false) }) (v := ?vs15) rfl (by kernel_rfl) (by kernel_rfl) (by kernel_rfl) (fun _ _ _ h => h) (Or.inl ⟨by rfl, ?ys15⟩) bu12 ?rs15
            case ys15 => (intro w hSw; go_simp; try with_reducible rfl)
            try simp only [Act.put, List.setIfInBounds_toArray, List.set_cons_zero, List.set_cons_succ]
            refine wpAnyH_take (i := 15) (oi := { dst := some 79, op := Op.move (Operand.tmp 8), type := 28, pos := "own.go:64", after := #[{ on := 13, ground := Ground.guard }], guard := some (13, false) }) (v := ?vs16) rfl (by kernel_rfl) (by kernel_rfl) (by kernel_rfl) (fun _ _ _ h => h) (Or.inl ⟨by rfl, ?ys16⟩) bu12 ?rs16
            case ys16 => (intro w hSw; go_simp; try with_reducible rfl)
            try simp only [Act.put, List.setIfInBounds_toArray, List.set_cons_zero, List.set_cons_succ]
            refine wpAnyH_take (i := 16) (oi := { dst := some 80, op := Op.move (Operand.tmp 10), type := 3, pos := "own.go:64", after := #[{ on := 13, ground := Ground.guard }], guard := some (13, false) }) (v := ?vs17) rfl (by kernel_rfl) (by kernel_rfl) (by kernel_rfl) (fun _ _ _ h => h) (Or.inl ⟨by rfl, ?ys17⟩) bu12 ?rs17
            case ys17 => (intro w hSw; go_simp; try with_reducible rfl)
            try simp only [Act.put, List.setIfInBounds_toArray, List.set_cons_zero, List.set_cons_succ]
            refine wpAnyH_take (i := 17) (oi := { dst := some 81, op := Op.indexAddr 28 (Operand.tmp 79) (Operand.tmp 80), type := 0, pos := "own.go:64", after := #[{ on := 15, ground := Ground.data }, { on := 16, ground := Ground.data }, { on := 13, ground := Ground.guard }], guard := some (13, false) }) (v := ?vs18) rfl (by kernel_rfl) (by kernel_rfl) (by kernel_rfl) (fun _ _ _ h => h) (Or.inl ⟨by rfl, ?ys18⟩) bu12 ?rs18
            case ys18 => (intro w hSw; go_simp; try with_reducible rfl)
            try simp only [Act.put, List.setIfInBounds_toArray, List.set_cons_zero, List.set_cons_succ]
            refine wpAnyH_take (i := 18) (oi := { dst := some 82, op := Op.fieldAddr 58 (Operand.tmp 81) 0, type := 0, pos := "own.go:64", after := #[{ on := 17, ground := Ground.data }, { on := 13, ground := Ground.guard }], guard := some (13, false) }) (v := ?vs19) rfl (by kernel_rfl) (by kernel_rfl) (by kernel_rfl) (fun _ _ _ h => h) (Or.inl ⟨by rfl, ?ys19⟩) bu12 ?rs19
            case ys19 => (intro w hSw; go_simp; try with_reducible rfl)
            try simp only [Act.put, List.setIfInBounds_toArray, List.set_cons_zero, List.set_cons_succ]
            refine wpAnyH_take (i := 19) (oi := { dst := some 83, op := Op.load 3 (Operand.tmp 82), type := 3, pos := "own.go:64", after := #[{ on := 18, ground := Ground.data }, { on := 13, ground := Ground.guard }], guard := some (13, false) }) (v := .int .i64 x.1) rfl (by kernel_rfl) (by kernel_rfl) (by kernel_rfl) (fun _ _ _ h => h) (Or.inl ⟨by rfl, ?ys20⟩) bu12 ?rs20
            case ys20 => (intro w hSw; have t0 := (FR.out w hSw).1; have t1 := (FR.out w hSw).2; go_simp; try with_reducible rfl)
            try simp only [Act.put, List.setIfInBounds_toArray, List.set_cons_zero, List.set_cons_succ]
            refine wpAnyH_take (i := 20) (oi := { dst := some 84, op := Op.move (Operand.tmp 8), type := 28, pos := "own.go:64", after := #[{ on := 13, ground := Ground.guard }], guard := some (13, false) }) (v := ?vs21) rfl (by kernel_rfl) (by kernel_rfl) (by kernel_rfl) (fun _ _ _ h => h) (Or.inl ⟨by rfl, ?ys21⟩) bu12 ?rs21
            case ys21 => (intro w hSw; go_simp; try with_reducible rfl)
            try simp only [Act.put, List.setIfInBounds_toArray, List.set_cons_zero, List.set_cons_succ]
            refine wpAnyH_take (i := 21) (oi := { dst := some 85, op := Op.move (Operand.tmp 10), type := 3, pos := "own.go:64", after := #[{ on := 13, ground := Ground.guard }], guard := some (13, false) }) (v := ?vs22) rfl (by kernel_rfl) (by kernel_rfl) (by kernel_rfl) (fun _ _ _ h => h) (Or.inl ⟨by rfl, ?ys22⟩) bu12 ?rs22
            case ys22 => (intro w hSw; go_simp; try with_reducible rfl)
            try simp only [Act.put, List.setIfInBounds_toArray, List.set_cons_zero, List.set_cons_succ]
            refine wpAnyH_take (i := 22) (oi := { dst := some 86, op := Op.indexAddr 28 (Operand.tmp 84) (Operand.tmp 85), type := 0, pos := "own.go:64", after := #[{ on := 20, ground := Ground.data }, { on := 21, ground := Ground.data }, { on := 13, ground := Ground.guard }], guard := some (13, false) }) (v := ?vs23) rfl (by kernel_rfl) (by kernel_rfl) (by kernel_rfl) (fun _ _ _ h => h) (Or.inl ⟨by rfl, ?ys23⟩) bu12 ?rs23
            case ys23 => (intro w hSw; go_simp; try with_reducible rfl)
            try simp only [Act.put, List.setIfInBounds_toArray, List.set_cons_zero, List.set_cons_succ]
            refine wpAnyH_take (i := 23) (oi := { dst := some 87, op := Op.fieldAddr 58 (Operand.tmp 86) 1, type := 0, pos := "own.go:64", after := #[{ on := 22, ground := Ground.data }, { on := 13, ground := Ground.guard }], guard := some (13, false) }) (v := ?vs24) rfl (by kernel_rfl) (by kernel_rfl) (by kernel_rfl) (fun _ _ _ h => h) (Or.inl ⟨by rfl, ?ys24⟩) bu12 ?rs24
            case ys24 => (intro w hSw; go_simp; try with_reducible rfl)
            try simp only [Act.put, List.setIfInBounds_toArray, List.set_cons_zero, List.set_cons_succ]
            refine wpAnyH_take (i := 24) (oi := { dst := some 88, op := Op.load 3 (Operand.tmp 87), type := 3, pos := "own.go:64", after := #[{ on := 23, ground := Ground.data }, { on := 13, ground := Ground.guard }], guard := some (13, false) }) (v := .int .i64 x.2) rfl (by kernel_rfl) (by kernel_rfl) (by kernel_rfl) (fun _ _ _ h => h) (Or.inl ⟨by rfl, ?ys25⟩) bu12 ?rs25
            case ys25 => (intro w hSw; have t0 := (FR.out w hSw).1; have t1 := (FR.out w hSw).2; go_simp; try with_reducible rfl)
            try simp only [Act.put, List.setIfInBounds_toArray, List.set_cons_zero, List.set_cons_succ]
            refine wpAnyH_ready (rs := [25]) (by kernel_rfl) (by simp) ?_
            refine AllReadyH.cons (o := { dst := some 89, op := Op.call { callee := Callee.value (Operand.func 14), args := #[Operand.tmp 78, Operand.tmp 83, Operand.tmp 88], argTypes := #[26, 3, 3] }, type := 4, pos := "own.go:64", after := #[{ on := 14, ground := Ground.data }, { on := 19, ground := Ground.data }, { on := 24, ground := Ground.data }, { on := 13, ground := Ground.chain }, { on := 13, ground := Ground.guard }], guard := some (13, false) }) rfl (fun KK hKK => ?_) ?_
            · go_simp
              refine (CA.out u12 _ Su12 bu12.size).mono ?_
              rintro e u26' ⟨rfl, vvu26, tu26, qu26⟩
              (try go_wp2_with fail)
              refine hKK.out _ _ (su_below qu26 bu12 bu12.size HG2.out (own_base Su12.rs.1)) (fun _ => ?_)
              clear hKK KK
              try simp only [Act.put, List.setIfInBounds_toArray, List.set_cons_zero, List.set_cons_succ]
              refine wpAnyH_name (fun u26 hu26 => ?_)
              have bu26 : Below w5.heap.size w5 u26 := by rw [hu26.out]; exact (su_below qu26 bu12 bu12.size HG2.out (own_base Su12.rs.1))
              rw [← hu26.out] at tu26 qu26
              have Su26 : ST u26 w5.heap.size g2 vvu26 (FS (i + 1)) := tu26
              refine wpAnyH_take (i := 26) (oi := { dst := some 90, op := Op.unOp UnOp.not 4 (Operand.tmp 89), type := 4, pos := "own.go:64", after := #[{ on := 25, ground := Ground.data }, { on := 13, ground := Ground.guard }], guard := some (13, false) }) (v := .bool false) rfl (by kernel_rfl) (by kernel_rfl) (by kernel_rfl) (fun _ _ _ h => h) (Or.inl ⟨by rfl, ?ys27⟩) bu26 ?rs27
              case ys27 => (intro w hSw; go_simp; try with_reducible rfl)
              try simp only [Act.put, List.setIfInBounds_toArray, List.set_cons_zero, List.set_cons_succ]
              refine wpAnyH_take (i := 27) (oi := { dst := some 91, op := Op.pick (Operand.tmp 77) (Operand.const (Value.bool true)) (Operand.tmp 90), type := 4, pos := "own.go:64", after := #[{ on := 13, ground := Ground.data }, { on := 26, ground := Ground.data }], guard := none }) (v := .bool false) rfl (by kernel_rfl) (by kernel_rfl) (by kernel_rfl) (fun _ _ _ h => h) (Or.inl ⟨by rfl, ?ys28⟩) bu26 ?rs28
              case ys28 => (intro w hSw; go_simp; try with_reducible rfl)
              try simp only [Act.put, List.setIfInBounds_toArray, List.set_cons_zero, List.set_cons_succ]
              refine wpAnyH_done (by kernel_rfl) ?_ _
              have H1 : Hid (ST u26 w5.heap.size g2 vvu26 (FS (i + 1))) := Su26
              have H2 := bu26
              have HB9 : Hid (Below w5.heap.size w5 u26) := H2
              go_wp2
              go_roundw
              case rel => exact ⟨i + 1, _, by omega, by go_num, H1.out, HB9.out⟩
              case measure => simp [intOf]; omega
            exact AllReadyH.nil
          exact AllReadyH.nil
        · obtain rfl : i = m := by omega
          have lt3 : ¬ (i : Int) < (i : Int) := by omega
          have HE : Hid (gapL (FS i) f t = [] ∧ 0 < cnt (clip (FS i) f f) ∧ 0 < cnt (clip (FS i) t t)) := HFE.out
          have HA9 : Hid (wr.heap[w.heap.size]? = some (.cells #[.int .u8 k, .int .i64 f, .int .i64 t] 24 (0, 0))) := (HBX.out.block _ HW5.out).trans HA5.out
          have HBW : Hid (Below w.heap.size w wr) := HB5.out.trans (HBX.out.mono HB5.out.size)
          have hfc : ∀ W, Below wr.heap.size wr W → W.cell? ⟨w.heap.size, 1, none⟩ = some (.int .i64 f) ∧ W.cell? ⟨w.heap.size, 2, none⟩ = some (.int .i64 t) := fun W hb => by
            have := blk_kept HA9.out hb (blk_lt HA9.out)
            constructor <;> simp [World.cell?, this]
          have HFC : Hid (∀ W, Below wr.heap.size wr W → W.cell? ⟨w.heap.size, 1, none⟩ = some (.int .i64 f) ∧ W.cell? ⟨w.heap.size, 2, none⟩ = some (.int .i64 t)) := hfc
          have cg := gaps_any wr (some ⟨g2, 0, none⟩) f t (clip (FS i) f t) (fun _ => HSF.out.sq hft)
          have eG : (if ((some (⟨g2, 0, none⟩ : Addr)).isSome = true ∧ may f t = true) then gap t f (clip (FS i) f t) else []) = [] := by have := HE.out.1; unfold gapL at this; simpa using this
          rw [eG] at cg
          have HC1 : Hid (∀ W, Below wr.heap.size wr W → Calls Tryd.prog 16 #[.pointer (some ⟨g2, 0, none⟩), .int .i64 f] W fun e W' => e = .returned (.bool true) ∧ Below W.heap.size W W') := fun W hb => by
            have := has_any W (some ⟨g2, 0, none⟩) f (clip (FS i) f f) ((HSF.out.below hb).sq (Int.le_refl _))
            rw [decide_eq_true HE.out.2.1] at this
            exact this
          have HC2 : Hid (∀ W, Below wr.heap.size wr W → Calls Tryd.prog 16 #[.pointer (some ⟨g2, 0, none⟩), .int .i64 t] W fun e W' => e = .returned (.bool true) ∧ Below W.heap.size W W') := fun W hb => by
            have := has_any W (some ⟨g2, 0, none⟩) t (clip (FS i) t t) ((HSF.out.below hb).sq (Int.le_refl _))
            rw [decide_eq_true HE.out.2.2] at this
            exact this
          have HC3 : Hid (∀ W, Below wr.heap.size wr W → Calls Tryd.prog 8 #[] W fun e W' => e = .returned (.bool true) ∧ Below W.heap.size W W') := fun W hb => awake_any W ((HW0.out.below HBW.out HW0.out.pos).below hb (Nat.lt_of_lt_of_le HW0.out.pos HBW.out.size))
          obtain ⟨kf, kt⟩ := hfc wr (Below.refl _ _)
          clear eG HE HFE HSG HFL HF0 HSF HBX HG5 HB5 HA5 HA9 HM HGL hfc
          go_wp2_with fail
          refine cg.mono ?_
          rintro e w7 ⟨gv, rfl, r7, b7⟩
          obtain ⟨ga7, gc7, rfl, -, -, -⟩ := r7.is.shape
          have HB7 : Hid (Below wr.heap.size wr w7) := b7
          obtain ⟨kf7, kt7⟩ := HFC.out w7 b7
          have c1 := HC1.out w7 b7
          clear cg r7 b7 kf kt
          go_wp2_with fail
          refine c1.mono ?_
          rintro e w8 ⟨rfl, b8⟩
          have HB8 : Hid (Below wr.heap.size wr w8) := HB7.out.trans (b8.mono HB7.out.size)
          obtain ⟨kf8, kt8⟩ := HFC.out w8 HB8.out
          have c2 := HC2.out w8 HB8.out
          clear c1 b8 kf7 kt7
          go_wp2_with fail
          refine c2.mono ?_
          rintro e w9 ⟨rfl, b9⟩
          have HB9 : Hid (Below wr.heap.size wr w9) := HB8.out.trans (b9.mono HB8.out.size)
          have c3 := HC3.out w9 HB9.out
          clear c2 b9 kf8 kt8
          go_wp2_with fail
          refine c3.mono ?_
          rintro e w10 ⟨rfl, b10⟩
          have HB10 : Hid (Below w.heap.size w w10) := HBW.out.trans ((HB9.out.trans (b10.mono HB9.out.size)).mono HBW.out.size)
          clear c3 b10
          go_wp2
          go_ret
          exact ⟨rfl, HB10.out⟩

theorem contract (H : Type) (enc : TypeId × Value → H) (W : World) (base : Nat) (args : Array Value) (ds gs : List (DataW H)) (before : List MemPlace)
    (hval : ∀ (j : Nat) t v, Tryd.f7.params[j]? = some t → args[j]? = some v → Value.okWide Tryd.prog W .any base t v)
    (hW : DataW.Whole enc Tryd.prog Tryd.f7.params.toList Rows.rangesGapsSpec.vars false W args.toList ds gs before) (hL : laidMetH Tryd.prog Rows.rangesGapsRow.laid W)
    (hsz0 : (DataW.weightsEach Tryd.prog (Tryd.f7.params.toList ++ Rows.rangesGapsSpec.plain.varTypes Tryd.prog) (ds ++ gs)).all (· ≤ reachBytes) = true) :
    Calls Tryd.prog 7 args W fun e W' => ∃ v, e = .returned v ∧ Rows.rangesGapsSpec.post enc Tryd.prog Tryd.f7 false true false false W args v W' := by
  have hW' := hW
  obtain ⟨p, q, hA0, hV, rfl, hfz, hnd⟩ := hW
  have hA : DataW.TrodAll enc Tryd.prog W 0 (fun _ => true) true Tryd.f7.params.toList args.toList ds p := hA0
  rw [Tryd.params7] at hA hval hsz0
  obtain ⟨v0, vs0, d0, ds0, p0, q0, hargs, rfl, rfl, h0, r0⟩ := trodAll_cons hA
  obtain ⟨v1, vs1, d1, ds1, p1, q1, rfl, rfl, rfl, h1, r1⟩ := trodAll_cons r0
  obtain ⟨rfl, rfl, rfl⟩ := trodAll_nil r1
  obtain rfl : args = #[v0, v1] := by cases args; simp_all
  obtain ⟨rfl, rfl⟩ := trodVars_none hV
  have k0 := h0
  have lt0 : ∀ x ∈ p0, x.block < W.heap.size := by obtain ⟨m, hm⟩ := k0; exact DataW.trod_lt m _ _ _ hm
  obtain ⟨L0, w0⟩ := cls_in (hval 0 22 v0 rfl rfl) h0
  have k1 := h1
  have lt1 : ∀ x ∈ p1, x.block < W.heap.size := by obtain ⟨m, hm⟩ := k1; exact DataW.trod_lt m _ _ _ hm
  obtain ⟨L1, w1⟩ := cal_in (hval 1 24 v1 rfl rfl) h1
  clear hA0
  refine (walk v0 L0 v1 L1 W (wi_of hL) w0 w1).mono fun e W' ⟨he, bel⟩ => ?_
  subst he
  exact ⟨_, rfl, _, _, _, [], _, [], hW', trodAll_mk1 (shut_bool Tryd.underlying4 _), (trodAll_cons_mk (Below.trod laidOut (by kernel_rfl) (of_decide_eq_true (by kernel_rfl)) k0 bel lt0) (trodAll_cons_mk (Below.trod laidOut (by kernel_rfl) (of_decide_eq_true (by kernel_rfl)) k1 bel lt1) trodAll_mk0)), rfl, bel.frame _, fun h => by cases h⟩

theorem laid_met (os : Os) : laidMet Tryd.prog Rows.rangesGapsRow.laid (({ World.holding Tryd.prog os ⟨#[], #[], []⟩ with heap := ((World.holding Tryd.prog os ⟨#[], #[], []⟩).heap.modify 0 (fun
      | .cells _ t frozen => .cells widT t frozen
      | o => o)) } : World).forCall (fun _ _ => 0) ⟨#[], #[.slice none 0 0, .agg #[.int .u8 0, .int .i64 0, .int .i64 0]], []⟩).memory :=
  laidMet_of_run' 8 (by kernel_rfl) (by kernel_rfl)
theorem reads (os : Os) {H : Type} (enc : TypeId × Value → H) : ∃ places, DataW.whole enc Tryd.prog (({ World.holding Tryd.prog os ⟨#[], #[], []⟩ with heap := ((World.holding Tryd.prog os ⟨#[], #[], []⟩).heap.modify 0 (fun
      | .cells _ t frozen => .cells widT t frozen
      | o => o)) } : World).forCall (fun _ _ => 0) ⟨#[], #[.slice none 0 0, .agg #[.int .u8 0, .int .i64 0, .int .i64 0]], []⟩).memory Tryd.f7.params.toList Rows.rangesGapsSpec.vars false #[Value.slice none 0 0, .agg #[.int .u8 0, .int .i64 0, .int .i64 0]].toList 8 = some ([.nil, .agg [.lit (.int .u8 0), .lit (.int .i64 0), .lit (.int .i64 0)]], [], places) :=
  ⟨[], by kernel_rfl⟩

set_option maxRecDepth 100000 in
theorem lifted (os : Os) (started : os.Started) (H : Type) (enc : TypeId × Value → H) (F : Stop.Interp) :
    ReturnsInHanded {} Tryd.checked os 7 .any ((OpenSpec.ofChange Rows.rangesGapsSpec).preRow enc Tryd.prog Tryd.f7 Rows.rangesGapsRow.domain false Rows.rangesGapsRow.laid) (((OpenSpec.ofChange Rows.rangesGapsSpec).at F).post enc Tryd.prog Tryd.f7 false true false false) := by
  obtain ⟨places, hx⟩ := reads os enc
  refine returnsInHanded_of_row (C := Tryd.checked) (s := OpenSpec.ofChange Rows.rangesGapsSpec) own started (by kernel_rfl) Tryd.func7
    (witness_row_at (enc := enc) (C := Tryd.checked) false ({ World.holding Tryd.prog os ⟨#[], #[], []⟩ with heap := ((World.holding Tryd.prog os ⟨#[], #[], []⟩).heap.modify 0 (fun
      | .cells _ t frozen => .cells widT t frozen
      | o => o)) } : World) #[.slice none 0 0, .agg #[.int .u8 0, .int .i64 0, .int .i64 0]] rfl (by kernel_rfl) (by kernel_rfl) (by kernel_rfl)
      (OpenSpec.preRow_of_cond 8 hx (by kernel_rfl) (fun k hk => by cases hk) (by kernel_rfl) (laid_met os))) ?_
  intro W base args ds gs before hval hW _ _ hsz hL _ _
  exact contract H enc W base args ds gs before hval hW hL hsz

theorem said : Rows.RangesGapsSaid :=
  OpenClaim.holds_of_cond 7 Tryd.f7 rfl rfl rfl rfl rfl rfl rfl ⟨rfl, rfl, rfl, rfl, rfl⟩ rfl rfl rfl rfl rfl (by kernel_rfl) Tryd.func7 (by kernel_rfl)
    (of_decide_eq_true (by kernel_rfl)) (by unfold Func.isWrapper; first | (rw [if_pos (by decide +kernel)]; kernel_rfl) | (rw [if_neg (by decide +kernel)]; exact ⟨rfl, rfl⟩))
    (fun os started H enc _ F => by rw [OpenClaim.pre_eq_preRow]; exact lifted os started H enc F)

theorem plain (f : FuncId) (fn : Func) (hf : Tryd.pinned.checked.prog.funcNamed "sumpter/sumpterlaw17.RangesGaps" = some f) (hfn : Tryd.pinned.checked.prog.funcs[f]? = some fn) :
    false = Tryd.pinned.checked.prog.looks [] ∧ ∀ (j : Nat) t, fn.params[j]? = some t → Tryd.pinned.checked.prog.wantsStandIn t = false := by
  obtain rfl : f = 7 := Option.some.inj ((show Tryd.prog.funcNamed "sumpter/sumpterlaw17.RangesGaps" = some 7 by kernel_rfl).symm.trans hf) |>.symm
  obtain rfl : fn = Tryd.f7 := (Option.some.inj (Tryd.func7.symm.trans hfn)).symm
  refine ⟨by kernel_rfl, fun j t ht => ?_⟩
  rw [Tryd.params7] at ht
  have hm : t ∈ [22, 24] := by simpa using Array.mem_of_getElem? ht
  have hall : ([22, 24].all fun u => !Tryd.prog.wantsStandIn u) = true := by kernel_rfl
  exact (show Tryd.prog.wantsStandIn t = false by simpa using List.all_eq_true.1 hall t hm)
end Go.Proofs.YtaghmoddalbepaaDoor.rangesGaps

namespace Go.Proofs.YtaghmoddalbepaaDoor
/-- The card of RangesGaps. -/
theorem rangesGaps_card : Rows.RangesGapsCardSaid :=
  Claim7.holds_tied_plain_at .later [] _ _ _ _ rangesGaps.said (fun _ h => by cases h) (by kernel_rfl) (fun _ h => by cases h) rangesGaps_row_tie rfl ⟨rfl, rfl⟩ (by kernel_rfl) rfl rangesGaps.plain (by kernel_rfl)
#print axioms rangesGaps_card
end Go.Proofs.YtaghmoddalbepaaDoor
