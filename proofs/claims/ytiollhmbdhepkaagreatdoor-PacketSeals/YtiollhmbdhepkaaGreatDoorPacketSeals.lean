/-
  Any packet has, with any key, the bytes and the room that the document says, or it is told why not. No conditions but the given statement's own.
-/
import Derived.Test.YtiollhmbdhepkaaGreatDoorZbz
namespace Go.Proofs.YtiollhmbdhepkaaGreatDoor.packetSeals
open Go.ChangeShapes Go.WideShapes Go.ChangeAt Go.RowKit Go.Deep Go.ChangeMaps
set_option maxRecDepth 100000

theorem selL_byt {K : List Int} {k c n : Int} {X : List Int} (hk : 0 ≤ k ∧ k < 256) (hX : Sh.Pl.Byt X) : Sh.Pl.Byt (selL K k c n X) := by
  unfold selL
  split
  · exact byt_cat (hdL_byt hk.1 hk.2) (byt_cat hX (Mc.tagB_byt _ _))
  · intro i; simp
set_option maxHeartbeats 16000000 in
theorem walk (K : List Int) (v1 : Value) (L1 : PkI) (w : World) (ht : Tb w ∧ Mc.Tabs w) (hK : K.length = 32) (hKb : Sh.Pl.Byt K) (h1 : PktI w v1 L1) :
    Calls Tryz.prog 4 #[.agg (Sh.u8s K), v1] w fun e w' => e = .returned (.bool true) ∧ Below w.heap.size w w' := by
  obtain ⟨k, c, n, a, m, cp, X⟩ := L1
  obtain ⟨rfl, hs, hk, -, -⟩ := h1
  simp only at hs hk ⊢
  have hm : m = X.length := by obtain ⟨_, _, e, -⟩ := id hs; cases e; rfl
  obtain ⟨W1, hW1⟩ : ∃ W1, W1 = w.alloc (.cells (Sh.u8s K) 47) := ⟨_, rfl⟩
  obtain ⟨w2, hW2⟩ : ∃ w2, w2 = W1.alloc (.cells #[.int .u8 k, .int .i64 c, .int .i64 n, .slice a m cp] 49) := ⟨_, rfl⟩
  have b1 : Below w.heap.size w W1 := by rw [hW1]; exact al_below _ _
  have z1 : W1.heap.size = w.heap.size + 1 := by rw [hW1]; simp
  have b12 : Below W1.heap.size W1 w2 := by rw [hW2]; exact al_below _ _
  have HB2 : Hid (Below w.heap.size w w2) := b1.trans (b12.mono b1.size)
  have hg1 : W1.heap[w.heap.size]? = some (.cells (Sh.u8s K) 47 (0, 0)) := by rw [hW1]; exact heap_alloc_new _ _
  have HG2 : Hid (QB w2 (w.heap.size + 1) k c n (.slice a m cp)) := by unfold Hid; rw [← z1, hW2]; exact QB.new _ _ _ _ _
  have HK2 : Hid (w2.heap[w.heap.size]? = some (.cells (Sh.u8s K) 47 (0, 0))) := blk_kept hg1 b12 (blk_lt hg1)
  have HS2 : Hid (Sl w2 (.slice a m cp) X) := hs.kept HB2.out
  have HT : Hid (Tb w ∧ Mc.Tabs w) := ht
  have HKK : Hid (K.length = 32 ∧ Sh.Pl.Byt K) := ⟨hK, hKb⟩
  have HKB : Hid (0 ≤ k ∧ k < 256) := hk
  have HM : Hid (m = X.length) := hm
  have HI : Hid ((Tryz.prog.info? 47).map (·.size) = some (Sh.u8s K).size) := by unfold Hid; rw [Sh.u8s_size, hK]; exact Sh.size26
  have hW2' : w2 = (w.alloc (.cells (Sh.u8s K) 47)).alloc (.cells #[.int .u8 k, .int .i64 c, .int .i64 n, .slice a m cp] 49) := by rw [hW2, hW1]
  obtain ⟨c0, c1, c2, c3⟩ := HG2.out.kc
  clear hW2 b1 b12 hg1 z1 hs hk ht hK hKb hm
  have hW2 := hW2'
  clear hW2' hW1
  by_cases hl : 1300 < m
  · have t0 : (1300 : Int) < (m : Int) := by omega
    have ca := pawake_any w2 (HT.out.1.next HB2.out) (HT.out.2.kept HB2.out)
    clear hl
    generalize Sh.u8s K = KU at *
    go_enter Tryz.func4, Tryz.ntmps4
    go_upto_region 1 with fail
    rw [← hW2]
    clear hW2
    go_wp2_with fail
    refine ca.mono ?_
    rintro e w3 ⟨rfl, b3⟩
    have HB3 : Hid (Below w.heap.size w w3) := HB2.out.trans (b3.mono HB2.out.size)
    clear ca b3
    go_wp2
    go_ret
    exact ⟨rfl, HB3.out⟩
  · have t0 : ¬ (1300 : Int) < (m : Int) := by omega
    have cs := pseal_any K k c n a m cp X w2 (HT.out.2.kept HB2.out) HKK.out.1 HKK.out.2 HKB.out HS2.out HM.out
    have HSR : Hid (∀ x, Below w.heap.size w x → Sl x (.slice a m cp) X → Calls Tryz.prog 20 #[.agg (Sh.u8s K), .agg #[.int .u8 k, .int .i64 c, .int .i64 n, .slice a m cp]] x fun e w' => ∃ v, e = .returned (.tuple #[v, .int .i64 (selE k c n X.length)]) ∧ Sl w' v (selL K k c n X) ∧ Below x.heap.size x w') := fun x _ sx => rpseal_any K k c n a m cp X x HKK.out.1 HKK.out.2 HKB.out sx HM.out
    have HSY : Hid (Sh.Pl.Byt (selL K k c n X)) := selL_byt HKB.out HS2.out.bytes
    obtain ⟨S, hS⟩ : ∃ S, S = selL K k c n X := ⟨_, rfl⟩
    rw [← hS] at cs HSR HSY
    obtain ⟨E, hE⟩ : ∃ E, E = selE k c n X.length := ⟨_, rfl⟩
    rw [← hE] at cs HSR
    clear hl hS hE
    generalize Sh.u8s K = KU at *
    go_enter Tryz.func4, Tryz.ntmps4
    go_upto_region 1 with fail
    rw [← hW2]
    clear hW2
    go_upto_region 3 with fail
    clear t0 c0 c1 c2 c3
    go_wp2_with (first | refine wpList_load_row rfl 47 _ rfl w.heap.size rfl 47 KU (0, 0) _ HK2.out Tryz.underlying47 rfl HI.out (Hid.out ?_) | refine wpList_load_row rfl 49 _ rfl (w.heap.size + 1) rfl 49 #[.int .u8 k, .int .i64 c, .int .i64 n, .slice a m cp] (0, 0) _ HG2.out Tryz.underlying49 rfl infoQ (Hid.out ?_))
    try unfold Hid
    go_wp2_with (first | refine wpList_load_row rfl 47 _ rfl w.heap.size rfl 47 KU (0, 0) _ HK2.out Tryz.underlying47 rfl HI.out (Hid.out ?_) | refine wpList_load_row rfl 49 _ rfl (w.heap.size + 1) rfl 49 #[.int .u8 k, .int .i64 c, .int .i64 n, .slice a m cp] (0, 0) _ HG2.out Tryz.underlying49 rfl infoQ (Hid.out ?_))
    try unfold Hid
    try go_wp2_with fail
    refine cs.mono ?_
    rintro e w3 ⟨v3, rfl, o3, b3⟩
    have s3 := sl_owned o3 HSY.out
    obtain ⟨a3, q3, rfl, -⟩ := id s3
    have HB3 : Hid (Below w.heap.size w w3) := HB2.out.trans (b3.mono HB2.out.size)
    have HG3 : Hid (QB w3 (w.heap.size + 1) k c n (.slice a m cp)) := HG2.out.kept b3
    have HK3 : Hid (w3.heap[w.heap.size]? = some (.cells KU 47 (0, 0))) := blk_kept HK2.out b3 (blk_lt HK2.out)
    have HS3 : Hid (Sl w3 (.slice a m cp) X) := HS2.out.kept b3
    obtain ⟨sl, hsl⟩ : ∃ l, l = S.length := ⟨_, rfl⟩
    rw [← hsl] at s3 ⊢
    have HX3 : Hid (Sl w3 (.slice a3 sl q3) S) := s3
    have cr := HSR.out w3 HB3.out HS3.out
    clear cs o3 s3 b3 HB2 HG2 HK2 HS2 HSR hsl
    go_wp2_with (first | refine wpList_load_row rfl 47 _ rfl w.heap.size rfl 47 KU (0, 0) _ HK3.out Tryz.underlying47 rfl HI.out (Hid.out ?_) | refine wpList_load_row rfl 49 _ rfl (w.heap.size + 1) rfl 49 #[.int .u8 k, .int .i64 c, .int .i64 n, .slice a m cp] (0, 0) _ HG3.out Tryz.underlying49 rfl infoQ (Hid.out ?_))
    try unfold Hid
    go_wp2_with (first | refine wpList_load_row rfl 47 _ rfl w.heap.size rfl 47 KU (0, 0) _ HK3.out Tryz.underlying47 rfl HI.out (Hid.out ?_) | refine wpList_load_row rfl 49 _ rfl (w.heap.size + 1) rfl 49 #[.int .u8 k, .int .i64 c, .int .i64 n, .slice a m cp] (0, 0) _ HG3.out Tryz.underlying49 rfl infoQ (Hid.out ?_))
    try unfold Hid
    try go_wp2_with fail
    refine cr.mono ?_
    rintro e w4 ⟨v4, rfl, s4, b4⟩
    obtain ⟨a4, q4, rfl, -⟩ := id s4
    obtain ⟨sl4, hsl4⟩ : ∃ l, l = S.length := ⟨_, rfl⟩
    rw [← hsl4] at s4 ⊢
    have HB4 : Hid (Below w.heap.size w w4) := HB3.out.trans (b4.mono HB3.out.size)
    have e3 := (HX3.out.kept b4)
    have FC1 : Hid (∀ x, From w4 x → (convert 34 9 (.slice a3 sl q3)).run Tryz.prog x = .ok (.string (strB S)) x) := fun x hx => (e3.kept hx).conv
    have FC2 : Hid (∀ x, From w4 x → (convert 34 9 (.slice a4 sl4 q4)).run Tryz.prog x = .ok (.string (strB S)) x) := fun x hx => (s4.kept hx).conv
    have g4 : QB w4 (w.heap.size + 1) k c n (.slice a m cp) := HG3.out.kept b4
    have FG : Hid (∀ x, From w4 x → QB x (w.heap.size + 1) k c n (.slice a m cp)) := fun x hx => g4.kept hx
    have FT : Hid (∀ x, From w4 x → Tb x ∧ Mc.Tabs x) := fun x hx => ⟨(HT.out.1.next HB4.out).next hx, (HT.out.2.kept HB4.out).kept hx⟩
    have FB : Hid (∀ x, From w4 x → Below w.heap.size w x) := fun x hx => HB4.out.trans (Below.mono hx HB4.out.size)
    clear cr s4 b4 HB3 HG3 HK3 HS3 HX3 hsl4 e3 g4 HB4 HSY HI HKK HM HT
    generalize strB S = SS at *
    try go_wp2_with fail
    refine wp_region_held_drew (S := From w4) (by kernel_rfl) ((Below.refl _ _).drew) (fun _ => ?_)
    refine wpAnyH_on ((Below.refl _ _).drew) (fun u0 hu0 bu0 => ?_)
    replace FC1 := on FC1 bu0
    replace FC2 := on FC2 bu0
    replace FG := on FG bu0
    replace FT := on FT bu0
    replace FB := on FB bu0
    refine wpAnyH_take (i := 0) (oi := { dst := some 26, op := Op.move (Operand.tmp 5), type := 34, pos := "law.go:59", after := #[], guard := none }) (v := ?vs1) rfl (by kernel_rfl) (by kernel_rfl) (by kernel_rfl) (fun _ _ _ h => h) (Or.inl ⟨by rfl, ?ys1⟩) (Below.refl _ _) ?rs1
    case ys1 => (intro w hSw; go_simp; try with_reducible rfl)
    try simp only [Act.put, List.setIfInBounds_toArray, List.set_cons_zero, List.set_cons_succ]
    refine wpAnyH_take (i := 1) (oi := { dst := some 27, op := Op.convert 34 9 (Operand.tmp 26), type := 9, pos := "law.go:59", after := #[{ on := 0, ground := Ground.data }], guard := none }) (v := ?vs2) rfl (by kernel_rfl) (by kernel_rfl) (by kernel_rfl) (fun _ _ _ h => h) (Or.inl ⟨by rfl, ?ys2⟩) (Below.refl _ _) ?rs2
    case ys2 => (intro w hSw; have t := FC1.out w hSw; go_simp; try with_reducible rfl)
    try simp only [Act.put, List.setIfInBounds_toArray, List.set_cons_zero, List.set_cons_succ]
    refine wpAnyH_take (i := 2) (oi := { dst := some 28, op := Op.move (Operand.tmp 7), type := 34, pos := "law.go:59", after := #[], guard := none }) (v := ?vs3) rfl (by kernel_rfl) (by kernel_rfl) (by kernel_rfl) (fun _ _ _ h => h) (Or.inl ⟨by rfl, ?ys3⟩) (Below.refl _ _) ?rs3
    case ys3 => (intro w hSw; go_simp; try with_reducible rfl)
    try simp only [Act.put, List.setIfInBounds_toArray, List.set_cons_zero, List.set_cons_succ]
    refine wpAnyH_take (i := 3) (oi := { dst := some 29, op := Op.convert 34 9 (Operand.tmp 28), type := 9, pos := "law.go:59", after := #[{ on := 2, ground := Ground.data }], guard := none }) (v := ?vs4) rfl (by kernel_rfl) (by kernel_rfl) (by kernel_rfl) (fun _ _ _ h => h) (Or.inl ⟨by rfl, ?ys4⟩) (Below.refl _ _) ?rs4
    case ys4 => (intro w hSw; have t := FC2.out w hSw; go_simp; try with_reducible rfl)
    try simp only [Act.put, List.setIfInBounds_toArray, List.set_cons_zero, List.set_cons_succ]
    refine wpAnyH_take (i := 4) (oi := { dst := some 30, op := Op.binOp BinOp.eql 9 (Operand.tmp 27) (Operand.tmp 29) 9, type := 4, pos := "law.go:59", after := #[{ on := 1, ground := Ground.data }, { on := 3, ground := Ground.data }], guard := none }) (v := ?vs5) rfl (by kernel_rfl) (by kernel_rfl) (by kernel_rfl) (fun _ _ _ h => h) (Or.inl ⟨by rfl, ?ys5⟩) (Below.refl _ _) ?rs5
    case ys5 => (intro w hSw; go_simp; try with_reducible rfl)
    try simp only [Act.put, List.setIfInBounds_toArray, List.set_cons_zero, List.set_cons_succ]
    refine wpAnyH_take (i := 5) (oi := { dst := some 31, op := Op.move (Operand.tmp 30), type := 4, pos := "law.go:59", after := #[{ on := 4, ground := Ground.data }], guard := none }) (v := ?vs6) rfl (by kernel_rfl) (by kernel_rfl) (by kernel_rfl) (fun _ _ _ h => h) (Or.inl ⟨by rfl, ?ys6⟩) (Below.refl _ _) ?rs6
    case ys6 => (intro w hSw; go_simp; try with_reducible rfl)
    try simp only [Act.put, List.setIfInBounds_toArray, List.set_cons_zero, List.set_cons_succ]
    refine wpAnyH_take (i := 6) (oi := { dst := some 32, op := Op.move (Operand.tmp 6), type := 30, pos := "law.go:59", after := #[{ on := 5, ground := Ground.guard }], guard := some (5, true) }) (v := ?vs7) rfl (by kernel_rfl) (by kernel_rfl) (by kernel_rfl) (fun _ _ _ h => h) (Or.inl ⟨by rfl, ?ys7⟩) (Below.refl _ _) ?rs7
    case ys7 => (intro w hSw; go_simp; try with_reducible rfl)
    try simp only [Act.put, List.setIfInBounds_toArray, List.set_cons_zero, List.set_cons_succ]
    refine wpAnyH_take (i := 7) (oi := { dst := some 33, op := Op.move (Operand.tmp 8), type := 3, pos := "law.go:59", after := #[{ on := 5, ground := Ground.guard }], guard := some (5, true) }) (v := ?vs8) rfl (by kernel_rfl) (by kernel_rfl) (by kernel_rfl) (fun _ _ _ h => h) (Or.inl ⟨by rfl, ?ys8⟩) (Below.refl _ _) ?rs8
    case ys8 => (intro w hSw; go_simp; try with_reducible rfl)
    try simp only [Act.put, List.setIfInBounds_toArray, List.set_cons_zero, List.set_cons_succ]
    refine wpAnyH_take (i := 8) (oi := { dst := some 34, op := Op.binOp BinOp.eql 3 (Operand.tmp 32) (Operand.tmp 33) 3, type := 4, pos := "law.go:59", after := #[{ on := 6, ground := Ground.data }, { on := 7, ground := Ground.data }, { on := 5, ground := Ground.guard }], guard := some (5, true) }) (v := ?vs9) rfl (by kernel_rfl) (by kernel_rfl) (by kernel_rfl) (fun _ _ _ h => h) (Or.inl ⟨by rfl, ?ys9⟩) (Below.refl _ _) ?rs9
    case ys9 => (intro w hSw; go_simp; try with_reducible rfl)
    try simp only [Act.put, List.setIfInBounds_toArray, List.set_cons_zero, List.set_cons_succ]
    refine wpAnyH_take (i := 9) (oi := { dst := some 35, op := Op.pick (Operand.tmp 31) (Operand.tmp 34) (Operand.const (Value.bool false)), type := 4, pos := "law.go:59", after := #[{ on := 5, ground := Ground.data }, { on := 8, ground := Ground.data }], guard := none }) (v := ?vs10) rfl (by kernel_rfl) (by kernel_rfl) (by kernel_rfl) (fun _ _ _ h => h) (Or.inl ⟨by rfl, ?ys10⟩) (Below.refl _ _) ?rs10
    case ys10 => (intro w hSw; go_simp; try with_reducible rfl)
    try simp only [Act.put, List.setIfInBounds_toArray, List.set_cons_zero, List.set_cons_succ]
    refine wpAnyH_take (i := 10) (oi := { dst := some 36, op := Op.move (Operand.tmp 35), type := 4, pos := "law.go:59", after := #[{ on := 9, ground := Ground.data }, { on := 5, ground := Ground.chain }], guard := none }) (v := ?vs11) rfl (by kernel_rfl) (by kernel_rfl) (by kernel_rfl) (fun _ _ _ h => h) (Or.inl ⟨by rfl, ?ys11⟩) (Below.refl _ _) ?rs11
    case ys11 => (intro w hSw; go_simp; try with_reducible rfl)
    try simp only [Act.put, List.setIfInBounds_toArray, List.set_cons_zero, List.set_cons_succ]
    refine wpAnyH_take (i := 11) (oi := { dst := some 37, op := Op.load 49 (Operand.tmp 3), type := 49, pos := "law.go:59", after := #[{ on := 10, ground := Ground.guard }], guard := some (10, true) }) (v := .agg #[.int .u8 k, .int .i64 c, .int .i64 n, .slice a m cp]) rfl (by kernel_rfl) (by kernel_rfl) (by kernel_rfl) (fun _ _ _ h => h) (yieldsIf_load_mid (by rfl) _ _ rfl (w.heap.size + 1) 0 rfl _ _ (fun x h => blk_range (FG.out x h)) Tryz.underlying49 rfl infoQ) (Below.refl _ _) ?_
    try simp only [Act.put, List.setIfInBounds_toArray, List.set_cons_zero, List.set_cons_succ]
    refine wpAnyH_take (i := 13) (oi := { dst := some 39, op := Op.load 49 (Operand.tmp 3), type := 49, pos := "law.go:59", after := #[{ on := 10, ground := Ground.guard }], guard := some (10, true) }) (v := .agg #[.int .u8 k, .int .i64 c, .int .i64 n, .slice a m cp]) rfl (by kernel_rfl) (by kernel_rfl) (by kernel_rfl) (fun _ _ _ h => h) (yieldsIf_load_mid (by rfl) _ _ rfl (w.heap.size + 1) 0 rfl _ _ (fun x h => blk_range (FG.out x h)) Tryz.underlying49 rfl infoQ) (Below.refl _ _) ?_
    try simp only [Act.put, List.setIfInBounds_toArray, List.set_cons_zero, List.set_cons_succ]
    refine wpAnyH_ready (rs := [12]) (by kernel_rfl) (by simp) ?_
    refine AllReadyH.cons (o := { dst := some 38, op := Op.call { callee := Callee.value (Operand.func 21), args := #[Operand.tmp 37], argTypes := #[51] }, type := 3, pos := "law.go:59", after := #[{ on := 11, ground := Ground.data }, { on := 10, ground := Ground.chain }, { on := 10, ground := Ground.guard }], guard := some (10, true) }) rfl (fun KK hKK => ?_) ?_
    · go_simp
      refine (room_any k c n a m cp _ (FT.out _ (Below.refl _ _)).2.2 HKB.out).mono ?_
      rintro e u14' ⟨rfl, bu14'⟩
      (try go_wp2_with fail)
      refine hKK.out _ _ (bu14') (fun _ => ?_)
      clear hKK KK
      try simp only [Act.put, List.setIfInBounds_toArray, List.set_cons_zero, List.set_cons_succ]
      refine wpAnyH_on (bu14') (fun u14 hu14 bu14 => ?_)
      replace FC1 := on FC1 bu14
      replace FC2 := on FC2 bu14
      replace FG := on FG bu14
      replace FT := on FT bu14
      replace FB := on FB bu14
      refine wpAnyH_ready (rs := [14]) (by kernel_rfl) (by simp) ?_
      refine AllReadyH.cons (o := { dst := some 40, op := Op.call { callee := Callee.value (Operand.func 22), args := #[Operand.tmp 39], argTypes := #[49] }, type := 3, pos := "law.go:59", after := #[{ on := 13, ground := Ground.data }, { on := 12, ground := Ground.chain }, { on := 10, ground := Ground.guard }], guard := some (10, true) }) rfl (fun KK hKK => ?_) ?_
      · go_simp
        refine (rroom_any k c n a m cp _ HKB.out).mono ?_
        rintro e u15' ⟨rfl, bu15'⟩
        (try go_wp2_with fail)
        refine hKK.out _ _ (bu15') (fun _ => ?_)
        clear hKK KK
        try simp only [Act.put, List.setIfInBounds_toArray, List.set_cons_zero, List.set_cons_succ]
        refine wpAnyH_on (bu15') (fun u15 hu15 bu15 => ?_)
        replace FC1 := on FC1 bu15
        replace FC2 := on FC2 bu15
        replace FG := on FG bu15
        replace FT := on FT bu15
        replace FB := on FB bu15
        refine wpAnyH_take (i := 15) (oi := { dst := some 41, op := Op.binOp BinOp.eql 3 (Operand.tmp 38) (Operand.tmp 40) 3, type := 4, pos := "law.go:59", after := #[{ on := 12, ground := Ground.data }, { on := 14, ground := Ground.data }, { on := 10, ground := Ground.guard }], guard := some (10, true) }) (v := ?vs16) rfl (by kernel_rfl) (by kernel_rfl) (by kernel_rfl) (fun _ _ _ h => h) (Or.inl ⟨by rfl, ?ys16⟩) (Below.refl _ _) ?rs16
        case ys16 => (intro w hSw; go_simp; try with_reducible rfl)
        try simp only [Act.put, List.setIfInBounds_toArray, List.set_cons_zero, List.set_cons_succ]
        refine wpAnyH_take (i := 16) (oi := { dst := some 42, op := Op.pick (Operand.tmp 36) (Operand.tmp 41) (Operand.const (Value.bool false)), type := 4, pos := "law.go:59", after := #[{ on := 10, ground := Ground.data }, { on := 15, ground := Ground.data }], guard := none }) (v := ?vs17) rfl (by kernel_rfl) (by kernel_rfl) (by kernel_rfl) (fun _ _ _ h => h) (Or.inl ⟨by rfl, ?ys17⟩) (Below.refl _ _) ?rs17
        case ys17 => (intro w hSw; go_simp; try with_reducible rfl)
        try simp only [Act.put, List.setIfInBounds_toArray, List.set_cons_zero, List.set_cons_succ]
        refine wpAnyH_take (i := 17) (oi := { dst := some 43, op := Op.move (Operand.tmp 42), type := 4, pos := "law.go:59", after := #[{ on := 16, ground := Ground.data }, { on := 14, ground := Ground.chain }], guard := none }) (v := ?vs18) rfl (by kernel_rfl) (by kernel_rfl) (by kernel_rfl) (fun _ _ _ h => h) (Or.inl ⟨by rfl, ?ys18⟩) (Below.refl _ _) ?rs18
        case ys18 => (intro w hSw; go_simp; try with_reducible rfl)
        try simp only [Act.put, List.setIfInBounds_toArray, List.set_cons_zero, List.set_cons_succ]
        refine wpAnyH_ready (rs := [18]) (by kernel_rfl) (by simp) ?_
        refine AllReadyH.cons (o := { dst := some 44, op := Op.call { callee := Callee.value (Operand.func 18), args := #[], argTypes := #[] }, type := 4, pos := "law.go:59", after := #[{ on := 17, ground := Ground.chain }, { on := 17, ground := Ground.guard }], guard := some (17, true) }) rfl (fun KK hKK => ?_) ?_
        · go_simp
          refine (pawake_any _ (FT.out _ (Below.refl _ _)).1 (FT.out _ (Below.refl _ _)).2).mono ?_
          rintro e u19' ⟨rfl, bu19'⟩
          (try go_wp2_with fail)
          refine hKK.out _ _ (bu19') (fun _ => ?_)
          clear hKK KK
          try simp only [Act.put, List.setIfInBounds_toArray, List.set_cons_zero, List.set_cons_succ]
          refine wpAnyH_on (bu19') (fun u19 hu19 bu19 => ?_)
          replace FC1 := on FC1 bu19
          replace FC2 := on FC2 bu19
          replace FG := on FG bu19
          replace FT := on FT bu19
          replace FB := on FB bu19
          refine wpAnyH_take (i := 19) (oi := { dst := some 45, op := Op.pick (Operand.tmp 43) (Operand.tmp 44) (Operand.const (Value.bool false)), type := 4, pos := "law.go:59", after := #[{ on := 17, ground := Ground.data }, { on := 18, ground := Ground.data }], guard := none }) (v := ?vs20) rfl (by kernel_rfl) (by kernel_rfl) (by kernel_rfl) (fun _ _ _ h => h) (Or.inl ⟨by rfl, ?ys20⟩) (Below.refl _ _) ?rs20
          case ys20 => (intro w hSw; go_simp; try with_reducible rfl)
          try simp only [Act.put, List.setIfInBounds_toArray, List.set_cons_zero, List.set_cons_succ]
          refine wpAnyH_take (i := 20) (oi := { dst := some 4, op := Op.assign (Operand.tmp 45), type := 4, pos := "law.go:59", after := #[{ on := 19, ground := Ground.data }, { on := 18, ground := Ground.chain }, { on := 0, ground := Ground.phase }, { on := 1, ground := Ground.phase }, { on := 2, ground := Ground.phase }, { on := 3, ground := Ground.phase }, { on := 4, ground := Ground.phase }, { on := 5, ground := Ground.phase }, { on := 6, ground := Ground.phase }, { on := 7, ground := Ground.phase }, { on := 8, ground := Ground.phase }, { on := 9, ground := Ground.phase }, { on := 10, ground := Ground.phase }, { on := 11, ground := Ground.phase }, { on := 12, ground := Ground.phase }, { on := 13, ground := Ground.phase }, { on := 14, ground := Ground.phase }, { on := 15, ground := Ground.phase }, { on := 16, ground := Ground.phase }, { on := 17, ground := Ground.phase }, { on := 18, ground := Ground.phase }, { on := 19, ground := Ground.phase }], guard := none }) (v := ?vs21) rfl (by kernel_rfl) (by kernel_rfl) (by kernel_rfl) (fun _ _ _ h => h) (Or.inl ⟨by rfl, ?ys21⟩) (Below.refl _ _) ?rs21
          case ys21 => (intro w hSw; go_simp; try with_reducible rfl)
          try simp only [Act.put, List.setIfInBounds_toArray, List.set_cons_zero, List.set_cons_succ]
          refine wpAnyH_done (by kernel_rfl) ?_ _
          go_wp2
          go_ret
          exact ⟨rfl, FB.out _ (Below.refl _ _)⟩
        exact AllReadyH.nil
      exact AllReadyH.nil
    exact AllReadyH.nil

theorem contract (H : Type) (enc : TypeId × Value → H) (W : World) (base : Nat) (args : Array Value) (ds gs : List (DataW H)) (before : List MemPlace)
    (hval : ∀ (j : Nat) t v, Tryz.f4.params[j]? = some t → args[j]? = some v → Value.okWide Tryz.prog W .any base t v)
    (hW : DataW.Whole enc Tryz.prog Tryz.f4.params.toList Rows.packetSealsSpec.vars false W args.toList ds gs before) (hL : laidMetH Tryz.prog Rows.packetSealsRow.laid W)
    (hsz0 : (DataW.weightsEach Tryz.prog (Tryz.f4.params.toList ++ Rows.packetSealsSpec.plain.varTypes Tryz.prog) (ds ++ gs)).all (· ≤ reachBytes) = true) :
    Calls Tryz.prog 4 args W fun e W' => ∃ v, e = .returned v ∧ Rows.packetSealsSpec.post enc Tryz.prog Tryz.f4 false true false false W args v W' := by
  have hW' := hW
  obtain ⟨p, q, hA0, hV, rfl, hfz, hnd⟩ := hW
  have hA : DataW.TrodAll enc Tryz.prog W 0 (fun _ => true) true Tryz.f4.params.toList args.toList ds p := hA0
  rw [Tryz.params4] at hA hval hsz0
  obtain ⟨v0, vs0, d0, ds0, p0, q0, hargs, rfl, rfl, h0, r0⟩ := trodAll_cons hA
  obtain ⟨v1, vs1, d1, ds1, p1, q1, rfl, rfl, rfl, h1, r1⟩ := trodAll_cons r0
  obtain ⟨rfl, rfl, rfl⟩ := trodAll_nil r1
  obtain rfl : args = #[v0, v1] := by cases args; simp_all
  obtain ⟨rfl, rfl⟩ := trodVars_none hV
  have k0 := h0
  have lt0 : ∀ x ∈ p0, x.block < W.heap.size := by obtain ⟨m, hm⟩ := k0; exact DataW.trod_lt m _ _ _ hm
  obtain ⟨A0, rfl, wl0, wb0⟩ := hash_open (hval 0 47 v0 rfl rfl) h0
  have k1 := h1
  have lt1 : ∀ x ∈ p1, x.block < W.heap.size := by obtain ⟨m, hm⟩ := k1; exact DataW.trod_lt m _ _ _ hm
  obtain ⟨L1, w1⟩ := pkt_in (hval 1 49 v1 rfl rfl) h1
  clear hA0
  refine (walk A0 v1 L1 W (tbs_of hL) wl0 wb0 w1).mono fun e W' ⟨he, bel⟩ => ?_
  subst he
  exact ⟨_, rfl, _, _, _, [], _, [], hW', trodAll_mk1 (shut_bool Tryz.underlying4 _), (trodAll_cons_mk (Below.trod laidOut (by kernel_rfl) (of_decide_eq_true (by kernel_rfl)) k0 bel lt0) (trodAll_cons_mk (Below.trod laidOut (by kernel_rfl) (of_decide_eq_true (by kernel_rfl)) k1 bel lt1) trodAll_mk0)), rfl, bel.frame _, fun h => by cases h⟩

theorem laid_met (os : Os) : laidMet Tryz.prog Rows.packetSealsRow.laid (({ World.holding Tryz.prog os ⟨#[], #[], []⟩ with heap := (((((World.holding Tryz.prog os ⟨#[], #[], []⟩).heap.modify 0 (fun
      | .cells _ t frozen => .cells shpT t frozen
      | o => o)).modify 1 (fun
      | .cells _ t frozen => .cells widT t frozen
      | o => o)).modify 2 (fun
      | .cells _ t frozen => .cells firT t frozen
      | o => o)).modify 3 (fun
      | .cells _ t frozen => .cells rndT t frozen
      | o => o)) } : World).forCall (fun _ _ => 0) ⟨#[], #[.agg #[.int .u8 0, .int .u8 0, .int .u8 0, .int .u8 0, .int .u8 0, .int .u8 0, .int .u8 0, .int .u8 0, .int .u8 0, .int .u8 0, .int .u8 0, .int .u8 0, .int .u8 0, .int .u8 0, .int .u8 0, .int .u8 0, .int .u8 0, .int .u8 0, .int .u8 0, .int .u8 0, .int .u8 0, .int .u8 0, .int .u8 0, .int .u8 0, .int .u8 0, .int .u8 0, .int .u8 0, .int .u8 0, .int .u8 0, .int .u8 0, .int .u8 0, .int .u8 0], .agg #[.int .u8 0, .int .i64 0, .int .i64 0, .slice none 0 0]], []⟩).memory :=
  laidMet_of_run' 8 (by kernel_rfl) (by kernel_rfl)
theorem reads (os : Os) {H : Type} (enc : TypeId × Value → H) : ∃ places, DataW.whole enc Tryz.prog (({ World.holding Tryz.prog os ⟨#[], #[], []⟩ with heap := (((((World.holding Tryz.prog os ⟨#[], #[], []⟩).heap.modify 0 (fun
      | .cells _ t frozen => .cells shpT t frozen
      | o => o)).modify 1 (fun
      | .cells _ t frozen => .cells widT t frozen
      | o => o)).modify 2 (fun
      | .cells _ t frozen => .cells firT t frozen
      | o => o)).modify 3 (fun
      | .cells _ t frozen => .cells rndT t frozen
      | o => o)) } : World).forCall (fun _ _ => 0) ⟨#[], #[.agg #[.int .u8 0, .int .u8 0, .int .u8 0, .int .u8 0, .int .u8 0, .int .u8 0, .int .u8 0, .int .u8 0, .int .u8 0, .int .u8 0, .int .u8 0, .int .u8 0, .int .u8 0, .int .u8 0, .int .u8 0, .int .u8 0, .int .u8 0, .int .u8 0, .int .u8 0, .int .u8 0, .int .u8 0, .int .u8 0, .int .u8 0, .int .u8 0, .int .u8 0, .int .u8 0, .int .u8 0, .int .u8 0, .int .u8 0, .int .u8 0, .int .u8 0, .int .u8 0], .agg #[.int .u8 0, .int .i64 0, .int .i64 0, .slice none 0 0]], []⟩).memory Tryz.f4.params.toList Rows.packetSealsSpec.vars false #[Value.agg #[.int .u8 0, .int .u8 0, .int .u8 0, .int .u8 0, .int .u8 0, .int .u8 0, .int .u8 0, .int .u8 0, .int .u8 0, .int .u8 0, .int .u8 0, .int .u8 0, .int .u8 0, .int .u8 0, .int .u8 0, .int .u8 0, .int .u8 0, .int .u8 0, .int .u8 0, .int .u8 0, .int .u8 0, .int .u8 0, .int .u8 0, .int .u8 0, .int .u8 0, .int .u8 0, .int .u8 0, .int .u8 0, .int .u8 0, .int .u8 0, .int .u8 0, .int .u8 0], .agg #[.int .u8 0, .int .i64 0, .int .i64 0, .slice none 0 0]].toList 8 = some ([.agg [.lit (.int .u8 0), .lit (.int .u8 0), .lit (.int .u8 0), .lit (.int .u8 0), .lit (.int .u8 0), .lit (.int .u8 0), .lit (.int .u8 0), .lit (.int .u8 0), .lit (.int .u8 0), .lit (.int .u8 0), .lit (.int .u8 0), .lit (.int .u8 0), .lit (.int .u8 0), .lit (.int .u8 0), .lit (.int .u8 0), .lit (.int .u8 0), .lit (.int .u8 0), .lit (.int .u8 0), .lit (.int .u8 0), .lit (.int .u8 0), .lit (.int .u8 0), .lit (.int .u8 0), .lit (.int .u8 0), .lit (.int .u8 0), .lit (.int .u8 0), .lit (.int .u8 0), .lit (.int .u8 0), .lit (.int .u8 0), .lit (.int .u8 0), .lit (.int .u8 0), .lit (.int .u8 0), .lit (.int .u8 0)], .agg [.lit (.int .u8 0), .lit (.int .i64 0), .lit (.int .i64 0), .nil]], [], places) :=
  ⟨[], by kernel_rfl⟩

set_option maxRecDepth 100000 in
theorem lifted (os : Os) (started : os.Started) (H : Type) (enc : TypeId × Value → H) (F : Stop.Interp) :
    ReturnsInHanded {} Tryz.checked os 4 .any ((OpenSpec.ofChange Rows.packetSealsSpec).preRow enc Tryz.prog Tryz.f4 Rows.packetSealsRow.domain false Rows.packetSealsRow.laid) (((OpenSpec.ofChange Rows.packetSealsSpec).at F).post enc Tryz.prog Tryz.f4 false true false false) := by
  obtain ⟨places, hx⟩ := reads os enc
  refine returnsInHanded_of_row (C := Tryz.checked) (s := OpenSpec.ofChange Rows.packetSealsSpec) own started (by kernel_rfl) Tryz.func4
    (witness_row_at (enc := enc) (C := Tryz.checked) false ({ World.holding Tryz.prog os ⟨#[], #[], []⟩ with heap := (((((World.holding Tryz.prog os ⟨#[], #[], []⟩).heap.modify 0 (fun
      | .cells _ t frozen => .cells shpT t frozen
      | o => o)).modify 1 (fun
      | .cells _ t frozen => .cells widT t frozen
      | o => o)).modify 2 (fun
      | .cells _ t frozen => .cells firT t frozen
      | o => o)).modify 3 (fun
      | .cells _ t frozen => .cells rndT t frozen
      | o => o)) } : World) #[.agg #[.int .u8 0, .int .u8 0, .int .u8 0, .int .u8 0, .int .u8 0, .int .u8 0, .int .u8 0, .int .u8 0, .int .u8 0, .int .u8 0, .int .u8 0, .int .u8 0, .int .u8 0, .int .u8 0, .int .u8 0, .int .u8 0, .int .u8 0, .int .u8 0, .int .u8 0, .int .u8 0, .int .u8 0, .int .u8 0, .int .u8 0, .int .u8 0, .int .u8 0, .int .u8 0, .int .u8 0, .int .u8 0, .int .u8 0, .int .u8 0, .int .u8 0, .int .u8 0], .agg #[.int .u8 0, .int .i64 0, .int .i64 0, .slice none 0 0]] rfl (by kernel_rfl) (by kernel_rfl) (by kernel_rfl)
      (OpenSpec.preRow_of_cond 8 hx (by kernel_rfl) (fun k hk => by cases hk) (by kernel_rfl) (laid_met os))) ?_
  intro W base args ds gs before hval hW _ _ hsz hL _ _
  exact contract H enc W base args ds gs before hval hW hL hsz

theorem said : Rows.PacketSealsSaid :=
  OpenClaim.holds_of_cond 4 Tryz.f4 rfl rfl rfl rfl rfl rfl rfl ⟨rfl, rfl, rfl, rfl, rfl⟩ rfl rfl rfl rfl rfl (by kernel_rfl) Tryz.func4 (by kernel_rfl)
    (of_decide_eq_true (by kernel_rfl)) (by unfold Func.isWrapper; first | (rw [if_pos (by decide +kernel)]; kernel_rfl) | (rw [if_neg (by decide +kernel)]; exact ⟨rfl, rfl⟩))
    (fun os started H enc _ F => by rw [OpenClaim.pre_eq_preRow]; exact lifted os started H enc F)

theorem plain (f : FuncId) (fn : Func) (hf : Tryz.pinned.checked.prog.funcNamed "sumpter/sumpterlaw19.PacketSeals" = some f) (hfn : Tryz.pinned.checked.prog.funcs[f]? = some fn) :
    true = Tryz.pinned.checked.prog.looks [] ∧ ∀ (j : Nat) t, fn.params[j]? = some t → Tryz.pinned.checked.prog.wantsStandIn t = false := by
  obtain rfl : f = 4 := Option.some.inj ((show Tryz.prog.funcNamed "sumpter/sumpterlaw19.PacketSeals" = some 4 by kernel_rfl).symm.trans hf) |>.symm
  obtain rfl : fn = Tryz.f4 := (Option.some.inj (Tryz.func4.symm.trans hfn)).symm
  refine ⟨by kernel_rfl, fun j t ht => ?_⟩
  rw [Tryz.params4] at ht
  have hm : t ∈ [47, 49] := by simpa using Array.mem_of_getElem? ht
  have hall : ([47, 49].all fun u => !Tryz.prog.wantsStandIn u) = true := by kernel_rfl
  exact (show Tryz.prog.wantsStandIn t = false by simpa using List.all_eq_true.1 hall t hm)
end Go.Proofs.YtiollhmbdhepkaaGreatDoor.packetSeals

namespace Go.Proofs.YtiollhmbdhepkaaGreatDoor
/-- The card of PacketSeals. -/
theorem packetSeals_card : Rows.PacketSealsCardSaid :=
  Claim7.holds_tied_plain_at .later [] _ _ _ _ packetSeals.said (fun _ h => by cases h) (by kernel_rfl) (fun _ h => by cases h) packetSeals_row_tie rfl ⟨rfl, rfl⟩ (by kernel_rfl) rfl packetSeals.plain (by kernel_rfl)
#print axioms packetSeals_card
end Go.Proofs.YtiollhmbdhepkaaGreatDoor
