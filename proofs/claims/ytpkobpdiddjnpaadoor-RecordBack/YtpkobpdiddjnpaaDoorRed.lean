/-
  What read answers.
-/
import Derived.Test.YtpkobpdiddjnpaaDoorRd0
namespace Go.Proofs.YtpkobpdiddjnpaaDoor
open Go.RowKit
set_option maxRecDepth 100000

theorem rB_bd (xs : List Int) (e : Int) (hb : ∀ i, 0 ≤ xs.getD i 0 ∧ xs.getD i 0 < 256) : 0 ≤ (rB xs e).1 ∧ (rB xs e).1 < 256 := by
  unfold rB
  split
  · exact hb 0
  · exact ⟨by show (0 : Int) ≤ 0; omega, by show (0 : Int) < 256; omega⟩
theorem slb {w : World} {g s : Nat} {xs : List Int} {e : Int} (h : Fi.Rd w g s xs e) : ∀ i, 0 ≤ xs.getD i 0 ∧ xs.getD i 0 < 256 := h.bytes
theorem nx_ok (k i : Int) (hk : 0 ≤ k ∧ k < 256) (hi : 0 ≤ i ∧ i < 4611686018427387904) : Rc.ok ⟨k, ⟨i, ⟨#[]⟩, z32, 0, 0⟩⟩ := ⟨hk.1, hk.2, z32_len, z32_bytes, by unfold i64; simp; omega, i64_0, i64_0⟩
theorem pw_le {i : Int} (h : 0 ≤ i ∧ i < 4611686018427387904) : i64 i := by unfold i64; omega
set_option maxHeartbeats 4000000 in
theorem read_any (v : Value) (X : List Int) (w : World) (h : Sl w v X) (ht : Tb w) (hl : X.length ≤ 1000000) :
    Calls Tryd.prog 56 #[v] w fun e w' => e = .returned (rdR X).val ∧ Below w.heap.size w w' := by
  obtain ⟨W1, hW1⟩ : ∃ W1, W1 = w.alloc (.cells rzc 33) := ⟨_, rfl⟩
  have hwz : w.alloc (.cells #[.int .u8 0, .int .i64 0, .string ⟨#[]⟩, .int .u8 0, .int .u8 0, .int .u8 0, .int .u8 0, .int .u8 0, .int .u8 0, .int .u8 0, .int .u8 0, .int .u8 0, .int .u8 0, .int .u8 0, .int .u8 0, .int .u8 0, .int .u8 0, .int .u8 0, .int .u8 0, .int .u8 0, .int .u8 0, .int .u8 0, .int .u8 0, .int .u8 0, .int .u8 0, .int .u8 0, .int .u8 0, .int .u8 0, .int .u8 0, .int .u8 0, .int .u8 0, .int .u8 0, .int .u8 0, .int .u8 0, .int .u8 0, .int .i64 0, .int .i64 0] 33) = W1 := hW1.symm
  have b1 : Below w.heap.size w W1 := by rw [hW1]; exact al_below _ _
  have s1 : W1.heap.size = w.heap.size + 1 := by rw [hW1]; simp
  have g1 : W1.heap[w.heap.size]? = some (.cells rzc 33 (0, 0)) := by rw [hW1]; exact heap_alloc_new _ _
  have hw1 := (ht.kept b1).2.1
  have hpos := ht.2.1.pos
  have C0 : Hid (Calls Tryd.prog 73 #[v] W1 fun r w' => ∃ g s, r = .returned (.pointer (some ⟨g, 0, none⟩)) ∧ RX w g s X 0 w') := by
    refine (Fi.new_any v X W1 hw1 (fsl (h.kept b1)) (by omega)).mono ?_
    rintro e w' ⟨g, s, rfl, h1, h2, h3, h4, h5⟩
    refine ⟨g, s, rfl, h4, blk_kept g1 h5 (by omega), b1.trans (h5.mono b1.size), by omega, ?_, h2, ?_, hw1.below h5 hw1.pos⟩
    · rcases h3 with h3 | h3 <;> omega
    · have := h5.size
      rcases h3 with h3 | h3 <;> omega
  have HBY : Hid (∀ i, 0 ≤ X.getD i 0 ∧ X.getD i 0 < 256) := h.bytes
  obtain ⟨va, vc, rfl, -⟩ := id h
  have HT : Hid (rdR X = (let b := rB X 0; let n := rN b.2.1 b.2.2 1099511627776; if b.1 = 0 then let t := rT n.2.1 n.2.2 128; let q := rR t.2.1 t.2.2 32; let z := rN q.2.1 q.2.2 65536; ⟨b.1, ⟨n.1, Fi.strB t.1, ov32 q.1, z.1, 0⟩⟩ else if b.1 = 1 then let o := rN n.2.1 n.2.2 65536; ⟨b.1, ⟨n.1, ⟨#[]⟩, z32, 0, o.1⟩⟩ else ⟨b.1, ⟨n.1, ⟨#[]⟩, z32, 0, 0⟩⟩)) := rfl
  have BB := rB_bd X 0 h.bytes
  clear hW1 b1 s1 g1 hw1 hpos h ht hl
  generalize rdR X = R9 at *
  have c0 := C0.out
  clear C0
  generalize X.length = XL at *
  go_enter Tryd.func56, Tryd.ntmps56
  go_wp2_with fail
  try rw [hwz]
  clear hwz
  refine c0.mono ?_
  rintro e w2 ⟨g, s, rfl, rx2⟩
  have C2 := rdByte g s X 0 w2 rx2.rd
  have X2 : Hid (RX w g s X 0 w2) := rx2
  clear c0 rx2
  generalize rB X 0 = b at *
  obtain ⟨bb, by', be⟩ := b
  simp only at C2 HT BB
  go_wp2_with fail
  refine C2.mono ?_
  rintro e w3 ⟨rfl, rd3, of3⟩
  have rx3 := X2.out.off rd3 of3
  have C3 := rdNum g s by' be 1099511627776 w3 rx3.wid rx3.rd
  have NB := rN_bd by' be 1099511627776 (slb rd3)
  have X3 : Hid (RX w g s by' be w3) := rx3
  clear C2 rd3 of3 rx3 X2
  generalize rN by' be 1099511627776 = n at *
  obtain ⟨nn, ny, ne⟩ := n
  simp only at C3 HT NB
  obtain ⟨x0, hx0⟩ : ∃ x0 : Rc, x0 = ⟨bb, ⟨nn, ⟨#[]⟩, z32, 0, 0⟩⟩ := ⟨_, rfl⟩
  have ok0 : x0.ok := by rw [hx0]; exact nx_ok bb nn BB NB
  have BX : Hid (Tryd.prog.built 33 [(0, .int .u8 bb), (1, .int .i64 nn)] = some x0.cells.toArray) := by unfold Hid; rw [hx0]; exact bRS bb nn
  have HX0 : Hid (x0 = ⟨bb, ⟨nn, ⟨#[]⟩, z32, 0, 0⟩⟩) := hx0
  have HOK : Hid x0.ok := ok0
  have HI : Hid ((Tryd.prog.info? 33).map (·.size) = some x0.cells.toArray.size) := Rc.infoA x0 ok0
  have HE2 : Hid (rzc.size = x0.cells.toArray.size) := rzc_size.trans (Rc.size x0 ok0).symm
  have H1 : Hid (x0.cells.toArray.all (·.oneCell') = true) := Rc.ones x0
  go_wp2_with fail
  refine C3.mono ?_
  rintro e w4 ⟨rfl, rd4, of4⟩
  have rx4 := X3.out.off rd4 of4
  have X4 : Hid (RX w g s ny ne w4) := rx4
  have HBN : Hid (∀ i, 0 ≤ ny.getD i 0 ∧ ny.getD i 0 < 256) := slb rd4
  clear C3 rd4 of4 X3 ok0 hx0
  obtain ⟨W5, hW5⟩ : ∃ W5, W5 = w4.alloc (.cells x0.cells.toArray 33) := ⟨_, rfl⟩
  have e1 := alloc_rc w4 x0
  rw [← hW5] at e1
  have HE1 : Hid ((w4.alloc (.cells #[.int .u8 0, .int .i64 0, .string ⟨#[]⟩, .int .u8 0, .int .u8 0, .int .u8 0, .int .u8 0, .int .u8 0, .int .u8 0, .int .u8 0, .int .u8 0, .int .u8 0, .int .u8 0, .int .u8 0, .int .u8 0, .int .u8 0, .int .u8 0, .int .u8 0, .int .u8 0, .int .u8 0, .int .u8 0, .int .u8 0, .int .u8 0, .int .u8 0, .int .u8 0, .int .u8 0, .int .u8 0, .int .u8 0, .int .u8 0, .int .u8 0, .int .u8 0, .int .u8 0, .int .u8 0, .int .u8 0, .int .u8 0, .int .i64 0, .int .i64 0] 33)).setRow w4.heap.size x0.cells.toArray = W5) := e1
  have ry5 : RY w g s ny ne w4.heap.size x0 W5 := by rw [hW5]; exact rx4.alloc x0
  clear e1 hW5 rx4 X4
  go_wp2_with (refine wpList_built rfl 33 _ rfl [(0, .int .u8 bb), (1, .int .i64 nn)] rfl x0.cells.toArray BX.out (Hid.out ?_))
  unfold Hid
  go_wp2_with (refine wpList_store_row rfl 33 _ _ rfl w4.heap.size x0.cells.toArray rfl rfl 33 rzc (new_rc w4) HI.out HE2.out H1.out (Hid.out ?_))
  unfold Hid
  rw [HE1.out]
  obtain ⟨RN, hRN⟩ : ∃ RN, RN = w4.heap.size := ⟨_, rfl⟩
  rw [← hRN] at ry5 ⊢
  clear hRN HE1 HI HE2 H1 BX
  have k0 : W5.cell? ⟨RN, 0, none⟩ = some (.int .u8 bb) := by
    have := (rcC (blk_range ry5.rcd) HOK.out).1
    rw [HX0.out] at this
    exact this
  have Y5 : Hid (RY w g s ny ne RN x0 W5) := ry5
  clear ry5
  by_cases hb0 : bb = 0
  · have HT2 := HT.out
    rw [if_pos hb0] at HT2
    rw [hb0] at k0
    have C6 := rdText g s ny ne 128 W5 Y5.out.rx.wid Y5.out.rx.rd
    clear HT
    generalize rT ny ne 128 = t at *
    obtain ⟨tt, ty, te⟩ := t
    simp only at C6 HT2
    generalize Fi.strB tt = PP at *
    go_wp2_with fail
    refine C6.mono ?_
    rintro e w6 ⟨rfl, rd6, of6⟩
    have ry6 := Y5.out.off rd6 of6
    have HBT : Hid (∀ i, 0 ≤ ty.getD i 0 ∧ ty.getD i 0 < 256) := slb rd6
    obtain ⟨x1, hx1⟩ : ∃ x1 : Rc, x1 = { x0 with x := { x0.x with p := PP } } := ⟨_, rfl⟩
    have ry7 := ry6.set (y := x1) 2 (.string PP) (by rw [hx1]; exact rc_setP x0 PP)
    have k2 : w6.cell? ⟨RN, 2, none⟩ = some (.string x0.x.p) := (rcC (blk_range ry6.rcd) HOK.out).2.2.1
    have f2 : w6.frozen? ⟨RN, 2, none⟩ = false := by simp [World.frozen?, ry6.rcd]
    have HX1 : Hid (x1 = ⟨bb, ⟨nn, PP, z32, 0, 0⟩⟩) := by unfold Hid; rw [hx1, HX0.out]
    obtain ⟨W7, hW7⟩ : ∃ W7, W7 = w6.setCell ⟨RN, 2, none⟩ (.string PP) := ⟨_, rfl⟩
    rw [← hW7] at ry7
    have hw7 := hW7.symm
    have Y7 : Hid (RY w g s ty te RN x1 W7) := ry7
    clear C6 rd6 of6 Y5 ry6 ry7 k0 hW7 hx1
    go_wp2_with fail
    try rw [hw7]
    clear hw7 k2 f2
    have CR : Hid (∀ W, RY w g s ty te RN x1 W → Calls Tryd.prog 77 #[.pointer (some ⟨g, 0, none⟩), .int .i64 32] W fun r w' => r = .returned (.string (Fi.strB (rR ty te 32).1)) ∧ Fi.Rd w' g s (rR ty te 32).2.1 (rR ty te 32).2.2 ∧ Fi.Off g W w') := fun W hW => rdRaw g s ty te 32 W hW.rx.rd
    have HQL : Hid ((rR ty te 32).1.length ≤ 32) := rR_len ty te 32
    have HQB : Hid (∀ k, 0 ≤ (rR ty te 32).1.getD k 0 ∧ (rR ty te 32).1.getD k 0 < 256) := rR_bytes ty te 32 HBT.out
    generalize rR ty te 32 = q at *
    obtain ⟨qq, qy, qe⟩ := q
    simp only at CR HT2 HQL HQB
    obtain ⟨x2, hx2⟩ : ∃ x2 : Rc, x2 = { x1 with x := { x1.x with s := ov32 qq } } := ⟨_, rfl⟩
    have HX2 : Hid (x2 = ⟨bb, ⟨nn, PP, ov32 qq, 0, 0⟩⟩) := by unfold Hid; rw [hx2, HX1.out]
    have HOV : Hid ((x1.cells.toArray.toList.take 3 ++ Lib.byteCells (Fi.strB qq).data.toList ++ x1.cells.toArray.toList.drop (3 + qq.length)) = x2.cells) := by
      unfold Hid
      rw [hx2]
      exact over_rc x1 (by rw [HX1.out]) qq HQB.out HQL.out
    have HSB : Hid ((Fi.strB qq).size = qq.length) := Fi.strB_size qq
    have HX1S : Hid (x1.cells.toArray.size = 37) := by
      unfold Hid
      rw [HX1.out]
      simp [Rc.cells, Pa.cells, z32_len]
    clear hx2
    generalize Fi.strB qq = SS at *
    refine wp_region_held_drew (S := fun _ => True) (by kernel_rfl) trivial (fun _ => ?_)
    refine wpAnyH_name (fun u0 hu0 => ?_)
    have bu0 : Below W7.heap.size W7 u0 := by rw [hu0.out]; exact (Below.refl _ _).drew
    have Yu0 : RY w g s ty te RN x1 u0 := by rw [hu0.out]; exact ⟨⟨Y7.out.rx.rd.kept (Below.refl _ _).drew, Y7.out.rx.res, Y7.out.rx.bel.drew, Y7.out.rx.gt, Y7.out.rx.st, Y7.out.rx.lt, Y7.out.rx.sl, Y7.out.rx.wid.below (Below.refl _ _).drew Y7.out.rx.wid.pos⟩, Y7.out.rcd, Y7.out.gr, Y7.out.sr⟩
    refine wpAnyH_take (i := 0) (oi := { dst := some 19, op := Op.fieldAddr 33 (Operand.tmp 4) 3, type := 0, pos := "record.go:223", after := #[], guard := none }) (v := ?vr1) rfl (by kernel_rfl) (by kernel_rfl) (by kernel_rfl) (fun _ _ _ h => h) (Or.inl ⟨by rfl, ?yr1⟩) trivial ?rr1
    case yr1 => (intro w hSw; go_simp; try with_reducible rfl)
    try simp only [Act.put, List.setIfInBounds_toArray, List.set_cons_zero, List.set_cons_succ]
    refine wpAnyH_take (i := 1) (oi := { dst := some 20, op := Op.slice 23 (Operand.tmp 19) none none none, type := 27, pos := "record.go:223", after := #[{ on := 0, ground := Ground.data }], guard := none }) (v := ?vr2) rfl (by kernel_rfl) (by kernel_rfl) (by kernel_rfl) (fun _ _ _ h => h) (Or.inl ⟨by rfl, ?yr2⟩) trivial ?rr2
    case yr2 => (intro w hSw; go_simp; try with_reducible rfl)
    try simp only [Act.put, List.setIfInBounds_toArray, List.set_cons_zero, List.set_cons_succ]
    refine wpAnyH_take (i := 2) (oi := { dst := some 21, op := Op.move (Operand.tmp 3), type := 111, pos := "record.go:223", after := #[], guard := none }) (v := ?vr3) rfl (by kernel_rfl) (by kernel_rfl) (by kernel_rfl) (fun _ _ _ h => h) (Or.inl ⟨by rfl, ?yr3⟩) trivial ?rr3
    case yr3 => (intro w hSw; go_simp; try with_reducible rfl)
    try simp only [Act.put, List.setIfInBounds_toArray, List.set_cons_zero, List.set_cons_succ]
    refine wpAnyH_ready (rs := [3]) (by kernel_rfl) (by simp) ?_
    refine AllReadyH.cons (o := { dst := some 22, op := Op.call { callee := Callee.value (Operand.func 77), args := #[Operand.tmp 21, Operand.const (Value.int IntKind.i64 32)], argTypes := #[111, 3] }, type := 9, pos := "record.go:223", after := #[{ on := 2, ground := Ground.data }], guard := none }) rfl (fun KK hKK => ?_) ?_
    · go_simp
      refine (CR.out _ Yu0).mono ?_
      rintro r u4' ⟨rfl, rdu4, ofu4⟩
      (try go_wp2_with fail)
      refine hKK.out _ _ trivial (fun _ => ?_)
      clear hKK KK
      try simp only [Act.put, List.setIfInBounds_toArray, List.set_cons_zero, List.set_cons_succ]
      refine wpAnyH_name (fun u4 hu4 => ?_)
      rw [← hu4.out] at rdu4 ofu4
      have Yu4 := Yu0.off rdu4 ofu4
      clear ofu4 rdu4
      refine wpAnyH_ready (rs := [4]) (by kernel_rfl) (by simp) ?_
      refine AllReadyH.cons (o := { dst := some 23, op := Op.call { callee := Callee.builtin Builtin.copy, args := #[Operand.tmp 20, Operand.tmp 22], argTypes := #[27, 9] }, type := 3, pos := "record.go:223", after := #[{ on := 1, ground := Ground.data }, { on := 3, ground := Ground.data }, { on := 3, ground := Ground.chain }], guard := none }) rfl (fun KK hKK => ?_) ?_
      · refine wp_copy_str _ _ 27 9 rfl 5 Tryd.underlying27 size5 RN 3 32 32 SS rfl rfl x1.cells.toArray 33 Yu4.rcd (by have := HSB.out; have := HQL.out; omega) (by have := HSB.out; have := HQL.out; have := HX1S.out; omega) ?_
        rw [HSB.out, HOV.out]
        refine hKK.out _ _ trivial (fun _ => ?_)
        clear hKK KK
        try simp only [Act.put, List.setIfInBounds_toArray, List.set_cons_zero, List.set_cons_succ]
        refine wpAnyH_name (fun u5 hu5 => ?_)
        have Zu5 := Yu4.upd (y := x2) (off_setRow u4 RN x2.cells.toArray) (setRow_heap _ _ _ _ _ _ Yu4.rcd)
        rw [← hu5.out] at Zu5
        refine wpAnyH_done (by kernel_rfl) ?_ _
        obtain ⟨W8, hW8⟩ : ∃ W8, W8 = u5 := ⟨_, rfl⟩
        have Z8 : RY w g s qy qe RN x2 W8 := by rw [hW8]; exact Zu5
        rw [← hW8]
        clear hW8 Zu5
        have C9 := rdNum g s qy qe 65536 W8 Z8.rx.wid Z8.rx.rd
        have NB2 := rN_bd qy qe 65536 (slb Z8.rx.rd)
        have Y8 : Hid (RY w g s qy qe RN x2 W8) := Z8
        clear Z8 CR HOV
        generalize rN qy qe 65536 = z at *
        obtain ⟨zz, zy, ze⟩ := z
        simp only at C9 HT2 NB2
        go_wp2_with fail
        refine C9.mono ?_
        rintro e w9 ⟨rfl, rd9, of9⟩
        have ry9 := Y8.out.off rd9 of9
        have ok2 : x2.ok := by rw [HX2.out]; have h0 := HOK.out; rw [HX0.out] at h0; exact ⟨h0.1, h0.2.1, ov32_len _ HQL.out, ov32_bytes _ HQB.out, h0.2.2.2.2.1, i64_0, i64_0⟩
        obtain ⟨x3, hx3⟩ : ∃ x3 : Rc, x3 = { x2 with x := { x2.x with n := zz } } := ⟨_, rfl⟩
        have rya := ry9.set (y := x3) 35 (.int .i64 zz) (by rw [hx3]; exact rc_setN x2 ok2.2.2.1 zz)
        have k2 : w9.cell? ⟨RN, 35, none⟩ = some (.int .i64 x2.x.n) := (rcC (blk_range ry9.rcd) ok2).2.2.2.2.1
        have f2 : w9.frozen? ⟨RN, 35, none⟩ = false := by simp [World.frozen?, ry9.rcd]
        have ok3 : x3.ok := by rw [hx3]; exact ⟨ok2.1, ok2.2.1, ok2.2.2.1, ok2.2.2.2.1, ok2.2.2.2.2.1, pw_le NB2, ok2.2.2.2.2.2.2⟩
        obtain rfl : R9 = x3 := by rw [HT2, hx3, HX2.out]
        obtain ⟨Wa, hWa⟩ : ∃ Wa, Wa = w9.setCell ⟨RN, 35, none⟩ (.int .i64 zz) := ⟨_, rfl⟩
        rw [← hWa] at rya
        have hwa := hWa.symm
        have Ya : Hid (RY w g s zy ze RN R9 Wa) := rya
        have OK3 : Hid R9.ok := ok3
        have ZR : Hid (Wa.rangeAt RN 0 R9.cells) := blk_range rya.rcd
        have ZZ : Hid ((Tryd.prog.info? 33).map (·.size) = some R9.cells.length) := Rc.infoL R9 ok3
        clear C9 rd9 of9 Y8 ry9 rya hWa hx3 HT2 ok2 ok3
        go_wp2_with (first | refine wpList_load_mid rfl 33 _ rfl RN 0 rfl R9.cells _ ZR.out Tryd.underlying33 rfl ZZ.out ?_ | refine wpList_store_row rfl 33 _ _ rfl w.heap.size R9.cells.toArray rfl rfl 33 rzc Ya.out.rx.res (Rc.infoA _ OK3.out) (rzc_size.trans (Rc.size _ OK3.out).symm) (Rc.ones _) ?_)
        exact bodyPost_ret (v := R9.val) (results_cell_row rfl _ _ w.heap.size 33 R9.cells.toArray (0, 0) _ rfl (setRow_heap _ _ _ _ _ _ Ya.out.rx.res) Tryd.underlying33 rfl (Rc.infoA _ OK3.out)) rfl ⟨rfl, below_setRow Ya.out.rx.bel (Nat.le_refl _) _⟩
      exact AllReadyH.nil
    exact AllReadyH.nil
  · have hb0' : (bb == 0) = false := by simpa using hb0
    by_cases hb1 : bb = 1
    · have HT2 := HT.out
      rw [if_neg hb0, if_pos hb1] at HT2
      rw [hb1] at k0
      have C6 := rdNum g s ny ne 65536 W5 Y5.out.rx.wid Y5.out.rx.rd
      have NB2 := rN_bd ny ne 65536 HBN.out
      clear HT
      generalize rN ny ne 65536 = o at *
      obtain ⟨oo, oy, oe⟩ := o
      simp only at C6 HT2 NB2
      go_wp2_with fail
      refine C6.mono ?_
      rintro e w6 ⟨rfl, rd6, of6⟩
      have ry6 := Y5.out.off rd6 of6
      obtain ⟨x1, hx1⟩ : ∃ x1 : Rc, x1 = { x0 with x := { x0.x with o := oo } } := ⟨_, rfl⟩
      have ry7 := ry6.set (y := x1) 36 (.int .i64 oo) (by rw [hx1]; exact rc_setO x0 HOK.out.2.2.1 oo)
      have k2 : w6.cell? ⟨RN, 36, none⟩ = some (.int .i64 x0.x.o) := (rcC (blk_range ry6.rcd) HOK.out).2.2.2.2.2
      have f2 : w6.frozen? ⟨RN, 36, none⟩ = false := by simp [World.frozen?, ry6.rcd]
      have ok1 : x1.ok := by rw [hx1]; exact ⟨HOK.out.1, HOK.out.2.1, HOK.out.2.2.1, HOK.out.2.2.2.1, HOK.out.2.2.2.2.1, HOK.out.2.2.2.2.2.1, pw_le NB2⟩
      obtain rfl : R9 = x1 := by rw [HT2, hx1, HX0.out]
      obtain ⟨W7, hW7⟩ : ∃ W7, W7 = w6.setCell ⟨RN, 36, none⟩ (.int .i64 oo) := ⟨_, rfl⟩
      rw [← hW7] at ry7
      have hw7 := hW7.symm
      have Y7 : Hid (RY w g s oy oe RN R9 W7) := ry7
      have OK1 : Hid R9.ok := ok1
      have ZR : Hid (W7.rangeAt RN 0 R9.cells) := blk_range ry7.rcd
      have ZZ : Hid ((Tryd.prog.info? 33).map (·.size) = some R9.cells.length) := Rc.infoL R9 ok1
      clear C6 rd6 of6 Y5 ry6 ry7 k0 hW7 hx1 HT2 ok1
      go_wp2_with (first
        | refine wpList_load_mid rfl 33 _ rfl RN 0 rfl R9.cells _ ZR.out Tryd.underlying33 rfl ZZ.out ?_
        | refine wpList_store_row rfl 33 _ _ rfl w.heap.size R9.cells.toArray rfl rfl 33 rzc Y7.out.rx.res (Rc.infoA _ OK1.out) (rzc_size.trans (Rc.size _ OK1.out).symm) (Rc.ones _) ?_)
      exact bodyPost_ret (v := R9.val) (results_cell_row rfl _ _ w.heap.size 33 R9.cells.toArray (0, 0) _ rfl (setRow_heap _ _ _ _ _ _ Y7.out.rx.res) Tryd.underlying33 rfl (Rc.infoA _ OK1.out)) rfl ⟨rfl, below_setRow Y7.out.rx.bel (Nat.le_refl _) _⟩
    · have hb1' : (bb == 1) = false := by simpa using hb1
      obtain rfl : R9 = x0 := by
        have HT2 := HT.out
        rw [if_neg hb0, if_neg hb1] at HT2
        rw [HT2, HX0.out]
      have ZR : Hid (W5.rangeAt RN 0 R9.cells) := blk_range Y5.out.rcd
      have ZZ : Hid ((Tryd.prog.info? 33).map (·.size) = some R9.cells.length) := Rc.infoL R9 HOK.out
      clear HT HX0
      go_wp2_with (first
        | refine wpList_load_mid rfl 33 _ rfl RN 0 rfl R9.cells _ ZR.out Tryd.underlying33 rfl ZZ.out ?_
        | refine wpList_store_row rfl 33 _ _ rfl w.heap.size R9.cells.toArray rfl rfl 33 rzc Y5.out.rx.res (Rc.infoA _ HOK.out) (rzc_size.trans (Rc.size _ HOK.out).symm) (Rc.ones _) ?_)
      exact bodyPost_ret (v := R9.val) (results_cell_row rfl _ _ w.heap.size 33 R9.cells.toArray (0, 0) _ rfl (setRow_heap _ _ _ _ _ _ Y5.out.rx.res) Tryd.underlying33 rfl (Rc.infoA _ HOK.out)) rfl ⟨rfl, below_setRow Y5.out.rx.bel (Nat.le_refl _) _⟩
end Go.Proofs.YtpkobpdiddjnpaaDoor
