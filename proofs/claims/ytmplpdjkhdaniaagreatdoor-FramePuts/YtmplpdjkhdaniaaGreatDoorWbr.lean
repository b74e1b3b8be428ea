/-
  What plainAhead answers, kind by kind.
-/
import Derived.Test.YtmplpdjkhdaniaaGreatDoorWbh
namespace Go.Proofs.YtmplpdjkhdaniaaGreatDoor
open Go.RowKit Go.Shelf
set_option maxRecDepth 100000

set_option maxHeartbeats 8000000 in
theorem ahd9 (v : Value) (ys : List Int) (w : World) (ht : Tb w) (h : Sl w v (9 :: ys)) (hl : (9 :: ys).length ≤ 100000) :
    Calls Tryz.prog 36 #[v] w fun e w' => ∃ sv, e = .returned (.tuple #[.agg (plA (ahM (9 :: ys)).1 sv), .int .i64 (ahM (9 :: ys)).2.1, .int .i64 (ahM (9 :: ys)).2.2]) ∧ RSp w' w.heap.size sv (ahM (9 :: ys)).1.sp ∧ Below w.heap.size w w' := by
  obtain ⟨W1, hW1⟩ : ∃ W1, W1 = w.alloc (.cells #[.int .u8 0, .int .i64 0, .int .i64 0, .int .i64 0, .bool false, .string ⟨#[]⟩, .int .u8 0, .int .u8 0, .int .u8 0, .int .u8 0, .int .u8 0, .int .u8 0, .int .u8 0, .int .u8 0, .int .u8 0, .int .u8 0, .int .u8 0, .int .u8 0, .int .u8 0, .int .u8 0, .int .u8 0, .int .u8 0, .slice none 0 0] 33) := ⟨_, rfl⟩
  have b1 : Below w.heap.size w W1 := by rw [hW1]; exact al_below _ _
  have g1 : PF W1 w.heap.size 33 Fm.zero (.slice none 0 0) := by rw [hW1]; exact heap_alloc_new _ _
  have z1 : W1.heap.size = w.heap.size + 1 := by rw [hW1]; simp
  have cn := Fi.new_any v (9 :: ys) W1 (ht.next b1).v (fsl (h.kept b1)) (by omega)
  obtain ⟨a, c, rfl, hlc, hcm, hnn, -⟩ := id h
  have HT : Hid (Tb w) := ht
  have HSL : Hid (Sl w (.slice a (9 :: ys).length c) (9 :: ys)) := h
  have HB1 : Hid (Below w.heap.size w W1) := b1
  have HP1 : Hid (PF W1 w.heap.size 33 Fm.zero (.slice none 0 0)) := g1
  have hpos := ht.pos
  clear ht h b1 g1
  obtain ⟨n, hn⟩ : ∃ n, n = (9 :: ys).length := ⟨_, rfl⟩
  have HN : Hid (n = (9 :: ys).length) := hn
  rw [← hn] at hl cn hlc ⊢
  clear hn
  go_enter Tryz.func36, Tryz.ntmps36
  go_upto_region 1 with fail
  rw [← hW1]
  clear hW1
  go_wp2_with fail
  refine cn.mono ?_
  rintro e w2 ⟨g, s, rfl, hg1, hg2, hs, rd2, b2⟩
  have HG : Hid (g ≠ w.heap.size ∧ s ≠ w.heap.size ∧ w.heap.size < g ∧ 2 ≤ g) := ⟨by omega, by omega, by omega, by omega⟩
  have HGZ : Hid (g < w2.heap.size ∧ s < w2.heap.size) := ⟨hg2, by omega⟩
  have B2 : Hid (Below w.heap.size w w2) := HB1.out.trans (b2.mono HB1.out.size)
  have PF2 : Hid (PF w2 w.heap.size 33 Fm.zero (.slice none 0 0)) := HP1.out.kept b2
  have cb := rdByte g s (9 :: ys) 0 w2 rd2
  rw [rBt_cons] at cb
  clear cn hg1 hg2 hs rd2 b2 HB1 HP1 z1
  go_wp2_with fail
  refine cb.mono ?_
  rintro e w3 ⟨rfl, rd3, bt3⟩
  have PF3 : Hid (PF w3 w.heap.size 33 Fm.zero (.slice none 0 0)) := PF2.out.bt bt3 (Ne.symm HG.out.1)
  have B3 : Hid (Below w.heap.size w w3) := bt3.below B2.out (Nat.le_of_lt HG.out.2.2.1) B2.out.size
  have k0 := (PF3.out.pc rfl).c0
  have k1 := PF3.out.frz 0
  obtain ⟨w4, hw4⟩ : ∃ w4, w4 = w3.setCell ⟨w.heap.size, 0, none⟩ (.int .u8 9) := ⟨_, rfl⟩
  have PFw4 : Hid (PF w4 w.heap.size 33 ⟨9, 0, 0, 0, false, ⟨#[]⟩, zn, []⟩ (.slice none 0 0)) := by unfold Hid; rw [hw4]; exact PF3.out.set 0 _ rfl
  have Bw4 : Hid (Below w.heap.size w w4) := by unfold Hid; rw [hw4]; exact bt_set B3.out (Nat.le_refl _)
  have RDw4 : Hid (Fi.Rd w4 g s ys 0) := by unfold Hid; rw [hw4]; exact rd_set rd3 HG.out.1 HG.out.2.1
  have Zw4 : Hid (w2.heap.size ≤ w4.heap.size) := by unfold Hid; rw [hw4]; simpa [World.setCell] using bt3.size
  clear cb rd3 bt3 B2 PF2
  go_upto_region 3 with fail
  rw [← hw4]
  clear hw4 k0 k1 PF3 B3
  have ce := Fi.err_any g s ys 0 w4 RDw4.out
  have k0 := (PFw4.out.pc rfl).c0
  have ci := isK_any 9 w4
  rw [show isK 9 = true from by decide] at ci
  go_wp2_with fail
  refine ce.mono ?_
  rintro e wq ⟨rfl, eq⟩
  rw [eq]
  clear ce eq wq
  go_wp2_with fail
  refine ci.mono ?_
  rintro e wq ⟨rfl, eq⟩
  rw [eq]
  clear ci eq wq
  obtain ⟨t0, t1⟩ : w4.cell? ⟨0, 18, none⟩ = some (.int .i64 (pkN 9)) ∧ w4.cell? ⟨0, 19, none⟩ = some (.int .i64 (mT 9)) := (HT.out.next Bw4.out).s 9 (by omega)
  obtain ⟨w5, hw5⟩ : ∃ w5, w5 = w4.alloc (.cells #[.int .i64 (pkN 9), .int .i64 (mT 9)] 57) := ⟨_, rfl⟩
  have b5 : Below w4.heap.size w4 w5 := by rw [hw5]; exact al_below _ _
  have HSw5 : Hid (w5.heap[w4.heap.size]? = some (.cells #[.int .i64 (pkN 9), .int .i64 (mT 9)] 57 (0, 0))) := by unfold Hid; rw [hw5]; exact heap_alloc_new _ _
  have PFw5 : Hid (PF w5 w.heap.size 33 ⟨9, 0, 0, 0, false, ⟨#[]⟩, zn, []⟩ (.slice none 0 0)) := PFw4.out.kept b5
  have Bw5 : Hid (Below w.heap.size w w5) := Bw4.out.trans (b5.mono Bw4.out.size)
  have RDw5 : Hid (Fi.Rd w5 g s ys 0) := RDw4.out.kept b5
  have HQ : Hid (w4.heap.size ≠ w.heap.size ∧ w4.heap.size ≠ g) := ⟨by have := blk_lt PFw4.out; omega, by have := HGZ.out.1; have := Zw4.out; omega⟩
  have PS : Hid (w.heap.size < w5.heap.size) := blk_lt PFw5.out
  have CI : Hid (∀ W, Calls Tryz.prog 28 #[.agg #[.int .i64 (pkN 9), .int .i64 (mT 9)], .int .i64 1] W fun e w' => e = .returned (.bool false) ∧ Below W.heap.size W w') := fun W => has_k 9 (by omega) (by omega) W 1 _ (by decide)
  have CN : Hid (∀ W, Calls Tryz.prog 28 #[.agg #[.int .i64 (pkN 9), .int .i64 (mT 9)], .int .i64 2] W fun e w' => e = .returned (.bool false) ∧ Below W.heap.size W w') := fun W => has_k 9 (by omega) (by omega) W 2 _ (by decide)
  have CF : Hid (∀ W, Calls Tryz.prog 28 #[.agg #[.int .i64 (pkN 9), .int .i64 (mT 9)], .int .i64 4] W fun e w' => e = .returned (.bool false) ∧ Below W.heap.size W w') := fun W => has_k 9 (by omega) (by omega) W 4 _ (by decide)
  have CC : Hid (∀ W, Calls Tryz.prog 28 #[.agg #[.int .i64 (pkN 9), .int .i64 (mT 9)], .int .i64 8] W fun e w' => e = .returned (.bool false) ∧ Below W.heap.size W w') := fun W => has_k 9 (by omega) (by omega) W 8 _ (by decide)
  have CO : Hid (∀ W, Calls Tryz.prog 28 #[.agg #[.int .i64 (pkN 9), .int .i64 (mT 9)], .int .i64 16] W fun e w' => e = .returned (.bool true) ∧ Below W.heap.size W w') := fun W => has_k 9 (by omega) (by omega) W 16 _ (by decide)
  have CT : Hid (∀ W, Calls Tryz.prog 28 #[.agg #[.int .i64 (pkN 9), .int .i64 (mT 9)], .int .i64 32] W fun e w' => e = .returned (.bool true) ∧ Below W.heap.size W w') := fun W => has_k 9 (by omega) (by omega) W 32 _ (by decide)
  have CS : Hid (∀ W, Calls Tryz.prog 28 #[.agg #[.int .i64 (pkN 9), .int .i64 (mT 9)], .int .i64 64] W fun e w' => e = .returned (.bool false) ∧ Below W.heap.size W w') := fun W => has_k 9 (by omega) (by omega) W 64 _ (by decide)
  have HMT : Hid (mT 9 = mT 9) := rfl
  obtain ⟨pk, hpk⟩ : ∃ pk, pk = pkN 9 := ⟨_, rfl⟩
  obtain ⟨mt, hmt⟩ : ∃ mt, mt = mT 9 := ⟨_, rfl⟩
  have HMQ : Hid (mt = mT 9) := hmt
  rw [← hpk] at t0
  rw [← hmt] at t1
  rw [← hpk, ← hmt] at hw5 HSw5
  simp only [← hpk, ← hmt] at CI CN CF CC CO CT CS
  clear hpk hmt HMT
  clear b5 PFw4 Bw4 RDw4 Zw4 HGZ
  go_upto_region 6 with fail
  rw [← hw5]
  clear hw5 t0 t1 k0
  have ch := CI.out w5
  have s0 : w5.cell? ⟨w4.heap.size, 0, none⟩ = some (.int .i64 pk) := by have := HSw5.out; simp [World.cell?, this]
  have s1 : w5.cell? ⟨w4.heap.size, 1, none⟩ = some (.int .i64 mt) := by have := HSw5.out; simp [World.cell?, this]
  go_wp2_with fail
  refine ch.mono ?_
  rintro e w6 ⟨rfl, bw6⟩
  have PFw6 : Hid (PF w6 w.heap.size 33 ⟨9, 0, 0, 0, false, ⟨#[]⟩, zn, []⟩ (.slice none 0 0)) := PFw5.out.kept bw6
  have HSw6 : Hid (w6.heap[w4.heap.size]? = some (.cells #[.int .i64 pk, .int .i64 mt] 57 (0, 0))) := blk_kept HSw5.out bw6 (blk_lt HSw5.out)
  have Bw6 : Hid (Below w.heap.size w w6) := Bw5.out.trans (bw6.mono Bw5.out.size)
  have RDw6 : Hid (Fi.Rd w6 g s ys 0) := RDw5.out.kept bw6
  clear ch bw6 s0 s1 PFw5 HSw5 Bw5 RDw5
  have ch := CN.out w6
  have s0 : w6.cell? ⟨w4.heap.size, 0, none⟩ = some (.int .i64 pk) := by have := HSw6.out; simp [World.cell?, this]
  have s1 : w6.cell? ⟨w4.heap.size, 1, none⟩ = some (.int .i64 mt) := by have := HSw6.out; simp [World.cell?, this]
  go_wp2_with fail
  refine ch.mono ?_
  rintro e w7 ⟨rfl, bw7⟩
  have PFw7 : Hid (PF w7 w.heap.size 33 ⟨9, 0, 0, 0, false, ⟨#[]⟩, zn, []⟩ (.slice none 0 0)) := PFw6.out.kept bw7
  have HSw7 : Hid (w7.heap[w4.heap.size]? = some (.cells #[.int .i64 pk, .int .i64 mt] 57 (0, 0))) := blk_kept HSw6.out bw7 (blk_lt HSw6.out)
  have Bw7 : Hid (Below w.heap.size w w7) := Bw6.out.trans (bw7.mono Bw6.out.size)
  have RDw7 : Hid (Fi.Rd w7 g s ys 0) := RDw6.out.kept bw7
  clear ch bw7 s0 s1 PFw6 HSw6 Bw6 RDw6
  have ch := CF.out w7
  have s0 : w7.cell? ⟨w4.heap.size, 0, none⟩ = some (.int .i64 pk) := by have := HSw7.out; simp [World.cell?, this]
  have s1 : w7.cell? ⟨w4.heap.size, 1, none⟩ = some (.int .i64 mt) := by have := HSw7.out; simp [World.cell?, this]
  go_wp2_with fail
  refine ch.mono ?_
  rintro e w8 ⟨rfl, bw8⟩
  have PFw8 : Hid (PF w8 w.heap.size 33 ⟨9, 0, 0, 0, false, ⟨#[]⟩, zn, []⟩ (.slice none 0 0)) := PFw7.out.kept bw8
  have HSw8 : Hid (w8.heap[w4.heap.size]? = some (.cells #[.int .i64 pk, .int .i64 mt] 57 (0, 0))) := blk_kept HSw7.out bw8 (blk_lt HSw7.out)
  have Bw8 : Hid (Below w.heap.size w w8) := Bw7.out.trans (bw8.mono Bw7.out.size)
  have RDw8 : Hid (Fi.Rd w8 g s ys 0) := RDw7.out.kept bw8
  clear ch bw8 s0 s1 PFw7 HSw7 Bw7 RDw7
  have ch := CC.out w8
  have s0 : w8.cell? ⟨w4.heap.size, 0, none⟩ = some (.int .i64 pk) := by have := HSw8.out; simp [World.cell?, this]
  have s1 : w8.cell? ⟨w4.heap.size, 1, none⟩ = some (.int .i64 mt) := by have := HSw8.out; simp [World.cell?, this]
  go_wp2_with fail
  refine ch.mono ?_
  rintro e w9 ⟨rfl, bw9⟩
  have PFw9 : Hid (PF w9 w.heap.size 33 ⟨9, 0, 0, 0, false, ⟨#[]⟩, zn, []⟩ (.slice none 0 0)) := PFw8.out.kept bw9
  have HSw9 : Hid (w9.heap[w4.heap.size]? = some (.cells #[.int .i64 pk, .int .i64 mt] 57 (0, 0))) := blk_kept HSw8.out bw9 (blk_lt HSw8.out)
  have Bw9 : Hid (Below w.heap.size w w9) := Bw8.out.trans (bw9.mono Bw8.out.size)
  have RDw9 : Hid (Fi.Rd w9 g s ys 0) := RDw8.out.kept bw9
  clear ch bw9 s0 s1 PFw8 HSw8 Bw8 RDw8
  have ch := CO.out w9
  have s0 : w9.cell? ⟨w4.heap.size, 0, none⟩ = some (.int .i64 pk) := by have := HSw9.out; simp [World.cell?, this]
  have s1 : w9.cell? ⟨w4.heap.size, 1, none⟩ = some (.int .i64 mt) := by have := HSw9.out; simp [World.cell?, this]
  go_wp2_with fail
  refine ch.mono ?_
  rintro e w10 ⟨rfl, bw10⟩
  have PFw10 : Hid (PF w10 w.heap.size 33 ⟨9, 0, 0, 0, false, ⟨#[]⟩, zn, []⟩ (.slice none 0 0)) := PFw9.out.kept bw10
  have HSw10 : Hid (w10.heap[w4.heap.size]? = some (.cells #[.int .i64 pk, .int .i64 mt] 57 (0, 0))) := blk_kept HSw9.out bw10 (blk_lt HSw9.out)
  have Bw10 : Hid (Below w.heap.size w w10) := Bw9.out.trans (bw10.mono Bw9.out.size)
  have RDw10 : Hid (Fi.Rd w10 g s ys 0) := RDw9.out.kept bw10
  clear ch bw10 s0 s1 PFw9 HSw9 Bw9 RDw9
  have CR : Hid (∀ x, Fi.Rd x g s ys 0 → Calls Tryz.prog 54 #[.pointer (some ⟨g, 0, none⟩), .int .i64 16] x fun r w' => r = .returned (.string (Fi.strB (rRw ys 0).1)) ∧ Fi.Rd w' g s (rRw ys 0).2.1 (rRw ys 0).2.2 ∧ Bt g x w') := fun x hx => rdRaw g s ys 0 x hx
  have hrw := rOn_rw ys 0 (Fi.Rd.bytes RDw10.out)
  obtain ⟨R, hR⟩ : ∃ R, R = rRw ys 0 := ⟨_, rfl⟩
  rw [← hR] at hrw CR
  obtain ⟨ov, yO, eO⟩ := R
  obtain ⟨Q, hQ⟩ : ∃ Q, Q = rOn ys 0 := ⟨_, rfl⟩
  rw [← hQ] at hrw
  obtain ⟨NO, q1, q2⟩ := Q
  simp only at hrw CR
  obtain ⟨hq0, hov⟩ := hrw
  cases hq0
  have HRO : Hid (rOn ys 0 = (NO, yO, eO)) := hQ.symm
  obtain ⟨hc1, hc2, hc3⟩ := nonce_copy 9 0 0 0 false ⟨#[]⟩ [] (.slice none 0 0) ov NO hov
  have HCP := hid_intro hc1
  have HNO : Hid (NO.length = 16) := hc2
  have HLE : Hid ((Fi.strB ov).size ≤ 16) := hc3
  clear hc1 hc2 hc3 hov hR hQ
  go_upto_region 18 with fail
  refine wp_region_held_drew (S := fun _ => True) (by kernel_rfl) trivial (fun _ => ?_)
  refine wpAnyH_name (fun u0 hu0 => ?_)
  have bu0 : Below w10.heap.size w10 u0 := by rw [hu0.out]; exact (Below.refl _ _).drew
  have RDu0 : Fi.Rd u0 g s ys 0 := by rw [hu0.out]; exact RDw10.out
  have PFu0 : PF u0 w.heap.size 33 ⟨9, 0, 0, 0, false, ⟨#[]⟩, zn, []⟩ (.slice none 0 0) := by rw [hu0.out]; exact PFw10.out
  have HSu0 : u0.heap[w4.heap.size]? = some (.cells #[.int .i64 pk, .int .i64 mt] 57 (0, 0)) := by rw [hu0.out]; exact HSw10.out
  have Bu0 : Below w.heap.size w u0 := by rw [hu0.out]; exact Bw10.out.drew
  refine wpAnyH_take (i := 0) (oi := { dst := some 59, op := Op.fieldAddr 33 (Operand.tmp 2) 6, type := 0, pos := "frame.go:328", after := #[], guard := none }) (v := ?vr1) rfl (by kernel_rfl) (by kernel_rfl) (by kernel_rfl) (fun _ _ _ h => h) (Or.inl ⟨by rfl, ?yr1⟩) trivial ?rr1
  case yr1 => (intro w hSw; go_simp; try with_reducible rfl)
  try simp only [Act.put, List.setIfInBounds_toArray, List.set_cons_zero, List.set_cons_succ]
  refine wpAnyH_take (i := 1) (oi := { dst := some 60, op := Op.slice 22 (Operand.tmp 59) none none none, type := 34, pos := "frame.go:328", after := #[{ on := 0, ground := Ground.data }], guard := none }) (v := ?vr2) rfl (by kernel_rfl) (by kernel_rfl) (by kernel_rfl) (fun _ _ _ h => h) (Or.inl ⟨by rfl, ?yr2⟩) trivial ?rr2
  case yr2 => (intro w hSw; go_simp; try with_reducible rfl)
  try simp only [Act.put, List.setIfInBounds_toArray, List.set_cons_zero, List.set_cons_succ]
  refine wpAnyH_take (i := 2) (oi := { dst := some 61, op := Op.move (Operand.tmp 5), type := 102, pos := "frame.go:328", after := #[], guard := none }) (v := ?vr3) rfl (by kernel_rfl) (by kernel_rfl) (by kernel_rfl) (fun _ _ _ h => h) (Or.inl ⟨by rfl, ?yr3⟩) trivial ?rr3
  case yr3 => (intro w hSw; go_simp; try with_reducible rfl)
  try simp only [Act.put, List.setIfInBounds_toArray, List.set_cons_zero, List.set_cons_succ]
  refine wpAnyH_ready (rs := [3]) (by kernel_rfl) (by simp) ?_
  refine AllReadyH.cons (o := { dst := some 62, op := Op.call { callee := Callee.value (Operand.func 54), args := #[Operand.tmp 61, Operand.const (Value.int IntKind.i64 16)], argTypes := #[102, 3] }, type := 9, pos := "frame.go:328", after := #[{ on := 2, ground := Ground.data }], guard := none }) rfl (fun KK hKK => ?_) ?_
  · go_simp
    refine (CR.out _ RDu0).mono ?_
    rintro r u4' ⟨rfl, rdu4, btu4⟩
    (try go_wp2_with fail)
    refine hKK.out _ _ trivial (fun _ => ?_)
    clear hKK KK
    try simp only [Act.put, List.setIfInBounds_toArray, List.set_cons_zero, List.set_cons_succ]
    refine wpAnyH_name (fun u4 hu4 => ?_)
    rw [← hu4.out] at rdu4 btu4
    have PFu4 := PFu0.bt btu4 (Ne.symm HG.out.1)
    have HSu4 := (btu4.block _ (blk_lt HSu0) HQ.out.2).trans HSu0
    have Bu4 := btu4.below Bu0 (Nat.le_of_lt HG.out.2.2.1) Bu0.size
    refine wpAnyH_ready (rs := [4]) (by kernel_rfl) (by simp) ?_
    refine AllReadyH.cons (o := { dst := some 63, op := Op.call { callee := Callee.builtin Builtin.copy, args := #[Operand.tmp 60, Operand.tmp 62], argTypes := #[34, 9] }, type := 3, pos := "frame.go:328", after := #[{ on := 1, ground := Ground.data }, { on := 3, ground := Ground.data }, { on := 3, ground := Ground.chain }], guard := none }) rfl (fun KK hKK => ?_) ?_
    · refine wp_copy_str _ _ 34 9 rfl 5 Tryz.underlying34 size5n w.heap.size 6 16 16 (Fi.strB ov) rfl rfl (plA ⟨9, 0, 0, 0, false, ⟨#[]⟩, zn, []⟩ (.slice none 0 0)) 33 PFu4 HLE.out (by rw [plA_size rfl]; have := HLE.out; omega) ?_
      rw [HCP.out]
      refine hKK.out _ _ trivial (fun _ => ?_)
      clear hKK KK
      try simp only [Act.put, List.setIfInBounds_toArray, List.set_cons_zero, List.set_cons_succ]
      refine wpAnyH_name (fun u5 hu5 => ?_)
      have PZu5 : PF u5 w.heap.size 33 ⟨9, 0, 0, 0, false, ⟨#[]⟩, NO, []⟩ (.slice none 0 0) := by rw [hu5.out]; exact setRow_heap _ _ _ _ _ _ PFu4
      have HZu5 := HSu4
      rw [← setRow_other _ _ _ (plA ⟨9, 0, 0, 0, false, ⟨#[]⟩, NO, []⟩ (.slice none 0 0)) HQ.out.1, ← hu5.out] at HZu5
      have DZu5 := Rd.setRow rdu4 (Ne.symm HG.out.1) (Ne.symm HG.out.2.1) (plA ⟨9, 0, 0, 0, false, ⟨#[]⟩, NO, []⟩ (.slice none 0 0))
      rw [← hu5.out] at DZu5
      have BZu5 : Below w.heap.size w u5 := by rw [hu5.out]; exact below_setRow Bu4 (Nat.le_refl _) _
      refine wpAnyH_done (by kernel_rfl) ?_ _
      obtain ⟨w11z, hw11z⟩ : ∃ x, x = u5 := ⟨_, rfl⟩
      have PFw11z : Hid (PF w11z w.heap.size 33 ⟨9, 0, 0, 0, false, ⟨#[]⟩, NO, []⟩ (.slice none 0 0)) := by rw [hw11z]; exact PZu5
      have HSw11z : Hid (w11z.heap[w4.heap.size]? = some (.cells #[.int .i64 pk, .int .i64 mt] 57 (0, 0))) := by rw [hw11z]; exact HZu5
      have Bw11z : Hid (Below w.heap.size w w11z) := by rw [hw11z]; exact BZu5
      have RDw11z : Hid (Fi.Rd w11z g s yO eO) := by rw [hw11z]; exact DZu5
      rw [← hw11z]
      clear hw11z CR HCP HLE PFw10 HSw10 Bw10 RDw10
      go_upto_region 19 with fail
      have ch := CT.out w11z
      have s0 : w11z.cell? ⟨w4.heap.size, 0, none⟩ = some (.int .i64 pk) := by have := HSw11z.out; simp [World.cell?, this]
      have s1 : w11z.cell? ⟨w4.heap.size, 1, none⟩ = some (.int .i64 mt) := by have := HSw11z.out; simp [World.cell?, this]
      go_wp2_with fail
      refine ch.mono ?_
      rintro e w12 ⟨rfl, bw12⟩
      have PFw12 : Hid (PF w12 w.heap.size 33 ⟨9, 0, 0, 0, false, ⟨#[]⟩, NO, []⟩ (.slice none 0 0)) := PFw11z.out.kept bw12
      have HSw12 : Hid (w12.heap[w4.heap.size]? = some (.cells #[.int .i64 pk, .int .i64 mt] 57 (0, 0))) := blk_kept HSw11z.out bw12 (blk_lt HSw11z.out)
      have Bw12 : Hid (Below w.heap.size w w12) := Bw11z.out.trans (bw12.mono Bw11z.out.size)
      have RDw12 : Hid (Fi.Rd w12 g s yO eO) := RDw11z.out.kept bw12
      clear ch bw12 s0 s1 PFw11z HSw11z Bw11z RDw11z
      have cm := rdText g s yO eO mt w12 (HT.out.next Bw12.out).v RDw12.out
      have s1 : w12.cell? ⟨w4.heap.size, 1, none⟩ = some (.int .i64 mt) := by have := HSw12.out; simp [World.cell?, this]
      obtain ⟨RT, hRT⟩ : ∃ R, R = rTx mt yO eO := ⟨_, rfl⟩
      rw [← hRT] at cm
      obtain ⟨tv, yT, eT⟩ := RT
      have HRT : Hid (rTx mt yO eO = (tv, yT, eT)) := hRT.symm
      clear hRT
      simp only at cm
      go_wp2_with fail
      refine cm.mono ?_
      rintro e w13 ⟨rfl, rdw13, btw13⟩
      have PFw13 : Hid (PF w13 w.heap.size 33 ⟨9, 0, 0, 0, false, ⟨#[]⟩, NO, []⟩ (.slice none 0 0)) := PFw12.out.bt btw13 (Ne.symm HG.out.1)
      have HSw13 : Hid (w13.heap[w4.heap.size]? = some (.cells #[.int .i64 pk, .int .i64 mt] 57 (0, 0))) := (btw13.block _ (blk_lt HSw12.out) HQ.out.2).trans HSw12.out
      have Bw13 : Hid (Below w.heap.size w w13) := btw13.below Bw12.out (Nat.le_of_lt HG.out.2.2.1) Bw12.out.size
      have RDw13 : Hid (Fi.Rd w13 g s yT eT) := rdw13
      clear cm rdw13 btw13 s1 PFw12 HSw12 Bw12 RDw12
      have kq := (PFw13.out.pc HNO.out).c5
      have kf := PFw13.out.frz 5
      obtain ⟨w14, hw14⟩ : ∃ w14, w14 = w13.setCell ⟨w.heap.size, 5, none⟩ (.string (Fi.strB tv)) := ⟨_, rfl⟩
      have PFw14 : Hid (PF w14 w.heap.size 33 ⟨9, 0, 0, 0, false, Fi.strB tv, NO, []⟩ (.slice none 0 0)) := by unfold Hid; rw [hw14]; exact PFw13.out.set 5 _ (by simp [plA, plL])
      have HSw14 : Hid (w14.heap[w4.heap.size]? = some (.cells #[.int .i64 pk, .int .i64 mt] 57 (0, 0))) := by unfold Hid; rw [hw14]; exact other_set HSw13.out HQ.out.1
      have Bw14 : Hid (Below w.heap.size w w14) := by unfold Hid; rw [hw14]; exact bt_set Bw13.out (Nat.le_refl _)
      have RDw14 : Hid (Fi.Rd w14 g s yT eT) := by unfold Hid; rw [hw14]; exact rd_set RDw13.out HG.out.1 HG.out.2.1
      go_upto_region 21 with fail
      rw [← hw14]
      clear hw14 kq kf PFw13 HSw13 Bw13 RDw13
      have HAR : Hid (ahR 9 ys 0 = ((0, 0, 0, 0, NO, tv), yT, eT)) := by
        have e1 : hI 9 = false := by decide
        have e2 : hN 9 = false := by decide
        have e3 : hF 9 = false := by decide
        have e4 : hC 9 = false := by decide
        have e5 : hO 9 = true := by decide
        have e6 : hT 9 = true := by decide
        unfold Hid ahR thn
        rw [e1, e2, e3, e4, e5, e6]
        rw [← HMQ.out]
        simp only [opt_t, opt_f, HRO.out, HRT.out]
      have cx := fault_any g s yT eT w14 RDw14.out
      go_wp2_with fail
      refine cx.mono ?_
      rintro e wq ⟨rfl, eq⟩
      rw [eq]
      clear cx eq wq
      by_cases he : eT = 0
      rotate_left
      · have tx0 : (fltE eT != 0) = true := by unfold fltE; split <;> simp <;> omega
        have HE : Hid (ahM (9 :: ys) = errM (fltE eT)) := ahM_err (by decide) (by rw [HAR.out]) he
        have NLw14 : Hid ((⟨9, 0, 0, 0, false, Fi.strB tv, NO, []⟩ : Fm).nc.length = 16) := HNO.out
        clear he
        go_wp2_with (refine wpList_store_row rfl 33 _ _ rfl w.heap.size (plA Fm.zero (.slice none 0 0)) rfl rfl 33 _ PFw14.out (infoP.trans (by rw [plA_size rfl])) (by first | rfl | (rw [plA_size NLw14.out, plA_size rfl])) (all_oneCell_toArray (plL_one rfl)) (Hid.out ?_))
        unfold Hid
        go_wp2
        refine bodyPost_ret (ret_ctt rfl (setRow_heap _ _ _ _ _ _ PFw14.out) (infoP.trans (by rw [plA_size rfl]))) rfl ?_
        exact ⟨.slice none 0 0, by rw [HE.out]; rfl, by rw [HE.out]; exact RI.nil _ _ _ _, below_setRow Bw14.out (Nat.le_refl _) _⟩
      have tx0 : (fltE eT != 0) = false := by rw [he]; rfl
      have HEZ : Hid (eT = 0) := he
      clear he
      have cl := Fi.left_any g s yT eT w14 RDw14.out
      have hlz : (yT.length : Int) ≤ 9223372036854775807 := Rd_len RDw14.out
      have sw : IntKind.i64.wrap ((n : Int) - (yT.length : Int)) = (n : Int) - (yT.length : Int) := by rw [IntKind.wrap_i64]; omega
      obtain ⟨zl, hzl⟩ : ∃ zl, zl = yT.length := ⟨_, rfl⟩
      have HZL : Hid (zl = yT.length) := hzl
      rw [← hzl] at cl hlz sw
      clear hzl
      go_wp2_with fail
      refine cl.mono ?_
      rintro e wq ⟨rfl, eq⟩
      rw [eq]
      clear cl eq wq tx0
      have ch := CS.out w14
      have s0 : w14.cell? ⟨w4.heap.size, 0, none⟩ = some (.int .i64 pk) := by have := HSw14.out; simp [World.cell?, this]
      have s1 : w14.cell? ⟨w4.heap.size, 1, none⟩ = some (.int .i64 mt) := by have := HSw14.out; simp [World.cell?, this]
      go_wp2_with fail
      refine ch.mono ?_
      rintro e w15 ⟨rfl, bw15⟩
      have PFw15 : Hid (PF w15 w.heap.size 33 ⟨9, 0, 0, 0, false, Fi.strB tv, NO, []⟩ (.slice none 0 0)) := PFw14.out.kept bw15
      have Bw15 : Hid (Below w.heap.size w w15) := Bw14.out.trans (bw15.mono Bw14.out.size)
      have RR : Hid (w15.rangeAt w.heap.size 0 (plL ⟨9, 0, 0, 0, false, Fi.strB tv, NO, []⟩ (.slice none 0 0))) := PFw15.out.range
      have HE : Hid (ahM (9 :: ys) = (⟨9, 0, 0, 0, false, Fi.strB tv, NO, []⟩, (n : Int) - (zl : Int), 0)) := by unfold Hid; rw [ahM_fin (by decide) (by decide) HAR.out HEZ.out, HN.out, HZL.out]; rfl
      clear ch bw15 s0 s1 PFw14 HSw14 Bw14 RDw14 HAR sw
      go_wp2_with (first | refine wpList_load_mid rfl 33 _ rfl w.heap.size 0 rfl (plL ⟨9, 0, 0, 0, false, Fi.strB tv, NO, []⟩ (.slice none 0 0)) _ RR.out Tryz.underlying33 rfl (infoP.trans (by rw [plL_len HNO.out])) (Hid.out ?_) | refine wpList_store_row rfl 33 _ _ rfl w.heap.size (plA ⟨9, 0, 0, 0, false, Fi.strB tv, NO, []⟩ (.slice none 0 0)) rfl rfl 33 _ PFw15.out (infoP.trans (by rw [plA_size HNO.out])) rfl (all_oneCell_toArray (plL_one rfl)) (Hid.out ?_))
      unfold Hid
      go_wp2_with (first | refine wpList_load_mid rfl 33 _ rfl w.heap.size 0 rfl (plL ⟨9, 0, 0, 0, false, Fi.strB tv, NO, []⟩ (.slice none 0 0)) _ RR.out Tryz.underlying33 rfl (infoP.trans (by rw [plL_len HNO.out])) (Hid.out ?_) | refine wpList_store_row rfl 33 _ _ rfl w.heap.size (plA ⟨9, 0, 0, 0, false, Fi.strB tv, NO, []⟩ (.slice none 0 0)) rfl rfl 33 _ PFw15.out (infoP.trans (by rw [plA_size HNO.out])) rfl (all_oneCell_toArray (plL_one rfl)) (Hid.out ?_))
      unfold Hid
      go_wp2
      refine bodyPost_ret (ret_ctt rfl (setRow_heap _ _ _ _ _ _ PFw15.out) (infoP.trans (by rw [plA_size HNO.out]))) rfl ?_
      exact ⟨.slice none 0 0, by rw [HE.out]; rfl, by rw [HE.out]; exact RI.nil _ _ _ _, below_setRow Bw15.out (Nat.le_refl _) _⟩
    exact AllReadyH.nil
  exact AllReadyH.nil
end Go.Proofs.YtmplpdjkhdaniaaGreatDoor
