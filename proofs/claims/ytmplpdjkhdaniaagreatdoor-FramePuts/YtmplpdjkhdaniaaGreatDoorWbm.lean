/-
  What plainAhead answers, kind by kind.
-/
import Derived.Test.YtmplpdjkhdaniaaGreatDoorWbl
namespace Go.Proofs.YtmplpdjkhdaniaaGreatDoor
open Go.RowKit Go.Shelf
set_option maxRecDepth 100000

set_option maxHeartbeats 8000000 in
theorem ahd2 (v : Value) (ys : List Int) (w : World) (ht : Tb w) (h : Sl w v (2 :: ys)) (hl : (2 :: ys).length ≤ 100000) :
    Calls Tryz.prog 36 #[v] w fun e w' => ∃ sv, e = .returned (.tuple #[.agg (plA (ahM (2 :: ys)).1 sv), .int .i64 (ahM (2 :: ys)).2.1, .int .i64 (ahM (2 :: ys)).2.2]) ∧ RSp w' w.heap.size sv (ahM (2 :: ys)).1.sp ∧ Below w.heap.size w w' := by
  obtain ⟨W1, hW1⟩ : ∃ W1, W1 = w.alloc (.cells #[.int .u8 0, .int .i64 0, .int .i64 0, .int .i64 0, .bool false, .string ⟨#[]⟩, .int .u8 0, .int .u8 0, .int .u8 0, .int .u8 0, .int .u8 0, .int .u8 0, .int .u8 0, .int .u8 0, .int .u8 0, .int .u8 0, .int .u8 0, .int .u8 0, .int .u8 0, .int .u8 0, .int .u8 0, .int .u8 0, .slice none 0 0] 33) := ⟨_, rfl⟩
  have b1 : Below w.heap.size w W1 := by rw [hW1]; exact al_below _ _
  have g1 : PF W1 w.heap.size 33 Fm.zero (.slice none 0 0) := by rw [hW1]; exact heap_alloc_new _ _
  have z1 : W1.heap.size = w.heap.size + 1 := by rw [hW1]; simp
  have cn := Fi.new_any v (2 :: ys) W1 (ht.next b1).v (fsl (h.kept b1)) (by omega)
  obtain ⟨a, c, rfl, hlc, hcm, hnn, -⟩ := id h
  have HT : Hid (Tb w) := ht
  have HSL : Hid (Sl w (.slice a (2 :: ys).length c) (2 :: ys)) := h
  have HB1 : Hid (Below w.heap.size w W1) := b1
  have HP1 : Hid (PF W1 w.heap.size 33 Fm.zero (.slice none 0 0)) := g1
  have hpos := ht.pos
  clear ht h b1 g1
  obtain ⟨n, hn⟩ : ∃ n, n = (2 :: ys).length := ⟨_, rfl⟩
  have HN : Hid (n = (2 :: ys).length) := hn
  rw [← hn] at hl cn hlc ⊢
  clear hn
  go_enter Tryz.func36, Tryz.ntmps36
  go_upto_region 1 with fail
  rw [← hW1]
  clear hW1
  go_wp2_with fail
  refine cn.mono ?_
  rintro e w2 ⟨g, s, rfl, hg1, hg2, hs, rd2, b2⟩
  have HG : Hid (g ≠ w.heap.size ∧ s ≠ w.heap.size ∧ w.heap.size < g ∧ 2 ≤ g) := ⟨by omega, by omega, by omega, by omega⟩
  have HGZ : Hid (g < w2.heap.size ∧ s < w2.heap.size) := ⟨hg2, by omega⟩
  have B2 : Hid (Below w.heap.size w w2) := HB1.out.trans (b2.mono HB1.out.size)
  have PF2 : Hid (PF w2 w.heap.size 33 Fm.zero (.slice none 0 0)) := HP1.out.kept b2
  have cb := rdByte g s (2 :: ys) 0 w2 rd2
  rw [rBt_cons] at cb
  clear cn hg1 hg2 hs rd2 b2 HB1 HP1 z1
  go_wp2_with fail
  refine cb.mono ?_
  rintro e w3 ⟨rfl, rd3, bt3⟩
  have PF3 : Hid (PF w3 w.heap.size 33 Fm.zero (.slice none 0 0)) := PF2.out.bt bt3 (Ne.symm HG.out.1)
  have B3 : Hid (Below w.heap.size w w3) := bt3.below B2.out (Nat.le_of_lt HG.out.2.2.1) B2.out.size
  have k0 := (PF3.out.pc rfl).c0
  have k1 := PF3.out.frz 0
  obtain ⟨w4, hw4⟩ : ∃ w4, w4 = w3.setCell ⟨w.heap.size, 0, none⟩ (.int .u8 2) := ⟨_, rfl⟩
  have PFw4 : Hid (PF w4 w.heap.size 33 ⟨2, 0, 0, 0, false, ⟨#[]⟩, zn, []⟩ (.slice none 0 0)) := by unfold Hid; rw [hw4]; exact PF3.out.set 0 _ rfl
  have Bw4 : Hid (Below w.heap.size w w4) := by unfold Hid; rw [hw4]; exact bt_set B3.out (Nat.le_refl _)
  have RDw4 : Hid (Fi.Rd w4 g s ys 0) := by unfold Hid; rw [hw4]; exact rd_set rd3 HG.out.1 HG.out.2.1
  have Zw4 : Hid (w2.heap.size ≤ w4.heap.size) := by unfold Hid; rw [hw4]; simpa [World.setCell] using bt3.size
  clear cb rd3 bt3 B2 PF2
  go_upto_region 3 with fail
  rw [← hw4]
  clear hw4 k0 k1 PF3 B3
  have ce := Fi.err_any g s ys 0 w4 RDw4.out
  have k0 := (PFw4.out.pc rfl).c0
  have ci := isK_any 2 w4
  rw [show isK 2 = true from by decide] at ci
  go_wp2_with fail
  refine ce.mono ?_
  rintro e wq ⟨rfl, eq⟩
  rw [eq]
  clear ce eq wq
  go_wp2_with fail
  refine ci.mono ?_
  rintro e wq ⟨rfl, eq⟩
  rw [eq]
  clear ci eq wq
  obtain ⟨t0, t1⟩ : w4.cell? ⟨0, 4, none⟩ = some (.int .i64 (pkN 2)) ∧ w4.cell? ⟨0, 5, none⟩ = some (.int .i64 (mT 2)) := (HT.out.next Bw4.out).s 2 (by omega)
  obtain ⟨w5, hw5⟩ : ∃ w5, w5 = w4.alloc (.cells #[.int .i64 (pkN 2), .int .i64 (mT 2)] 57) := ⟨_, rfl⟩
  have b5 : Below w4.heap.size w4 w5 := by rw [hw5]; exact al_below _ _
  have HSw5 : Hid (w5.heap[w4.heap.size]? = some (.cells #[.int .i64 (pkN 2), .int .i64 (mT 2)] 57 (0, 0))) := by unfold Hid; rw [hw5]; exact heap_alloc_new _ _
  have PFw5 : Hid (PF w5 w.heap.size 33 ⟨2, 0, 0, 0, false, ⟨#[]⟩, zn, []⟩ (.slice none 0 0)) := PFw4.out.kept b5
  have Bw5 : Hid (Below w.heap.size w w5) := Bw4.out.trans (b5.mono Bw4.out.size)
  have RDw5 : Hid (Fi.Rd w5 g s ys 0) := RDw4.out.kept b5
  have HQ : Hid (w4.heap.size ≠ w.heap.size ∧ w4.heap.size ≠ g) := ⟨by have := blk_lt PFw4.out; omega, by have := HGZ.out.1; have := Zw4.out; omega⟩
  have PS : Hid (w.heap.size < w5.heap.size) := blk_lt PFw5.out
  have CI : Hid (∀ W, Calls Tryz.prog 28 #[.agg #[.int .i64 (pkN 2), .int .i64 (mT 2)], .int .i64 1] W fun e w' => e = .returned (.bool false) ∧ Below W.heap.size W w') := fun W => has_k 2 (by omega) (by omega) W 1 _ (by decide)
  have CN : Hid (∀ W, Calls Tryz.prog 28 #[.agg #[.int .i64 (pkN 2), .int .i64 (mT 2)], .int .i64 2] W fun e w' => e = .returned (.bool true) ∧ Below W.heap.size W w') := fun W => has_k 2 (by omega) (by omega) W 2 _ (by decide)
  have CF : Hid (∀ W, Calls Tryz.prog 28 #[.agg #[.int .i64 (pkN 2), .int .i64 (mT 2)], .int .i64 4] W fun e w' => e = .returned (.bool false) ∧ Below W.heap.size W w') := fun W => has_k 2 (by omega) (by omega) W 4 _ (by decide)
  have CC : Hid (∀ W, Calls Tryz.prog 28 #[.agg #[.int .i64 (pkN 2), .int .i64 (mT 2)], .int .i64 8] W fun e w' => e = .returned (.bool false) ∧ Below W.heap.size W w') := fun W => has_k 2 (by omega) (by omega) W 8 _ (by decide)
  have CO : Hid (∀ W, Calls Tryz.prog 28 #[.agg #[.int .i64 (pkN 2), .int .i64 (mT 2)], .int .i64 16] W fun e w' => e = .returned (.bool false) ∧ Below W.heap.size W w') := fun W => has_k 2 (by omega) (by omega) W 16 _ (by decide)
  have CT : Hid (∀ W, Calls Tryz.prog 28 #[.agg #[.int .i64 (pkN 2), .int .i64 (mT 2)], .int .i64 32] W fun e w' => e = .returned (.bool false) ∧ Below W.heap.size W w') := fun W => has_k 2 (by omega) (by omega) W 32 _ (by decide)
  have CS : Hid (∀ W, Calls Tryz.prog 28 #[.agg #[.int .i64 (pkN 2), .int .i64 (mT 2)], .int .i64 64] W fun e w' => e = .returned (.bool true) ∧ Below W.heap.size W w') := fun W => has_k 2 (by omega) (by omega) W 64 _ (by decide)
  have HMT : Hid (mT 2 = mT 2) := rfl
  obtain ⟨pk, hpk⟩ : ∃ pk, pk = pkN 2 := ⟨_, rfl⟩
  obtain ⟨mt, hmt⟩ : ∃ mt, mt = mT 2 := ⟨_, rfl⟩
  have HMQ : Hid (mt = mT 2) := hmt
  rw [← hpk] at t0
  rw [← hmt] at t1
  rw [← hpk, ← hmt] at hw5 HSw5
  simp only [← hpk, ← hmt] at CI CN CF CC CO CT CS
  clear hpk hmt HMT
  clear b5 PFw4 Bw4 RDw4 Zw4 HGZ
  go_upto_region 6 with fail
  rw [← hw5]
  clear hw5 t0 t1 k0
  have ch := CI.out w5
  have s0 : w5.cell? ⟨w4.heap.size, 0, none⟩ = some (.int .i64 pk) := by have := HSw5.out; simp [World.cell?, this]
  have s1 : w5.cell? ⟨w4.heap.size, 1, none⟩ = some (.int .i64 mt) := by have := HSw5.out; simp [World.cell?, this]
  go_wp2_with fail
  refine ch.mono ?_
  rintro e w6 ⟨rfl, bw6⟩
  have PFw6 : Hid (PF w6 w.heap.size 33 ⟨2, 0, 0, 0, false, ⟨#[]⟩, zn, []⟩ (.slice none 0 0)) := PFw5.out.kept bw6
  have HSw6 : Hid (w6.heap[w4.heap.size]? = some (.cells #[.int .i64 pk, .int .i64 mt] 57 (0, 0))) := blk_kept HSw5.out bw6 (blk_lt HSw5.out)
  have Bw6 : Hid (Below w.heap.size w w6) := Bw5.out.trans (bw6.mono Bw5.out.size)
  have RDw6 : Hid (Fi.Rd w6 g s ys 0) := RDw5.out.kept bw6
  clear ch bw6 s0 s1 PFw5 HSw5 Bw5 RDw5
  have ch := CN.out w6
  have s0 : w6.cell? ⟨w4.heap.size, 0, none⟩ = some (.int .i64 pk) := by have := HSw6.out; simp [World.cell?, this]
  have s1 : w6.cell? ⟨w4.heap.size, 1, none⟩ = some (.int .i64 mt) := by have := HSw6.out; simp [World.cell?, this]
  go_wp2_with fail
  refine ch.mono ?_
  rintro e w7 ⟨rfl, bw7⟩
  have PFw7 : Hid (PF w7 w.heap.size 33 ⟨2, 0, 0, 0, false, ⟨#[]⟩, zn, []⟩ (.slice none 0 0)) := PFw6.out.kept bw7
  have HSw7 : Hid (w7.heap[w4.heap.size]? = some (.cells #[.int .i64 pk, .int .i64 mt] 57 (0, 0))) := blk_kept HSw6.out bw7 (blk_lt HSw6.out)
  have Bw7 : Hid (Below w.heap.size w w7) := Bw6.out.trans (bw7.mono Bw6.out.size)
  have RDw7 : Hid (Fi.Rd w7 g s ys 0) := RDw6.out.kept bw7
  clear ch bw7 s0 s1 PFw6 HSw6 Bw6 RDw6
  have cm := rdNm g s ys 0 1099511627776 w7 (HT.out.next Bw7.out).v RDw7.out
  obtain ⟨RN, hRN⟩ : ∃ R, R = rNm 1099511627776 ys 0 := ⟨_, rfl⟩
  rw [← hRN] at cm
  obtain ⟨nv, yN, eN⟩ := RN
  have HRN : Hid (rNm 1099511627776 ys 0 = (nv, yN, eN)) := hRN.symm
  clear hRN
  simp only at cm
  go_wp2_with fail
  refine cm.mono ?_
  rintro e w8 ⟨rfl, rdw8, btw8⟩
  have PFw8 : Hid (PF w8 w.heap.size 33 ⟨2, 0, 0, 0, false, ⟨#[]⟩, zn, []⟩ (.slice none 0 0)) := PFw7.out.bt btw8 (Ne.symm HG.out.1)
  have HSw8 : Hid (w8.heap[w4.heap.size]? = some (.cells #[.int .i64 pk, .int .i64 mt] 57 (0, 0))) := (btw8.block _ (blk_lt HSw7.out) HQ.out.2).trans HSw7.out
  have Bw8 : Hid (Below w.heap.size w w8) := btw8.below Bw7.out (Nat.le_of_lt HG.out.2.2.1) Bw7.out.size
  have RDw8 : Hid (Fi.Rd w8 g s yN eN) := rdw8
  clear cm rdw8 btw8 PFw7 HSw7 Bw7 RDw7
  have kq := (PFw8.out.pc rfl).c2
  have kf := PFw8.out.frz 2
  obtain ⟨w9, hw9⟩ : ∃ w9, w9 = w8.setCell ⟨w.heap.size, 2, none⟩ (.int .i64 nv) := ⟨_, rfl⟩
  have PFw9 : Hid (PF w9 w.heap.size 33 ⟨2, 0, nv, 0, false, ⟨#[]⟩, zn, []⟩ (.slice none 0 0)) := by unfold Hid; rw [hw9]; exact PFw8.out.set 2 _ rfl
  have HSw9 : Hid (w9.heap[w4.heap.size]? = some (.cells #[.int .i64 pk, .int .i64 mt] 57 (0, 0))) := by unfold Hid; rw [hw9]; exact other_set HSw8.out HQ.out.1
  have Bw9 : Hid (Below w.heap.size w w9) := by unfold Hid; rw [hw9]; exact bt_set Bw8.out (Nat.le_refl _)
  have RDw9 : Hid (Fi.Rd w9 g s yN eN) := by unfold Hid; rw [hw9]; exact rd_set RDw8.out HG.out.1 HG.out.2.1
  go_upto_region 10 with fail
  rw [← hw9]
  clear hw9 kq kf PFw8 HSw8 Bw8 RDw8
  have ch := CF.out w9
  have s0 : w9.cell? ⟨w4.heap.size, 0, none⟩ = some (.int .i64 pk) := by have := HSw9.out; simp [World.cell?, this]
  have s1 : w9.cell? ⟨w4.heap.size, 1, none⟩ = some (.int .i64 mt) := by have := HSw9.out; simp [World.cell?, this]
  go_wp2_with fail
  refine ch.mono ?_
  rintro e w10 ⟨rfl, bw10⟩
  have PFw10 : Hid (PF w10 w.heap.size 33 ⟨2, 0, nv, 0, false, ⟨#[]⟩, zn, []⟩ (.slice none 0 0)) := PFw9.out.kept bw10
  have HSw10 : Hid (w10.heap[w4.heap.size]? = some (.cells #[.int .i64 pk, .int .i64 mt] 57 (0, 0))) := blk_kept HSw9.out bw10 (blk_lt HSw9.out)
  have Bw10 : Hid (Below w.heap.size w w10) := Bw9.out.trans (bw10.mono Bw9.out.size)
  have RDw10 : Hid (Fi.Rd w10 g s yN eN) := RDw9.out.kept bw10
  clear ch bw10 s0 s1 PFw9 HSw9 Bw9 RDw9
  have ch := CC.out w10
  have s0 : w10.cell? ⟨w4.heap.size, 0, none⟩ = some (.int .i64 pk) := by have := HSw10.out; simp [World.cell?, this]
  have s1 : w10.cell? ⟨w4.heap.size, 1, none⟩ = some (.int .i64 mt) := by have := HSw10.out; simp [World.cell?, this]
  go_wp2_with fail
  refine ch.mono ?_
  rintro e w11 ⟨rfl, bw11⟩
  have PFw11 : Hid (PF w11 w.heap.size 33 ⟨2, 0, nv, 0, false, ⟨#[]⟩, zn, []⟩ (.slice none 0 0)) := PFw10.out.kept bw11
  have HSw11 : Hid (w11.heap[w4.heap.size]? = some (.cells #[.int .i64 pk, .int .i64 mt] 57 (0, 0))) := blk_kept HSw10.out bw11 (blk_lt HSw10.out)
  have Bw11 : Hid (Below w.heap.size w w11) := Bw10.out.trans (bw11.mono Bw10.out.size)
  have RDw11 : Hid (Fi.Rd w11 g s yN eN) := RDw10.out.kept bw11
  clear ch bw11 s0 s1 PFw10 HSw10 Bw10 RDw10
  have ch := CO.out w11
  have s0 : w11.cell? ⟨w4.heap.size, 0, none⟩ = some (.int .i64 pk) := by have := HSw11.out; simp [World.cell?, this]
  have s1 : w11.cell? ⟨w4.heap.size, 1, none⟩ = some (.int .i64 mt) := by have := HSw11.out; simp [World.cell?, this]
  go_wp2_with fail
  refine ch.mono ?_
  rintro e w12 ⟨rfl, bw12⟩
  have PFw12 : Hid (PF w12 w.heap.size 33 ⟨2, 0, nv, 0, false, ⟨#[]⟩, zn, []⟩ (.slice none 0 0)) := PFw11.out.kept bw12
  have HSw12 : Hid (w12.heap[w4.heap.size]? = some (.cells #[.int .i64 pk, .int .i64 mt] 57 (0, 0))) := blk_kept HSw11.out bw12 (blk_lt HSw11.out)
  have Bw12 : Hid (Below w.heap.size w w12) := Bw11.out.trans (bw12.mono Bw11.out.size)
  have RDw12 : Hid (Fi.Rd w12 g s yN eN) := RDw11.out.kept bw12
  clear ch bw12 s0 s1 PFw11 HSw11 Bw11 RDw11
  have ch := CT.out w12
  have s0 : w12.cell? ⟨w4.heap.size, 0, none⟩ = some (.int .i64 pk) := by have := HSw12.out; simp [World.cell?, this]
  have s1 : w12.cell? ⟨w4.heap.size, 1, none⟩ = some (.int .i64 mt) := by have := HSw12.out; simp [World.cell?, this]
  go_wp2_with fail
  refine ch.mono ?_
  rintro e w13 ⟨rfl, bw13⟩
  have PFw13 : Hid (PF w13 w.heap.size 33 ⟨2, 0, nv, 0, false, ⟨#[]⟩, zn, []⟩ (.slice none 0 0)) := PFw12.out.kept bw13
  have HSw13 : Hid (w13.heap[w4.heap.size]? = some (.cells #[.int .i64 pk, .int .i64 mt] 57 (0, 0))) := blk_kept HSw12.out bw13 (blk_lt HSw12.out)
  have Bw13 : Hid (Below w.heap.size w w13) := Bw12.out.trans (bw13.mono Bw12.out.size)
  have RDw13 : Hid (Fi.Rd w13 g s yN eN) := RDw12.out.kept bw13
  clear ch bw13 s0 s1 PFw12 HSw12 Bw12 RDw12
  have HAR : Hid (ahR 2 ys 0 = ((0, nv, 0, 0, zn, []), yN, eN)) := by
    have e1 : hI 2 = false := by decide
    have e2 : hN 2 = true := by decide
    have e3 : hF 2 = false := by decide
    have e4 : hC 2 = false := by decide
    have e5 : hO 2 = false := by decide
    have e6 : hT 2 = false := by decide
    unfold Hid ahR thn
    rw [e1, e2, e3, e4, e5, e6]
    simp only [opt_t, opt_f, HRN.out]
  have cx := fault_any g s yN eN w13 RDw13.out
  go_wp2_with fail
  refine cx.mono ?_
  rintro e wq ⟨rfl, eq⟩
  rw [eq]
  clear cx eq wq
  by_cases he : eN = 0
  rotate_left
  · have tx0 : (fltE eN != 0) = true := by unfold fltE; split <;> simp <;> omega
    have HE : Hid (ahM (2 :: ys) = errM (fltE eN)) := ahM_err (by decide) (by rw [HAR.out]) he
    have NLw13 : Hid ((⟨2, 0, nv, 0, false, ⟨#[]⟩, zn, []⟩ : Fm).nc.length = 16) := rfl
    clear he
    go_wp2_with (refine wpList_store_row rfl 33 _ _ rfl w.heap.size (plA Fm.zero (.slice none 0 0)) rfl rfl 33 _ PFw13.out (infoP.trans (by rw [plA_size rfl])) (by first | rfl | (rw [plA_size NLw13.out, plA_size rfl])) (all_oneCell_toArray (plL_one rfl)) (Hid.out ?_))
    unfold Hid
    go_wp2
    refine bodyPost_ret (ret_ctt rfl (setRow_heap _ _ _ _ _ _ PFw13.out) (infoP.trans (by rw [plA_size rfl]))) rfl ?_
    exact ⟨.slice none 0 0, by rw [HE.out]; rfl, by rw [HE.out]; exact RI.nil _ _ _ _, below_setRow Bw13.out (Nat.le_refl _) _⟩
  have tx0 : (fltE eN != 0) = false := by rw [he]; rfl
  have HEZ : Hid (eN = 0) := he
  clear he
  have cl := Fi.left_any g s yN eN w13 RDw13.out
  have hlz : (yN.length : Int) ≤ 9223372036854775807 := Rd_len RDw13.out
  have sw : IntKind.i64.wrap ((n : Int) - (yN.length : Int)) = (n : Int) - (yN.length : Int) := by rw [IntKind.wrap_i64]; omega
  obtain ⟨zl, hzl⟩ : ∃ zl, zl = yN.length := ⟨_, rfl⟩
  have HZL : Hid (zl = yN.length) := hzl
  rw [← hzl] at cl hlz sw
  clear hzl
  go_wp2_with fail
  refine cl.mono ?_
  rintro e wq ⟨rfl, eq⟩
  rw [eq]
  clear cl eq wq tx0
  have ch := CS.out w13
  have s0 : w13.cell? ⟨w4.heap.size, 0, none⟩ = some (.int .i64 pk) := by have := HSw13.out; simp [World.cell?, this]
  have s1 : w13.cell? ⟨w4.heap.size, 1, none⟩ = some (.int .i64 mt) := by have := HSw13.out; simp [World.cell?, this]
  go_wp2_with fail
  refine ch.mono ?_
  rintro e w14 ⟨rfl, bw14⟩
  have PFw14 : Hid (PF w14 w.heap.size 33 ⟨2, 0, nv, 0, false, ⟨#[]⟩, zn, []⟩ (.slice none 0 0)) := PFw13.out.kept bw14
  have Bw14 : Hid (Below w.heap.size w w14) := Bw13.out.trans (bw14.mono Bw13.out.size)
  have HE0 := ahM_sp (by decide) (by decide) HAR.out HEZ.out
  clear ch bw14 s0 s1 PFw13 HSw13 Bw13 RDw13 HAR
  obtain ⟨u, hu1, hu2⟩ := rNm_drop (by rw [HRN.out, HEZ.out] : rNm 1099511627776 ys 0 = (nv, yN, 0))
  have hnn2 : n = ys.length + 1 := by rw [HN.out]; rfl
  have hzl2 : zl = ys.length - u := by rw [HZL.out, hu2, List.length_drop]
  obtain ⟨U, hU⟩ : ∃ U, U = 1 + u := ⟨_, rfl⟩
  have hUn : U ≤ n := by omega
  have sw2 : (n : Int) - (zl : Int) = (U : Int) := by omega
  have hdr : yN = (2 :: ys).drop U := by rw [hU, hu2, Nat.add_comm]; rfl
  have hsl := HSL.out.kept Bw14.out
  obtain ⟨bb, off, rfl⟩ : ∃ bb off, a = some ⟨bb, off, none⟩ := by
    obtain ⟨a', c', e', -, -, -, hrw⟩ := hsl
    cases e'
    rcases hrw with h0 | ⟨-, bb, off, e2, -⟩
    · simp at h0
    · exact ⟨bb, off, e2⟩
  rw [← HN.out] at hsl
  have hd0 := hsl.drop U hUn
  rw [← hdr] at hd0
  have sx1 : 0 ≤ (U : Int) := by omega
  have sx2 : (U : Int) ≤ (n : Int) := by omega
  have sx3 : (n : Int) ≤ (c : Int) := by omega
  have cmx : c ≤ 9223372036854775807 := by unfold maxLen at hcm; omega
  have hyl : yN.length = n - U := by rw [hdr, List.length_drop, ← HN.out]
  rw [sw2] at sw ⊢
  have HUQ : Hid ((n : Int) - (zl : Int) = (U : Int)) := sw2
  have HE : Hid (ahM (2 :: ys) = if (getP yN).2.2 ≠ 0 then errM (getP yN).2.2 else (mkF 2 (0, nv, 0, 0, zn, []) (getP yN).1, (U : Int) + (getP yN).2.1, 0)) := by unfold Hid; rw [HE0, ← HUQ.out, HN.out, HZL.out]
  have cgK : Hid (∀ v, Sl w14 v yN → Calls Tryz.prog 58 #[v] w14 fun r w' => ∃ v', r = .returned (.tuple #[v', .int .i64 (getP yN).2.1, .int .i64 (getP yN).2.2]) ∧ RSp w' w14.heap.size v' (getP yN).1 ∧ Below w14.heap.size w14 w') := fun v hv => get_any w14 v yN (HT.out.next Bw14.out).v hv (by rw [hyl]; omega)
  have hgb := getP_used yN
  clear HE0 hdr hu1 hu2 hzl2 hnn2 sw2 hU hnn hcm hlc HRN HSL HT CI CN CF CC CO CT CS
  generalize getP yN = GP at *
  obtain ⟨gl, gu, ge⟩ := GP
  simp only at HE cgK hgb
  have hgp : ∀ (A : Option Addr) (N C : Nat), Sl w14 (.slice A N C) yN → Hid (Calls Tryz.prog 58 #[.slice A N C] w14 fun r w' => ∃ v', r = .returned (.tuple #[v', .int .i64 gu, .int .i64 ge]) ∧ RSp w' w14.heap.size v' gl ∧ Below w14.heap.size w14 w') := fun A N C hs => cgK.out _ hs
  have HCG : Hid (Calls Tryz.prog 58 #[.slice (some ⟨bb, if c = U then off else off + U, none⟩) (n - U) (c - U)] w14 fun r w' => ∃ v', r = .returned (.tuple #[v', .int .i64 gu, .int .i64 ge]) ∧ RSp w' w14.heap.size v' gl ∧ Below w14.heap.size w14 w') := by
    refine hgp _ _ _ ?_
    by_cases q : c = U
    · rw [if_pos q]
      have e1 : n - U = 0 := by omega
      have e2 : yN = [] := List.length_eq_zero_iff.1 (by omega)
      rw [e2, e1, show c - U = 0 by omega]
      exact ⟨_, 0, rfl, Nat.le_refl _, by unfold maxLen; omega, fun e => (by cases e), .inl rfl⟩
    · rw [if_neg q]
      exact hd0
  clear cgK hgp hd0 hsl hyl
  have HGB : Hid (0 ≤ gu ∧ gu ≤ 1032) := hgb
  have HUN : Hid (U ≤ 100000) := Nat.le_trans hUn hl
  clear hgb hlz hpos sw hl
  by_cases hcU : c = U
  · have HCG0 := HCG.out
    rw [if_pos hcU] at HCG0
    subst hcU
    obtain rfl : n = c := by omega
    rw [Nat.sub_self] at HCG0
    clear sx2 sx3 hUn
    clear HCG
    go_upto_region 26 with fail
    go_wp2_with fail
    refine HCG0.mono ?_
    rintro e w20 ⟨v20, rfl, r20, b20⟩
    clear HCG0
    obtain ⟨oa, oc, rfl, -, -, -⟩ := r20.is.shape
    have PFw20 : Hid (PF w20 w.heap.size 33 ⟨2, 0, nv, 0, false, ⟨#[]⟩, zn, []⟩ (.slice none 0 0)) := PFw14.out.kept b20
    have Bw20 : Hid (Below w.heap.size w w20) := Bw14.out.trans (b20.mono Bw14.out.size)
    have OR20 : Hid (RSp w20 w.heap.size (.slice oa gl.length oc) gl) := RSp.mono r20 Bw14.out.size
    clear r20 b20 PFw14 Bw14
    by_cases hge : ge = 0
    rotate_left
    · have HEE : Hid (ahM (2 :: ys) = errM ge) := by unfold Hid; rw [HE.out, if_pos hge]
      have tge : (ge != 0) = true := by simpa using hge
      have NLw20 : Hid ((⟨2, 0, nv, 0, false, ⟨#[]⟩, zn, []⟩ : Fm).nc.length = 16) := rfl
      clear hge HE
      go_wp2_with (refine wpList_store_row rfl 33 _ _ rfl w.heap.size (plA Fm.zero (.slice none 0 0)) rfl rfl 33 _ PFw20.out (infoP.trans (by rw [plA_size rfl])) (by first | rfl | (rw [plA_size NLw20.out, plA_size rfl])) (all_oneCell_toArray (plL_one rfl)) (Hid.out ?_))
      unfold Hid
      go_wp2
      refine bodyPost_ret (ret_ctt rfl (setRow_heap _ _ _ _ _ _ PFw20.out) (infoP.trans (by rw [plA_size rfl]))) rfl ?_
      exact ⟨.slice none 0 0, by rw [HEE.out]; rfl, by rw [HEE.out]; exact RI.nil _ _ _ _, below_setRow Bw20.out (Nat.le_refl _) _⟩
    have tge : (ge != 0) = false := by rw [hge]; rfl
    have kq := (PFw20.out.pc rfl).c22
    have kf := PFw20.out.frz 22
    obtain ⟨w21, hw21⟩ : ∃ w21, w21 = w20.setCell ⟨w.heap.size, 22, none⟩ (.slice oa gl.length oc) := ⟨_, rfl⟩
    have PFw21 : Hid (PF w21 w.heap.size 33 ⟨2, 0, nv, 0, false, ⟨#[]⟩, zn, gl⟩ (.slice oa gl.length oc)) := by unfold Hid; rw [hw21]; exact PFw20.out.set 22 _ rfl
    have Bw21 : Hid (Below w.heap.size w w21) := by unfold Hid; rw [hw21]; exact bt_set Bw20.out (Nat.le_refl _)
    have OR21 : Hid (RSp w21 w.heap.size (.slice oa gl.length oc) gl) := by unfold Hid; rw [hw21]; exact OR20.out.keep (fun k cs hk hh => other_set hh (fun e => by have q9 := PFw20.out; unfold PF at q9; rw [e, q9] at hh; cases hh))
    have swu : IntKind.i64.wrap ((n : Int) + gu) = (n : Int) + gu := by have := HGB.out; have := HUN.out; rw [IntKind.wrap_i64]; omega
    have HEE : Hid (ahM (2 :: ys) = (⟨2, 0, nv, 0, false, ⟨#[]⟩, zn, gl⟩, (n : Int) + gu, 0)) := by unfold Hid; rw [HE.out, hge, if_neg (by decide)]; rfl
    have RR : Hid (w21.rangeAt w.heap.size 0 (plL ⟨2, 0, nv, 0, false, ⟨#[]⟩, zn, gl⟩ (.slice oa gl.length oc))) := PFw21.out.range
    have ORZ : Hid (RSp (w21.setRow w.heap.size (plA ⟨2, 0, nv, 0, false, ⟨#[]⟩, zn, gl⟩ (.slice oa gl.length oc))) w.heap.size (.slice oa gl.length oc) gl) := OR21.out.keep (fun k cs hk hh => by rw [setRow_other _ _ _ _ (fun e => by have q9 := PFw21.out; unfold PF at q9; rw [e, q9] at hh; cases hh)]; exact hh)
    clear hge HE OR20 PFw20 Bw20 OR21
    go_upto_region 31 with fail
    rw [← hw21]
    clear hw21 kq kf
    go_wp2_with (first | refine wpList_load_mid rfl 33 _ rfl w.heap.size 0 rfl (plL ⟨2, 0, nv, 0, false, ⟨#[]⟩, zn, gl⟩ (.slice oa gl.length oc)) _ RR.out Tryz.underlying33 rfl (infoP.trans (by rw [plL_len rfl])) (Hid.out ?_) | refine wpList_store_row rfl 33 _ _ rfl w.heap.size (plA ⟨2, 0, nv, 0, false, ⟨#[]⟩, zn, gl⟩ (.slice oa gl.length oc)) rfl rfl 33 _ PFw21.out (infoP.trans (by rw [plA_size rfl])) rfl (all_oneCell_toArray (plL_one rfl)) (Hid.out ?_))
    unfold Hid
    go_wp2_with (first | refine wpList_load_mid rfl 33 _ rfl w.heap.size 0 rfl (plL ⟨2, 0, nv, 0, false, ⟨#[]⟩, zn, gl⟩ (.slice oa gl.length oc)) _ RR.out Tryz.underlying33 rfl (infoP.trans (by rw [plL_len rfl])) (Hid.out ?_) | refine wpList_store_row rfl 33 _ _ rfl w.heap.size (plA ⟨2, 0, nv, 0, false, ⟨#[]⟩, zn, gl⟩ (.slice oa gl.length oc)) rfl rfl 33 _ PFw21.out (infoP.trans (by rw [plA_size rfl])) rfl (all_oneCell_toArray (plL_one rfl)) (Hid.out ?_))
    unfold Hid
    go_wp2
    refine bodyPost_ret (ret_ctt rfl (setRow_heap _ _ _ _ _ _ PFw21.out) (infoP.trans (by rw [plA_size rfl]))) rfl ?_
    exact ⟨(.slice oa gl.length oc), by rw [HEE.out]; rfl, by rw [HEE.out]; exact ORZ.out, below_setRow Bw21.out (Nat.le_refl _) _⟩
  have HCG0 := HCG.out
  rw [if_neg hcU] at HCG0
  clear HCG
  go_upto_region 26 with fail
  go_wp2_with fail
  refine HCG0.mono ?_
  rintro e w20 ⟨v20, rfl, r20, b20⟩
  clear HCG0
  obtain ⟨oa, oc, rfl, -, -, -⟩ := r20.is.shape
  have PFw20 : Hid (PF w20 w.heap.size 33 ⟨2, 0, nv, 0, false, ⟨#[]⟩, zn, []⟩ (.slice none 0 0)) := PFw14.out.kept b20
  have Bw20 : Hid (Below w.heap.size w w20) := Bw14.out.trans (b20.mono Bw14.out.size)
  have OR20 : Hid (RSp w20 w.heap.size (.slice oa gl.length oc) gl) := RSp.mono r20 Bw14.out.size
  clear r20 b20 PFw14 Bw14
  by_cases hge : ge = 0
  rotate_left
  · have HEE : Hid (ahM (2 :: ys) = errM ge) := by unfold Hid; rw [HE.out, if_pos hge]
    have tge : (ge != 0) = true := by simpa using hge
    have NLw20 : Hid ((⟨2, 0, nv, 0, false, ⟨#[]⟩, zn, []⟩ : Fm).nc.length = 16) := rfl
    clear hge HE
    go_wp2_with (refine wpList_store_row rfl 33 _ _ rfl w.heap.size (plA Fm.zero (.slice none 0 0)) rfl rfl 33 _ PFw20.out (infoP.trans (by rw [plA_size rfl])) (by first | rfl | (rw [plA_size NLw20.out, plA_size rfl])) (all_oneCell_toArray (plL_one rfl)) (Hid.out ?_))
    unfold Hid
    go_wp2
    refine bodyPost_ret (ret_ctt rfl (setRow_heap _ _ _ _ _ _ PFw20.out) (infoP.trans (by rw [plA_size rfl]))) rfl ?_
    exact ⟨.slice none 0 0, by rw [HEE.out]; rfl, by rw [HEE.out]; exact RI.nil _ _ _ _, below_setRow Bw20.out (Nat.le_refl _) _⟩
  have tge : (ge != 0) = false := by rw [hge]; rfl
  have kq := (PFw20.out.pc rfl).c22
  have kf := PFw20.out.frz 22
  obtain ⟨w21, hw21⟩ : ∃ w21, w21 = w20.setCell ⟨w.heap.size, 22, none⟩ (.slice oa gl.length oc) := ⟨_, rfl⟩
  have PFw21 : Hid (PF w21 w.heap.size 33 ⟨2, 0, nv, 0, false, ⟨#[]⟩, zn, gl⟩ (.slice oa gl.length oc)) := by unfold Hid; rw [hw21]; exact PFw20.out.set 22 _ rfl
  have Bw21 : Hid (Below w.heap.size w w21) := by unfold Hid; rw [hw21]; exact bt_set Bw20.out (Nat.le_refl _)
  have OR21 : Hid (RSp w21 w.heap.size (.slice oa gl.length oc) gl) := by unfold Hid; rw [hw21]; exact OR20.out.keep (fun k cs hk hh => other_set hh (fun e => by have q9 := PFw20.out; unfold PF at q9; rw [e, q9] at hh; cases hh))
  have swu : IntKind.i64.wrap ((U : Int) + gu) = (U : Int) + gu := by have := HGB.out; have := HUN.out; rw [IntKind.wrap_i64]; omega
  have HEE : Hid (ahM (2 :: ys) = (⟨2, 0, nv, 0, false, ⟨#[]⟩, zn, gl⟩, (U : Int) + gu, 0)) := by unfold Hid; rw [HE.out, hge, if_neg (by decide)]; rfl
  have RR : Hid (w21.rangeAt w.heap.size 0 (plL ⟨2, 0, nv, 0, false, ⟨#[]⟩, zn, gl⟩ (.slice oa gl.length oc))) := PFw21.out.range
  have ORZ : Hid (RSp (w21.setRow w.heap.size (plA ⟨2, 0, nv, 0, false, ⟨#[]⟩, zn, gl⟩ (.slice oa gl.length oc))) w.heap.size (.slice oa gl.length oc) gl) := OR21.out.keep (fun k cs hk hh => by rw [setRow_other _ _ _ _ (fun e => by have q9 := PFw21.out; unfold PF at q9; rw [e, q9] at hh; cases hh)]; exact hh)
  clear hge HE OR20 PFw20 Bw20 OR21
  go_upto_region 31 with fail
  rw [← hw21]
  clear hw21 kq kf
  go_wp2_with (first | refine wpList_load_mid rfl 33 _ rfl w.heap.size 0 rfl (plL ⟨2, 0, nv, 0, false, ⟨#[]⟩, zn, gl⟩ (.slice oa gl.length oc)) _ RR.out Tryz.underlying33 rfl (infoP.trans (by rw [plL_len rfl])) (Hid.out ?_) | refine wpList_store_row rfl 33 _ _ rfl w.heap.size (plA ⟨2, 0, nv, 0, false, ⟨#[]⟩, zn, gl⟩ (.slice oa gl.length oc)) rfl rfl 33 _ PFw21.out (infoP.trans (by rw [plA_size rfl])) rfl (all_oneCell_toArray (plL_one rfl)) (Hid.out ?_))
  unfold Hid
  go_wp2_with (first | refine wpList_load_mid rfl 33 _ rfl w.heap.size 0 rfl (plL ⟨2, 0, nv, 0, false, ⟨#[]⟩, zn, gl⟩ (.slice oa gl.length oc)) _ RR.out Tryz.underlying33 rfl (infoP.trans (by rw [plL_len rfl])) (Hid.out ?_) | refine wpList_store_row rfl 33 _ _ rfl w.heap.size (plA ⟨2, 0, nv, 0, false, ⟨#[]⟩, zn, gl⟩ (.slice oa gl.length oc)) rfl rfl 33 _ PFw21.out (infoP.trans (by rw [plA_size rfl])) rfl (all_oneCell_toArray (plL_one rfl)) (Hid.out ?_))
  unfold Hid
  go_wp2
  refine bodyPost_ret (ret_ctt rfl (setRow_heap _ _ _ _ _ _ PFw21.out) (infoP.trans (by rw [plA_size rfl]))) rfl ?_
  exact ⟨(.slice oa gl.length oc), by rw [HEE.out]; rfl, by rw [HEE.out]; exact ORZ.out, below_setRow Bw21.out (Nat.le_refl _) _⟩
end Go.Proofs.YtmplpdjkhdaniaaGreatDoor
