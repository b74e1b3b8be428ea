/-
  What plainAhead answers, kind by kind.
-/
import Derived.Test.YtmplpdjkhdaniaaGreatDoorWbh
namespace Go.Proofs.YtmplpdjkhdaniaaGreatDoor
open Go.RowKit Go.Shelf
set_option maxRecDepth 100000

set_option maxHeartbeats 8000000 in
theorem ahd3 (v : Value) (ys : List Int) (w : World) (ht : Tb w) (h : Sl w v (3 :: ys)) (hl : (3 :: ys).length ≤ 100000) :
    Calls Tryz.prog 36 #[v] w fun e w' => ∃ sv, e = .returned (.tuple #[.agg (plA (ahM (3 :: ys)).1 sv), .int .i64 (ahM (3 :: ys)).2.1, .int .i64 (ahM (3 :: ys)).2.2]) ∧ RSp w' w.heap.size sv (ahM (3 :: ys)).1.sp ∧ Below w.heap.size w w' := by
  obtain ⟨W1, hW1⟩ : ∃ W1, W1 = w.alloc (.cells #[.int .u8 0, .int .i64 0, .int .i64 0, .int .i64 0, .bool false, .string ⟨#[]⟩, .int .u8 0, .int .u8 0, .int .u8 0, .int .u8 0, .int .u8 0, .int .u8 0, .int .u8 0, .int .u8 0, .int .u8 0, .int .u8 0, .int .u8 0, .int .u8 0, .int .u8 0, .int .u8 0, .int .u8 0, .int .u8 0, .slice none 0 0] 33) := ⟨_, rfl⟩
  have b1 : Below w.heap.size w W1 := by rw [hW1]; exact al_below _ _
  have g1 : PF W1 w.heap.size 33 Fm.zero (.slice none 0 0) := by rw [hW1]; exact heap_alloc_new _ _
  have z1 : W1.heap.size = w.heap.size + 1 := by rw [hW1]; simp
  have cn := Fi.new_any v (3 :: ys) W1 (ht.next b1).v (fsl (h.kept b1)) (by omega)
  obtain ⟨a, c, rfl, hlc, hcm, hnn, -⟩ := id h
  have HT : Hid (Tb w) := ht
  have HSL : Hid (Sl w (.slice a (3 :: ys).length c) (3 :: ys)) := h
  have HB1 : Hid (Below w.heap.size w W1) := b1
  have HP1 : Hid (PF W1 w.heap.size 33 Fm.zero (.slice none 0 0)) := g1
  have hpos := ht.pos
  clear ht h b1 g1
  obtain ⟨n, hn⟩ : ∃ n, n = (3 :: ys).length := ⟨_, rfl⟩
  have HN : Hid (n = (3 :: ys).length) := hn
  rw [← hn] at hl cn hlc ⊢
  clear hn
  go_enter Tryz.func36, Tryz.ntmps36
  go_upto_region 1 with fail
  rw [← hW1]
  clear hW1
  go_wp2_with fail
  refine cn.mono ?_
  rintro e w2 ⟨g, s, rfl, hg1, hg2, hs, rd2, b2⟩
  have HG : Hid (g ≠ w.heap.size ∧ s ≠ w.heap.size ∧ w.heap.size < g ∧ 2 ≤ g) := ⟨by omega, by omega, by omega, by omega⟩
  have HGZ : Hid (g < w2.heap.size ∧ s < w2.heap.size) := ⟨hg2, by omega⟩
  have B2 : Hid (Below w.heap.size w w2) := HB1.out.trans (b2.mono HB1.out.size)
  have PF2 : Hid (PF w2 w.heap.size 33 Fm.zero (.slice none 0 0)) := HP1.out.kept b2
  have cb := rdByte g s (3 :: ys) 0 w2 rd2
  rw [rBt_cons] at cb
  clear cn hg1 hg2 hs rd2 b2 HB1 HP1 z1
  go_wp2_with fail
  refine cb.mono ?_
  rintro e w3 ⟨rfl, rd3, bt3⟩
  have PF3 : Hid (PF w3 w.heap.size 33 Fm.zero (.slice none 0 0)) := PF2.out.bt bt3 (Ne.symm HG.out.1)
  have B3 : Hid (Below w.heap.size w w3) := bt3.below B2.out (Nat.le_of_lt HG.out.2.2.1) B2.out.size
  have k0 := (PF3.out.pc rfl).c0
  have k1 := PF3.out.frz 0
  obtain ⟨w4, hw4⟩ : ∃ w4, w4 = w3.setCell ⟨w.heap.size, 0, none⟩ (.int .u8 3) := ⟨_, rfl⟩
  have PFw4 : Hid (PF w4 w.heap.size 33 ⟨3, 0, 0, 0, false, ⟨#[]⟩, zn, []⟩ (.slice none 0 0)) := by unfold Hid; rw [hw4]; exact PF3.out.set 0 _ rfl
  have Bw4 : Hid (Below w.heap.size w w4) := by unfold Hid; rw [hw4]; exact bt_set B3.out (Nat.le_refl _)
  have RDw4 : Hid (Fi.Rd w4 g s ys 0) := by unfold Hid; rw [hw4]; exact rd_set rd3 HG.out.1 HG.out.2.1
  have Zw4 : Hid (w2.heap.size ≤ w4.heap.size) := by unfold Hid; rw [hw4]; simpa [World.setCell] using bt3.size
  clear cb rd3 bt3 B2 PF2
  go_upto_region 3 with fail
  rw [← hw4]
  clear hw4 k0 k1 PF3 B3
  have ce := Fi.err_any g s ys 0 w4 RDw4.out
  have k0 := (PFw4.out.pc rfl).c0
  have ci := isK_any 3 w4
  rw [show isK 3 = true from by decide] at ci
  go_wp2_with fail
  refine ce.mono ?_
  rintro e wq ⟨rfl, eq⟩
  rw [eq]
  clear ce eq wq
  go_wp2_with fail
  refine ci.mono ?_
  rintro e wq ⟨rfl, eq⟩
  rw [eq]
  clear ci eq wq
  obtain ⟨t0, t1⟩ : w4.cell? ⟨0, 6, none⟩ = some (.int .i64 (pkN 3)) ∧ w4.cell? ⟨0, 7, none⟩ = some (.int .i64 (mT 3)) := (HT.out.next Bw4.out).s 3 (by omega)
  obtain ⟨w5, hw5⟩ : ∃ w5, w5 = w4.alloc (.cells #[.int .i64 (pkN 3), .int .i64 (mT 3)] 57) := ⟨_, rfl⟩
  have b5 : Below w4.heap.size w4 w5 := by rw [hw5]; exact al_below _ _
  have HSw5 : Hid (w5.heap[w4.heap.size]? = some (.cells #[.int .i64 (pkN 3), .int .i64 (mT 3)] 57 (0, 0))) := by unfold Hid; rw [hw5]; exact heap_alloc_new _ _
  have PFw5 : Hid (PF w5 w.heap.size 33 ⟨3, 0, 0, 0, false, ⟨#[]⟩, zn, []⟩ (.slice none 0 0)) := PFw4.out.kept b5
  have Bw5 : Hid (Below w.heap.size w w5) := Bw4.out.trans (b5.mono Bw4.out.size)
  have RDw5 : Hid (Fi.Rd w5 g s ys 0) := RDw4.out.kept b5
  have HQ : Hid (w4.heap.size ≠ w.heap.size ∧ w4.heap.size ≠ g) := ⟨by have := blk_lt PFw4.out; omega, by have := HGZ.out.1; have := Zw4.out; omega⟩
  have PS : Hid (w.heap.size < w5.heap.size) := blk_lt PFw5.out
  have CI : Hid (∀ W, Calls Tryz.prog 28 #[.agg #[.int .i64 (pkN 3), .int .i64 (mT 3)], .int .i64 1] W fun e w' => e = .returned (.bool true) ∧ Below W.heap.size W w') := fun W => has_k 3 (by omega) (by omega) W 1 _ (by decide)
  have CN : Hid (∀ W, Calls Tryz.prog 28 #[.agg #[.int .i64 (pkN 3), .int .i64 (mT 3)], .int .i64 2] W fun e w' => e = .returned (.bool true) ∧ Below W.heap.size W w') := fun W => has_k 3 (by omega) (by omega) W 2 _ (by decide)
  have CF : Hid (∀ W, Calls Tryz.prog 28 #[.agg #[.int .i64 (pkN 3), .int .i64 (mT 3)], .int .i64 4] W fun e w' => e = .returned (.bool true) ∧ Below W.heap.size W w') := fun W => has_k 3 (by omega) (by omega) W 4 _ (by decide)
  have CC : Hid (∀ W, Calls Tryz.prog 28 #[.agg #[.int .i64 (pkN 3), .int .i64 (mT 3)], .int .i64 8] W fun e w' => e = .returned (.bool false) ∧ Below W.heap.size W w') := fun W => has_k 3 (by omega) (by omega) W 8 _ (by decide)
  have CO : Hid (∀ W, Calls Tryz.prog 28 #[.agg #[.int .i64 (pkN 3), .int .i64 (mT 3)], .int .i64 16] W fun e w' => e = .returned (.bool false) ∧ Below W.heap.size W w') := fun W => has_k 3 (by omega) (by omega) W 16 _ (by decide)
  have CT : Hid (∀ W, Calls Tryz.prog 28 #[.agg #[.int .i64 (pkN 3), .int .i64 (mT 3)], .int .i64 32] W fun e w' => e = .returned (.bool true) ∧ Below W.heap.size W w') := fun W => has_k 3 (by omega) (by omega) W 32 _ (by decide)
  have CS : Hid (∀ W, Calls Tryz.prog 28 #[.agg #[.int .i64 (pkN 3), .int .i64 (mT 3)], .int .i64 64] W fun e w' => e = .returned (.bool false) ∧ Below W.heap.size W w') := fun W => has_k 3 (by omega) (by omega) W 64 _ (by decide)
  have HMT : Hid (mT 3 = mT 3) := rfl
  obtain ⟨pk, hpk⟩ : ∃ pk, pk = pkN 3 := ⟨_, rfl⟩
  obtain ⟨mt, hmt⟩ : ∃ mt, mt = mT 3 := ⟨_, rfl⟩
  have HMQ : Hid (mt = mT 3) := hmt
  rw [← hpk] at t0
  rw [← hmt] at t1
  rw [← hpk, ← hmt] at hw5 HSw5
  simp only [← hpk, ← hmt] at CI CN CF CC CO CT CS
  clear hpk hmt HMT
  clear b5 PFw4 Bw4 RDw4 Zw4 HGZ
  go_upto_region 6 with fail
  rw [← hw5]
  clear hw5 t0 t1 k0
  have ch := CI.out w5
  have s0 : w5.cell? ⟨w4.heap.size, 0, none⟩ = some (.int .i64 pk) := by have := HSw5.out; simp [World.cell?, this]
  have s1 : w5.cell? ⟨w4.heap.size, 1, none⟩ = some (.int .i64 mt) := by have := HSw5.out; simp [World.cell?, this]
  go_wp2_with fail
  refine ch.mono ?_
  rintro e w6 ⟨rfl, bw6⟩
  have PFw6 : Hid (PF w6 w.heap.size 33 ⟨3, 0, 0, 0, false, ⟨#[]⟩, zn, []⟩ (.slice none 0 0)) := PFw5.out.kept bw6
  have HSw6 : Hid (w6.heap[w4.heap.size]? = some (.cells #[.int .i64 pk, .int .i64 mt] 57 (0, 0))) := blk_kept HSw5.out bw6 (blk_lt HSw5.out)
  have Bw6 : Hid (Below w.heap.size w w6) := Bw5.out.trans (bw6.mono Bw5.out.size)
  have RDw6 : Hid (Fi.Rd w6 g s ys 0) := RDw5.out.kept bw6
  clear ch bw6 s0 s1 PFw5 HSw5 Bw5 RDw5
  have cm := rdNm g s ys 0 1048576 w6 (HT.out.next Bw6.out).v RDw6.out
  obtain ⟨RI, hRI⟩ : ∃ R, R = rNm 1048576 ys 0 := ⟨_, rfl⟩
  rw [← hRI] at cm
  obtain ⟨iv, yI, eI⟩ := RI
  have HRI : Hid (rNm 1048576 ys 0 = (iv, yI, eI)) := hRI.symm
  clear hRI
  simp only at cm
  go_wp2_with fail
  refine cm.mono ?_
  rintro e w7 ⟨rfl, rdw7, btw7⟩
  have PFw7 : Hid (PF w7 w.heap.size 33 ⟨3, 0, 0, 0, false, ⟨#[]⟩, zn, []⟩ (.slice none 0 0)) := PFw6.out.bt btw7 (Ne.symm HG.out.1)
  have HSw7 : Hid (w7.heap[w4.heap.size]? = some (.cells #[.int .i64 pk, .int .i64 mt] 57 (0, 0))) := (btw7.block _ (blk_lt HSw6.out) HQ.out.2).trans HSw6.out
  have Bw7 : Hid (Below w.heap.size w w7) := btw7.below Bw6.out (Nat.le_of_lt HG.out.2.2.1) Bw6.out.size
  have RDw7 : Hid (Fi.Rd w7 g s yI eI) := rdw7
  clear cm rdw7 btw7 PFw6 HSw6 Bw6 RDw6
  have kq := (PFw7.out.pc rfl).c1
  have kf := PFw7.out.frz 1
  obtain ⟨w8, hw8⟩ : ∃ w8, w8 = w7.setCell ⟨w.heap.size, 1, none⟩ (.int .i64 iv) := ⟨_, rfl⟩
  have PFw8 : Hid (PF w8 w.heap.size 33 ⟨3, iv, 0, 0, false, ⟨#[]⟩, zn, []⟩ (.slice none 0 0)) := by unfold Hid; rw [hw8]; exact PFw7.out.set 1 _ rfl
  have HSw8 : Hid (w8.heap[w4.heap.size]? = some (.cells #[.int .i64 pk, .int .i64 mt] 57 (0, 0))) := by unfold Hid; rw [hw8]; exact other_set HSw7.out HQ.out.1
  have Bw8 : Hid (Below w.heap.size w w8) := by unfold Hid; rw [hw8]; exact bt_set Bw7.out (Nat.le_refl _)
  have RDw8 : Hid (Fi.Rd w8 g s yI eI) := by unfold Hid; rw [hw8]; exact rd_set RDw7.out HG.out.1 HG.out.2.1
  go_upto_region 8 with fail
  rw [← hw8]
  clear hw8 kq kf PFw7 HSw7 Bw7 RDw7
  have ch := CN.out w8
  have s0 : w8.cell? ⟨w4.heap.size, 0, none⟩ = some (.int .i64 pk) := by have := HSw8.out; simp [World.cell?, this]
  have s1 : w8.cell? ⟨w4.heap.size, 1, none⟩ = some (.int .i64 mt) := by have := HSw8.out; simp [World.cell?, this]
  go_wp2_with fail
  refine ch.mono ?_
  rintro e w9 ⟨rfl, bw9⟩
  have PFw9 : Hid (PF w9 w.heap.size 33 ⟨3, iv, 0, 0, false, ⟨#[]⟩, zn, []⟩ (.slice none 0 0)) := PFw8.out.kept bw9
  have HSw9 : Hid (w9.heap[w4.heap.size]? = some (.cells #[.int .i64 pk, .int .i64 mt] 57 (0, 0))) := blk_kept HSw8.out bw9 (blk_lt HSw8.out)
  have Bw9 : Hid (Below w.heap.size w w9) := Bw8.out.trans (bw9.mono Bw8.out.size)
  have RDw9 : Hid (Fi.Rd w9 g s yI eI) := RDw8.out.kept bw9
  clear ch bw9 s0 s1 PFw8 HSw8 Bw8 RDw8
  have cm := rdNm g s yI eI 1099511627776 w9 (HT.out.next Bw9.out).v RDw9.out
  obtain ⟨RN, hRN⟩ : ∃ R, R = rNm 1099511627776 yI eI := ⟨_, rfl⟩
  rw [← hRN] at cm
  obtain ⟨nv, yN, eN⟩ := RN
  have HRN : Hid (rNm 1099511627776 yI eI = (nv, yN, eN)) := hRN.symm
  clear hRN
  simp only at cm
  go_wp2_with fail
  refine cm.mono ?_
  rintro e w10 ⟨rfl, rdw10, btw10⟩
  have PFw10 : Hid (PF w10 w.heap.size 33 ⟨3, iv, 0, 0, false, ⟨#[]⟩, zn, []⟩ (.slice none 0 0)) := PFw9.out.bt btw10 (Ne.symm HG.out.1)
  have HSw10 : Hid (w10.heap[w4.heap.size]? = some (.cells #[.int .i64 pk, .int .i64 mt] 57 (0, 0))) := (btw10.block _ (blk_lt HSw9.out) HQ.out.2).trans HSw9.out
  have Bw10 : Hid (Below w.heap.size w w10) := btw10.below Bw9.out (Nat.le_of_lt HG.out.2.2.1) Bw9.out.size
  have RDw10 : Hid (Fi.Rd w10 g s yN eN) := rdw10
  clear cm rdw10 btw10 PFw9 HSw9 Bw9 RDw9
  have kq := (PFw10.out.pc rfl).c2
  have kf := PFw10.out.frz 2
  obtain ⟨w11, hw11⟩ : ∃ w11, w11 = w10.setCell ⟨w.heap.size, 2, none⟩ (.int .i64 nv) := ⟨_, rfl⟩
  have PFw11 : Hid (PF w11 w.heap.size 33 ⟨3, iv, nv, 0, false, ⟨#[]⟩, zn, []⟩ (.slice none 0 0)) := by unfold Hid; rw [hw11]; exact PFw10.out.set 2 _ rfl
  have HSw11 : Hid (w11.heap[w4.heap.size]? = some (.cells #[.int .i64 pk, .int .i64 mt] 57 (0, 0))) := by unfold Hid; rw [hw11]; exact other_set HSw10.out HQ.out.1
  have Bw11 : Hid (Below w.heap.size w w11) := by unfold Hid; rw [hw11]; exact bt_set Bw10.out (Nat.le_refl _)
  have RDw11 : Hid (Fi.Rd w11 g s yN eN) := by unfold Hid; rw [hw11]; exact rd_set RDw10.out HG.out.1 HG.out.2.1
  go_upto_region 10 with fail
  rw [← hw11]
  clear hw11 kq kf PFw10 HSw10 Bw10 RDw10
  have ch := CF.out w11
  have s0 : w11.cell? ⟨w4.heap.size, 0, none⟩ = some (.int .i64 pk) := by have := HSw11.out; simp [World.cell?, this]
  have s1 : w11.cell? ⟨w4.heap.size, 1, none⟩ = some (.int .i64 mt) := by have := HSw11.out; simp [World.cell?, this]
  go_wp2_with fail
  refine ch.mono ?_
  rintro e w12 ⟨rfl, bw12⟩
  have PFw12 : Hid (PF w12 w.heap.size 33 ⟨3, iv, nv, 0, false, ⟨#[]⟩, zn, []⟩ (.slice none 0 0)) := PFw11.out.kept bw12
  have HSw12 : Hid (w12.heap[w4.heap.size]? = some (.cells #[.int .i64 pk, .int .i64 mt] 57 (0, 0))) := blk_kept HSw11.out bw12 (blk_lt HSw11.out)
  have Bw12 : Hid (Below w.heap.size w w12) := Bw11.out.trans (bw12.mono Bw11.out.size)
  have RDw12 : Hid (Fi.Rd w12 g s yN eN) := RDw11.out.kept bw12
  clear ch bw12 s0 s1 PFw11 HSw11 Bw11 RDw11
  have cm := rdByte g s yN eN w12 RDw12.out
  have hfn := rFn_bt yN eN
  obtain ⟨RF, hRF⟩ : ∃ R, R = rBt yN eN := ⟨_, rfl⟩
  rw [← hRF] at cm hfn
  obtain ⟨fv, yF, eF⟩ := RF
  simp only at cm hfn
  have HF1 : Hid (fv ≤ 1 → rFn yN eN = (fv, yF, eF)) := hfn.1
  have HF2 : Hid (1 < fv → (rFn yN eN).2.2 = 4) := hfn.2
  clear hRF hfn
  go_wp2_with fail
  refine cm.mono ?_
  rintro e w13 ⟨rfl, rdw13, btw13⟩
  have PFw13 : Hid (PF w13 w.heap.size 33 ⟨3, iv, nv, 0, false, ⟨#[]⟩, zn, []⟩ (.slice none 0 0)) := PFw12.out.bt btw13 (Ne.symm HG.out.1)
  have HSw13 : Hid (w13.heap[w4.heap.size]? = some (.cells #[.int .i64 pk, .int .i64 mt] 57 (0, 0))) := (btw13.block _ (blk_lt HSw12.out) HQ.out.2).trans HSw12.out
  have Bw13 : Hid (Below w.heap.size w w13) := btw13.below Bw12.out (Nat.le_of_lt HG.out.2.2.1) Bw12.out.size
  have RDw13 : Hid (Fi.Rd w13 g s yF eF) := rdw13
  clear cm rdw13 btw13 PFw12 HSw12 Bw12 RDw12
  have cf := fin_any true w13
  go_wp2_with fail
  refine cf.mono ?_
  rintro e wq ⟨rfl, eq⟩
  rw [eq]
  clear eq wq
  have hfb : finB true = 1 := rfl
  rw [hfb] at cf ⊢
  by_cases hf : 1 < fv
  · have tf : decide (fv > 1) = true := by simp; omega
    have HE : Hid (ahM (3 :: ys) = errM 4) := by
      have q : (ahR 3 ys 0).2.2 = 4 := by
        exact ahR_fin4 HRI.out HRN.out (HF2.out hf)
      exact ahM_err (by decide) q (by decide)
    have NLw13 : Hid ((⟨3, iv, nv, 0, false, ⟨#[]⟩, zn, []⟩ : Fm).nc.length = 16) := rfl
    clear cf hf
    go_wp2_with (refine wpList_store_row rfl 33 _ _ rfl w.heap.size (plA Fm.zero (.slice none 0 0)) rfl rfl 33 _ PFw13.out (infoP.trans (by rw [plA_size rfl])) (by first | rfl | (rw [plA_size NLw13.out, plA_size rfl])) (all_oneCell_toArray (plL_one rfl)) (Hid.out ?_))
    unfold Hid
    go_wp2
    refine bodyPost_ret (ret_ctt rfl (setRow_heap _ _ _ _ _ _ PFw13.out) (infoP.trans (by rw [plA_size rfl]))) rfl ?_
    exact ⟨.slice none 0 0, by rw [HE.out]; rfl, by rw [HE.out]; exact RI.nil _ _ _ _, below_setRow Bw13.out (Nat.le_refl _) _⟩
  have tf : decide (fv > 1) = false := by simp; omega
  have HRF : Hid (rFn yN eN = (fv, yF, eF)) := HF1.out (by omega)
  clear HF1 HF2 hf
  go_wp2_with fail
  refine cf.mono ?_
  rintro e wq ⟨rfl, eq⟩
  rw [eq]
  clear cf eq wq
  have kq := (PFw13.out.pc rfl).c4
  have kf := PFw13.out.frz 4
  obtain ⟨w14, hw14⟩ : ∃ w14, w14 = w13.setCell ⟨w.heap.size, 4, none⟩ (.bool (fv == 1)) := ⟨_, rfl⟩
  have PFw14 : Hid (PF w14 w.heap.size 33 ⟨3, iv, nv, 0, (fv == 1), ⟨#[]⟩, zn, []⟩ (.slice none 0 0)) := by unfold Hid; rw [hw14]; exact PFw13.out.set 4 _ rfl
  have HSw14 : Hid (w14.heap[w4.heap.size]? = some (.cells #[.int .i64 pk, .int .i64 mt] 57 (0, 0))) := by unfold Hid; rw [hw14]; exact other_set HSw13.out HQ.out.1
  have Bw14 : Hid (Below w.heap.size w w14) := by unfold Hid; rw [hw14]; exact bt_set Bw13.out (Nat.le_refl _)
  have RDw14 : Hid (Fi.Rd w14 g s yF eF) := by unfold Hid; rw [hw14]; exact rd_set RDw13.out HG.out.1 HG.out.2.1
  go_upto_region 15 with fail
  rw [← hw14]
  clear hw14 kq kf PFw13 HSw13 Bw13 RDw13 tf
  have ch := CC.out w14
  have s0 : w14.cell? ⟨w4.heap.size, 0, none⟩ = some (.int .i64 pk) := by have := HSw14.out; simp [World.cell?, this]
  have s1 : w14.cell? ⟨w4.heap.size, 1, none⟩ = some (.int .i64 mt) := by have := HSw14.out; simp [World.cell?, this]
  go_wp2_with fail
  refine ch.mono ?_
  rintro e w15 ⟨rfl, bw15⟩
  have PFw15 : Hid (PF w15 w.heap.size 33 ⟨3, iv, nv, 0, (fv == 1), ⟨#[]⟩, zn, []⟩ (.slice none 0 0)) := PFw14.out.kept bw15
  have HSw15 : Hid (w15.heap[w4.heap.size]? = some (.cells #[.int .i64 pk, .int .i64 mt] 57 (0, 0))) := blk_kept HSw14.out bw15 (blk_lt HSw14.out)
  have Bw15 : Hid (Below w.heap.size w w15) := Bw14.out.trans (bw15.mono Bw14.out.size)
  have RDw15 : Hid (Fi.Rd w15 g s yF eF) := RDw14.out.kept bw15
  clear ch bw15 s0 s1 PFw14 HSw14 Bw14 RDw14
  have ch := CO.out w15
  have s0 : w15.cell? ⟨w4.heap.size, 0, none⟩ = some (.int .i64 pk) := by have := HSw15.out; simp [World.cell?, this]
  have s1 : w15.cell? ⟨w4.heap.size, 1, none⟩ = some (.int .i64 mt) := by have := HSw15.out; simp [World.cell?, this]
  go_wp2_with fail
  refine ch.mono ?_
  rintro e w16 ⟨rfl, bw16⟩
  have PFw16 : Hid (PF w16 w.heap.size 33 ⟨3, iv, nv, 0, (fv == 1), ⟨#[]⟩, zn, []⟩ (.slice none 0 0)) := PFw15.out.kept bw16
  have HSw16 : Hid (w16.heap[w4.heap.size]? = some (.cells #[.int .i64 pk, .int .i64 mt] 57 (0, 0))) := blk_kept HSw15.out bw16 (blk_lt HSw15.out)
  have Bw16 : Hid (Below w.heap.size w w16) := Bw15.out.trans (bw16.mono Bw15.out.size)
  have RDw16 : Hid (Fi.Rd w16 g s yF eF) := RDw15.out.kept bw16
  clear ch bw16 s0 s1 PFw15 HSw15 Bw15 RDw15
  have ch := CT.out w16
  have s0 : w16.cell? ⟨w4.heap.size, 0, none⟩ = some (.int .i64 pk) := by have := HSw16.out; simp [World.cell?, this]
  have s1 : w16.cell? ⟨w4.heap.size, 1, none⟩ = some (.int .i64 mt) := by have := HSw16.out; simp [World.cell?, this]
  go_wp2_with fail
  refine ch.mono ?_
  rintro e w17 ⟨rfl, bw17⟩
  have PFw17 : Hid (PF w17 w.heap.size 33 ⟨3, iv, nv, 0, (fv == 1), ⟨#[]⟩, zn, []⟩ (.slice none 0 0)) := PFw16.out.kept bw17
  have HSw17 : Hid (w17.heap[w4.heap.size]? = some (.cells #[.int .i64 pk, .int .i64 mt] 57 (0, 0))) := blk_kept HSw16.out bw17 (blk_lt HSw16.out)
  have Bw17 : Hid (Below w.heap.size w w17) := Bw16.out.trans (bw17.mono Bw16.out.size)
  have RDw17 : Hid (Fi.Rd w17 g s yF eF) := RDw16.out.kept bw17
  clear ch bw17 s0 s1 PFw16 HSw16 Bw16 RDw16
  have cm := rdText g s yF eF mt w17 (HT.out.next Bw17.out).v RDw17.out
  have s1 : w17.cell? ⟨w4.heap.size, 1, none⟩ = some (.int .i64 mt) := by have := HSw17.out; simp [World.cell?, this]
  obtain ⟨RT, hRT⟩ : ∃ R, R = rTx mt yF eF := ⟨_, rfl⟩
  rw [← hRT] at cm
  obtain ⟨tv, yT, eT⟩ := RT
  have HRT : Hid (rTx mt yF eF = (tv, yT, eT)) := hRT.symm
  clear hRT
  simp only at cm
  go_wp2_with fail
  refine cm.mono ?_
  rintro e w18 ⟨rfl, rdw18, btw18⟩
  have PFw18 : Hid (PF w18 w.heap.size 33 ⟨3, iv, nv, 0, (fv == 1), ⟨#[]⟩, zn, []⟩ (.slice none 0 0)) := PFw17.out.bt btw18 (Ne.symm HG.out.1)
  have HSw18 : Hid (w18.heap[w4.heap.size]? = some (.cells #[.int .i64 pk, .int .i64 mt] 57 (0, 0))) := (btw18.block _ (blk_lt HSw17.out) HQ.out.2).trans HSw17.out
  have Bw18 : Hid (Below w.heap.size w w18) := btw18.below Bw17.out (Nat.le_of_lt HG.out.2.2.1) Bw17.out.size
  have RDw18 : Hid (Fi.Rd w18 g s yT eT) := rdw18
  clear cm rdw18 btw18 s1 PFw17 HSw17 Bw17 RDw17
  have kq := (PFw18.out.pc rfl).c5
  have kf := PFw18.out.frz 5
  obtain ⟨w19, hw19⟩ : ∃ w19, w19 = w18.setCell ⟨w.heap.size, 5, none⟩ (.string (Fi.strB tv)) := ⟨_, rfl⟩
  have PFw19 : Hid (PF w19 w.heap.size 33 ⟨3, iv, nv, 0, (fv == 1), Fi.strB tv, zn, []⟩ (.slice none 0 0)) := by unfold Hid; rw [hw19]; exact PFw18.out.set 5 _ rfl
  have HSw19 : Hid (w19.heap[w4.heap.size]? = some (.cells #[.int .i64 pk, .int .i64 mt] 57 (0, 0))) := by unfold Hid; rw [hw19]; exact other_set HSw18.out HQ.out.1
  have Bw19 : Hid (Below w.heap.size w w19) := by unfold Hid; rw [hw19]; exact bt_set Bw18.out (Nat.le_refl _)
  have RDw19 : Hid (Fi.Rd w19 g s yT eT) := by unfold Hid; rw [hw19]; exact rd_set RDw18.out HG.out.1 HG.out.2.1
  go_upto_region 21 with fail
  rw [← hw19]
  clear hw19 kq kf PFw18 HSw18 Bw18 RDw18
  have HAR : Hid (ahR 3 ys 0 = ((iv, nv, fv, 0, zn, tv), yT, eT)) := by
    have e1 : hI 3 = true := by decide
    have e2 : hN 3 = true := by decide
    have e3 : hF 3 = true := by decide
    have e4 : hC 3 = false := by decide
    have e5 : hO 3 = false := by decide
    have e6 : hT 3 = true := by decide
    unfold Hid ahR thn
    rw [e1, e2, e3, e4, e5, e6]
    rw [← HMQ.out]
    simp only [opt_t, opt_f, HRI.out, HRN.out, HRF.out, HRT.out]
  have cx := fault_any g s yT eT w19 RDw19.out
  go_wp2_with fail
  refine cx.mono ?_
  rintro e wq ⟨rfl, eq⟩
  rw [eq]
  clear cx eq wq
  by_cases he : eT = 0
  rotate_left
  · have tx0 : (fltE eT != 0) = true := by unfold fltE; split <;> simp <;> omega
    have HE : Hid (ahM (3 :: ys) = errM (fltE eT)) := ahM_err (by decide) (by rw [HAR.out]) he
    have NLw19 : Hid ((⟨3, iv, nv, 0, (fv == 1), Fi.strB tv, zn, []⟩ : Fm).nc.length = 16) := rfl
    clear he
    go_wp2_with (refine wpList_store_row rfl 33 _ _ rfl w.heap.size (plA Fm.zero (.slice none 0 0)) rfl rfl 33 _ PFw19.out (infoP.trans (by rw [plA_size rfl])) (by first | rfl | (rw [plA_size NLw19.out, plA_size rfl])) (all_oneCell_toArray (plL_one rfl)) (Hid.out ?_))
    unfold Hid
    go_wp2
    refine bodyPost_ret (ret_ctt rfl (setRow_heap _ _ _ _ _ _ PFw19.out) (infoP.trans (by rw [plA_size rfl]))) rfl ?_
    exact ⟨.slice none 0 0, by rw [HE.out]; rfl, by rw [HE.out]; exact RI.nil _ _ _ _, below_setRow Bw19.out (Nat.le_refl _) _⟩
  have tx0 : (fltE eT != 0) = false := by rw [he]; rfl
  have HEZ : Hid (eT = 0) := he
  clear he
  have cl := Fi.left_any g s yT eT w19 RDw19.out
  have hlz : (yT.length : Int) ≤ 9223372036854775807 := Rd_len RDw19.out
  have sw : IntKind.i64.wrap ((n : Int) - (yT.length : Int)) = (n : Int) - (yT.length : Int) := by rw [IntKind.wrap_i64]; omega
  obtain ⟨zl, hzl⟩ : ∃ zl, zl = yT.length := ⟨_, rfl⟩
  have HZL : Hid (zl = yT.length) := hzl
  rw [← hzl] at cl hlz sw
  clear hzl
  go_wp2_with fail
  refine cl.mono ?_
  rintro e wq ⟨rfl, eq⟩
  rw [eq]
  clear cl eq wq tx0
  have ch := CS.out w19
  have s0 : w19.cell? ⟨w4.heap.size, 0, none⟩ = some (.int .i64 pk) := by have := HSw19.out; simp [World.cell?, this]
  have s1 : w19.cell? ⟨w4.heap.size, 1, none⟩ = some (.int .i64 mt) := by have := HSw19.out; simp [World.cell?, this]
  go_wp2_with fail
  refine ch.mono ?_
  rintro e w20 ⟨rfl, bw20⟩
  have PFw20 : Hid (PF w20 w.heap.size 33 ⟨3, iv, nv, 0, (fv == 1), Fi.strB tv, zn, []⟩ (.slice none 0 0)) := PFw19.out.kept bw20
  have Bw20 : Hid (Below w.heap.size w w20) := Bw19.out.trans (bw20.mono Bw19.out.size)
  have RR : Hid (w20.rangeAt w.heap.size 0 (plL ⟨3, iv, nv, 0, (fv == 1), Fi.strB tv, zn, []⟩ (.slice none 0 0))) := PFw20.out.range
  have HE : Hid (ahM (3 :: ys) = (⟨3, iv, nv, 0, (fv == 1), Fi.strB tv, zn, []⟩, (n : Int) - (zl : Int), 0)) := by unfold Hid; rw [ahM_fin (by decide) (by decide) HAR.out HEZ.out, HN.out, HZL.out]; rfl
  clear ch bw20 s0 s1 PFw19 HSw19 Bw19 RDw19 HAR sw
  go_wp2_with (first | refine wpList_load_mid rfl 33 _ rfl w.heap.size 0 rfl (plL ⟨3, iv, nv, 0, (fv == 1), Fi.strB tv, zn, []⟩ (.slice none 0 0)) _ RR.out Tryz.underlying33 rfl (infoP.trans (by rw [plL_len rfl])) (Hid.out ?_) | refine wpList_store_row rfl 33 _ _ rfl w.heap.size (plA ⟨3, iv, nv, 0, (fv == 1), Fi.strB tv, zn, []⟩ (.slice none 0 0)) rfl rfl 33 _ PFw20.out (infoP.trans (by rw [plA_size rfl])) rfl (all_oneCell_toArray (plL_one rfl)) (Hid.out ?_))
  unfold Hid
  go_wp2_with (first | refine wpList_load_mid rfl 33 _ rfl w.heap.size 0 rfl (plL ⟨3, iv, nv, 0, (fv == 1), Fi.strB tv, zn, []⟩ (.slice none 0 0)) _ RR.out Tryz.underlying33 rfl (infoP.trans (by rw [plL_len rfl])) (Hid.out ?_) | refine wpList_store_row rfl 33 _ _ rfl w.heap.size (plA ⟨3, iv, nv, 0, (fv == 1), Fi.strB tv, zn, []⟩ (.slice none 0 0)) rfl rfl 33 _ PFw20.out (infoP.trans (by rw [plA_size rfl])) rfl (all_oneCell_toArray (plL_one rfl)) (Hid.out ?_))
  unfold Hid
  go_wp2
  refine bodyPost_ret (ret_ctt rfl (setRow_heap _ _ _ _ _ _ PFw20.out) (infoP.trans (by rw [plA_size rfl]))) rfl ?_
  exact ⟨.slice none 0 0, by rw [HE.out]; rfl, by rw [HE.out]; exact RI.nil _ _ _ _, below_setRow Bw20.out (Nat.le_refl _) _⟩
set_option maxHeartbeats 8000000 in
theorem ahd1 (v : Value) (ys : List Int) (w : World) (ht : Tb w) (h : Sl w v (1 :: ys)) (hl : (1 :: ys).length ≤ 100000) :
    Calls Tryz.prog 36 #[v] w fun e w' => ∃ sv, e = .returned (.tuple #[.agg (plA (ahM (1 :: ys)).1 sv), .int .i64 (ahM (1 :: ys)).2.1, .int .i64 (ahM (1 :: ys)).2.2]) ∧ RSp w' w.heap.size sv (ahM (1 :: ys)).1.sp ∧ Below w.heap.size w w' := by
  obtain ⟨W1, hW1⟩ : ∃ W1, W1 = w.alloc (.cells #[.int .u8 0, .int .i64 0, .int .i64 0, .int .i64 0, .bool false, .string ⟨#[]⟩, .int .u8 0, .int .u8 0, .int .u8 0, .int .u8 0, .int .u8 0, .int .u8 0, .int .u8 0, .int .u8 0, .int .u8 0, .int .u8 0, .int .u8 0, .int .u8 0, .int .u8 0, .int .u8 0, .int .u8 0, .int .u8 0, .slice none 0 0] 33) := ⟨_, rfl⟩
  have b1 : Below w.heap.size w W1 := by rw [hW1]; exact al_below _ _
  have g1 : PF W1 w.heap.size 33 Fm.zero (.slice none 0 0) := by rw [hW1]; exact heap_alloc_new _ _
  have z1 : W1.heap.size = w.heap.size + 1 := by rw [hW1]; simp
  have cn := Fi.new_any v (1 :: ys) W1 (ht.next b1).v (fsl (h.kept b1)) (by omega)
  obtain ⟨a, c, rfl, hlc, hcm, hnn, -⟩ := id h
  have HT : Hid (Tb w) := ht
  have HSL : Hid (Sl w (.slice a (1 :: ys).length c) (1 :: ys)) := h
  have HB1 : Hid (Below w.heap.size w W1) := b1
  have HP1 : Hid (PF W1 w.heap.size 33 Fm.zero (.slice none 0 0)) := g1
  have hpos := ht.pos
  clear ht h b1 g1
  obtain ⟨n, hn⟩ : ∃ n, n = (1 :: ys).length := ⟨_, rfl⟩
  have HN : Hid (n = (1 :: ys).length) := hn
  rw [← hn] at hl cn hlc ⊢
  clear hn
  go_enter Tryz.func36, Tryz.ntmps36
  go_upto_region 1 with fail
  rw [← hW1]
  clear hW1
  go_wp2_with fail
  refine cn.mono ?_
  rintro e w2 ⟨g, s, rfl, hg1, hg2, hs, rd2, b2⟩
  have HG : Hid (g ≠ w.heap.size ∧ s ≠ w.heap.size ∧ w.heap.size < g ∧ 2 ≤ g) := ⟨by omega, by omega, by omega, by omega⟩
  have HGZ : Hid (g < w2.heap.size ∧ s < w2.heap.size) := ⟨hg2, by omega⟩
  have B2 : Hid (Below w.heap.size w w2) := HB1.out.trans (b2.mono HB1.out.size)
  have PF2 : Hid (PF w2 w.heap.size 33 Fm.zero (.slice none 0 0)) := HP1.out.kept b2
  have cb := rdByte g s (1 :: ys) 0 w2 rd2
  rw [rBt_cons] at cb
  clear cn hg1 hg2 hs rd2 b2 HB1 HP1 z1
  go_wp2_with fail
  refine cb.mono ?_
  rintro e w3 ⟨rfl, rd3, bt3⟩
  have PF3 : Hid (PF w3 w.heap.size 33 Fm.zero (.slice none 0 0)) := PF2.out.bt bt3 (Ne.symm HG.out.1)
  have B3 : Hid (Below w.heap.size w w3) := bt3.below B2.out (Nat.le_of_lt HG.out.2.2.1) B2.out.size
  have k0 := (PF3.out.pc rfl).c0
  have k1 := PF3.out.frz 0
  obtain ⟨w4, hw4⟩ : ∃ w4, w4 = w3.setCell ⟨w.heap.size, 0, none⟩ (.int .u8 1) := ⟨_, rfl⟩
  have PFw4 : Hid (PF w4 w.heap.size 33 ⟨1, 0, 0, 0, false, ⟨#[]⟩, zn, []⟩ (.slice none 0 0)) := by unfold Hid; rw [hw4]; exact PF3.out.set 0 _ rfl
  have Bw4 : Hid (Below w.heap.size w w4) := by unfold Hid; rw [hw4]; exact bt_set B3.out (Nat.le_refl _)
  have RDw4 : Hid (Fi.Rd w4 g s ys 0) := by unfold Hid; rw [hw4]; exact rd_set rd3 HG.out.1 HG.out.2.1
  have Zw4 : Hid (w2.heap.size ≤ w4.heap.size) := by unfold Hid; rw [hw4]; simpa [World.setCell] using bt3.size
  clear cb rd3 bt3 B2 PF2
  go_upto_region 3 with fail
  rw [← hw4]
  clear hw4 k0 k1 PF3 B3
  have ce := Fi.err_any g s ys 0 w4 RDw4.out
  have k0 := (PFw4.out.pc rfl).c0
  have ci := isK_any 1 w4
  rw [show isK 1 = true from by decide] at ci
  go_wp2_with fail
  refine ce.mono ?_
  rintro e wq ⟨rfl, eq⟩
  rw [eq]
  clear ce eq wq
  go_wp2_with fail
  refine ci.mono ?_
  rintro e wq ⟨rfl, eq⟩
  rw [eq]
  clear ci eq wq
  obtain ⟨t0, t1⟩ : w4.cell? ⟨0, 2, none⟩ = some (.int .i64 (pkN 1)) ∧ w4.cell? ⟨0, 3, none⟩ = some (.int .i64 (mT 1)) := (HT.out.next Bw4.out).s 1 (by omega)
  obtain ⟨w5, hw5⟩ : ∃ w5, w5 = w4.alloc (.cells #[.int .i64 (pkN 1), .int .i64 (mT 1)] 57) := ⟨_, rfl⟩
  have b5 : Below w4.heap.size w4 w5 := by rw [hw5]; exact al_below _ _
  have HSw5 : Hid (w5.heap[w4.heap.size]? = some (.cells #[.int .i64 (pkN 1), .int .i64 (mT 1)] 57 (0, 0))) := by unfold Hid; rw [hw5]; exact heap_alloc_new _ _
  have PFw5 : Hid (PF w5 w.heap.size 33 ⟨1, 0, 0, 0, false, ⟨#[]⟩, zn, []⟩ (.slice none 0 0)) := PFw4.out.kept b5
  have Bw5 : Hid (Below w.heap.size w w5) := Bw4.out.trans (b5.mono Bw4.out.size)
  have RDw5 : Hid (Fi.Rd w5 g s ys 0) := RDw4.out.kept b5
  have HQ : Hid (w4.heap.size ≠ w.heap.size ∧ w4.heap.size ≠ g) := ⟨by have := blk_lt PFw4.out; omega, by have := HGZ.out.1; have := Zw4.out; omega⟩
  have PS : Hid (w.heap.size < w5.heap.size) := blk_lt PFw5.out
  have CI : Hid (∀ W, Calls Tryz.prog 28 #[.agg #[.int .i64 (pkN 1), .int .i64 (mT 1)], .int .i64 1] W fun e w' => e = .returned (.bool false) ∧ Below W.heap.size W w') := fun W => has_k 1 (by omega) (by omega) W 1 _ (by decide)
  have CN : Hid (∀ W, Calls Tryz.prog 28 #[.agg #[.int .i64 (pkN 1), .int .i64 (mT 1)], .int .i64 2] W fun e w' => e = .returned (.bool false) ∧ Below W.heap.size W w') := fun W => has_k 1 (by omega) (by omega) W 2 _ (by decide)
  have CF : Hid (∀ W, Calls Tryz.prog 28 #[.agg #[.int .i64 (pkN 1), .int .i64 (mT 1)], .int .i64 4] W fun e w' => e = .returned (.bool false) ∧ Below W.heap.size W w') := fun W => has_k 1 (by omega) (by omega) W 4 _ (by decide)
  have CC : Hid (∀ W, Calls Tryz.prog 28 #[.agg #[.int .i64 (pkN 1), .int .i64 (mT 1)], .int .i64 8] W fun e w' => e = .returned (.bool false) ∧ Below W.heap.size W w') := fun W => has_k 1 (by omega) (by omega) W 8 _ (by decide)
  have CO : Hid (∀ W, Calls Tryz.prog 28 #[.agg #[.int .i64 (pkN 1), .int .i64 (mT 1)], .int .i64 16] W fun e w' => e = .returned (.bool false) ∧ Below W.heap.size W w') := fun W => has_k 1 (by omega) (by omega) W 16 _ (by decide)
  have CT : Hid (∀ W, Calls Tryz.prog 28 #[.agg #[.int .i64 (pkN 1), .int .i64 (mT 1)], .int .i64 32] W fun e w' => e = .returned (.bool false) ∧ Below W.heap.size W w') := fun W => has_k 1 (by omega) (by omega) W 32 _ (by decide)
  have CS : Hid (∀ W, Calls Tryz.prog 28 #[.agg #[.int .i64 (pkN 1), .int .i64 (mT 1)], .int .i64 64] W fun e w' => e = .returned (.bool false) ∧ Below W.heap.size W w') := fun W => has_k 1 (by omega) (by omega) W 64 _ (by decide)
  have HMT : Hid (mT 1 = mT 1) := rfl
  obtain ⟨pk, hpk⟩ : ∃ pk, pk = pkN 1 := ⟨_, rfl⟩
  obtain ⟨mt, hmt⟩ : ∃ mt, mt = mT 1 := ⟨_, rfl⟩
  have HMQ : Hid (mt = mT 1) := hmt
  rw [← hpk] at t0
  rw [← hmt] at t1
  rw [← hpk, ← hmt] at hw5 HSw5
  simp only [← hpk, ← hmt] at CI CN CF CC CO CT CS
  clear hpk hmt HMT
  clear b5 PFw4 Bw4 RDw4 Zw4 HGZ
  go_upto_region 6 with fail
  rw [← hw5]
  clear hw5 t0 t1 k0
  have ch := CI.out w5
  have s0 : w5.cell? ⟨w4.heap.size, 0, none⟩ = some (.int .i64 pk) := by have := HSw5.out; simp [World.cell?, this]
  have s1 : w5.cell? ⟨w4.heap.size, 1, none⟩ = some (.int .i64 mt) := by have := HSw5.out; simp [World.cell?, this]
  go_wp2_with fail
  refine ch.mono ?_
  rintro e w6 ⟨rfl, bw6⟩
  have PFw6 : Hid (PF w6 w.heap.size 33 ⟨1, 0, 0, 0, false, ⟨#[]⟩, zn, []⟩ (.slice none 0 0)) := PFw5.out.kept bw6
  have HSw6 : Hid (w6.heap[w4.heap.size]? = some (.cells #[.int .i64 pk, .int .i64 mt] 57 (0, 0))) := blk_kept HSw5.out bw6 (blk_lt HSw5.out)
  have Bw6 : Hid (Below w.heap.size w w6) := Bw5.out.trans (bw6.mono Bw5.out.size)
  have RDw6 : Hid (Fi.Rd w6 g s ys 0) := RDw5.out.kept bw6
  clear ch bw6 s0 s1 PFw5 HSw5 Bw5 RDw5
  have ch := CN.out w6
  have s0 : w6.cell? ⟨w4.heap.size, 0, none⟩ = some (.int .i64 pk) := by have := HSw6.out; simp [World.cell?, this]
  have s1 : w6.cell? ⟨w4.heap.size, 1, none⟩ = some (.int .i64 mt) := by have := HSw6.out; simp [World.cell?, this]
  go_wp2_with fail
  refine ch.mono ?_
  rintro e w7 ⟨rfl, bw7⟩
  have PFw7 : Hid (PF w7 w.heap.size 33 ⟨1, 0, 0, 0, false, ⟨#[]⟩, zn, []⟩ (.slice none 0 0)) := PFw6.out.kept bw7
  have HSw7 : Hid (w7.heap[w4.heap.size]? = some (.cells #[.int .i64 pk, .int .i64 mt] 57 (0, 0))) := blk_kept HSw6.out bw7 (blk_lt HSw6.out)
  have Bw7 : Hid (Below w.heap.size w w7) := Bw6.out.trans (bw7.mono Bw6.out.size)
  have RDw7 : Hid (Fi.Rd w7 g s ys 0) := RDw6.out.kept bw7
  clear ch bw7 s0 s1 PFw6 HSw6 Bw6 RDw6
  have ch := CF.out w7
  have s0 : w7.cell? ⟨w4.heap.size, 0, none⟩ = some (.int .i64 pk) := by have := HSw7.out; simp [World.cell?, this]
  have s1 : w7.cell? ⟨w4.heap.size, 1, none⟩ = some (.int .i64 mt) := by have := HSw7.out; simp [World.cell?, this]
  go_wp2_with fail
  refine ch.mono ?_
  rintro e w8 ⟨rfl, bw8⟩
  have PFw8 : Hid (PF w8 w.heap.size 33 ⟨1, 0, 0, 0, false, ⟨#[]⟩, zn, []⟩ (.slice none 0 0)) := PFw7.out.kept bw8
  have HSw8 : Hid (w8.heap[w4.heap.size]? = some (.cells #[.int .i64 pk, .int .i64 mt] 57 (0, 0))) := blk_kept HSw7.out bw8 (blk_lt HSw7.out)
  have Bw8 : Hid (Below w.heap.size w w8) := Bw7.out.trans (bw8.mono Bw7.out.size)
  have RDw8 : Hid (Fi.Rd w8 g s ys 0) := RDw7.out.kept bw8
  clear ch bw8 s0 s1 PFw7 HSw7 Bw7 RDw7
  have ch := CC.out w8
  have s0 : w8.cell? ⟨w4.heap.size, 0, none⟩ = some (.int .i64 pk) := by have := HSw8.out; simp [World.cell?, this]
  have s1 : w8.cell? ⟨w4.heap.size, 1, none⟩ = some (.int .i64 mt) := by have := HSw8.out; simp [World.cell?, this]
  go_wp2_with fail
  refine ch.mono ?_
  rintro e w9 ⟨rfl, bw9⟩
  have PFw9 : Hid (PF w9 w.heap.size 33 ⟨1, 0, 0, 0, false, ⟨#[]⟩, zn, []⟩ (.slice none 0 0)) := PFw8.out.kept bw9
  have HSw9 : Hid (w9.heap[w4.heap.size]? = some (.cells #[.int .i64 pk, .int .i64 mt] 57 (0, 0))) := blk_kept HSw8.out bw9 (blk_lt HSw8.out)
  have Bw9 : Hid (Below w.heap.size w w9) := Bw8.out.trans (bw9.mono Bw8.out.size)
  have RDw9 : Hid (Fi.Rd w9 g s ys 0) := RDw8.out.kept bw9
  clear ch bw9 s0 s1 PFw8 HSw8 Bw8 RDw8
  have ch := CO.out w9
  have s0 : w9.cell? ⟨w4.heap.size, 0, none⟩ = some (.int .i64 pk) := by have := HSw9.out; simp [World.cell?, this]
  have s1 : w9.cell? ⟨w4.heap.size, 1, none⟩ = some (.int .i64 mt) := by have := HSw9.out; simp [World.cell?, this]
  go_wp2_with fail
  refine ch.mono ?_
  rintro e w10 ⟨rfl, bw10⟩
  have PFw10 : Hid (PF w10 w.heap.size 33 ⟨1, 0, 0, 0, false, ⟨#[]⟩, zn, []⟩ (.slice none 0 0)) := PFw9.out.kept bw10
  have HSw10 : Hid (w10.heap[w4.heap.size]? = some (.cells #[.int .i64 pk, .int .i64 mt] 57 (0, 0))) := blk_kept HSw9.out bw10 (blk_lt HSw9.out)
  have Bw10 : Hid (Below w.heap.size w w10) := Bw9.out.trans (bw10.mono Bw9.out.size)
  have RDw10 : Hid (Fi.Rd w10 g s ys 0) := RDw9.out.kept bw10
  clear ch bw10 s0 s1 PFw9 HSw9 Bw9 RDw9
  have ch := CT.out w10
  have s0 : w10.cell? ⟨w4.heap.size, 0, none⟩ = some (.int .i64 pk) := by have := HSw10.out; simp [World.cell?, this]
  have s1 : w10.cell? ⟨w4.heap.size, 1, none⟩ = some (.int .i64 mt) := by have := HSw10.out; simp [World.cell?, this]
  go_wp2_with fail
  refine ch.mono ?_
  rintro e w11 ⟨rfl, bw11⟩
  have PFw11 : Hid (PF w11 w.heap.size 33 ⟨1, 0, 0, 0, false, ⟨#[]⟩, zn, []⟩ (.slice none 0 0)) := PFw10.out.kept bw11
  have HSw11 : Hid (w11.heap[w4.heap.size]? = some (.cells #[.int .i64 pk, .int .i64 mt] 57 (0, 0))) := blk_kept HSw10.out bw11 (blk_lt HSw10.out)
  have Bw11 : Hid (Below w.heap.size w w11) := Bw10.out.trans (bw11.mono Bw10.out.size)
  have RDw11 : Hid (Fi.Rd w11 g s ys 0) := RDw10.out.kept bw11
  clear ch bw11 s0 s1 PFw10 HSw10 Bw10 RDw10
  have HAR : Hid (ahR 1 ys 0 = ((0, 0, 0, 0, zn, []), ys, 0)) := by
    have e1 : hI 1 = false := by decide
    have e2 : hN 1 = false := by decide
    have e3 : hF 1 = false := by decide
    have e4 : hC 1 = false := by decide
    have e5 : hO 1 = false := by decide
    have e6 : hT 1 = false := by decide
    unfold Hid ahR thn
    rw [e1, e2, e3, e4, e5, e6]
    rfl
  have cx := fault_any g s ys 0 w11 RDw11.out
  go_wp2_with fail
  refine cx.mono ?_
  rintro e wq ⟨rfl, eq⟩
  rw [eq]
  clear cx eq wq
  have tx0 : (fltE 0 != 0) = false := by rfl
  have cl := Fi.left_any g s ys 0 w11 RDw11.out
  have hlz : (ys.length : Int) ≤ 9223372036854775807 := Rd_len RDw11.out
  have sw : IntKind.i64.wrap ((n : Int) - (ys.length : Int)) = (n : Int) - (ys.length : Int) := by rw [IntKind.wrap_i64]; omega
  obtain ⟨zl, hzl⟩ : ∃ zl, zl = ys.length := ⟨_, rfl⟩
  have HZL : Hid (zl = ys.length) := hzl
  rw [← hzl] at cl hlz sw
  clear hzl
  go_wp2_with fail
  refine cl.mono ?_
  rintro e wq ⟨rfl, eq⟩
  rw [eq]
  clear cl eq wq tx0
  have ch := CS.out w11
  have s0 : w11.cell? ⟨w4.heap.size, 0, none⟩ = some (.int .i64 pk) := by have := HSw11.out; simp [World.cell?, this]
  have s1 : w11.cell? ⟨w4.heap.size, 1, none⟩ = some (.int .i64 mt) := by have := HSw11.out; simp [World.cell?, this]
  go_wp2_with fail
  refine ch.mono ?_
  rintro e w12 ⟨rfl, bw12⟩
  have PFw12 : Hid (PF w12 w.heap.size 33 ⟨1, 0, 0, 0, false, ⟨#[]⟩, zn, []⟩ (.slice none 0 0)) := PFw11.out.kept bw12
  have Bw12 : Hid (Below w.heap.size w w12) := Bw11.out.trans (bw12.mono Bw11.out.size)
  have RR : Hid (w12.rangeAt w.heap.size 0 (plL ⟨1, 0, 0, 0, false, ⟨#[]⟩, zn, []⟩ (.slice none 0 0))) := PFw12.out.range
  have HE : Hid (ahM (1 :: ys) = (⟨1, 0, 0, 0, false, ⟨#[]⟩, zn, []⟩, (n : Int) - (zl : Int), 0)) := by unfold Hid; rw [ahM_fin (by decide) (by decide) HAR.out rfl, HN.out, HZL.out]; rfl
  clear ch bw12 s0 s1 PFw11 HSw11 Bw11 RDw11 HAR sw
  go_wp2_with (first | refine wpList_load_mid rfl 33 _ rfl w.heap.size 0 rfl (plL ⟨1, 0, 0, 0, false, ⟨#[]⟩, zn, []⟩ (.slice none 0 0)) _ RR.out Tryz.underlying33 rfl (infoP.trans (by rw [plL_len rfl])) (Hid.out ?_) | refine wpList_store_row rfl 33 _ _ rfl w.heap.size (plA ⟨1, 0, 0, 0, false, ⟨#[]⟩, zn, []⟩ (.slice none 0 0)) rfl rfl 33 _ PFw12.out (infoP.trans (by rw [plA_size rfl])) rfl (all_oneCell_toArray (plL_one rfl)) (Hid.out ?_))
  unfold Hid
  go_wp2_with (first | refine wpList_load_mid rfl 33 _ rfl w.heap.size 0 rfl (plL ⟨1, 0, 0, 0, false, ⟨#[]⟩, zn, []⟩ (.slice none 0 0)) _ RR.out Tryz.underlying33 rfl (infoP.trans (by rw [plL_len rfl])) (Hid.out ?_) | refine wpList_store_row rfl 33 _ _ rfl w.heap.size (plA ⟨1, 0, 0, 0, false, ⟨#[]⟩, zn, []⟩ (.slice none 0 0)) rfl rfl 33 _ PFw12.out (infoP.trans (by rw [plA_size rfl])) rfl (all_oneCell_toArray (plL_one rfl)) (Hid.out ?_))
  unfold Hid
  go_wp2
  refine bodyPost_ret (ret_ctt rfl (setRow_heap _ _ _ _ _ _ PFw12.out) (infoP.trans (by rw [plA_size rfl]))) rfl ?_
  exact ⟨.slice none 0 0, by rw [HE.out]; rfl, by rw [HE.out]; exact RI.nil _ _ _ _, below_setRow Bw12.out (Nat.le_refl _) _⟩
end Go.Proofs.YtmplpdjkhdaniaaGreatDoor
