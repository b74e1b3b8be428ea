/-
  What plainAhead answers, kind by kind.
-/
import Derived.Test.YtmplpdjkhdaniaaGreatDoorWbh
namespace Go.Proofs.YtmplpdjkhdaniaaGreatDoor
open Go.RowKit Go.Shelf
set_option maxRecDepth 100000

set_option maxHeartbeats 8000000 in
theorem ahd4 (v : Value) (ys : List Int) (w : World) (ht : Tb w) (h : Sl w v (4 :: ys)) (hl : (4 :: ys).length ≤ 100000) :
    Calls Tryz.prog 36 #[v] w fun e w' => ∃ sv, e = .returned (.tuple #[.agg (plA (ahM (4 :: ys)).1 sv), .int .i64 (ahM (4 :: ys)).2.1, .int .i64 (ahM (4 :: ys)).2.2]) ∧ RSp w' w.heap.size sv (ahM (4 :: ys)).1.sp ∧ Below w.heap.size w w' := by
  obtain ⟨W1, hW1⟩ : ∃ W1, W1 = w.alloc (.cells #[.int .u8 0, .int .i64 0, .int .i64 0, .int .i64 0, .bool false, .string ⟨#[]⟩, .int .u8 0, .int .u8 0, .int .u8 0, .int .u8 0, .int .u8 0, .int .u8 0, .int .u8 0, .int .u8 0, .int .u8 0, .int .u8 0, .int .u8 0, .int .u8 0, .int .u8 0, .int .u8 0, .int .u8 0, .int .u8 0, .slice none 0 0] 33) := ⟨_, rfl⟩
  have b1 : Below w.heap.size w W1 := by rw [hW1]; exact al_below _ _
  have g1 : PF W1 w.heap.size 33 Fm.zero (.slice none 0 0) := by rw [hW1]; exact heap_alloc_new _ _
  have z1 : W1.heap.size = w.heap.size + 1 := by rw [hW1]; simp
  have cn := Fi.new_any v (4 :: ys) W1 (ht.next b1).v (fsl (h.kept b1)) (by omega)
  obtain ⟨a, c, rfl, hlc, hcm, hnn, -⟩ := id h
  have HT : Hid (Tb w) := ht
  have HSL : Hid (Sl w (.slice a (4 :: ys).length c) (4 :: ys)) := h
  have HB1 : Hid (Below w.heap.size w W1) := b1
  have HP1 : Hid (PF W1 w.heap.size 33 Fm.zero (.slice none 0 0)) := g1
  have hpos := ht.pos
  clear ht h b1 g1
  obtain ⟨n, hn⟩ : ∃ n, n = (4 :: ys).length := ⟨_, rfl⟩
  have HN : Hid (n = (4 :: ys).length) := hn
  rw [← hn] at hl cn hlc ⊢
  clear hn
  go_enter Tryz.func36, Tryz.ntmps36
  go_upto_region 1 with fail
  rw [← hW1]
  clear hW1
  go_wp2_with fail
  refine cn.mono ?_
  rintro e w2 ⟨g, s, rfl, hg1, hg2, hs, rd2, b2⟩
  have HG : Hid (g ≠ w.heap.size ∧ s ≠ w.heap.size ∧ w.heap.size < g ∧ 2 ≤ g) := ⟨by omega, by omega, by omega, by omega⟩
  have HGZ : Hid (g < w2.heap.size ∧ s < w2.heap.size) := ⟨hg2, by omega⟩
  have B2 : Hid (Below w.heap.size w w2) := HB1.out.trans (b2.mono HB1.out.size)
  have PF2 : Hid (PF w2 w.heap.size 33 Fm.zero (.slice none 0 0)) := HP1.out.kept b2
  have cb := rdByte g s (4 :: ys) 0 w2 rd2
  rw [rBt_cons] at cb
  clear cn hg1 hg2 hs rd2 b2 HB1 HP1 z1
  go_wp2_with fail
  refine cb.mono ?_
  rintro e w3 ⟨rfl, rd3, bt3⟩
  have PF3 : Hid (PF w3 w.heap.size 33 Fm.zero (.slice none 0 0)) := PF2.out.bt bt3 (Ne.symm HG.out.1)
  have B3 : Hid (Below w.heap.size w w3) := bt3.below B2.out (Nat.le_of_lt HG.out.2.2.1) B2.out.size
  have k0 := (PF3.out.pc rfl).c0
  have k1 := PF3.out.frz 0
  obtain ⟨w4, hw4⟩ : ∃ w4, w4 = w3.setCell ⟨w.heap.size, 0, none⟩ (.int .u8 4) := ⟨_, rfl⟩
  have PFw4 : Hid (PF w4 w.heap.size 33 ⟨4, 0, 0, 0, false, ⟨#[]⟩, zn, []⟩ (.slice none 0 0)) := by unfold Hid; rw [hw4]; exact PF3.out.set 0 _ rfl
  have Bw4 : Hid (Below w.heap.size w w4) := by unfold Hid; rw [hw4]; exact bt_set B3.out (Nat.le_refl _)
  have RDw4 : Hid (Fi.Rd w4 g s ys 0) := by unfold Hid; rw [hw4]; exact rd_set rd3 HG.out.1 HG.out.2.1
  have Zw4 : Hid (w2.heap.size ≤ w4.heap.size) := by unfold Hid; rw [hw4]; simpa [World.setCell] using bt3.size
  clear cb rd3 bt3 B2 PF2
  go_upto_region 3 with fail
  rw [← hw4]
  clear hw4 k0 k1 PF3 B3
  have ce := Fi.err_any g s ys 0 w4 RDw4.out
  have k0 := (PFw4.out.pc rfl).c0
  have ci := isK_any 4 w4
  rw [show isK 4 = true from by decide] at ci
  go_wp2_with fail
  refine ce.mono ?_
  rintro e wq ⟨rfl, eq⟩
  rw [eq]
  clear ce eq wq
  go_wp2_with fail
  refine ci.mono ?_
  rintro e wq ⟨rfl, eq⟩
  rw [eq]
  clear ci eq wq
  obtain ⟨t0, t1⟩ : w4.cell? ⟨0, 8, none⟩ = some (.int .i64 (pkN 4)) ∧ w4.cell? ⟨0, 9, none⟩ = some (.int .i64 (mT 4)) := (HT.out.next Bw4.out).s 4 (by omega)
  obtain ⟨w5, hw5⟩ : ∃ w5, w5 = w4.alloc (.cells #[.int .i64 (pkN 4), .int .i64 (mT 4)] 57) := ⟨_, rfl⟩
  have b5 : Below w4.heap.size w4 w5 := by rw [hw5]; exact al_below _ _
  have HSw5 : Hid (w5.heap[w4.heap.size]? = some (.cells #[.int .i64 (pkN 4), .int .i64 (mT 4)] 57 (0, 0))) := by unfold Hid; rw [hw5]; exact heap_alloc_new _ _
  have PFw5 : Hid (PF w5 w.heap.size 33 ⟨4, 0, 0, 0, false, ⟨#[]⟩, zn, []⟩ (.slice none 0 0)) := PFw4.out.kept b5
  have Bw5 : Hid (Below w.heap.size w w5) := Bw4.out.trans (b5.mono Bw4.out.size)
  have RDw5 : Hid (Fi.Rd w5 g s ys 0) := RDw4.out.kept b5
  have HQ : Hid (w4.heap.size ≠ w.heap.size ∧ w4.heap.size ≠ g) := ⟨by have := blk_lt PFw4.out; omega, by have := HGZ.out.1; have := Zw4.out; omega⟩
  have PS : Hid (w.heap.size < w5.heap.size) := blk_lt PFw5.out
  have CI : Hid (∀ W, Calls Tryz.prog 28 #[.agg #[.int .i64 (pkN 4), .int .i64 (mT 4)], .int .i64 1] W fun e w' => e = .returned (.bool true) ∧ Below W.heap.size W w') := fun W => has_k 4 (by omega) (by omega) W 1 _ (by decide)
  have CN : Hid (∀ W, Calls Tryz.prog 28 #[.agg #[.int .i64 (pkN 4), .int .i64 (mT 4)], .int .i64 2] W fun e w' => e = .returned (.bool true) ∧ Below W.heap.size W w') := fun W => has_k 4 (by omega) (by omega) W 2 _ (by decide)
  have CF : Hid (∀ W, Calls Tryz.prog 28 #[.agg #[.int .i64 (pkN 4), .int .i64 (mT 4)], .int .i64 4] W fun e w' => e = .returned (.bool false) ∧ Below W.heap.size W w') := fun W => has_k 4 (by omega) (by omega) W 4 _ (by decide)
  have CC : Hid (∀ W, Calls Tryz.prog 28 #[.agg #[.int .i64 (pkN 4), .int .i64 (mT 4)], .int .i64 8] W fun e w' => e = .returned (.bool true) ∧ Below W.heap.size W w') := fun W => has_k 4 (by omega) (by omega) W 8 _ (by decide)
  have CO : Hid (∀ W, Calls Tryz.prog 28 #[.agg #[.int .i64 (pkN 4), .int .i64 (mT 4)], .int .i64 16] W fun e w' => e = .returned (.bool false) ∧ Below W.heap.size W w') := fun W => has_k 4 (by omega) (by omega) W 16 _ (by decide)
  have CT : Hid (∀ W, Calls Tryz.prog 28 #[.agg #[.int .i64 (pkN 4), .int .i64 (mT 4)], .int .i64 32] W fun e w' => e = .returned (.bool false) ∧ Below W.heap.size W w') := fun W => has_k 4 (by omega) (by omega) W 32 _ (by decide)
  have CS : Hid (∀ W, Calls Tryz.prog 28 #[.agg #[.int .i64 (pkN 4), .int .i64 (mT 4)], .int .i64 64] W fun e w' => e = .returned (.bool false) ∧ Below W.heap.size W w') := fun W => has_k 4 (by omega) (by omega) W 64 _ (by decide)
  have HMT : Hid (mT 4 = mT 4) := rfl
  obtain ⟨pk, hpk⟩ : ∃ pk, pk = pkN 4 := ⟨_, rfl⟩
  obtain ⟨mt, hmt⟩ : ∃ mt, mt = mT 4 := ⟨_, rfl⟩
  have HMQ : Hid (mt = mT 4) := hmt
  rw [← hpk] at t0
  rw [← hmt] at t1
  rw [← hpk, ← hmt] at hw5 HSw5
  simp only [← hpk, ← hmt] at CI CN CF CC CO CT CS
  clear hpk hmt HMT
  clear b5 PFw4 Bw4 RDw4 Zw4 HGZ
  go_upto_region 6 with fail
  rw [← hw5]
  clear hw5 t0 t1 k0
  have ch := CI.out w5
  have s0 : w5.cell? ⟨w4.heap.size, 0, none⟩ = some (.int .i64 pk) := by have := HSw5.out; simp [World.cell?, this]
  have s1 : w5.cell? ⟨w4.heap.size, 1, none⟩ = some (.int .i64 mt) := by have := HSw5.out; simp [World.cell?, this]
  go_wp2_with fail
  refine ch.mono ?_
  rintro e w6 ⟨rfl, bw6⟩
  have PFw6 : Hid (PF w6 w.heap.size 33 ⟨4, 0, 0, 0, false, ⟨#[]⟩, zn, []⟩ (.slice none 0 0)) := PFw5.out.kept bw6
  have HSw6 : Hid (w6.heap[w4.heap.size]? = some (.cells #[.int .i64 pk, .int .i64 mt] 57 (0, 0))) := blk_kept HSw5.out bw6 (blk_lt HSw5.out)
  have Bw6 : Hid (Below w.heap.size w w6) := Bw5.out.trans (bw6.mono Bw5.out.size)
  have RDw6 : Hid (Fi.Rd w6 g s ys 0) := RDw5.out.kept bw6
  clear ch bw6 s0 s1 PFw5 HSw5 Bw5 RDw5
  have cm := rdNm g s ys 0 1048576 w6 (HT.out.next Bw6.out).v RDw6.out
  obtain ⟨RI, hRI⟩ : ∃ R, R = rNm 1048576 ys 0 := ⟨_, rfl⟩
  rw [← hRI] at cm
  obtain ⟨iv, yI, eI⟩ := RI
  have HRI : Hid (rNm 1048576 ys 0 = (iv, yI, eI)) := hRI.symm
  clear hRI
  simp only at cm
  go_wp2_with fail
  refine cm.mono ?_
  rintro e w7 ⟨rfl, rdw7, btw7⟩
  have PFw7 : Hid (PF w7 w.heap.size 33 ⟨4, 0, 0, 0, false, ⟨#[]⟩, zn, []⟩ (.slice none 0 0)) := PFw6.out.bt btw7 (Ne.symm HG.out.1)
  have HSw7 : Hid (w7.heap[w4.heap.size]? = some (.cells #[.int .i64 pk, .int .i64 mt] 57 (0, 0))) := (btw7.block _ (blk_lt HSw6.out) HQ.out.2).trans HSw6.out
  have Bw7 : Hid (Below w.heap.size w w7) := btw7.below Bw6.out (Nat.le_of_lt HG.out.2.2.1) Bw6.out.size
  have RDw7 : Hid (Fi.Rd w7 g s yI eI) := rdw7
  clear cm rdw7 btw7 PFw6 HSw6 Bw6 RDw6
  have kq := (PFw7.out.pc rfl).c1
  have kf := PFw7.out.frz 1
  obtain ⟨w8, hw8⟩ : ∃ w8, w8 = w7.setCell ⟨w.heap.size, 1, none⟩ (.int .i64 iv) := ⟨_, rfl⟩
  have PFw8 : Hid (PF w8 w.heap.size 33 ⟨4, iv, 0, 0, false, ⟨#[]⟩, zn, []⟩ (.slice none 0 0)) := by unfold Hid; rw [hw8]; exact PFw7.out.set 1 _ rfl
  have HSw8 : Hid (w8.heap[w4.heap.size]? = some (.cells #[.int .i64 pk, .int .i64 mt] 57 (0, 0))) := by unfold Hid; rw [hw8]; exact other_set HSw7.out HQ.out.1
  have Bw8 : Hid (Below w.heap.size w w8) := by unfold Hid; rw [hw8]; exact bt_set Bw7.out (Nat.le_refl _)
  have RDw8 : Hid (Fi.Rd w8 g s yI eI) := by unfold Hid; rw [hw8]; exact rd_set RDw7.out HG.out.1 HG.out.2.1
  go_upto_region 8 with fail
  rw [← hw8]
  clear hw8 kq kf PFw7 HSw7 Bw7 RDw7
  have ch := CN.out w8
  have s0 : w8.cell? ⟨w4.heap.size, 0, none⟩ = some (.int .i64 pk) := by have := HSw8.out; simp [World.cell?, this]
  have s1 : w8.cell? ⟨w4.heap.size, 1, none⟩ = some (.int .i64 mt) := by have := HSw8.out; simp [World.cell?, this]
  go_wp2_with fail
  refine ch.mono ?_
  rintro e w9 ⟨rfl, bw9⟩
  have PFw9 : Hid (PF w9 w.heap.size 33 ⟨4, iv, 0, 0, false, ⟨#[]⟩, zn, []⟩ (.slice none 0 0)) := PFw8.out.kept bw9
  have HSw9 : Hid (w9.heap[w4.heap.size]? = some (.cells #[.int .i64 pk, .int .i64 mt] 57 (0, 0))) := blk_kept HSw8.out bw9 (blk_lt HSw8.out)
  have Bw9 : Hid (Below w.heap.size w w9) := Bw8.out.trans (bw9.mono Bw8.out.size)
  have RDw9 : Hid (Fi.Rd w9 g s yI eI) := RDw8.out.kept bw9
  clear ch bw9 s0 s1 PFw8 HSw8 Bw8 RDw8
  have cm := rdNm g s yI eI 1099511627776 w9 (HT.out.next Bw9.out).v RDw9.out
  obtain ⟨RN, hRN⟩ : ∃ R, R = rNm 1099511627776 yI eI := ⟨_, rfl⟩
  rw [← hRN] at cm
  obtain ⟨nv, yN, eN⟩ := RN
  have HRN : Hid (rNm 1099511627776 yI eI = (nv, yN, eN)) := hRN.symm
  clear hRN
  simp only at cm
  go_wp2_with fail
  refine cm.mono ?_
  rintro e w10 ⟨rfl, rdw10, btw10⟩
  have PFw10 : Hid (PF w10 w.heap.size 33 ⟨4, iv, 0, 0, false, ⟨#[]⟩, zn, []⟩ (.slice none 0 0)) := PFw9.out.bt btw10 (Ne.symm HG.out.1)
  have HSw10 : Hid (w10.heap[w4.heap.size]? = some (.cells #[.int .i64 pk, .int .i64 mt] 57 (0, 0))) := (btw10.block _ (blk_lt HSw9.out) HQ.out.2).trans HSw9.out
  have Bw10 : Hid (Below w.heap.size w w10) := btw10.below Bw9.out (Nat.le_of_lt HG.out.2.2.1) Bw9.out.size
  have RDw10 : Hid (Fi.Rd w10 g s yN eN) := rdw10
  clear cm rdw10 btw10 PFw9 HSw9 Bw9 RDw9
  have kq := (PFw10.out.pc rfl).c2
  have kf := PFw10.out.frz 2
  obtain ⟨w11, hw11⟩ : ∃ w11, w11 = w10.setCell ⟨w.heap.size, 2, none⟩ (.int .i64 nv) := ⟨_, rfl⟩
  have PFw11 : Hid (PF w11 w.heap.size 33 ⟨4, iv, nv, 0, false, ⟨#[]⟩, zn, []⟩ (.slice none 0 0)) := by unfold Hid; rw [hw11]; exact PFw10.out.set 2 _ rfl
  have HSw11 : Hid (w11.heap[w4.heap.size]? = some (.cells #[.int .i64 pk, .int .i64 mt] 57 (0, 0))) := by unfold Hid; rw [hw11]; exact other_set HSw10.out HQ.out.1
  have Bw11 : Hid (Below w.heap.size w w11) := by unfold Hid; rw [hw11]; exact bt_set Bw10.out (Nat.le_refl _)
  have RDw11 : Hid (Fi.Rd w11 g s yN eN) := by unfold Hid; rw [hw11]; exact rd_set RDw10.out HG.out.1 HG.out.2.1
  go_upto_region 10 with fail
  rw [← hw11]
  clear hw11 kq kf PFw10 HSw10 Bw10 RDw10
  have ch := CF.out w11
  have s0 : w11.cell? ⟨w4.heap.size, 0, none⟩ = some (.int .i64 pk) := by have := HSw11.out; simp [World.cell?, this]
  have s1 : w11.cell? ⟨w4.heap.size, 1, none⟩ = some (.int .i64 mt) := by have := HSw11.out; simp [World.cell?, this]
  go_wp2_with fail
  refine ch.mono ?_
  rintro e w12 ⟨rfl, bw12⟩
  have PFw12 : Hid (PF w12 w.heap.size 33 ⟨4, iv, nv, 0, false, ⟨#[]⟩, zn, []⟩ (.slice none 0 0)) := PFw11.out.kept bw12
  have HSw12 : Hid (w12.heap[w4.heap.size]? = some (.cells #[.int .i64 pk, .int .i64 mt] 57 (0, 0))) := blk_kept HSw11.out bw12 (blk_lt HSw11.out)
  have Bw12 : Hid (Below w.heap.size w w12) := Bw11.out.trans (bw12.mono Bw11.out.size)
  have RDw12 : Hid (Fi.Rd w12 g s yN eN) := RDw11.out.kept bw12
  clear ch bw12 s0 s1 PFw11 HSw11 Bw11 RDw11
  have ch := CC.out w12
  have s0 : w12.cell? ⟨w4.heap.size, 0, none⟩ = some (.int .i64 pk) := by have := HSw12.out; simp [World.cell?, this]
  have s1 : w12.cell? ⟨w4.heap.size, 1, none⟩ = some (.int .i64 mt) := by have := HSw12.out; simp [World.cell?, this]
  go_wp2_with fail
  refine ch.mono ?_
  rintro e w13 ⟨rfl, bw13⟩
  have PFw13 : Hid (PF w13 w.heap.size 33 ⟨4, iv, nv, 0, false, ⟨#[]⟩, zn, []⟩ (.slice none 0 0)) := PFw12.out.kept bw13
  have HSw13 : Hid (w13.heap[w4.heap.size]? = some (.cells #[.int .i64 pk, .int .i64 mt] 57 (0, 0))) := blk_kept HSw12.out bw13 (blk_lt HSw12.out)
  have Bw13 : Hid (Below w.heap.size w w13) := Bw12.out.trans (bw13.mono Bw12.out.size)
  have RDw13 : Hid (Fi.Rd w13 g s yN eN) := RDw12.out.kept bw13
  clear ch bw13 s0 s1 PFw12 HSw12 Bw12 RDw12
  have cm := rdNm g s yN eN 65536 w13 (HT.out.next Bw13.out).v RDw13.out
  obtain ⟨RC, hRC⟩ : ∃ R, R = rNm 65536 yN eN := ⟨_, rfl⟩
  rw [← hRC] at cm
  obtain ⟨cv, yC, eC⟩ := RC
  have HRC : Hid (rNm 65536 yN eN = (cv, yC, eC)) := hRC.symm
  clear hRC
  simp only at cm
  go_wp2_with fail
  refine cm.mono ?_
  rintro e w14 ⟨rfl, rdw14, btw14⟩
  have PFw14 : Hid (PF w14 w.heap.size 33 ⟨4, iv, nv, 0, false, ⟨#[]⟩, zn, []⟩ (.slice none 0 0)) := PFw13.out.bt btw14 (Ne.symm HG.out.1)
  have HSw14 : Hid (w14.heap[w4.heap.size]? = some (.cells #[.int .i64 pk, .int .i64 mt] 57 (0, 0))) := (btw14.block _ (blk_lt HSw13.out) HQ.out.2).trans HSw13.out
  have Bw14 : Hid (Below w.heap.size w w14) := btw14.below Bw13.out (Nat.le_of_lt HG.out.2.2.1) Bw13.out.size
  have RDw14 : Hid (Fi.Rd w14 g s yC eC) := rdw14
  clear cm rdw14 btw14 PFw13 HSw13 Bw13 RDw13
  have kq := (PFw14.out.pc rfl).c3
  have kf := PFw14.out.frz 3
  obtain ⟨w15, hw15⟩ : ∃ w15, w15 = w14.setCell ⟨w.heap.size, 3, none⟩ (.int .i64 cv) := ⟨_, rfl⟩
  have PFw15 : Hid (PF w15 w.heap.size 33 ⟨4, iv, nv, cv, false, ⟨#[]⟩, zn, []⟩ (.slice none 0 0)) := by unfold Hid; rw [hw15]; exact PFw14.out.set 3 _ rfl
  have HSw15 : Hid (w15.heap[w4.heap.size]? = some (.cells #[.int .i64 pk, .int .i64 mt] 57 (0, 0))) := by unfold Hid; rw [hw15]; exact other_set HSw14.out HQ.out.1
  have Bw15 : Hid (Below w.heap.size w w15) := by unfold Hid; rw [hw15]; exact bt_set Bw14.out (Nat.le_refl _)
  have RDw15 : Hid (Fi.Rd w15 g s yC eC) := by unfold Hid; rw [hw15]; exact rd_set RDw14.out HG.out.1 HG.out.2.1
  go_upto_region 17 with fail
  rw [← hw15]
  clear hw15 kq kf PFw14 HSw14 Bw14 RDw14
  have ch := CO.out w15
  have s0 : w15.cell? ⟨w4.heap.size, 0, none⟩ = some (.int .i64 pk) := by have := HSw15.out; simp [World.cell?, this]
  have s1 : w15.cell? ⟨w4.heap.size, 1, none⟩ = some (.int .i64 mt) := by have := HSw15.out; simp [World.cell?, this]
  go_wp2_with fail
  refine ch.mono ?_
  rintro e w16 ⟨rfl, bw16⟩
  have PFw16 : Hid (PF w16 w.heap.size 33 ⟨4, iv, nv, cv, false, ⟨#[]⟩, zn, []⟩ (.slice none 0 0)) := PFw15.out.kept bw16
  have HSw16 : Hid (w16.heap[w4.heap.size]? = some (.cells #[.int .i64 pk, .int .i64 mt] 57 (0, 0))) := blk_kept HSw15.out bw16 (blk_lt HSw15.out)
  have Bw16 : Hid (Below w.heap.size w w16) := Bw15.out.trans (bw16.mono Bw15.out.size)
  have RDw16 : Hid (Fi.Rd w16 g s yC eC) := RDw15.out.kept bw16
  clear ch bw16 s0 s1 PFw15 HSw15 Bw15 RDw15
  have ch := CT.out w16
  have s0 : w16.cell? ⟨w4.heap.size, 0, none⟩ = some (.int .i64 pk) := by have := HSw16.out; simp [World.cell?, this]
  have s1 : w16.cell? ⟨w4.heap.size, 1, none⟩ = some (.int .i64 mt) := by have := HSw16.out; simp [World.cell?, this]
  go_wp2_with fail
  refine ch.mono ?_
  rintro e w17 ⟨rfl, bw17⟩
  have PFw17 : Hid (PF w17 w.heap.size 33 ⟨4, iv, nv, cv, false, ⟨#[]⟩, zn, []⟩ (.slice none 0 0)) := PFw16.out.kept bw17
  have HSw17 : Hid (w17.heap[w4.heap.size]? = some (.cells #[.int .i64 pk, .int .i64 mt] 57 (0, 0))) := blk_kept HSw16.out bw17 (blk_lt HSw16.out)
  have Bw17 : Hid (Below w.heap.size w w17) := Bw16.out.trans (bw17.mono Bw16.out.size)
  have RDw17 : Hid (Fi.Rd w17 g s yC eC) := RDw16.out.kept bw17
  clear ch bw17 s0 s1 PFw16 HSw16 Bw16 RDw16
  have HAR : Hid (ahR 4 ys 0 = ((iv, nv, 0, cv, zn, []), yC, eC)) := by
    have e1 : hI 4 = true := by decide
    have e2 : hN 4 = true := by decide
    have e3 : hF 4 = false := by decide
    have e4 : hC 4 = true := by decide
    have e5 : hO 4 = false := by decide
    have e6 : hT 4 = false := by decide
    unfold Hid ahR thn
    rw [e1, e2, e3, e4, e5, e6]
    simp only [opt_t, opt_f, HRI.out, HRN.out, HRC.out]
  have cx := fault_any g s yC eC w17 RDw17.out
  go_wp2_with fail
  refine cx.mono ?_
  rintro e wq ⟨rfl, eq⟩
  rw [eq]
  clear cx eq wq
  by_cases he : eC = 0
  rotate_left
  · have tx0 : (fltE eC != 0) = true := by unfold fltE; split <;> simp <;> omega
    have HE : Hid (ahM (4 :: ys) = errM (fltE eC)) := ahM_err (by decide) (by rw [HAR.out]) he
    have NLw17 : Hid ((⟨4, iv, nv, cv, false, ⟨#[]⟩, zn, []⟩ : Fm).nc.length = 16) := rfl
    clear he
    go_wp2_with (refine wpList_store_row rfl 33 _ _ rfl w.heap.size (plA Fm.zero (.slice none 0 0)) rfl rfl 33 _ PFw17.out (infoP.trans (by rw [plA_size rfl])) (by first | rfl | (rw [plA_size NLw17.out, plA_size rfl])) (all_oneCell_toArray (plL_one rfl)) (Hid.out ?_))
    unfold Hid
    go_wp2
    refine bodyPost_ret (ret_ctt rfl (setRow_heap _ _ _ _ _ _ PFw17.out) (infoP.trans (by rw [plA_size rfl]))) rfl ?_
    exact ⟨.slice none 0 0, by rw [HE.out]; rfl, by rw [HE.out]; exact RI.nil _ _ _ _, below_setRow Bw17.out (Nat.le_refl _) _⟩
  have tx0 : (fltE eC != 0) = false := by rw [he]; rfl
  have HEZ : Hid (eC = 0) := he
  clear he
  have cl := Fi.left_any g s yC eC w17 RDw17.out
  have hlz : (yC.length : Int) ≤ 9223372036854775807 := Rd_len RDw17.out
  have sw : IntKind.i64.wrap ((n : Int) - (yC.length : Int)) = (n : Int) - (yC.length : Int) := by rw [IntKind.wrap_i64]; omega
  obtain ⟨zl, hzl⟩ : ∃ zl, zl = yC.length := ⟨_, rfl⟩
  have HZL : Hid (zl = yC.length) := hzl
  rw [← hzl] at cl hlz sw
  clear hzl
  go_wp2_with fail
  refine cl.mono ?_
  rintro e wq ⟨rfl, eq⟩
  rw [eq]
  clear cl eq wq tx0
  have ch := CS.out w17
  have s0 : w17.cell? ⟨w4.heap.size, 0, none⟩ = some (.int .i64 pk) := by have := HSw17.out; simp [World.cell?, this]
  have s1 : w17.cell? ⟨w4.heap.size, 1, none⟩ = some (.int .i64 mt) := by have := HSw17.out; simp [World.cell?, this]
  go_wp2_with fail
  refine ch.mono ?_
  rintro e w18 ⟨rfl, bw18⟩
  have PFw18 : Hid (PF w18 w.heap.size 33 ⟨4, iv, nv, cv, false, ⟨#[]⟩, zn, []⟩ (.slice none 0 0)) := PFw17.out.kept bw18
  have Bw18 : Hid (Below w.heap.size w w18) := Bw17.out.trans (bw18.mono Bw17.out.size)
  have RR : Hid (w18.rangeAt w.heap.size 0 (plL ⟨4, iv, nv, cv, false, ⟨#[]⟩, zn, []⟩ (.slice none 0 0))) := PFw18.out.range
  have HE : Hid (ahM (4 :: ys) = (⟨4, iv, nv, cv, false, ⟨#[]⟩, zn, []⟩, (n : Int) - (zl : Int), 0)) := by unfold Hid; rw [ahM_fin (by decide) (by decide) HAR.out HEZ.out, HN.out, HZL.out]; rfl
  clear ch bw18 s0 s1 PFw17 HSw17 Bw17 RDw17 HAR sw
  go_wp2_with (first | refine wpList_load_mid rfl 33 _ rfl w.heap.size 0 rfl (plL ⟨4, iv, nv, cv, false, ⟨#[]⟩, zn, []⟩ (.slice none 0 0)) _ RR.out Tryz.underlying33 rfl (infoP.trans (by rw [plL_len rfl])) (Hid.out ?_) | refine wpList_store_row rfl 33 _ _ rfl w.heap.size (plA ⟨4, iv, nv, cv, false, ⟨#[]⟩, zn, []⟩ (.slice none 0 0)) rfl rfl 33 _ PFw18.out (infoP.trans (by rw [plA_size rfl])) rfl (all_oneCell_toArray (plL_one rfl)) (Hid.out ?_))
  unfold Hid
  go_wp2_with (first | refine wpList_load_mid rfl 33 _ rfl w.heap.size 0 rfl (plL ⟨4, iv, nv, cv, false, ⟨#[]⟩, zn, []⟩ (.slice none 0 0)) _ RR.out Tryz.underlying33 rfl (infoP.trans (by rw [plL_len rfl])) (Hid.out ?_) | refine wpList_store_row rfl 33 _ _ rfl w.heap.size (plA ⟨4, iv, nv, cv, false, ⟨#[]⟩, zn, []⟩ (.slice none 0 0)) rfl rfl 33 _ PFw18.out (infoP.trans (by rw [plA_size rfl])) rfl (all_oneCell_toArray (plL_one rfl)) (Hid.out ?_))
  unfold Hid
  go_wp2
  refine bodyPost_ret (ret_ctt rfl (setRow_heap _ _ _ _ _ _ PFw18.out) (infoP.trans (by rw [plA_size rfl]))) rfl ?_
  exact ⟨.slice none 0 0, by rw [HE.out]; rfl, by rw [HE.out]; exact RI.nil _ _ _ _, below_setRow Bw18.out (Nat.le_refl _) _⟩
set_option maxHeartbeats 8000000 in
theorem ahd6 (v : Value) (ys : List Int) (w : World) (ht : Tb w) (h : Sl w v (6 :: ys)) (hl : (6 :: ys).length ≤ 100000) :
    Calls Tryz.prog 36 #[v] w fun e w' => ∃ sv, e = .returned (.tuple #[.agg (plA (ahM (6 :: ys)).1 sv), .int .i64 (ahM (6 :: ys)).2.1, .int .i64 (ahM (6 :: ys)).2.2]) ∧ RSp w' w.heap.size sv (ahM (6 :: ys)).1.sp ∧ Below w.heap.size w w' := by
  obtain ⟨W1, hW1⟩ : ∃ W1, W1 = w.alloc (.cells #[.int .u8 0, .int .i64 0, .int .i64 0, .int .i64 0, .bool false, .string ⟨#[]⟩, .int .u8 0, .int .u8 0, .int .u8 0, .int .u8 0, .int .u8 0, .int .u8 0, .int .u8 0, .int .u8 0, .int .u8 0, .int .u8 0, .int .u8 0, .int .u8 0, .int .u8 0, .int .u8 0, .int .u8 0, .int .u8 0, .slice none 0 0] 33) := ⟨_, rfl⟩
  have b1 : Below w.heap.size w W1 := by rw [hW1]; exact al_below _ _
  have g1 : PF W1 w.heap.size 33 Fm.zero (.slice none 0 0) := by rw [hW1]; exact heap_alloc_new _ _
  have z1 : W1.heap.size = w.heap.size + 1 := by rw [hW1]; simp
  have cn := Fi.new_any v (6 :: ys) W1 (ht.next b1).v (fsl (h.kept b1)) (by omega)
  obtain ⟨a, c, rfl, hlc, hcm, hnn, -⟩ := id h
  have HT : Hid (Tb w) := ht
  have HSL : Hid (Sl w (.slice a (6 :: ys).length c) (6 :: ys)) := h
  have HB1 : Hid (Below w.heap.size w W1) := b1
  have HP1 : Hid (PF W1 w.heap.size 33 Fm.zero (.slice none 0 0)) := g1
  have hpos := ht.pos
  clear ht h b1 g1
  obtain ⟨n, hn⟩ : ∃ n, n = (6 :: ys).length := ⟨_, rfl⟩
  have HN : Hid (n = (6 :: ys).length) := hn
  rw [← hn] at hl cn hlc ⊢
  clear hn
  go_enter Tryz.func36, Tryz.ntmps36
  go_upto_region 1 with fail
  rw [← hW1]
  clear hW1
  go_wp2_with fail
  refine cn.mono ?_
  rintro e w2 ⟨g, s, rfl, hg1, hg2, hs, rd2, b2⟩
  have HG : Hid (g ≠ w.heap.size ∧ s ≠ w.heap.size ∧ w.heap.size < g ∧ 2 ≤ g) := ⟨by omega, by omega, by omega, by omega⟩
  have HGZ : Hid (g < w2.heap.size ∧ s < w2.heap.size) := ⟨hg2, by omega⟩
  have B2 : Hid (Below w.heap.size w w2) := HB1.out.trans (b2.mono HB1.out.size)
  have PF2 : Hid (PF w2 w.heap.size 33 Fm.zero (.slice none 0 0)) := HP1.out.kept b2
  have cb := rdByte g s (6 :: ys) 0 w2 rd2
  rw [rBt_cons] at cb
  clear cn hg1 hg2 hs rd2 b2 HB1 HP1 z1
  go_wp2_with fail
  refine cb.mono ?_
  rintro e w3 ⟨rfl, rd3, bt3⟩
  have PF3 : Hid (PF w3 w.heap.size 33 Fm.zero (.slice none 0 0)) := PF2.out.bt bt3 (Ne.symm HG.out.1)
  have B3 : Hid (Below w.heap.size w w3) := bt3.below B2.out (Nat.le_of_lt HG.out.2.2.1) B2.out.size
  have k0 := (PF3.out.pc rfl).c0
  have k1 := PF3.out.frz 0
  obtain ⟨w4, hw4⟩ : ∃ w4, w4 = w3.setCell ⟨w.heap.size, 0, none⟩ (.int .u8 6) := ⟨_, rfl⟩
  have PFw4 : Hid (PF w4 w.heap.size 33 ⟨6, 0, 0, 0, false, ⟨#[]⟩, zn, []⟩ (.slice none 0 0)) := by unfold Hid; rw [hw4]; exact PF3.out.set 0 _ rfl
  have Bw4 : Hid (Below w.heap.size w w4) := by unfold Hid; rw [hw4]; exact bt_set B3.out (Nat.le_refl _)
  have RDw4 : Hid (Fi.Rd w4 g s ys 0) := by unfold Hid; rw [hw4]; exact rd_set rd3 HG.out.1 HG.out.2.1
  have Zw4 : Hid (w2.heap.size ≤ w4.heap.size) := by unfold Hid; rw [hw4]; simpa [World.setCell] using bt3.size
  clear cb rd3 bt3 B2 PF2
  go_upto_region 3 with fail
  rw [← hw4]
  clear hw4 k0 k1 PF3 B3
  have ce := Fi.err_any g s ys 0 w4 RDw4.out
  have k0 := (PFw4.out.pc rfl).c0
  have ci := isK_any 6 w4
  rw [show isK 6 = true from by decide] at ci
  go_wp2_with fail
  refine ce.mono ?_
  rintro e wq ⟨rfl, eq⟩
  rw [eq]
  clear ce eq wq
  go_wp2_with fail
  refine ci.mono ?_
  rintro e wq ⟨rfl, eq⟩
  rw [eq]
  clear ci eq wq
  obtain ⟨t0, t1⟩ : w4.cell? ⟨0, 12, none⟩ = some (.int .i64 (pkN 6)) ∧ w4.cell? ⟨0, 13, none⟩ = some (.int .i64 (mT 6)) := (HT.out.next Bw4.out).s 6 (by omega)
  obtain ⟨w5, hw5⟩ : ∃ w5, w5 = w4.alloc (.cells #[.int .i64 (pkN 6), .int .i64 (mT 6)] 57) := ⟨_, rfl⟩
  have b5 : Below w4.heap.size w4 w5 := by rw [hw5]; exact al_below _ _
  have HSw5 : Hid (w5.heap[w4.heap.size]? = some (.cells #[.int .i64 (pkN 6), .int .i64 (mT 6)] 57 (0, 0))) := by unfold Hid; rw [hw5]; exact heap_alloc_new _ _
  have PFw5 : Hid (PF w5 w.heap.size 33 ⟨6, 0, 0, 0, false, ⟨#[]⟩, zn, []⟩ (.slice none 0 0)) := PFw4.out.kept b5
  have Bw5 : Hid (Below w.heap.size w w5) := Bw4.out.trans (b5.mono Bw4.out.size)
  have RDw5 : Hid (Fi.Rd w5 g s ys 0) := RDw4.out.kept b5
  have HQ : Hid (w4.heap.size ≠ w.heap.size ∧ w4.heap.size ≠ g) := ⟨by have := blk_lt PFw4.out; omega, by have := HGZ.out.1; have := Zw4.out; omega⟩
  have PS : Hid (w.heap.size < w5.heap.size) := blk_lt PFw5.out
  have CI : Hid (∀ W, Calls Tryz.prog 28 #[.agg #[.int .i64 (pkN 6), .int .i64 (mT 6)], .int .i64 1] W fun e w' => e = .returned (.bool false) ∧ Below W.heap.size W w') := fun W => has_k 6 (by omega) (by omega) W 1 _ (by decide)
  have CN : Hid (∀ W, Calls Tryz.prog 28 #[.agg #[.int .i64 (pkN 6), .int .i64 (mT 6)], .int .i64 2] W fun e w' => e = .returned (.bool true) ∧ Below W.heap.size W w') := fun W => has_k 6 (by omega) (by omega) W 2 _ (by decide)
  have CF : Hid (∀ W, Calls Tryz.prog 28 #[.agg #[.int .i64 (pkN 6), .int .i64 (mT 6)], .int .i64 4] W fun e w' => e = .returned (.bool false) ∧ Below W.heap.size W w') := fun W => has_k 6 (by omega) (by omega) W 4 _ (by decide)
  have CC : Hid (∀ W, Calls Tryz.prog 28 #[.agg #[.int .i64 (pkN 6), .int .i64 (mT 6)], .int .i64 8] W fun e w' => e = .returned (.bool false) ∧ Below W.heap.size W w') := fun W => has_k 6 (by omega) (by omega) W 8 _ (by decide)
  have CO : Hid (∀ W, Calls Tryz.prog 28 #[.agg #[.int .i64 (pkN 6), .int .i64 (mT 6)], .int .i64 16] W fun e w' => e = .returned (.bool false) ∧ Below W.heap.size W w') := fun W => has_k 6 (by omega) (by omega) W 16 _ (by decide)
  have CT : Hid (∀ W, Calls Tryz.prog 28 #[.agg #[.int .i64 (pkN 6), .int .i64 (mT 6)], .int .i64 32] W fun e w' => e = .returned (.bool false) ∧ Below W.heap.size W w') := fun W => has_k 6 (by omega) (by omega) W 32 _ (by decide)
  have CS : Hid (∀ W, Calls Tryz.prog 28 #[.agg #[.int .i64 (pkN 6), .int .i64 (mT 6)], .int .i64 64] W fun e w' => e = .returned (.bool false) ∧ Below W.heap.size W w') := fun W => has_k 6 (by omega) (by omega) W 64 _ (by decide)
  have HMT : Hid (mT 6 = mT 6) := rfl
  obtain ⟨pk, hpk⟩ : ∃ pk, pk = pkN 6 := ⟨_, rfl⟩
  obtain ⟨mt, hmt⟩ : ∃ mt, mt = mT 6 := ⟨_, rfl⟩
  have HMQ : Hid (mt = mT 6) := hmt
  rw [← hpk] at t0
  rw [← hmt] at t1
  rw [← hpk, ← hmt] at hw5 HSw5
  simp only [← hpk, ← hmt] at CI CN CF CC CO CT CS
  clear hpk hmt HMT
  clear b5 PFw4 Bw4 RDw4 Zw4 HGZ
  go_upto_region 6 with fail
  rw [← hw5]
  clear hw5 t0 t1 k0
  have ch := CI.out w5
  have s0 : w5.cell? ⟨w4.heap.size, 0, none⟩ = some (.int .i64 pk) := by have := HSw5.out; simp [World.cell?, this]
  have s1 : w5.cell? ⟨w4.heap.size, 1, none⟩ = some (.int .i64 mt) := by have := HSw5.out; simp [World.cell?, this]
  go_wp2_with fail
  refine ch.mono ?_
  rintro e w6 ⟨rfl, bw6⟩
  have PFw6 : Hid (PF w6 w.heap.size 33 ⟨6, 0, 0, 0, false, ⟨#[]⟩, zn, []⟩ (.slice none 0 0)) := PFw5.out.kept bw6
  have HSw6 : Hid (w6.heap[w4.heap.size]? = some (.cells #[.int .i64 pk, .int .i64 mt] 57 (0, 0))) := blk_kept HSw5.out bw6 (blk_lt HSw5.out)
  have Bw6 : Hid (Below w.heap.size w w6) := Bw5.out.trans (bw6.mono Bw5.out.size)
  have RDw6 : Hid (Fi.Rd w6 g s ys 0) := RDw5.out.kept bw6
  clear ch bw6 s0 s1 PFw5 HSw5 Bw5 RDw5
  have ch := CN.out w6
  have s0 : w6.cell? ⟨w4.heap.size, 0, none⟩ = some (.int .i64 pk) := by have := HSw6.out; simp [World.cell?, this]
  have s1 : w6.cell? ⟨w4.heap.size, 1, none⟩ = some (.int .i64 mt) := by have := HSw6.out; simp [World.cell?, this]
  go_wp2_with fail
  refine ch.mono ?_
  rintro e w7 ⟨rfl, bw7⟩
  have PFw7 : Hid (PF w7 w.heap.size 33 ⟨6, 0, 0, 0, false, ⟨#[]⟩, zn, []⟩ (.slice none 0 0)) := PFw6.out.kept bw7
  have HSw7 : Hid (w7.heap[w4.heap.size]? = some (.cells #[.int .i64 pk, .int .i64 mt] 57 (0, 0))) := blk_kept HSw6.out bw7 (blk_lt HSw6.out)
  have Bw7 : Hid (Below w.heap.size w w7) := Bw6.out.trans (bw7.mono Bw6.out.size)
  have RDw7 : Hid (Fi.Rd w7 g s ys 0) := RDw6.out.kept bw7
  clear ch bw7 s0 s1 PFw6 HSw6 Bw6 RDw6
  have cm := rdNm g s ys 0 1099511627776 w7 (HT.out.next Bw7.out).v RDw7.out
  obtain ⟨RN, hRN⟩ : ∃ R, R = rNm 1099511627776 ys 0 := ⟨_, rfl⟩
  rw [← hRN] at cm
  obtain ⟨nv, yN, eN⟩ := RN
  have HRN : Hid (rNm 1099511627776 ys 0 = (nv, yN, eN)) := hRN.symm
  clear hRN
  simp only at cm
  go_wp2_with fail
  refine cm.mono ?_
  rintro e w8 ⟨rfl, rdw8, btw8⟩
  have PFw8 : Hid (PF w8 w.heap.size 33 ⟨6, 0, 0, 0, false, ⟨#[]⟩, zn, []⟩ (.slice none 0 0)) := PFw7.out.bt btw8 (Ne.symm HG.out.1)
  have HSw8 : Hid (w8.heap[w4.heap.size]? = some (.cells #[.int .i64 pk, .int .i64 mt] 57 (0, 0))) := (btw8.block _ (blk_lt HSw7.out) HQ.out.2).trans HSw7.out
  have Bw8 : Hid (Below w.heap.size w w8) := btw8.below Bw7.out (Nat.le_of_lt HG.out.2.2.1) Bw7.out.size
  have RDw8 : Hid (Fi.Rd w8 g s yN eN) := rdw8
  clear cm rdw8 btw8 PFw7 HSw7 Bw7 RDw7
  have kq := (PFw8.out.pc rfl).c2
  have kf := PFw8.out.frz 2
  obtain ⟨w9, hw9⟩ : ∃ w9, w9 = w8.setCell ⟨w.heap.size, 2, none⟩ (.int .i64 nv) := ⟨_, rfl⟩
  have PFw9 : Hid (PF w9 w.heap.size 33 ⟨6, 0, nv, 0, false, ⟨#[]⟩, zn, []⟩ (.slice none 0 0)) := by unfold Hid; rw [hw9]; exact PFw8.out.set 2 _ rfl
  have HSw9 : Hid (w9.heap[w4.heap.size]? = some (.cells #[.int .i64 pk, .int .i64 mt] 57 (0, 0))) := by unfold Hid; rw [hw9]; exact other_set HSw8.out HQ.out.1
  have Bw9 : Hid (Below w.heap.size w w9) := by unfold Hid; rw [hw9]; exact bt_set Bw8.out (Nat.le_refl _)
  have RDw9 : Hid (Fi.Rd w9 g s yN eN) := by unfold Hid; rw [hw9]; exact rd_set RDw8.out HG.out.1 HG.out.2.1
  go_upto_region 10 with fail
  rw [← hw9]
  clear hw9 kq kf PFw8 HSw8 Bw8 RDw8
  have ch := CF.out w9
  have s0 : w9.cell? ⟨w4.heap.size, 0, none⟩ = some (.int .i64 pk) := by have := HSw9.out; simp [World.cell?, this]
  have s1 : w9.cell? ⟨w4.heap.size, 1, none⟩ = some (.int .i64 mt) := by have := HSw9.out; simp [World.cell?, this]
  go_wp2_with fail
  refine ch.mono ?_
  rintro e w10 ⟨rfl, bw10⟩
  have PFw10 : Hid (PF w10 w.heap.size 33 ⟨6, 0, nv, 0, false, ⟨#[]⟩, zn, []⟩ (.slice none 0 0)) := PFw9.out.kept bw10
  have HSw10 : Hid (w10.heap[w4.heap.size]? = some (.cells #[.int .i64 pk, .int .i64 mt] 57 (0, 0))) := blk_kept HSw9.out bw10 (blk_lt HSw9.out)
  have Bw10 : Hid (Below w.heap.size w w10) := Bw9.out.trans (bw10.mono Bw9.out.size)
  have RDw10 : Hid (Fi.Rd w10 g s yN eN) := RDw9.out.kept bw10
  clear ch bw10 s0 s1 PFw9 HSw9 Bw9 RDw9
  have ch := CC.out w10
  have s0 : w10.cell? ⟨w4.heap.size, 0, none⟩ = some (.int .i64 pk) := by have := HSw10.out; simp [World.cell?, this]
  have s1 : w10.cell? ⟨w4.heap.size, 1, none⟩ = some (.int .i64 mt) := by have := HSw10.out; simp [World.cell?, this]
  go_wp2_with fail
  refine ch.mono ?_
  rintro e w11 ⟨rfl, bw11⟩
  have PFw11 : Hid (PF w11 w.heap.size 33 ⟨6, 0, nv, 0, false, ⟨#[]⟩, zn, []⟩ (.slice none 0 0)) := PFw10.out.kept bw11
  have HSw11 : Hid (w11.heap[w4.heap.size]? = some (.cells #[.int .i64 pk, .int .i64 mt] 57 (0, 0))) := blk_kept HSw10.out bw11 (blk_lt HSw10.out)
  have Bw11 : Hid (Below w.heap.size w w11) := Bw10.out.trans (bw11.mono Bw10.out.size)
  have RDw11 : Hid (Fi.Rd w11 g s yN eN) := RDw10.out.kept bw11
  clear ch bw11 s0 s1 PFw10 HSw10 Bw10 RDw10
  have ch := CO.out w11
  have s0 : w11.cell? ⟨w4.heap.size, 0, none⟩ = some (.int .i64 pk) := by have := HSw11.out; simp [World.cell?, this]
  have s1 : w11.cell? ⟨w4.heap.size, 1, none⟩ = some (.int .i64 mt) := by have := HSw11.out; simp [World.cell?, this]
  go_wp2_with fail
  refine ch.mono ?_
  rintro e w12 ⟨rfl, bw12⟩
  have PFw12 : Hid (PF w12 w.heap.size 33 ⟨6, 0, nv, 0, false, ⟨#[]⟩, zn, []⟩ (.slice none 0 0)) := PFw11.out.kept bw12
  have HSw12 : Hid (w12.heap[w4.heap.size]? = some (.cells #[.int .i64 pk, .int .i64 mt] 57 (0, 0))) := blk_kept HSw11.out bw12 (blk_lt HSw11.out)
  have Bw12 : Hid (Below w.heap.size w w12) := Bw11.out.trans (bw12.mono Bw11.out.size)
  have RDw12 : Hid (Fi.Rd w12 g s yN eN) := RDw11.out.kept bw12
  clear ch bw12 s0 s1 PFw11 HSw11 Bw11 RDw11
  have ch := CT.out w12
  have s0 : w12.cell? ⟨w4.heap.size, 0, none⟩ = some (.int .i64 pk) := by have := HSw12.out; simp [World.cell?, this]
  have s1 : w12.cell? ⟨w4.heap.size, 1, none⟩ = some (.int .i64 mt) := by have := HSw12.out; simp [World.cell?, this]
  go_wp2_with fail
  refine ch.mono ?_
  rintro e w13 ⟨rfl, bw13⟩
  have PFw13 : Hid (PF w13 w.heap.size 33 ⟨6, 0, nv, 0, false, ⟨#[]⟩, zn, []⟩ (.slice none 0 0)) := PFw12.out.kept bw13
  have HSw13 : Hid (w13.heap[w4.heap.size]? = some (.cells #[.int .i64 pk, .int .i64 mt] 57 (0, 0))) := blk_kept HSw12.out bw13 (blk_lt HSw12.out)
  have Bw13 : Hid (Below w.heap.size w w13) := Bw12.out.trans (bw13.mono Bw12.out.size)
  have RDw13 : Hid (Fi.Rd w13 g s yN eN) := RDw12.out.kept bw13
  clear ch bw13 s0 s1 PFw12 HSw12 Bw12 RDw12
  have HAR : Hid (ahR 6 ys 0 = ((0, nv, 0, 0, zn, []), yN, eN)) := by
    have e1 : hI 6 = false := by decide
    have e2 : hN 6 = true := by decide
    have e3 : hF 6 = false := by decide
    have e4 : hC 6 = false := by decide
    have e5 : hO 6 = false := by decide
    have e6 : hT 6 = false := by decide
    unfold Hid ahR thn
    rw [e1, e2, e3, e4, e5, e6]
    simp only [opt_t, opt_f, HRN.out]
  have cx := fault_any g s yN eN w13 RDw13.out
  go_wp2_with fail
  refine cx.mono ?_
  rintro e wq ⟨rfl, eq⟩
  rw [eq]
  clear cx eq wq
  by_cases he : eN = 0
  rotate_left
  · have tx0 : (fltE eN != 0) = true := by unfold fltE; split <;> simp <;> omega
    have HE : Hid (ahM (6 :: ys) = errM (fltE eN)) := ahM_err (by decide) (by rw [HAR.out]) he
    have NLw13 : Hid ((⟨6, 0, nv, 0, false, ⟨#[]⟩, zn, []⟩ : Fm).nc.length = 16) := rfl
    clear he
    go_wp2_with (refine wpList_store_row rfl 33 _ _ rfl w.heap.size (plA Fm.zero (.slice none 0 0)) rfl rfl 33 _ PFw13.out (infoP.trans (by rw [plA_size rfl])) (by first | rfl | (rw [plA_size NLw13.out, plA_size rfl])) (all_oneCell_toArray (plL_one rfl)) (Hid.out ?_))
    unfold Hid
    go_wp2
    refine bodyPost_ret (ret_ctt rfl (setRow_heap _ _ _ _ _ _ PFw13.out) (infoP.trans (by rw [plA_size rfl]))) rfl ?_
    exact ⟨.slice none 0 0, by rw [HE.out]; rfl, by rw [HE.out]; exact RI.nil _ _ _ _, below_setRow Bw13.out (Nat.le_refl _) _⟩
  have tx0 : (fltE eN != 0) = false := by rw [he]; rfl
  have HEZ : Hid (eN = 0) := he
  clear he
  have cl := Fi.left_any g s yN eN w13 RDw13.out
  have hlz : (yN.length : Int) ≤ 9223372036854775807 := Rd_len RDw13.out
  have sw : IntKind.i64.wrap ((n : Int) - (yN.length : Int)) = (n : Int) - (yN.length : Int) := by rw [IntKind.wrap_i64]; omega
  obtain ⟨zl, hzl⟩ : ∃ zl, zl = yN.length := ⟨_, rfl⟩
  have HZL : Hid (zl = yN.length) := hzl
  rw [← hzl] at cl hlz sw
  clear hzl
  go_wp2_with fail
  refine cl.mono ?_
  rintro e wq ⟨rfl, eq⟩
  rw [eq]
  clear cl eq wq tx0
  have ch := CS.out w13
  have s0 : w13.cell? ⟨w4.heap.size, 0, none⟩ = some (.int .i64 pk) := by have := HSw13.out; simp [World.cell?, this]
  have s1 : w13.cell? ⟨w4.heap.size, 1, none⟩ = some (.int .i64 mt) := by have := HSw13.out; simp [World.cell?, this]
  go_wp2_with fail
  refine ch.mono ?_
  rintro e w14 ⟨rfl, bw14⟩
  have PFw14 : Hid (PF w14 w.heap.size 33 ⟨6, 0, nv, 0, false, ⟨#[]⟩, zn, []⟩ (.slice none 0 0)) := PFw13.out.kept bw14
  have Bw14 : Hid (Below w.heap.size w w14) := Bw13.out.trans (bw14.mono Bw13.out.size)
  have RR : Hid (w14.rangeAt w.heap.size 0 (plL ⟨6, 0, nv, 0, false, ⟨#[]⟩, zn, []⟩ (.slice none 0 0))) := PFw14.out.range
  have HE : Hid (ahM (6 :: ys) = (⟨6, 0, nv, 0, false, ⟨#[]⟩, zn, []⟩, (n : Int) - (zl : Int), 0)) := by unfold Hid; rw [ahM_fin (by decide) (by decide) HAR.out HEZ.out, HN.out, HZL.out]; rfl
  clear ch bw14 s0 s1 PFw13 HSw13 Bw13 RDw13 HAR sw
  go_wp2_with (first | refine wpList_load_mid rfl 33 _ rfl w.heap.size 0 rfl (plL ⟨6, 0, nv, 0, false, ⟨#[]⟩, zn, []⟩ (.slice none 0 0)) _ RR.out Tryz.underlying33 rfl (infoP.trans (by rw [plL_len rfl])) (Hid.out ?_) | refine wpList_store_row rfl 33 _ _ rfl w.heap.size (plA ⟨6, 0, nv, 0, false, ⟨#[]⟩, zn, []⟩ (.slice none 0 0)) rfl rfl 33 _ PFw14.out (infoP.trans (by rw [plA_size rfl])) rfl (all_oneCell_toArray (plL_one rfl)) (Hid.out ?_))
  unfold Hid
  go_wp2_with (first | refine wpList_load_mid rfl 33 _ rfl w.heap.size 0 rfl (plL ⟨6, 0, nv, 0, false, ⟨#[]⟩, zn, []⟩ (.slice none 0 0)) _ RR.out Tryz.underlying33 rfl (infoP.trans (by rw [plL_len rfl])) (Hid.out ?_) | refine wpList_store_row rfl 33 _ _ rfl w.heap.size (plA ⟨6, 0, nv, 0, false, ⟨#[]⟩, zn, []⟩ (.slice none 0 0)) rfl rfl 33 _ PFw14.out (infoP.trans (by rw [plA_size rfl])) rfl (all_oneCell_toArray (plL_one rfl)) (Hid.out ?_))
  unfold Hid
  go_wp2
  refine bodyPost_ret (ret_ctt rfl (setRow_heap _ _ _ _ _ _ PFw14.out) (infoP.trans (by rw [plA_size rfl]))) rfl ?_
  exact ⟨.slice none 0 0, by rw [HE.out]; rfl, by rw [HE.out]; exact RI.nil _ _ _ _, below_setRow Bw14.out (Nat.le_refl _) _⟩
end Go.Proofs.YtmplpdjkhdaniaaGreatDoor
