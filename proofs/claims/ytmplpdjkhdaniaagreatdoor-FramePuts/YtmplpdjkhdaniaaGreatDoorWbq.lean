/-
  What plainAhead answers, kind by kind.
-/
import Derived.Test.YtmplpdjkhdaniaaGreatDoorWbh
namespace Go.Proofs.YtmplpdjkhdaniaaGreatDoor
open Go.RowKit Go.Shelf
set_option maxRecDepth 100000

set_option maxHeartbeats 8000000 in
theorem ahd0 (v : Value) (w : World) (ht : Tb w) (h : Sl w v (([] : List Int))) (hl : (([] : List Int)).length ≤ 100000) :
    Calls Tryz.prog 36 #[v] w fun e w' => ∃ sv, e = .returned (.tuple #[.agg (plA (ahM (([] : List Int))).1 sv), .int .i64 (ahM (([] : List Int))).2.1, .int .i64 (ahM (([] : List Int))).2.2]) ∧ RSp w' w.heap.size sv (ahM (([] : List Int))).1.sp ∧ Below w.heap.size w w' := by
  obtain ⟨W1, hW1⟩ : ∃ W1, W1 = w.alloc (.cells #[.int .u8 0, .int .i64 0, .int .i64 0, .int .i64 0, .bool false, .string ⟨#[]⟩, .int .u8 0, .int .u8 0, .int .u8 0, .int .u8 0, .int .u8 0, .int .u8 0, .int .u8 0, .int .u8 0, .int .u8 0, .int .u8 0, .int .u8 0, .int .u8 0, .int .u8 0, .int .u8 0, .int .u8 0, .int .u8 0, .slice none 0 0] 33) := ⟨_, rfl⟩
  have b1 : Below w.heap.size w W1 := by rw [hW1]; exact al_below _ _
  have g1 : PF W1 w.heap.size 33 Fm.zero (.slice none 0 0) := by rw [hW1]; exact heap_alloc_new _ _
  have z1 : W1.heap.size = w.heap.size + 1 := by rw [hW1]; simp
  have cn := Fi.new_any v (([] : List Int)) W1 (ht.next b1).v (fsl (h.kept b1)) (by omega)
  obtain ⟨a, c, rfl, hlc, hcm, hnn, -⟩ := id h
  have HT : Hid (Tb w) := ht
  have HSL : Hid (Sl w (.slice a (([] : List Int)).length c) (([] : List Int))) := h
  have HB1 : Hid (Below w.heap.size w W1) := b1
  have HP1 : Hid (PF W1 w.heap.size 33 Fm.zero (.slice none 0 0)) := g1
  have hpos := ht.pos
  clear ht h b1 g1
  obtain ⟨n, hn⟩ : ∃ n, n = (([] : List Int)).length := ⟨_, rfl⟩
  have HN : Hid (n = (([] : List Int)).length) := hn
  rw [← hn] at hl cn hlc ⊢
  clear hn
  go_enter Tryz.func36, Tryz.ntmps36
  go_upto_region 1 with fail
  rw [← hW1]
  clear hW1
  go_wp2_with fail
  refine cn.mono ?_
  rintro e w2 ⟨g, s, rfl, hg1, hg2, hs, rd2, b2⟩
  have HG : Hid (g ≠ w.heap.size ∧ s ≠ w.heap.size ∧ w.heap.size < g ∧ 2 ≤ g) := ⟨by omega, by omega, by omega, by omega⟩
  have HGZ : Hid (g < w2.heap.size ∧ s < w2.heap.size) := ⟨hg2, by omega⟩
  have B2 : Hid (Below w.heap.size w w2) := HB1.out.trans (b2.mono HB1.out.size)
  have PF2 : Hid (PF w2 w.heap.size 33 Fm.zero (.slice none 0 0)) := HP1.out.kept b2
  have cb := rdByte g s (([] : List Int)) 0 w2 rd2
  rw [rBt_nil] at cb
  clear cn hg1 hg2 hs rd2 b2 HB1 HP1 z1
  go_wp2_with fail
  refine cb.mono ?_
  rintro e w3 ⟨rfl, rd3, bt3⟩
  have PF3 : Hid (PF w3 w.heap.size 33 Fm.zero (.slice none 0 0)) := PF2.out.bt bt3 (Ne.symm HG.out.1)
  have B3 : Hid (Below w.heap.size w w3) := bt3.below B2.out (Nat.le_of_lt HG.out.2.2.1) B2.out.size
  have k0 := (PF3.out.pc rfl).c0
  have k1 := PF3.out.frz 0
  obtain ⟨w4, hw4⟩ : ∃ w4, w4 = w3.setCell ⟨w.heap.size, 0, none⟩ (.int .u8 0) := ⟨_, rfl⟩
  have PFw4 : Hid (PF w4 w.heap.size 33 ⟨0, 0, 0, 0, false, ⟨#[]⟩, zn, []⟩ (.slice none 0 0)) := by unfold Hid; rw [hw4]; exact PF3.out.set 0 _ rfl
  have Bw4 : Hid (Below w.heap.size w w4) := by unfold Hid; rw [hw4]; exact bt_set B3.out (Nat.le_refl _)
  have RDw4 : Hid (Fi.Rd w4 g s ([] : List Int) 3) := by unfold Hid; rw [hw4]; exact rd_set rd3 HG.out.1 HG.out.2.1
  have Zw4 : Hid (w2.heap.size ≤ w4.heap.size) := by unfold Hid; rw [hw4]; simpa [World.setCell] using bt3.size
  clear cb rd3 bt3 B2 PF2
  go_upto_region 3 with fail
  rw [← hw4]
  clear hw4 k0 k1 PF3 B3
  have ce := Fi.err_any g s ([] : List Int) 3 w4 RDw4.out
  have k0 := (PFw4.out.pc rfl).c0
  go_wp2_with fail
  refine ce.mono ?_
  rintro e wq ⟨rfl, eq⟩
  rw [eq]
  clear ce eq wq
  obtain ⟨t0, t1⟩ : w4.cell? ⟨0, 0, none⟩ = some (.int .i64 (pkN 0)) ∧ w4.cell? ⟨0, 1, none⟩ = some (.int .i64 (mT 0)) := (HT.out.next Bw4.out).s 0 (by omega)
  obtain ⟨w5, hw5⟩ : ∃ w5, w5 = w4.alloc (.cells #[.int .i64 (pkN 0), .int .i64 (mT 0)] 57) := ⟨_, rfl⟩
  have b5 : Below w4.heap.size w4 w5 := by rw [hw5]; exact al_below _ _
  have HSw5 : Hid (w5.heap[w4.heap.size]? = some (.cells #[.int .i64 (pkN 0), .int .i64 (mT 0)] 57 (0, 0))) := by unfold Hid; rw [hw5]; exact heap_alloc_new _ _
  have PFw5 : Hid (PF w5 w.heap.size 33 ⟨0, 0, 0, 0, false, ⟨#[]⟩, zn, []⟩ (.slice none 0 0)) := PFw4.out.kept b5
  have Bw5 : Hid (Below w.heap.size w w5) := Bw4.out.trans (b5.mono Bw4.out.size)
  have RDw5 : Hid (Fi.Rd w5 g s ([] : List Int) 3) := RDw4.out.kept b5
  have HQ : Hid (w4.heap.size ≠ w.heap.size ∧ w4.heap.size ≠ g) := ⟨by have := blk_lt PFw4.out; omega, by have := HGZ.out.1; have := Zw4.out; omega⟩
  have PS : Hid (w.heap.size < w5.heap.size) := blk_lt PFw5.out
  have CI : Hid (∀ W, Calls Tryz.prog 28 #[.agg #[.int .i64 (pkN 0), .int .i64 (mT 0)], .int .i64 1] W fun e w' => e = .returned (.bool false) ∧ Below W.heap.size W w') := fun W => has_k 0 (by omega) (by omega) W 1 _ (by decide)
  have CN : Hid (∀ W, Calls Tryz.prog 28 #[.agg #[.int .i64 (pkN 0), .int .i64 (mT 0)], .int .i64 2] W fun e w' => e = .returned (.bool false) ∧ Below W.heap.size W w') := fun W => has_k 0 (by omega) (by omega) W 2 _ (by decide)
  have CF : Hid (∀ W, Calls Tryz.prog 28 #[.agg #[.int .i64 (pkN 0), .int .i64 (mT 0)], .int .i64 4] W fun e w' => e = .returned (.bool false) ∧ Below W.heap.size W w') := fun W => has_k 0 (by omega) (by omega) W 4 _ (by decide)
  have CC : Hid (∀ W, Calls Tryz.prog 28 #[.agg #[.int .i64 (pkN 0), .int .i64 (mT 0)], .int .i64 8] W fun e w' => e = .returned (.bool false) ∧ Below W.heap.size W w') := fun W => has_k 0 (by omega) (by omega) W 8 _ (by decide)
  have CO : Hid (∀ W, Calls Tryz.prog 28 #[.agg #[.int .i64 (pkN 0), .int .i64 (mT 0)], .int .i64 16] W fun e w' => e = .returned (.bool false) ∧ Below W.heap.size W w') := fun W => has_k 0 (by omega) (by omega) W 16 _ (by decide)
  have CT : Hid (∀ W, Calls Tryz.prog 28 #[.agg #[.int .i64 (pkN 0), .int .i64 (mT 0)], .int .i64 32] W fun e w' => e = .returned (.bool false) ∧ Below W.heap.size W w') := fun W => has_k 0 (by omega) (by omega) W 32 _ (by decide)
  have CS : Hid (∀ W, Calls Tryz.prog 28 #[.agg #[.int .i64 (pkN 0), .int .i64 (mT 0)], .int .i64 64] W fun e w' => e = .returned (.bool false) ∧ Below W.heap.size W w') := fun W => has_k 0 (by omega) (by omega) W 64 _ (by decide)
  have HMT : Hid (mT 0 = mT 0) := rfl
  obtain ⟨pk, hpk⟩ : ∃ pk, pk = pkN 0 := ⟨_, rfl⟩
  obtain ⟨mt, hmt⟩ : ∃ mt, mt = mT 0 := ⟨_, rfl⟩
  have HMQ : Hid (mt = mT 0) := hmt
  rw [← hpk] at t0
  rw [← hmt] at t1
  rw [← hpk, ← hmt] at hw5 HSw5
  simp only [← hpk, ← hmt] at CI CN CF CC CO CT CS
  clear hpk hmt HMT
  clear b5 PFw4 Bw4 RDw4 Zw4 HGZ
  go_upto_region 6 with fail
  rw [← hw5]
  clear hw5 t0 t1 k0
  have ch := CI.out w5
  have s0 : w5.cell? ⟨w4.heap.size, 0, none⟩ = some (.int .i64 pk) := by have := HSw5.out; simp [World.cell?, this]
  have s1 : w5.cell? ⟨w4.heap.size, 1, none⟩ = some (.int .i64 mt) := by have := HSw5.out; simp [World.cell?, this]
  go_wp2_with fail
  refine ch.mono ?_
  rintro e w6 ⟨rfl, bw6⟩
  have PFw6 : Hid (PF w6 w.heap.size 33 ⟨0, 0, 0, 0, false, ⟨#[]⟩, zn, []⟩ (.slice none 0 0)) := PFw5.out.kept bw6
  have HSw6 : Hid (w6.heap[w4.heap.size]? = some (.cells #[.int .i64 pk, .int .i64 mt] 57 (0, 0))) := blk_kept HSw5.out bw6 (blk_lt HSw5.out)
  have Bw6 : Hid (Below w.heap.size w w6) := Bw5.out.trans (bw6.mono Bw5.out.size)
  have RDw6 : Hid (Fi.Rd w6 g s ([] : List Int) 3) := RDw5.out.kept bw6
  clear ch bw6 s0 s1 PFw5 HSw5 Bw5 RDw5
  have ch := CN.out w6
  have s0 : w6.cell? ⟨w4.heap.size, 0, none⟩ = some (.int .i64 pk) := by have := HSw6.out; simp [World.cell?, this]
  have s1 : w6.cell? ⟨w4.heap.size, 1, none⟩ = some (.int .i64 mt) := by have := HSw6.out; simp [World.cell?, this]
  go_wp2_with fail
  refine ch.mono ?_
  rintro e w7 ⟨rfl, bw7⟩
  have PFw7 : Hid (PF w7 w.heap.size 33 ⟨0, 0, 0, 0, false, ⟨#[]⟩, zn, []⟩ (.slice none 0 0)) := PFw6.out.kept bw7
  have HSw7 : Hid (w7.heap[w4.heap.size]? = some (.cells #[.int .i64 pk, .int .i64 mt] 57 (0, 0))) := blk_kept HSw6.out bw7 (blk_lt HSw6.out)
  have Bw7 : Hid (Below w.heap.size w w7) := Bw6.out.trans (bw7.mono Bw6.out.size)
  have RDw7 : Hid (Fi.Rd w7 g s ([] : List Int) 3) := RDw6.out.kept bw7
  clear ch bw7 s0 s1 PFw6 HSw6 Bw6 RDw6
  have ch := CF.out w7
  have s0 : w7.cell? ⟨w4.heap.size, 0, none⟩ = some (.int .i64 pk) := by have := HSw7.out; simp [World.cell?, this]
  have s1 : w7.cell? ⟨w4.heap.size, 1, none⟩ = some (.int .i64 mt) := by have := HSw7.out; simp [World.cell?, this]
  go_wp2_with fail
  refine ch.mono ?_
  rintro e w8 ⟨rfl, bw8⟩
  have PFw8 : Hid (PF w8 w.heap.size 33 ⟨0, 0, 0, 0, false, ⟨#[]⟩, zn, []⟩ (.slice none 0 0)) := PFw7.out.kept bw8
  have HSw8 : Hid (w8.heap[w4.heap.size]? = some (.cells #[.int .i64 pk, .int .i64 mt] 57 (0, 0))) := blk_kept HSw7.out bw8 (blk_lt HSw7.out)
  have Bw8 : Hid (Below w.heap.size w w8) := Bw7.out.trans (bw8.mono Bw7.out.size)
  have RDw8 : Hid (Fi.Rd w8 g s ([] : List Int) 3) := RDw7.out.kept bw8
  clear ch bw8 s0 s1 PFw7 HSw7 Bw7 RDw7
  have ch := CC.out w8
  have s0 : w8.cell? ⟨w4.heap.size, 0, none⟩ = some (.int .i64 pk) := by have := HSw8.out; simp [World.cell?, this]
  have s1 : w8.cell? ⟨w4.heap.size, 1, none⟩ = some (.int .i64 mt) := by have := HSw8.out; simp [World.cell?, this]
  go_wp2_with fail
  refine ch.mono ?_
  rintro e w9 ⟨rfl, bw9⟩
  have PFw9 : Hid (PF w9 w.heap.size 33 ⟨0, 0, 0, 0, false, ⟨#[]⟩, zn, []⟩ (.slice none 0 0)) := PFw8.out.kept bw9
  have HSw9 : Hid (w9.heap[w4.heap.size]? = some (.cells #[.int .i64 pk, .int .i64 mt] 57 (0, 0))) := blk_kept HSw8.out bw9 (blk_lt HSw8.out)
  have Bw9 : Hid (Below w.heap.size w w9) := Bw8.out.trans (bw9.mono Bw8.out.size)
  have RDw9 : Hid (Fi.Rd w9 g s ([] : List Int) 3) := RDw8.out.kept bw9
  clear ch bw9 s0 s1 PFw8 HSw8 Bw8 RDw8
  have ch := CO.out w9
  have s0 : w9.cell? ⟨w4.heap.size, 0, none⟩ = some (.int .i64 pk) := by have := HSw9.out; simp [World.cell?, this]
  have s1 : w9.cell? ⟨w4.heap.size, 1, none⟩ = some (.int .i64 mt) := by have := HSw9.out; simp [World.cell?, this]
  go_wp2_with fail
  refine ch.mono ?_
  rintro e w10 ⟨rfl, bw10⟩
  have PFw10 : Hid (PF w10 w.heap.size 33 ⟨0, 0, 0, 0, false, ⟨#[]⟩, zn, []⟩ (.slice none 0 0)) := PFw9.out.kept bw10
  have HSw10 : Hid (w10.heap[w4.heap.size]? = some (.cells #[.int .i64 pk, .int .i64 mt] 57 (0, 0))) := blk_kept HSw9.out bw10 (blk_lt HSw9.out)
  have Bw10 : Hid (Below w.heap.size w w10) := Bw9.out.trans (bw10.mono Bw9.out.size)
  have RDw10 : Hid (Fi.Rd w10 g s ([] : List Int) 3) := RDw9.out.kept bw10
  clear ch bw10 s0 s1 PFw9 HSw9 Bw9 RDw9
  have ch := CT.out w10
  have s0 : w10.cell? ⟨w4.heap.size, 0, none⟩ = some (.int .i64 pk) := by have := HSw10.out; simp [World.cell?, this]
  have s1 : w10.cell? ⟨w4.heap.size, 1, none⟩ = some (.int .i64 mt) := by have := HSw10.out; simp [World.cell?, this]
  go_wp2_with fail
  refine ch.mono ?_
  rintro e w11 ⟨rfl, bw11⟩
  have PFw11 : Hid (PF w11 w.heap.size 33 ⟨0, 0, 0, 0, false, ⟨#[]⟩, zn, []⟩ (.slice none 0 0)) := PFw10.out.kept bw11
  have HSw11 : Hid (w11.heap[w4.heap.size]? = some (.cells #[.int .i64 pk, .int .i64 mt] 57 (0, 0))) := blk_kept HSw10.out bw11 (blk_lt HSw10.out)
  have Bw11 : Hid (Below w.heap.size w w11) := Bw10.out.trans (bw11.mono Bw10.out.size)
  have RDw11 : Hid (Fi.Rd w11 g s ([] : List Int) 3) := RDw10.out.kept bw11
  clear ch bw11 s0 s1 PFw10 HSw10 Bw10 RDw10
  have cx := fault_any g s ([] : List Int) 3 w11 RDw11.out
  go_wp2_with fail
  refine cx.mono ?_
  rintro e wq ⟨rfl, eq⟩
  rw [eq]
  clear cx eq wq
  have tx0 : (fltE 3 != 0) = true := by decide
  have HE : Hid (ahM (([] : List Int)) = errM 3) := ahM_nil
  have hf3 : fltE 3 = 3 := by decide
  rw [hf3]
  have NLw11 : Hid ((⟨0, 0, 0, 0, false, ⟨#[]⟩, zn, []⟩ : Fm).nc.length = 16) := rfl
  go_wp2_with (refine wpList_store_row rfl 33 _ _ rfl w.heap.size (plA Fm.zero (.slice none 0 0)) rfl rfl 33 _ PFw11.out (infoP.trans (by rw [plA_size rfl])) (by first | rfl | (rw [plA_size NLw11.out, plA_size rfl])) (all_oneCell_toArray (plL_one rfl)) (Hid.out ?_))
  unfold Hid
  go_wp2
  refine bodyPost_ret (ret_ctt rfl (setRow_heap _ _ _ _ _ _ PFw11.out) (infoP.trans (by rw [plA_size rfl]))) rfl ?_
  exact ⟨.slice none 0 0, by rw [HE.out]; rfl, by rw [HE.out]; exact RI.nil _ _ _ _, below_setRow Bw11.out (Nat.le_refl _) _⟩
set_option maxHeartbeats 8000000 in
theorem ahdB (v : Value) (x : Int) (ys : List Int) (hx : isK x = false) (w : World) (ht : Tb w) (h : Sl w v (x :: ys)) (hl : (x :: ys).length ≤ 100000) :
    Calls Tryz.prog 36 #[v] w fun e w' => ∃ sv, e = .returned (.tuple #[.agg (plA (ahM (x :: ys)).1 sv), .int .i64 (ahM (x :: ys)).2.1, .int .i64 (ahM (x :: ys)).2.2]) ∧ RSp w' w.heap.size sv (ahM (x :: ys)).1.sp ∧ Below w.heap.size w w' := by
  obtain ⟨W1, hW1⟩ : ∃ W1, W1 = w.alloc (.cells #[.int .u8 0, .int .i64 0, .int .i64 0, .int .i64 0, .bool false, .string ⟨#[]⟩, .int .u8 0, .int .u8 0, .int .u8 0, .int .u8 0, .int .u8 0, .int .u8 0, .int .u8 0, .int .u8 0, .int .u8 0, .int .u8 0, .int .u8 0, .int .u8 0, .int .u8 0, .int .u8 0, .int .u8 0, .int .u8 0, .slice none 0 0] 33) := ⟨_, rfl⟩
  have b1 : Below w.heap.size w W1 := by rw [hW1]; exact al_below _ _
  have g1 : PF W1 w.heap.size 33 Fm.zero (.slice none 0 0) := by rw [hW1]; exact heap_alloc_new _ _
  have z1 : W1.heap.size = w.heap.size + 1 := by rw [hW1]; simp
  have cn := Fi.new_any v (x :: ys) W1 (ht.next b1).v (fsl (h.kept b1)) (by omega)
  obtain ⟨a, c, rfl, hlc, hcm, hnn, -⟩ := id h
  have HT : Hid (Tb w) := ht
  have HSL : Hid (Sl w (.slice a (x :: ys).length c) (x :: ys)) := h
  have HB1 : Hid (Below w.heap.size w W1) := b1
  have HP1 : Hid (PF W1 w.heap.size 33 Fm.zero (.slice none 0 0)) := g1
  have hpos := ht.pos
  clear ht h b1 g1
  obtain ⟨n, hn⟩ : ∃ n, n = (x :: ys).length := ⟨_, rfl⟩
  have HN : Hid (n = (x :: ys).length) := hn
  rw [← hn] at hl cn hlc ⊢
  clear hn
  go_enter Tryz.func36, Tryz.ntmps36
  go_upto_region 1 with fail
  rw [← hW1]
  clear hW1
  go_wp2_with fail
  refine cn.mono ?_
  rintro e w2 ⟨g, s, rfl, hg1, hg2, hs, rd2, b2⟩
  have HG : Hid (g ≠ w.heap.size ∧ s ≠ w.heap.size ∧ w.heap.size < g ∧ 2 ≤ g) := ⟨by omega, by omega, by omega, by omega⟩
  have HGZ : Hid (g < w2.heap.size ∧ s < w2.heap.size) := ⟨hg2, by omega⟩
  have B2 : Hid (Below w.heap.size w w2) := HB1.out.trans (b2.mono HB1.out.size)
  have PF2 : Hid (PF w2 w.heap.size 33 Fm.zero (.slice none 0 0)) := HP1.out.kept b2
  have cb := rdByte g s (x :: ys) 0 w2 rd2
  rw [rBt_cons] at cb
  clear cn hg1 hg2 hs rd2 b2 HB1 HP1 z1
  go_wp2_with fail
  refine cb.mono ?_
  rintro e w3 ⟨rfl, rd3, bt3⟩
  have PF3 : Hid (PF w3 w.heap.size 33 Fm.zero (.slice none 0 0)) := PF2.out.bt bt3 (Ne.symm HG.out.1)
  have B3 : Hid (Below w.heap.size w w3) := bt3.below B2.out (Nat.le_of_lt HG.out.2.2.1) B2.out.size
  have k0 := (PF3.out.pc rfl).c0
  have k1 := PF3.out.frz 0
  obtain ⟨w4, hw4⟩ : ∃ w4, w4 = w3.setCell ⟨w.heap.size, 0, none⟩ (.int .u8 x) := ⟨_, rfl⟩
  have PFw4 : Hid (PF w4 w.heap.size 33 ⟨x, 0, 0, 0, false, ⟨#[]⟩, zn, []⟩ (.slice none 0 0)) := by unfold Hid; rw [hw4]; exact PF3.out.set 0 _ rfl
  have Bw4 : Hid (Below w.heap.size w w4) := by unfold Hid; rw [hw4]; exact bt_set B3.out (Nat.le_refl _)
  have RDw4 : Hid (Fi.Rd w4 g s ys 0) := by unfold Hid; rw [hw4]; exact rd_set rd3 HG.out.1 HG.out.2.1
  have Zw4 : Hid (w2.heap.size ≤ w4.heap.size) := by unfold Hid; rw [hw4]; simpa [World.setCell] using bt3.size
  clear cb rd3 bt3 B2 PF2
  go_upto_region 3 with fail
  rw [← hw4]
  clear hw4 k0 k1 PF3 B3
  have ce := Fi.err_any g s ys 0 w4 RDw4.out
  have k0 := (PFw4.out.pc rfl).c0
  have ci := isK_any x w4
  rw [hx] at ci
  have HX : Hid (isK x = false) := hx
  clear hx
  go_wp2_with fail
  refine ce.mono ?_
  rintro e wq ⟨rfl, eq⟩
  rw [eq]
  clear ce eq wq
  go_wp2_with fail
  refine ci.mono ?_
  rintro e wq ⟨rfl, eq⟩
  rw [eq]
  clear ci eq wq
  have HE : Hid (ahM (x :: ys) = errM 9) := ahM_bad x ys HX.out
  have NLw4 : Hid ((⟨x, 0, 0, 0, false, ⟨#[]⟩, zn, []⟩ : Fm).nc.length = 16) := rfl
  go_wp2_with (refine wpList_store_row rfl 33 _ _ rfl w.heap.size (plA Fm.zero (.slice none 0 0)) rfl rfl 33 _ PFw4.out (infoP.trans (by rw [plA_size rfl])) (by first | rfl | (rw [plA_size NLw4.out, plA_size rfl])) (all_oneCell_toArray (plL_one rfl)) (Hid.out ?_))
  unfold Hid
  go_wp2
  refine bodyPost_ret (ret_ctt rfl (setRow_heap _ _ _ _ _ _ PFw4.out) (infoP.trans (by rw [plA_size rfl]))) rfl ?_
  exact ⟨.slice none 0 0, by rw [HE.out]; rfl, by rw [HE.out]; exact RI.nil _ _ _ _, below_setRow Bw4.out (Nat.le_refl _) _⟩
end Go.Proofs.YtmplpdjkhdaniaaGreatDoor
