/-
  What Get reads.
-/
import Derived.Test.YtmplpdjkhdaniaaGreatDoorWbf
namespace Go.Proofs.YtmplpdjkhdaniaaGreatDoor
open Go.RowKit Go.Shelf
set_option maxRecDepth 100000

theorem rd_blk {w w' : World} {g s : Nat} {xs : List Int} {e : Int} (h : Fi.Rd w g s xs e) (hg : w'.heap[g]? = w.heap[g]?) (hs : w'.heap[s]? = w.heap[s]?) : Fi.Rd w' g s xs e := by
  obtain ⟨a, cap, c0, c1, f0, f1, l1, l2, r, n, k, b⟩ := h
  refine ⟨a, cap, (World.cell?_of_block (a := ⟨g, 0, none⟩) hg).trans c0, (World.cell?_of_block (a := ⟨g, 1, none⟩) hg).trans c1, (World.frozen?_of_block (a := ⟨g, 0, none⟩) hg).trans f0, (World.frozen?_of_block (a := ⟨g, 1, none⟩) hg).trans f1, l1, l2, ?_, n, k, b⟩
  rcases r with h | ⟨hp, b', off, rfl, hlc, hm, hc, hz⟩
  · exact .inl h
  · exact .inr ⟨hp, b', off, rfl, hlc, hm, fun i hi => (World.cell?_of_block (a := ⟨b', off + i, none⟩) (by
      have e : b' = s := (b ⟨b', off, none⟩ rfl).2
      show w'.heap[b']? = w.heap[b']?
      rw [e]
      exact hs)).trans (hc i hi), hz⟩
theorem Bt.grown {g : Nat} {w a b : World} {o : Option Nat} (h : Bt g w a) (hg : a.grownBy b o) (ho : ∀ k, o = some k → w.heap.size ≤ k) : Bt g w b :=
  ⟨hg.os.trans h.os, hg.tape.trans h.tape, hg.output.trans h.output, Nat.le_trans h.size hg.size, fun k hk hn => (hg.block k (by have := h.size; omega) (fun e => by have := ho k e.symm; omega)).trans (h.block k hk hn)⟩
theorem rd_grown {w w' : World} {g s N : Nat} {xs : List Int} {e : Int} {o : Option Nat} (h : Fi.Rd w g s xs e) (hg : w.grownBy w' o) (ho : ∀ k, o = some k → N ≤ k) (h1 : g < N) (h2 : s < N) (h3 : N ≤ w.heap.size) : Fi.Rd w' g s xs e :=
  rd_blk h (hg.block g (by omega) (fun e => by have := ho g e.symm; omega)) (hg.block s (by omega) (fun e => by have := ho s e.symm; omega))
theorem gsp_bd (xs : List Int) (e tt k : Int) (_ : 0 ≤ k) (h1 : k * 2 ≤ tt) (hb : ∀ i, 0 ≤ xs.getD i 0 ∧ xs.getD i 0 < 256) : 2 * k ≤ (gsp xs e tt k).1.1 ∧ (gsp xs e tt k).1.1 ≤ (gsp xs e tt k).1.2 ∧ (gsp xs e tt k).1.2 = tt := by
  have := rN_bd xs e (tt - k * 2) (by omega) hb
  show 2 * k ≤ tt - (rN xs e (tt - k * 2)).1 ∧ tt - (rN xs e (tt - k * 2)).1 ≤ tt ∧ tt = tt
  exact ⟨by omega, by omega, rfl⟩
/-- What the loop of Get knows. -/
structure GL (A : List Sp × List Int × Int) (w2 wr : World) (g s : Nat) (k : Nat) (v : Value) : Prop where
  ex : ∃ L p xs e, RSp wr w2.heap.size v (L ++ [p]) ∧ Fi.Rd wr g s xs e ∧ glp k L p xs e = A ∧ 2 * (k : Int) ≤ p.1 ∧ p.1 ≤ p.2 ∧ p.2 ≤ 1099511627776 ∧ L.length + k ≤ 63
  bt : Bt g w2 wr
set_option maxHeartbeats 4000000 in
theorem get_any (w : World) (v : Value) (xs : List Int) (hw : Fi.Wid w) (h : Sl w v xs) (hl : xs.length ≤ 9000000000000000000) :
    Calls Tryz.prog 58 #[v] w fun r w' => ∃ v', r = .returned (.tuple #[v', .int .i64 (getP xs).2.1, .int .i64 (getP xs).2.2]) ∧ RSp w' w.heap.size v' (getP xs).1 ∧ Below w.heap.size w w' := by
  obtain ⟨a, c, rfl, hlc, hcm, hnn, -⟩ := id h
  obtain ⟨m, hm⟩ : ∃ m, m = min xs.length 1032 := ⟨_, rfl⟩
  have hxl : (xs.take 1032).length = m := by rw [List.length_take, hm, Nat.min_comm]
  have ht := h.take m (by omega)
  rw [show xs.take m = xs.take 1032 by rcases Nat.le_total xs.length 1032 with q | q
                                       · rw [hm, Nat.min_eq_left q, List.take_length, List.take_of_length_le q]
                                       · rw [hm, Nat.min_eq_right q]] at ht
  have cn := Fi.new_any (.slice a m c) (xs.take 1032) w hw (fsl ht) (by omega)
  have HGP : Hid (getP xs = if (getA (xs.take 1032)).2.2 = 0 then ((getA (xs.take 1032)).1.reverse, (m : Int) - ((getA (xs.take 1032)).2.1.length : Int), 0) else if (getA (xs.take 1032)).2.2 = 3 then ([], 0, 3) else ([], 0, 4)) := by unfold Hid getP; rw [hxl]
  have HW : Hid (Fi.Wid w) := hw
  have emin : min (xs.length : Int) 1032 = (m : Int) := by omega
  have e1 : (m : Int) ≤ (c : Int) := by omega
  have e2 : 0 ≤ (m : Int) := by omega
  have hmx : c ≤ 9223372036854775807 := by unfold maxLen at hcm; omega
  have hna : a = none → m = 0 ∧ c = 0 := fun e => by have := hnn e; omega
  have HXB : Hid (∀ i, 0 ≤ (xs.take 1032).getD i 0 ∧ (xs.take 1032).getD i 0 < 256) := ht.bytes
  have hm2 : m ≤ 1032 := by omega
  clear h ht hw hnn hm
  generalize getP xs = GP at *
  generalize xs.take 1032 = ys at *
  generalize xs.length = n9 at *
  go_enter Tryz.func58, Tryz.ntmps58
  go_upto_region 1 with fail
  go_cut [0] from 10 (fun s0 wx => s0 = .slice a m c ∧ wx = w)
  case first =>
    cases a with
    | none =>
      obtain ⟨rfl, rfl⟩ := hna rfl
      clear hna
      go_wp2
      go_meet
      exact ⟨rfl, rfl⟩
    | some x =>
      clear hna
      go_wp2
      go_meet
      exact ⟨rfl, rfl⟩
  case rest =>
    obtain ⟨rfl, e0⟩ := hcut
    rw [e0]
    clear e0 hna emin e1 e2
    go_wp2_with fail
    refine cn.mono ?_
    rintro e w2 ⟨g, s, rfl, hg1, hg2, hs, rd, b2⟩
    have HB2 : Hid (Below w.heap.size w w2) := b2
    have hw2 := HW.out.below b2 HW.out.pos
    have HGS : Hid (w.heap.size ≤ g ∧ g < w2.heap.size ∧ s < w2.heap.size ∧ 1 < g) := ⟨hg1, hg2, by have := hw2.pos; omega, by have := HW.out.pos; omega⟩
    have c1 := rdNum g s ys 0 1099511627776 w2 hw2 rd
    have bd1 := rN_bd ys 0 1099511627776 (by omega) HXB.out
    have HA : Hid (getA ys = (let b := rN (rN ys 0 1099511627776).2.1 (rN ys 0 1099511627776).2.2 (min 63 ((rN ys 0 1099511627776).1 / 2)); let q := gsp b.2.1 b.2.2 (rN ys 0 1099511627776).1 b.1; glp b.1.toNat [] q.1 q.2.1 q.2.2)) := rfl
    clear cn b2 hg1 hg2 hs rd hw2 HXB
    generalize rN ys 0 1099511627776 = R1 at *
    obtain ⟨n1, y1, e1⟩ := R1
    simp only at c1 bd1 HA
    go_wp2_with fail
    refine c1.mono ?_
    rintro e w3 ⟨rfl, rd3, of3⟩
    have HT3 : Hid (Bt g w2 w3) := Bt.off of3
    have hw3 := wid_bt (HW.out.below HB2.out HW.out.pos) (Bt.off of3) HGS.out.2.2.2
    have c2 := rdNum g s y1 e1 (min 63 (n1 / 2)) w3 hw3 rd3
    have bd2 := rN_bd y1 e1 (min 63 (n1 / 2)) (by omega) bd1.2.2.2
    have t1 : Int.tdiv n1 2 = n1 / 2 := Int.tdiv_eq_ediv_of_nonneg bd1.1
    have t2 : IntKind.i64.wrap (n1 / 2) = n1 / 2 := by rw [IntKind.wrap_i64]; omega
    have hn1 : n1 ≤ 1099511627776 := bd1.2.1
    have hn0 : 0 ≤ n1 := bd1.1
    have hy1 : y1.length ≤ ys.length := bd1.2.2.1
    clear c1 rd3 of3 hw3 bd1
    generalize rN y1 e1 (min 63 (n1 / 2)) = R2 at *
    obtain ⟨n2, y2, e2⟩ := R2
    simp only at c2 bd2 HA
    go_wp2_with fail
    refine c2.mono ?_
    rintro e w4 ⟨rfl, rd4, of4⟩
    have HT4 : Hid (Bt g w2 w4) := HT3.out.trans (Bt.off of4)
    have hw4 := wid_bt (HW.out.below HB2.out HW.out.pos) HT4.out HGS.out.2.2.2
    have hn2 : 0 ≤ n2 := bd2.1
    have hn3 : n2 ≤ 63 := by have := bd2.2.1; omega
    have hn4 : n2 * 2 ≤ n1 := by have := bd2.2.1; omega
    have c3 := spanAhead_any w4 g s y2 e2 n1 n2 hw4 rd4 (by have := HGS.out.2.2.1; have := HT4.out.size; omega) hn2 hn4 hn1
    have bd3 := gsp_bd y2 e2 n1 n2 hn2 hn4 bd2.2.2.2
    clear c2 rd4 of4 hw4 bd2 HT3 t1 t2
    generalize gsp y2 e2 n1 n2 = R3 at *
    obtain ⟨p0, y3, e3⟩ := R3
    simp only at c3 bd3 HA
    go_wp2_with fail
    refine c3.mono ?_
    rintro e w5 ⟨rfl, rd5, bt5⟩
    obtain ⟨k0, hk0⟩ : ∃ k0 : Nat, n2 = k0 := ⟨n2.toNat, by omega⟩
    subst hk0
    rw [Int.toNat_natCast] at HA
    have HGL0 : Hid (GL (getA ys) w2 (w5.alloc (.cells #[.int .i64 p0.1, .int .i64 p0.2] 89)) g s k0 (.slice (some ⟨w5.heap.size, 0, none⟩) 1 1)) := by
      have hz : w2.heap.size ≤ w5.heap.size := Nat.le_trans HT4.out.size bt5.size
      refine ⟨⟨[], p0, y3, e3, ?_, rd5.kept (al_below _ _), by rw [HA.out], bd3.1, bd3.2.1, by rw [bd3.2.2]; exact hn1, by simp; omega⟩, (HT4.out.trans bt5).trans (Bt.of (al_below _ _))⟩
      exact RSp.of ⟨rfl, .inr ⟨w5.heap.size, 1, #[.int .i64 p0.1, .int .i64 p0.2], rfl, hz, heap_alloc_new _ _, Nat.le_refl _, by unfold maxLen; omega, rfl, rfl⟩⟩
    have HK0 : Hid (k0 ≤ 63) := by unfold Hid; omega
    clear c3 rd5 bt5 HA HT4 bd3 hn1 hn0 hn2 hn3 hn4 hy1
    generalize getA ys = GA at *
    go_wp2
    go_loopw [7, 8] (fun lf l wr => ∃ (k : Nat), k ≤ 63 ∧ lf = .int .i64 k ∧ GL GA w2 wr g s k l) (fun lf _ _ => (intOf lf).toNat)
    case atStart => exact ⟨k0, HK0.out, rfl, HGL0.out⟩
    case round =>
      obtain ⟨k, hk, rfl, hgl⟩ := hrel
      obtain ⟨⟨L, p, xs, e, hr, hrd, hglp, hp1, hp2, hp3, hlk⟩, hbt⟩ := hgl
      have HBT : Hid (Bt g w2 wr) := hbt
      have HR : Hid (RSp wr w2.heap.size u8 (L ++ [p])) := hr
      have HRD : Hid (Fi.Rd wr g s xs e) := hrd
      have hwr := wid_bt (HW.out.below HB2.out HW.out.pos) hbt HGS.out.2.2.2
      have hlen : (L ++ [p]).length = L.length + 1 := by simp
      obtain ⟨la, lc, rfl, -, -, -⟩ := hr.is.shape
      by_cases hkz : 0 < k
      · obtain ⟨j, rfl⟩ : ∃ j, k = j + 1 := ⟨k - 1, by omega⟩
        obtain ⟨bb, off, rfl, hrr⟩ := hr.is.at L.length (by rw [hlen]; omega)
        have hat : atS (L ++ [p]) L.length = p := by simp [atS, List.getD]
        rw [hat] at hrr
        have k1 := (spC hrr).1
        have lt1 : (0 : Int) < ((j + 1 : Nat) : Int) := by omega
        have jw : IntKind.i64.wrap (((j + 1 : Nat) : Int) - 1) = (j : Int) := by rw [IntKind.wrap_i64]; omega
        have bnd := rN_bd xs e (p.1 - 2 - (j : Int) * 2) (by omega) (Fi.Rd.bytes hrd)
        have c4 := rdNum g s xs e (p.1 - 2 - (j : Int) * 2) wr hwr hrd
        have HGLP : Hid (GA = glp j (L ++ [p]) (gsp (rN xs e (p.1 - 2 - (j : Int) * 2)).2.1 (rN xs e (p.1 - 2 - (j : Int) * 2)).2.2 (p.1 - 2 - (rN xs e (p.1 - 2 - (j : Int) * 2)).1) j).1 (gsp (rN xs e (p.1 - 2 - (j : Int) * 2)).2.1 (rN xs e (p.1 - 2 - (j : Int) * 2)).2.2 (p.1 - 2 - (rN xs e (p.1 - 2 - (j : Int) * 2)).1) j).2.1 (gsp (rN xs e (p.1 - 2 - (j : Int) * 2)).2.1 (rN xs e (p.1 - 2 - (j : Int) * 2)).2.2 (p.1 - 2 - (rN xs e (p.1 - 2 - (j : Int) * 2)).1) j).2.2) := hglp.symm
        have HP : Hid (p.1 ≤ p.2 ∧ p.2 ≤ 1099511627776 ∧ 2 * ((j + 1 : Nat) : Int) ≤ p.1) := ⟨hp2, hp3, hp1⟩
        rw [hlen] at HR ⊢
        have wl1 : IntKind.i64.wrap (((L.length + 1 : Nat) : Int) - 1) = (L.length : Int) := by rw [IntKind.wrap_i64]; omega
        have wl2 : (L.length : Int) < ((L.length + 1 : Nat) : Int) := by omega
        have wl3 : IntKind.i64.wrap (p.1 - 2) = p.1 - 2 := by rw [IntKind.wrap_i64]; omega
        have wl4 : IntKind.i64.wrap ((j : Int) * 2) = (j : Int) * 2 := by rw [IntKind.wrap_i64]; omega
        have wl5 : IntKind.i64.wrap (p.1 - 2 - (j : Int) * 2) = p.1 - 2 - (j : Int) * 2 := by rw [IntKind.wrap_i64]; omega
        have hb1 := bnd.1
        have hb2 := bnd.2.1
        have HB3 : Hid (∀ i, 0 ≤ (rN xs e (p.1 - 2 - (j : Int) * 2)).2.1.getD i 0 ∧ (rN xs e (p.1 - 2 - (j : Int) * 2)).2.1.getD i 0 < 256) := bnd.2.2.2
        clear hr hrd hglp hwr hat hrr bnd hbt
        obtain ⟨z, hz⟩ : ∃ z, z = L.length := ⟨_, rfl⟩
        have HZ : Hid (z = L.length) := hz
        rw [← hz] at HR hlk k1 wl1 wl2 ⊢
        clear hz hlen
        generalize rN xs e (p.1 - 2 - (j : Int) * 2) = R4 at *
        obtain ⟨n4, y4, e4⟩ := R4
        simp only at c4 hb1 hb2 HB3 HGLP
        have wl6 : IntKind.i64.wrap (p.1 - 2 - n4) = p.1 - 2 - n4 := by rw [IntKind.wrap_i64]; omega
        have hq1 : (j : Int) * 2 ≤ p.1 - 2 - n4 := by omega
        have hq2 : p.1 - 2 - n4 ≤ 1099511627776 := by omega
        go_wp2_with fail
        refine c4.mono ?_
        rintro e w6 ⟨rfl, rd6, of6⟩
        have HT6 : Hid (Bt g w2 w6) := HBT.out.trans (Bt.off of6)
        have HR6 : Hid (RSp w6 w2.heap.size (.slice (some ⟨bb, off, none⟩) (z + 1) lc) (L ++ [p])) := HR.out.bt (Bt.off of6) (fun e => by have := own_ge HR.out _ e; have := HGS.out.2.1; omega)
        have hw6 := wid_bt (HW.out.below HB2.out HW.out.pos) HT6.out HGS.out.2.2.2
        have hs6 : s < w6.heap.size := Nat.lt_of_lt_of_le HGS.out.2.2.1 HT6.out.size
        have c5 := spanAhead_any w6 g s y4 e4 (p.1 - 2 - n4) (j : Int) hw6 rd6 hs6 (by omega) hq1 hq2
        have bd5 := gsp_bd y4 e4 (p.1 - 2 - n4) (j : Int) (by omega) hq1 HB3.out
        clear c4 rd6 of6 hw6 hs6 HR HB3 k1
        generalize gsp y4 e4 (p.1 - 2 - n4) (j : Int) = R5 at *
        obtain ⟨p5, y5, e5⟩ := R5
        simp only at c5 bd5 HGLP
        have HP5 : Hid (2 * (j : Int) ≤ p5.1 ∧ p5.1 ≤ p5.2 ∧ p5.2 ≤ 1099511627776) := ⟨bd5.1, bd5.2.1, by rw [bd5.2.2]; exact hq2⟩
        clear bd5
        go_wp2_with fail
        refine c5.mono ?_
        rintro e w7 ⟨rfl, rd7, bt7⟩
        obtain ⟨W7, hW7⟩ : ∃ W7, W7 = w7.alloc (.cells #[.int .i64 p5.1, .int .i64 p5.2] 89) := ⟨_, rfl⟩
        have b7 : Below w7.heap.size w7 W7 := by rw [hW7]; exact al_below _ _
        have HR7 : Hid (RSp W7 w2.heap.size (.slice (some ⟨bb, off, none⟩) (z + 1) lc) (L ++ [p])) := (HR6.out.bt bt7 (fun e => by have := own_ge HR6.out _ e; have := HGS.out.2.1; omega)).below b7
        have HC7 : Hid (W7.rangeAt w7.heap.size 0 (spc p5)) := by unfold Hid; rw [hW7]; exact sp_new w7 p5
        have HT7 : Hid (Bt g w2 W7) := (HT6.out.trans bt7).trans (Bt.of b7)
        have HD7 : Hid (Fi.Rd W7 g s y5 e5) := rd7.kept b7
        obtain ⟨M, hM⟩ : ∃ M, M = L ++ [p] := ⟨_, rfl⟩
        have HLZ : Hid (M.length = z + 1) := by unfold Hid; rw [hM, List.length_append, List.length_singleton, HZ.out]
        rw [← hM] at HR7 HGLP
        clear c5 rd7 bt7 b7 HR6 HT6 hM
        go_wp2_with (at_builtin; rw [← hW7]; refine wpList_append_sp rfl _ _ rfl w2.heap.size _ M rfl HR7.out w7.heap.size p5 rfl HC7.out (by rw [HLZ.out]; omega) HT7.out.size (Hid.out ?_))
        unfold Hid
        intro v8 w8 r8 g8
        try rw [← hW7] at g8
        clear hW7
        have HT8 : Hid (Bt g w2 w8) := HT7.out.grown g8 (own_ge HR7.out)
        have HD8 : Hid (Fi.Rd w8 g s y5 e5) := rd_grown (N := w2.heap.size) HD7.out g8 (own_ge HR7.out) HGS.out.2.1 HGS.out.2.2.1 HT7.out.size
        have HGLn : Hid (GL GA w2 w8 g s j v8) := ⟨⟨M, p5, y5, e5, r8, HD8.out, HGLP.out.symm, HP5.out.1, HP5.out.2.1, HP5.out.2.2, by rw [HLZ.out]; omega⟩, HT8.out⟩
        obtain ⟨a8, c8, rfl, -, -, -⟩ := r8.is.shape
        have hl8 : (M ++ [p5]).length = z + 2 := by rw [List.length_append, List.length_singleton, HLZ.out]
        rw [hl8] at HGLn ⊢
        clear r8 g8 HD8 HT8 hl8
        go_wp2
        go_roundw
        case rel => exact ⟨j, by omega, rfl, HGLn.out⟩
        case measure => simp [intOf]
      · obtain rfl : k = 0 := by omega
        obtain rfl : GA = (L ++ [p], xs, e) := hglp.symm
        simp only at HGP
        have HBW : Hid (Below w.heap.size w wr) := hbt.below HB2.out HGS.out.1 HB2.out.size
        have ce := Fi.err_any g s xs e wr hrd
        have hnle : w2.heap.size ≤ wr.heap.size := hbt.size
        have hLL : (L ++ [p]).length ≤ 1000 := by rw [hlen]; omega
        have hxm : xs.length ≤ maxLen := by
          obtain ⟨a', cap, c0, c1, f0, f1, l1, l2, -⟩ := hrd
          omega
        have wl : IntKind.i64.wrap ((m : Int) - (xs.length : Int)) = (m : Int) - (xs.length : Int) := by unfold maxLen at hxm; rw [IntKind.wrap_i64]; omega
        clear hglp hwr hlk hp1 hp2 hp3 hkz hxm
        by_cases he : e = 0
        · subst he
          have HG2 : Hid (GP = ((L ++ [p]).reverse, (m : Int) - (xs.length : Int), 0)) := by unfold Hid; rw [HGP.out, if_pos rfl]
          have cr := reverse_any w2.heap.size _ (L ++ [p]) wr hr hLL
          clear HGP hr hrd hbt
          obtain ⟨N, hN⟩ : ∃ N, N = (L ++ [p]).length := ⟨_, rfl⟩
          rw [← hN] at cr hLL HR ⊢
          have hcl : ∀ W, Fi.Rd W g s xs 0 → Calls Tryz.prog 57 #[.pointer (some ⟨g, 0, none⟩)] W fun r w' => r = .returned (.int .i64 xs.length) ∧ w' = W := fun W q => Fi.left_any g s xs 0 W q
          have HCL : Hid (∀ W, Fi.Rd W g s xs 0 → Calls Tryz.prog 57 #[.pointer (some ⟨g, 0, none⟩)] W fun r w' => r = .returned (.int .i64 xs.length) ∧ w' = W) := hcl
          clear hcl hN hlen
          generalize (L ++ [p]).reverse = LR at *
          go_wp2_with fail
          refine ce.mono ?_
          rintro e wq ⟨rfl, eq⟩
          rw [eq]
          clear ce eq wq
          go_wp2_with fail
          refine cr.mono ?_
          rintro e w9 ⟨rfl, r9, g9⟩
          have HR9 : Hid (RSp w9 w.heap.size _ LR) := r9.mono HB2.out.size
          have HB9 : Hid (Below w.heap.size w w9) := (HBT.out.grown g9 (own_ge HR.out)).below HB2.out HGS.out.1 HB2.out.size
          have HD9 : Hid (Fi.Rd w9 g s xs 0) := rd_grown (N := w2.heap.size) HRD.out g9 (own_ge HR.out) HGS.out.2.1 HGS.out.2.2.1 HBT.out.size
          have cl := HCL.out w9 HD9.out
          clear cr r9 g9 HCL HD9 HR HRD
          generalize xs.length = xl at *
          go_wp2_with fail
          refine cl.mono ?_
          rintro e wq ⟨rfl, eq⟩
          rw [eq]
          clear cl eq wq
          go_wp2
          refine bodyPost_ret (results_tmp3 rfl _ _ _ ) rfl ?_
          exact ⟨_, by rw [HG2.out]; rfl, by rw [HG2.out]; exact HR9.out, HB9.out⟩
        · by_cases he3 : e = 3
          · subst he3
            have HG2 : Hid (GP = ([], 0, 3)) := by unfold Hid; rw [HGP.out, if_neg (by decide), if_pos rfl]
            clear HGP hr hrd HRD HR hbt wl he
            go_wp2_with fail
            refine ce.mono ?_
            rintro e wq ⟨rfl, eq⟩
            rw [eq]
            clear ce eq wq
            go_wp2
            refine bodyPost_ret (results_tmp3 rfl _ _ _ ) rfl ?_
            exact ⟨_, by rw [HG2.out]; rfl, by rw [HG2.out]; exact RSp.nil _ _, HBW.out⟩
          · have HG2 : Hid (GP = ([], 0, 4)) := by unfold Hid; rw [HGP.out, if_neg he, if_neg he3]
            have t0 : (e == 0) = false := by simpa using he
            have t3 : (e == 3) = false := by simpa using he3
            clear HGP hr hrd HRD HR hbt wl he he3
            go_wp2_with fail
            refine ce.mono ?_
            rintro e wq ⟨rfl, eq⟩
            rw [eq]
            clear ce eq wq
            go_wp2
            refine bodyPost_ret (results_tmp3 rfl _ _ _ ) rfl ?_
            exact ⟨_, by rw [HG2.out]; rfl, by rw [HG2.out]; exact RSp.nil _ _, HBW.out⟩
end Go.Proofs.YtmplpdjkhdaniaaGreatDoor
