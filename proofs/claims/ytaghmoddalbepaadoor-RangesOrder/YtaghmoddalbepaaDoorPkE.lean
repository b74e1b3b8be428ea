/-
  What Get reads.
  The closed case.
  What the statements of layer 17 share: the listed table gives the walks what they read; what came in.
  Two sets side by side; what the order of spans makes.
  The document's Add.
  A call on both.
  Calls on both, one after another; the gaps put in.
  Bytes that came in.
  The document's Gaps.
  Whether both have the same.
  A fork's own way.
-/
import Derived.Test.YtaghmoddalbepaaDoorRv
import Derived.Test.YtaghmoddalbepaaDoorPu
import Derived.Test.YtaghmoddalbepaaDoorTie
import Derived.Test.YtaghmoddalbepaaDoorCards
import Derived.Carry
import Derived.ChangeMaps5
import Derived.ChangeOld
import Derived.Deep.DeepHandedRow
import Derived.Deep.SlicePairs
import Derived.Deep.Slices
import Derived.Deep.Strs
import Derived.LaidLaws
import Derived.Lib.LaidTab
import Derived.Lib.SmallJoins
import Derived.OpenShut
import Derived.ProofKit
import Derived.Shelf.Vars
import Derived.SizedLaws
import Derived.Stop.LaidErr
import Derived.Test.YtaghmoddalbepaaDoorRd1
import Derived.Maps.AppendAt
import Derived.Laws.AppendOwnNone
import Derived.Laws.ResultCell
namespace Go.Proofs.YtaghmoddalbepaaDoor
open Go.RowKit Go.Shelf
set_option maxRecDepth 100000

theorem rd_blk {w w' : World} {g s : Nat} {xs : List Int} {e : Int} (h : Fi.Rd w g s xs e) (hg : w'.heap[g]? = w.heap[g]?) (hs : w'.heap[s]? = w.heap[s]?) : Fi.Rd w' g s xs e := by
  obtain ⟨a, cap, c0, c1, f0, f1, l1, l2, r, n, k, b⟩ := h
  refine ⟨a, cap, (World.cell?_of_block (a := ⟨g, 0, none⟩) hg).trans c0, (World.cell?_of_block (a := ⟨g, 1, none⟩) hg).trans c1, (World.frozen?_of_block (a := ⟨g, 0, none⟩) hg).trans f0, (World.frozen?_of_block (a := ⟨g, 1, none⟩) hg).trans f1, l1, l2, ?_, n, k, b⟩
  rcases r with h | ⟨hp, b', off, rfl, hlc, hm, hc, hz⟩
  · exact .inl h
  · exact .inr ⟨hp, b', off, rfl, hlc, hm, fun i hi => (World.cell?_of_block (a := ⟨b', off + i, none⟩) (by
      have e : b' = s := (b ⟨b', off, none⟩ rfl).2
      show w'.heap[b']? = w.heap[b']?
      rw [e]
      exact hs)).trans (hc i hi), hz⟩
theorem Bt.grown {g : Nat} {w a b : World} {o : Option Nat} (h : Bt g w a) (hg : a.grownBy b o) (ho : ∀ k, o = some k → w.heap.size ≤ k) : Bt g w b :=
  ⟨hg.os.trans h.os, hg.tape.trans h.tape, hg.output.trans h.output, Nat.le_trans h.size hg.size, fun k hk hn => (hg.block k (by have := h.size; omega) (fun e => by have := ho k e.symm; omega)).trans (h.block k hk hn)⟩
theorem rd_grown {w w' : World} {g s N : Nat} {xs : List Int} {e : Int} {o : Option Nat} (h : Fi.Rd w g s xs e) (hg : w.grownBy w' o) (ho : ∀ k, o = some k → N ≤ k) (h1 : g < N) (h2 : s < N) (h3 : N ≤ w.heap.size) : Fi.Rd w' g s xs e :=
  rd_blk h (hg.block g (by omega) (fun e => by have := ho g e.symm; omega)) (hg.block s (by omega) (fun e => by have := ho s e.symm; omega))
theorem gsp_bd (xs : List Int) (e tt k : Int) (_ : 0 ≤ k) (h1 : k * 2 ≤ tt) (hb : ∀ i, 0 ≤ xs.getD i 0 ∧ xs.getD i 0 < 256) : 2 * k ≤ (gsp xs e tt k).1.1 ∧ (gsp xs e tt k).1.1 ≤ (gsp xs e tt k).1.2 ∧ (gsp xs e tt k).1.2 = tt := by
  have := rN_bd xs e (tt - k * 2) (by omega) hb
  show 2 * k ≤ tt - (rN xs e (tt - k * 2)).1 ∧ tt - (rN xs e (tt - k * 2)).1 ≤ tt ∧ tt = tt
  exact ⟨by omega, by omega, rfl⟩
/-- What the loop of Get knows. -/
structure GL (A : List Sp × List Int × Int) (w2 wr : World) (g s : Nat) (k : Nat) (v : Value) : Prop where
  ex : ∃ L p xs e, RSp wr w2.heap.size v (L ++ [p]) ∧ Fi.Rd wr g s xs e ∧ glp k L p xs e = A ∧ 2 * (k : Int) ≤ p.1 ∧ p.1 ≤ p.2 ∧ p.2 ≤ 1099511627776 ∧ L.length + k ≤ 63
  bt : Bt g w2 wr
set_option maxHeartbeats 4000000 in
theorem get_any (w : World) (v : Value) (xs : List Int) (hw : Fi.Wid w) (h : Sl w v xs) (hl : xs.length ≤ 9000000000000000000) :
    Calls Tryd.prog 24 #[v] w fun r w' => ∃ v', r = .returned (.tuple #[v', .int .i64 (getP xs).2.1, .int .i64 (getP xs).2.2]) ∧ RSp w' w.heap.size v' (getP xs).1 ∧ Below w.heap.size w w' := by
  obtain ⟨a, c, rfl, hlc, hcm, hnn, -⟩ := id h
  obtain ⟨m, hm⟩ : ∃ m, m = min xs.length 1032 := ⟨_, rfl⟩
  have hxl : (xs.take 1032).length = m := by rw [List.length_take, hm, Nat.min_comm]
  have ht := h.take m (by omega)
  rw [show xs.take m = xs.take 1032 by rcases Nat.le_total xs.length 1032 with q | q
                                       · rw [hm, Nat.min_eq_left q, List.take_length, List.take_of_length_le q]
                                       · rw [hm, Nat.min_eq_right q]] at ht
  have cn := Fi.new_any (.slice a m c) (xs.take 1032) w hw (fsl ht) (by omega)
  have HGP : Hid (getP xs = if (getA (xs.take 1032)).2.2 = 0 then ((getA (xs.take 1032)).1.reverse, (m : Int) - ((getA (xs.take 1032)).2.1.length : Int), 0) else if (getA (xs.take 1032)).2.2 = 3 then ([], 0, 3) else ([], 0, 4)) := by unfold Hid getP; rw [hxl]
  have HW : Hid (Fi.Wid w) := hw
  have emin : min (xs.length : Int) 1032 = (m : Int) := by omega
  have e1 : (m : Int) ≤ (c : Int) := by omega
  have e2 : 0 ≤ (m : Int) := by omega
  have hmx : c ≤ 9223372036854775807 := by unfold maxLen at hcm; omega
  have hna : a = none → m = 0 ∧ c = 0 := fun e => by have := hnn e; omega
  have HXB : Hid (∀ i, 0 ≤ (xs.take 1032).getD i 0 ∧ (xs.take 1032).getD i 0 < 256) := ht.bytes
  have hm2 : m ≤ 1032 := by omega
  clear h ht hw hnn hm
  generalize getP xs = GP at *
  generalize xs.take 1032 = ys at *
  generalize xs.length = n9 at *
  go_enter Tryd.func24, Tryd.ntmps24
  go_upto_region 1 with fail
  go_cut [0] from 10 (fun s0 wx => s0 = .slice a m c ∧ wx = w)
  case first =>
    cases a with
    | none =>
      obtain ⟨rfl, rfl⟩ := hna rfl
      clear hna
      go_wp2
      go_meet
      exact ⟨rfl, rfl⟩
    | some x =>
      clear hna
      go_wp2
      go_meet
      exact ⟨rfl, rfl⟩
  case rest =>
    obtain ⟨rfl, e0⟩ := hcut
    rw [e0]
    clear e0 hna emin e1 e2
    go_wp2_with fail
    refine cn.mono ?_
    rintro e w2 ⟨g, s, rfl, hg1, hg2, hs, rd, b2⟩
    have HB2 : Hid (Below w.heap.size w w2) := b2
    have hw2 := HW.out.below b2 HW.out.pos
    have HGS : Hid (w.heap.size ≤ g ∧ g < w2.heap.size ∧ s < w2.heap.size ∧ 0 < g) := ⟨hg1, hg2, by have := hw2.pos; omega, by have := HW.out.pos; omega⟩
    have c1 := rdNum g s ys 0 1099511627776 w2 hw2 rd
    have bd1 := rN_bd ys 0 1099511627776 (by omega) HXB.out
    have HA : Hid (getA ys = (let b := rN (rN ys 0 1099511627776).2.1 (rN ys 0 1099511627776).2.2 (min 63 ((rN ys 0 1099511627776).1 / 2)); let q := gsp b.2.1 b.2.2 (rN ys 0 1099511627776).1 b.1; glp b.1.toNat [] q.1 q.2.1 q.2.2)) := rfl
    clear cn b2 hg1 hg2 hs rd hw2 HXB
    generalize rN ys 0 1099511627776 = R1 at *
    obtain ⟨n1, y1, e1⟩ := R1
    simp only at c1 bd1 HA
    go_wp2_with fail
    refine c1.mono ?_
    rintro e w3 ⟨rfl, rd3, of3⟩
    have HT3 : Hid (Bt g w2 w3) := Bt.off of3
    have hw3 := wid_bt (HW.out.below HB2.out HW.out.pos) (Bt.off of3) HGS.out.2.2.2
    have c2 := rdNum g s y1 e1 (min 63 (n1 / 2)) w3 hw3 rd3
    have bd2 := rN_bd y1 e1 (min 63 (n1 / 2)) (by omega) bd1.2.2.2
    have t1 : Int.tdiv n1 2 = n1 / 2 := Int.tdiv_eq_ediv_of_nonneg bd1.1
    have t2 : IntKind.i64.wrap (n1 / 2) = n1 / 2 := by rw [IntKind.wrap_i64]; omega
    have hn1 : n1 ≤ 1099511627776 := bd1.2.1
    have hn0 : 0 ≤ n1 := bd1.1
    have hy1 : y1.length ≤ ys.length := bd1.2.2.1
    clear c1 rd3 of3 hw3 bd1
    generalize rN y1 e1 (min 63 (n1 / 2)) = R2 at *
    obtain ⟨n2, y2, e2⟩ := R2
    simp only at c2 bd2 HA
    go_wp2_with fail
    refine c2.mono ?_
    rintro e w4 ⟨rfl, rd4, of4⟩
    have HT4 : Hid (Bt g w2 w4) := HT3.out.trans (Bt.off of4)
    have hw4 := wid_bt (HW.out.below HB2.out HW.out.pos) HT4.out HGS.out.2.2.2
    have hn2 : 0 ≤ n2 := bd2.1
    have hn3 : n2 ≤ 63 := by have := bd2.2.1; omega
    have hn4 : n2 * 2 ≤ n1 := by have := bd2.2.1; omega
    have c3 := spanAhead_any w4 g s y2 e2 n1 n2 hw4 rd4 (by have := HGS.out.2.2.1; have := HT4.out.size; omega) hn2 hn4 hn1
    have bd3 := gsp_bd y2 e2 n1 n2 hn2 hn4 bd2.2.2.2
    clear c2 rd4 of4 hw4 bd2 HT3 t1 t2
    generalize gsp y2 e2 n1 n2 = R3 at *
    obtain ⟨p0, y3, e3⟩ := R3
    simp only at c3 bd3 HA
    go_wp2_with fail
    refine c3.mono ?_
    rintro e w5 ⟨rfl, rd5, bt5⟩
    obtain ⟨k0, hk0⟩ : ∃ k0 : Nat, n2 = k0 := ⟨n2.toNat, by omega⟩
    subst hk0
    rw [Int.toNat_natCast] at HA
    have HGL0 : Hid (GL (getA ys) w2 (w5.alloc (.cells #[.int .i64 p0.1, .int .i64 p0.2] 58)) g s k0 (.slice (some ⟨w5.heap.size, 0, none⟩) 1 1)) := by
      have hz : w2.heap.size ≤ w5.heap.size := Nat.le_trans HT4.out.size bt5.size
      refine ⟨⟨[], p0, y3, e3, ?_, rd5.kept (al_below _ _), by rw [HA.out], bd3.1, bd3.2.1, by rw [bd3.2.2]; exact hn1, by simp; omega⟩, (HT4.out.trans bt5).trans (Bt.of (al_below _ _))⟩
      exact RSp.of ⟨rfl, .inr ⟨w5.heap.size, 1, #[.int .i64 p0.1, .int .i64 p0.2], rfl, hz, heap_alloc_new _ _, Nat.le_refl _, by unfold maxLen; omega, rfl, rfl⟩⟩
    have HK0 : Hid (k0 ≤ 63) := by unfold Hid; omega
    clear c3 rd5 bt5 HA HT4 bd3 hn1 hn0 hn2 hn3 hn4 hy1
    generalize getA ys = GA at *
    go_wp2
    go_loopw [7, 8] (fun lf l wr => ∃ (k : Nat), k ≤ 63 ∧ lf = .int .i64 k ∧ GL GA w2 wr g s k l) (fun lf _ _ => (intOf lf).toNat)
    case atStart => exact ⟨k0, HK0.out, rfl, HGL0.out⟩
    case round =>
      obtain ⟨k, hk, rfl, hgl⟩ := hrel
      obtain ⟨⟨L, p, xs, e, hr, hrd, hglp, hp1, hp2, hp3, hlk⟩, hbt⟩ := hgl
      have HBT : Hid (Bt g w2 wr) := hbt
      have HR : Hid (RSp wr w2.heap.size u8 (L ++ [p])) := hr
      have HRD : Hid (Fi.Rd wr g s xs e) := hrd
      have hwr := wid_bt (HW.out.below HB2.out HW.out.pos) hbt HGS.out.2.2.2
      have hlen : (L ++ [p]).length = L.length + 1 := by simp
      obtain ⟨la, lc, rfl, -, -, -⟩ := hr.is.shape
      by_cases hkz : 0 < k
      · obtain ⟨j, rfl⟩ : ∃ j, k = j + 1 := ⟨k - 1, by omega⟩
        obtain ⟨bb, off, rfl, hrr⟩ := hr.is.at L.length (by rw [hlen]; omega)
        have hat : atS (L ++ [p]) L.length = p := by simp [atS, List.getD]
        rw [hat] at hrr
        have k1 := (spC hrr).1
        have lt1 : (0 : Int) < ((j + 1 : Nat) : Int) := by omega
        have jw : IntKind.i64.wrap (((j + 1 : Nat) : Int) - 1) = (j : Int) := by rw [IntKind.wrap_i64]; omega
        have bnd := rN_bd xs e (p.1 - 2 - (j : Int) * 2) (by omega) (Fi.Rd.bytes hrd)
        have c4 := rdNum g s xs e (p.1 - 2 - (j : Int) * 2) wr hwr hrd
        have HGLP : Hid (GA = glp j (L ++ [p]) (gsp (rN xs e (p.1 - 2 - (j : Int) * 2)).2.1 (rN xs e (p.1 - 2 - (j : Int) * 2)).2.2 (p.1 - 2 - (rN xs e (p.1 - 2 - (j : Int) * 2)).1) j).1 (gsp (rN xs e (p.1 - 2 - (j : Int) * 2)).2.1 (rN xs e (p.1 - 2 - (j : Int) * 2)).2.2 (p.1 - 2 - (rN xs e (p.1 - 2 - (j : Int) * 2)).1) j).2.1 (gsp (rN xs e (p.1 - 2 - (j : Int) * 2)).2.1 (rN xs e (p.1 - 2 - (j : Int) * 2)).2.2 (p.1 - 2 - (rN xs e (p.1 - 2 - (j : Int) * 2)).1) j).2.2) := hglp.symm
        have HP : Hid (p.1 ≤ p.2 ∧ p.2 ≤ 1099511627776 ∧ 2 * ((j + 1 : Nat) : Int) ≤ p.1) := ⟨hp2, hp3, hp1⟩
        rw [hlen] at HR ⊢
        have wl1 : IntKind.i64.wrap (((L.length + 1 : Nat) : Int) - 1) = (L.length : Int) := by rw [IntKind.wrap_i64]; omega
        have wl2 : (L.length : Int) < ((L.length + 1 : Nat) : Int) := by omega
        have wl3 : IntKind.i64.wrap (p.1 - 2) = p.1 - 2 := by rw [IntKind.wrap_i64]; omega
        have wl4 : IntKind.i64.wrap ((j : Int) * 2) = (j : Int) * 2 := by rw [IntKind.wrap_i64]; omega
        have wl5 : IntKind.i64.wrap (p.1 - 2 - (j : Int) * 2) = p.1 - 2 - (j : Int) * 2 := by rw [IntKind.wrap_i64]; omega
        have hb1 := bnd.1
        have hb2 := bnd.2.1
        have HB3 : Hid (∀ i, 0 ≤ (rN xs e (p.1 - 2 - (j : Int) * 2)).2.1.getD i 0 ∧ (rN xs e (p.1 - 2 - (j : Int) * 2)).2.1.getD i 0 < 256) := bnd.2.2.2
        clear hr hrd hglp hwr hat hrr bnd hbt
        obtain ⟨z, hz⟩ : ∃ z, z = L.length := ⟨_, rfl⟩
        have HZ : Hid (z = L.length) := hz
        rw [← hz] at HR hlk k1 wl1 wl2 ⊢
        clear hz hlen
        generalize rN xs e (p.1 - 2 - (j : Int) * 2) = R4 at *
        obtain ⟨n4, y4, e4⟩ := R4
        simp only at c4 hb1 hb2 HB3 HGLP
        have wl6 : IntKind.i64.wrap (p.1 - 2 - n4) = p.1 - 2 - n4 := by rw [IntKind.wrap_i64]; omega
        have hq1 : (j : Int) * 2 ≤ p.1 - 2 - n4 := by omega
        have hq2 : p.1 - 2 - n4 ≤ 1099511627776 := by omega
        go_wp2_with fail
        refine c4.mono ?_
        rintro e w6 ⟨rfl, rd6, of6⟩
        have HT6 : Hid (Bt g w2 w6) := HBT.out.trans (Bt.off of6)
        have HR6 : Hid (RSp w6 w2.heap.size (.slice (some ⟨bb, off, none⟩) (z + 1) lc) (L ++ [p])) := HR.out.bt (Bt.off of6) (fun e => by have := own_ge HR.out _ e; have := HGS.out.2.1; omega)
        have hw6 := wid_bt (HW.out.below HB2.out HW.out.pos) HT6.out HGS.out.2.2.2
        have hs6 : s < w6.heap.size := Nat.lt_of_lt_of_le HGS.out.2.2.1 HT6.out.size
        have c5 := spanAhead_any w6 g s y4 e4 (p.1 - 2 - n4) (j : Int) hw6 rd6 hs6 (by omega) hq1 hq2
        have bd5 := gsp_bd y4 e4 (p.1 - 2 - n4) (j : Int) (by omega) hq1 HB3.out
        clear c4 rd6 of6 hw6 hs6 HR HB3 k1
        generalize gsp y4 e4 (p.1 - 2 - n4) (j : Int) = R5 at *
        obtain ⟨p5, y5, e5⟩ := R5
        simp only at c5 bd5 HGLP
        have HP5 : Hid (2 * (j : Int) ≤ p5.1 ∧ p5.1 ≤ p5.2 ∧ p5.2 ≤ 1099511627776) := ⟨bd5.1, bd5.2.1, by rw [bd5.2.2]; exact hq2⟩
        clear bd5
        go_wp2_with fail
        refine c5.mono ?_
        rintro e w7 ⟨rfl, rd7, bt7⟩
        obtain ⟨W7, hW7⟩ : ∃ W7, W7 = w7.alloc (.cells #[.int .i64 p5.1, .int .i64 p5.2] 58) := ⟨_, rfl⟩
        have b7 : Below w7.heap.size w7 W7 := by rw [hW7]; exact al_below _ _
        have HR7 : Hid (RSp W7 w2.heap.size (.slice (some ⟨bb, off, none⟩) (z + 1) lc) (L ++ [p])) := (HR6.out.bt bt7 (fun e => by have := own_ge HR6.out _ e; have := HGS.out.2.1; omega)).below b7
        have HC7 : Hid (W7.rangeAt w7.heap.size 0 (spc p5)) := by unfold Hid; rw [hW7]; exact sp_new w7 p5
        have HT7 : Hid (Bt g w2 W7) := (HT6.out.trans bt7).trans (Bt.of b7)
        have HD7 : Hid (Fi.Rd W7 g s y5 e5) := rd7.kept b7
        obtain ⟨M, hM⟩ : ∃ M, M = L ++ [p] := ⟨_, rfl⟩
        have HLZ : Hid (M.length = z + 1) := by unfold Hid; rw [hM, List.length_append, List.length_singleton, HZ.out]
        rw [← hM] at HR7 HGLP
        clear c5 rd7 bt7 b7 HR6 HT6 hM
        go_wp2_with (at_builtin; rw [← hW7]; refine wpList_append_sp rfl _ _ rfl w2.heap.size _ M rfl HR7.out w7.heap.size p5 rfl HC7.out (by rw [HLZ.out]; omega) HT7.out.size (Hid.out ?_))
        unfold Hid
        intro v8 w8 r8 g8
        try rw [← hW7] at g8
        clear hW7
        have HT8 : Hid (Bt g w2 w8) := HT7.out.grown g8 (own_ge HR7.out)
        have HD8 : Hid (Fi.Rd w8 g s y5 e5) := rd_grown (N := w2.heap.size) HD7.out g8 (own_ge HR7.out) HGS.out.2.1 HGS.out.2.2.1 HT7.out.size
        have HGLn : Hid (GL GA w2 w8 g s j v8) := ⟨⟨M, p5, y5, e5, r8, HD8.out, HGLP.out.symm, HP5.out.1, HP5.out.2.1, HP5.out.2.2, by rw [HLZ.out]; omega⟩, HT8.out⟩
        obtain ⟨a8, c8, rfl, -, -, -⟩ := r8.is.shape
        have hl8 : (M ++ [p5]).length = z + 2 := by rw [List.length_append, List.length_singleton, HLZ.out]
        rw [hl8] at HGLn ⊢
        clear r8 g8 HD8 HT8 hl8
        go_wp2
        go_roundw
        case rel => exact ⟨j, by omega, rfl, HGLn.out⟩
        case measure => simp [intOf]
      · obtain rfl : k = 0 := by omega
        obtain rfl : GA = (L ++ [p], xs, e) := hglp.symm
        simp only at HGP
        have HBW : Hid (Below w.heap.size w wr) := hbt.below HB2.out HGS.out.1 HB2.out.size
        have ce := Fi.err_any g s xs e wr hrd
        have hnle : w2.heap.size ≤ wr.heap.size := hbt.size
        have hLL : (L ++ [p]).length ≤ 1000 := by rw [hlen]; omega
        have hxm : xs.length ≤ maxLen := by
          obtain ⟨a', cap, c0, c1, f0, f1, l1, l2, -⟩ := hrd
          omega
        have wl : IntKind.i64.wrap ((m : Int) - (xs.length : Int)) = (m : Int) - (xs.length : Int) := by unfold maxLen at hxm; rw [IntKind.wrap_i64]; omega
        clear hglp hwr hlk hp1 hp2 hp3 hkz hxm
        by_cases he : e = 0
        · subst he
          have HG2 : Hid (GP = ((L ++ [p]).reverse, (m : Int) - (xs.length : Int), 0)) := by unfold Hid; rw [HGP.out, if_pos rfl]
          have cr := reverse_any w2.heap.size _ (L ++ [p]) wr hr hLL
          clear HGP hr hrd hbt
          obtain ⟨N, hN⟩ : ∃ N, N = (L ++ [p]).length := ⟨_, rfl⟩
          rw [← hN] at cr hLL HR ⊢
          have hcl : ∀ W, Fi.Rd W g s xs 0 → Calls Tryd.prog 50 #[.pointer (some ⟨g, 0, none⟩)] W fun r w' => r = .returned (.int .i64 xs.length) ∧ w' = W := fun W q => Fi.left_any g s xs 0 W q
          have HCL : Hid (∀ W, Fi.Rd W g s xs 0 → Calls Tryd.prog 50 #[.pointer (some ⟨g, 0, none⟩)] W fun r w' => r = .returned (.int .i64 xs.length) ∧ w' = W) := hcl
          clear hcl hN hlen
          generalize (L ++ [p]).reverse = LR at *
          go_wp2_with fail
          refine ce.mono ?_
          rintro e wq ⟨rfl, eq⟩
          rw [eq]
          clear ce eq wq
          go_wp2_with fail
          refine cr.mono ?_
          rintro e w9 ⟨rfl, r9, g9⟩
          have HR9 : Hid (RSp w9 w.heap.size _ LR) := r9.mono HB2.out.size
          have HB9 : Hid (Below w.heap.size w w9) := (HBT.out.grown g9 (own_ge HR.out)).below HB2.out HGS.out.1 HB2.out.size
          have HD9 : Hid (Fi.Rd w9 g s xs 0) := rd_grown (N := w2.heap.size) HRD.out g9 (own_ge HR.out) HGS.out.2.1 HGS.out.2.2.1 HBT.out.size
          have cl := HCL.out w9 HD9.out
          clear cr r9 g9 HCL HD9 HR HRD
          generalize xs.length = xl at *
          go_wp2_with fail
          refine cl.mono ?_
          rintro e wq ⟨rfl, eq⟩
          rw [eq]
          clear cl eq wq
          go_wp2
          refine bodyPost_ret (results_tmp3 rfl _ _ _ ) rfl ?_
          exact ⟨_, by rw [HG2.out]; rfl, by rw [HG2.out]; exact HR9.out, HB9.out⟩
        · by_cases he3 : e = 3
          · subst he3
            have HG2 : Hid (GP = ([], 0, 3)) := by unfold Hid; rw [HGP.out, if_neg (by decide), if_pos rfl]
            clear HGP hr hrd HRD HR hbt wl he
            go_wp2_with fail
            refine ce.mono ?_
            rintro e wq ⟨rfl, eq⟩
            rw [eq]
            clear ce eq wq
            go_wp2
            refine bodyPost_ret (results_tmp3 rfl _ _ _ ) rfl ?_
            exact ⟨_, by rw [HG2.out]; rfl, by rw [HG2.out]; exact RSp.nil _ _, HBW.out⟩
          · have HG2 : Hid (GP = ([], 0, 4)) := by unfold Hid; rw [HGP.out, if_neg he, if_neg he3]
            have t0 : (e == 0) = false := by simpa using he
            have t3 : (e == 3) = false := by simpa using he3
            clear HGP hr hrd HRD HR hbt wl he he3
            go_wp2_with fail
            refine ce.mono ?_
            rintro e wq ⟨rfl, eq⟩
            rw [eq]
            clear ce eq wq
            go_wp2
            refine bodyPost_ret (results_tmp3 rfl _ _ _ ) rfl ?_
            exact ⟨_, by rw [HG2.out]; rfl, by rw [HG2.out]; exact RSp.nil _ _, HBW.out⟩
end Go.Proofs.YtaghmoddalbepaaDoor
namespace Go.Proofs.YtaghmoddalbepaaDoor
open Go.RowKit Go.Shelf
set_option maxRecDepth 100000

def l23 : List Sp := [(2, 3), (7, 9)]
theorem l23_canon : Canon l23 := by
  unfold l23
  refine ⟨fun x hx => ?_, ?_⟩
  · simp only [List.mem_cons, List.not_mem_nil, or_false] at hx
    rcases hx with rfl | rfl <;> (unfold Okk; decide)
  · refine List.pairwise_cons.2 ⟨fun y hy => ?_, List.pairwise_singleton _ _⟩
    rw [List.mem_singleton.1 hy]
    decide
theorem put_l23 : putB l23 = [9, 1, 2, 2, 1] := by decide
theorem get_l23 : getP [9, 1, 2, 2, 1] = (l23, 5, 0) := by
  have := getP_put l23_canon (by decide) (by decide) []
  rw [List.append_nil, put_l23] at this
  exact this
theorem su_bt {g : Nat} {w0 w w' : World} {v v' : Value} (h : SU w w' g v v') (b : Bt g w0 w) (ho : ∀ k, v.ownBlock = some k → w0.heap.size ≤ k) : Bt g w0 w' :=
  ⟨h.os.trans b.os, h.tape.trans b.tape, h.output.trans b.output, Nat.le_trans b.size h.size, fun k hk hn => (h.block k (by have := b.size; omega) hn (fun e => by have := ho k e; omega)).trans (b.block k hk hn)⟩
theorem SSp.bt {w w' : World} {g : Nat} {v : Value} {l : List Sp} (h : SSp w v l) (hb : Bt g w w') (hr : ∀ k, rowB v = some k → k < w.heap.size ∧ k ≠ g) : SSp w' v l :=
  h.kt (n := w.heap.size) (X := fun k => k = g) (fun k _ hk hx ho _ => (hb.block k hk hx).trans ho) hr
theorem two_sp (w : World) (x y : Sp) : SSp (w.alloc (.cells #[.int .i64 x.1, .int .i64 x.2, .int .i64 y.1, .int .i64 y.2] 58)) (.slice (some ⟨w.heap.size, 0, none⟩) 2 2) [x, y] :=
  RSp.is (B := 0) (RSp.of ⟨rfl, .inr ⟨w.heap.size, 2, _, rfl, Nat.zero_le _, heap_alloc_new _ _, Nat.le_refl _, by unfold maxLen; omega, rfl, rfl⟩⟩)
set_option maxHeartbeats 4000000 in
theorem awake_any (w : World) (hw : Fi.Wid w) : Calls Tryd.prog 8 #[] w fun e w' => e = .returned (.bool true) ∧ Below w.heap.size w w' := by
  have cn := new_any w
  obtain ⟨w1, hw1⟩ : ∃ w1, w1 = w.alloc (.cells #[.slice none 0 0] 60) := ⟨_, rfl⟩
  have HB1 : Hid (Below w.heap.size w w1) := by unfold Hid; rw [hw1]; exact al_below _ _
  have HS1 : Hid (∀ B, ST w1 B w.heap.size (.slice none 0 0) []) := fun B => by rw [hw1]; exact st_new w B
  have HW : Hid (Fi.Wid w) := hw
  rw [← hw1] at cn
  clear hw hw1
  go_enter Tryd.func8, Tryd.ntmps8
  go_wp2_with fail
  refine cn.mono ?_
  rintro e wq ⟨rfl, eq⟩
  rw [eq]
  clear cn eq wq
  obtain ⟨w2, hw2⟩ : ∃ w2, w2 = w1.alloc (.cells #[.int .i64 2, .int .i64 3, .int .i64 7, .int .i64 9] 58) := ⟨_, rfl⟩
  have b2 : Below w1.heap.size w1 w2 := by rw [hw2]; exact al_below _ _
  have s2 : SSp w2 (.slice (some ⟨w1.heap.size, 0, none⟩) l23.length 2) l23 := by rw [hw2]; exact two_sp w1 (2, 3) (7, 9)
  have HB2 : Hid (Below w.heap.size w w2) := HB1.out.trans (b2.mono HB1.out.size)
  have HS2 : Hid (∀ B, ST w2 B w.heap.size (.slice none 0 0) []) := fun B => (HS1.out B).below b2
  have hz2 : w1.heap.size < w2.heap.size := by rw [hw2]; simp
  have cp := put_yes w2 (some ⟨w1.heap.size, 0, none⟩) 2 l23 (HW.out.below HB2.out HW.out.pos) s2 (fun k hk => by rw [show k = w1.heap.size by simpa [rowB] using hk.symm]; exact hz2) l23_canon (by decide) (by decide)
  rw [put_l23, show l23.length = 2 from rfl] at cp
  clear b2 s2 hz2 HS1 HB1
  go_wp2_with fail
  rw [← hw2]
  clear hw2
  refine cp.mono ?_
  rintro e w3 ⟨v3, rfl, o3, b3⟩
  obtain ⟨a3, c3, rfl⟩ := o3.shape
  have HB3 : Hid (Below w.heap.size w w3) := HB2.out.trans (b3.mono HB2.out.size)
  have HS3 : Hid (∀ B, ST w3 B w.heap.size (.slice none 0 0) []) := fun B => (HS2.out B).below b3
  have HO3 : Hid (Ow w3 w2.heap.size (.slice a3 5 c3) [9, 1, 2, 2, 1]) := o3
  have cg := get_any w3 _ _ (HW.out.below HB3.out HW.out.pos) o3.sl (by decide)
  rw [get_l23] at cg
  simp only [List.length_cons, List.length_nil, Nat.zero_add, Nat.reduceAdd] at cg ⊢
  clear cp o3 b3 HS2
  go_wp2_with fail
  refine cg.mono ?_
  rintro e w4 ⟨v4, rfl, r4, b4⟩
  obtain ⟨a4, c4, rfl, -, -, -⟩ := r4.is.shape
  have HB4 : Hid (Below w.heap.size w w4) := HB3.out.trans (b4.mono HB3.out.size)
  have HS4 : Hid (ST w4 w4.heap.size w.heap.size (.slice none 0 0) []) := (HS3.out _).below b4
  have HO4 : Hid (Ow w4 w2.heap.size (.slice a3 5 c3) [9, 1, 2, 2, 1]) := HO3.out.below b4
  have HR4 : Hid (RSp w4 w3.heap.size (.slice a4 2 c4) l23) := r4
  rw [show l23.length = 2 from rfl]
  have HT4 : Hid (Bt w.heap.size w4 w4) := Bt.refl _ _
  clear cg r4 b4 HO3 HS3
  have ca5 := add_any w4 w4.heap.size w.heap.size (.slice none 0 0) [] 5 7 HS4.out (by decide) HT4.out.size
  rw [show adB [] 5 7 = true by decide, show adP [] 5 7 = [(5, 7)] by decide] at ca5
  go_wp2_with fail
  refine ca5.mono ?_
  rintro e w5 ⟨rfl, v5s, s5, u5⟩
  have HS5 : Hid (ST w5 w4.heap.size w.heap.size v5s [(5, 7)]) := s5
  have HT5 : Hid (Bt w.heap.size w4 w5) := su_bt u5 HT4.out (own_base HS4.out.rs.1)
  clear ca5 s5 u5
  have ca6 := add_any w5 w4.heap.size w.heap.size v5s [(5, 7)] 9 9 HS5.out (by decide) HT5.out.size
  rw [show adB [(5, 7)] 9 9 = true by decide, show adP [(5, 7)] 9 9 = [(5, 7), (9, 9)] by decide] at ca6
  go_wp2_with fail
  refine ca6.mono ?_
  rintro e w6 ⟨rfl, v6s, s6, u6⟩
  have HS6 : Hid (ST w6 w4.heap.size w.heap.size v6s [(5, 7), (9, 9)]) := s6
  have HT6 : Hid (Bt w.heap.size w4 w6) := su_bt u6 HT5.out (own_base HS5.out.rs.1)
  clear ca6 s6 u6
  have ca7 := add_any w6 w4.heap.size w.heap.size v6s [(5, 7), (9, 9)] 8 8 HS6.out (by decide) HT6.out.size
  rw [show adB [(5, 7), (9, 9)] 8 8 = true by decide, show adP [(5, 7), (9, 9)] 8 8 = [(5, 9)] by decide] at ca7
  go_wp2_with fail
  refine ca7.mono ?_
  rintro e w7 ⟨rfl, v7s, s7, u7⟩
  have HS7 : Hid (ST w7 w4.heap.size w.heap.size v7s [(5, 9)]) := s7
  have HT7 : Hid (Bt w.heap.size w4 w7) := su_bt u7 HT6.out (own_base HS6.out.rs.1)
  clear ca7 s7 u7
  have ca8 := add_any w7 w4.heap.size w.heap.size v7s [(5, 9)] 6 9 HS7.out (by decide) HT7.out.size
  rw [show adB [(5, 9)] 6 9 = false by decide, show adP [(5, 9)] 6 9 = [(5, 9)] by decide] at ca8
  go_wp2_with fail
  refine ca8.mono ?_
  rintro e w8 ⟨rfl, v8s, s8, u8⟩
  have HS8 : Hid (ST w8 w4.heap.size w.heap.size v8s [(5, 9)]) := s8
  have HT8 : Hid (Bt w.heap.size w4 w8) := su_bt u8 HT7.out (own_base HS7.out.rs.1)
  clear ca8 s8 u8
  have cl := len_any w8 w4.heap.size w.heap.size v8s [(5, 9)] HS8.out
  go_wp2_with fail
  refine cl.mono ?_
  rintro e wq ⟨rfl, eq⟩
  rw [eq]
  clear cl eq wq
  have cc := countAll_any w8 (some ⟨w.heap.size, 0, none⟩) [(5, 9)] HS8.out.sqA
  rw [show cnt [(5, 9)] = 5 by decide] at cc
  go_wp2_with fail
  refine cc.mono ?_
  rintro e w9 ⟨rfl, b9⟩
  have HT9 : Hid (Bt w.heap.size w4 w9) := HT8.out.trans (Bt.of b9)
  have hgl : w.heap.size < w4.heap.size := Nat.lt_of_lt_of_le (blk_lt HS4.out.sb) (Nat.le_refl _)
  have o9 : Ow w9 w2.heap.size (.slice a3 5 c3) [9, 1, 2, 2, 1] := HO4.out.keep (fun k cs hk hh => (HT9.out.block k (blk_lt hh) (fun e => by
    have := HS4.out.sb
    unfold SB at this
    rw [← e, hh] at this
    cases this)).trans hh)
  have cv := o9.sl.conv
  rw [show strB [9, 1, 2, 2, 1] = (⟨#[9, 1, 2, 2, 1]⟩ : ByteArray) from rfl] at cv
  have r9 : RSp w9 w3.heap.size (.slice a4 2 c4) l23 := HR4.out.keep (fun k cs hk hh => (HT9.out.block k (blk_lt hh) (fun e => by
    have := HS4.out.sb
    unfold SB at this
    rw [← e, hh] at this
    cases this)).trans hh)
  have HR9 : Hid (RSp w9 w3.heap.size (.slice a4 2 c4) l23) := r9
  have HB9 : Hid (Below w.heap.size w w9) := HT9.out.below HB4.out (Nat.le_refl _) HB4.out.size
  clear cc b9 o9 r9 hgl
  obtain ⟨w10, hw10⟩ : ∃ w10, w10 = w9.alloc (.cells #[.int .i64 2, .int .i64 3, .int .i64 7, .int .i64 9] 58) := ⟨_, rfl⟩
  have b10 : Below w9.heap.size w9 w10 := by rw [hw10]; exact al_below _ _
  have s10 : SSp w10 (.slice (some ⟨w9.heap.size, 0, none⟩) 2 2) l23 := by rw [hw10]; exact two_sp w9 (2, 3) (7, 9)
  have cs := rsame_any w10 _ _ l23 l23 (HR9.out.below b10).is s10 (by decide)
  rw [decide_eq_true rfl] at cs
  have HB10 : Hid (Below w.heap.size w w10) := HB9.out.trans (b10.mono HB9.out.size)
  clear b10 s10 HR9 HB9
  go_wp2_with fail
  rw [← hw10]
  clear hw10
  refine cs.mono ?_
  rintro e w11 ⟨rfl, b11⟩
  have HB11 : Hid (Below w.heap.size w w11) := HB10.out.trans (b11.mono HB10.out.size)
  clear cs b11
  go_wp2
  go_ret
  exact ⟨rfl, HB11.out⟩
end Go.Proofs.YtaghmoddalbepaaDoor
namespace Go.Proofs.YtaghmoddalbepaaDoor
open Go.ChangeShapes Go.WideShapes Go.ChangeAt Go.RowKit Go.Deep
set_option maxRecDepth 100000

theorem own : ownKnob Tryd.prog.godebug = none := by kernel_rfl
theorem laidOut : laidOutB Tryd.prog = true := by kernel_rfl
theorem cells3 : Tryd.prog.cellsOf 3 = 1 := by kernel_rfl
theorem cells5 : Tryd.prog.cellsOf 5 = 1 := by kernel_rfl
theorem cells9 : Tryd.prog.cellsOf 9 = 1 := by kernel_rfl
theorem cellsU : Tryd.prog.cellsOf 46 = 1 := by kernel_rfl
theorem gT2 : Tryd.prog.globalNamed "sumpter/varint.widths" = some 0 := by kernel_rfl
theorem tT2 : (Tryd.prog.globals[0]?).map (·.type) = some 103 := by kernel_rfl
theorem cellsT2 : Tryd.prog.cellsOf 103 = 4 := by kernel_rfl
theorem cellsP : Tryd.prog.cellsOf 47 = 2 := by kernel_rfl
theorem cellsA : Tryd.prog.cellsOf 24 = 3 := by kernel_rfl
theorem wi_of {W : World} (h : laidMetH Tryd.prog Rows.rangesOrderRow.laid W) : Fi.Wid W := by
  have t2 : Lib.TabIs Tryd.prog W "sumpter/varint.widths" .i64 [1, 2, 4, 8] := Lib.tabIs_of_head gT2 tT2 Tryd.underlying103 Tryd.underlying3 cells3 cellsT2 h
  exact ⟨t2.cell gT2 0 (by decide), t2.cell gT2 1 (by decide), t2.cell gT2 2 (by decide), t2.cell gT2 3 (by decide)⟩
def widT : Array Value := #[.int .i64 1, .int .i64 2, .int .i64 4, .int .i64 8]
theorem mapM_each {α β : Type} {f : α → Option β} : ∀ (L : List α) (ys : List β), L.mapM f = some ys → ∀ i ∈ L, ∃ y, f i = some y
  | [], _, _ => fun i hi => by cases hi
  | a :: L, ys, h => by
    rw [List.mapM_cons] at h
    simp only [bind, Option.bind_eq_some_iff, pure, Option.some.injEq] at h
    obtain ⟨y, hy, zs, hz, rfl⟩ := h
    intro i hi
    rcases List.mem_cons.1 hi with rfl | hi
    · exact ⟨y, hy⟩
    · exact mapM_each L zs hz i hi
/-- Pairs of numbers. -/
def p16 (x : Int × Int) : List Value := [.int .u16 x.1, .int .u16 x.2]
def okP (x : Int × Int) : Prop := (0 ≤ x.1 ∧ x.1 < 65536) ∧ 0 ≤ x.2 ∧ x.2 < 65536
structure PQ (w : World) (v : Value) (l : List (Int × Int)) : Prop where
  is : IS 2 w v (l.map p16)
  ok : ∀ x ∈ l, okP x
theorem p16_cl (l : List (Int × Int)) : CL 2 (l.map p16) := fun c hc => by
  obtain ⟨x, _, rfl⟩ := List.mem_map.1 hc
  exact ⟨rfl, fun v hv => by simp only [p16, List.mem_cons, List.not_mem_nil, or_false] at hv; rcases hv with rfl | rfl <;> rfl⟩
/-- The cells of a pair that came in. -/
theorem pair_trod {H : Type} {enc : TypeId × Value → H} {W : World} {fuel : Nat} {cs : List Value} {x : DataW H × List MemPlace}
    (h : DataW.trod enc Tryd.prog W 0 (fun _ => true) true fuel 47 cs = some x) (hsz : cs.length = 2) : ∃ a b : Int, cs = p16 (a, b) ∧ okP (a, b) := by
  cases fuel with
  | zero => simp [DataW.trod] at h
  | succ m =>
    rw [DataW.trod_step] at h
    unfold DataW.trodStep at h
    simp only [Tryd.underlying47] at h
    rw [if_pos (by rw [cellsP]; exact hsz)] at h
    simp only [Option.map_eq_some_iff] at h
    obtain ⟨ys, hy, _⟩ := h
    have cell : ∀ i, i < 2 → ∃ a : Int, cs[i]? = some (.int .u16 a) ∧ (Lit.int .u16 a).wf = true := fun i hi => by
      obtain ⟨y, hyi⟩ := mapM_each _ _ hy i (by simpa using hi)
      obtain ⟨a, ea, _, wa⟩ := DataW.trod_int Tryd.underlying46 hyi
      refine ⟨a, ?_, wa⟩
      rw [cellsU, Nat.mul_one] at ea
      have h0 := congrArg (·[0]?) ea
      simpa [List.getElem?_take, List.getElem?_drop] using h0
    obtain ⟨a, ha, wa⟩ := cell 0 (by omega)
    obtain ⟨b, hb, wb⟩ := cell 1 (by omega)
    refine ⟨a, b, ?_, ?_⟩
    · obtain ⟨u, v, rfl⟩ : ∃ u v, cs = [u, v] := by
        match cs, hsz with
        | [u, v], _ => exact ⟨u, v, rfl⟩
      simp at ha hb
      rw [ha, hb]
      rfl
    · have b1 := bounds_u16 wa
      have b2 := bounds_u16 wb
      unfold okP
      simp only
      omega
/-- Pairs that came in. -/
theorem prs_in {H : Type} {enc : TypeId × Value → H} {W : World} {base : Nat} {v : Value} {d : DataW H} {p : List MemPlace}
    (hval : Value.okWide Tryd.prog W .any base 45 v) (h : DataW.Trod enc Tryd.prog W 0 (fun _ => true) true 45 v d p) : ∃ l, PQ W v l := by
  obtain ⟨a0, len0, cap0, rfl⟩ := okWide_slice Tryd.underlying45 hval
  obtain ⟨fuel, hf⟩ := h
  rcases open_slice Tryd.underlying45 hf with ⟨hcs, _⟩ | ⟨x, l, c, m, n, D, Pl, hcs, _, hl, hm, hmm, _, hall⟩
  · simp [Value.cells] at hcs
    obtain ⟨rfl, rfl, rfl⟩ := hcs
    exact ⟨[], ⟨IS.nil 2 W, by simp⟩⟩
  · simp [Value.cells] at hcs
    obtain ⟨rfl, rfl, rfl⟩ := hcs
    simp only [if_true] at hmm
    have each : ∀ i, i < len0 → ∃ q : Int × Int, (∀ j v, (p16 q)[j]? = some v → W.cell? (x.add (i * 2 + j)) = some v) ∧ okP q := by
      intro i hi
      obtain ⟨cs', h1, h2⟩ := hall i (by omega)
      rw [cellsP] at h1
      obtain ⟨_, hlen, hcell⟩ := World.cells?_some h1
      obtain ⟨a, b, rfl, hy⟩ := pair_trod h2 hlen
      refine ⟨(a, b), fun j v hv => ?_, hy⟩
      have hj : j < 2 := (List.getElem?_eq_some_iff.1 hv).1
      have c0 := hcell j (by omega)
      rw [add_add] at c0
      rw [c0]
      simpa using hv
    obtain ⟨q, hq⟩ := choose_lt each
    have hlen : ((List.range len0).map q).length = len0 := by simp
    refine ⟨(List.range len0).map q, ⟨⟨some x, cap0, by rw [List.length_map, hlen], by rw [List.length_map, hlen]; exact hl, hm, (fun e => by cases e), p16_cl _, ?_⟩, fun y hy => ?_⟩⟩
    · rcases Nat.eq_zero_or_pos len0 with h0 | h0
      · subst h0; exact .inl rfl
      · obtain ⟨b, off, spot⟩ := x
        have hspot : spot = none := by simpa [Addr.add] using World.cell?_spot ((hq 0 h0).1 0 _ rfl)
        subst hspot
        refine .inr ⟨b, off, rfl, fun i hi => ?_⟩
        rw [List.length_map, hlen] at hi
        have e : atC (((List.range len0).map q).map p16) i = p16 (q i) := by simp [atC, List.getD, hi]
        rw [e]
        intro j v hv
        have := (hq i hi).1 j v hv
        rw [Addr.add_lit, ← Nat.add_assoc] at this
        exact this
    · obtain ⟨i, hi, rfl⟩ := List.mem_map.1 hy
      exact (hq i (List.mem_range.1 hi)).2
/-- Calls. -/
abbrev Cal := Int × Int × Int
def a3c (x : Cal) : List Value := [.int .u8 x.1, .int .i64 x.2.1, .int .i64 x.2.2]
def okC (x : Cal) : Prop := (0 ≤ x.1 ∧ x.1 < 256) ∧ (-9223372036854775808 ≤ x.2.1 ∧ x.2.1 ≤ 9223372036854775807) ∧ -9223372036854775808 ≤ x.2.2 ∧ x.2.2 ≤ 9223372036854775807
structure CQ (w : World) (v : Value) (l : List Cal) : Prop where
  is : IS 3 w v (l.map a3c)
  ok : ∀ x ∈ l, okC x
theorem a3c_cl (l : List Cal) : CL 3 (l.map a3c) := fun c hc => by
  obtain ⟨x, _, rfl⟩ := List.mem_map.1 hc
  exact ⟨rfl, fun v hv => by simp only [a3c, List.mem_cons, List.not_mem_nil, or_false] at hv; rcases hv with rfl | rfl | rfl <;> rfl⟩
/-- The cells of a call that came in. -/
theorem cal_trod {H : Type} {enc : TypeId × Value → H} {W : World} {fuel : Nat} {cs : List Value} {x : DataW H × List MemPlace}
    (h : DataW.trod enc Tryd.prog W 0 (fun _ => true) true fuel 24 cs = some x) : ∃ y : Cal, cs = a3c y ∧ okC y := by
  obtain ⟨y0, y1, y2, n, -, hl, h0, h1, h2⟩ := trod_struct3 Tryd.underlying24 h
  rw [cellsA] at hl
  obtain ⟨v0, v1, v2, rfl⟩ : ∃ v0 v1 v2, cs = [v0, v1, v2] := by
    match cs, hl with
    | [v0, v1, v2], _ => exact ⟨v0, v1, v2, rfl⟩
  simp only [cells5, cells3] at h0 h1 h2
  obtain ⟨k, e0, _, wk⟩ := DataW.trod_int Tryd.underlying5 h0
  obtain ⟨f, e1, _, wf⟩ := DataW.trod_int Tryd.underlying3 h1
  obtain ⟨t, e2, _, wt⟩ := DataW.trod_int Tryd.underlying3 h2
  simp at e0 e1 e2
  subst e0 e1 e2
  have bk := bounds_u8 wk
  have bf := bounds_i64 wf
  have bt := bounds_i64 wt
  exact ⟨(k, f, t), rfl, by unfold okC; simp only; omega⟩
/-- Calls that came in. -/
theorem cls_in {H : Type} {enc : TypeId × Value → H} {W : World} {base : Nat} {v : Value} {d : DataW H} {p : List MemPlace}
    (hval : Value.okWide Tryd.prog W .any base 22 v) (h : DataW.Trod enc Tryd.prog W 0 (fun _ => true) true 22 v d p) : ∃ l, CQ W v l := by
  obtain ⟨a0, len0, cap0, rfl⟩ := okWide_slice Tryd.underlying22 hval
  obtain ⟨fuel, hf⟩ := h
  rcases open_slice Tryd.underlying22 hf with ⟨hcs, _⟩ | ⟨x, l, c, m, n, D, Pl, hcs, _, hl, hm, hmm, _, hall⟩
  · simp [Value.cells] at hcs
    obtain ⟨rfl, rfl, rfl⟩ := hcs
    exact ⟨[], ⟨IS.nil 3 W, by simp⟩⟩
  · simp [Value.cells] at hcs
    obtain ⟨rfl, rfl, rfl⟩ := hcs
    simp only [if_true] at hmm
    have each : ∀ i, i < len0 → ∃ q : Cal, (∀ j v, (a3c q)[j]? = some v → W.cell? (x.add (i * 3 + j)) = some v) ∧ okC q := by
      intro i hi
      obtain ⟨cs', h1, h2⟩ := hall i (by omega)
      rw [cellsA] at h1
      obtain ⟨_, hlen, hcell⟩ := World.cells?_some h1
      obtain ⟨y, rfl, hy⟩ := cal_trod h2
      refine ⟨y, fun j v hv => ?_, hy⟩
      have hj : j < 3 := (List.getElem?_eq_some_iff.1 hv).1
      have c0 := hcell j (by omega)
      rw [add_add] at c0
      rw [c0]
      simpa using hv
    obtain ⟨q, hq⟩ := choose_lt each
    have hlen : ((List.range len0).map q).length = len0 := by simp
    refine ⟨(List.range len0).map q, ⟨⟨some x, cap0, by rw [List.length_map, hlen], by rw [List.length_map, hlen]; exact hl, hm, (fun e => by cases e), a3c_cl _, ?_⟩, fun y hy => ?_⟩⟩
    · rcases Nat.eq_zero_or_pos len0 with h0 | h0
      · subst h0; exact .inl rfl
      · obtain ⟨b, off, spot⟩ := x
        have hspot : spot = none := by simpa [Addr.add] using World.cell?_spot ((hq 0 h0).1 0 _ rfl)
        subst hspot
        refine .inr ⟨b, off, rfl, fun i hi => ?_⟩
        rw [List.length_map, hlen] at hi
        have e : atC (((List.range len0).map q).map a3c) i = a3c (q i) := by simp [atC, List.getD, hi]
        rw [e]
        intro j v hv
        have := (hq i hi).1 j v hv
        rw [Addr.add_lit, ← Nat.add_assoc] at this
        exact this
    · obtain ⟨i, hi, rfl⟩ := List.mem_map.1 hy
      exact (hq i (List.mem_range.1 hi)).2
/-- A call that came in, by value. -/
theorem cal_in {H : Type} {enc : TypeId × Value → H} {W : World} {base : Nat} {v : Value} {d : DataW H} {p : List MemPlace}
    (hval : Value.okWide Tryd.prog W .any base 24 v) (h : DataW.Trod enc Tryd.prog W 0 (fun _ => true) true 24 v d p) : ∃ r : Cal, v = .agg #[.int .u8 r.1, .int .i64 r.2.1, .int .i64 r.2.2] ∧ okC r := by
  obtain ⟨cs, rfl, hsz⟩ := okWide_struct Tryd.underlying24 hval
  obtain ⟨fuel, hf⟩ := h
  obtain ⟨y, hy, ho⟩ := cal_trod hf
  refine ⟨y, ?_, ho⟩
  congr 1
  apply Array.ext'
  exact hy
end Go.Proofs.YtaghmoddalbepaaDoor
namespace Go.Proofs.YtaghmoddalbepaaDoor
open Go.RowKit Go.Shelf
set_option maxRecDepth 100000

theorem own_ty {w : World} {B : Nat} {v : Value} {l : List Sp} (h : RSp w B v l) {k : Nat} (hk : v.ownBlock = some k) : ∃ cs, w.heap[k]? = some (.cells cs 58 (0, 0)) := by
  rcases h.1.2 with ⟨rfl, _⟩ | ⟨g, cap, cur, rfl, _, hh, _⟩
  · cases hk
  · obtain rfl : g = k := by simpa [Value.ownBlock] using hk
    exact ⟨_, hh⟩
theorem st_su {w w' : World} {B B' g g' : Nat} {v v' u : Value} {l m : List Sp} (h : ST w B g v l) (k : ST w B' g' u m) (hne : g ≠ g') (hd : ∀ i, v.ownBlock = some i → u.ownBlock ≠ some i) (s : SU w w' g v v') :
    ST w' B' g' u m ∧ (∀ i, v'.ownBlock = some i → u.ownBlock ≠ some i) := by
  refine ⟨⟨(s.block g' (blk_lt k.sb) (fun e => hne e.symm) (fun e => ?_)).trans k.sb, k.rs.keep (fun i cs hi hh => (s.block i (blk_lt hh) (fun e => ?_) (fun e => hd i e hi)).trans hh), k.cn, k.ln⟩, fun i hi hu => ?_⟩
  · obtain ⟨cs, e'⟩ := own_ty h.rs e
    have := k.sb
    unfold SB at this
    rw [this] at e'
    cases e'
  · have := h.sb
    unfold SB at this
    rw [← e, hh] at this
    cases this
  · rcases s.own with e | ⟨q, e, hq⟩
    · exact hd i (by rw [← e]; exact hi) hu
    · rw [e] at hi
      cases hi
      have := own_lt k.rs _ hu
      omega
/-- The two ends of a pair. -/
def pf (x : Int × Int) : Int := min x.1 x.2 % 2000
def pt (x : Int × Int) : Int := max x.1 x.2 % 2000
def ad1 (s : List Sp) (x : Int × Int) : List Sp := if pf x ≤ pt x then adP s (pf x) (pt x) else s
def adS (l : List (Int × Int)) (s : List Sp) : List Sp := l.foldl ad1 s
theorem adS_snoc (l : List (Int × Int)) (s : List Sp) (x : Int × Int) : adS (l ++ [x]) s = ad1 (adS l s) x := by unfold adS; rw [List.foldl_append]; rfl
theorem adP_len {s : List Sp} (h : Canon s) (f t : Int) : (adP s f t).length ≤ s.length + 1 := by
  unfold adP
  split
  · next q => exact addL_len s _ _ (fE_bU h (by have := (may_iff _ _).1 q.1; unfold Okk at this; simp only at this; omega))
  · omega
theorem ad1_canon {s : List Sp} (h : Canon s) (x : Int × Int) : Canon (ad1 s x) := by unfold ad1; split; exact adP_canon h _ _; exact h
theorem ad1_len {s : List Sp} (h : Canon s) (x : Int × Int) : (ad1 s x).length ≤ s.length + 1 := by unfold ad1; split; exact adP_len h _ _; omega
theorem pf_bd {x : Int × Int} (_ : okP x) : 0 ≤ pf x ∧ pf x < 2000 ∧ 0 ≤ pt x ∧ pt x < 2000 := by unfold pf pt; omega
theorem ad1_mem {s : List Sp} (h : Canon s) {x : Int × Int} (hx : okP x) (n : Int) : Mem (ad1 s x) n ↔ Mem s n ∨ (pf x ≤ n ∧ n ≤ pt x) := by
  have := pf_bd hx
  unfold ad1
  by_cases q : pf x ≤ pt x
  · rw [if_pos q, adP_mem h (by unfold Okk; simp only; omega)]
  · rw [if_neg q]
    exact ⟨.inl, fun a => a.elim id (fun a => by omega)⟩
theorem adS_spec : ∀ (l : List (Int × Int)) (s : List Sp), Canon s → (∀ x ∈ l, okP x) → Canon (adS l s) ∧ (adS l s).length ≤ s.length + l.length ∧ ∀ n, Mem (adS l s) n ↔ Mem s n ∨ ∃ x ∈ l, pf x ≤ n ∧ n ≤ pt x
  | [], s, h, _ => ⟨h, by simp [adS], fun n => ⟨.inl, fun a => a.elim id (fun ⟨x, hx, _⟩ => by simp at hx)⟩⟩
  | x :: l, s, h, hx => by
    obtain ⟨i1, i2, i3⟩ := adS_spec l (ad1 s x) (ad1_canon h x) (fun y hy => hx y (List.mem_cons_of_mem _ hy))
    have h1 := ad1_len h x
    refine ⟨i1, by rw [List.length_cons]; show (adS l (ad1 s x)).length ≤ _; omega, fun n => ?_⟩
    show Mem (adS l (ad1 s x)) n ↔ _
    rw [i3, ad1_mem h (hx x (List.mem_cons_self ..))]
    constructor
    · rintro ((a | a) | ⟨y, hy, a⟩)
      · exact .inl a
      · exact .inr ⟨x, List.mem_cons_self .., a⟩
      · exact .inr ⟨y, List.mem_cons_of_mem _ hy, a⟩
    · rintro (a | ⟨y, hy, a⟩)
      · exact .inl (.inl a)
      · rcases List.mem_cons.1 hy with rfl | hy
        · exact .inl (.inr a)
        · exact .inr ⟨y, hy, a⟩
theorem adS_rev {l : List (Int × Int)} (h : ∀ x ∈ l, okP x) : adS l [] = adS l.reverse [] := by
  obtain ⟨a1, -, a3⟩ := adS_spec l [] Canon.nil h
  obtain ⟨b1, -, b3⟩ := adS_spec l.reverse [] Canon.nil (fun x hx => h x (List.mem_reverse.1 hx))
  refine canon_ext a1 b1 fun n => ?_
  rw [a3, b3]
  simp only [List.mem_reverse]
/-- Whether a number came. -/
def inS (n : Int) (l : List (Int × Int)) : Bool := l.any fun x => decide (pf x ≤ n) && decide (n ≤ pt x)
theorem inS_snoc (n : Int) (l : List (Int × Int)) (x : Int × Int) : inS n (l ++ [x]) = (inS n l || (decide (pf x ≤ n) && decide (n ≤ pt x))) := by unfold inS; rw [List.any_append]; simp
theorem inS_has {l : List (Int × Int)} (h : ∀ x ∈ l, okP x) (n : Int) : decide (0 < cnt (clip (adS l []) n n)) = inS n l := by
  obtain ⟨a1, -, a3⟩ := adS_spec l [] Canon.nil h
  rw [has_cnt a1, Bool.eq_iff_iff, has_iff, a3]
  unfold inS
  simp only [List.any_eq_true, Bool.and_eq_true, decide_eq_true_eq]
  exact ⟨fun a => a.elim (fun a => absurd a (mem_nil n)) id, .inr⟩
abbrev atQ (l : List (Int × Int)) (i : Nat) : Int × Int := l.getD i (0, 0)
theorem atQ_eq (l : List (Int × Int)) (i : Nat) (h : i < l.length) : atQ l i = l[i] := by simp [atQ, List.getD, List.getElem?_eq_getElem h]
theorem takeQ {l : List (Int × Int)} {j : Nat} (h : j < l.length) : l.take (j + 1) = l.take j ++ [atQ l j] := by rw [atQ_eq l j h, List.take_succ_eq_append_getElem h]
theorem takeR {l : List (Int × Int)} {j : Nat} (h : j < l.length) : l.reverse.take (j + 1) = l.reverse.take j ++ [atQ l (l.length - 1 - j)] := by
  rw [List.take_succ_eq_append_getElem (by rw [List.length_reverse]; exact h), List.getElem_reverse, atQ_eq l _ (by omega)]
theorem PQ.kept {w w' : World} {v : Value} {l : List (Int × Int)} (h : PQ w v l) (hb : Below w.heap.size w w') : PQ w' v l := ⟨h.is.kept hb, h.ok⟩
theorem PQ.at {w : World} {a : Option Addr} {n c : Nat} {l : List (Int × Int)} (h : PQ w (.slice a n c) l) (i : Nat) (hi : i < l.length) : ∃ b off, a = some ⟨b, off, none⟩ ∧ w.cell? ⟨b, off + i * 2, none⟩ = some (.int .u16 (atQ l i).1) ∧ w.cell? ⟨b, off + i * 2 + 1, none⟩ = some (.int .u16 (atQ l i).2) := by
  obtain ⟨b, off, e, hr⟩ := h.is.at i (by rw [List.length_map]; exact hi)
  have e2 : atC (l.map p16) i = p16 (atQ l i) := by simp [atC, atQ, List.getD, List.getElem?_eq_getElem hi]
  rw [e2] at hr
  exact ⟨b, off, e, hr 0 _ rfl, hr 1 _ rfl⟩
theorem PQ.shape {w : World} {v : Value} {l : List (Int × Int)} (h : PQ w v l) : ∃ a c, v = .slice a l.length c := by
  obtain ⟨a, c, e, _⟩ := h.is.shape
  exact ⟨a, c, by rw [List.length_map] at e; exact e⟩
end Go.Proofs.YtaghmoddalbepaaDoor
namespace Go.Proofs.YtaghmoddalbepaaDoor
open Go.RowKit Go.Shelf
set_option maxRecDepth 100000

/-- A span laid behind a row of the call's own; where the row lies is told. -/
theorem wpList_append_spa {w : World} {ops : Array Oper} {rest : List Oper} {o : Oper} {a : Act} {Q : Exit → Act → World → Prop} (hgd : o.guard = none) (s x : Operand)
    (ho : o.op = .call { callee := .builtin .append, args := #[s, x], argTypes := #[28, 28] }) (B : Nat) (v : Value) (l : List Sp) (hs : a.eval s = v) (hown : RSp w B v l) (g : Nat) (y : Sp) (hx : a.eval x = .slice (some ⟨g, 0, none⟩) 1 1) (hc : w.rangeAt g 0 (spc y)) (hbig : l.length ≤ 100000) (hbase : B ≤ w.heap.size)
    (h : ∀ v' w', RSp w' B v' (l ++ [y]) → w.grownBy w' v.ownBlock → (v'.ownBlock = v.ownBlock ∨ v'.ownBlock = some w.heap.size) → wpList Tryd.prog ops Q rest (a.put o.dst v') w') : wpList Tryd.prog ops Q (o :: rest) a w := by
  obtain ⟨i0, hi, hz0, hz1, hz2⟩ := info_parts infoN
  refine wpList_append_own_at w hgd s x 28 ho B 58 i0 (.agg #[.int .i64 0, .int .i64 0]) 2 16 Tryd.underlying28 hi hz0 hz1 hz2 rfl (by decide) v l.length _ hs hown.own ⟨g, 0, none⟩ 1 1 (spc y) hx rfl (fun j u hj => ?_) (by simp [spc, Value.oneCell']) (by unfold maxLen; omega) (by omega) hbase ?_
  · rw [Addr.add_lit]
    exact hc j u hj
  · intro v' w' ho' hg _ hat
    refine h v' w' (RSp.of ?_) hg hat
    rw [List.length_append, List.map_append, List.flatten_append, List.length_singleton]
    simpa using ho'
theorem wpList_append_spb {w : World} {ops : Array Oper} {rest : List Oper} {o : Oper} {a : Act} {Q : Exit → Act → World → Prop} (hgd : o.guard = none) (s x : Operand)
    (ho : o.op = .call { callee := .builtin .append, args := #[s, x], argTypes := #[28, 28] }) (B : Nat) (v u : Value) (l m : List Sp) (hs : a.eval s = v) (hown : RSp w B v l) (hx : a.eval x = u) (hu : RSp w B u m) (hl : l.length ≤ 10000) (hm : m.length ≤ 10000) (hbase : B ≤ w.heap.size)
    (h : ∀ v' w', RSp w' B v' (l ++ m) → w.grownBy w' v.ownBlock → wpList Tryd.prog ops Q rest (a.put o.dst v') w') : wpList Tryd.prog ops Q (o :: rest) a w := by
  obtain ⟨i0, hi, hz0, hz1, hz2⟩ := info_parts infoN
  have huo := hu.own
  rcases huo.2 with ⟨rfl, h0⟩ | ⟨g, c, cur, rfl, -⟩
  · obtain rfl : m = [] := List.length_eq_zero_iff.1 h0
    refine wpList_append_own_none hgd s x 28 ho B 58 i0 2 Tryd.underlying28 hi v l.length _ hs hown.own hx ?_
    refine h v w (by rw [List.append_nil]; exact hown) ⟨rfl, rfl, rfl, Nat.le_refl _, fun _ _ _ => rfl⟩
  · refine wpList_append_own_at w hgd s x 28 ho B 58 i0 (.agg #[.int .i64 0, .int .i64 0]) 2 16 Tryd.underlying28 hi hz0 hz1 hz2 rfl (by decide) v l.length _ hs hown.own ⟨g, 0, none⟩ m.length c ((m.map spc).flatten) hx (flat_len m) (fun j y hj => ?_) (spc_one m) (by unfold maxLen; omega) (by omega) hbase ?_
    · exact huo.cells rfl j y hj
    · intro v' w' ho' hg _ _
      refine h v' w' (RSp.of ?_) hg
      rw [List.length_append, List.map_append, List.flatten_append]
      exact ho'
theorem rsp_grown {w w' : World} {B : Nat} {v : Value} {l : List Sp} {o : Option Nat} (h : RSp w B v l) (hg : w.grownBy w' o) (ho : ∀ k, o = some k → v.ownBlock ≠ some k) : RSp w' B v l :=
  h.keep fun k _ hk hh => (hg.block k (blk_lt hh) (fun e => ho k e.symm hk)).trans hh
abbrev RS4 := List Sp × List Sp × Int × Int
def rst (s : RS4) (x : Sp) : RS4 := if x.2 < s.2.2.1 - 1 then (s.1 ++ [x], s.2) else if s.2.2.2 + 1 < x.1 then (s.1, s.2.1 ++ [x], s.2.2) else (s.1, s.2.1, min s.2.2.1 x.1, max s.2.2.2 x.2)
theorem raS_fold : ∀ (l A B : List Sp) (f t : Int), raS l A B f t = l.foldl rst (A, B, f, t)
  | [], _, _, _, _ => rfl
  | x :: l, A, B, f, t => by
    rw [List.foldl_cons]
    unfold raS rst
    simp only
    split
    · exact raS_fold l _ _ _ _
    · split
      · exact raS_fold l _ _ _ _
      · exact raS_fold l _ _ _ _
def okR (n : Nat) (s : RS4) : Prop := s.1.length ≤ n ∧ s.2.1.length ≤ n ∧ (0 ≤ s.2.2.1 ∧ s.2.2.1 ≤ 1099511627776) ∧ 0 ≤ s.2.2.2 ∧ s.2.2.2 ≤ 1099511627776
theorem rst_ok {n : Nat} {s : RS4} {x : Sp} (h : okR n s) (hx : Okk x) : okR (n + 1) (rst s x) := by
  unfold okR at *
  unfold Okk at hx
  unfold rst
  split
  · simp only [List.length_append, List.length_singleton]; omega
  · split
    · simp only [List.length_append, List.length_singleton]; omega
    · simp only; omega
theorem fold_ok {l : List Sp} (h : ∀ x ∈ l, Okk x) (s0 : RS4) (h0 : okR 0 s0) : ∀ j, j ≤ l.length → okR j ((l.take j).foldl rst s0)
  | 0, _ => by rw [List.take_zero]; exact h0
  | j + 1, hj => by
    rw [take_snoc (by omega), List.foldl_append]
    exact rst_ok (fold_ok h s0 h0 j (by omega)) (h _ (atS_mem l j (by omega)))
set_option maxHeartbeats 1000000 in
theorem radd_no (w : World) (u : Value) (l : List Sp) (f t : Int) (hu : SSp w u l) (hm : may f t = false) :
    Calls Tryd.prog 28 #[.agg #[u], .int .i64 f, .int .i64 t] w fun e w' => e = .returned (.agg #[u]) ∧ Below w.heap.size w w' := by
  obtain ⟨a, c, rfl, -, -, -⟩ := hu.shape
  have cm := fun W => rmay_any f t W
  simp only [hm] at cm
  have HB : Hid (∀ o1 o2, Below w.heap.size w ((w.alloc o1).alloc o2)) := fun o1 o2 => (al_below w o1).alloc (al_below w o1).size o2
  have HH : Hid (((w.alloc (.cells #[.slice a l.length c] 30)).alloc (.cells #[.slice a l.length c] 30)).heap[w.heap.size + 1]? = some (.cells #[.slice a l.length c] 30 (0, 0))) := two_new _ _ _
  clear hu hm
  generalize l.length = n at *
  go_enter Tryd.func28, Tryd.ntmps28
  go_wp2_with fail
  refine (cm _).mono ?_
  rintro e w1 ⟨rfl, rfl⟩
  clear cm
  go_wp2
  exact bodyPost_ret (v := .agg #[.slice a n c]) (results_cell_row rfl _ _ (w.heap.size + 1) 30 #[.slice a n c] (0, 0) _ rfl HH.out Tryd.underlying30 rfl infoR) rfl ⟨rfl, HB.out _ _⟩
set_option maxHeartbeats 4000000 in
theorem radd_yes (w : World) (u : Value) (l : List Sp) (f t : Int) (hu : SSp w u l) (hl : l.length ≤ 1000) (hok : ∀ x ∈ l, Okk x) (hm : may f t = true) :
    Calls Tryd.prog 28 #[.agg #[u], .int .i64 f, .int .i64 t] w fun e w' => ∃ u', e = .returned (.agg #[u']) ∧ RSp w' w.heap.size u' (rAdd l f t) ∧ Below w.heap.size w w' := by
  have o := (may_iff f t).1 hm
  unfold Okk at o
  simp only at o
  obtain ⟨o1, o2, o3⟩ := o
  obtain ⟨a, c, rfl, -, -, -⟩ := hu.shape
  have cm := fun W => rmay_any f t W
  simp only [hm] at cm
  obtain ⟨W0, hW0⟩ : ∃ W0, W0 = (w.alloc (.cells #[.slice a l.length c] 30)).alloc (.cells #[.slice none 0 0] 30) := ⟨_, rfl⟩
  have b0 : Below w.heap.size w W0 := by rw [hW0]; exact (al_below w _).alloc (al_below w _).size _
  have s0 : W0.heap.size = w.heap.size + 2 := by rw [hW0]; simp
  have g0 : W0.heap[w.heap.size]? = some (.cells #[.slice a l.length c] 30 (0, 0)) := by rw [hW0]; exact blk_kept (heap_alloc_new w _) (al_below _ _) (by simp)
  have g1 : W0.heap[w.heap.size + 1]? = some (.cells #[.slice none 0 0] 30 (0, 0)) := by rw [hW0]; exact two_new _ _ _
  have HC0 : Hid (∀ W, Below W0.heap.size W0 W → W.cell? ⟨w.heap.size, 0, none⟩ = some (.slice a l.length c)) := fun W hb => by have := blk_kept g0 hb (blk_lt g0); simp [World.cell?, this]
  have HAT : Hid (∀ j, j < l.length → ∀ W, Below W0.heap.size W0 W → ∃ b off, a = some ⟨b, off, none⟩ ∧ W.cell? ⟨b, off + j * 2, none⟩ = some (.int .i64 (atS l j).1) ∧ W.cell? ⟨b, off + j * 2 + 1, none⟩ = some (.int .i64 (atS l j).2)) := fun j hj W hb => by
    obtain ⟨b, off, e, q⟩ := (hu.kept (b0.trans (hb.mono b0.size))).at j hj
    exact ⟨b, off, e, (spC q).1, (spC q).2⟩
  have HST : Hid (∀ j, j < l.length → (l.take (j + 1)).foldl rst ([], [], f, t) = rst ((l.take j).foldl rst ([], [], f, t)) (atS l j) ∧ Okk (atS l j)) := fun j hj => ⟨by rw [take_snoc hj, List.foldl_append]; rfl, hok _ (atS_mem l j hj)⟩
  have HOK : Hid (∀ j, j ≤ l.length → okR j ((l.take j).foldl rst ([], [], f, t))) := fun j hj => fold_ok hok ([], [], f, t) (by unfold okR; simp; omega) j hj
  have HFN : Hid (raO ((l.take l.length).foldl rst ([], [], f, t)) = rAdd l f t) := by unfold Hid rAdd; rw [List.take_length, raS_fold]
  have HZ : Hid ((l.take 0).foldl rst ([], [], f, t) = ([], [], f, t)) := rfl
  have HEND : Hid (∀ W v m, Below W0.heap.size W0 W → RSp W W0.heap.size v m → W.cell? ⟨w.heap.size + 1, 0, none⟩ = some (.slice none 0 0) ∧ W.frozen? ⟨w.heap.size + 1, 0, none⟩ = false ∧ (W.setCell ⟨w.heap.size + 1, 0, none⟩ v).heap[w.heap.size + 1]? = some (.cells #[v] 30 (0, 0)) ∧ RSp (W.setCell ⟨w.heap.size + 1, 0, none⟩ v) w.heap.size v m ∧ Below w.heap.size w (W.setCell ⟨w.heap.size + 1, 0, none⟩ v)) := fun W v m hb hr => by
    have g := blk_kept g1 hb (blk_lt g1)
    refine ⟨by simp [World.cell?, g], by simp [World.frozen?, g], set_one g, ?_, ?_⟩
    · refine (hr.keep (fun k cs hk hh => ?_)).mono (by omega)
      rw [Below.heap_setCell _ _ _ _ (fun e => by have e' : k = w.heap.size + 1 := e; have := own_ge hr k hk; omega)]
      exact hh
    · exact (b0.trans (hb.mono b0.size)).setCell (by show w.heap.size ≤ w.heap.size + 1; omega) _
  have hw0 := hW0.symm
  clear hu hok b0 g0 g1 hW0 s0 hm
  generalize hF : (fun j => (l.take j).foldl rst ([], [], f, t)) = F at *
  have HF : Hid (∀ j, (l.take j).foldl rst ([], [], f, t) = F j) := fun j => by rw [← hF]
  clear hF
  simp only [HF.out] at HST HFN HZ HOK
  generalize rAdd l f t = C at *
  obtain ⟨n, hn⟩ : ∃ n, n = l.length := ⟨_, rfl⟩
  rw [← hn] at HC0 HAT HST HFN HOK hw0 hl ⊢
  clear hn HF
  go_enter Tryd.func28, Tryd.ntmps28
  go_wp2_with fail
  refine (cm _).mono ?_
  rintro e w1 ⟨rfl, e1⟩
  rw [e1]
  clear cm hw0 e1 w1
  go_wp2
  go_loopw [1, 2, 7, 8, 9] (fun s1 s2 s7 s8 v wr => ∃ j : Nat, j ≤ n ∧ v = .int .i64 j ∧ s1 = .int .i64 (F j).2.2.1 ∧ s2 = .int .i64 (F j).2.2.2 ∧ RSp wr W0.heap.size s7 (F j).1 ∧ RSp wr W0.heap.size s8 (F j).2.1 ∧ (∀ k, s7.ownBlock = some k → s8.ownBlock ≠ some k) ∧ Below W0.heap.size W0 wr) (fun _ _ _ _ v _ => n - (intOf v).toNat)
  case atStart => exact ⟨0, by omega, rfl, by rw [HZ.out], by rw [HZ.out], by rw [HZ.out]; exact RSp.nil _ _, by rw [HZ.out]; exact RSp.nil _ _, (fun k e => by cases e), Below.refl _ _⟩
  case round =>
    obtain ⟨j, hj, rfl, rfl, rfl, hra, hrb, hd, bel⟩ := hrel
    have HB : Hid (Below W0.heap.size W0 wr) := bel
    obtain ⟨va, ca, rfl, -, -, -⟩ := hra.is.shape
    obtain ⟨vb, cb, rfl, -, -, -⟩ := hrb.is.shape
    have HRA : Hid (RSp wr W0.heap.size (.slice va (F j).1.length ca) (F j).1) := hra
    have HRB : Hid (RSp wr W0.heap.size (.slice vb (F j).2.1.length cb) (F j).2.1) := hrb
    have HD : Hid (∀ k, (Value.slice va (F j).1.length ca).ownBlock = some k → (Value.slice vb (F j).2.1.length cb).ownBlock ≠ some k) := hd
    have c0 := HC0.out wr bel
    have HOJ := HOK.out j hj
    clear bel hra hrb hd
    by_cases hjn : j < n
    · have lt2 : (j : Int) < (n : Int) := by omega
      obtain ⟨b, off, rfl, k1, k2⟩ := HAT.out j hjn wr HB.out
      obtain ⟨r1, s2⟩ := HST.out j hjn
      have HS1 : Hid (F (j + 1) = rst (F j) (atS l j)) := r1
      unfold Okk at s2
      clear r1
      generalize atS l j = x at *
      obtain ⟨S, hS⟩ : ∃ S, S = F j := ⟨_, rfl⟩
      rw [← hS] at HRA HRB HD HS1 HOJ ⊢
      clear hS
      obtain ⟨A, B, f1, t1⟩ := S
      unfold okR at HOJ
      simp only at HRA HRB HD HOJ ⊢
      have HS2 : Hid (F (j + 1) = if x.2 < f1 - 1 then (A ++ [x], B, f1, t1) else if t1 + 1 < x.1 then (A, B ++ [x], f1, t1) else (A, B, min f1 x.1, max t1 x.2)) := HS1.out
      clear HS1
      have q1 : IntKind.i64.wrap (f1 - 1) = f1 - 1 := by rw [IntKind.wrap_i64]; omega
      have q2 : IntKind.i64.wrap (t1 + 1) = t1 + 1 := by rw [IntKind.wrap_i64]; omega
      have hla : A.length ≤ 1000 := by omega
      have hlb : B.length ≤ 1000 := by omega
      clear HOJ
      generalize hza : A.length = za at *
      have HZA : Hid (A.length = za) := hza
      generalize hzb : B.length = zb at *
      have HZB : Hid (B.length = zb) := hzb
      clear hza hzb
      obtain ⟨W1, hW1⟩ : ∃ W1, W1 = wr.alloc (.cells #[.int .i64 x.1, .int .i64 x.2] 58) := ⟨_, rfl⟩
      have b1 : Below wr.heap.size wr W1 := by rw [hW1]; exact al_below _ _
      have l1 : W1.heap[wr.heap.size]? = some (.cells #[.int .i64 x.1, .int .i64 x.2] 58 (0, 0)) := by rw [hW1]; exact heap_alloc_new _ _
      have BB1 : Hid (Below W0.heap.size W0 W1) := HB.out.trans (b1.mono HB.out.size)
      have HRA1 : Hid (RSp W1 W0.heap.size (.slice va za ca) A) := HRA.out.below b1
      have HRB1 : Hid (RSp W1 W0.heap.size (.slice vb zb cb) B) := HRB.out.below b1
      have ⟨k5, k6⟩ := loc_cells l1
      clear b1 l1 HRA HRB HB
      have HN3 : Hid (∀ y : Sp, (W1.alloc (.cells #[.int .i64 y.1, .int .i64 y.2] 58)).rangeAt W1.heap.size 0 (spc y)) := fun y => sp_new W1 y
      have HB3 : Hid (∀ o, Below W1.heap.size W1 (W1.alloc o)) := fun o => al_below _ _
      by_cases hlo : x.2 < f1 - 1
      · have d1 : decide (x.2 < f1 - 1) = true := by simpa using hlo
        have HE : Hid (F (j + 1) = (A ++ [x], B, f1, t1)) := by unfold Hid; rw [HS2.out, if_pos hlo]
        clear HS2
        go_upto_region 9 with fail
        rw [← hW1]
        clear hW1 k1 k2
        go_wp2_with (at_builtin; refine wpList_append_spa rfl _ _ rfl W0.heap.size _ A rfl (HRA1.out.below (HB3.out _)) W1.heap.size x rfl (HN3.out x) (by rw [HZA.out]; omega) (Nat.le_trans BB1.out.size (HB3.out _).size) (Hid.out ?_))
        unfold Hid
        intro v4 w4 r4 g4 at4
        have HRB4 : RSp w4 W0.heap.size (.slice vb zb cb) B := rsp_grown (HRB1.out.below (HB3.out _)) g4 (fun k e => HD.out k e)
        have B4 : Below W0.heap.size W0 w4 := below_grw (BB1.out.trans ((HB3.out _).mono BB1.out.size)) (Nat.le_refl _) g4 (fun k hk => own_ge HRA1.out k hk)
        have D4 : ∀ k, v4.ownBlock = some k → (Value.slice vb zb cb).ownBlock ≠ some k := fun k e e2 => by
          rcases at4 with q | q
          · exact HD.out k (q ▸ e) e2
          · rw [q] at e
            cases e
            exact absurd (own_lt HRB1.out _ e2) (by omega)
        obtain ⟨a4, c4, rfl, -, -, -⟩ := r4.is.shape
        have HF4 : Hid (RSp w4 W0.heap.size (.slice a4 (A ++ [x]).length c4) (F (j + 1)).1 ∧ RSp w4 W0.heap.size (.slice vb zb cb) (F (j + 1)).2.1 ∧ (∀ k, (Value.slice a4 (A ++ [x]).length c4).ownBlock = some k → (Value.slice vb zb cb).ownBlock ≠ some k) ∧ Below W0.heap.size W0 w4 ∧ f1 = (F (j + 1)).2.2.1 ∧ t1 = (F (j + 1)).2.2.2) := by unfold Hid; rw [HE.out]; exact ⟨r4, HRB4, D4, B4, rfl, rfl⟩
        clear r4 g4 at4 HRB4 B4 D4 HE HRA1 HRB1
        generalize (A ++ [x]).length = z4 at *
        go_wp2
        go_roundw
        case rel => exact ⟨j + 1, by omega, by go_num, by rw [← HF4.out.2.2.2.2.1], by rw [← HF4.out.2.2.2.2.2], HF4.out.1, HF4.out.2.1, HF4.out.2.2.1, HF4.out.2.2.2.1⟩
        case measure => simp [intOf]; omega
      · by_cases hhi : t1 + 1 < x.1
        · have HE : Hid (F (j + 1) = (A, B ++ [x], f1, t1)) := by unfold Hid; rw [HS2.out, if_neg hlo, if_pos hhi]
          have d1 : decide (x.2 < f1 - 1) = false := by simp; omega
          have d2 : decide (t1 + 1 < x.1) = true := by simpa using hhi
          clear HS2
          go_upto_region 9 with fail
          rw [← hW1]
          clear hW1 k1 k2
          go_wp2_with (at_builtin; refine wpList_append_spa rfl _ _ rfl W0.heap.size _ B rfl (HRB1.out.below (HB3.out _)) W1.heap.size x rfl (HN3.out x) (by rw [HZB.out]; omega) (Nat.le_trans BB1.out.size (HB3.out _).size) (Hid.out ?_))
          unfold Hid
          intro v4 w4 r4 g4 at4
          have HRA4 : RSp w4 W0.heap.size (.slice va za ca) A := rsp_grown (HRA1.out.below (HB3.out _)) g4 (fun k e e2 => HD.out k e2 e)
          have B4 : Below W0.heap.size W0 w4 := below_grw (BB1.out.trans ((HB3.out _).mono BB1.out.size)) (Nat.le_refl _) g4 (fun k hk => own_ge HRB1.out k hk)
          have D4 : ∀ k, (Value.slice va za ca).ownBlock = some k → v4.ownBlock ≠ some k := fun k e2 e => by
            rcases at4 with q | q
            · exact HD.out k e2 (q ▸ e)
            · rw [q] at e
              cases e
              exact absurd (own_lt HRA1.out _ e2) (by omega)
          obtain ⟨a4, c4, rfl, -, -, -⟩ := r4.is.shape
          have HF4 : Hid (RSp w4 W0.heap.size (.slice va za ca) (F (j + 1)).1 ∧ RSp w4 W0.heap.size (.slice a4 (B ++ [x]).length c4) (F (j + 1)).2.1 ∧ (∀ k, (Value.slice va za ca).ownBlock = some k → (Value.slice a4 (B ++ [x]).length c4).ownBlock ≠ some k) ∧ Below W0.heap.size W0 w4 ∧ f1 = (F (j + 1)).2.2.1 ∧ t1 = (F (j + 1)).2.2.2) := by unfold Hid; rw [HE.out]; exact ⟨HRA4, r4, D4, B4, rfl, rfl⟩
          clear r4 g4 at4 HRA4 B4 D4 HE HRA1 HRB1
          generalize (B ++ [x]).length = z4 at *
          go_wp2
          go_roundw
          case rel => exact ⟨j + 1, by omega, by go_num, by rw [← HF4.out.2.2.2.2.1], by rw [← HF4.out.2.2.2.2.2], HF4.out.1, HF4.out.2.1, HF4.out.2.2.1, HF4.out.2.2.2.1⟩
          case measure => simp [intOf]; omega
        · have d1 : decide (x.2 < f1 - 1) = false := by simp; omega
          have d2 : decide (t1 + 1 < x.1) = false := by simp; omega
          have HE : Hid (F (j + 1) = (A, B, min f1 x.1, max t1 x.2)) := by unfold Hid; rw [HS2.out, if_neg hlo, if_neg hhi]
          clear HS2
          go_upto_region 9 with fail
          rw [← hW1]
          clear hW1 k1 k2
          go_wp2_with fail
          go_quiet (fail)
          have B4 : Below W0.heap.size W0 (W1.drewN nq) := BB1.out.trans ((drn W1 nq).mono BB1.out.size)
          have HF4 : Hid (RSp (W1.drewN nq) W0.heap.size (.slice va za ca) (F (j + 1)).1 ∧ RSp (W1.drewN nq) W0.heap.size (.slice vb zb cb) (F (j + 1)).2.1 ∧ (∀ k, (Value.slice va za ca).ownBlock = some k → (Value.slice vb zb cb).ownBlock ≠ some k) ∧ Below W0.heap.size W0 (W1.drewN nq) ∧ min f1 x.1 = (F (j + 1)).2.2.1 ∧ max t1 x.2 = (F (j + 1)).2.2.2) := by unfold Hid; rw [HE.out]; exact ⟨HRA1.out.below (drn W1 nq), HRB1.out.below (drn W1 nq), HD.out, B4, rfl, rfl⟩
          clear B4 HE HRA1 HRB1
          generalize W1.drewN nq = DW at *
          go_wp2
          go_roundw
          case rel => exact ⟨j + 1, by omega, by go_num, by rw [← HF4.out.2.2.2.2.1], by rw [← HF4.out.2.2.2.2.2], HF4.out.1, HF4.out.2.1, HF4.out.2.2.1, HF4.out.2.2.2.1⟩
          case measure => simp [intOf]; omega
    · obtain rfl : j = n := by omega
      have lt2 : ¬ (j : Int) < (j : Int) := by omega
      have HCE : Hid (C = ((F j).1 ++ [((F j).2.2.1, (F j).2.2.2)]) ++ (F j).2.1) := HFN.out.symm
      obtain ⟨S, hS⟩ : ∃ S, S = F j := ⟨_, rfl⟩
      rw [← hS] at HRA HRB HD HOJ HCE ⊢
      clear hS HFN HST HOK
      obtain ⟨A, B, f1, t1⟩ := S
      unfold okR at HOJ
      simp only at HRA HRB HD HOJ HCE ⊢
      have hla : A.length ≤ 1000 := by omega
      have hlb : B.length ≤ 1000 := by omega
      clear HOJ
      generalize hza : A.length = za at *
      have HZA : Hid (A.length = za) := hza
      generalize hzb : B.length = zb at *
      have HZB : Hid (B.length = zb) := hzb
      clear hza hzb
      have HB3 : Hid (∀ o, Below wr.heap.size wr (wr.alloc o)) := fun o => al_below _ _
      go_wp2_with (at_builtin; refine wpList_append_spa rfl _ _ rfl W0.heap.size _ A rfl (HRA.out.below (HB3.out _)) wr.heap.size (f1, t1) rfl (sp_new wr (f1, t1)) (by rw [HZA.out]; omega) (Nat.le_trans HB.out.size (HB3.out _).size) (Hid.out ?_))
      unfold Hid
      intro v4 w4 r4 g4 at4
      have HRB4 : Hid (RSp w4 W0.heap.size (.slice vb zb cb) B) := rsp_grown (HRB.out.below (HB3.out _)) g4 (fun k e => HD.out k e)
      have B4 : Hid (Below W0.heap.size W0 w4) := below_grw (HB.out.trans ((HB3.out _).mono HB.out.size)) (Nat.le_refl _) g4 (fun k hk => own_ge HRA.out k hk)
      have R4 : Hid (RSp w4 W0.heap.size v4 (A ++ [(f1, t1)])) := r4
      obtain ⟨a4, c4, rfl, -, -, -⟩ := r4.is.shape
      have HL4 : Hid ((A ++ [(f1, t1)]).length ≤ 2000) := by unfold Hid; rw [List.length_append, List.length_singleton, HZA.out]; omega
      clear r4 g4 at4 HRA HRB
      generalize A ++ [(f1, t1)] = M at *
      generalize hz4 : M.length = z4 at *
      have HZ4 : Hid (M.length = z4) := hz4
      clear hz4
      go_wp2_with (at_builtin; refine wpList_append_spb rfl _ _ rfl W0.heap.size _ _ M B rfl R4.out rfl HRB4.out (by rw [HZ4.out]; exact Nat.le_trans HL4.out (by omega)) (by rw [HZB.out]; omega) B4.out.size (Hid.out ?_))
      unfold Hid
      intro v5 w5 r5 g5
      have B5 : Hid (Below W0.heap.size W0 w5) := below_grw B4.out (Nat.le_refl _) g5 (fun k hk => own_ge R4.out k hk)
      have R5 : Hid (RSp w5 W0.heap.size v5 C) := by unfold Hid; rw [HCE.out]; exact r5
      clear r5 g5 HCE R4 HRB4
      obtain ⟨e1, e2, e3, e4, e5⟩ := HEND.out w5 _ _ B5.out R5.out
      have HE3 : Hid _ := e3
      have HE4 : Hid _ := e4
      have HE5 : Hid _ := e5
      obtain ⟨a5, c5, rfl, -, -, -⟩ := R5.out.is.shape
      clear e3 e4 e5 HEND R5
      generalize C.length = z at *
      go_wp2
      exact bodyPost_ret (v := .agg #[.slice a5 z c5]) (results_cell_row rfl _ _ (w.heap.size + 1) 30 #[.slice a5 z c5] (0, 0) _ rfl HE3.out Tryd.underlying30 rfl infoR) rfl ⟨_, rfl, HE4.out, HE5.out⟩
end Go.Proofs.YtaghmoddalbepaaDoor
namespace Go.Proofs.YtaghmoddalbepaaDoor
open Go.RowKit Go.Shelf
set_option maxRecDepth 100000

theorem rsp_row {w : World} {B : Nat} {v : Value} {l : List Sp} (h : RSp w B v l) {k : Nat} (hk : rowB v = some k) : B ≤ k ∧ k < w.heap.size := by
  rcases h.1.2 with ⟨rfl, _⟩ | ⟨g, cap, cur, rfl, hb, hh, _⟩
  · cases hk
  · obtain rfl : g = k := by simpa [rowB] using hk
    exact ⟨hb, blk_lt hh⟩
/-- A set and the document's spans, side by side. -/
structure DD (w : World) (B g : Nat) (v u : Value) (l : List Sp) : Prop where
  st : ST w B g v l
  sp : SSp w u l
  lt : ∀ k, rowB u = some k → k < w.heap.size ∧ k ≠ g
  ap : ∀ k, v.ownBlock = some k → rowB u ≠ some k
theorem ssp_su {w w' : World} {g : Nat} {v v' u : Value} {l : List Sp} (h : SSp w u l) (s : SU w w' g v v') (lt : ∀ k, rowB u = some k → k < w.heap.size ∧ k ≠ g) (ap : ∀ k, v.ownBlock = some k → rowB u ≠ some k) : SSp w' u l :=
  h.kt (n := w.heap.size) (X := fun k => k = g ∨ v.ownBlock = some k) (fun k _ hk hx ho _ => (s.block k hk (fun e => hx (.inl e)) (fun e => hx (.inr e))).trans ho) (fun k hk => ⟨(lt k hk).1, fun e => e.elim (lt k hk).2 (fun e => ap k e hk)⟩)
theorem SU.low {w a b : World} {g : Nat} {v v' : Value} (h : SU w a g v v') (hb : Below a.heap.size a b) : SU w b g v v' :=
  ⟨hb.os.trans h.os, hb.tape.trans h.tape, hb.output.trans h.output, Nat.le_trans h.size hb.size, fun k hk hn ho => (hb.block k (Nat.lt_of_lt_of_le hk h.size)).trans (h.block k hk hn ho), h.own⟩
theorem SU.front {w a b : World} {g : Nat} {v v' : Value} (h : SU a b g v v') (hb : Below w.heap.size w a) : SU w b g v v' :=
  ⟨h.os.trans hb.os, h.tape.trans hb.tape, h.output.trans hb.output, Nat.le_trans hb.size h.size, fun k hk hn ho => (h.block k (Nat.lt_of_lt_of_le hk hb.size) hn ho).trans (hb.block k hk), h.own.elim .inl (fun ⟨k, e, hk⟩ => .inr ⟨k, e, Nat.le_trans hb.size hk⟩)⟩
theorem SU.set {w a : World} {g k : Nat} {v v' : Value} (h : SU w a g v v') (hk : w.heap.size ≤ k) (x : Value) : SU w (a.setCell ⟨k, 0, none⟩ x) g v v' :=
  ⟨h.os, h.tape, h.output, by have e : (a.setCell ⟨k, 0, none⟩ x).heap.size = a.heap.size := by simp [World.setCell]
                              rw [e]; exact h.size, fun i hi hn ho => by rw [Below.heap_setCell _ _ _ _ (show i ≠ k by omega)]; exact h.block i hi hn ho, h.own⟩
theorem dd_next {w a b : World} {B g : Nat} {v v' u u' : Value} {l l' : List Sp} (h : DD w B g v u l) (s : SU w a g v v') (t : ST a B g v' l') (hb : Below a.heap.size a b) (hu : SSp b u' l') (hr : rowB u' = rowB u ∨ ∀ k, rowB u' = some k → a.heap.size ≤ k ∧ k < b.heap.size) : DD b B g v' u' l' := by
  have hgl := blk_lt t.sb
  refine ⟨t.below hb, hu, fun k hk => ?_, fun k hk hr2 => ?_⟩
  · rcases hr with e | e
    · have := h.lt k (by rw [← e]; exact hk)
      have := s.size
      have := hb.size
      exact ⟨by omega, by omega⟩
    · have := e k hk
      exact ⟨this.2, by omega⟩
  · have h1 := own_lt t.rs k hk
    rcases hr with e | e
    · rw [e] at hr2
      rcases s.own with q | ⟨i, q, hi⟩
      · exact h.ap k (q ▸ hk) hr2
      · rw [q] at hk
        cases hk
        have := (h.lt _ hr2).1
        omega
    · have := e k hr2
      omega
/-- What a call makes of the spans. -/
def doP (l : List Sp) (a : Cal) : List Sp := if a.1 % 4 = 2 then rmP l a.2.1 a.2.2 else if a.1 % 4 = 3 then trP l a.2.1 else adP l a.2.1 a.2.2
theorem doP_canon {l : List Sp} (h : Canon l) (a : Cal) : Canon (doP l a) := by
  unfold doP
  split
  · exact rmP_canon h _ _
  · split
    · exact trP_canon h _
    · exact adP_canon h _ _
theorem doP_len {l : List Sp} (h : Canon l) (a : Cal) : (doP l a).length ≤ l.length + 2 := by
  unfold doP
  split
  · unfold rmP
    split
    · exact remL_len _ _ _
    · omega
  · split
    · unfold trP; rw [List.length_drop]; omega
    · have := adP_len h a.2.1 a.2.2; omega
def doL (l : List Cal) (s : List Sp) : List Sp := l.foldl doP s
theorem doL_spec : ∀ (l : List Cal) (s : List Sp), Canon s → Canon (doL l s) ∧ (doL l s).length ≤ s.length + 2 * l.length
  | [], s, h => ⟨h, by simp [doL]⟩
  | a :: l, s, h => by
    obtain ⟨i1, i2⟩ := doL_spec l (doP s a) (doP_canon h a)
    have := doP_len h a
    refine ⟨i1, ?_⟩
    rw [List.length_cons]
    show (doL l (doP s a)).length ≤ _
    omega
abbrev atK (l : List Cal) (i : Nat) : Cal := l.getD i (0, 0, 0)
theorem atK_eq (l : List Cal) (i : Nat) (h : i < l.length) : atK l i = l[i] := by simp [atK, List.getD, List.getElem?_eq_getElem h]
theorem takeK {l : List Cal} {j : Nat} (h : j < l.length) : l.take (j + 1) = l.take j ++ [atK l j] := by rw [atK_eq l j h, List.take_succ_eq_append_getElem h]
theorem doL_snoc (l : List Cal) (s : List Sp) (a : Cal) : doL (l ++ [a]) s = doP (doL l s) a := by unfold doL; rw [List.foldl_append]; rfl
/-- The document's Remove, Add, as do asks them. -/
theorem rrem_any (w : World) (u : Value) (l : List Sp) (f t : Int) (hu : SSp w u l) (hl : l.length ≤ 1000) (hc : Canon l) :
    Calls Tryd.prog 26 #[.agg #[u], .int .i64 f, .int .i64 t] w fun e w' => ∃ u', e = .returned (.agg #[u']) ∧ SSp w' u' (rmP l f t) ∧ (rowB u' = rowB u ∨ ∀ k, rowB u' = some k → w.heap.size ≤ k ∧ k < w'.heap.size) ∧ Below w.heap.size w w' := by
  by_cases hm : may f t = true
  · refine (rrem_yes w u l f t hu hl hc.1 hm).mono ?_
    rintro e w' ⟨u', rfl, r, b⟩
    refine ⟨u', rfl, ?_, .inr (fun k hk => rsp_row r hk), b⟩
    rw [← rmP_eq hc, if_pos hm]
    exact r.is
  · refine (rrem_no w u l f t hu (by simpa using hm)).mono ?_
    rintro e w' ⟨rfl, b⟩
    refine ⟨u, rfl, ?_, .inl rfl, b⟩
    rw [← rmP_eq hc, if_neg hm]
    exact hu.kept b
theorem radd_any (w : World) (u : Value) (l : List Sp) (f t : Int) (hu : SSp w u l) (hl : l.length ≤ 1000) (hc : Canon l) :
    Calls Tryd.prog 28 #[.agg #[u], .int .i64 f, .int .i64 t] w fun e w' => ∃ u', e = .returned (.agg #[u']) ∧ SSp w' u' (adP l f t) ∧ (rowB u' = rowB u ∨ ∀ k, rowB u' = some k → w.heap.size ≤ k ∧ k < w'.heap.size) ∧ Below w.heap.size w w' := by
  by_cases hm : may f t = true
  · refine (radd_yes w u l f t hu hl hc.1 hm).mono ?_
    rintro e w' ⟨u', rfl, r, b⟩
    refine ⟨u', rfl, ?_, .inr (fun k hk => rsp_row r hk), b⟩
    rw [← adP_eq hc, if_pos hm]
    exact r.is
  · refine (radd_no w u l f t hu (by simpa using hm)).mono ?_
    rintro e w' ⟨rfl, b⟩
    refine ⟨u, rfl, ?_, .inl rfl, b⟩
    rw [← adP_eq hc, if_neg hm]
    exact hu.kept b
theorem infoT30 : (Tryd.prog.info? 30).map (·.size) = some 1 := by kernel_rfl
theorem retDo {tmps : Array Value} {w : World} {q : Nat} {u : Value} {b : Bool} (hp : tmps.getD 6 undef = .pointer (some ⟨q, 0, none⟩)) (he : tmps.getD 7 undef = .bool b) (hg : w.heap[q]? = some (.cells #[u] 30 (0, 0))) :
    (results Tryd.f10 tmps).run Tryd.prog w = .ok (.tuple #[.agg #[u], .bool b]) w := by
  have hld : (loadVar 30 ⟨q, 0, none⟩).run Tryd.prog w = .ok (.agg #[u]) w := run_loadVar_row w q 30 30 #[u] (0, 0) _ hg Tryd.underlying30 rfl infoT30
  rw [results_cell_tmp rfl, hp, he]
  simp [asAddr, Result.andThen, hld]
theorem Bt.drew (g : Nat) (W : World) : Bt g W W.drew := ⟨rfl, rfl, rfl, Nat.le_refl _, fun _ _ _ => rfl⟩
theorem Bt.set (g : Nat) (W : World) (v : Value) : Bt g W (W.setCell ⟨g, 0, none⟩ v) := ⟨rfl, rfl, rfl, by simp [World.setCell], fun k _ hn => Below.heap_setCell _ _ _ _ hn⟩
theorem DD.bt {w w' : World} {B g q : Nat} {v u : Value} {l : List Sp} (h : DD w B g v u l) (hb : Bt q w w') (h1 : g ≠ q) (h2 : v.ownBlock ≠ some q) (h3 : rowB u ≠ some q) : DD w' B g v u l :=
  ⟨⟨(hb.block g (blk_lt h.st.sb) h1).trans h.st.sb, h.st.rs.bt hb h2, h.st.cn, h.st.ln⟩, h.sp.bt hb (fun k hk => ⟨(h.lt k hk).1, fun e => h3 (e ▸ hk)⟩), fun k hk => ⟨Nat.lt_of_lt_of_le (h.lt k hk).1 hb.size, (h.lt k hk).2⟩, h.ap⟩
theorem SU.btq {w a b : World} {g q : Nat} {v v' : Value} (h : SU w a g v v') (hb : Bt q a b) (hq : w.heap.size ≤ q) : SU w b g v v' :=
  ⟨hb.os.trans h.os, hb.tape.trans h.tape, hb.output.trans h.output, Nat.le_trans h.size hb.size, fun k hk hn ho => (hb.block k (Nat.lt_of_lt_of_le hk h.size) (by omega)).trans (h.block k hk hn ho), h.own⟩
set_option maxHeartbeats 8000000 in
theorem do_any (w : World) (B g : Nat) (v u : Value) (l : List Sp) (x : Cal) (h : DD w B g v u l) (hl : l.length ≤ 900) (hB : B ≤ w.heap.size) (hx : okC x) :
    Calls Tryd.prog 10 #[.pointer (some ⟨g, 0, none⟩), .agg #[u], .agg #[.int .u8 x.1, .int .i64 x.2.1, .int .i64 x.2.2]] w fun e w' => ∃ u' v', e = .returned (.tuple #[.agg #[u'], .bool true]) ∧ DD w' B g v' u' (doP l x) ∧ SU w w' g v v' ∧ (rowB u' = rowB u ∨ ∀ k, rowB u' = some k → w.heap.size ≤ k) := by
  obtain ⟨k, f, t⟩ := x
  unfold okC at hx
  simp only at hx ⊢
  obtain ⟨ua, uc, rfl, -, -, -⟩ := id h.sp.shape
  obtain ⟨W0, hW0⟩ : ∃ W0, W0 = ((w.alloc (.cells #[.slice ua l.length uc] 30)).alloc (.cells #[.int .u8 k, .int .i64 f, .int .i64 t] 24)).alloc (.cells #[.slice none 0 0] 30) := ⟨_, rfl⟩
  have b0 : Below w.heap.size w W0 := by rw [hW0]; exact ((al_below w _).alloc (al_below w _).size _).alloc (by simp; omega) _
  have s0 : W0.heap.size = w.heap.size + 3 := by rw [hW0]; simp
  have e0 : W0.heap[w.heap.size]? = some (.cells #[.slice ua l.length uc] 30 (0, 0)) := by rw [hW0]; exact blk_kept (blk_kept (heap_alloc_new w _) (al_below _ _) (by simp)) (al_below _ _) (by simp; omega)
  have e1 : W0.heap[w.heap.size + 1]? = some (.cells #[.int .u8 k, .int .i64 f, .int .i64 t] 24 (0, 0)) := by rw [hW0]; exact blk_kept (two_new _ _ _) (al_below _ _) (by simp)
  have e2 : W0.heap[w.heap.size + 2]? = some (.cells #[.slice none 0 0] 30 (0, 0)) := by rw [hW0]; have := heap_alloc_new ((w.alloc (.cells #[.slice ua l.length uc] 30)).alloc (.cells #[.int .u8 k, .int .i64 f, .int .i64 t] 24)) (.cells #[.slice none 0 0] 30); simpa using this
  have cc := rcount_any W0 (.slice ua l.length uc) l (h.sp.kept b0) h.st.cn (by omega)
  have k0 : W0.cell? ⟨w.heap.size, 0, none⟩ = some (.slice ua l.length uc) := by simp [World.cell?, e0]
  have HH : Hid (DD w B g v (.slice ua l.length uc) l) := h
  have HB0 : Hid (Below w.heap.size w W0) := b0
  have HE : Hid (∀ W, Below W0.heap.size W0 W → W.heap[w.heap.size]? = some (.cells #[.slice ua l.length uc] 30 (0, 0)) ∧ W.heap[w.heap.size + 1]? = some (.cells #[.int .u8 k, .int .i64 f, .int .i64 t] 24 (0, 0)) ∧ W.heap[w.heap.size + 2]? = some (.cells #[.slice none 0 0] 30 (0, 0))) := fun W hb => ⟨blk_kept e0 hb (by omega), blk_kept e1 hb (by omega), blk_kept e2 hb (by omega)⟩
  have HS0 : Hid (W0.heap.size = w.heap.size + 3) := s0
  clear h b0 s0 e0 e1 e2
  generalize hn : l.length = n at *
  have HN : Hid (l.length = n) := hn
  clear hn
  generalize hcn : cnt l = cl at *
  have HCL : Hid (cnt l = cl) := hcn
  clear hcn
  go_enter Tryd.func10, Tryd.ntmps10
  go_wp2_with fail
  rw [← hW0]
  clear hW0
  go_wp2_with fail
  refine cc.mono ?_
  rintro e w1 ⟨rfl, b1⟩
  have HB1 : Hid (Below W0.heap.size W0 w1) := b1
  have D1 : Hid (DD w1 B g v (.slice ua n uc) l) := by
    have hb := HB0.out.trans (b1.mono HB0.out.size)
    exact ⟨HH.out.st.below hb, HH.out.sp.kept hb, fun k hk => ⟨Nat.lt_of_lt_of_le (HH.out.lt k hk).1 hb.size, (HH.out.lt k hk).2⟩, HH.out.ap⟩
  have HBW : Hid (Below w.heap.size w w1) := HB0.out.trans (b1.mono HB0.out.size)
  obtain ⟨E0, E1, E2⟩ := HE.out w1 b1
  have HE0 : Hid (w1.heap[w.heap.size]? = some (.cells #[.slice ua n uc] 30 (0, 0))) := E0
  have HE1 : Hid (w1.heap[w.heap.size + 1]? = some (.cells #[.int .u8 k, .int .i64 f, .int .i64 t] 24 (0, 0))) := E1
  have HE2 : Hid (w1.heap[w.heap.size + 2]? = some (.cells #[.slice none 0 0] 30 (0, 0))) := E2
  have hgl : g < w.heap.size := blk_lt HH.out.st.sb
  have HOL : Hid (∀ i, v.ownBlock = some i → i < w.heap.size) := own_lt HH.out.st.rs
  have HRL : Hid (∀ i, rowB (.slice ua n uc) = some i → i < w.heap.size) := fun i hi => (HH.out.lt i hi).1
  have hzz : w.heap.size + 3 ≤ w1.heap.size := by have := HS0.out; have := b1.size; omega
  have HZZ : Hid (w.heap.size + 3 ≤ w1.heap.size ∧ g < w.heap.size) := ⟨hzz, hgl⟩
  have HST : Hid (∀ W v' (s : SU w1 W g v v'), W.heap[w.heap.size]? = some (.cells #[.slice ua n uc] 30 (0, 0)) ∧ W.heap[w.heap.size + 1]? = some (.cells #[.int .u8 k, .int .i64 f, .int .i64 t] 24 (0, 0)) ∧ W.heap[w.heap.size + 2]? = some (.cells #[.slice none 0 0] 30 (0, 0))) := fun W v' s => by
    refine ⟨(s.block _ (by omega) (by omega) (fun e => ?_)).trans HE0.out, (s.block _ (by omega) (by omega) (fun e => ?_)).trans HE1.out, (s.block _ (by omega) (by omega) (fun e => ?_)).trans HE2.out⟩ <;> (have := HOL.out _ e; omega)
  have ka : w1.cell? ⟨w.heap.size + 1, 0, none⟩ = some (.int .u8 k) := by simp [World.cell?, E1]
  have kf : w1.cell? ⟨w.heap.size + 1, 1, none⟩ = some (.int .i64 f) := by simp [World.cell?, E1]
  have kt : w1.cell? ⟨w.heap.size + 1, 2, none⟩ = some (.int .i64 t) := by simp [World.cell?, E1]
  have HHB : Hid (B ≤ w1.heap.size) := Nat.le_trans hB HBW.out.size
  have hk4 : k % 4 < 4 ∧ 0 ≤ k % 4 := by omega
  have m1 : Int.tmod k 4 = k % 4 := Int.tmod_eq_emod_of_nonneg (by omega)
  have m2 : IntKind.u8.wrap (k % 4) = k % 4 := by simp [IntKind.wrap, IntKind.bits, IntKind.signed]; omega
  have HLD : Hid ((doP l (k, f, t)).length ≤ 1000 ∧ Canon (doP l (k, f, t))) := ⟨by have := doP_len D1.out.st.cn (k, f, t); rw [HN.out] at this; omega, doP_canon D1.out.st.cn (k, f, t)⟩
  have HBC : Hid ((0 ≤ cl ∧ cl ≤ 1099511627777000) ∧ 0 ≤ cnt (doP l (k, f, t)) ∧ cnt (doP l (k, f, t)) ≤ 1099511627777000) := by
    have a1 := cnt_nonneg HLD.out.2
    have a2 := cnt_le HLD.out.2
    have a3 := cnt_nonneg D1.out.st.cn
    have a4 := cnt_le D1.out.st.cn
    rw [HCL.out] at a3 a4
    have := HLD.out.1
    rw [HN.out] at a4
    unfold Hid
    omega
  have hbc := HBC.out
  clear cc b1 k0 HE E0 E1 E2 HH HB0 HS0 hzz
  by_cases h2 : k % 4 = 2
  · rw [h2] at m1 m2
    have hdo : Hid (doP l (k, f, t) = rmP l f t) := by unfold Hid doP; rw [if_pos h2]
    rw [hdo.out] at hbc HLD
    have hrn := rmP_cnt D1.out.st.cn f t
    rw [HCL.out] at hrn
    have cr := rem_any w1 B g v l f t D1.out.st (by rw [HN.out]; omega) HHB.out
    rw [hrn] at cr
    clear hrn
    go_wp2_with fail
    refine cr.mono ?_
    rintro e w2 ⟨rfl, v2, s2, u2⟩
    have U2 : Hid (SU w1 w2 g v v2) := u2
    have S2 : Hid (ST w2 B g v2 (rmP l f t)) := s2
    obtain ⟨F0, F1, F2⟩ := HST.out w2 v2 u2
    have HF0 : Hid (w2.heap[w.heap.size]? = some (.cells #[.slice ua n uc] 30 (0, 0))) := F0
    have HF2 : Hid (w2.heap[w.heap.size + 2]? = some (.cells #[.slice none 0 0] 30 (0, 0))) := F2
    have kr2 : w2.cell? ⟨w.heap.size, 0, none⟩ = some (.slice ua n uc) := by simp [World.cell?, F0]
    have kf2 : w2.cell? ⟨w.heap.size + 1, 1, none⟩ = some (.int .i64 f) := by simp [World.cell?, F1]
    have kt2 : w2.cell? ⟨w.heap.size + 1, 2, none⟩ = some (.int .i64 t) := by simp [World.cell?, F1]
    have cd := rrem_any w2 (.slice ua n uc) l f t (ssp_su D1.out.sp u2 D1.out.lt D1.out.ap) (by rw [HN.out]; omega) D1.out.st.cn
    clear cr u2 s2 F0 F1 F2 ka kf kt HST
    generalize rmP l f t = L9 at *
    go_wp2_with fail
    refine cd.mono ?_
    rintro e w3 ⟨u3, rfl, sp3, hr3, b3⟩
    have D3 : Hid (DD w3 B g v2 u3 L9) := dd_next D1.out U2.out S2.out b3 sp3 hr3
    have HRO : Hid (rowB u3 = rowB (.slice ua n uc) ∨ ∀ k, rowB u3 = some k → w.heap.size ≤ k) := hr3.imp id (fun e k hk => by have h1 := HZZ.out.1; have h2 := U2.out.size; have := (e k hk).1; omega)
    have HRR : Hid (∀ i, rowB u3 = some i → i ≠ w.heap.size + 2 ∧ i ≠ w.heap.size) := fun i hi => by
      have h1 := HZZ.out.1
      have h2 := U2.out.size
      rcases hr3 with e | e
      · have := HRL.out i (e ▸ hi); omega
      · have := (e i hi).1; omega
    have HVV : Hid (∀ i, v2.ownBlock = some i → i ≠ w.heap.size + 2 ∧ i ≠ w.heap.size) := fun i hi => by
      have h1 := HZZ.out.1
      rcases U2.out.own with e | ⟨q, e, hq⟩
      · have := HOL.out i (e ▸ hi); omega
      · rw [e] at hi; cases hi; omega
    obtain ⟨ua3, uc3, rfl, -, -, -⟩ := sp3.shape
    have HG0 : Hid (w3.heap[w.heap.size]? = some (.cells #[.slice ua n uc] 30 (0, 0))) := blk_kept HF0.out b3 (blk_lt HF0.out)
    have HG2 : Hid (w3.heap[w.heap.size + 2]? = some (.cells #[.slice none 0 0] 30 (0, 0))) := blk_kept HF2.out b3 (blk_lt HF2.out)
    have U3 : Hid (SU w1 w3 g v v2) := U2.out.low b3
    have kc : w3.cell? ⟨w.heap.size, 0, none⟩ = some (.slice ua n uc) := by have := HG0.out; simp [World.cell?, this]
    have kz : w3.frozen? ⟨w.heap.size, 0, none⟩ = false := by have := HG0.out; simp [World.frozen?, this]
    clear cd sp3 hr3 b3 HF0 HF2 kr2 kf2 kt2 S2 U2
    generalize hzl : L9.length = zl at *
    have HZL : Hid (L9.length = zl) := hzl
    clear hzl
    obtain ⟨W4, hW4⟩ : ∃ W4, W4 = w3.setCell ⟨w.heap.size, 0, none⟩ (.slice ua3 zl uc3) := ⟨_, rfl⟩
    have hbt : Bt w.heap.size w3 W4 := by rw [hW4]; exact Bt.set _ _ _
    have HR4 : Hid (W4.heap[w.heap.size]? = some (.cells #[.slice ua3 zl uc3] 30 (0, 0))) := by unfold Hid; rw [hW4]; exact set_one HG0.out
    have HQ4 : Hid (W4.heap[w.heap.size + 2]? = some (.cells #[.slice none 0 0] 30 (0, 0))) := (hbt.block _ (blk_lt HG2.out) (by omega)).trans HG2.out
    have D4 : Hid (DD W4 B g v2 (.slice ua3 zl uc3) L9) := D3.out.bt hbt (by have := HZZ.out.2; omega) (fun e => (HVV.out _ e).2 rfl) (fun e => (HRR.out _ e).2 rfl)
    have U4 : Hid (SU w W4 g v v2) := (U3.out.front HBW.out).btq hbt (Nat.le_refl _)
    have FR : Hid (∀ x, Bt (w.heap.size + 2) W4 x → x.cell? ⟨w.heap.size, 0, none⟩ = some (.slice ua3 zl uc3)) := fun x hx => by
      have := (hx.block w.heap.size (blk_lt HR4.out) (by omega)).trans HR4.out
      simp [World.cell?, this]
    have CC : Hid (∀ x, Bt (w.heap.size + 2) W4 x → Calls Tryd.prog 25 #[.agg #[.slice ua3 zl uc3]] x fun e w' => e = .returned (.int .i64 (cnt L9)) ∧ Below x.heap.size x w') := fun x hx => rcount_any x _ L9 (D4.out.bt hx (by have := HZZ.out.2; omega) (fun e => (HVV.out _ e).1 rfl) (fun e => (HRR.out _ e).1 rfl)).sp D4.out.st.cn (by rw [HZL.out]; exact HLD.out.1)
    have sw1 : IntKind.i64.wrap (cl - cnt L9) = cl - cnt L9 := by rw [IntKind.wrap_i64]; omega
    clear hbt HG0 HG2 D3 U3
    go_upto_region 9 with fail
    rw [← hW4]
    clear hW4 kc kz
    refine wp_region_held_drew (S := Bt (w.heap.size + 2) W4) (by kernel_rfl) (Bt.drew _ _) (fun _ => ?_)
    refine wpAnyH_name (fun u0 hu0 => ?_)
    have su0 : (Bt (w.heap.size + 2) W4) u0 := by rw [hu0.out]; exact (Bt.drew _ _)
    have RXu0 : u0.heap[w.heap.size + 2]? = some (.cells #[.slice none 0 0] 30 (0, 0)) := by rw [hu0.out]; exact HQ4.out
    refine wpAnyH_take (i := 0) (oi := { dst := some 51, op := Op.load 30 (Operand.tmp 4), type := 30, pos := "law.go:31", after := #[], guard := none }) (v := .agg #[.slice ua3 zl uc3]) rfl (by kernel_rfl) (by kernel_rfl) (by kernel_rfl) (fun _ _ _ h => h) (Or.inl ⟨by rfl, ?yr1⟩) su0 ?rr1
    case yr1 => (intro w hSw; have t0 := FR.out w hSw; go_simp; try with_reducible rfl)
    try simp only [Act.put, List.setIfInBounds_toArray, List.set_cons_zero, List.set_cons_succ]
    refine wpAnyH_take (i := 1) (oi := { dst := some 52, op := Op.move (Operand.tmp 9), type := 3, pos := "law.go:31", after := #[{ on := 7, ground := Ground.gcOnly Departure.lateStores }], guard := none }) (v := ?vr2) rfl (by kernel_rfl) (by kernel_rfl) (by kernel_rfl) (fun _ _ _ h => h) (Or.inl ⟨by rfl, ?yr2⟩) su0 ?rr2
    case yr2 => (intro w hSw; go_simp; try with_reducible rfl)
    try simp only [Act.put, List.setIfInBounds_toArray, List.set_cons_zero, List.set_cons_succ]
    refine wpAnyH_take (i := 2) (oi := { dst := some 53, op := Op.move (Operand.tmp 8), type := 3, pos := "law.go:31", after := #[{ on := 7, ground := Ground.gcOnly Departure.lateStores }], guard := none }) (v := ?vr3) rfl (by kernel_rfl) (by kernel_rfl) (by kernel_rfl) (fun _ _ _ h => h) (Or.inl ⟨by rfl, ?yr3⟩) su0 ?rr3
    case yr3 => (intro w hSw; go_simp; try with_reducible rfl)
    try simp only [Act.put, List.setIfInBounds_toArray, List.set_cons_zero, List.set_cons_succ]
    refine wpAnyH_take (i := 3) (oi := { dst := some 54, op := Op.load 30 (Operand.tmp 4), type := 30, pos := "law.go:31", after := #[], guard := none }) (v := .agg #[.slice ua3 zl uc3]) rfl (by kernel_rfl) (by kernel_rfl) (by kernel_rfl) (fun _ _ _ h => h) (Or.inl ⟨by rfl, ?yr4⟩) su0 ?rr4
    case yr4 => (intro w hSw; have t0 := FR.out w hSw; go_simp; try with_reducible rfl)
    try simp only [Act.put, List.setIfInBounds_toArray, List.set_cons_zero, List.set_cons_succ]
    refine wpAnyH_ready (rs := [4]) (by kernel_rfl) (by simp) ?_
    refine AllReadyH.cons (o := { dst := some 55, op := Op.call { callee := Callee.value (Operand.func 25), args := #[Operand.tmp 54], argTypes := #[30] }, type := 3, pos := "law.go:31", after := #[{ on := 3, ground := Ground.data }], guard := none }) rfl (fun KK hKK => ?_) ?_
    · go_simp
      refine (CC.out _ su0).mono ?_
      rintro e u5' ⟨rfl, bu5'⟩
      (try go_wp2_with fail)
      refine hKK.out _ _ (su0.trans (Bt.of bu5')) (fun _ => ?_)
      clear hKK KK
      try simp only [Act.put, List.setIfInBounds_toArray, List.set_cons_zero, List.set_cons_succ]
      refine wpAnyH_name (fun u5 hu5 => ?_)
      have su5 : (Bt (w.heap.size + 2) W4) u5 := by rw [hu5.out]; exact (su0.trans (Bt.of bu5'))
      have RXu5 : u5.heap[w.heap.size + 2]? = some (.cells #[.slice none 0 0] 30 (0, 0)) := by rw [hu5.out]; exact (blk_kept RXu0 bu5' (blk_lt RXu0))
      refine wpAnyH_take (i := 5) (oi := { dst := some 56, op := Op.binOp BinOp.sub 3 (Operand.tmp 53) (Operand.tmp 55) 3, type := 3, pos := "law.go:31", after := #[{ on := 2, ground := Ground.data }, { on := 4, ground := Ground.data }, { on := 7, ground := Ground.gcOnly Departure.lateStores }], guard := none }) (v := ?vr6) rfl (by kernel_rfl) (by kernel_rfl) (by kernel_rfl) (fun _ _ _ h => h) (Or.inl ⟨by rfl, ?yr6⟩) su5 ?rr6
      case yr6 => (intro w hSw; go_simp; try with_reducible rfl)
      try simp only [Act.put, List.setIfInBounds_toArray, List.set_cons_zero, List.set_cons_succ]
      refine wpAnyH_take (i := 6) (oi := { dst := some 57, op := Op.binOp BinOp.eql 3 (Operand.tmp 52) (Operand.tmp 56) 3, type := 4, pos := "law.go:31", after := #[{ on := 1, ground := Ground.data }, { on := 5, ground := Ground.data }, { on := 7, ground := Ground.gcOnly Departure.lateStores }], guard := none }) (v := .bool true) rfl (by kernel_rfl) (by kernel_rfl) (by kernel_rfl) (fun _ _ _ h => h) (Or.inl ⟨by rfl, ?yr7⟩) su5 ?rr7
      case yr7 => (intro w hSw; go_simp; try with_reducible rfl)
      try simp only [Act.put, List.setIfInBounds_toArray, List.set_cons_zero, List.set_cons_succ]
      refine wpAnyH_ready (rs := [7]) (by kernel_rfl) (by simp) ?_
      refine AllReadyH.cons (o := { dst := none, op := Op.store 30 (Operand.tmp 6) (Operand.tmp 51), type := 0, pos := "law.go:31", after := #[{ on := 0, ground := Ground.data }, { on := 4, ground := Ground.chain }, { on := 0, ground := Ground.phase }, { on := 1, ground := Ground.textOnly Departure.lateStores }, { on := 2, ground := Ground.textOnly Departure.lateStores }, { on := 3, ground := Ground.textOnly Departure.lateStores }, { on := 4, ground := Ground.textOnly Departure.lateStoresUnsure }, { on := 5, ground := Ground.textOnly Departure.lateStores }, { on := 6, ground := Ground.textOnly Departure.lateStores }], guard := none }) rfl (fun KK hKK => ?_) ?_
      · have cau8 : u5.cell? ⟨w.heap.size + 2, 0, none⟩ = some (.slice none 0 0) := by simp [World.cell?, RXu5]
        have cbu8 : u5.frozen? ⟨w.heap.size + 2, 0, none⟩ = false := by simp [World.frozen?, RXu5]
        go_simp
        refine hKK.out _ _ (su5.trans (Bt.set _ _ _)) (fun _ => ?_)
        clear hKK KK
        try simp only [Act.put]
        refine wpAnyH_name (fun u8 hu8 => ?_)
        have su8 : (Bt (w.heap.size + 2) W4) u8 := by rw [hu8.out]; exact (su5.trans (Bt.set _ _ _))
        have RZu8 : u8.heap[w.heap.size + 2]? = some (.cells #[.slice ua3 zl uc3] 30 (0, 0)) := by rw [hu8.out]; exact set_one RXu5
        refine wpAnyH_take (i := 8) (oi := { dst := some 7, op := Op.assign (Operand.tmp 57), type := 4, pos := "law.go:31", after := #[{ on := 6, ground := Ground.data }, { on := 7, ground := Ground.chain }, { on := 0, ground := Ground.phase }, { on := 1, ground := Ground.phase }, { on := 2, ground := Ground.phase }, { on := 3, ground := Ground.phase }, { on := 4, ground := Ground.phase }, { on := 5, ground := Ground.phase }, { on := 6, ground := Ground.phase }, { on := 7, ground := Ground.phase }], guard := none }) (v := ?vr9) rfl (by kernel_rfl) (by kernel_rfl) (by kernel_rfl) (fun _ _ _ h => h) (Or.inl ⟨by rfl, ?yr9⟩) su8 ?rr9
        case yr9 => (intro w hSw; go_simp; try with_reducible rfl)
        try simp only [Act.put, List.setIfInBounds_toArray, List.set_cons_zero, List.set_cons_succ]
        refine wpAnyH_done (by kernel_rfl) ?_ _
        have HRZ : Hid (u8.heap[w.heap.size + 2]? = some (.cells #[.slice ua3 zl uc3] 30 (0, 0))) := RZu8
        have HSB : Hid (Bt (w.heap.size + 2) W4 u8) := su8
        clear FR CC HQ4 HR4
        go_wp2
        exact bodyPost_ret (v := .tuple #[.agg #[.slice ua3 zl uc3], .bool true]) (retDo rfl rfl HRZ.out) rfl ⟨_, v2, rfl, (by rw [hdo.out]; exact D4.out.bt HSB.out (by have := HZZ.out.2; omega) (fun e => (HVV.out _ e).1 rfl) (fun e => (HRR.out _ e).1 rfl)), U4.out.btq HSB.out (by omega), HRO.out⟩
      exact AllReadyH.nil
    exact AllReadyH.nil
  · by_cases h3 : k % 4 = 3
    · have hdo : Hid (doP l (k, f, t) = trP l f) := by unfold Hid doP; rw [if_neg h2, if_pos h3]
      have e2 : ((k % 4) == 2) = false := by simpa using h2
      rw [h3] at m1 m2
      rw [hdo.out] at hbc HLD
      have hrl : (trP l f).length + trN l f = n := by unfold trP; rw [List.length_drop, HN.out]; have : trN l f ≤ n := by { unfold trN; rw [HN.out]; omega }
                                                      omega
      have cr := trim_any w1 B g v l f D1.out.st (by omega)
      go_wp2_with fail
      refine cr.mono ?_
      rintro e w2 ⟨rfl, v2, s2, u2⟩
      have U2 : Hid (SU w1 w2 g v v2) := u2
      have S2 : Hid (ST w2 B g v2 (trP l f)) := s2
      obtain ⟨F0, F1, F2⟩ := HST.out w2 v2 u2
      have HF0 : Hid (w2.heap[w.heap.size]? = some (.cells #[.slice ua n uc] 30 (0, 0))) := F0
      have HF2 : Hid (w2.heap[w.heap.size + 2]? = some (.cells #[.slice none 0 0] 30 (0, 0))) := F2
      have kr2 : w2.cell? ⟨w.heap.size, 0, none⟩ = some (.slice ua n uc) := by simp [World.cell?, F0]
      have kf2 : w2.cell? ⟨w.heap.size + 1, 1, none⟩ = some (.int .i64 f) := by simp [World.cell?, F1]
      have cd := rtrim_any w2 (.slice ua n uc) l f (ssp_su D1.out.sp u2 D1.out.lt D1.out.ap) (by rw [HN.out]; omega) (by omega)
      clear cr u2 s2 F0 F1 F2 ka kf kt HST
      generalize trN l f = tn at *
      generalize trP l f = L9 at *
      go_wp2_with fail
      refine cd.mono ?_
      rintro e w3 ⟨u3, rfl, sp3, hr3, b3⟩
      have D3 : Hid (DD w3 B g v2 u3 L9) := dd_next D1.out U2.out S2.out b3 sp3 (.inl hr3)
      have HRO : Hid (rowB u3 = rowB (.slice ua n uc) ∨ ∀ k, rowB u3 = some k → w.heap.size ≤ k) := .inl hr3
      have HRR : Hid (∀ i, rowB u3 = some i → i ≠ w.heap.size + 2 ∧ i < w3.heap.size) := fun i hi => by
        have h1 := HZZ.out.1
        have h2 := U2.out.size
        have h3 := b3.size
        have := HRL.out i (hr3 ▸ hi); omega
      have HVV : Hid (∀ i, v2.ownBlock = some i → i ≠ w.heap.size + 2 ∧ i < w3.heap.size) := fun i hi => by
        have h1 := HZZ.out.1
        have h3 := own_lt D3.out.st.rs i hi
        refine ⟨?_, h3⟩
        rcases U2.out.own with e | ⟨q, e, hq⟩
        · have := HOL.out i (e ▸ hi); omega
        · rw [e] at hi; cases hi; omega
      have hz3 : w.heap.size + 3 ≤ w3.heap.size := by
        have h1 := HZZ.out.1
        have h2 := U2.out.size
        have h3 := b3.size
        omega
      obtain ⟨ua3, uc3, rfl, -, -, -⟩ := sp3.shape
      have HG0 : Hid (w3.heap[w.heap.size]? = some (.cells #[.slice ua n uc] 30 (0, 0))) := blk_kept HF0.out b3 (blk_lt HF0.out)
      have HG2 : Hid (w3.heap[w.heap.size + 2]? = some (.cells #[.slice none 0 0] 30 (0, 0))) := blk_kept HF2.out b3 (blk_lt HF2.out)
      have U3 : Hid (SU w1 w3 g v v2) := U2.out.low b3
      clear cd sp3 hr3 b3 HF0 HF2 kr2 kf2 S2 U2
      generalize hzl : L9.length = zl at *
      have HZL : Hid (L9.length = zl) := hzl
      clear hzl
      obtain ⟨W4, hW4⟩ : ∃ W4, W4 = w3.alloc (.cells #[.slice ua3 zl uc3] 30) := ⟨_, rfl⟩
      have hb4 : Below w3.heap.size w3 W4 := by rw [hW4]; exact al_below w3 _
      have HR4 : Hid (W4.heap[w3.heap.size]? = some (.cells #[.slice ua3 zl uc3] 30 (0, 0))) := by unfold Hid; rw [hW4]; exact heap_alloc_new w3 _
      have HQ4 : Hid (W4.heap[w.heap.size + 2]? = some (.cells #[.slice none 0 0] 30 (0, 0))) := blk_kept HG2.out hb4 (by omega)
      have HP4 : Hid (W4.heap[w.heap.size]? = some (.cells #[.slice ua n uc] 30 (0, 0))) := blk_kept HG0.out hb4 (by omega)
      have D4 : Hid (DD W4 B g v2 (.slice ua3 zl uc3) L9) := ⟨D3.out.st.below hb4, D3.out.sp.kept hb4, fun k hk => ⟨Nat.lt_of_lt_of_le (D3.out.lt k hk).1 hb4.size, (D3.out.lt k hk).2⟩, D3.out.ap⟩
      have U4 : Hid (SU w W4 g v v2) := (U3.out.front HBW.out).low hb4
      have HW4 : Hid (w.heap.size + 3 ≤ w3.heap.size) := hz3
      have FR : Hid (∀ x, Bt (w.heap.size + 2) W4 x → x.cell? ⟨w.heap.size, 0, none⟩ = some (.slice ua n uc) ∧ x.cell? ⟨w3.heap.size, 0, none⟩ = some (.slice ua3 zl uc3)) := fun x hx => by
        have h1 := HW4.out
        have := (hx.block w.heap.size (blk_lt HP4.out) (by omega)).trans HP4.out
        have t2 := (hx.block w3.heap.size (blk_lt HR4.out) (by omega)).trans HR4.out
        constructor
        · simp [World.cell?, this]
        · simp [World.cell?, t2]
      have sw1 : IntKind.i64.wrap ((n : Int) - zl) = tn := by rw [IntKind.wrap_i64]; omega
      clear hb4 HG0 HG2 D3 U3
      go_upto_region 13 with fail
      rw [← hW4]
      clear hW4
      refine wp_region_held_drew (S := Bt (w.heap.size + 2) W4) (by kernel_rfl) (Bt.drew _ _) (fun _ => ?_)
      refine wpAnyH_name (fun u0 hu0 => ?_)
      have su0 : (Bt (w.heap.size + 2) W4) u0 := by rw [hu0.out]; exact (Bt.drew _ _)
      have RXu0 : u0.heap[w.heap.size + 2]? = some (.cells #[.slice none 0 0] 30 (0, 0)) := by rw [hu0.out]; exact HQ4.out
      refine wpAnyH_take (i := 0) (oi := { dst := some 68, op := Op.load 30 (Operand.tmp 11), type := 30, pos := "law.go:35", after := #[], guard := none }) (v := .agg #[.slice ua3 zl uc3]) rfl (by kernel_rfl) (by kernel_rfl) (by kernel_rfl) (fun _ _ _ h => h) (Or.inl ⟨by rfl, ?yt1⟩) su0 ?rt1
      case yt1 => (intro w hSw; have t0 := (FR.out w hSw).1; have t1 := (FR.out w hSw).2; go_simp; try with_reducible rfl)
      try simp only [Act.put, List.setIfInBounds_toArray, List.set_cons_zero, List.set_cons_succ]
      refine wpAnyH_take (i := 1) (oi := { dst := some 69, op := Op.move (Operand.tmp 10), type := 3, pos := "law.go:35", after := #[{ on := 10, ground := Ground.gcOnly Departure.lateStores }], guard := none }) (v := ?vt2) rfl (by kernel_rfl) (by kernel_rfl) (by kernel_rfl) (fun _ _ _ h => h) (Or.inl ⟨by rfl, ?yt2⟩) su0 ?rt2
      case yt2 => (intro w hSw; go_simp; try with_reducible rfl)
      try simp only [Act.put, List.setIfInBounds_toArray, List.set_cons_zero, List.set_cons_succ]
      refine wpAnyH_take (i := 2) (oi := { dst := some 70, op := Op.fieldAddr 30 (Operand.tmp 4) 0, type := 0, pos := "law.go:35", after := #[], guard := none }) (v := ?vt3) rfl (by kernel_rfl) (by kernel_rfl) (by kernel_rfl) (fun _ _ _ h => h) (Or.inl ⟨by rfl, ?yt3⟩) su0 ?rt3
      case yt3 => (intro w hSw; go_simp; try with_reducible rfl)
      try simp only [Act.put, List.setIfInBounds_toArray, List.set_cons_zero, List.set_cons_succ]
      refine wpAnyH_take (i := 3) (oi := { dst := some 71, op := Op.load 28 (Operand.tmp 70), type := 28, pos := "law.go:35", after := #[{ on := 2, ground := Ground.data }], guard := none }) (v := .slice ua n uc) rfl (by kernel_rfl) (by kernel_rfl) (by kernel_rfl) (fun _ _ _ h => h) (Or.inl ⟨by rfl, ?yt4⟩) su0 ?rt4
      case yt4 => (intro w hSw; have t0 := (FR.out w hSw).1; have t1 := (FR.out w hSw).2; go_simp; try with_reducible rfl)
      try simp only [Act.put, List.setIfInBounds_toArray, List.set_cons_zero, List.set_cons_succ]
      refine wpAnyH_take (i := 4) (oi := { dst := some 72, op := Op.call { callee := Callee.builtin Builtin.len, args := #[Operand.tmp 71], argTypes := #[28] }, type := 3, pos := "law.go:35", after := #[{ on := 3, ground := Ground.data }], guard := none }) (v := ?vt5) rfl (by kernel_rfl) (by kernel_rfl) (by kernel_rfl) (fun _ _ _ h => h) (Or.inl ⟨by rfl, ?yt5⟩) su0 ?rt5
      case yt5 => (intro w hSw; go_simp; try with_reducible rfl)
      try simp only [Act.put, List.setIfInBounds_toArray, List.set_cons_zero, List.set_cons_succ]
      refine wpAnyH_take (i := 5) (oi := { dst := some 73, op := Op.fieldAddr 30 (Operand.tmp 11) 0, type := 0, pos := "law.go:35", after := #[], guard := none }) (v := ?vt6) rfl (by kernel_rfl) (by kernel_rfl) (by kernel_rfl) (fun _ _ _ h => h) (Or.inl ⟨by rfl, ?yt6⟩) su0 ?rt6
      case yt6 => (intro w hSw; go_simp; try with_reducible rfl)
      try simp only [Act.put, List.setIfInBounds_toArray, List.set_cons_zero, List.set_cons_succ]
      refine wpAnyH_take (i := 6) (oi := { dst := some 74, op := Op.load 28 (Operand.tmp 73), type := 28, pos := "law.go:35", after := #[{ on := 5, ground := Ground.data }], guard := none }) (v := .slice ua3 zl uc3) rfl (by kernel_rfl) (by kernel_rfl) (by kernel_rfl) (fun _ _ _ h => h) (Or.inl ⟨by rfl, ?yt7⟩) su0 ?rt7
      case yt7 => (intro w hSw; have t0 := (FR.out w hSw).1; have t1 := (FR.out w hSw).2; go_simp; try with_reducible rfl)
      try simp only [Act.put, List.setIfInBounds_toArray, List.set_cons_zero, List.set_cons_succ]
      refine wpAnyH_take (i := 7) (oi := { dst := some 75, op := Op.call { callee := Callee.builtin Builtin.len, args := #[Operand.tmp 74], argTypes := #[28] }, type := 3, pos := "law.go:35", after := #[{ on := 6, ground := Ground.data }], guard := none }) (v := ?vt8) rfl (by kernel_rfl) (by kernel_rfl) (by kernel_rfl) (fun _ _ _ h => h) (Or.inl ⟨by rfl, ?yt8⟩) su0 ?rt8
      case yt8 => (intro w hSw; go_simp; try with_reducible rfl)
      try simp only [Act.put, List.setIfInBounds_toArray, List.set_cons_zero, List.set_cons_succ]
      refine wpAnyH_take (i := 8) (oi := { dst := some 76, op := Op.binOp BinOp.sub 3 (Operand.tmp 72) (Operand.tmp 75) 3, type := 3, pos := "law.go:35", after := #[{ on := 4, ground := Ground.data }, { on := 7, ground := Ground.data }, { on := 10, ground := Ground.gcOnly Departure.lateStores }], guard := none }) (v := ?vt9) rfl (by kernel_rfl) (by kernel_rfl) (by kernel_rfl) (fun _ _ _ h => h) (Or.inl ⟨by rfl, ?yt9⟩) su0 ?rt9
      case yt9 => (intro w hSw; go_simp; try with_reducible rfl)
      try simp only [Act.put, List.setIfInBounds_toArray, List.set_cons_zero, List.set_cons_succ]
      refine wpAnyH_take (i := 9) (oi := { dst := some 77, op := Op.binOp BinOp.eql 3 (Operand.tmp 69) (Operand.tmp 76) 3, type := 4, pos := "law.go:35", after := #[{ on := 1, ground := Ground.data }, { on := 8, ground := Ground.data }, { on := 10, ground := Ground.gcOnly Departure.lateStores }], guard := none }) (v := .bool true) rfl (by kernel_rfl) (by kernel_rfl) (by kernel_rfl) (fun _ _ _ h => h) (Or.inl ⟨by rfl, ?yt10⟩) su0 ?rt10
      case yt10 => (intro w hSw; go_simp; try with_reducible rfl)
      try simp only [Act.put, List.setIfInBounds_toArray, List.set_cons_zero, List.set_cons_succ]
      refine wpAnyH_ready (rs := [10]) (by kernel_rfl) (by simp) ?_
      refine AllReadyH.cons (o := { dst := none, op := Op.store 30 (Operand.tmp 6) (Operand.tmp 68), type := 0, pos := "law.go:35", after := #[{ on := 0, ground := Ground.data }, { on := 0, ground := Ground.phase }, { on := 1, ground := Ground.textOnly Departure.lateStores }, { on := 2, ground := Ground.textOnly Departure.lateStores }, { on := 3, ground := Ground.textOnly Departure.lateStores }, { on := 4, ground := Ground.textOnly Departure.lateStoresUnsure }, { on := 5, ground := Ground.textOnly Departure.lateStores }, { on := 6, ground := Ground.textOnly Departure.lateStores }, { on := 7, ground := Ground.textOnly Departure.lateStoresUnsure }, { on := 8, ground := Ground.textOnly Departure.lateStores }, { on := 9, ground := Ground.textOnly Departure.lateStores }], guard := none }) rfl (fun KK hKK => ?_) ?_
      · have cau11 : u0.cell? ⟨w.heap.size + 2, 0, none⟩ = some (.slice none 0 0) := by simp [World.cell?, RXu0]
        have cbu11 : u0.frozen? ⟨w.heap.size + 2, 0, none⟩ = false := by simp [World.frozen?, RXu0]
        go_simp
        refine hKK.out _ _ (su0.trans (Bt.set _ _ _)) (fun _ => ?_)
        clear hKK KK
        try simp only [Act.put]
        refine wpAnyH_name (fun u11 hu11 => ?_)
        have su11 : (Bt (w.heap.size + 2) W4) u11 := by rw [hu11.out]; exact (su0.trans (Bt.set _ _ _))
        have RZu11 : u11.heap[w.heap.size + 2]? = some (.cells #[.slice ua3 zl uc3] 30 (0, 0)) := by rw [hu11.out]; exact set_one RXu0
        refine wpAnyH_take (i := 11) (oi := { dst := some 7, op := Op.assign (Operand.tmp 77), type := 4, pos := "law.go:35", after := #[{ on := 9, ground := Ground.data }, { on := 10, ground := Ground.chain }, { on := 0, ground := Ground.phase }, { on := 1, ground := Ground.phase }, { on := 2, ground := Ground.phase }, { on := 3, ground := Ground.phase }, { on := 4, ground := Ground.phase }, { on := 5, ground := Ground.phase }, { on := 6, ground := Ground.phase }, { on := 7, ground := Ground.phase }, { on := 8, ground := Ground.phase }, { on := 9, ground := Ground.phase }, { on := 10, ground := Ground.phase }], guard := none }) (v := .bool true) rfl (by kernel_rfl) (by kernel_rfl) (by kernel_rfl) (fun _ _ _ h => h) (Or.inl ⟨by rfl, ?yt12⟩) su11 ?rt12
        case yt12 => (intro w hSw; go_simp; try with_reducible rfl)
        try simp only [Act.put, List.setIfInBounds_toArray, List.set_cons_zero, List.set_cons_succ]
        refine wpAnyH_done (by kernel_rfl) ?_ _
        have HRZ : Hid (u11.heap[w.heap.size + 2]? = some (.cells #[.slice ua3 zl uc3] 30 (0, 0))) := RZu11
        have HSB : Hid (Bt (w.heap.size + 2) W4 u11) := su11
        clear FR HQ4 HR4 HP4
        go_wp2
        exact bodyPost_ret (v := .tuple #[.agg #[.slice ua3 zl uc3], .bool true]) (retDo rfl rfl HRZ.out) rfl ⟨_, v2, rfl, (by rw [hdo.out]; exact D4.out.bt HSB.out (by have := HZZ.out.2; omega) (fun e => (HVV.out _ e).1 rfl) (fun e => (HRR.out _ e).1 rfl)), U4.out.btq HSB.out (by omega), HRO.out⟩
      exact AllReadyH.nil
    · have e2 : ((k % 4) == 2) = false := by simpa using h2
      have e3 : ((k % 4) == 3) = false := by simpa using h3
      have hdo : Hid (doP l (k, f, t) = adP l f t) := by unfold Hid doP; rw [if_neg h2, if_neg h3]
      rw [hdo.out] at hbc HLD
      have hrn := adP_cnt D1.out.st.cn f t
      rw [HCL.out] at hrn
      have cr := add_any w1 B g v l f t D1.out.st (by rw [HN.out]; omega) HHB.out
      rw [← hrn] at cr
      clear hrn
      go_wp2_with fail
      refine cr.mono ?_
      rintro e w2 ⟨rfl, v2, s2, u2⟩
      have U2 : Hid (SU w1 w2 g v v2) := u2
      have S2 : Hid (ST w2 B g v2 (adP l f t)) := s2
      obtain ⟨F0, F1, F2⟩ := HST.out w2 v2 u2
      have HF0 : Hid (w2.heap[w.heap.size]? = some (.cells #[.slice ua n uc] 30 (0, 0))) := F0
      have HF2 : Hid (w2.heap[w.heap.size + 2]? = some (.cells #[.slice none 0 0] 30 (0, 0))) := F2
      have kr2 : w2.cell? ⟨w.heap.size, 0, none⟩ = some (.slice ua n uc) := by simp [World.cell?, F0]
      have kf2 : w2.cell? ⟨w.heap.size + 1, 1, none⟩ = some (.int .i64 f) := by simp [World.cell?, F1]
      have kt2 : w2.cell? ⟨w.heap.size + 1, 2, none⟩ = some (.int .i64 t) := by simp [World.cell?, F1]
      have cd := radd_any w2 (.slice ua n uc) l f t (ssp_su D1.out.sp u2 D1.out.lt D1.out.ap) (by rw [HN.out]; omega) D1.out.st.cn
      clear cr u2 s2 F0 F1 F2 ka kf kt HST
      generalize adP l f t = L9 at *
      go_wp2_with fail
      refine cd.mono ?_
      rintro e w3 ⟨u3, rfl, sp3, hr3, b3⟩
      have D3 : Hid (DD w3 B g v2 u3 L9) := dd_next D1.out U2.out S2.out b3 sp3 hr3
      have HRO : Hid (rowB u3 = rowB (.slice ua n uc) ∨ ∀ k, rowB u3 = some k → w.heap.size ≤ k) := hr3.imp id (fun e k hk => by have h1 := HZZ.out.1; have h2 := U2.out.size; have := (e k hk).1; omega)
      have HRR : Hid (∀ i, rowB u3 = some i → i ≠ w.heap.size + 2 ∧ i ≠ w.heap.size) := fun i hi => by
        have h1 := HZZ.out.1
        have h2 := U2.out.size
        rcases hr3 with e | e
        · have := HRL.out i (e ▸ hi); omega
        · have := (e i hi).1; omega
      have HVV : Hid (∀ i, v2.ownBlock = some i → i ≠ w.heap.size + 2 ∧ i ≠ w.heap.size) := fun i hi => by
        have h1 := HZZ.out.1
        rcases U2.out.own with e | ⟨q, e, hq⟩
        · have := HOL.out i (e ▸ hi); omega
        · rw [e] at hi; cases hi; omega
      obtain ⟨ua3, uc3, rfl, -, -, -⟩ := sp3.shape
      have HG0 : Hid (w3.heap[w.heap.size]? = some (.cells #[.slice ua n uc] 30 (0, 0))) := blk_kept HF0.out b3 (blk_lt HF0.out)
      have HG2 : Hid (w3.heap[w.heap.size + 2]? = some (.cells #[.slice none 0 0] 30 (0, 0))) := blk_kept HF2.out b3 (blk_lt HF2.out)
      have U3 : Hid (SU w1 w3 g v v2) := U2.out.low b3
      have kc : w3.cell? ⟨w.heap.size, 0, none⟩ = some (.slice ua n uc) := by have := HG0.out; simp [World.cell?, this]
      have kz : w3.frozen? ⟨w.heap.size, 0, none⟩ = false := by have := HG0.out; simp [World.frozen?, this]
      clear cd sp3 hr3 b3 HF0 HF2 kr2 kf2 kt2 S2 U2
      generalize hzl : L9.length = zl at *
      have HZL : Hid (L9.length = zl) := hzl
      clear hzl
      obtain ⟨W4, hW4⟩ : ∃ W4, W4 = w3.setCell ⟨w.heap.size, 0, none⟩ (.slice ua3 zl uc3) := ⟨_, rfl⟩
      have hbt : Bt w.heap.size w3 W4 := by rw [hW4]; exact Bt.set _ _ _
      have HR4 : Hid (W4.heap[w.heap.size]? = some (.cells #[.slice ua3 zl uc3] 30 (0, 0))) := by unfold Hid; rw [hW4]; exact set_one HG0.out
      have HQ4 : Hid (W4.heap[w.heap.size + 2]? = some (.cells #[.slice none 0 0] 30 (0, 0))) := (hbt.block _ (blk_lt HG2.out) (by omega)).trans HG2.out
      have D4 : Hid (DD W4 B g v2 (.slice ua3 zl uc3) L9) := D3.out.bt hbt (by have := HZZ.out.2; omega) (fun e => (HVV.out _ e).2 rfl) (fun e => (HRR.out _ e).2 rfl)
      have U4 : Hid (SU w W4 g v v2) := (U3.out.front HBW.out).btq hbt (Nat.le_refl _)
      have FR : Hid (∀ x, Bt (w.heap.size + 2) W4 x → x.cell? ⟨w.heap.size, 0, none⟩ = some (.slice ua3 zl uc3)) := fun x hx => by
        have := (hx.block w.heap.size (blk_lt HR4.out) (by omega)).trans HR4.out
        simp [World.cell?, this]
      have CC : Hid (∀ x, Bt (w.heap.size + 2) W4 x → Calls Tryd.prog 25 #[.agg #[.slice ua3 zl uc3]] x fun e w' => e = .returned (.int .i64 (cnt L9)) ∧ Below x.heap.size x w') := fun x hx => rcount_any x _ L9 (D4.out.bt hx (by have := HZZ.out.2; omega) (fun e => (HVV.out _ e).1 rfl) (fun e => (HRR.out _ e).1 rfl)).sp D4.out.st.cn (by rw [HZL.out]; exact HLD.out.1)
      have sw1 : IntKind.i64.wrap (cl - cnt L9) = cl - cnt L9 := by rw [IntKind.wrap_i64]; omega
      clear hbt HG0 HG2 D3 U3
      go_upto_region 5 with fail
      rw [← hW4]
      clear hW4 kc kz
      refine wp_region_held_drew (S := Bt (w.heap.size + 2) W4) (by kernel_rfl) (Bt.drew _ _) (fun _ => ?_)
      refine wpAnyH_name (fun u0 hu0 => ?_)
      have su0 : (Bt (w.heap.size + 2) W4) u0 := by rw [hu0.out]; exact (Bt.drew _ _)
      have RXu0 : u0.heap[w.heap.size + 2]? = some (.cells #[.slice none 0 0] 30 (0, 0)) := by rw [hu0.out]; exact HQ4.out
      refine wpAnyH_take (i := 0) (oi := { dst := some 30, op := Op.load 30 (Operand.tmp 4), type := 30, pos := "law.go:39", after := #[], guard := none }) (v := .agg #[.slice ua3 zl uc3]) rfl (by kernel_rfl) (by kernel_rfl) (by kernel_rfl) (fun _ _ _ h => h) (Or.inl ⟨by rfl, ?ys1⟩) su0 ?rs1
      case ys1 => (intro w hSw; have t0 := FR.out w hSw; go_simp; try with_reducible rfl)
      try simp only [Act.put, List.setIfInBounds_toArray, List.set_cons_zero, List.set_cons_succ]
      refine wpAnyH_take (i := 1) (oi := { dst := some 31, op := Op.move (Operand.tmp 12), type := 4, pos := "law.go:39", after := #[{ on := 7, ground := Ground.gcOnly Departure.lateStores }], guard := none }) (v := ?vs2) rfl (by kernel_rfl) (by kernel_rfl) (by kernel_rfl) (fun _ _ _ h => h) (Or.inl ⟨by rfl, ?ys2⟩) su0 ?rs2
      case ys2 => (intro w hSw; go_simp; try with_reducible rfl)
      try simp only [Act.put, List.setIfInBounds_toArray, List.set_cons_zero, List.set_cons_succ]
      refine wpAnyH_take (i := 2) (oi := { dst := some 32, op := Op.load 30 (Operand.tmp 4), type := 30, pos := "law.go:39", after := #[], guard := none }) (v := .agg #[.slice ua3 zl uc3]) rfl (by kernel_rfl) (by kernel_rfl) (by kernel_rfl) (fun _ _ _ h => h) (Or.inl ⟨by rfl, ?ys3⟩) su0 ?rs3
      case ys3 => (intro w hSw; have t0 := FR.out w hSw; go_simp; try with_reducible rfl)
      try simp only [Act.put, List.setIfInBounds_toArray, List.set_cons_zero, List.set_cons_succ]
      refine wpAnyH_take (i := 4) (oi := { dst := some 34, op := Op.move (Operand.tmp 8), type := 3, pos := "law.go:39", after := #[{ on := 7, ground := Ground.gcOnly Departure.lateStores }], guard := none }) (v := ?vs4) rfl (by kernel_rfl) (by kernel_rfl) (by kernel_rfl) (fun _ _ _ h => h) (Or.inl ⟨by rfl, ?ys4⟩) su0 ?rs4
      case ys4 => (intro w hSw; go_simp; try with_reducible rfl)
      try simp only [Act.put, List.setIfInBounds_toArray, List.set_cons_zero, List.set_cons_succ]
      refine wpAnyH_ready (rs := [3]) (by kernel_rfl) (by simp) ?_
      refine AllReadyH.cons (o := { dst := some 33, op := Op.call { callee := Callee.value (Operand.func 25), args := #[Operand.tmp 32], argTypes := #[30] }, type := 3, pos := "law.go:39", after := #[{ on := 2, ground := Ground.data }], guard := none }) rfl (fun KK hKK => ?_) ?_
      · go_simp
        refine (CC.out _ su0).mono ?_
        rintro e u5' ⟨rfl, bu5'⟩
        (try go_wp2_with fail)
        refine hKK.out _ _ (su0.trans (Bt.of bu5')) (fun _ => ?_)
        clear hKK KK
        try simp only [Act.put, List.setIfInBounds_toArray, List.set_cons_zero, List.set_cons_succ]
        refine wpAnyH_name (fun u5 hu5 => ?_)
        have su5 : (Bt (w.heap.size + 2) W4) u5 := by rw [hu5.out]; exact (su0.trans (Bt.of bu5'))
        have RXu5 : u5.heap[w.heap.size + 2]? = some (.cells #[.slice none 0 0] 30 (0, 0)) := by rw [hu5.out]; exact (blk_kept RXu0 bu5' (blk_lt RXu0))
        refine wpAnyH_take (i := 5) (oi := { dst := some 35, op := Op.binOp BinOp.gtr 3 (Operand.tmp 33) (Operand.tmp 34) 3, type := 4, pos := "law.go:39", after := #[{ on := 3, ground := Ground.data }, { on := 4, ground := Ground.data }, { on := 7, ground := Ground.gcOnly Departure.lateStores }], guard := none }) (v := ?vs6) rfl (by kernel_rfl) (by kernel_rfl) (by kernel_rfl) (fun _ _ _ h => h) (Or.inl ⟨by rfl, ?ys6⟩) su5 ?rs6
        case ys6 => (intro w hSw; go_simp; try with_reducible rfl)
        try simp only [Act.put, List.setIfInBounds_toArray, List.set_cons_zero, List.set_cons_succ]
        refine wpAnyH_take (i := 6) (oi := { dst := some 36, op := Op.binOp BinOp.eql 4 (Operand.tmp 31) (Operand.tmp 35) 4, type := 4, pos := "law.go:39", after := #[{ on := 1, ground := Ground.data }, { on := 5, ground := Ground.data }, { on := 7, ground := Ground.gcOnly Departure.lateStores }], guard := none }) (v := .bool true) rfl (by kernel_rfl) (by kernel_rfl) (by kernel_rfl) (fun _ _ _ h => h) (Or.inl ⟨by rfl, ?ys7⟩) su5 ?rs7
        case ys7 => (intro w hSw; go_simp; try with_reducible rfl)
        try simp only [Act.put, List.setIfInBounds_toArray, List.set_cons_zero, List.set_cons_succ]
        refine wpAnyH_ready (rs := [7]) (by kernel_rfl) (by simp) ?_
        refine AllReadyH.cons (o := { dst := none, op := Op.store 30 (Operand.tmp 6) (Operand.tmp 30), type := 0, pos := "law.go:39", after := #[{ on := 0, ground := Ground.data }, { on := 3, ground := Ground.chain }, { on := 0, ground := Ground.phase }, { on := 1, ground := Ground.textOnly Departure.lateStores }, { on := 2, ground := Ground.textOnly Departure.lateStores }, { on := 3, ground := Ground.textOnly Departure.lateStoresUnsure }, { on := 4, ground := Ground.textOnly Departure.lateStores }, { on := 5, ground := Ground.textOnly Departure.lateStores }, { on := 6, ground := Ground.textOnly Departure.lateStores }], guard := none }) rfl (fun KK hKK => ?_) ?_
        · have cau8 : u5.cell? ⟨w.heap.size + 2, 0, none⟩ = some (.slice none 0 0) := by simp [World.cell?, RXu5]
          have cbu8 : u5.frozen? ⟨w.heap.size + 2, 0, none⟩ = false := by simp [World.frozen?, RXu5]
          go_simp
          refine hKK.out _ _ (su5.trans (Bt.set _ _ _)) (fun _ => ?_)
          clear hKK KK
          try simp only [Act.put]
          refine wpAnyH_name (fun u8 hu8 => ?_)
          have su8 : (Bt (w.heap.size + 2) W4) u8 := by rw [hu8.out]; exact (su5.trans (Bt.set _ _ _))
          have RZu8 : u8.heap[w.heap.size + 2]? = some (.cells #[.slice ua3 zl uc3] 30 (0, 0)) := by rw [hu8.out]; exact set_one RXu5
          refine wpAnyH_take (i := 8) (oi := { dst := some 7, op := Op.assign (Operand.tmp 36), type := 4, pos := "law.go:39", after := #[{ on := 6, ground := Ground.data }, { on := 7, ground := Ground.chain }, { on := 0, ground := Ground.phase }, { on := 1, ground := Ground.phase }, { on := 2, ground := Ground.phase }, { on := 3, ground := Ground.phase }, { on := 4, ground := Ground.phase }, { on := 5, ground := Ground.phase }, { on := 6, ground := Ground.phase }, { on := 7, ground := Ground.phase }], guard := none }) (v := ?vs9) rfl (by kernel_rfl) (by kernel_rfl) (by kernel_rfl) (fun _ _ _ h => h) (Or.inl ⟨by rfl, ?ys9⟩) su8 ?rs9
          case ys9 => (intro w hSw; go_simp; try with_reducible rfl)
          try simp only [Act.put, List.setIfInBounds_toArray, List.set_cons_zero, List.set_cons_succ]
          refine wpAnyH_done (by kernel_rfl) ?_ _
          have HRZ : Hid (u8.heap[w.heap.size + 2]? = some (.cells #[.slice ua3 zl uc3] 30 (0, 0))) := RZu8
          have HSB : Hid (Bt (w.heap.size + 2) W4 u8) := su8
          clear FR CC HQ4 HR4
          go_wp2
          exact bodyPost_ret (v := .tuple #[.agg #[.slice ua3 zl uc3], .bool true]) (retDo rfl rfl HRZ.out) rfl ⟨_, v2, rfl, (by rw [hdo.out]; exact D4.out.bt HSB.out (by have := HZZ.out.2; omega) (fun e => (HVV.out _ e).1 rfl) (fun e => (HRR.out _ e).1 rfl)), U4.out.btq HSB.out (by omega), HRO.out⟩
        exact AllReadyH.nil
      exact AllReadyH.nil
end Go.Proofs.YtaghmoddalbepaaDoor
namespace Go.Proofs.YtaghmoddalbepaaDoor
open Go.RowKit Go.Shelf
set_option maxRecDepth 100000

theorem CQ.kept {w w' : World} {v : Value} {l : List Cal} (h : CQ w v l) (hb : Below w.heap.size w w') : CQ w' v l := ⟨h.is.kept hb, h.ok⟩
theorem CQ.at {w : World} {a : Option Addr} {n c : Nat} {l : List Cal} (h : CQ w (.slice a n c) l) (i : Nat) (hi : i < l.length) : ∃ b off, a = some ⟨b, off, none⟩ ∧ w.cell? ⟨b, off + i * 3, none⟩ = some (.int .u8 (atK l i).1) ∧ w.cell? ⟨b, off + i * 3 + 1, none⟩ = some (.int .i64 (atK l i).2.1) ∧ w.cell? ⟨b, off + i * 3 + 2, none⟩ = some (.int .i64 (atK l i).2.2) := by
  obtain ⟨b, off, e, hr⟩ := h.is.at i (by rw [List.length_map]; exact hi)
  have e2 : atC (l.map a3c) i = a3c (atK l i) := by simp [atC, atK, List.getD, List.getElem?_eq_getElem hi]
  rw [e2] at hr
  exact ⟨b, off, e, hr 0 _ rfl, hr 1 _ rfl, hr 2 _ rfl⟩
theorem CQ.shape {w : World} {v : Value} {l : List Cal} (h : CQ w v l) : ∃ a c, v = .slice a l.length c := by
  obtain ⟨a, c, e, _⟩ := h.is.shape
  exact ⟨a, c, by rw [List.length_map] at e; exact e⟩
/-- A set, and the document's spans in their variable. -/
structure DB (w : World) (B g rb : Nat) (v u : Value) (l : List Sp) : Prop where
  dd : DD w B g v u l
  bx : w.heap[rb]? = some (.cells #[u] 30 (0, 0))
  lo : ∀ k, rowB u = some k → B ≤ k
  ne : rb ≠ g
  lt : rb < B ∧ g < B
theorem DB.own {w : World} {B g rb : Nat} {v u : Value} {l : List Sp} (h : DB w B g rb v u l) : ∀ k, v.ownBlock = some k → B ≤ k := own_base h.dd.st.rs.1
theorem DB.below {w w' : World} {B g rb : Nat} {v u : Value} {l : List Sp} (h : DB w B g rb v u l) (hb : Below w.heap.size w w') : DB w' B g rb v u l :=
  ⟨⟨h.dd.st.below hb, h.dd.sp.kept hb, fun k hk => ⟨Nat.lt_of_lt_of_le (h.dd.lt k hk).1 hb.size, (h.dd.lt k hk).2⟩, h.dd.ap⟩, blk_kept h.bx hb (blk_lt h.bx), h.lo, h.ne, h.lt⟩
theorem DB.cell {w : World} {B g rb : Nat} {v u : Value} {l : List Sp} (h : DB w B g rb v u l) : w.cell? ⟨rb, 0, none⟩ = some u := by have := h.bx; simp [World.cell?, this]
theorem db_new {w : World} {B g rb : Nat} (h : ST w B g (.slice none 0 0) []) (hb : w.heap[rb]? = some (.cells #[.slice none 0 0] 30 (0, 0))) (hn : rb ≠ g) (hl : rb < B ∧ g < B) : DB w B g rb (.slice none 0 0) (.slice none 0 0) [] :=
  ⟨⟨h, SSp.nil w, (fun k e => by cases e), (fun k e => by cases e)⟩, hb, (fun k e => by cases e), hn, hl⟩
/-- Ahead of the store. -/
theorem db_do {w w' : World} {B g rb : Nat} {v v' u u' : Value} {l l' : List Sp} (h : DB w B g rb v u l) (d : DD w' B g v' u' l') (s : SU w w' g v v') (hr : rowB u' = rowB u ∨ ∀ k, rowB u' = some k → w.heap.size ≤ k) (hB : B ≤ w.heap.size) :
    w'.heap[rb]? = some (.cells #[u] 30 (0, 0)) ∧ DB (w'.setCell ⟨rb, 0, none⟩ u') B g rb v' u' l' := by
  have hx : w'.heap[rb]? = some (.cells #[u] 30 (0, 0)) := (s.block rb (blk_lt h.bx) h.ne (fun e => by have := h.own _ e; have := h.lt; omega)).trans h.bx
  have lo : ∀ k, rowB u' = some k → B ≤ k := fun k hk => by
    rcases hr with e | e
    · exact h.lo k (e ▸ hk)
    · exact Nat.le_trans hB (e k hk)
  refine ⟨hx, d.bt (Bt.set rb w' u') h.ne.symm (fun e => ?_) (fun e => ?_), set_one hx, lo, h.ne, h.lt⟩
  · have := own_base d.st.rs.1 _ e
    have := h.lt
    omega
  · have := lo _ e
    have := h.lt
    omega
theorem db_below {w0 w w' : World} {n B g rb : Nat} {v v' u u' : Value} {l : List Sp} (h : DB w B g rb v u l) (s : SU w w' g v v') (b : Below n w0 w) (hn : n ≤ w.heap.size) (hg : n ≤ g) (hr : n ≤ rb) : Below n w0 (w'.setCell ⟨rb, 0, none⟩ u') :=
  (su_below s b hn hg (fun k e => by have := h.own _ e; have := h.lt; omega)).setCell hr _
/-- The gaps, put in one after another. -/
def gpS (G : List Sp) (s : List Sp) : List Sp := G.foldl (fun s x => adP s x.1 x.2) s
theorem gpS_snoc (G : List Sp) (s : List Sp) (x : Sp) : gpS (G ++ [x]) s = adP (gpS G s) x.1 x.2 := by unfold gpS; rw [List.foldl_append]; rfl
theorem adP_mm {s : List Sp} (h : Canon s) {x : Sp} (hx : Okk x) (n : Int) : Mem (adP s x.1 x.2) n ↔ Mem s n ∨ (x.1 ≤ n ∧ n ≤ x.2) := by
  have hm : may x.1 x.2 = true := (may_iff x.1 x.2).2 hx
  rw [← adP_eq h, if_pos hm, radd_eq h hx]
  exact (add_spec h hx).2 n
theorem gpS_spec : ∀ (G s : List Sp), Canon s → (∀ x ∈ G, Okk x) → Canon (gpS G s) ∧ (gpS G s).length ≤ s.length + G.length ∧ ∀ n, Mem (gpS G s) n ↔ Mem s n ∨ Mem G n
  | [], s, h, _ => ⟨h, by simp [gpS], fun n => ⟨.inl, fun e => e.elim id (fun q => (mem_nil n q).elim)⟩⟩
  | x :: G, s, h, ho => by
    obtain ⟨i1, i2, i3⟩ := gpS_spec G (adP s x.1 x.2) (adP_canon h _ _) (fun y hy => ho y (List.mem_cons_of_mem _ hy))
    have hl := adP_len h x.1 x.2
    refine ⟨i1, ?_, fun n => ?_⟩
    · rw [List.length_cons]
      show (gpS G (adP s x.1 x.2)).length ≤ _
      omega
    · show Mem (gpS G (adP s x.1 x.2)) n ↔ _
      rw [i3, adP_mm h (ho x (List.mem_cons_self ..)), mem_cons, or_assoc]
theorem clip_none {l : List Sp} (h : Canon l) {x : Sp} (hx : Okk x) (hn : ∀ n, x.1 ≤ n → n ≤ x.2 → ¬ Mem l n) : clip l x.1 x.2 = [] :=
  canon_ext (clip_canon h hx.2.1) Canon.nil fun n => by
    rw [clip_mem h]
    exact ⟨fun e => (hn n e.2.1 e.2.2 e.1).elim, fun e => (mem_nil n e).elim⟩
theorem gap_len (t : Int) : ∀ (c : List Sp) (f : Int), (gap t f c).length ≤ c.length + 1
  | [], f => by unfold gap; split <;> simp
  | x :: c, f => by
    have := gap_len t c (x.2 + 1)
    unfold gap
    rw [List.length_append, List.length_cons]
    split
    · rw [List.length_singleton]; omega
    · rw [List.length_nil]; omega
theorem gapL_len (l : List Sp) (f t : Int) : (gapL l f t).length ≤ l.length + 1 := by
  unfold gapL
  split
  · have := gap_len t (clip l f t) f
    have := clip_len l f t
    omega
  · simp
/-- A gap ahead of the others that were put in. -/
theorem gp_step {Z : List Sp} (hZ : Canon Z) {f t : Int} (hok : Okk (f, t)) {j : Nat} (hj : j < (gapL Z f t).length) :
    rmN (gpS ((gapL Z f t).take j) Z) (atS (gapL Z f t) j).1 (atS (gapL Z f t) j).2 = 0 ∧ rmP (gpS ((gapL Z f t).take j) Z) (atS (gapL Z f t) j).1 (atS (gapL Z f t) j).2 = gpS ((gapL Z f t).take j) Z ∧
    adB (gpS ((gapL Z f t).take j) Z) (atS (gapL Z f t) j).1 (atS (gapL Z f t) j).2 = true ∧ adP (gpS ((gapL Z f t).take j) Z) (atS (gapL Z f t) j).1 (atS (gapL Z f t) j).2 = gpS ((gapL Z f t).take (j + 1)) Z := by
  obtain ⟨g1, g2⟩ := gapL_spec hZ hok
  generalize gapL Z f t = G at *
  have hx : Okk (atS G j) := g1.1 _ (atS_mem G j hj)
  obtain ⟨s1, -, s3⟩ := gpS_spec (G.take j) Z hZ (fun y hy => g1.1 y (List.mem_of_mem_take hy))
  have hc : clip (gpS (G.take j) Z) (atS G j).1 (atS G j).2 = [] := clip_none s1 hx fun n h1 h2 hm => by
    rcases (s3 n).1 hm with e | ⟨y, hy, h3, h4⟩
    · exact ((g2 n).1 ⟨_, atS_mem G j hj, h1, h2⟩).2 e
    · obtain ⟨k, hk, hkl, rfl⟩ := mem_take.1 hy
      have := g1.rise hk hj
      omega
  have hm : may (atS G j).1 (atS G j).2 = true := (may_iff _ _).2 hx
  refine ⟨?_, ?_, ?_, ?_⟩
  · unfold rmN; rw [if_pos hm, hc]; rfl
  · unfold rmP remL; rw [if_pos hm, if_pos hc]
  · unfold adB
    rw [hm, hc]
    have := hx.2.1
    simp only [cnt, Bool.true_and, Bool.not_eq_true']
    refine decide_eq_false ?_
    omega
  · rw [List.take_succ_eq_append_getElem hj, gpS_snoc, atS_eq G j hj]
theorem gp_end {Z : List Sp} (hZ : Canon Z) {f t : Int} (hok : Okk (f, t)) : gapL (gpS (gapL Z f t) Z) f t = [] ∧ cnt (clip (gpS (gapL Z f t) Z) f f) > 0 ∧ cnt (clip (gpS (gapL Z f t) Z) t t) > 0 := by
  obtain ⟨g1, g2⟩ := gapL_spec hZ hok
  obtain ⟨s1, -, s3⟩ := gpS_spec (gapL Z f t) Z hZ g1.1
  obtain ⟨e1, e2⟩ := gapL_spec s1 hok
  have hft := hok.2.1
  simp only at hft
  have all : ∀ n, f ≤ n → n ≤ t → Mem (gpS (gapL Z f t) Z) n := fun n h1 h2 => by
    rw [s3]
    by_cases hm : Mem Z n
    · exact .inl hm
    · exact .inr ((g2 n).2 ⟨⟨h1, h2⟩, hm⟩)
  have hp : ∀ n, f ≤ n → n ≤ t → cnt (clip (gpS (gapL Z f t) Z) n n) > 0 := fun n h1 h2 => by
    have := has_cnt s1 n
    rw [(has_iff _ n).2 (all n h1 h2)] at this
    simpa using this
  refine ⟨canon_ext e1 Canon.nil fun n => ?_, hp f (Int.le_refl _) hft, hp t hft (Int.le_refl _)⟩
  rw [e2]
  exact ⟨fun q => (q.2 (all n q.1.1 q.1.2)).elim, fun q => (mem_nil n q).elim⟩
end Go.Proofs.YtaghmoddalbepaaDoor
namespace Go.Proofs.YtaghmoddalbepaaDoor
open Go.ChangeShapes Go.WideShapes Go.ChangeAt Go.RowKit Go.Deep
set_option maxRecDepth 100000

theorem bytes5 : Tryd.prog.bytesOf 5 = 1 := by kernel_rfl
/-- What the walks are told of a slice of bytes that came in: it is nil; or it leads to a row of 'cap' cells that hold the bytes zs, the first 'len' of them its own. -/
def Bytes (w : World) (a : Option Addr) (len cap : Nat) (zs : List Int) : Prop :=
  (∀ i, 0 ≤ zs.getD i 0 ∧ zs.getD i 0 < 256) ∧ zs.length = cap ∧ len ≤ cap ∧ cap ≤ 140737488351232 ∧
  ((a = none ∧ cap = 0) ∨ ∃ x, a = some x ∧ ∀ i, i < cap → w.cell? (x.add i) = some (.int .u8 (zs.getD i 0)))

theorem bytes_open {H : Type} {enc : TypeId × Value → H} {W : World} {base : Nat} {v : Value} {d : DataW H} {p : List MemPlace} {ts : List TypeId} {ds : List (DataW H)} (j : Nat)
    (hval : Value.okWide Tryd.prog W .any base 50 v) (h : DataW.Trod enc Tryd.prog W 0 (fun _ => true) true 50 v d p)
    (hsz : (DataW.weightsEach Tryd.prog ts ds).all (· ≤ reachBytes) = true) (ht : ts[j]? = some 50) (hd : ds[j]? = some d) :
    ∃ a len cap zs, v = .slice a len cap ∧ Bytes W a len cap zs := by
  obtain ⟨a0, len0, cap0, rfl⟩ := okWide_slice Tryd.underlying50 hval
  obtain ⟨fuel, hf⟩ := h
  rcases open_ints Tryd.underlying50 Tryd.underlying5 cells5 hf with ⟨hcs, _⟩ | ⟨x, l, c, zs, hcs, _, hl, hm, hz, hx, hcell, hwz⟩
  · simp [Value.cells] at hcs
    obtain ⟨rfl, rfl, rfl⟩ := hcs
    exact ⟨none, 0, 0, [], rfl, fun i => by simp, rfl, Nat.le_refl _, by omega, .inl ⟨rfl, rfl⟩⟩
  · simp [Value.cells] at hcs
    obtain ⟨rfl, rfl, rfl⟩ := hcs
    simp only [Prod.mk.injEq] at hx
    obtain ⟨rfl, _⟩ := hx
    have hs := sized_slice hsz (j := j) (t := 50) (e := 5) ht hd Tryd.underlying50
    rw [bytes5] at hs
    simp only [if_true] at hz
    simp only [lits, List.length_map, List.length_take, List.length_drop, reachBytes] at hs
    refine ⟨some x, len0, cap0, zs, rfl, fun i => ?_, hz, hl, by omega, .inr ⟨x, rfl, fun i hi => hcell i (by omega)⟩⟩
    have := range_u8 hwz i
    rw [List.getD_eq_getElem?_getD]
    omega

theorem Bytes.row {w : World} {a : Option Addr} {len cap : Nat} {zs : List Int} (h : Bytes w a len cap zs) : Row w a len cap zs := by
  obtain ⟨hb, hz, hl, hm, h⟩ := h
  rcases Nat.eq_zero_or_pos len with h0 | h0
  · exact .inl h0
  · rcases h with ⟨_, h⟩ | ⟨x, rfl, hc⟩
    · omega
    · obtain ⟨b, off, spot⟩ := x
      have hspot : spot = none := by simpa [Addr.add] using World.cell?_spot (hc 0 (by omega))
      subst hspot
      exact .inr ⟨h0, b, off, rfl, hl, by unfold maxLen; omega, fun i hi => by have := hc i (by omega); rwa [Addr.add_lit] at this, hb⟩

theorem Bytes.below {w w' : World} {a : Option Addr} {len cap : Nat} {zs : List Int} (h : Bytes w a len cap zs) (hb : Below w.heap.size w w') : Bytes w' a len cap zs := by
  obtain ⟨h1, h2, h3, h4, h⟩ := h
  refine ⟨h1, h2, h3, h4, ?_⟩
  rcases h with h | ⟨x, rfl, hc⟩
  · exact .inl h
  · exact .inr ⟨x, rfl, fun i hi => (hb.cell (p := x.add i) (World.block_lt_of_cell? _ _ (hc i hi))).trans (hc i hi)⟩

theorem Bytes.sl {w : World} {a : Option Addr} {len cap : Nat} {zs : List Int} (h : Bytes w a len cap zs) : Sl w (.slice a len cap) (zs.take len) := by
  have hr := h.row
  obtain ⟨hb, hz, hl, hm, h⟩ := h
  have hlen : (zs.take len).length = len := by rw [List.length_take]; omega
  have hn : a = none → cap = 0 := fun e => by
    rcases h with ⟨_, h⟩ | ⟨x, hx, _⟩
    · exact h
    · rw [e] at hx; cases hx
  refine ⟨a, cap, by rw [hlen], by rw [hlen]; exact hl, by unfold maxLen; omega, hn, ?_⟩
  rw [hlen]
  rcases hr with h | ⟨hp, b, off, rfl, h1, h2, hc, hz'⟩
  · exact .inl h
  · refine .inr ⟨hp, b, off, rfl, h1, h2, fun i hi => ?_, fun i => ?_⟩
    · rw [hc i hi]; simp [List.getD, hi]
    · by_cases hi : i < len
      · have := hb i
        simpa [List.getD, List.getElem?_take, hi] using this
      · simp [List.getD, List.getElem?_take, hi]
theorem ow_new (w : World) : Ow (w.alloc (.cells #[] 5)) w.heap.size (.slice (some ⟨w.heap.size, 0, none⟩) 0 0) [] :=
  ⟨⟨rfl, .inr ⟨w.heap.size, 0, #[], rfl, Nat.le_refl _, heap_alloc_new _ _, Nat.le_refl _, by unfold maxLen; omega, rfl, rfl⟩⟩, fun k => by simp⟩
theorem bytes_app (X Y : List Int) (hx : ∀ i, 0 ≤ X.getD i 0 ∧ X.getD i 0 < 256) (hy : ∀ i, 0 ≤ Y.getD i 0 ∧ Y.getD i 0 < 256) : ∀ i, 0 ≤ (X ++ Y).getD i 0 ∧ (X ++ Y).getD i 0 < 256 := fun i => by
  by_cases h : i < X.length
  · have := hx i
    simpa [List.getD, List.getElem?_append_left h] using this
  · have := hy (i - X.length)
    simpa [List.getD, List.getElem?_append_right (show X.length ≤ i by omega)] using this
theorem putB_pp {l : List Sp} (h : Canon l) (hn : l ≠ []) (hl : l.length ≤ 64) : 0 < (putB l).length := by
  rcases Nat.eq_zero_or_pos (putB l).length with e | e
  · have h1 := getP_put h hn hl []
    rw [List.length_eq_zero_iff.1 e] at h1
    have h2 : getP ([] ++ []) = ([], 0, 3) := by rfl
    rw [h2] at h1
    simp at h1
  · exact e
theorem putB_len2 {l : List Sp} (hl : l.length ≤ 64) : (putB l).length ≤ 1032 := putB_len hl
end Go.Proofs.YtaghmoddalbepaaDoor
namespace Go.Proofs.YtaghmoddalbepaaDoor
open Go.RowKit Go.Shelf
set_option maxRecDepth 100000

/-- The document's spans in a variable. -/
structure XB (w : World) (rb : Nat) (u : Value) (l : List Sp) : Prop where
  bx : w.heap[rb]? = some (.cells #[u] 30 (0, 0))
  sp : SSp w u l
  cn : Canon l
  lt : ∀ k, rowB u = some k → k < w.heap.size ∧ k ≠ rb
theorem XB.below {w w' : World} {rb : Nat} {u : Value} {l : List Sp} (h : XB w rb u l) (hb : Below w.heap.size w w') : XB w' rb u l :=
  ⟨blk_kept h.bx hb (blk_lt h.bx), h.sp.kept hb, h.cn, fun k hk => ⟨Nat.lt_of_lt_of_le (h.lt k hk).1 hb.size, (h.lt k hk).2⟩⟩
theorem XB.cell {w : World} {rb : Nat} {u : Value} {l : List Sp} (h : XB w rb u l) : w.cell? ⟨rb, 0, none⟩ = some u := by have := h.bx; simp [World.cell?, this]
theorem XB.step {w w' : World} {rb : Nat} {u u' : Value} {l l' : List Sp} (h : XB w rb u l) (s : SSp w' u' l') (hr : rowB u' = rowB u ∨ ∀ k, rowB u' = some k → w.heap.size ≤ k ∧ k < w'.heap.size) (hb : Below w.heap.size w w') (hc : Canon l') :
    w'.heap[rb]? = some (.cells #[u] 30 (0, 0)) ∧ XB (w'.setCell ⟨rb, 0, none⟩ u') rb u' l' := by
  have hx := blk_kept h.bx hb (blk_lt h.bx)
  have h1 := blk_lt h.bx
  have lt : ∀ k, rowB u' = some k → k < w'.heap.size ∧ k ≠ rb := fun k hk => by
    rcases hr with e | e
    · have q := h.lt k (e ▸ hk)
      have := hb.size
      exact ⟨by omega, q.2⟩
    · have := e k hk
      exact ⟨this.2, by omega⟩
  refine ⟨hx, set_one hx, s.bt (Bt.set rb w' u') lt, hc, fun k hk => ⟨?_, (lt k hk).2⟩⟩
  simp only [World.setCell, Array.size_modify]
  exact (lt k hk).1
theorem one_sp (w : World) (x : Sp) : SSp (w.alloc (.cells #[.int .i64 x.1, .int .i64 x.2] 58)) (.slice (some ⟨w.heap.size, 0, none⟩) 1 1) [x] :=
  RSp.is (B := 0) (RSp.of ⟨rfl, .inr ⟨w.heap.size, 1, _, rfl, Nat.zero_le _, heap_alloc_new _ _, Nat.le_refl _, by unfold maxLen; omega, rfl, rfl⟩⟩)
/-- The document's gaps, span by span. -/
def rgF (X : List Sp) (l : List Sp) : List Sp := l.foldl (fun X s => rmP X s.1 s.2) X
theorem rgF_snoc (X l : List Sp) (s : Sp) : rgF X (l ++ [s]) = rmP (rgF X l) s.1 s.2 := by unfold rgF; rw [List.foldl_append]; rfl
theorem rmP_len (X : List Sp) (f t : Int) : (rmP X f t).length ≤ X.length + 2 := by
  unfold rmP
  split
  · exact remL_len _ _ _
  · omega
theorem rgF_spec : ∀ (l X : List Sp), Canon X → (∀ s ∈ l, Okk s) → Canon (rgF X l) ∧ (rgF X l).length ≤ X.length + 2 * l.length ∧ rgF X l = rGs l X
  | [], X, h, _ => ⟨h, by simp [rgF], rfl⟩
  | s :: l, X, h, ho => by
    obtain ⟨i1, i2, i3⟩ := rgF_spec l (rmP X s.1 s.2) (rmP_canon h _ _) (fun y hy => ho y (List.mem_cons_of_mem _ hy))
    have hl := rmP_len X s.1 s.2
    have e : rmP X s.1 s.2 = rRem X s.1 s.2 := by rw [← rmP_eq h, if_pos ((may_iff s.1 s.2).2 (ho s (List.mem_cons_self ..)))]
    refine ⟨i1, ?_, ?_⟩
    · rw [List.length_cons]
      show (rgF (rmP X s.1 s.2) l).length ≤ _
      omega
    · show rgF (rmP X s.1 s.2) l = rGs (s :: l) X
      rw [i3, e]
      rfl
set_option maxHeartbeats 8000000 in
theorem rgaps_any (w : World) (u : Value) (l : List Sp) (f t : Int) (hu : SSp w u l) (hl : l.length ≤ 400) (hc : Canon l) :
    Calls Tryd.prog 30 #[.agg #[u], .int .i64 f, .int .i64 t] w fun e w' => ∃ v', e = .returned v' ∧ SSp w' v' (gapL l f t) ∧ Below w.heap.size w w' := by
  obtain ⟨a, c, rfl, -, -, -⟩ := hu.shape
  obtain ⟨W0, hW0⟩ : ∃ W0, W0 = w.alloc (.cells #[.slice a l.length c] 30) := ⟨_, rfl⟩
  have b0 : Below w.heap.size w W0 := by rw [hW0]; exact al_below _ _
  have s0 : W0.heap.size = w.heap.size + 1 := by rw [hW0]; simp
  have g0 : W0.heap[w.heap.size]? = some (.cells #[.slice a l.length c] 30 (0, 0)) := by rw [hW0]; exact heap_alloc_new _ _
  have cm := rmay_any f t W0
  by_cases hm : may f t = true
  · rw [hm] at cm
    have hok := (may_iff f t).1 hm
    obtain ⟨W1, hW1⟩ : ∃ W1, W1 = W0.alloc (.cells #[.int .i64 f, .int .i64 t] 58) := ⟨_, rfl⟩
    have b1 : Below W0.heap.size W0 W1 := by rw [hW1]; exact al_below _ _
    have s1 : W1.heap.size = w.heap.size + 2 := by rw [hW1]; simp; omega
    have g1 : W1.heap[w.heap.size]? = some (.cells #[.slice a l.length c] 30 (0, 0)) := blk_kept g0 b1 (by omega)
    have g2 : W1.heap[w.heap.size + 1]? = some (.cells #[.int .i64 f, .int .i64 t] 58 (0, 0)) := by rw [hW1, ← s0]; exact heap_alloc_new _ _
    obtain ⟨W2, hW2⟩ : ∃ W2, W2 = W1.alloc (.cells #[.slice (some ⟨w.heap.size + 1, 0, none⟩) 1 1] 30) := ⟨_, rfl⟩
    have b2 : Below W1.heap.size W1 W2 := by rw [hW2]; exact al_below _ _
    have HBW : Hid (Below w.heap.size w W1) := b0.trans (b1.mono b0.size)
    have HB2 : Hid (Below W1.heap.size W1 W2) := b2
    have HS1 : Hid (W1.heap.size = w.heap.size + 2) := s1
    have s2 : W2.heap.size = w.heap.size + 3 := by rw [hW2]; simp; omega
    have HX2 : Hid (XB W2 (w.heap.size + 2) (.slice (some ⟨w.heap.size + 1, 0, none⟩) 1 1) [(f, t)]) := by
      refine ⟨by rw [hW2, ← s1]; exact heap_alloc_new _ _, ?_, Canon.one hok, fun k hk => ?_⟩
      · have hg := blk_kept g2 b2 (by omega)
        have : SSp W1 (.slice (some ⟨w.heap.size + 1, 0, none⟩) 1 1) [(f, t)] := by
          rw [hW1, ← s0]
          exact one_sp W0 (f, t)
        exact this.kept b2
      · obtain rfl : w.heap.size + 1 = k := by simpa [rowB] using hk
        omega
    have HCL : Hid (∀ W, Below W1.heap.size W1 W → W.cell? ⟨w.heap.size, 0, none⟩ = some (.slice a l.length c)) := fun W hb => by have := blk_kept g1 hb (blk_lt g1); simp [World.cell?, this]
    have HAT : Hid (∀ j, j < l.length → ∀ W, Below W1.heap.size W1 W → ∃ b off, a = some ⟨b, off, none⟩ ∧ W.cell? ⟨b, off + j * 2, none⟩ = some (.int .i64 (atS l j).1) ∧ W.cell? ⟨b, off + j * 2 + 1, none⟩ = some (.int .i64 (atS l j).2)) := fun j hj W hb => by
      obtain ⟨b, off, e, q⟩ := (hu.kept (HBW.out.trans (hb.mono HBW.out.size))).at j hj
      exact ⟨b, off, e, (spC q).1, (spC q).2⟩
    have HST : Hid (∀ j, j < l.length → rgF [(f, t)] (l.take (j + 1)) = rmP (rgF [(f, t)] (l.take j)) (atS l j).1 (atS l j).2) := fun j hj => by rw [List.take_succ_eq_append_getElem hj, rgF_snoc, atS_eq l j hj]
    have HF0 : Hid (rgF [(f, t)] (l.take 0) = [(f, t)]) := rfl
    have HFN : Hid (rgF [(f, t)] (l.take l.length) = gapL l f t) := by
      unfold Hid
      rw [List.take_length, (rgF_spec l [(f, t)] (Canon.one hok) hc.1).2.2, ← rgap_eq hc]
      unfold rGap
      rw [if_pos hm]
    have HFL : Hid (∀ j, (rgF [(f, t)] (l.take j)).length ≤ 900 ∧ Canon (rgF [(f, t)] (l.take j))) := fun j => by
      have q := rgF_spec (l.take j) [(f, t)] (Canon.one hok) (fun y hy => hc.1 y (List.mem_of_mem_take hy))
      have := q.2.1
      rw [List.length_take] at this
      simp only [List.length_cons, List.length_nil] at this
      exact ⟨by omega, q.1⟩
    clear b0 b1 b2 g0 g1 g2 hu hc s2 hok
    generalize gapL l f t = GG at *
    generalize hFF : (fun j => rgF [(f, t)] (l.take j)) = FF at *
    have HFF : Hid (∀ j, rgF [(f, t)] (l.take j) = FF j) := fun j => by rw [← hFF]
    clear hFF
    simp only [HFF.out] at HST HF0 HFN HFL
    clear HFF
    obtain ⟨n, hn⟩ : ∃ n, n = l.length := ⟨_, rfl⟩
    rw [← hn] at HCL HAT HST HFN hW0 hl ⊢
    clear hn
    have k2 := HCL.out W2 HB2.out
    go_enter Tryd.func30, Tryd.ntmps30
    go_wp2_with fail
    rw [← hW0]
    refine cm.mono ?_
    rintro e wq ⟨rfl, eq⟩
    rw [eq]
    clear cm eq wq
    go_wp2_with fail
    rw [← hW0, ← hW1, ← hW2]
    clear hW0 hW1 hW2 s0 s1 k2
    go_loopw [8] (fun s8 wr => ∃ (j : Nat) (ux : Value), j ≤ n ∧ s8 = .int .i64 j ∧ XB wr (w.heap.size + 2) ux (FF j) ∧ Below W1.heap.size W1 wr) (fun s8 _ => n - (intOf s8).toNat)
    case atStart => exact ⟨0, _, by omega, rfl, by rw [HF0.out]; exact HX2.out, HB2.out⟩
    case round =>
      obtain ⟨j, ux, hj, rfl, xb, bel⟩ := hrel
      have HB : Hid (Below W1.heap.size W1 wr) := bel
      have HX : Hid (XB wr (w.heap.size + 2) ux (FF j)) := xb
      have k3 := HCL.out wr bel
      clear xb bel
      by_cases hjn : j < n
      · have lt2 : (j : Int) < (n : Int) := by omega
        obtain ⟨b, off, rfl, -, -⟩ := HAT.out j hjn wr HB.out
        have FR : Hid (∀ W, Below W1.heap.size W1 W → W.cell? ⟨w.heap.size, 0, none⟩ = some (.slice (some ⟨b, off, none⟩) n c) ∧ W.cell? ⟨b, off + j * 2, none⟩ = some (.int .i64 (atS l j).1) ∧ W.cell? ⟨b, off + j * 2 + 1, none⟩ = some (.int .i64 (atS l j).2)) := fun W hW => by
          obtain ⟨b', off', e', q⟩ := HAT.out j hjn W hW
          cases e'
          exact ⟨HCL.out W hW, q⟩
        have HR : Hid (FF (j + 1) = rmP (FF j) (atS l j).1 (atS l j).2) := HST.out j hjn
        generalize atS l j = y at *
        go_upto_region 7 with fail
        refine wp_region_held_drew (S := From W1) (by kernel_rfl) (Below.drew (HB.out)) (fun _ => ?_)
        refine wpAnyH_name (fun u0 hu0 => ?_)
        have bu0 : Below W1.heap.size W1 u0 := by rw [hu0.out]; exact Below.drew (HB.out)
        have Xu0 : XB u0 (w.heap.size + 2) ux (FF j) := by rw [hu0.out]; exact HX.out.below ((Below.refl _ _).drew)
        refine wpAnyH_take (i := 1) (oi := { dst := some 26, op := Op.fieldAddr 30 (Operand.tmp 3) 0, type := 0, pos := "ref.go:89", after := #[], guard := none }) (v := ?vr1) rfl (by kernel_rfl) (by kernel_rfl) (by kernel_rfl) (fun _ _ _ h => h) (Or.inl ⟨by rfl, ?yr1⟩) bu0 ?rr1
        case yr1 => (intro w hSw; go_simp; try with_reducible rfl)
        try simp only [Act.put, List.setIfInBounds_toArray, List.set_cons_zero, List.set_cons_succ]
        refine wpAnyH_take (i := 2) (oi := { dst := some 27, op := Op.load 28 (Operand.tmp 26), type := 28, pos := "ref.go:89", after := #[{ on := 1, ground := Ground.data }], guard := none }) (v := .slice (some ⟨b, off, none⟩) n c) rfl (by kernel_rfl) (by kernel_rfl) (by kernel_rfl) (fun _ _ _ h => h) (Or.inl ⟨by rfl, ?yr2⟩) bu0 ?rr2
        case yr2 => (intro w hSw; have t0 := (FR.out w hSw).1; have t1 := (FR.out w hSw).2.1; have t2 := (FR.out w hSw).2.2; go_simp; try with_reducible rfl)
        try simp only [Act.put, List.setIfInBounds_toArray, List.set_cons_zero, List.set_cons_succ]
        refine wpAnyH_take (i := 3) (oi := { dst := some 28, op := Op.move (Operand.tmp 8), type := 3, pos := "ref.go:89", after := #[], guard := none }) (v := ?vr3) rfl (by kernel_rfl) (by kernel_rfl) (by kernel_rfl) (fun _ _ _ h => h) (Or.inl ⟨by rfl, ?yr3⟩) bu0 ?rr3
        case yr3 => (intro w hSw; go_simp; try with_reducible rfl)
        try simp only [Act.put, List.setIfInBounds_toArray, List.set_cons_zero, List.set_cons_succ]
        refine wpAnyH_take (i := 4) (oi := { dst := some 29, op := Op.indexAddr 28 (Operand.tmp 27) (Operand.tmp 28), type := 0, pos := "ref.go:89", after := #[{ on := 2, ground := Ground.data }, { on := 3, ground := Ground.data }], guard := none }) (v := ?vr4) rfl (by kernel_rfl) (by kernel_rfl) (by kernel_rfl) (fun _ _ _ h => h) (Or.inl ⟨by rfl, ?yr4⟩) bu0 ?rr4
        case yr4 => (intro w hSw; go_simp; try with_reducible rfl)
        try simp only [Act.put, List.setIfInBounds_toArray, List.set_cons_zero, List.set_cons_succ]
        refine wpAnyH_take (i := 5) (oi := { dst := some 30, op := Op.fieldAddr 58 (Operand.tmp 29) 0, type := 0, pos := "ref.go:89", after := #[{ on := 4, ground := Ground.data }], guard := none }) (v := ?vr5) rfl (by kernel_rfl) (by kernel_rfl) (by kernel_rfl) (fun _ _ _ h => h) (Or.inl ⟨by rfl, ?yr5⟩) bu0 ?rr5
        case yr5 => (intro w hSw; go_simp; try with_reducible rfl)
        try simp only [Act.put, List.setIfInBounds_toArray, List.set_cons_zero, List.set_cons_succ]
        refine wpAnyH_take (i := 6) (oi := { dst := some 31, op := Op.load 3 (Operand.tmp 30), type := 3, pos := "ref.go:89", after := #[{ on := 5, ground := Ground.data }], guard := none }) (v := .int .i64 y.1) rfl (by kernel_rfl) (by kernel_rfl) (by kernel_rfl) (fun _ _ _ h => h) (Or.inl ⟨by rfl, ?yr6⟩) bu0 ?rr6
        case yr6 => (intro w hSw; have t0 := (FR.out w hSw).1; have t1 := (FR.out w hSw).2.1; have t2 := (FR.out w hSw).2.2; go_simp; try with_reducible rfl)
        try simp only [Act.put, List.setIfInBounds_toArray, List.set_cons_zero, List.set_cons_succ]
        refine wpAnyH_take (i := 7) (oi := { dst := some 32, op := Op.fieldAddr 30 (Operand.tmp 3) 0, type := 0, pos := "ref.go:89", after := #[], guard := none }) (v := ?vr7) rfl (by kernel_rfl) (by kernel_rfl) (by kernel_rfl) (fun _ _ _ h => h) (Or.inl ⟨by rfl, ?yr7⟩) bu0 ?rr7
        case yr7 => (intro w hSw; go_simp; try with_reducible rfl)
        try simp only [Act.put, List.setIfInBounds_toArray, List.set_cons_zero, List.set_cons_succ]
        refine wpAnyH_take (i := 8) (oi := { dst := some 33, op := Op.load 28 (Operand.tmp 32), type := 28, pos := "ref.go:89", after := #[{ on := 7, ground := Ground.data }], guard := none }) (v := .slice (some ⟨b, off, none⟩) n c) rfl (by kernel_rfl) (by kernel_rfl) (by kernel_rfl) (fun _ _ _ h => h) (Or.inl ⟨by rfl, ?yr8⟩) bu0 ?rr8
        case yr8 => (intro w hSw; have t0 := (FR.out w hSw).1; have t1 := (FR.out w hSw).2.1; have t2 := (FR.out w hSw).2.2; go_simp; try with_reducible rfl)
        try simp only [Act.put, List.setIfInBounds_toArray, List.set_cons_zero, List.set_cons_succ]
        refine wpAnyH_take (i := 9) (oi := { dst := some 34, op := Op.move (Operand.tmp 8), type := 3, pos := "ref.go:89", after := #[], guard := none }) (v := ?vr9) rfl (by kernel_rfl) (by kernel_rfl) (by kernel_rfl) (fun _ _ _ h => h) (Or.inl ⟨by rfl, ?yr9⟩) bu0 ?rr9
        case yr9 => (intro w hSw; go_simp; try with_reducible rfl)
        try simp only [Act.put, List.setIfInBounds_toArray, List.set_cons_zero, List.set_cons_succ]
        refine wpAnyH_take (i := 10) (oi := { dst := some 35, op := Op.indexAddr 28 (Operand.tmp 33) (Operand.tmp 34), type := 0, pos := "ref.go:89", after := #[{ on := 8, ground := Ground.data }, { on := 9, ground := Ground.data }], guard := none }) (v := ?vr10) rfl (by kernel_rfl) (by kernel_rfl) (by kernel_rfl) (fun _ _ _ h => h) (Or.inl ⟨by rfl, ?yr10⟩) bu0 ?rr10
        case yr10 => (intro w hSw; go_simp; try with_reducible rfl)
        try simp only [Act.put, List.setIfInBounds_toArray, List.set_cons_zero, List.set_cons_succ]
        refine wpAnyH_take (i := 11) (oi := { dst := some 36, op := Op.fieldAddr 58 (Operand.tmp 35) 1, type := 0, pos := "ref.go:89", after := #[{ on := 10, ground := Ground.data }], guard := none }) (v := ?vr11) rfl (by kernel_rfl) (by kernel_rfl) (by kernel_rfl) (fun _ _ _ h => h) (Or.inl ⟨by rfl, ?yr11⟩) bu0 ?rr11
        case yr11 => (intro w hSw; go_simp; try with_reducible rfl)
        try simp only [Act.put, List.setIfInBounds_toArray, List.set_cons_zero, List.set_cons_succ]
        refine wpAnyH_take (i := 12) (oi := { dst := some 37, op := Op.load 3 (Operand.tmp 36), type := 3, pos := "ref.go:89", after := #[{ on := 11, ground := Ground.data }], guard := none }) (v := .int .i64 y.2) rfl (by kernel_rfl) (by kernel_rfl) (by kernel_rfl) (fun _ _ _ h => h) (Or.inl ⟨by rfl, ?yr12⟩) bu0 ?rr12
        case yr12 => (intro w hSw; have t0 := (FR.out w hSw).1; have t1 := (FR.out w hSw).2.1; have t2 := (FR.out w hSw).2.2; go_simp; try with_reducible rfl)
        try simp only [Act.put, List.setIfInBounds_toArray, List.set_cons_zero, List.set_cons_succ]
        refine wpAnyH_ready (rs := [0]) (by kernel_rfl) (by simp) ?_
        refine AllReadyH.cons (o := { dst := some 25, op := Op.load 30 (Operand.tmp 7), type := 30, pos := "ref.go:89", after := #[], guard := none }) rfl (fun KK hKK => ?_) ?_
        · have cau13 := Xu0.cell
          go_simp
          refine hKK.out _ _ (bu0) (fun _ => ?_)
          clear hKK KK
          try simp only [Act.put, List.setIfInBounds_toArray, List.set_cons_zero, List.set_cons_succ]
          refine wpAnyH_name (fun u13 hu13 => ?_)
          have bu13 : Below W1.heap.size W1 u13 := by rw [hu13.out]; exact (bu0)
          have Xu13 : XB u13 (w.heap.size + 2) ux (FF j) := by rw [hu13.out]; exact Xu0
          refine wpAnyH_ready (rs := [13]) (by kernel_rfl) (by simp) ?_
          refine AllReadyH.cons (o := { dst := some 38, op := Op.call { callee := Callee.value (Operand.func 26), args := #[Operand.tmp 25, Operand.tmp 31, Operand.tmp 37], argTypes := #[30, 3, 3] }, type := 30, pos := "ref.go:89", after := #[{ on := 0, ground := Ground.data }, { on := 6, ground := Ground.data }, { on := 12, ground := Ground.data }], guard := none }) rfl (fun KK hKK => ?_) ?_
          · go_simp
            refine (rrem_any u13 ux (FF j) y.1 y.2 Xu13.sp (Nat.le_trans (HFL.out j).1 (by omega)) (HFL.out j).2).mono ?_
            rintro e u14' ⟨uuu14, rfl, su14, ru14, gu14⟩
            obtain ⟨uxu14, uyu14, rfl, -, -, -⟩ := su14.shape
            (try go_wp2_with fail)
            refine hKK.out _ _ (bu13.trans (Below.mono gu14 bu13.size)) (fun _ => ?_)
            clear hKK KK
            try simp only [Act.put, List.setIfInBounds_toArray, List.set_cons_zero, List.set_cons_succ]
            refine wpAnyH_name (fun u14 hu14 => ?_)
            have bu14 : Below W1.heap.size W1 u14 := by rw [hu14.out]; exact (bu13.trans (Below.mono gu14 bu13.size))
            rw [← hu14.out] at su14 ru14 gu14
            have Du14 := Xu13.step su14 ru14 gu14 (rmP_canon (HFL.out j).2 _ _)
            have cau14 : u14.cell? ⟨w.heap.size + 2, 0, none⟩ = some ux := by have := Du14.1; simp [World.cell?, this]
            have cbu14 : u14.frozen? ⟨w.heap.size + 2, 0, none⟩ = false := by have := Du14.1; simp [World.frozen?, this]
            refine wpAnyH_ready (rs := [14]) (by kernel_rfl) (by simp) ?_
            refine AllReadyH.cons (o := { dst := none, op := Op.store 30 (Operand.tmp 7) (Operand.tmp 38), type := 0, pos := "ref.go:89", after := #[{ on := 13, ground := Ground.data }, { on := 13, ground := Ground.chain }, { on := 0, ground := Ground.phase }, { on := 1, ground := Ground.phase }, { on := 2, ground := Ground.phase }, { on := 3, ground := Ground.phase }, { on := 4, ground := Ground.phase }, { on := 5, ground := Ground.phase }, { on := 6, ground := Ground.phase }, { on := 7, ground := Ground.phase }, { on := 8, ground := Ground.phase }, { on := 9, ground := Ground.phase }, { on := 10, ground := Ground.phase }, { on := 11, ground := Ground.phase }, { on := 12, ground := Ground.phase }, { on := 13, ground := Ground.phase }], guard := none }) rfl (fun KK hKK => ?_) ?_
            · go_simp
              refine hKK.out _ _ (bu14.setCell (show W1.heap.size ≤ w.heap.size + 2 by rw [HS1.out]; omega) _) (fun _ => ?_)
              clear hKK KK
              try simp only [Act.put]
              refine wpAnyH_name (fun u15 hu15 => ?_)
              have bu15 : Below W1.heap.size W1 u15 := by rw [hu15.out]; exact (bu14.setCell (show W1.heap.size ≤ w.heap.size + 2 by rw [HS1.out]; omega) _)
              have Xu15 : XB u15 (w.heap.size + 2) (.slice uxu14 (rmP (FF j) y.1 y.2).length uyu14) (FF (j + 1)) := by rw [hu15.out, HR.out]; exact Du14.2
              refine wpAnyH_done (by kernel_rfl) ?_ _
              have H1 : Hid (XB u15 (w.heap.size + 2) (.slice uxu14 (rmP (FF j) y.1 y.2).length uyu14) (FF (j + 1))) := Xu15
              have H2 := bu15
              have HB9 : Hid (Below W1.heap.size W1 u15) := H2
              go_wp2
              go_roundw
              case rel => exact ⟨j + 1, _, by omega, by go_num, H1.out, HB9.out⟩
              case measure => simp [intOf]; omega
            exact AllReadyH.nil
          exact AllReadyH.nil
        exact AllReadyH.nil
      · obtain rfl : j = n := by omega
        have lt2 : ¬ (j : Int) < (j : Int) := by omega
        have HX9 : Hid (XB wr (w.heap.size + 2) ux GG) := by unfold Hid; rw [← HFN.out]; exact HX.out
        have kx := HX9.out.cell
        obtain ⟨ua, uc, rfl, -, -, -⟩ := HX9.out.sp.shape
        have HBE : Hid (Below w.heap.size w wr) := HBW.out.trans (HB.out.mono HBW.out.size)
        clear HX HFN HCL HAT HST HF0 HFL HX2 HB2 HB
        go_wp2
        go_ret
        exact ⟨_, rfl, HX9.out.sp, HBE.out⟩
  · have hm0 : may f t = false := by simpa using hm
    have hG : Hid (gapL l f t = []) := by unfold Hid gapL; rw [if_neg hm]
    have HB0 : Hid (Below w.heap.size w W0) := b0
    rw [hm0] at cm
    clear b0 s0 g0 hu hc
    generalize gapL l f t = GG at *
    generalize l.length = n at *
    go_enter Tryd.func30, Tryd.ntmps30
    go_wp2_with fail
    rw [← hW0]
    refine cm.mono ?_
    rintro e wq ⟨rfl, eq⟩
    rw [eq]
    clear cm eq wq hW0
    go_wp2
    go_ret
    exact ⟨_, rfl, by rw [hG.out]; exact SSp.nil _, HB0.out⟩
end Go.Proofs.YtaghmoddalbepaaDoor
namespace Go.Proofs.YtaghmoddalbepaaDoor
open Go.RowKit Go.Shelf
set_option maxRecDepth 100000

/-- The cells of a row of one's own. -/
theorem rsp_hd {w : World} {B n c : Nat} {a : Option Addr} {l : List Sp} (h : RSp w B (.slice a n c) l) (hn : 0 < n) : ∃ g, a = some ⟨g, 0, none⟩ ∧ B ≤ g ∧ ∀ i, i < l.length → ∃ z, w.cell? ⟨g, i * 2, none⟩ = some (.int .i64 z) ∧ w.frozen? ⟨g, i * 2, none⟩ = false := by
  have his := h.is
  rcases h.1.2 with ⟨e, _⟩ | ⟨g, cap, cur, e, hb, hh, _⟩
  · cases e; omega
  · cases e
    refine ⟨g, rfl, hb, fun i hi => ?_⟩
    obtain ⟨b, off, e, hr⟩ := SSp.at his i hi
    cases e
    have := (spC hr).1
    rw [Nat.zero_add] at this
    exact ⟨_, this, by simp [World.frozen?, hh]⟩
set_option maxHeartbeats 8000000 in
theorem same_any (w : World) (B g : Nat) (v u : Value) (l : List Sp) (x : Cal) (h : DD w B g v u l) (hl : l.length ≤ 400) :
    Calls Tryd.prog 11 #[.pointer (some ⟨g, 0, none⟩), .agg #[u], .agg #[.int .u8 x.1, .int .i64 x.2.1, .int .i64 x.2.2]] w fun e w' => e = .returned (.bool true) ∧ Below w.heap.size w w' := by
  obtain ⟨k, f, t⟩ := x
  simp only
  obtain ⟨ua, uc, rfl, -, -, -⟩ := id h.sp.shape
  obtain ⟨W0, hW0⟩ : ∃ W0, W0 = (w.alloc (.cells #[.slice ua l.length uc] 30)).alloc (.cells #[.int .u8 k, .int .i64 f, .int .i64 t] 24) := ⟨_, rfl⟩
  have b0 : Below w.heap.size w W0 := by rw [hW0]; exact (al_below w _).alloc (al_below w _).size _
  have e0 : W0.heap[w.heap.size]? = some (.cells #[.slice ua l.length uc] 30 (0, 0)) := by rw [hW0]; exact blk_kept (heap_alloc_new w _) (al_below _ _) (by simp)
  have e1 : W0.heap[w.heap.size + 1]? = some (.cells #[.int .u8 k, .int .i64 f, .int .i64 t] 24 (0, 0)) := by rw [hW0]; exact two_new _ _ _
  have HB0 : Hid (Below w.heap.size w W0) := b0
  have HFB : Hid (∀ W, Below W0.heap.size W0 W → W.cell? ⟨w.heap.size, 0, none⟩ = some (.slice ua l.length uc) ∧ W.cell? ⟨w.heap.size + 1, 1, none⟩ = some (.int .i64 f) ∧ W.cell? ⟨w.heap.size + 1, 2, none⟩ = some (.int .i64 t)) := fun W hb => by
    have q0 := blk_kept e0 hb (blk_lt e0)
    have q1 := blk_kept e1 hb (blk_lt e1)
    refine ⟨by simp [World.cell?, q0], by simp [World.cell?, q1], by simp [World.cell?, q1]⟩
  have HST : Hid (∀ W, Below W0.heap.size W0 W → ST W B g v l ∧ SSp W (.slice ua l.length uc) l) := fun W hb => ⟨h.st.below (b0.trans (hb.mono b0.size)), h.sp.kept (b0.trans (hb.mono b0.size))⟩
  have HCN : Hid (Canon l) := h.st.cn
  have HOY : Hid (∀ W, Below W0.heap.size W0 W → ∀ i, i < l.length → ∃ b off, ua = some ⟨b, off, none⟩ ∧ W.cell? ⟨b, off + i * 2 + 1, none⟩ = some (.int .i64 (atS l i).2)) := fun W hb i hi => by
    obtain ⟨b, off, e, q⟩ := (HST.out W hb).2.at i hi
    exact ⟨b, off, e, (spC q).2⟩
  have cx := max_any W0 B g v l (HST.out W0 (Below.refl _ _)).1
  have cs := spans_any W0 _ l (HST.out W0 (Below.refl _ _)).1.sqA
  obtain ⟨mx, bx, cx, hmx⟩ : ∃ mx bx, (Calls Tryd.prog 13 #[.pointer (some ⟨g, 0, none⟩)] W0 fun e w' => e = .returned (.tuple #[.int .i64 mx, .bool bx]) ∧ w' = W0) ∧ ((l.length = 0 ∧ mx = 0 ∧ bx = false) ∨ (0 < l.length ∧ mx = (atS l (l.length - 1)).2 ∧ bx = true)) := by
    refine ⟨_, _, cx, ?_⟩
    by_cases e : l = []
    · exact .inl ⟨by rw [e]; rfl, by rw [if_pos e], decide_eq_false (fun q => q e)⟩
    · exact .inr ⟨List.length_pos_iff.2 e, by rw [if_neg e], decide_eq_true e⟩
  have HMX : Hid ((l.length = 0 ∧ mx = 0 ∧ bx = false) ∨ (0 < l.length ∧ mx = (atS l (l.length - 1)).2 ∧ bx = true)) := hmx
  clear hmx
  clear h b0 e0 e1
  have HC3 : Hid (∀ W a9 c9, SSp W (.slice a9 l.length c9) l → Below W0.heap.size W0 W → Calls Tryd.prog 22 #[.slice a9 l.length c9, .slice ua l.length uc] W fun e w' => e = .returned (.bool true) ∧ Below W.heap.size W w') := fun W a9 c9 hs hb => by
    have := rsame_any W _ _ l l hs (HST.out W hb).2 (by omega)
    rw [decide_eq_true rfl] at this
    exact this
  have HC6 : Hid (∀ W, Below W0.heap.size W0 W → Calls Tryd.prog 18 #[.pointer (some ⟨g, 0, none⟩)] W fun e w' => e = .returned (.int .i64 (l.length : Nat)) ∧ Below W.heap.size W w') := fun W hb => (len_any W B g v l (HST.out W hb).1).mono (by rintro e w' ⟨rfl, rfl⟩; exact ⟨rfl, Below.refl _ _⟩)
  have HC14 : Hid (∀ W, Below W0.heap.size W0 W → Calls Tryd.prog 19 #[.pointer (some ⟨g, 0, none⟩)] W fun e w' => e = .returned (.int .i64 (cnt l)) ∧ Below W.heap.size W w') := fun W hb => countAll_any W _ l (HST.out W hb).1.sqA
  have HC16 : Hid (∀ W, Below W0.heap.size W0 W → Calls Tryd.prog 25 #[.agg #[.slice ua l.length uc]] W fun e w' => e = .returned (.int .i64 (cnt l)) ∧ Below W.heap.size W w') := fun W hb => rcount_any W _ l (HST.out W hb).2 HCN.out (by omega)
  have HC23 : Hid (∀ W m, Below W0.heap.size W0 W → Calls Tryd.prog 16 #[.pointer (some ⟨g, 0, none⟩), .int .i64 m] W fun e w' => e = .returned (.bool (has l m)) ∧ Below W.heap.size W w') := fun W m hb => by
    have := has_any W (some ⟨g, 0, none⟩) m (clip l m m) ((HST.out W hb).1.sq (Int.le_refl _))
    rw [has_cnt HCN.out] at this
    exact this
  have HC27 : Hid (∀ W m, Below W0.heap.size W0 W → Calls Tryd.prog 29 #[.agg #[.slice ua l.length uc], .int .i64 m] W fun e w' => e = .returned (.bool (has l m)) ∧ Below W.heap.size W w') := fun W m hb => rhas_any W _ l m (HST.out W hb).2 (by omega)
  have HC47 : Hid (∀ W, Below W0.heap.size W0 W → Calls Tryd.prog 20 #[.pointer (some ⟨g, 0, none⟩), .int .i64 f, .int .i64 t] W fun e w' => ∃ a c, e = .returned (.slice a (gapL l f t).length c) ∧ SSp w' (.slice a (gapL l f t).length c) (gapL l f t) ∧ Below W.heap.size W w') := fun W hb => by
    have := gaps_any W (some ⟨g, 0, none⟩) f t (clip l f t) (fun e => (HST.out W hb).1.sq ((may_iff f t).1 e).2.1)
    have eG : (if ((some (⟨g, 0, none⟩ : Addr)).isSome = true ∧ may f t = true) then gap t f (clip l f t) else []) = gapL l f t := by unfold gapL; simp
    rw [eG] at this
    refine this.mono ?_
    rintro e w' ⟨v', rfl, r, b⟩
    obtain ⟨a, c, rfl, -, -, -⟩ := r.is.shape
    exact ⟨a, c, rfl, r.is, b⟩
  have HC53 : Hid (∀ W, Below W0.heap.size W0 W → Calls Tryd.prog 30 #[.agg #[.slice ua l.length uc], .int .i64 f, .int .i64 t] W fun e w' => ∃ a c, e = .returned (.slice a (gapL l f t).length c) ∧ SSp w' (.slice a (gapL l f t).length c) (gapL l f t) ∧ Below W.heap.size W w') := fun W hb => by
    refine (rgaps_any W _ l f t (HST.out W hb).2 hl HCN.out).mono ?_
    rintro e w' ⟨v', rfl, r, b⟩
    obtain ⟨a, c, rfl, -, -, -⟩ := r.shape
    exact ⟨a, c, rfl, r, b⟩
  have HGL : Hid ((gapL l f t).length ≤ 100000) := by have := gapL_len l f t; unfold Hid; omega
  generalize gapL l f t = G at *
  generalize cnt l = cl at *
  generalize has l f = hf at *
  generalize hhs : has l = hs at *
  clear hhs
  have k0 := HFB.out W0 (Below.refl _ _)
  obtain ⟨k0, k1, k2⟩ := k0
  clear k1 k2
  obtain ⟨n, hn⟩ : ∃ n, n = l.length := ⟨_, rfl⟩
  have HN : Hid (n = l.length) := hn
  rw [← hn] at hl HFB HST HOY HC3 HC6 HC16 HC27 HC53 HMX hW0 k0 ⊢
  clear hn
  go_enter Tryd.func11, Tryd.ntmps11
  go_wp2_with fail
  rw [← hW0]
  refine cx.mono ?_
  rintro e wq ⟨rfl, eq⟩
  rw [eq]
  clear cx eq wq
  go_upto_region 2 with fail
  try rw [← hW0]
  clear hW0
  go_cut [46] from 12 (fun s46 wx => s46 = .bool false ∧ wx = W0)
  case first =>
    rcases HMX.out with ⟨q1, q2, q3⟩ | ⟨q1, q2, q3⟩
    · subst q2 q3
      subst q1
      go_wp2
      go_meet
      exact ⟨rfl, rfl⟩
    · have hq : n - 1 < n := by omega
      obtain ⟨b, off, rfl, k3⟩ := HOY.out W0 (Below.refl _ _) (n - 1) hq
      rw [← q2] at k3
      subst q3
      obtain ⟨q, hq⟩ : ∃ q, n - 1 = q := ⟨_, rfl⟩
      rw [hq] at k3
      have wq : IntKind.i64.wrap ((n : Int) - 1) = (q : Int) := by rw [IntKind.wrap_i64]; omega
      have lt2 : (0 : Int) < (n : Int) := by omega
      have lt3 : (q : Int) < (n : Int) := by omega
      clear q2 hq
      go_wp2
      go_meet
      exact ⟨rfl, rfl⟩
  case rest =>
    obtain ⟨rfl, rfl⟩ := hcut
    clear HMX HOY
    go_wp2_with fail
    refine cs.mono ?_
    rintro e w4 ⟨v9, rfl, r9, b9⟩
    obtain ⟨a9, c9, rfl, -, -, -⟩ := r9.is.shape
    have HR9 : Hid (RSp w4 wc.heap.size (.slice a9 l.length c9) l) := r9
    have HB9 : Hid (Below wc.heap.size wc w4) := b9
    clear cs r9 b9
    rw [← HN.out] at HR9 ⊢
    have HBC : Hid (∀ W, Below w4.heap.size w4 W → Below wc.heap.size wc W) := fun W hb => HB9.out.trans (hb.mono HB9.out.size)
    have FB : Hid (∀ W, Below w4.heap.size w4 W → W.cell? ⟨w.heap.size, 0, none⟩ = some (.slice ua n uc) ∧ W.cell? ⟨w.heap.size + 1, 1, none⟩ = some (.int .i64 f) ∧ W.cell? ⟨w.heap.size + 1, 2, none⟩ = some (.int .i64 t)) := fun W hb => HFB.out W (HBC.out W hb)
    have HS9 : Hid (∀ W, Below w4.heap.size w4 W → SSp W (.slice a9 n c9) l) := fun W hb => HR9.out.is.kept hb
    have HC54 : Hid (∀ W a c a' c', SSp W (.slice a G.length c) G → SSp W (.slice a' G.length c') G → Calls Tryd.prog 22 #[.slice a G.length c, .slice a' G.length c'] W fun e w' => e = .returned (.bool true) ∧ Below W.heap.size W w') := fun W a c a' c' h1 h2 => by
      have := rsame_any W _ _ G G h1 h2 HGL.out
      rw [decide_eq_true rfl] at this
      exact this
    have HAT9 : Hid (∀ W, Below w4.heap.size w4 W → ∀ i, i < n → ∃ g9, a9 = some ⟨g9, 0, none⟩ ∧ wc.heap.size ≤ g9 ∧ ∃ z, W.cell? ⟨g9, i * 2, none⟩ = some (.int .i64 z) ∧ W.frozen? ⟨g9, i * 2, none⟩ = false) := fun W hb i hi => by
      obtain ⟨g9, e, h1, h2⟩ := rsp_hd (HR9.out.below hb) (show 0 < n by omega)
      exact ⟨g9, e, h1, h2 i (by rw [← HN.out]; exact hi)⟩
    clear HFB k0
    generalize G.length = gn at *
    go_upto_region 5 with fail
    refine wp_region_held_drew (S := From w4) (by kernel_rfl) (Below.drew (Below.refl _ _)) (fun _ => ?_)
    refine wpAnyH_name (fun u0 hu0 => ?_)
    have bu0 : Below w4.heap.size w4 u0 := by rw [hu0.out]; exact Below.drew (Below.refl _ _)
    refine wpAnyH_take (i := 0) (oi := { dst := some 49, op := Op.move (Operand.tmp 9), type := 28, pos := "law.go:50", after := #[], guard := none }) (v := ?vr1) rfl (by kernel_rfl) (by kernel_rfl) (by kernel_rfl) (fun _ _ _ h => h) (Or.inl ⟨by rfl, ?yr1⟩) bu0 ?rr1
    case yr1 => (intro w hSw; go_simp; try with_reducible rfl)
    try simp only [Act.put, List.setIfInBounds_toArray, List.set_cons_zero, List.set_cons_succ]
    refine wpAnyH_take (i := 1) (oi := { dst := some 50, op := Op.fieldAddr 30 (Operand.tmp 4) 0, type := 0, pos := "law.go:50", after := #[], guard := none }) (v := ?vr2) rfl (by kernel_rfl) (by kernel_rfl) (by kernel_rfl) (fun _ _ _ h => h) (Or.inl ⟨by rfl, ?yr2⟩) bu0 ?rr2
    case yr2 => (intro w hSw; go_simp; try with_reducible rfl)
    try simp only [Act.put, List.setIfInBounds_toArray, List.set_cons_zero, List.set_cons_succ]
    refine wpAnyH_take (i := 2) (oi := { dst := some 51, op := Op.load 28 (Operand.tmp 50), type := 28, pos := "law.go:50", after := #[{ on := 1, ground := Ground.data }], guard := none }) (v := .slice ua n uc) rfl (by kernel_rfl) (by kernel_rfl) (by kernel_rfl) (fun _ _ _ h => h) (Or.inl ⟨by rfl, ?yr3⟩) bu0 ?rr3
    case yr3 => (intro w hSw; have t0 := (FB.out w hSw).1; have t1 := (FB.out w hSw).2.1; have t2 := (FB.out w hSw).2.2; go_simp; try with_reducible rfl)
    try simp only [Act.put, List.setIfInBounds_toArray, List.set_cons_zero, List.set_cons_succ]
    refine wpAnyH_ready (rs := [3]) (by kernel_rfl) (by simp) ?_
    refine AllReadyH.cons (o := { dst := some 52, op := Op.call { callee := Callee.value (Operand.func 22), args := #[Operand.tmp 49, Operand.tmp 51], argTypes := #[28, 28] }, type := 4, pos := "law.go:50", after := #[{ on := 0, ground := Ground.data }, { on := 2, ground := Ground.data }], guard := none }) rfl (fun KK hKK => ?_) ?_
    · go_simp
      refine (HC3.out u0 _ _ (HS9.out _ bu0) (HBC.out _ bu0)).mono ?_
      rintro e u4' ⟨rfl, gu4⟩
      (try go_wp2_with fail)
      refine hKK.out _ _ (bu0.trans (Below.mono gu4 bu0.size)) (fun _ => ?_)
      clear hKK KK
      try simp only [Act.put, List.setIfInBounds_toArray, List.set_cons_zero, List.set_cons_succ]
      refine wpAnyH_name (fun u4 hu4 => ?_)
      have bu4 : Below w4.heap.size w4 u4 := by rw [hu4.out]; exact (bu0.trans (Below.mono gu4 bu0.size))
      rw [← hu4.out] at gu4
      refine wpAnyH_take (i := 4) (oi := { dst := some 53, op := Op.move (Operand.tmp 52), type := 4, pos := "law.go:50", after := #[{ on := 3, ground := Ground.data }, { on := 3, ground := Ground.chain }], guard := none }) (v := .bool true) rfl (by kernel_rfl) (by kernel_rfl) (by kernel_rfl) (fun _ _ _ h => h) (Or.inl ⟨by rfl, ?yr5⟩) bu4 ?rr5
      case yr5 => (intro w hSw; go_simp; try with_reducible rfl)
      try simp only [Act.put, List.setIfInBounds_toArray, List.set_cons_zero, List.set_cons_succ]
      refine wpAnyH_take (i := 5) (oi := { dst := some 54, op := Op.move (Operand.tmp 0), type := 26, pos := "law.go:50", after := #[{ on := 4, ground := Ground.guard }], guard := some (4, true) }) (v := ?vr6) rfl (by kernel_rfl) (by kernel_rfl) (by kernel_rfl) (fun _ _ _ h => h) (Or.inl ⟨by rfl, ?yr6⟩) bu4 ?rr6
      case yr6 => (intro w hSw; go_simp; try with_reducible rfl)
      try simp only [Act.put, List.setIfInBounds_toArray, List.set_cons_zero, List.set_cons_succ]
      refine wpAnyH_take (i := 7) (oi := { dst := some 56, op := Op.fieldAddr 30 (Operand.tmp 4) 0, type := 0, pos := "law.go:50", after := #[{ on := 4, ground := Ground.guard }], guard := some (4, true) }) (v := ?vr7) rfl (by kernel_rfl) (by kernel_rfl) (by kernel_rfl) (fun _ _ _ h => h) (Or.inl ⟨by rfl, ?yr7⟩) bu4 ?rr7
      case yr7 => (intro w hSw; go_simp; try with_reducible rfl)
      try simp only [Act.put, List.setIfInBounds_toArray, List.set_cons_zero, List.set_cons_succ]
      refine wpAnyH_take (i := 8) (oi := { dst := some 57, op := Op.load 28 (Operand.tmp 56), type := 28, pos := "law.go:50", after := #[{ on := 7, ground := Ground.data }, { on := 4, ground := Ground.guard }], guard := some (4, true) }) (v := .slice ua n uc) rfl (by kernel_rfl) (by kernel_rfl) (by kernel_rfl) (fun _ _ _ h => h) (Or.inl ⟨by rfl, ?yr8⟩) bu4 ?rr8
      case yr8 => (intro w hSw; have t0 := (FB.out w hSw).1; have t1 := (FB.out w hSw).2.1; have t2 := (FB.out w hSw).2.2; go_simp; try with_reducible rfl)
      try simp only [Act.put, List.setIfInBounds_toArray, List.set_cons_zero, List.set_cons_succ]
      refine wpAnyH_take (i := 9) (oi := { dst := some 58, op := Op.call { callee := Callee.builtin Builtin.len, args := #[Operand.tmp 57], argTypes := #[28] }, type := 3, pos := "law.go:50", after := #[{ on := 8, ground := Ground.data }, { on := 4, ground := Ground.guard }], guard := some (4, true) }) (v := ?vr9) rfl (by kernel_rfl) (by kernel_rfl) (by kernel_rfl) (fun _ _ _ h => h) (Or.inl ⟨by rfl, ?yr9⟩) bu4 ?rr9
      case yr9 => (intro w hSw; go_simp; try with_reducible rfl)
      try simp only [Act.put, List.setIfInBounds_toArray, List.set_cons_zero, List.set_cons_succ]
      refine wpAnyH_ready (rs := [6]) (by kernel_rfl) (by simp) ?_
      refine AllReadyH.cons (o := { dst := some 55, op := Op.call { callee := Callee.value (Operand.func 18), args := #[Operand.tmp 54], argTypes := #[26] }, type := 3, pos := "law.go:50", after := #[{ on := 5, ground := Ground.data }, { on := 4, ground := Ground.chain }, { on := 4, ground := Ground.guard }], guard := some (4, true) }) rfl (fun KK hKK => ?_) ?_
      · go_simp
        refine (HC6.out u4 (HBC.out _ bu4)).mono ?_
        rintro e u10' ⟨rfl, gu10⟩
        (try go_wp2_with fail)
        refine hKK.out _ _ (bu4.trans (Below.mono gu10 bu4.size)) (fun _ => ?_)
        clear hKK KK
        try simp only [Act.put, List.setIfInBounds_toArray, List.set_cons_zero, List.set_cons_succ]
        refine wpAnyH_name (fun u10 hu10 => ?_)
        have bu10 : Below w4.heap.size w4 u10 := by rw [hu10.out]; exact (bu4.trans (Below.mono gu10 bu4.size))
        rw [← hu10.out] at gu10
        refine wpAnyH_take (i := 10) (oi := { dst := some 59, op := Op.binOp BinOp.eql 3 (Operand.tmp 55) (Operand.tmp 58) 3, type := 4, pos := "law.go:50", after := #[{ on := 6, ground := Ground.data }, { on := 9, ground := Ground.data }, { on := 4, ground := Ground.guard }], guard := some (4, true) }) (v := .bool true) rfl (by kernel_rfl) (by kernel_rfl) (by kernel_rfl) (fun _ _ _ h => h) (Or.inl ⟨by rfl, ?yr11⟩) bu10 ?rr11
        case yr11 => (intro w hSw; go_simp; try with_reducible rfl)
        try simp only [Act.put, List.setIfInBounds_toArray, List.set_cons_zero, List.set_cons_succ]
        refine wpAnyH_take (i := 11) (oi := { dst := some 60, op := Op.pick (Operand.tmp 53) (Operand.tmp 59) (Operand.const (Value.bool false)), type := 4, pos := "law.go:50", after := #[{ on := 4, ground := Ground.data }, { on := 10, ground := Ground.data }], guard := none }) (v := .bool true) rfl (by kernel_rfl) (by kernel_rfl) (by kernel_rfl) (fun _ _ _ h => h) (Or.inl ⟨by rfl, ?yr12⟩) bu10 ?rr12
        case yr12 => (intro w hSw; go_simp; try with_reducible rfl)
        try simp only [Act.put, List.setIfInBounds_toArray, List.set_cons_zero, List.set_cons_succ]
        refine wpAnyH_take (i := 12) (oi := { dst := some 61, op := Op.move (Operand.tmp 60), type := 4, pos := "law.go:50", after := #[{ on := 11, ground := Ground.data }, { on := 6, ground := Ground.chain }], guard := none }) (v := .bool true) rfl (by kernel_rfl) (by kernel_rfl) (by kernel_rfl) (fun _ _ _ h => h) (Or.inl ⟨by rfl, ?yr13⟩) bu10 ?rr13
        case yr13 => (intro w hSw; go_simp; try with_reducible rfl)
        try simp only [Act.put, List.setIfInBounds_toArray, List.set_cons_zero, List.set_cons_succ]
        refine wpAnyH_take (i := 13) (oi := { dst := some 62, op := Op.move (Operand.tmp 0), type := 26, pos := "law.go:50", after := #[{ on := 12, ground := Ground.guard }], guard := some (12, true) }) (v := ?vr14) rfl (by kernel_rfl) (by kernel_rfl) (by kernel_rfl) (fun _ _ _ h => h) (Or.inl ⟨by rfl, ?yr14⟩) bu10 ?rr14
        case yr14 => (intro w hSw; go_simp; try with_reducible rfl)
        try simp only [Act.put, List.setIfInBounds_toArray, List.set_cons_zero, List.set_cons_succ]
        refine wpAnyH_take (i := 15) (oi := { dst := some 64, op := Op.load 30 (Operand.tmp 4), type := 30, pos := "law.go:50", after := #[{ on := 12, ground := Ground.guard }], guard := some (12, true) }) (v := .agg #[.slice ua n uc]) rfl (by kernel_rfl) (by kernel_rfl) (by kernel_rfl) (fun _ _ _ h => h) (Or.inl ⟨by rfl, ?yr15⟩) bu10 ?rr15
        case yr15 => (intro w hSw; have t0 := (FB.out w hSw).1; have t1 := (FB.out w hSw).2.1; have t2 := (FB.out w hSw).2.2; go_simp; try with_reducible rfl)
        try simp only [Act.put, List.setIfInBounds_toArray, List.set_cons_zero, List.set_cons_succ]
        refine wpAnyH_ready (rs := [14]) (by kernel_rfl) (by simp) ?_
        refine AllReadyH.cons (o := { dst := some 63, op := Op.call { callee := Callee.value (Operand.func 19), args := #[Operand.tmp 62], argTypes := #[26] }, type := 3, pos := "law.go:50", after := #[{ on := 13, ground := Ground.data }, { on := 12, ground := Ground.chain }, { on := 12, ground := Ground.guard }], guard := some (12, true) }) rfl (fun KK hKK => ?_) ?_
        · go_simp
          refine (HC14.out u10 (HBC.out _ bu10)).mono ?_
          rintro e u16' ⟨rfl, gu16⟩
          (try go_wp2_with fail)
          refine hKK.out _ _ (bu10.trans (Below.mono gu16 bu10.size)) (fun _ => ?_)
          clear hKK KK
          try simp only [Act.put, List.setIfInBounds_toArray, List.set_cons_zero, List.set_cons_succ]
          refine wpAnyH_name (fun u16 hu16 => ?_)
          have bu16 : Below w4.heap.size w4 u16 := by rw [hu16.out]; exact (bu10.trans (Below.mono gu16 bu10.size))
          rw [← hu16.out] at gu16
          refine wpAnyH_ready (rs := [16]) (by kernel_rfl) (by simp) ?_
          refine AllReadyH.cons (o := { dst := some 65, op := Op.call { callee := Callee.value (Operand.func 25), args := #[Operand.tmp 64], argTypes := #[30] }, type := 3, pos := "law.go:50", after := #[{ on := 15, ground := Ground.data }, { on := 14, ground := Ground.chain }, { on := 12, ground := Ground.guard }], guard := some (12, true) }) rfl (fun KK hKK => ?_) ?_
          · go_simp
            refine (HC16.out u16 (HBC.out _ bu16)).mono ?_
            rintro e u17' ⟨rfl, gu17⟩
            (try go_wp2_with fail)
            refine hKK.out _ _ (bu16.trans (Below.mono gu17 bu16.size)) (fun _ => ?_)
            clear hKK KK
            try simp only [Act.put, List.setIfInBounds_toArray, List.set_cons_zero, List.set_cons_succ]
            refine wpAnyH_name (fun u17 hu17 => ?_)
            have bu17 : Below w4.heap.size w4 u17 := by rw [hu17.out]; exact (bu16.trans (Below.mono gu17 bu16.size))
            rw [← hu17.out] at gu17
            refine wpAnyH_take (i := 17) (oi := { dst := some 66, op := Op.binOp BinOp.eql 3 (Operand.tmp 63) (Operand.tmp 65) 3, type := 4, pos := "law.go:50", after := #[{ on := 14, ground := Ground.data }, { on := 16, ground := Ground.data }, { on := 12, ground := Ground.guard }], guard := some (12, true) }) (v := .bool true) rfl (by kernel_rfl) (by kernel_rfl) (by kernel_rfl) (fun _ _ _ h => h) (Or.inl ⟨by rfl, ?yr18⟩) bu17 ?rr18
            case yr18 => (intro w hSw; go_simp; try with_reducible rfl)
            try simp only [Act.put, List.setIfInBounds_toArray, List.set_cons_zero, List.set_cons_succ]
            refine wpAnyH_take (i := 18) (oi := { dst := some 67, op := Op.pick (Operand.tmp 61) (Operand.tmp 66) (Operand.const (Value.bool false)), type := 4, pos := "law.go:50", after := #[{ on := 12, ground := Ground.data }, { on := 17, ground := Ground.data }], guard := none }) (v := .bool true) rfl (by kernel_rfl) (by kernel_rfl) (by kernel_rfl) (fun _ _ _ h => h) (Or.inl ⟨by rfl, ?yr19⟩) bu17 ?rr19
            case yr19 => (intro w hSw; go_simp; try with_reducible rfl)
            try simp only [Act.put, List.setIfInBounds_toArray, List.set_cons_zero, List.set_cons_succ]
            refine wpAnyH_take (i := 19) (oi := { dst := some 68, op := Op.move (Operand.tmp 67), type := 4, pos := "law.go:50", after := #[{ on := 18, ground := Ground.data }, { on := 16, ground := Ground.chain }], guard := none }) (v := .bool true) rfl (by kernel_rfl) (by kernel_rfl) (by kernel_rfl) (fun _ _ _ h => h) (Or.inl ⟨by rfl, ?yr20⟩) bu17 ?rr20
            case yr20 => (intro w hSw; go_simp; try with_reducible rfl)
            try simp only [Act.put, List.setIfInBounds_toArray, List.set_cons_zero, List.set_cons_succ]
            refine wpAnyH_take (i := 20) (oi := { dst := some 69, op := Op.move (Operand.tmp 0), type := 26, pos := "law.go:50", after := #[{ on := 19, ground := Ground.guard }], guard := some (19, true) }) (v := ?vr21) rfl (by kernel_rfl) (by kernel_rfl) (by kernel_rfl) (fun _ _ _ h => h) (Or.inl ⟨by rfl, ?yr21⟩) bu17 ?rr21
            case yr21 => (intro w hSw; go_simp; try with_reducible rfl)
            try simp only [Act.put, List.setIfInBounds_toArray, List.set_cons_zero, List.set_cons_succ]
            refine wpAnyH_take (i := 21) (oi := { dst := some 70, op := Op.fieldAddr 24 (Operand.tmp 5) 1, type := 0, pos := "law.go:50", after := #[{ on := 19, ground := Ground.guard }], guard := some (19, true) }) (v := ?vr22) rfl (by kernel_rfl) (by kernel_rfl) (by kernel_rfl) (fun _ _ _ h => h) (Or.inl ⟨by rfl, ?yr22⟩) bu17 ?rr22
            case yr22 => (intro w hSw; go_simp; try with_reducible rfl)
            try simp only [Act.put, List.setIfInBounds_toArray, List.set_cons_zero, List.set_cons_succ]
            refine wpAnyH_take (i := 22) (oi := { dst := some 71, op := Op.load 3 (Operand.tmp 70), type := 3, pos := "law.go:50", after := #[{ on := 21, ground := Ground.data }, { on := 19, ground := Ground.guard }], guard := some (19, true) }) (v := .int .i64 f) rfl (by kernel_rfl) (by kernel_rfl) (by kernel_rfl) (fun _ _ _ h => h) (Or.inl ⟨by rfl, ?yr23⟩) bu17 ?rr23
            case yr23 => (intro w hSw; have t0 := (FB.out w hSw).1; have t1 := (FB.out w hSw).2.1; have t2 := (FB.out w hSw).2.2; go_simp; try with_reducible rfl)
            try simp only [Act.put, List.setIfInBounds_toArray, List.set_cons_zero, List.set_cons_succ]
            refine wpAnyH_take (i := 24) (oi := { dst := some 73, op := Op.load 30 (Operand.tmp 4), type := 30, pos := "law.go:50", after := #[{ on := 19, ground := Ground.guard }], guard := some (19, true) }) (v := .agg #[.slice ua n uc]) rfl (by kernel_rfl) (by kernel_rfl) (by kernel_rfl) (fun _ _ _ h => h) (Or.inl ⟨by rfl, ?yr24⟩) bu17 ?rr24
            case yr24 => (intro w hSw; have t0 := (FB.out w hSw).1; have t1 := (FB.out w hSw).2.1; have t2 := (FB.out w hSw).2.2; go_simp; try with_reducible rfl)
            try simp only [Act.put, List.setIfInBounds_toArray, List.set_cons_zero, List.set_cons_succ]
            refine wpAnyH_take (i := 25) (oi := { dst := some 74, op := Op.fieldAddr 24 (Operand.tmp 5) 1, type := 0, pos := "law.go:50", after := #[{ on := 19, ground := Ground.guard }], guard := some (19, true) }) (v := ?vr25) rfl (by kernel_rfl) (by kernel_rfl) (by kernel_rfl) (fun _ _ _ h => h) (Or.inl ⟨by rfl, ?yr25⟩) bu17 ?rr25
            case yr25 => (intro w hSw; go_simp; try with_reducible rfl)
            try simp only [Act.put, List.setIfInBounds_toArray, List.set_cons_zero, List.set_cons_succ]
            refine wpAnyH_take (i := 26) (oi := { dst := some 75, op := Op.load 3 (Operand.tmp 74), type := 3, pos := "law.go:50", after := #[{ on := 25, ground := Ground.data }, { on := 19, ground := Ground.guard }], guard := some (19, true) }) (v := .int .i64 f) rfl (by kernel_rfl) (by kernel_rfl) (by kernel_rfl) (fun _ _ _ h => h) (Or.inl ⟨by rfl, ?yr26⟩) bu17 ?rr26
            case yr26 => (intro w hSw; have t0 := (FB.out w hSw).1; have t1 := (FB.out w hSw).2.1; have t2 := (FB.out w hSw).2.2; go_simp; try with_reducible rfl)
            try simp only [Act.put, List.setIfInBounds_toArray, List.set_cons_zero, List.set_cons_succ]
            refine wpAnyH_ready (rs := [23]) (by kernel_rfl) (by simp) ?_
            refine AllReadyH.cons (o := { dst := some 72, op := Op.call { callee := Callee.value (Operand.func 16), args := #[Operand.tmp 69, Operand.tmp 71], argTypes := #[26, 3] }, type := 4, pos := "law.go:50", after := #[{ on := 20, ground := Ground.data }, { on := 22, ground := Ground.data }, { on := 19, ground := Ground.chain }, { on := 19, ground := Ground.guard }], guard := some (19, true) }) rfl (fun KK hKK => ?_) ?_
            · go_simp
              refine (HC23.out u17 f (HBC.out _ bu17)).mono ?_
              rintro e u27' ⟨rfl, gu27⟩
              (try go_wp2_with fail)
              refine hKK.out _ _ (bu17.trans (Below.mono gu27 bu17.size)) (fun _ => ?_)
              clear hKK KK
              try simp only [Act.put, List.setIfInBounds_toArray, List.set_cons_zero, List.set_cons_succ]
              refine wpAnyH_name (fun u27 hu27 => ?_)
              have bu27 : Below w4.heap.size w4 u27 := by rw [hu27.out]; exact (bu17.trans (Below.mono gu27 bu17.size))
              rw [← hu27.out] at gu27
              refine wpAnyH_ready (rs := [27]) (by kernel_rfl) (by simp) ?_
              refine AllReadyH.cons (o := { dst := some 76, op := Op.call { callee := Callee.value (Operand.func 29), args := #[Operand.tmp 73, Operand.tmp 75], argTypes := #[30, 3] }, type := 4, pos := "law.go:50", after := #[{ on := 24, ground := Ground.data }, { on := 26, ground := Ground.data }, { on := 23, ground := Ground.chain }, { on := 19, ground := Ground.guard }], guard := some (19, true) }) rfl (fun KK hKK => ?_) ?_
              · go_simp
                refine (HC27.out u27 f (HBC.out _ bu27)).mono ?_
                rintro e u28' ⟨rfl, gu28⟩
                (try go_wp2_with fail)
                refine hKK.out _ _ (bu27.trans (Below.mono gu28 bu27.size)) (fun _ => ?_)
                clear hKK KK
                try simp only [Act.put, List.setIfInBounds_toArray, List.set_cons_zero, List.set_cons_succ]
                refine wpAnyH_name (fun u28 hu28 => ?_)
                have bu28 : Below w4.heap.size w4 u28 := by rw [hu28.out]; exact (bu27.trans (Below.mono gu28 bu27.size))
                rw [← hu28.out] at gu28
                refine wpAnyH_take (i := 28) (oi := { dst := some 77, op := Op.binOp BinOp.eql 4 (Operand.tmp 72) (Operand.tmp 76) 4, type := 4, pos := "law.go:50", after := #[{ on := 23, ground := Ground.data }, { on := 27, ground := Ground.data }, { on := 19, ground := Ground.guard }], guard := some (19, true) }) (v := .bool true) rfl (by kernel_rfl) (by kernel_rfl) (by kernel_rfl) (fun _ _ _ h => h) (Or.inl ⟨by rfl, ?yr29⟩) bu28 ?rr29
                case yr29 => (intro w hSw; go_simp; try with_reducible rfl)
                try simp only [Act.put, List.setIfInBounds_toArray, List.set_cons_zero, List.set_cons_succ]
                refine wpAnyH_take (i := 29) (oi := { dst := some 78, op := Op.pick (Operand.tmp 68) (Operand.tmp 77) (Operand.const (Value.bool false)), type := 4, pos := "law.go:50", after := #[{ on := 19, ground := Ground.data }, { on := 28, ground := Ground.data }], guard := none }) (v := .bool true) rfl (by kernel_rfl) (by kernel_rfl) (by kernel_rfl) (fun _ _ _ h => h) (Or.inl ⟨by rfl, ?yr30⟩) bu28 ?rr30
                case yr30 => (intro w hSw; go_simp; try with_reducible rfl)
                try simp only [Act.put, List.setIfInBounds_toArray, List.set_cons_zero, List.set_cons_succ]
                refine wpAnyH_take (i := 30) (oi := { dst := some 79, op := Op.move (Operand.tmp 78), type := 4, pos := "law.go:50", after := #[{ on := 29, ground := Ground.data }, { on := 27, ground := Ground.chain }], guard := none }) (v := .bool true) rfl (by kernel_rfl) (by kernel_rfl) (by kernel_rfl) (fun _ _ _ h => h) (Or.inl ⟨by rfl, ?yr31⟩) bu28 ?rr31
                case yr31 => (intro w hSw; go_simp; try with_reducible rfl)
                try simp only [Act.put, List.setIfInBounds_toArray, List.set_cons_zero, List.set_cons_succ]
                refine wpAnyH_take (i := 31) (oi := { dst := some 80, op := Op.move (Operand.tmp 0), type := 26, pos := "law.go:50", after := #[{ on := 30, ground := Ground.guard }], guard := some (30, true) }) (v := ?vr32) rfl (by kernel_rfl) (by kernel_rfl) (by kernel_rfl) (fun _ _ _ h => h) (Or.inl ⟨by rfl, ?yr32⟩) bu28 ?rr32
                case yr32 => (intro w hSw; go_simp; try with_reducible rfl)
                try simp only [Act.put, List.setIfInBounds_toArray, List.set_cons_zero, List.set_cons_succ]
                refine wpAnyH_take (i := 32) (oi := { dst := some 81, op := Op.fieldAddr 24 (Operand.tmp 5) 2, type := 0, pos := "law.go:50", after := #[{ on := 30, ground := Ground.guard }], guard := some (30, true) }) (v := ?vr33) rfl (by kernel_rfl) (by kernel_rfl) (by kernel_rfl) (fun _ _ _ h => h) (Or.inl ⟨by rfl, ?yr33⟩) bu28 ?rr33
                case yr33 => (intro w hSw; go_simp; try with_reducible rfl)
                try simp only [Act.put, List.setIfInBounds_toArray, List.set_cons_zero, List.set_cons_succ]
                refine wpAnyH_take (i := 33) (oi := { dst := some 82, op := Op.load 3 (Operand.tmp 81), type := 3, pos := "law.go:50", after := #[{ on := 32, ground := Ground.data }, { on := 30, ground := Ground.guard }], guard := some (30, true) }) (v := .int .i64 t) rfl (by kernel_rfl) (by kernel_rfl) (by kernel_rfl) (fun _ _ _ h => h) (Or.inl ⟨by rfl, ?yr34⟩) bu28 ?rr34
                case yr34 => (intro w hSw; have t0 := (FB.out w hSw).1; have t1 := (FB.out w hSw).2.1; have t2 := (FB.out w hSw).2.2; go_simp; try with_reducible rfl)
                try simp only [Act.put, List.setIfInBounds_toArray, List.set_cons_zero, List.set_cons_succ]
                refine wpAnyH_take (i := 35) (oi := { dst := some 84, op := Op.load 30 (Operand.tmp 4), type := 30, pos := "law.go:50", after := #[{ on := 30, ground := Ground.guard }], guard := some (30, true) }) (v := .agg #[.slice ua n uc]) rfl (by kernel_rfl) (by kernel_rfl) (by kernel_rfl) (fun _ _ _ h => h) (Or.inl ⟨by rfl, ?yr35⟩) bu28 ?rr35
                case yr35 => (intro w hSw; have t0 := (FB.out w hSw).1; have t1 := (FB.out w hSw).2.1; have t2 := (FB.out w hSw).2.2; go_simp; try with_reducible rfl)
                try simp only [Act.put, List.setIfInBounds_toArray, List.set_cons_zero, List.set_cons_succ]
                refine wpAnyH_take (i := 36) (oi := { dst := some 85, op := Op.fieldAddr 24 (Operand.tmp 5) 2, type := 0, pos := "law.go:50", after := #[{ on := 30, ground := Ground.guard }], guard := some (30, true) }) (v := ?vr36) rfl (by kernel_rfl) (by kernel_rfl) (by kernel_rfl) (fun _ _ _ h => h) (Or.inl ⟨by rfl, ?yr36⟩) bu28 ?rr36
                case yr36 => (intro w hSw; go_simp; try with_reducible rfl)
                try simp only [Act.put, List.setIfInBounds_toArray, List.set_cons_zero, List.set_cons_succ]
                refine wpAnyH_take (i := 37) (oi := { dst := some 86, op := Op.load 3 (Operand.tmp 85), type := 3, pos := "law.go:50", after := #[{ on := 36, ground := Ground.data }, { on := 30, ground := Ground.guard }], guard := some (30, true) }) (v := .int .i64 t) rfl (by kernel_rfl) (by kernel_rfl) (by kernel_rfl) (fun _ _ _ h => h) (Or.inl ⟨by rfl, ?yr37⟩) bu28 ?rr37
                case yr37 => (intro w hSw; have t0 := (FB.out w hSw).1; have t1 := (FB.out w hSw).2.1; have t2 := (FB.out w hSw).2.2; go_simp; try with_reducible rfl)
                try simp only [Act.put, List.setIfInBounds_toArray, List.set_cons_zero, List.set_cons_succ]
                refine wpAnyH_ready (rs := [34]) (by kernel_rfl) (by simp) ?_
                refine AllReadyH.cons (o := { dst := some 83, op := Op.call { callee := Callee.value (Operand.func 16), args := #[Operand.tmp 80, Operand.tmp 82], argTypes := #[26, 3] }, type := 4, pos := "law.go:50", after := #[{ on := 31, ground := Ground.data }, { on := 33, ground := Ground.data }, { on := 30, ground := Ground.chain }, { on := 30, ground := Ground.guard }], guard := some (30, true) }) rfl (fun KK hKK => ?_) ?_
                · go_simp
                  refine (HC23.out u28 t (HBC.out _ bu28)).mono ?_
                  rintro e u38' ⟨rfl, gu38⟩
                  (try go_wp2_with fail)
                  refine hKK.out _ _ (bu28.trans (Below.mono gu38 bu28.size)) (fun _ => ?_)
                  clear hKK KK
                  try simp only [Act.put, List.setIfInBounds_toArray, List.set_cons_zero, List.set_cons_succ]
                  refine wpAnyH_name (fun u38 hu38 => ?_)
                  have bu38 : Below w4.heap.size w4 u38 := by rw [hu38.out]; exact (bu28.trans (Below.mono gu38 bu28.size))
                  rw [← hu38.out] at gu38
                  refine wpAnyH_ready (rs := [38]) (by kernel_rfl) (by simp) ?_
                  refine AllReadyH.cons (o := { dst := some 87, op := Op.call { callee := Callee.value (Operand.func 29), args := #[Operand.tmp 84, Operand.tmp 86], argTypes := #[30, 3] }, type := 4, pos := "law.go:50", after := #[{ on := 35, ground := Ground.data }, { on := 37, ground := Ground.data }, { on := 34, ground := Ground.chain }, { on := 30, ground := Ground.guard }], guard := some (30, true) }) rfl (fun KK hKK => ?_) ?_
                  · go_simp
                    refine (HC27.out u38 t (HBC.out _ bu38)).mono ?_
                    rintro e u39' ⟨rfl, gu39⟩
                    (try go_wp2_with fail)
                    refine hKK.out _ _ (bu38.trans (Below.mono gu39 bu38.size)) (fun _ => ?_)
                    clear hKK KK
                    try simp only [Act.put, List.setIfInBounds_toArray, List.set_cons_zero, List.set_cons_succ]
                    refine wpAnyH_name (fun u39 hu39 => ?_)
                    have bu39 : Below w4.heap.size w4 u39 := by rw [hu39.out]; exact (bu38.trans (Below.mono gu39 bu38.size))
                    rw [← hu39.out] at gu39
                    refine wpAnyH_take (i := 39) (oi := { dst := some 88, op := Op.binOp BinOp.eql 4 (Operand.tmp 83) (Operand.tmp 87) 4, type := 4, pos := "law.go:50", after := #[{ on := 34, ground := Ground.data }, { on := 38, ground := Ground.data }, { on := 30, ground := Ground.guard }], guard := some (30, true) }) (v := .bool true) rfl (by kernel_rfl) (by kernel_rfl) (by kernel_rfl) (fun _ _ _ h => h) (Or.inl ⟨by rfl, ?yr40⟩) bu39 ?rr40
                    case yr40 => (intro w hSw; go_simp; try with_reducible rfl)
                    try simp only [Act.put, List.setIfInBounds_toArray, List.set_cons_zero, List.set_cons_succ]
                    refine wpAnyH_take (i := 40) (oi := { dst := some 89, op := Op.pick (Operand.tmp 79) (Operand.tmp 88) (Operand.const (Value.bool false)), type := 4, pos := "law.go:50", after := #[{ on := 30, ground := Ground.data }, { on := 39, ground := Ground.data }], guard := none }) (v := .bool true) rfl (by kernel_rfl) (by kernel_rfl) (by kernel_rfl) (fun _ _ _ h => h) (Or.inl ⟨by rfl, ?yr41⟩) bu39 ?rr41
                    case yr41 => (intro w hSw; go_simp; try with_reducible rfl)
                    try simp only [Act.put, List.setIfInBounds_toArray, List.set_cons_zero, List.set_cons_succ]
                    refine wpAnyH_take (i := 41) (oi := { dst := some 90, op := Op.move (Operand.tmp 89), type := 4, pos := "law.go:50", after := #[{ on := 40, ground := Ground.data }, { on := 38, ground := Ground.chain }], guard := none }) (v := .bool true) rfl (by kernel_rfl) (by kernel_rfl) (by kernel_rfl) (fun _ _ _ h => h) (Or.inl ⟨by rfl, ?yr42⟩) bu39 ?rr42
                    case yr42 => (intro w hSw; go_simp; try with_reducible rfl)
                    try simp only [Act.put, List.setIfInBounds_toArray, List.set_cons_zero, List.set_cons_succ]
                    refine wpAnyH_take (i := 42) (oi := { dst := some 91, op := Op.move (Operand.tmp 0), type := 26, pos := "law.go:50", after := #[{ on := 41, ground := Ground.guard }], guard := some (41, true) }) (v := ?vr43) rfl (by kernel_rfl) (by kernel_rfl) (by kernel_rfl) (fun _ _ _ h => h) (Or.inl ⟨by rfl, ?yr43⟩) bu39 ?rr43
                    case yr43 => (intro w hSw; go_simp; try with_reducible rfl)
                    try simp only [Act.put, List.setIfInBounds_toArray, List.set_cons_zero, List.set_cons_succ]
                    refine wpAnyH_take (i := 43) (oi := { dst := some 92, op := Op.fieldAddr 24 (Operand.tmp 5) 1, type := 0, pos := "law.go:50", after := #[{ on := 41, ground := Ground.guard }], guard := some (41, true) }) (v := ?vr44) rfl (by kernel_rfl) (by kernel_rfl) (by kernel_rfl) (fun _ _ _ h => h) (Or.inl ⟨by rfl, ?yr44⟩) bu39 ?rr44
                    case yr44 => (intro w hSw; go_simp; try with_reducible rfl)
                    try simp only [Act.put, List.setIfInBounds_toArray, List.set_cons_zero, List.set_cons_succ]
                    refine wpAnyH_take (i := 44) (oi := { dst := some 93, op := Op.load 3 (Operand.tmp 92), type := 3, pos := "law.go:50", after := #[{ on := 43, ground := Ground.data }, { on := 41, ground := Ground.guard }], guard := some (41, true) }) (v := .int .i64 f) rfl (by kernel_rfl) (by kernel_rfl) (by kernel_rfl) (fun _ _ _ h => h) (Or.inl ⟨by rfl, ?yr45⟩) bu39 ?rr45
                    case yr45 => (intro w hSw; have t0 := (FB.out w hSw).1; have t1 := (FB.out w hSw).2.1; have t2 := (FB.out w hSw).2.2; go_simp; try with_reducible rfl)
                    try simp only [Act.put, List.setIfInBounds_toArray, List.set_cons_zero, List.set_cons_succ]
                    refine wpAnyH_take (i := 45) (oi := { dst := some 94, op := Op.fieldAddr 24 (Operand.tmp 5) 2, type := 0, pos := "law.go:50", after := #[{ on := 41, ground := Ground.guard }], guard := some (41, true) }) (v := ?vr46) rfl (by kernel_rfl) (by kernel_rfl) (by kernel_rfl) (fun _ _ _ h => h) (Or.inl ⟨by rfl, ?yr46⟩) bu39 ?rr46
                    case yr46 => (intro w hSw; go_simp; try with_reducible rfl)
                    try simp only [Act.put, List.setIfInBounds_toArray, List.set_cons_zero, List.set_cons_succ]
                    refine wpAnyH_take (i := 46) (oi := { dst := some 95, op := Op.load 3 (Operand.tmp 94), type := 3, pos := "law.go:50", after := #[{ on := 45, ground := Ground.data }, { on := 41, ground := Ground.guard }], guard := some (41, true) }) (v := .int .i64 t) rfl (by kernel_rfl) (by kernel_rfl) (by kernel_rfl) (fun _ _ _ h => h) (Or.inl ⟨by rfl, ?yr47⟩) bu39 ?rr47
                    case yr47 => (intro w hSw; have t0 := (FB.out w hSw).1; have t1 := (FB.out w hSw).2.1; have t2 := (FB.out w hSw).2.2; go_simp; try with_reducible rfl)
                    try simp only [Act.put, List.setIfInBounds_toArray, List.set_cons_zero, List.set_cons_succ]
                    refine wpAnyH_take (i := 48) (oi := { dst := some 97, op := Op.load 30 (Operand.tmp 4), type := 30, pos := "law.go:50", after := #[{ on := 41, ground := Ground.guard }], guard := some (41, true) }) (v := .agg #[.slice ua n uc]) rfl (by kernel_rfl) (by kernel_rfl) (by kernel_rfl) (fun _ _ _ h => h) (Or.inl ⟨by rfl, ?yr48⟩) bu39 ?rr48
                    case yr48 => (intro w hSw; have t0 := (FB.out w hSw).1; have t1 := (FB.out w hSw).2.1; have t2 := (FB.out w hSw).2.2; go_simp; try with_reducible rfl)
                    try simp only [Act.put, List.setIfInBounds_toArray, List.set_cons_zero, List.set_cons_succ]
                    refine wpAnyH_take (i := 49) (oi := { dst := some 98, op := Op.fieldAddr 24 (Operand.tmp 5) 1, type := 0, pos := "law.go:50", after := #[{ on := 41, ground := Ground.guard }], guard := some (41, true) }) (v := ?vr49) rfl (by kernel_rfl) (by kernel_rfl) (by kernel_rfl) (fun _ _ _ h => h) (Or.inl ⟨by rfl, ?yr49⟩) bu39 ?rr49
                    case yr49 => (intro w hSw; go_simp; try with_reducible rfl)
                    try simp only [Act.put, List.setIfInBounds_toArray, List.set_cons_zero, List.set_cons_succ]
                    refine wpAnyH_take (i := 50) (oi := { dst := some 99, op := Op.load 3 (Operand.tmp 98), type := 3, pos := "law.go:50", after := #[{ on := 49, ground := Ground.data }, { on := 41, ground := Ground.guard }], guard := some (41, true) }) (v := .int .i64 f) rfl (by kernel_rfl) (by kernel_rfl) (by kernel_rfl) (fun _ _ _ h => h) (Or.inl ⟨by rfl, ?yr50⟩) bu39 ?rr50
                    case yr50 => (intro w hSw; have t0 := (FB.out w hSw).1; have t1 := (FB.out w hSw).2.1; have t2 := (FB.out w hSw).2.2; go_simp; try with_reducible rfl)
                    try simp only [Act.put, List.setIfInBounds_toArray, List.set_cons_zero, List.set_cons_succ]
                    refine wpAnyH_take (i := 51) (oi := { dst := some 100, op := Op.fieldAddr 24 (Operand.tmp 5) 2, type := 0, pos := "law.go:50", after := #[{ on := 41, ground := Ground.guard }], guard := some (41, true) }) (v := ?vr51) rfl (by kernel_rfl) (by kernel_rfl) (by kernel_rfl) (fun _ _ _ h => h) (Or.inl ⟨by rfl, ?yr51⟩) bu39 ?rr51
                    case yr51 => (intro w hSw; go_simp; try with_reducible rfl)
                    try simp only [Act.put, List.setIfInBounds_toArray, List.set_cons_zero, List.set_cons_succ]
                    refine wpAnyH_take (i := 52) (oi := { dst := some 101, op := Op.load 3 (Operand.tmp 100), type := 3, pos := "law.go:50", after := #[{ on := 51, ground := Ground.data }, { on := 41, ground := Ground.guard }], guard := some (41, true) }) (v := .int .i64 t) rfl (by kernel_rfl) (by kernel_rfl) (by kernel_rfl) (fun _ _ _ h => h) (Or.inl ⟨by rfl, ?yr52⟩) bu39 ?rr52
                    case yr52 => (intro w hSw; have t0 := (FB.out w hSw).1; have t1 := (FB.out w hSw).2.1; have t2 := (FB.out w hSw).2.2; go_simp; try with_reducible rfl)
                    try simp only [Act.put, List.setIfInBounds_toArray, List.set_cons_zero, List.set_cons_succ]
                    refine wpAnyH_ready (rs := [47]) (by kernel_rfl) (by simp) ?_
                    refine AllReadyH.cons (o := { dst := some 96, op := Op.call { callee := Callee.value (Operand.func 20), args := #[Operand.tmp 91, Operand.tmp 93, Operand.tmp 95], argTypes := #[26, 3, 3] }, type := 28, pos := "law.go:50", after := #[{ on := 42, ground := Ground.data }, { on := 44, ground := Ground.data }, { on := 46, ground := Ground.data }, { on := 41, ground := Ground.chain }, { on := 41, ground := Ground.guard }], guard := some (41, true) }) rfl (fun KK hKK => ?_) ?_
                    · go_simp
                      refine (HC47.out u39 (HBC.out _ bu39)).mono ?_
                      rintro e u53' ⟨au53, cu53, rfl, pu53, gu53⟩
                      (try go_wp2_with fail)
                      refine hKK.out _ _ (bu39.trans (Below.mono gu53 bu39.size)) (fun _ => ?_)
                      clear hKK KK
                      try simp only [Act.put, List.setIfInBounds_toArray, List.set_cons_zero, List.set_cons_succ]
                      refine wpAnyH_name (fun u53 hu53 => ?_)
                      have bu53 : Below w4.heap.size w4 u53 := by rw [hu53.out]; exact (bu39.trans (Below.mono gu53 bu39.size))
                      rw [← hu53.out] at gu53
                      rw [← hu53.out] at pu53
                      refine wpAnyH_ready (rs := [53]) (by kernel_rfl) (by simp) ?_
                      refine AllReadyH.cons (o := { dst := some 102, op := Op.call { callee := Callee.value (Operand.func 30), args := #[Operand.tmp 97, Operand.tmp 99, Operand.tmp 101], argTypes := #[30, 3, 3] }, type := 28, pos := "law.go:50", after := #[{ on := 48, ground := Ground.data }, { on := 50, ground := Ground.data }, { on := 52, ground := Ground.data }, { on := 47, ground := Ground.chain }, { on := 41, ground := Ground.guard }], guard := some (41, true) }) rfl (fun KK hKK => ?_) ?_
                      · go_simp
                        refine (HC53.out u53 (HBC.out _ bu53)).mono ?_
                        rintro e u54' ⟨au54, cu54, rfl, pu54, gu54⟩
                        (try go_wp2_with fail)
                        refine hKK.out _ _ (bu53.trans (Below.mono gu54 bu53.size)) (fun _ => ?_)
                        clear hKK KK
                        try simp only [Act.put, List.setIfInBounds_toArray, List.set_cons_zero, List.set_cons_succ]
                        refine wpAnyH_name (fun u54 hu54 => ?_)
                        have bu54 : Below w4.heap.size w4 u54 := by rw [hu54.out]; exact (bu53.trans (Below.mono gu54 bu53.size))
                        rw [← hu54.out] at gu54
                        rw [← hu54.out] at pu54
                        refine wpAnyH_ready (rs := [54]) (by kernel_rfl) (by simp) ?_
                        refine AllReadyH.cons (o := { dst := some 103, op := Op.call { callee := Callee.value (Operand.func 22), args := #[Operand.tmp 96, Operand.tmp 102], argTypes := #[28, 28] }, type := 4, pos := "law.go:50", after := #[{ on := 47, ground := Ground.data }, { on := 53, ground := Ground.data }, { on := 53, ground := Ground.chain }, { on := 41, ground := Ground.guard }], guard := some (41, true) }) rfl (fun KK hKK => ?_) ?_
                        · go_simp
                          refine (HC54.out u54 _ _ _ _ (pu53.kept gu54) pu54).mono ?_
                          rintro e u55' ⟨rfl, gu55⟩
                          (try go_wp2_with fail)
                          refine hKK.out _ _ (bu54.trans (Below.mono gu55 bu54.size)) (fun _ => ?_)
                          clear hKK KK
                          try simp only [Act.put, List.setIfInBounds_toArray, List.set_cons_zero, List.set_cons_succ]
                          refine wpAnyH_name (fun u55 hu55 => ?_)
                          have bu55 : Below w4.heap.size w4 u55 := by rw [hu55.out]; exact (bu54.trans (Below.mono gu55 bu54.size))
                          rw [← hu55.out] at gu55
                          refine wpAnyH_take (i := 55) (oi := { dst := some 104, op := Op.pick (Operand.tmp 90) (Operand.tmp 103) (Operand.const (Value.bool false)), type := 4, pos := "law.go:50", after := #[{ on := 41, ground := Ground.data }, { on := 54, ground := Ground.data }], guard := none }) (v := .bool true) rfl (by kernel_rfl) (by kernel_rfl) (by kernel_rfl) (fun _ _ _ h => h) (Or.inl ⟨by rfl, ?yr56⟩) bu55 ?rr56
                          case yr56 => (intro w hSw; go_simp; try with_reducible rfl)
                          try simp only [Act.put, List.setIfInBounds_toArray, List.set_cons_zero, List.set_cons_succ]
                          refine wpAnyH_take (i := 56) (oi := { dst := some 10, op := Op.assign (Operand.tmp 104), type := 4, pos := "law.go:50", after := #[{ on := 55, ground := Ground.data }, { on := 54, ground := Ground.chain }, { on := 0, ground := Ground.phase }, { on := 1, ground := Ground.phase }, { on := 2, ground := Ground.phase }, { on := 3, ground := Ground.phase }, { on := 4, ground := Ground.phase }, { on := 5, ground := Ground.phase }, { on := 6, ground := Ground.phase }, { on := 7, ground := Ground.phase }, { on := 8, ground := Ground.phase }, { on := 9, ground := Ground.phase }, { on := 10, ground := Ground.phase }, { on := 11, ground := Ground.phase }, { on := 12, ground := Ground.phase }, { on := 13, ground := Ground.phase }, { on := 14, ground := Ground.phase }, { on := 15, ground := Ground.phase }, { on := 16, ground := Ground.phase }, { on := 17, ground := Ground.phase }, { on := 18, ground := Ground.phase }, { on := 19, ground := Ground.phase }, { on := 20, ground := Ground.phase }, { on := 21, ground := Ground.phase }, { on := 22, ground := Ground.phase }, { on := 23, ground := Ground.phase }, { on := 24, ground := Ground.phase }, { on := 25, ground := Ground.phase }, { on := 26, ground := Ground.phase }, { on := 27, ground := Ground.phase }, { on := 28, ground := Ground.phase }, { on := 29, ground := Ground.phase }, { on := 30, ground := Ground.phase }, { on := 31, ground := Ground.phase }, { on := 32, ground := Ground.phase }, { on := 33, ground := Ground.phase }, { on := 34, ground := Ground.phase }, { on := 35, ground := Ground.phase }, { on := 36, ground := Ground.phase }, { on := 37, ground := Ground.phase }, { on := 38, ground := Ground.phase }, { on := 39, ground := Ground.phase }, { on := 40, ground := Ground.phase }, { on := 41, ground := Ground.phase }, { on := 42, ground := Ground.phase }, { on := 43, ground := Ground.phase }, { on := 44, ground := Ground.phase }, { on := 45, ground := Ground.phase }, { on := 46, ground := Ground.phase }, { on := 47, ground := Ground.phase }, { on := 48, ground := Ground.phase }, { on := 49, ground := Ground.phase }, { on := 50, ground := Ground.phase }, { on := 51, ground := Ground.phase }, { on := 52, ground := Ground.phase }, { on := 53, ground := Ground.phase }, { on := 54, ground := Ground.phase }, { on := 55, ground := Ground.phase }], guard := none }) (v := .bool true) rfl (by kernel_rfl) (by kernel_rfl) (by kernel_rfl) (fun _ _ _ h => h) (Or.inl ⟨by rfl, ?yr57⟩) bu55 ?rr57
                          case yr57 => (intro w hSw; go_simp; try with_reducible rfl)
                          try simp only [Act.put, List.setIfInBounds_toArray, List.set_cons_zero, List.set_cons_succ]
                          refine wpAnyH_done (by kernel_rfl) ?_ _
                          have H2 := bu55
                          have HBZ : Hid (Below w4.heap.size w4 u55) := H2
                          have HBY : Hid (Below wc.heap.size wc u55) := HBC.out _ H2
                          have HT0 := HAT9.out u55 H2
                          have HT1 : Hid (∀ i, i < n → ∃ g9, a9 = some ⟨g9, 0, none⟩ ∧ wc.heap.size ≤ g9 ∧ ∃ z, u55.cell? ⟨g9, i * 2, none⟩ = some (.int .i64 z) ∧ u55.frozen? ⟨g9, i * 2, none⟩ = false) := HT0
                          clear HC3 HC6 HC14 HC16 HC23 HC27 HC47 HC53 HC54 HST FB HBC HS9 HAT9 HT0
                          go_wp2
                          go_loopw [11] (fun s11 wr => ∃ j : Nat, j ≤ n ∧ s11 = .int .i64 j ∧ Below wc.heap.size wc wr ∧ ∀ i, i < n → ∃ g9, a9 = some ⟨g9, 0, none⟩ ∧ wc.heap.size ≤ g9 ∧ ∃ z, wr.cell? ⟨g9, i * 2, none⟩ = some (.int .i64 z) ∧ wr.frozen? ⟨g9, i * 2, none⟩ = false) (fun s11 _ => n - (intOf s11).toNat)
                          case atStart => exact ⟨0, by omega, rfl, HBY.out, HT1.out⟩
                          case round =>
                            obtain ⟨j, hj, rfl, bel, ht⟩ := hrel
                            have HBL : Hid (Below wc.heap.size wc wr) := bel
                            have HT : Hid (∀ i, i < n → ∃ g9, a9 = some ⟨g9, 0, none⟩ ∧ wc.heap.size ≤ g9 ∧ ∃ z, wr.cell? ⟨g9, i * 2, none⟩ = some (.int .i64 z) ∧ wr.frozen? ⟨g9, i * 2, none⟩ = false) := ht
                            clear bel ht
                            by_cases hjn : j < n
                            · have lt2 : (j : Int) < (n : Int) := by omega
                              obtain ⟨g9, rfl, hg9, z, q1, q2⟩ := HT.out j hjn
                              have HG9 : Hid (wc.heap.size ≤ g9) := hg9
                              clear hg9
                              go_wp2
                              go_roundw
                              case rel =>
                                refine ⟨j + 1, by omega, by go_num, HBL.out.setCell HG9.out _, fun i hi => ?_⟩
                                obtain ⟨g', e, h1, z', h2, h3⟩ := HT.out i hi
                                cases e
                                by_cases hij : i = j
                                · subst hij
                                  exact ⟨g9, rfl, h1, _, World.cell?_setCell_same _ _ _ h2, by rw [World.frozen?_setCell]; exact h3⟩
                                · refine ⟨g9, rfl, h1, z', ?_, by rw [World.frozen?_setCell]; exact h3⟩
                                  rw [World.cell?_setCell_other _ _ _ _ (fun e => hij (by have : j * 2 = i * 2 := congrArg Addr.off e; omega))]
                                  exact h2
                              case measure => simp [intOf]; omega
                            · obtain rfl : j = n := by omega
                              have lt2 : ¬ (j : Int) < (j : Int) := by omega
                              go_wp2
                              go_ret
                              exact ⟨rfl, HB0.out.trans (HBL.out.mono HB0.out.size)⟩
                        exact AllReadyH.nil
                      exact AllReadyH.nil
                    exact AllReadyH.nil
                  exact AllReadyH.nil
                exact AllReadyH.nil
              exact AllReadyH.nil
            exact AllReadyH.nil
          exact AllReadyH.nil
        exact AllReadyH.nil
      exact AllReadyH.nil
    exact AllReadyH.nil
end Go.Proofs.YtaghmoddalbepaaDoor
namespace Go.Proofs.YtaghmoddalbepaaDoor
open Go.RowKit Go.Shelf
set_option maxRecDepth 100000

/-- A set, and the document's spans in a variable that lies apart. -/
structure DF (w : World) (B g rb : Nat) (v u : Value) (l : List Sp) : Prop where
  dd : DD w B g v u l
  bx : w.heap[rb]? = some (.cells #[u] 30 (0, 0))
  ne : rb ≠ g
  ov : v.ownBlock ≠ some rb
  ru : rowB u ≠ some rb
theorem DF.below {w w' : World} {B g rb : Nat} {v u : Value} {l : List Sp} (h : DF w B g rb v u l) (hb : Below w.heap.size w w') : DF w' B g rb v u l :=
  ⟨⟨h.dd.st.below hb, h.dd.sp.kept hb, fun k hk => ⟨Nat.lt_of_lt_of_le (h.dd.lt k hk).1 hb.size, (h.dd.lt k hk).2⟩, h.dd.ap⟩, blk_kept h.bx hb (blk_lt h.bx), h.ne, h.ov, h.ru⟩
theorem DF.cell {w : World} {B g rb : Nat} {v u : Value} {l : List Sp} (h : DF w B g rb v u l) : w.cell? ⟨rb, 0, none⟩ = some u := by have := h.bx; simp [World.cell?, this]
theorem df_do {w w' : World} {B g rb : Nat} {v v' u u' : Value} {l l' : List Sp} (h : DF w B g rb v u l) (d : DD w' B g v' u' l') (s : SU w w' g v v') (hr : rowB u' = rowB u ∨ ∀ k, rowB u' = some k → w.heap.size ≤ k) :
    w'.heap[rb]? = some (.cells #[u] 30 (0, 0)) ∧ DF (w'.setCell ⟨rb, 0, none⟩ u') B g rb v' u' l' := by
  have hl := blk_lt h.bx
  have hx : w'.heap[rb]? = some (.cells #[u] 30 (0, 0)) := (s.block rb hl h.ne h.ov).trans h.bx
  have ov : v'.ownBlock ≠ some rb := fun e => by
    rcases s.own with q | ⟨k, q, hk⟩
    · exact h.ov (q ▸ e)
    · rw [q] at e
      have : k = rb := by simpa using e
      omega
  have ru : rowB u' ≠ some rb := fun e => by
    rcases hr with q | q
    · exact h.ru (q ▸ e)
    · have := q _ e
      omega
  exact ⟨hx, d.bt (Bt.set rb w' u') h.ne.symm ov ru, set_one hx, h.ne, ov, ru⟩
theorem df_fork {w5 U : World} {B g rb B2 g2 xb : Nat} {va ua v2 z : Value} {Z : List Sp} (hd : DB w5 B g rb va ua Z) (hb : Below w5.heap.size w5 U) (st : ST U B2 g2 v2 Z) (hB2 : w5.heap.size ≤ B2) (hg2 : w5.heap.size ≤ g2) (hx : U.heap[xb]? = some (.cells #[z] 30 (0, 0))) (hxb : w5.heap.size ≤ xb) (ne : g2 ≠ xb) (ov : v2.ownBlock ≠ some xb) :
    DF (U.setCell ⟨xb, 0, none⟩ ua) w5.heap.size g2 xb v2 ua Z := by
  have ru : rowB ua ≠ some xb := fun e => by have := (hd.dd.lt _ e).1; omega
  have d : DD U w5.heap.size g2 v2 ua Z := ⟨⟨st.sb, RI.mono st.rs hB2, st.cn, st.ln⟩, hd.dd.sp.kept hb, fun k hk => by
    have := (hd.dd.lt k hk).1
    have := hb.size
    exact ⟨by omega, by omega⟩, fun k hk e => by
    have := own_base st.rs.1 k hk
    have := (hd.dd.lt k e).1
    omega⟩
  exact ⟨d.bt (Bt.set xb U ua) ne ov ru, set_one hx, ne.symm, ov, ru⟩
theorem hasNil (w : World) (m : Int) : Calls Tryd.prog 16 #[.pointer none, .int .i64 m] w fun e w' => e = .returned (.bool false) ∧ Below w.heap.size w w' := has_any w none m [] (sq_none w m m)
theorem spansNil (w : World) : Calls Tryd.prog 17 #[.pointer none] w fun e w' => ∃ a c, e = .returned (.slice a 0 c) ∧ Below w.heap.size w w' := by
  refine (spans_any w none [] (sq_none w _ _)).mono ?_
  rintro e w' ⟨v', rfl, r, b⟩
  obtain ⟨a, c, rfl, -, -, -⟩ := r.is.shape
  exact ⟨a, c, rfl, b⟩
theorem countNil (w : World) : Calls Tryd.prog 19 #[.pointer none] w fun e w' => e = .returned (.int .i64 0) ∧ Below w.heap.size w w' := countAll_any w none [] (sq_none w _ _)
theorem gapsNil (w : World) (f t : Int) : Calls Tryd.prog 20 #[.pointer none, .int .i64 f, .int .i64 t] w fun e w' => ∃ a c, e = .returned (.slice a 0 c) ∧ Below w.heap.size w w' := by
  refine (gaps_any w none f t [] (fun _ => sq_none w _ _)).mono ?_
  rintro e w' ⟨v', rfl, r, b⟩
  have e0 : (if (none : Option Addr).isSome = true ∧ may f t = true then gap t f [] else []) = [] := by simp
  rw [e0] at r
  obtain ⟨a, c, rfl, -, -, -⟩ := r.is.shape
  exact ⟨a, c, rfl, b⟩
end Go.Proofs.YtaghmoddalbepaaDoor
