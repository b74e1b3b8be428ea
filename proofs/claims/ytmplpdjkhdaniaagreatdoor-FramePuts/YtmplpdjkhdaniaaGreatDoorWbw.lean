/-
  What the document's Put of a plain form answers.
  Asks and StreamOf, of every kind.
  StreamOf of what is no Stream.
  Nothing as a frame.
-/
import Derived.Test.YtmplpdjkhdaniaaGreatDoorWbi
import Derived.Test.YtmplpdjkhdaniaaGreatDoorWaw
import Derived.Test.YtmplpdjkhdaniaaGreatDoorWbt
import Derived.Test.YtmplpdjkhdaniaaGreatDoorWbv
namespace Go.Proofs.YtmplpdjkhdaniaaGreatDoor
open Go.RowKit Go.Shelf
set_option maxRecDepth 100000

theorem chkL_of {l : List Sp} (h1 : Canon l) (h2 : l ≠ []) (h3 : l.length ≤ 64) : chkL l = 0 := by
  unfold chkL
  rw [if_neg (by omega), if_neg (fun q => q.elim h2 (fun q => q (setL_canon h1)))]
theorem lg_ge (k : Int) : decide (0 ≤ lgM k) = hT k := by
  have := lg_hT k
  cases h : hT k with
  | true => rw [h] at this; have h2 : ¬ lgM k < 0 := fun e => by have := this.1 e; cases this
            exact decide_eq_true (by omega)
  | false => have h2 := this.2 h; exact decide_eq_false (by omega)
theorem sl_one (w : World) (z : Int) (h : 0 ≤ z ∧ z < 256) : Sl (w.alloc (.cells #[.int .u8 z] 5)) (.slice (some ⟨w.heap.size, 0, none⟩) 1 1) [z] :=
  sl_owned (one_own w z) (byteList _ (by simp; omega))
theorem ow_one (w : World) (z : Int) (h : 0 ≤ z ∧ z < 256) : Ow (w.alloc (.cells #[.int .u8 z] 5)) w.heap.size (.slice (some ⟨w.heap.size, 0, none⟩) 1 1) [z] :=
  ⟨one_own w z, byteList _ (by simp; omega)⟩
theorem alloc_n16 (w : World) (cs : Array Value) : (w.alloc (.cells #[.int .u8 0, .int .u8 0, .int .u8 0, .int .u8 0, .int .u8 0, .int .u8 0, .int .u8 0, .int .u8 0, .int .u8 0, .int .u8 0, .int .u8 0, .int .u8 0, .int .u8 0, .int .u8 0, .int .u8 0, .int .u8 0] 22)).setRow w.heap.size cs = w.alloc (.cells cs 22) := World.setRow_alloc_new _ _ _ _
theorem new_n16 (w : World) : (w.alloc (.cells #[.int .u8 0, .int .u8 0, .int .u8 0, .int .u8 0, .int .u8 0, .int .u8 0, .int .u8 0, .int .u8 0, .int .u8 0, .int .u8 0, .int .u8 0, .int .u8 0, .int .u8 0, .int .u8 0, .int .u8 0, .int .u8 0] 22)).heap[w.heap.size]? = some (.cells (u8c zn) 22 (0, 0)) := heap_alloc_new _ _
theorem sl_shp {w : World} {v : Value} {X : List Int} (h : Sl w v X) : ∃ a n c, v = .slice a n c ∧ n = X.length := by
  obtain ⟨a, c, rfl, _⟩ := h
  exact ⟨a, _, c, rfl, rfl⟩
set_option maxHeartbeats 16000000 in
theorem rputF_any (p : Fm) (sv : Value) (w : World) (hi : FI w p sv) (hl : p.sp.length ≤ 1000) (ht : p.tx.size ≤ 100000) :
    Calls Tryz.prog 7 #[.agg (plA p sv)] w fun e w' => ∃ v, e = .returned (.tuple #[v, .int .i64 (chkM p)]) ∧ Sl w' v (putR p) ∧ Below w.heap.size w w' := by
  obtain ⟨W1, hW1⟩ : ∃ W1, W1 = w.alloc (.cells (plA p sv) 25) := ⟨_, rfl⟩
  have b1 : Below w.heap.size w W1 := by rw [hW1]; exact al_below _ _
  have g1 : PF W1 w.heap.size 25 p sv := by rw [hW1]; exact PF.new w _ p sv
  have HB1 : Hid (Below w.heap.size w W1) := b1
  have HR1 : Hid (W1.rangeAt w.heap.size 0 (plL p sv)) := g1.range
  have HSL : Hid ((Tryz.prog.info? 25).map (·.size) = some (plL p sv).length) := by unfold Hid; rw [plL_len hi.k.nl]; kernel_rfl
  have cc := rcheckF_any p sv W1 (hi.kept b1) hl
  have FK : Hid (∀ W, From W1 W → PC W w.heap.size p sv) := fun W hb => (g1.kept hb).pc hi.k.nl
  have HKB : Hid (0 ≤ p.k ∧ p.k < 256) := ⟨hi.k.k0, hi.k.k1⟩
  have HNB : Hid (∀ i, 0 ≤ p.nc.getD i 0 ∧ p.nc.getD i 0 < 256) := hi.k.nb
  have HNL : Hid (p.nc.length = 16) := hi.k.nl
  have HSP : Hid (∀ W, From W1 W → SSp W sv p.sp) := fun W hb => (hi.s.kept b1).kept hb
  have HTX : Hid (p.tx.size ≤ 100000) := ht
  obtain ⟨sa, sc, rfl, -⟩ := id hi.s.shape
  clear b1 g1 hi hl ht
  go_enter Tryz.func7, Tryz.ntmps7
  go_upto_region 1 with fail
  rw [← hW1]
  clear hW1
  go_wp2_with (refine wpList_load_mid rfl 25 _ rfl w.heap.size 0 rfl (plL p (.slice sa p.sp.length sc)) _ HR1.out Tryz.underlying25 rfl HSL.out (Hid.out ?_))
  unfold Hid
  go_wp2_with fail
  refine cc.mono ?_
  rintro e w2 ⟨rfl, b2⟩
  have HB2 : Hid (From W1 w2) := b2
  clear cc b2 HR1 HSL
  by_cases hc : chkM p = 0
  · have HC : Hid (chkM p = 0) := hc
    have tc : (chkM p != 0) = false := by rw [hc]; rfl
    have hok := chkM_ok hc
    have HCL : Hid (hS p.k = true → chkL p.sp = 0) := fun e => by obtain ⟨s1, s2, s3⟩ := hok.sp e; exact chkL_of s1 s2 s3
    have HPR : Hid (putR p = putM p) := by unfold Hid putR; rw [if_pos hc]
    have c0 := (FK.out w2 HB2.out).c0
    clear hc hok
    obtain ⟨W3, hW3⟩ : ∃ W3, W3 = w2.alloc (.cells #[.int .u8 p.k] 5) := ⟨_, rfl⟩
    have b3 : Below w2.heap.size w2 W3 := by rw [hW3]; exact al_below _ _
    have BC : Hid (From W1 W3) := HB2.out.trans (b3.mono HB2.out.size)
    obtain ⟨X0, hX0⟩ : ∃ X0, X0 = [p.k] := ⟨_, rfl⟩
    have OC : Hid (Ow W3 W1.heap.size (.slice (some ⟨w2.heap.size, 0, none⟩) 1 1) X0) := by rw [hX0, hW3]; exact (ow_one w2 p.k HKB.out).mono HB2.out.size
    have HX0 : Hid (X0 = [p.k]) := hX0
    have HL0 : Hid (X0.length ≤ 1) := by rw [hX0]; exact Nat.le_refl _
    clear b3 hX0
    go_upto_region 5 with fail
    rw [← hW3]
    clear hW3 c0 tc
    obtain ⟨hq, ehq⟩ : ∃ x, x = w2.heap.size := ⟨_, rfl⟩
    rw [← ehq] at OC ⊢
    clear ehq HB2
    obtain ⟨X1, hX1⟩ : ∃ X, X = X0 ++ (if hI p.k then nB p.id else []) := ⟨_, rfl⟩
    have HX1 : Hid (X1 = X0 ++ (if hI p.k then nB p.id else [])) := hX1
    have HL1 : Hid (X1.length ≤ 9) := by
      unfold Hid
      rw [hX1, List.length_append]
      have h1 := HL0.out
      by_cases hf : hI p.k = true
      · rw [if_pos hf]
        have := numB_len8 (p.id)
        omega
      · rw [if_neg hf, List.length_nil]
        omega
    clear hX1
    obtain ⟨c0, c1, c2, c3, c4, c5, c22, cnc⟩ := FK.out W3 BC.out
    clear c1 c2 c3 c4 c5 c22 cnc
    have cx := hasID_any p.k W3
    go_wp2_with fail
    refine cx.mono ?_
    rintro e wq ⟨rfl, eq⟩
    rw [eq]
    clear cx eq wq
    go_upto_if 20 with fail
    clear c0
    go_cut [5] (fun s5 wx => Ow wx W1.heap.size s5 X1 ∧ From W1 wx)
    case first =>
      cases hf : hI p.k with
      | false =>
        have HZ : Hid (Ow W3 W1.heap.size (.slice (some ⟨hq, 0, none⟩) 1 1) X1 ∧ From W1 W3) := ⟨by rw [HX1.out, hf, if_neg (by decide), List.append_nil]; exact OC.out, BC.out⟩
        go_wp2
        go_meet
        exact HZ.out
      | true =>
        obtain ⟨c0, c1, c2, c3, c4, c5, c22, cnc⟩ := FK.out W3 BC.out
        clear c2 c3 c4 c5 c22 cnc
        have cn := dnum_any p.id W3
        go_wp2_with fail
        refine cn.mono ?_
        rintro e w5 ⟨v5, rfl, s5, b5⟩
        have O5 : Hid (Ow w5 W1.heap.size (.slice (some ⟨hq, 0, none⟩) 1 1) X0) := OC.out.below b5
        have B5 : Hid (From W1 w5) := BC.out.trans (b5.mono BC.out.size)
        have S5 : Hid (Sl w5 v5 (nB p.id)) := s5
        obtain ⟨a5, n5, c5', rfl, -⟩ := sl_shp s5
        clear cn s5 b5
        go_wp2_with (at_builtin; refine wpList_append_ow rfl _ _ rfl W1.heap.size _ X0 rfl O5.out _ (nB p.id) rfl S5.out (by have := HL0.out; have := numB_len8 (p.id); omega) B5.out.size (Hid.out ?_))
        unfold Hid
        intro v8 w8 o8 g8
        have HZ : Hid (Ow w8 W1.heap.size v8 X1 ∧ From W1 w8) := ⟨by rw [HX1.out, if_pos hf]; exact o8, B5.out.grown g8 B5.out.size (own_base O5.out.1)⟩
        obtain ⟨a8, n8, c8, rfl, -⟩ := o8.shp
        clear o8 g8
        go_wp2
        go_meet
        exact HZ.out
    case rest =>
      obtain ⟨oc, bc⟩ := hcut
      obtain ⟨W10, hWn⟩ : ∃ x, x = wc := ⟨_, rfl⟩
      obtain ⟨V10, hVn⟩ : ∃ x, x = u5 := ⟨_, rfl⟩
      rw [← hWn, ← hVn] at oc
      rw [← hWn] at bc
      rw [← hWn, ← hVn]
      clear hWn hVn OC BC
      have OC : Hid (Ow W10 W1.heap.size V10 X1) := oc
      have BC : Hid (From W1 W10) := bc
      clear oc bc
      obtain ⟨X2, hX2⟩ : ∃ X, X = X1 ++ (if hN p.k then nB p.n else []) := ⟨_, rfl⟩
      have HX2 : Hid (X2 = X1 ++ (if hN p.k then nB p.n else [])) := hX2
      have HL2 : Hid (X2.length ≤ 17) := by
        unfold Hid
        rw [hX2, List.length_append]
        have h1 := HL1.out
        by_cases hf : hN p.k = true
        · rw [if_pos hf]
          have := numB_len8 (p.n)
          omega
        · rw [if_neg hf, List.length_nil]
          omega
      clear hX2
      obtain ⟨c0, c1, c2, c3, c4, c5, c22, cnc⟩ := FK.out W10 BC.out
      clear c1 c2 c3 c4 c5 c22 cnc
      have cx := hasN_any p.k W10
      go_wp2_with fail
      refine cx.mono ?_
      rintro e wq ⟨rfl, eq⟩
      rw [eq]
      clear cx eq wq
      go_upto_if 28 with fail
      clear c0
      go_cut [5] (fun s5 wx => Ow wx W1.heap.size s5 X2 ∧ From W1 wx)
      case first =>
        cases hf : hN p.k with
        | false =>
          have HZ : Hid (Ow W10 W1.heap.size V10 X2 ∧ From W1 W10) := ⟨by rw [HX2.out, hf, if_neg (by decide), List.append_nil]; exact OC.out, BC.out⟩
          go_wp2
          go_meet
          exact HZ.out
        | true =>
          obtain ⟨c0, c1, c2, c3, c4, c5, c22, cnc⟩ := FK.out W10 BC.out
          clear c1 c3 c4 c5 c22 cnc
          have cn := dnum_any p.n W10
          go_wp2_with fail
          refine cn.mono ?_
          rintro e w5 ⟨v5, rfl, s5, b5⟩
          have O5 : Hid (Ow w5 W1.heap.size V10 X1) := OC.out.below b5
          have B5 : Hid (From W1 w5) := BC.out.trans (b5.mono BC.out.size)
          have S5 : Hid (Sl w5 v5 (nB p.n)) := s5
          obtain ⟨a5, n5, c5', rfl, -⟩ := sl_shp s5
          clear cn s5 b5
          go_wp2_with (at_builtin; refine wpList_append_ow rfl _ _ rfl W1.heap.size _ X1 rfl O5.out _ (nB p.n) rfl S5.out (by have := HL1.out; have := numB_len8 (p.n); omega) B5.out.size (Hid.out ?_))
          unfold Hid
          intro v8 w8 o8 g8
          have HZ : Hid (Ow w8 W1.heap.size v8 X2 ∧ From W1 w8) := ⟨by rw [HX2.out, if_pos hf]; exact o8, B5.out.grown g8 B5.out.size (own_base O5.out.1)⟩
          obtain ⟨a8, n8, c8, rfl, -⟩ := o8.shp
          clear o8 g8
          go_wp2
          go_meet
          exact HZ.out
      case rest =>
        obtain ⟨oc, bc⟩ := hcut
        obtain ⟨W11, hWn⟩ : ∃ x, x = wc := ⟨_, rfl⟩
        obtain ⟨V11, hVn⟩ : ∃ x, x = u5 := ⟨_, rfl⟩
        rw [← hWn, ← hVn] at oc
        rw [← hWn] at bc
        rw [← hWn, ← hVn]
        clear hWn hVn OC BC
        have OC : Hid (Ow W11 W1.heap.size V11 X2) := oc
        have BC : Hid (From W1 W11) := bc
        clear oc bc
        obtain ⟨X3, hX3⟩ : ∃ X, X = X2 ++ (if (p.k == 3) then [finB p.fin] else []) := ⟨_, rfl⟩
        have HX3 : Hid (X3 = X2 ++ (if (p.k == 3) then [finB p.fin] else [])) := hX3
        have HL3 : Hid (X3.length ≤ 18) := by
          unfold Hid
          rw [hX3, List.length_append]
          have h1 := HL2.out
          by_cases hf : (p.k == 3) = true
          · rw [if_pos hf]
            have := (show ([finB p.fin] : List Int).length ≤ 1 from Nat.le_refl _)
            omega
          · rw [if_neg hf, List.length_nil]
            omega
        clear hX3
        obtain ⟨c0, c1, c2, c3, c4, c5, c22, cnc⟩ := FK.out W11 BC.out
        clear c1 c2 c3 c4 c5 c22 cnc
        go_upto_if 36 with fail
        clear c0
        go_cut [5] (fun s5 wx => Ow wx W1.heap.size s5 X3 ∧ From W1 wx)
        case first =>
          cases hf : (p.k == 3) with
          | false =>
            have HZ : Hid (Ow W11 W1.heap.size V11 X3 ∧ From W1 W11) := ⟨by rw [HX3.out, hf, if_neg (by decide), List.append_nil]; exact OC.out, BC.out⟩
            go_wp2
            go_meet
            exact HZ.out
          | true =>
            cases hb : p.fin with
            | false =>
              obtain ⟨c0, c1, c2, c3, c4, c5, c22, cnc⟩ := FK.out W11 BC.out
              clear c1 c2 c3 c5 c22 cnc
              rw [hb] at c4
              obtain ⟨W5, hW5⟩ : ∃ W5, W5 = W11.alloc (.cells #[.int .u8 0] 5) := ⟨_, rfl⟩
              have b5 : Below W11.heap.size W11 W5 := by rw [hW5]; exact al_below _ _
              have O5 : Hid (Ow W5 W1.heap.size V11 X2) := OC.out.below b5
              have B5 : Hid (From W1 W5) := BC.out.trans (b5.mono BC.out.size)
              have S5 : Hid (Sl W5 (.slice (some ⟨W11.heap.size, 0, none⟩) 1 1) [0]) := by rw [hW5]; exact sl_one W11 0 (by omega)
              clear b5
              go_wp2_with (at_builtin; rw [← hW5]; refine wpList_append_ow rfl _ _ rfl W1.heap.size _ X2 rfl O5.out _ [0] rfl S5.out (by have := HL2.out; simp only [List.length_cons, List.length_nil]; omega) B5.out.size (Hid.out ?_))
              unfold Hid
              intro v8 w8 o8 g8
              try rw [← hW5] at g8
              clear hW5
              have HZ : Hid (Ow w8 W1.heap.size v8 X3 ∧ From W1 w8) := ⟨by rw [HX3.out, if_pos hf, hb]; exact o8, B5.out.grown g8 B5.out.size (own_base O5.out.1)⟩
              obtain ⟨a8, n8, c8, rfl, -⟩ := o8.shp
              clear o8 g8
              go_wp2
              go_meet
              exact HZ.out
            | true =>
              obtain ⟨c0, c1, c2, c3, c4, c5, c22, cnc⟩ := FK.out W11 BC.out
              clear c1 c2 c3 c5 c22 cnc
              rw [hb] at c4
              obtain ⟨W5, hW5⟩ : ∃ W5, W5 = W11.alloc (.cells #[.int .u8 1] 5) := ⟨_, rfl⟩
              have b5 : Below W11.heap.size W11 W5 := by rw [hW5]; exact al_below _ _
              have O5 : Hid (Ow W5 W1.heap.size V11 X2) := OC.out.below b5
              have B5 : Hid (From W1 W5) := BC.out.trans (b5.mono BC.out.size)
              have S5 : Hid (Sl W5 (.slice (some ⟨W11.heap.size, 0, none⟩) 1 1) [1]) := by rw [hW5]; exact sl_one W11 1 (by omega)
              clear b5
              go_wp2_with (at_builtin; rw [← hW5]; refine wpList_append_ow rfl _ _ rfl W1.heap.size _ X2 rfl O5.out _ [1] rfl S5.out (by have := HL2.out; simp only [List.length_cons, List.length_nil]; omega) B5.out.size (Hid.out ?_))
              unfold Hid
              intro v8 w8 o8 g8
              try rw [← hW5] at g8
              clear hW5
              have HZ : Hid (Ow w8 W1.heap.size v8 X3 ∧ From W1 w8) := ⟨by rw [HX3.out, if_pos hf, hb]; exact o8, B5.out.grown g8 B5.out.size (own_base O5.out.1)⟩
              obtain ⟨a8, n8, c8, rfl, -⟩ := o8.shp
              clear o8 g8
              go_wp2
              go_meet
              exact HZ.out
        case rest =>
          obtain ⟨oc, bc⟩ := hcut
          obtain ⟨W12, hWn⟩ : ∃ x, x = wc := ⟨_, rfl⟩
          obtain ⟨V12, hVn⟩ : ∃ x, x = u5 := ⟨_, rfl⟩
          rw [← hWn, ← hVn] at oc
          rw [← hWn] at bc
          rw [← hWn, ← hVn]
          clear hWn hVn OC BC
          have OC : Hid (Ow W12 W1.heap.size V12 X3) := oc
          have BC : Hid (From W1 W12) := bc
          clear oc bc
          obtain ⟨X4, hX4⟩ : ∃ X, X = X3 ++ (if hC p.k then nB p.cd else []) := ⟨_, rfl⟩
          have HX4 : Hid (X4 = X3 ++ (if hC p.k then nB p.cd else [])) := hX4
          have HL4 : Hid (X4.length ≤ 26) := by
            unfold Hid
            rw [hX4, List.length_append]
            have h1 := HL3.out
            by_cases hf : hC p.k = true
            · rw [if_pos hf]
              have := numB_len8 (p.cd)
              omega
            · rw [if_neg hf, List.length_nil]
              omega
          clear hX4
          obtain ⟨c0, c1, c2, c3, c4, c5, c22, cnc⟩ := FK.out W12 BC.out
          clear c1 c2 c3 c4 c5 c22 cnc
          have cx := hasC_any p.k W12
          go_wp2_with fail
          refine cx.mono ?_
          rintro e wq ⟨rfl, eq⟩
          rw [eq]
          clear cx eq wq
          go_upto_if 45 with fail
          clear c0
          go_cut [5] (fun s5 wx => Ow wx W1.heap.size s5 X4 ∧ From W1 wx)
          case first =>
            cases hf : hC p.k with
            | false =>
              have HZ : Hid (Ow W12 W1.heap.size V12 X4 ∧ From W1 W12) := ⟨by rw [HX4.out, hf, if_neg (by decide), List.append_nil]; exact OC.out, BC.out⟩
              go_wp2
              go_meet
              exact HZ.out
            | true =>
              obtain ⟨c0, c1, c2, c3, c4, c5, c22, cnc⟩ := FK.out W12 BC.out
              clear c1 c2 c4 c5 c22 cnc
              have cn := dnum_any p.cd W12
              go_wp2_with fail
              refine cn.mono ?_
              rintro e w5 ⟨v5, rfl, s5, b5⟩
              have O5 : Hid (Ow w5 W1.heap.size V12 X3) := OC.out.below b5
              have B5 : Hid (From W1 w5) := BC.out.trans (b5.mono BC.out.size)
              have S5 : Hid (Sl w5 v5 (nB p.cd)) := s5
              obtain ⟨a5, n5, c5', rfl, -⟩ := sl_shp s5
              clear cn s5 b5
              go_wp2_with (at_builtin; refine wpList_append_ow rfl _ _ rfl W1.heap.size _ X3 rfl O5.out _ (nB p.cd) rfl S5.out (by have := HL3.out; have := numB_len8 (p.cd); omega) B5.out.size (Hid.out ?_))
              unfold Hid
              intro v8 w8 o8 g8
              have HZ : Hid (Ow w8 W1.heap.size v8 X4 ∧ From W1 w8) := ⟨by rw [HX4.out, if_pos hf]; exact o8, B5.out.grown g8 B5.out.size (own_base O5.out.1)⟩
              obtain ⟨a8, n8, c8, rfl, -⟩ := o8.shp
              clear o8 g8
              go_wp2
              go_meet
              exact HZ.out
          case rest =>
            obtain ⟨oc, bc⟩ := hcut
            obtain ⟨W13, hWn⟩ : ∃ x, x = wc := ⟨_, rfl⟩
            obtain ⟨V13, hVn⟩ : ∃ x, x = u5 := ⟨_, rfl⟩
            rw [← hWn, ← hVn] at oc
            rw [← hWn] at bc
            rw [← hWn, ← hVn]
            clear hWn hVn OC BC
            have OC : Hid (Ow W13 W1.heap.size V13 X4) := oc
            have BC : Hid (From W1 W13) := bc
            clear oc bc
            obtain ⟨X5, hX5⟩ : ∃ X, X = X4 ++ (if (p.k == 9) then p.nc else []) := ⟨_, rfl⟩
            have HX5 : Hid (X5 = X4 ++ (if (p.k == 9) then p.nc else [])) := hX5
            have HL5 : Hid (X5.length ≤ 42) := by
              unfold Hid
              rw [hX5, List.length_append]
              have h1 := HL4.out
              by_cases hf : (p.k == 9) = true
              · rw [if_pos hf]
                have := HNL.out
                omega
              · rw [if_neg hf, List.length_nil]
                omega
            clear hX5
            obtain ⟨c0, c1, c2, c3, c4, c5, c22, cnc⟩ := FK.out W13 BC.out
            clear c1 c2 c3 c4 c5 c22 cnc
            go_upto_if 53 with fail
            clear c0
            go_cut [5] (fun s5 wx => Ow wx W1.heap.size s5 X5 ∧ From W1 wx)
            case first =>
              cases hf : (p.k == 9) with
              | false =>
                have HZ : Hid (Ow W13 W1.heap.size V13 X5 ∧ From W1 W13) := ⟨by rw [HX5.out, hf, if_neg (by decide), List.append_nil]; exact OC.out, BC.out⟩
                go_wp2
                go_meet
                exact HZ.out
              | true =>
                obtain ⟨c0, c1, c2, c3, c4, c5, c22, cnc⟩ := FK.out W13 BC.out
                clear c1 c2 c3 c4 c5 c22
                have RH : Hid (W13.rangeAt w.heap.size 6 (p.nc.map (Value.int .u8))) := cnc
                have ZH : Hid ((Tryz.prog.info? 22).map (·.size) = some (p.nc.map (Value.int .u8)).length) := by unfold Hid; rw [List.length_map, HNL.out]; exact infoNc
                have ZHA : Hid ((Tryz.prog.info? 22).map (·.size) = some (u8c p.nc).size) := by unfold Hid; rw [infoNc]; simp [u8c, HNL.out]
                have ZHS : Hid ((u8c zn).size = (u8c p.nc).size) := by unfold Hid; simp [u8c, HNL.out]
                have ZH1 : Hid ((u8c p.nc).all (·.oneCell') = true) := by unfold Hid; simp [u8c, Value.oneCell']
                obtain ⟨W5, hW5⟩ : ∃ W5, W5 = W13.alloc (.cells (u8c p.nc) 22) := ⟨_, rfl⟩
                have b5 : Below W13.heap.size W13 W5 := by rw [hW5]; exact al_below _ _
                have e5 := alloc_n16 W13 (u8c p.nc)
                rw [← hW5] at e5
                have HE5 : Hid ((W13.alloc (.cells #[.int .u8 0, .int .u8 0, .int .u8 0, .int .u8 0, .int .u8 0, .int .u8 0, .int .u8 0, .int .u8 0, .int .u8 0, .int .u8 0, .int .u8 0, .int .u8 0, .int .u8 0, .int .u8 0, .int .u8 0, .int .u8 0] 22)).setRow W13.heap.size (u8c p.nc) = W5) := e5
                have S5 : Hid (Sl W5 (.slice (some ⟨W13.heap.size, 0, none⟩) 16 16) p.nc) := by
                  have g5 : W5.heap[W13.heap.size]? = some (.cells (u8c p.nc) 22 (0, 0)) := by rw [hW5]; exact heap_alloc_new _ _
                  exact sl_range (blk_range (cs := p.nc.map (Value.int .u8)) g5) HNB.out HNL.out.symm (Nat.le_refl _) (by unfold maxLen; omega)
                have O5 : Hid (Ow W5 W1.heap.size V13 X4) := OC.out.below b5
                have B5 : Hid (From W1 W5) := BC.out.trans (b5.mono BC.out.size)
                clear b5 hW5 e5 cnc
                go_wp2_with (first
                  | refine wpList_load_mid rfl 22 _ rfl w.heap.size 6 rfl (p.nc.map (Value.int .u8)) _ RH.out Tryz.underlying22 rfl ZH.out ?_
                  | refine wpList_store_row rfl 22 _ _ rfl W13.heap.size (u8c p.nc) rfl rfl 22 (u8c zn) (new_n16 W13) ZHA.out ZHS.out ZH1.out (Hid.out ?_))
                unfold Hid
                rw [HE5.out]
                clear HE5 RH ZH ZHA ZHS ZH1
                go_wp2_with (at_builtin; refine wpList_append_ow rfl _ _ rfl W1.heap.size _ X4 rfl O5.out _ p.nc rfl S5.out (by have := HL4.out; have := HNL.out; omega) B5.out.size (Hid.out ?_))
                unfold Hid
                intro v8 w8 o8 g8
                have HZ : Hid (Ow w8 W1.heap.size v8 X5 ∧ From W1 w8) := ⟨by rw [HX5.out, if_pos hf]; exact o8, B5.out.grown g8 B5.out.size (own_base O5.out.1)⟩
                obtain ⟨a8, n8, c8, rfl, -⟩ := o8.shp
                clear o8 g8
                go_wp2
                go_meet
                exact HZ.out
            case rest =>
              obtain ⟨oc, bc⟩ := hcut
              obtain ⟨W14, hWn⟩ : ∃ x, x = wc := ⟨_, rfl⟩
              obtain ⟨V14, hVn⟩ : ∃ x, x = u5 := ⟨_, rfl⟩
              rw [← hWn, ← hVn] at oc
              rw [← hWn] at bc
              rw [← hWn, ← hVn]
              clear hWn hVn OC BC
              have OC : Hid (Ow W14 W1.heap.size V14 X5) := oc
              have BC : Hid (From W1 W14) := bc
              clear oc bc
              obtain ⟨X6, hX6⟩ : ∃ X, X = X5 ++ (if decide (0 ≤ lgM p.k) then Fi.textB p.tx else []) := ⟨_, rfl⟩
              have HX6 : Hid (X6 = X5 ++ (if decide (0 ≤ lgM p.k) then Fi.textB p.tx else [])) := hX6
              have HL6 : Hid (X6.length ≤ 100050) := by
                unfold Hid
                rw [hX6, List.length_append]
                have h1 := HL5.out
                by_cases hf : decide (0 ≤ lgM p.k) = true
                · rw [if_pos hf]
                  have := HTX.out; have := (Fi.textB_len p.tx).1
                  omega
                · rw [if_neg hf, List.length_nil]
                  omega
              clear hX6
              obtain ⟨c0, c1, c2, c3, c4, c5, c22, cnc⟩ := FK.out W14 BC.out
              clear c1 c2 c3 c4 c5 c22 cnc
              have cx := longest_any p.k W14
              go_wp2_with fail
              refine cx.mono ?_
              rintro e wq ⟨rfl, eq⟩
              rw [eq]
              clear cx eq wq
              go_upto_if 62 with fail
              clear c0
              go_cut [5] (fun s5 wx => Ow wx W1.heap.size s5 X6 ∧ From W1 wx)
              case first =>
                cases hf : decide (0 ≤ lgM p.k) with
                | false =>
                  have HZ : Hid (Ow W14 W1.heap.size V14 X6 ∧ From W1 W14) := ⟨by rw [HX6.out, hf, if_neg (by decide), List.append_nil]; exact OC.out, BC.out⟩
                  go_wp2
                  go_meet
                  exact HZ.out
                | true =>
                  obtain ⟨c0, c1, c2, c3, c4, c5, c22, cnc⟩ := FK.out W14 BC.out
                  clear c1 c2 c3 c4 c22 cnc
                  have cn := dtext_any p.tx W14 (by have := HTX.out; omega)
                  go_wp2_with fail
                  refine cn.mono ?_
                  rintro e w5 ⟨v5, rfl, s5, b5⟩
                  have O5 : Hid (Ow w5 W1.heap.size V14 X5) := OC.out.below b5
                  have B5 : Hid (From W1 w5) := BC.out.trans (b5.mono BC.out.size)
                  have S5 : Hid (Sl w5 v5 (Fi.textB p.tx)) := s5
                  obtain ⟨a5, n5, c5', rfl, -⟩ := sl_shp s5
                  clear cn s5 b5
                  go_wp2_with (at_builtin; refine wpList_append_ow rfl _ _ rfl W1.heap.size _ X5 rfl O5.out _ (Fi.textB p.tx) rfl S5.out (by have := HL5.out; have := (Fi.textB_len p.tx).1; have := HTX.out; omega) B5.out.size (Hid.out ?_))
                  unfold Hid
                  intro v8 w8 o8 g8
                  have HZ : Hid (Ow w8 W1.heap.size v8 X6 ∧ From W1 w8) := ⟨by rw [HX6.out, if_pos hf]; exact o8, B5.out.grown g8 B5.out.size (own_base O5.out.1)⟩
                  obtain ⟨a8, n8, c8, rfl, -⟩ := o8.shp
                  clear o8 g8
                  go_wp2
                  go_meet
                  exact HZ.out
              case rest =>
                obtain ⟨oc, bc⟩ := hcut
                obtain ⟨W15, hWn⟩ : ∃ x, x = wc := ⟨_, rfl⟩
                obtain ⟨V15, hVn⟩ : ∃ x, x = u5 := ⟨_, rfl⟩
                rw [← hWn, ← hVn] at oc
                rw [← hWn] at bc
                rw [← hWn, ← hVn]
                clear hWn hVn OC BC
                have OC : Hid (Ow W15 W1.heap.size V15 X6) := oc
                have BC : Hid (From W1 W15) := bc
                clear oc bc
                obtain ⟨X7, hX7⟩ : ∃ X, X = X6 ++ (if (p.k == 2) then putB p.sp else []) := ⟨_, rfl⟩
                have HX7 : Hid (X7 = X6 ++ (if (p.k == 2) then putB p.sp else [])) := hX7
                have HL7 : Hid (X7.length ≤ 101082) := by
                  unfold Hid
                  rw [hX7, List.length_append]
                  have h1 := HL6.out
                  by_cases hf : (p.k == 2) = true
                  · rw [if_pos hf]
                    have := (show (putB p.sp).length ≤ 1032 from putB_len (chkL_ok (HCL.out (show hS p.k = true from hf))).2.2)
                    omega
                  · rw [if_neg hf, List.length_nil]
                    omega
                clear hX7
                obtain ⟨c0, c1, c2, c3, c4, c5, c22, cnc⟩ := FK.out W15 BC.out
                clear c1 c2 c3 c4 c5 c22 cnc
                go_upto_if 70 with fail
                clear c0
                go_cut [5] (fun s5 wx => Ow wx W1.heap.size s5 X7 ∧ From W1 wx)
                case first =>
                  cases hf : (p.k == 2) with
                  | false =>
                    have HZ : Hid (Ow W15 W1.heap.size V15 X7 ∧ From W1 W15) := ⟨by rw [HX7.out, hf, if_neg (by decide), List.append_nil]; exact OC.out, BC.out⟩
                    go_wp2
                    go_meet
                    exact HZ.out
                  | true =>
                    obtain ⟨c0, c1, c2, c3, c4, c5, c22, cnc⟩ := FK.out W15 BC.out
                    clear c1 c2 c3 c4 c5 cnc
                    have cn := rputS_any W15 _ p.sp (HSP.out W15 BC.out) (HCL.out (show hS p.k = true from hf))
                    go_wp2_with fail
                    refine cn.mono ?_
                    rintro e w5 ⟨v5, rfl, s5, b5⟩
                    have O5 : Hid (Ow w5 W1.heap.size V15 X6) := OC.out.below b5
                    have B5 : Hid (From W1 w5) := BC.out.trans (b5.mono BC.out.size)
                    have S5 : Hid (Sl w5 v5 (putB p.sp)) := s5
                    obtain ⟨a5, n5, c5', rfl, -⟩ := sl_shp s5
                    clear cn s5 b5
                    go_wp2_with (at_builtin; refine wpList_append_ow rfl _ _ rfl W1.heap.size _ X6 rfl O5.out _ (putB p.sp) rfl S5.out (by have := HL6.out; have := (show (putB p.sp).length ≤ 1032 from putB_len (chkL_ok (HCL.out (show hS p.k = true from hf))).2.2); omega) B5.out.size (Hid.out ?_))
                    unfold Hid
                    intro v8 w8 o8 g8
                    have HZ : Hid (Ow w8 W1.heap.size v8 X7 ∧ From W1 w8) := ⟨by rw [HX7.out, if_pos hf]; exact o8, B5.out.grown g8 B5.out.size (own_base O5.out.1)⟩
                    obtain ⟨a8, n8, c8, rfl, -⟩ := o8.shp
                    clear o8 g8
                    go_wp2
                    go_meet
                    exact HZ.out
                case rest =>
                  obtain ⟨oc, bc⟩ := hcut
                  obtain ⟨W16, hWn⟩ : ∃ x, x = wc := ⟨_, rfl⟩
                  obtain ⟨V16, hVn⟩ : ∃ x, x = u5 := ⟨_, rfl⟩
                  rw [← hWn, ← hVn] at oc
                  rw [← hWn] at bc
                  rw [← hWn, ← hVn]
                  clear hWn hVn OC BC
                  have OC : Hid (Ow W16 W1.heap.size V16 X7) := oc
                  have BC : Hid (From W1 W16) := bc
                  clear oc bc
                  have HPM : Hid (X7 = putM p) := by
                    unfold Hid putM prtM hF hO hS
                    rw [HX7.out, HX6.out, HX5.out, HX4.out, HX3.out, HX2.out, HX1.out, HX0.out]
                    simp only [lg_ge]
                    simp only [List.flatten_cons, List.flatten_nil, List.append_nil, List.append_assoc]
                  have HS : Hid (Sl W16 V16 (putR p)) := by unfold Hid; rw [HPR.out, ← HPM.out]; exact OC.out.sl
                  have HBZ : Hid (Below w.heap.size w W16) := HB1.out.trans (BC.out.mono HB1.out.size)
                  obtain ⟨az, nz, cz, rfl, -⟩ := OC.out.shp
                  clear OC BC FK HSP
                  go_wp2
                  exact bodyPost_ret (results_tmp2 rfl _ _ _) rfl ⟨_, by rw [HC.out]; rfl, HS.out, HBZ.out⟩
  · have HC : Hid (putR p = []) := by unfold Hid putR; rw [if_neg hc]
    have tc : (chkM p != 0) = true := by simpa using hc
    have HBZ : Hid (Below w.heap.size w w2) := HB1.out.trans (HB2.out.mono HB1.out.size)
    clear hc FK HSP
    go_wp2
    exact bodyPost_ret (results_tmp2 rfl _ _ _) rfl ⟨_, rfl, by rw [HC.out]; exact Sl.none _, HBZ.out⟩
end Go.Proofs.YtmplpdjkhdaniaaGreatDoor
namespace Go.Proofs.YtmplpdjkhdaniaaGreatDoor
open Go.RowKit Go.Shelf
set_option maxRecDepth 100000

theorem elem15 (w : World) : ∃ e, (elemOf 15).run Tryz.prog w = .ok e w := ⟨_, by simp only [elemOf, run_underlying Tryz.underlying15, Sem.run_bind, Result.andThen_ok, Sem.run_pure]; rfl⟩
theorem neq_tae (V : Value) (w : World) : (binOp BinOp.neq 20 (.iface 15 V) Value.nilIface).run Tryz.prog w = .ok (.bool true) w := by kernel_rfl
theorem as_notPing (v : Value) (w : World) : ∃ V cs e, (Instr.typeAssert (.iface 69 v) 29 42 false).run Tryz.prog w = .halt (.panic (.iface 15 V)) (w.alloc (.cells cs e)) := by
  obtain ⟨e, he⟩ := elem15 w
  refine ⟨.pointer (some ⟨w.heap.size, 0, none⟩), #[typeHandle Tryz.prog 29, typeHandle Tryz.prog 69, typeHandle Tryz.prog 42, strVal ""], e, ?_⟩
  simp [Instr.typeAssert, run_underlying Tryz.underlying42, runtimePanic, goPanic, go_sem]
  rw [he]
  rfl
theorem akPing (v : Value) (w : World) : (Instr.typeAssert (.iface 69 v) 29 72 true).run Tryz.prog w = .ok (.tuple #[.agg #[.int .i64 0, .slice none 0 0], .bool false]) w := by kernel_rfl
theorem clPing (v : Value) (w : World) : (Instr.typeAssert (.iface 69 v) 29 85 true).run Tryz.prog w = .ok (.tuple #[.agg #[.int .i64 0, .string ⟨#[]⟩], .bool false]) w := by kernel_rfl
set_option maxHeartbeats 2000000 in
theorem asksPing (v : Value) (w : World) : Calls Tryz.prog 12 #[.iface 69 v] w fun e w' => e = .returned (.bool true) ∧ Below w.heap.size w w' := by
  have c : Calls Tryz.prog 35 #[.iface 69 v] w fun e w' => e = .returned (.bool false) ∧ Below w.heap.size w w' := by
    have h1 := akPing v
    have h2 := clPing v
    have HB : Hid (Below w.heap.size w ((w.alloc (.cells #[.int .i64 0, .slice none 0 0] 72)).alloc (.cells #[.int .i64 0, .string ⟨#[]⟩] 85))) := (al_below _ _).alloc (al_below _ _).size _
    go_enter Tryz.func35, Tryz.ntmps35
    go_wp2
    go_ret
    exact ⟨rfl, HB.out⟩
  go_enter Tryz.func12, Tryz.ntmps12
  go_wp2_with fail
  refine c.mono ?_
  rintro e w1 ⟨rfl, b1⟩
  clear c
  go_wp2
  go_ret
  exact ⟨rfl, b1⟩
theorem as_notAck (v : Value) (w : World) : ∃ V cs e, (Instr.typeAssert (.iface 72 v) 29 42 false).run Tryz.prog w = .halt (.panic (.iface 15 V)) (w.alloc (.cells cs e)) := by
  obtain ⟨e, he⟩ := elem15 w
  refine ⟨.pointer (some ⟨w.heap.size, 0, none⟩), #[typeHandle Tryz.prog 29, typeHandle Tryz.prog 72, typeHandle Tryz.prog 42, strVal ""], e, ?_⟩
  simp [Instr.typeAssert, run_underlying Tryz.underlying42, runtimePanic, goPanic, go_sem]
  rw [he]
  rfl
theorem akStream (v : Value) (w : World) : (Instr.typeAssert (.iface 42 v) 29 72 true).run Tryz.prog w = .ok (.tuple #[.agg #[.int .i64 0, .slice none 0 0], .bool false]) w := by kernel_rfl
theorem clStream (v : Value) (w : World) : (Instr.typeAssert (.iface 42 v) 29 85 true).run Tryz.prog w = .ok (.tuple #[.agg #[.int .i64 0, .string ⟨#[]⟩], .bool false]) w := by kernel_rfl
set_option maxHeartbeats 2000000 in
theorem asksStream (v : Value) (w : World) : Calls Tryz.prog 12 #[.iface 42 v] w fun e w' => e = .returned (.bool true) ∧ Below w.heap.size w w' := by
  have c : Calls Tryz.prog 35 #[.iface 42 v] w fun e w' => e = .returned (.bool false) ∧ Below w.heap.size w w' := by
    have h1 := akStream v
    have h2 := clStream v
    have HB : Hid (Below w.heap.size w ((w.alloc (.cells #[.int .i64 0, .slice none 0 0] 72)).alloc (.cells #[.int .i64 0, .string ⟨#[]⟩] 85))) := (al_below _ _).alloc (al_below _ _).size _
    go_enter Tryz.func35, Tryz.ntmps35
    go_wp2
    go_ret
    exact ⟨rfl, HB.out⟩
  go_enter Tryz.func12, Tryz.ntmps12
  go_wp2_with fail
  refine c.mono ?_
  rintro e w1 ⟨rfl, b1⟩
  clear c
  go_wp2
  go_ret
  exact ⟨rfl, b1⟩
theorem as_notReset (v : Value) (w : World) : ∃ V cs e, (Instr.typeAssert (.iface 74 v) 29 42 false).run Tryz.prog w = .halt (.panic (.iface 15 V)) (w.alloc (.cells cs e)) := by
  obtain ⟨e, he⟩ := elem15 w
  refine ⟨.pointer (some ⟨w.heap.size, 0, none⟩), #[typeHandle Tryz.prog 29, typeHandle Tryz.prog 74, typeHandle Tryz.prog 42, strVal ""], e, ?_⟩
  simp [Instr.typeAssert, run_underlying Tryz.underlying42, runtimePanic, goPanic, go_sem]
  rw [he]
  rfl
theorem akReset (v : Value) (w : World) : (Instr.typeAssert (.iface 74 v) 29 72 true).run Tryz.prog w = .ok (.tuple #[.agg #[.int .i64 0, .slice none 0 0], .bool false]) w := by kernel_rfl
theorem clReset (v : Value) (w : World) : (Instr.typeAssert (.iface 74 v) 29 85 true).run Tryz.prog w = .ok (.tuple #[.agg #[.int .i64 0, .string ⟨#[]⟩], .bool false]) w := by kernel_rfl
set_option maxHeartbeats 2000000 in
theorem asksReset (v : Value) (w : World) : Calls Tryz.prog 12 #[.iface 74 v] w fun e w' => e = .returned (.bool true) ∧ Below w.heap.size w w' := by
  have c : Calls Tryz.prog 35 #[.iface 74 v] w fun e w' => e = .returned (.bool false) ∧ Below w.heap.size w w' := by
    have h1 := akReset v
    have h2 := clReset v
    have HB : Hid (Below w.heap.size w ((w.alloc (.cells #[.int .i64 0, .slice none 0 0] 72)).alloc (.cells #[.int .i64 0, .string ⟨#[]⟩] 85))) := (al_below _ _).alloc (al_below _ _).size _
    go_enter Tryz.func35, Tryz.ntmps35
    go_wp2
    go_ret
    exact ⟨rfl, HB.out⟩
  go_enter Tryz.func12, Tryz.ntmps12
  go_wp2_with fail
  refine c.mono ?_
  rintro e w1 ⟨rfl, b1⟩
  clear c
  go_wp2
  go_ret
  exact ⟨rfl, b1⟩
theorem as_notStop (v : Value) (w : World) : ∃ V cs e, (Instr.typeAssert (.iface 76 v) 29 42 false).run Tryz.prog w = .halt (.panic (.iface 15 V)) (w.alloc (.cells cs e)) := by
  obtain ⟨e, he⟩ := elem15 w
  refine ⟨.pointer (some ⟨w.heap.size, 0, none⟩), #[typeHandle Tryz.prog 29, typeHandle Tryz.prog 76, typeHandle Tryz.prog 42, strVal ""], e, ?_⟩
  simp [Instr.typeAssert, run_underlying Tryz.underlying42, runtimePanic, goPanic, go_sem]
  rw [he]
  rfl
theorem akStop (v : Value) (w : World) : (Instr.typeAssert (.iface 76 v) 29 72 true).run Tryz.prog w = .ok (.tuple #[.agg #[.int .i64 0, .slice none 0 0], .bool false]) w := by kernel_rfl
theorem clStop (v : Value) (w : World) : (Instr.typeAssert (.iface 76 v) 29 85 true).run Tryz.prog w = .ok (.tuple #[.agg #[.int .i64 0, .string ⟨#[]⟩], .bool false]) w := by kernel_rfl
set_option maxHeartbeats 2000000 in
theorem asksStop (v : Value) (w : World) : Calls Tryz.prog 12 #[.iface 76 v] w fun e w' => e = .returned (.bool true) ∧ Below w.heap.size w w' := by
  have c : Calls Tryz.prog 35 #[.iface 76 v] w fun e w' => e = .returned (.bool false) ∧ Below w.heap.size w w' := by
    have h1 := akStop v
    have h2 := clStop v
    have HB : Hid (Below w.heap.size w ((w.alloc (.cells #[.int .i64 0, .slice none 0 0] 72)).alloc (.cells #[.int .i64 0, .string ⟨#[]⟩] 85))) := (al_below _ _).alloc (al_below _ _).size _
    go_enter Tryz.func35, Tryz.ntmps35
    go_wp2
    go_ret
    exact ⟨rfl, HB.out⟩
  go_enter Tryz.func12, Tryz.ntmps12
  go_wp2_with fail
  refine c.mono ?_
  rintro e w1 ⟨rfl, b1⟩
  clear c
  go_wp2
  go_ret
  exact ⟨rfl, b1⟩
theorem as_notMaxData (v : Value) (w : World) : ∃ V cs e, (Instr.typeAssert (.iface 78 v) 29 42 false).run Tryz.prog w = .halt (.panic (.iface 15 V)) (w.alloc (.cells cs e)) := by
  obtain ⟨e, he⟩ := elem15 w
  refine ⟨.pointer (some ⟨w.heap.size, 0, none⟩), #[typeHandle Tryz.prog 29, typeHandle Tryz.prog 78, typeHandle Tryz.prog 42, strVal ""], e, ?_⟩
  simp [Instr.typeAssert, run_underlying Tryz.underlying42, runtimePanic, goPanic, go_sem]
  rw [he]
  rfl
theorem akMaxData (v : Value) (w : World) : (Instr.typeAssert (.iface 78 v) 29 72 true).run Tryz.prog w = .ok (.tuple #[.agg #[.int .i64 0, .slice none 0 0], .bool false]) w := by kernel_rfl
theorem clMaxData (v : Value) (w : World) : (Instr.typeAssert (.iface 78 v) 29 85 true).run Tryz.prog w = .ok (.tuple #[.agg #[.int .i64 0, .string ⟨#[]⟩], .bool false]) w := by kernel_rfl
set_option maxHeartbeats 2000000 in
theorem asksMaxData (v : Value) (w : World) : Calls Tryz.prog 12 #[.iface 78 v] w fun e w' => e = .returned (.bool true) ∧ Below w.heap.size w w' := by
  have c : Calls Tryz.prog 35 #[.iface 78 v] w fun e w' => e = .returned (.bool false) ∧ Below w.heap.size w w' := by
    have h1 := akMaxData v
    have h2 := clMaxData v
    have HB : Hid (Below w.heap.size w ((w.alloc (.cells #[.int .i64 0, .slice none 0 0] 72)).alloc (.cells #[.int .i64 0, .string ⟨#[]⟩] 85))) := (al_below _ _).alloc (al_below _ _).size _
    go_enter Tryz.func35, Tryz.ntmps35
    go_wp2
    go_ret
    exact ⟨rfl, HB.out⟩
  go_enter Tryz.func12, Tryz.ntmps12
  go_wp2_with fail
  refine c.mono ?_
  rintro e w1 ⟨rfl, b1⟩
  clear c
  go_wp2
  go_ret
  exact ⟨rfl, b1⟩
theorem as_notMaxStream (v : Value) (w : World) : ∃ V cs e, (Instr.typeAssert (.iface 80 v) 29 42 false).run Tryz.prog w = .halt (.panic (.iface 15 V)) (w.alloc (.cells cs e)) := by
  obtain ⟨e, he⟩ := elem15 w
  refine ⟨.pointer (some ⟨w.heap.size, 0, none⟩), #[typeHandle Tryz.prog 29, typeHandle Tryz.prog 80, typeHandle Tryz.prog 42, strVal ""], e, ?_⟩
  simp [Instr.typeAssert, run_underlying Tryz.underlying42, runtimePanic, goPanic, go_sem]
  rw [he]
  rfl
theorem akMaxStream (v : Value) (w : World) : (Instr.typeAssert (.iface 80 v) 29 72 true).run Tryz.prog w = .ok (.tuple #[.agg #[.int .i64 0, .slice none 0 0], .bool false]) w := by kernel_rfl
theorem clMaxStream (v : Value) (w : World) : (Instr.typeAssert (.iface 80 v) 29 85 true).run Tryz.prog w = .ok (.tuple #[.agg #[.int .i64 0, .string ⟨#[]⟩], .bool false]) w := by kernel_rfl
set_option maxHeartbeats 2000000 in
theorem asksMaxStream (v : Value) (w : World) : Calls Tryz.prog 12 #[.iface 80 v] w fun e w' => e = .returned (.bool true) ∧ Below w.heap.size w w' := by
  have c : Calls Tryz.prog 35 #[.iface 80 v] w fun e w' => e = .returned (.bool false) ∧ Below w.heap.size w w' := by
    have h1 := akMaxStream v
    have h2 := clMaxStream v
    have HB : Hid (Below w.heap.size w ((w.alloc (.cells #[.int .i64 0, .slice none 0 0] 72)).alloc (.cells #[.int .i64 0, .string ⟨#[]⟩] 85))) := (al_below _ _).alloc (al_below _ _).size _
    go_enter Tryz.func35, Tryz.ntmps35
    go_wp2
    go_ret
    exact ⟨rfl, HB.out⟩
  go_enter Tryz.func12, Tryz.ntmps12
  go_wp2_with fail
  refine c.mono ?_
  rintro e w1 ⟨rfl, b1⟩
  clear c
  go_wp2
  go_ret
  exact ⟨rfl, b1⟩
theorem as_notMaxStreams (v : Value) (w : World) : ∃ V cs e, (Instr.typeAssert (.iface 81 v) 29 42 false).run Tryz.prog w = .halt (.panic (.iface 15 V)) (w.alloc (.cells cs e)) := by
  obtain ⟨e, he⟩ := elem15 w
  refine ⟨.pointer (some ⟨w.heap.size, 0, none⟩), #[typeHandle Tryz.prog 29, typeHandle Tryz.prog 81, typeHandle Tryz.prog 42, strVal ""], e, ?_⟩
  simp [Instr.typeAssert, run_underlying Tryz.underlying42, runtimePanic, goPanic, go_sem]
  rw [he]
  rfl
theorem akMaxStreams (v : Value) (w : World) : (Instr.typeAssert (.iface 81 v) 29 72 true).run Tryz.prog w = .ok (.tuple #[.agg #[.int .i64 0, .slice none 0 0], .bool false]) w := by kernel_rfl
theorem clMaxStreams (v : Value) (w : World) : (Instr.typeAssert (.iface 81 v) 29 85 true).run Tryz.prog w = .ok (.tuple #[.agg #[.int .i64 0, .string ⟨#[]⟩], .bool false]) w := by kernel_rfl
set_option maxHeartbeats 2000000 in
theorem asksMaxStreams (v : Value) (w : World) : Calls Tryz.prog 12 #[.iface 81 v] w fun e w' => e = .returned (.bool true) ∧ Below w.heap.size w w' := by
  have c : Calls Tryz.prog 35 #[.iface 81 v] w fun e w' => e = .returned (.bool false) ∧ Below w.heap.size w w' := by
    have h1 := akMaxStreams v
    have h2 := clMaxStreams v
    have HB : Hid (Below w.heap.size w ((w.alloc (.cells #[.int .i64 0, .slice none 0 0] 72)).alloc (.cells #[.int .i64 0, .string ⟨#[]⟩] 85))) := (al_below _ _).alloc (al_below _ _).size _
    go_enter Tryz.func35, Tryz.ntmps35
    go_wp2
    go_ret
    exact ⟨rfl, HB.out⟩
  go_enter Tryz.func12, Tryz.ntmps12
  go_wp2_with fail
  refine c.mono ?_
  rintro e w1 ⟨rfl, b1⟩
  clear c
  go_wp2
  go_ret
  exact ⟨rfl, b1⟩
theorem as_notHello (v : Value) (w : World) : ∃ V cs e, (Instr.typeAssert (.iface 83 v) 29 42 false).run Tryz.prog w = .halt (.panic (.iface 15 V)) (w.alloc (.cells cs e)) := by
  obtain ⟨e, he⟩ := elem15 w
  refine ⟨.pointer (some ⟨w.heap.size, 0, none⟩), #[typeHandle Tryz.prog 29, typeHandle Tryz.prog 83, typeHandle Tryz.prog 42, strVal ""], e, ?_⟩
  simp [Instr.typeAssert, run_underlying Tryz.underlying42, runtimePanic, goPanic, go_sem]
  rw [he]
  rfl
theorem akHello (v : Value) (w : World) : (Instr.typeAssert (.iface 83 v) 29 72 true).run Tryz.prog w = .ok (.tuple #[.agg #[.int .i64 0, .slice none 0 0], .bool false]) w := by kernel_rfl
theorem clHello (v : Value) (w : World) : (Instr.typeAssert (.iface 83 v) 29 85 true).run Tryz.prog w = .ok (.tuple #[.agg #[.int .i64 0, .string ⟨#[]⟩], .bool false]) w := by kernel_rfl
set_option maxHeartbeats 2000000 in
theorem asksHello (v : Value) (w : World) : Calls Tryz.prog 12 #[.iface 83 v] w fun e w' => e = .returned (.bool true) ∧ Below w.heap.size w w' := by
  have c : Calls Tryz.prog 35 #[.iface 83 v] w fun e w' => e = .returned (.bool false) ∧ Below w.heap.size w w' := by
    have h1 := akHello v
    have h2 := clHello v
    have HB : Hid (Below w.heap.size w ((w.alloc (.cells #[.int .i64 0, .slice none 0 0] 72)).alloc (.cells #[.int .i64 0, .string ⟨#[]⟩] 85))) := (al_below _ _).alloc (al_below _ _).size _
    go_enter Tryz.func35, Tryz.ntmps35
    go_wp2
    go_ret
    exact ⟨rfl, HB.out⟩
  go_enter Tryz.func12, Tryz.ntmps12
  go_wp2_with fail
  refine c.mono ?_
  rintro e w1 ⟨rfl, b1⟩
  clear c
  go_wp2
  go_ret
  exact ⟨rfl, b1⟩
theorem as_notClose (v : Value) (w : World) : ∃ V cs e, (Instr.typeAssert (.iface 85 v) 29 42 false).run Tryz.prog w = .halt (.panic (.iface 15 V)) (w.alloc (.cells cs e)) := by
  obtain ⟨e, he⟩ := elem15 w
  refine ⟨.pointer (some ⟨w.heap.size, 0, none⟩), #[typeHandle Tryz.prog 29, typeHandle Tryz.prog 85, typeHandle Tryz.prog 42, strVal ""], e, ?_⟩
  simp [Instr.typeAssert, run_underlying Tryz.underlying42, runtimePanic, goPanic, go_sem]
  rw [he]
  rfl
theorem ak_yes (n : Int) (a : Option Addr) (m c : Nat) (w : World) : (Instr.typeAssert (.iface 72 (.agg #[.int .i64 n, .slice a m c])) 29 72 true).run Tryz.prog w = .ok (.tuple #[.agg #[.int .i64 n, .slice a m c], .bool true]) w := by kernel_rfl
theorem cl_no (n : Int) (s : ByteArray) (w : World) : (Instr.typeAssert (.iface 85 (.agg #[.int .i64 n, .string s])) 29 72 true).run Tryz.prog w = .ok (.tuple #[.agg #[.int .i64 0, .slice none 0 0], .bool false]) w := by kernel_rfl
theorem cl_yes (n : Int) (s : ByteArray) (w : World) : (Instr.typeAssert (.iface 85 (.agg #[.int .i64 n, .string s])) 29 85 true).run Tryz.prog w = .ok (.tuple #[.agg #[.int .i64 n, .string s], .bool true]) w := by kernel_rfl
set_option maxHeartbeats 2000000 in
theorem asksAck (n : Int) (a : Option Addr) (m c : Nat) (w : World) : Calls Tryz.prog 12 #[.iface 72 (.agg #[.int .i64 n, .slice a m c])] w fun e w' => e = .returned (.bool false) ∧ Below w.heap.size w w' := by
  have c : Calls Tryz.prog 35 #[.iface 72 (.agg #[.int .i64 n, .slice a m c])] w fun e w' => e = .returned (.bool true) ∧ Below w.heap.size w w' := by
    have h1 := ak_yes n a m c
    have HB : Hid (Below w.heap.size w (w.alloc (.cells #[.int .i64 n, .slice a m c] 72))) := al_below _ _
    go_enter Tryz.func35, Tryz.ntmps35
    go_wp2
    go_ret
    exact ⟨rfl, HB.out⟩
  go_enter Tryz.func12, Tryz.ntmps12
  go_wp2_with fail
  refine c.mono ?_
  rintro e w1 ⟨rfl, b1⟩
  clear c
  go_wp2
  go_ret
  exact ⟨rfl, b1⟩
set_option maxHeartbeats 2000000 in
theorem asksClose (n : Int) (s : ByteArray) (w : World) : Calls Tryz.prog 12 #[.iface 85 (.agg #[.int .i64 n, .string s])] w fun e w' => e = .returned (.bool false) ∧ Below w.heap.size w w' := by
  have c : Calls Tryz.prog 35 #[.iface 85 (.agg #[.int .i64 n, .string s])] w fun e w' => e = .returned (.bool true) ∧ Below w.heap.size w w' := by
    have h1 := cl_no n s
    have h2 := cl_yes n s
    have HB : Hid (Below w.heap.size w ((w.alloc (.cells #[.int .i64 0, .slice none 0 0] 72)).alloc (.cells #[.int .i64 n, .string s] 85))) := (al_below _ _).alloc (al_below _ _).size _
    go_enter Tryz.func35, Tryz.ntmps35
    go_wp2
    go_ret
    exact ⟨rfl, HB.out⟩
  go_enter Tryz.func12, Tryz.ntmps12
  go_wp2_with fail
  refine c.mono ?_
  rintro e w1 ⟨rfl, b1⟩
  clear c
  go_wp2
  go_ret
  exact ⟨rfl, b1⟩
theorem asksF_any (p : Fm) (sv : Value) (w : World) (hK : isK p.k = true) (hs : ∃ a n c, sv = .slice a n c) :
    Calls Tryz.prog 12 #[frV p sv] w fun e w' => e = .returned (.bool (askM p.k)) ∧ Below w.heap.size w w' := by
  obtain ⟨a, n, c, rfl⟩ := hs
  have hk : p.k = 1 ∨ p.k = 2 ∨ p.k = 3 ∨ p.k = 4 ∨ p.k = 5 ∨ p.k = 6 ∨ p.k = 7 ∨ p.k = 8 ∨ p.k = 9 ∨ p.k = 10 := by
    unfold isK at hK
    simp only [Bool.and_eq_true, decide_eq_true_eq] at hK
    omega
  obtain ⟨k, id, n', cd, fin, tx, nc, sp⟩ := p
  simp only at hk
  rcases hk with rfl | rfl | rfl | rfl | rfl | rfl | rfl | rfl | rfl | rfl
  · exact asksPing _ w
  · exact asksAck _ _ _ _ w
  · exact asksStream _ w
  · exact asksReset _ w
  · exact asksStop _ w
  · exact asksMaxData _ w
  · exact asksMaxStream _ w
  · exact asksMaxStreams _ w
  · exact asksHello _ w
  · exact asksClose _ _ w
set_option maxHeartbeats 1000000 in
theorem as_catch (V : Value) (q : Nat) (y : Value) (older : List PanicEntry) (w : World) (hc : w.cell? ⟨q, 0, none⟩ = some y) (hz : w.frozen? ⟨q, 0, none⟩ = false) :
    CallsD Tryz.prog 49 #[.pointer (some ⟨q, 0, none⟩)] (.panicking ({ v := .iface 15 V, recovered := false } :: older)) w fun e u' w' => e = .returned (.tuple #[]) ∧ u' = .panicking ({ v := .iface 15 V, recovered := true } :: older) ∧ w' = w.setCell ⟨q, 0, none⟩ (.int .i64 9) := by
  have hnn := neq_tae V
  refine callsD_of_wpS Tryz.func49 rfl fun c₀ cs hu => ?_
  apply wpS_seq
  apply wpS_region
  simp [wpOpsS, go_sem, recoverD, hu, Tryz.ntmps49, hnn, Exit.thenS]
  refine wpS_cond (t := true) (by simp [Act.eval, Array.replicate]) ?_
  simp only [if_true]
  refine wpS_of_wp ?_
  cases c₀
  simp only at *
  subst hu
  go_wp2
  simp [bodyPostS, results, Tryz.results49]
end Go.Proofs.YtmplpdjkhdaniaaGreatDoor
namespace Go.Proofs.YtmplpdjkhdaniaaGreatDoor
open Go.RowKit Go.Shelf
set_option maxRecDepth 100000

set_option maxHeartbeats 2000000 in
theorem asStream_pan (x V : Value) (cs : Array Value) (e : TypeId) (w : World) (h1 : (Instr.typeAssert x 29 42 false).run Tryz.prog ((w.alloc (.cells #[.int .i64 0, .int .i64 0, .bool false, .string ⟨#[]⟩] 42)).alloc (.cells #[.int .i64 0] 30)) = .halt (.panic (.iface 15 V)) (((w.alloc (.cells #[.int .i64 0, .int .i64 0, .bool false, .string ⟨#[]⟩] 42)).alloc (.cells #[.int .i64 0] 30)).alloc (.cells cs e))) :
    Calls Tryz.prog 34 #[x] w fun e w' => e = .returned (.tuple #[.agg #[.int .i64 0, .int .i64 0, .bool false, .string ⟨#[]⟩], .int .i64 9]) ∧ Below w.heap.size w w' := by
  obtain ⟨W3, hW3⟩ : ∃ W3, W3 = ((w.alloc (.cells #[.int .i64 0, .int .i64 0, .bool false, .string ⟨#[]⟩] 42)).alloc (.cells #[.int .i64 0] 30)).alloc (.cells cs e) := ⟨_, rfl⟩
  have b1 := al_below w (.cells #[.int .i64 0, .int .i64 0, .bool false, .string ⟨#[]⟩] 42)
  have g1 := heap_alloc_new w (.cells #[.int .i64 0, .int .i64 0, .bool false, .string ⟨#[]⟩] 42)
  have b2 := al_below (w.alloc (.cells #[.int .i64 0, .int .i64 0, .bool false, .string ⟨#[]⟩] 42)) (.cells #[.int .i64 0] 30)
  have g2 := heap_alloc_new (w.alloc (.cells #[.int .i64 0, .int .i64 0, .bool false, .string ⟨#[]⟩] 42)) (.cells #[.int .i64 0] 30)
  have z1 : (w.alloc (.cells #[.int .i64 0, .int .i64 0, .bool false, .string ⟨#[]⟩] 42)).heap.size = w.heap.size + 1 := by simp
  rw [z1] at g2
  have g1' := blk_kept g1 b2 (blk_lt g1)
  have b3 := al_below ((w.alloc (.cells #[.int .i64 0, .int .i64 0, .bool false, .string ⟨#[]⟩] 42)).alloc (.cells #[.int .i64 0] 30)) (.cells cs e)
  have k1 : W3.heap[w.heap.size]? = some (.cells #[.int .i64 0, .int .i64 0, .bool false, .string ⟨#[]⟩] 42 (0, 0)) := by rw [hW3]; exact blk_kept g1' b3 (blk_lt g1')
  have k2 : W3.heap[w.heap.size + 1]? = some (.cells #[.int .i64 0] 30 (0, 0)) := by rw [hW3]; exact blk_kept g2 b3 (blk_lt g2)
  have HB3 : Hid (Below w.heap.size w W3) := by rw [hW3]; exact b1.trans ((b2.trans (b3.mono b2.size)).mono b1.size)
  have c2 : W3.cell? ⟨w.heap.size + 1, 0, none⟩ = some (.int .i64 0) := by simp [World.cell?, k2]
  have c4 : W3.frozen? ⟨w.heap.size + 1, 0, none⟩ = false := by simp [World.frozen?, k2]
  have k3 : (W3.setCell ⟨w.heap.size + 1, 0, none⟩ (.int .i64 9)).heap[w.heap.size]? = some (.cells #[.int .i64 0, .int .i64 0, .bool false, .string ⟨#[]⟩] 42 (0, 0)) := by
    simp only [World.setCell, Array.getElem?_modify]
    rw [if_neg (by omega)]
    exact k1
  have k4 : (W3.setCell ⟨w.heap.size + 1, 0, none⟩ (.int .i64 9)).heap[w.heap.size + 1]? = some (.cells #[.int .i64 9] 30 (0, 0)) := by
    simp only [World.setCell, Array.getElem?_modify, if_true, k2]
    simp
  have HB4 : Hid (Below w.heap.size w (W3.setCell ⟨w.heap.size + 1, 0, none⟩ (.int .i64 9))) := HB3.out.setCell (Nat.le_add_right _ _) _
  have HK : Hid (W3.heap[w.heap.size]? = W3.heap[w.heap.size]?) := rfl
  have h1' : (Instr.typeAssert x 29 42 false).run Tryz.prog ((w.alloc (.cells #[.int .i64 0, .int .i64 0, .bool false, .string ⟨#[]⟩] 42)).alloc (.cells #[.int .i64 0] 30)) = .halt (.panic (.iface 15 V)) W3 := by rw [hW3]; exact h1
  have HC2 : Hid (W3.cell? ⟨w.heap.size + 1, 0, none⟩ = some (.int .i64 0)) := c2
  have HC4 : Hid (W3.frozen? ⟨w.heap.size + 1, 0, none⟩ = false) := c4
  have HK3 : Hid ((W3.setCell ⟨w.heap.size + 1, 0, none⟩ (.int .i64 9)).heap[w.heap.size]? = some (.cells #[.int .i64 0, .int .i64 0, .bool false, .string ⟨#[]⟩] 42 (0, 0))) := k3
  have HK4 : Hid ((W3.setCell ⟨w.heap.size + 1, 0, none⟩ (.int .i64 9)).heap[w.heap.size + 1]? = some (.cells #[.int .i64 9] 30 (0, 0))) := k4
  clear h1 hW3 b1 g1 b2 g2 z1 g1' b3 k1 k2 c2 c4 k3 k4 HK
  go_enter_defers Tryz.func34, Tryz.ntmps34
  go_wp2
  refine leaves_cons (f := 49) (args := #[.pointer (some ⟨w.heap.size + 1, 0, none⟩)]) (by simp) (by simp [go_sem]) ?_
  refine (as_catch V (w.heap.size + 1) _ [] W3 HC2.out HC4.out).mono ?_
  rintro e u' w2 ⟨rfl, rfl, rfl⟩
  obtain ⟨WZ, hWZ⟩ : ∃ WZ, WZ = W3.setCell ⟨w.heap.size + 1, 0, none⟩ (.int .i64 9) := ⟨_, rfl⟩
  have k3 := HK3.out
  have k4 := HK4.out
  have b4 := HB4.out
  rw [← hWZ] at k3 k4 b4 ⊢
  have q0 : WZ.cell? ⟨w.heap.size, 0, none⟩ = some (.int .i64 0) := by simp [World.cell?, k3]
  have q1 : WZ.cell? ⟨w.heap.size, 1, none⟩ = some (.int .i64 0) := by simp [World.cell?, k3]
  have q2 : WZ.cell? ⟨w.heap.size, 2, none⟩ = some (.bool false) := by simp [World.cell?, k3]
  have q3 : WZ.cell? ⟨w.heap.size, 3, none⟩ = some (.string ⟨#[]⟩) := by simp [World.cell?, k3]
  have q4 : WZ.cell? ⟨w.heap.size + 1, 0, none⟩ = some (.int .i64 9) := by simp [World.cell?, k4]
  show Leaves _ _ _ _ [] FrameMode.returning WZ
  refine ⟨_, ?_, rfl, b4⟩
  simp [results, Tryz.results34, go_sem, q0, q1, q2, q3, q4]
set_option maxHeartbeats 2000000 in
theorem streamOf_pan (x : Value) (w : World) (h : ∀ W, ∃ V cs e, (Instr.typeAssert x 29 42 false).run Tryz.prog W = .halt (.panic (.iface 15 V)) (W.alloc (.cells cs e))) :
    Calls Tryz.prog 11 #[x] w fun e w' => e = .returned (.tuple #[.agg #[.int .i64 0, .int .i64 0, .bool false, .string ⟨#[]⟩], .int .i64 9]) ∧ Below w.heap.size w w' := by
  obtain ⟨W1, hW1⟩ : ∃ W1, W1 = w.alloc (.cells #[.int .i64 0, .int .i64 0, .bool false, .string ⟨#[]⟩] 42) := ⟨_, rfl⟩
  have b1 : Below w.heap.size w W1 := by rw [hW1]; exact al_below _ _
  have g1 : W1.heap[w.heap.size]? = some (.cells #[.int .i64 0, .int .i64 0, .bool false, .string ⟨#[]⟩] 42 (0, 0)) := by rw [hW1]; exact heap_alloc_new _ _
  obtain ⟨V, cs, e, hp⟩ := h ((W1.alloc (.cells #[.int .i64 0, .int .i64 0, .bool false, .string ⟨#[]⟩] 42)).alloc (.cells #[.int .i64 0] 30))
  have c := asStream_pan x V cs e W1 hp
  clear h hp
  go_enter Tryz.func11, Tryz.ntmps11
  go_upto_region 1 with fail
  rw [← hW1]
  clear hW1
  go_wp2_with fail
  refine c.mono ?_
  rintro e w2 ⟨rfl, b2⟩
  have g2 := blk_kept g1 b2 (blk_lt g1)
  have HB2 : Hid (Below w.heap.size w w2) := b1.trans (b2.mono b1.size)
  clear c b1 b2 g1
  have HG2 : Hid (w2.heap[w.heap.size]? = some (.cells #[.int .i64 0, .int .i64 0, .bool false, .string ⟨#[]⟩] 42 (0, 0))) := g2
  clear g2
  have hinf : Hid ((Tryz.prog.info? 42).map (·.size) = some 4) := by unfold Hid; kernel_rfl
  have HONE : Hid (((#[.int .i64 0, .int .i64 0, .bool false, .string ⟨#[]⟩] : Array Value)).all (·.oneCell') = true) := all_oneCell_toArray (cs := [Value.int .i64 0, .int .i64 0, .bool false, .string ⟨#[]⟩]) fun v hv => by
    simp only [List.mem_cons, List.not_mem_nil, or_false] at hv
    rcases hv with rfl | rfl | rfl | rfl <;> rfl
  go_wp2_with (refine wpList_store_row rfl 42 _ _ rfl w.heap.size #[.int .i64 0, .int .i64 0, .bool false, .string ⟨#[]⟩] rfl rfl 42 _ HG2.out hinf.out rfl HONE.out (Hid.out ?_))
  unfold Hid
  go_wp2
  have hg3 := setRow_heap _ _ _ #[.int .i64 0, .int .i64 0, .bool false, .string ⟨#[]⟩] _ _ HG2.out
  have HB3 : Hid (Below w.heap.size w (w2.setRow w.heap.size #[.int .i64 0, .int .i64 0, .bool false, .string ⟨#[]⟩])) := below_setRow HB2.out (Nat.le_refl _) _
  generalize w2.setRow w.heap.size #[.int .i64 0, .int .i64 0, .bool false, .string ⟨#[]⟩] = WZ at *
  have k0 : WZ.cell? ⟨w.heap.size, 0, none⟩ = some (.int .i64 0) := by simp [World.cell?, hg3]
  have k1 : WZ.cell? ⟨w.heap.size, 1, none⟩ = some (.int .i64 0) := by simp [World.cell?, hg3]
  have k2 : WZ.cell? ⟨w.heap.size, 2, none⟩ = some (.bool false) := by simp [World.cell?, hg3]
  have k3 : WZ.cell? ⟨w.heap.size, 3, none⟩ = some (.string ⟨#[]⟩) := by simp [World.cell?, hg3]
  refine bodyPost_ret (v := .tuple #[.agg #[.int .i64 0, .int .i64 0, .bool false, .string ⟨#[]⟩], .int .i64 9]) ?h rfl ?_
  case h => simp [results, Tryz.results11, go_sem, k0, k1, k2, k3]
  exact ⟨rfl, HB3.out⟩
/-- What StreamOf answers of a frame: four values, and the error. -/
theorem streamF_any (p : Fm) (sv : Value) (w : World) (hK : isK p.k = true) :
    Calls Tryz.prog 11 #[frV p sv] w fun e w' => ∃ (i n : Int) (f : Bool) (t : ByteArray), e = .returned (.tuple #[.agg #[.int .i64 i, .int .i64 n, .bool f, .string t], .int .i64 (if p.k = 3 then 0 else 9)]) ∧ Below w.heap.size w w' := by
  have hk : p.k = 1 ∨ p.k = 2 ∨ p.k = 3 ∨ p.k = 4 ∨ p.k = 5 ∨ p.k = 6 ∨ p.k = 7 ∨ p.k = 8 ∨ p.k = 9 ∨ p.k = 10 := by
    unfold isK at hK
    simp only [Bool.and_eq_true, decide_eq_true_eq] at hK
    omega
  obtain ⟨k, id, n', cd, fin, tx, nc, sp⟩ := p
  simp only at hk
  rcases hk with rfl | rfl | rfl | rfl | rfl | rfl | rfl | rfl | rfl | rfl
  · exact (streamOf_pan _ w (as_notPing _)).mono fun _ _ ⟨e, b⟩ => ⟨_, _, _, _, e, b⟩
  · exact (streamOf_pan _ w (as_notAck _)).mono fun _ _ ⟨e, b⟩ => ⟨_, _, _, _, e, b⟩
  · exact (streamOf_yes id n' fin tx w).mono fun _ _ ⟨e, b⟩ => ⟨_, _, _, _, e, b⟩
  · exact (streamOf_pan _ w (as_notReset _)).mono fun _ _ ⟨e, b⟩ => ⟨_, _, _, _, e, b⟩
  · exact (streamOf_pan _ w (as_notStop _)).mono fun _ _ ⟨e, b⟩ => ⟨_, _, _, _, e, b⟩
  · exact (streamOf_pan _ w (as_notMaxData _)).mono fun _ _ ⟨e, b⟩ => ⟨_, _, _, _, e, b⟩
  · exact (streamOf_pan _ w (as_notMaxStream _)).mono fun _ _ ⟨e, b⟩ => ⟨_, _, _, _, e, b⟩
  · exact (streamOf_pan _ w (as_notMaxStreams _)).mono fun _ _ ⟨e, b⟩ => ⟨_, _, _, _, e, b⟩
  · exact (streamOf_pan _ w (as_notHello _)).mono fun _ _ ⟨e, b⟩ => ⟨_, _, _, _, e, b⟩
  · exact (streamOf_pan _ w (as_notClose _)).mono fun _ _ ⟨e, b⟩ => ⟨_, _, _, _, e, b⟩
end Go.Proofs.YtmplpdjkhdaniaaGreatDoor
namespace Go.Proofs.YtmplpdjkhdaniaaGreatDoor
open Go.RowKit Go.Shelf
set_option maxRecDepth 100000

set_option maxHeartbeats 8000000 in
theorem flatNil (w : World) :
    Calls Tryz.prog 32 #[.nilIface] w fun e w' => e = .returned (.agg (plA Fm.zero (.slice none 0 0))) ∧ Below w.heap.size w w' := by
  obtain ⟨W1, hW1⟩ : ∃ W1, W1 = w.alloc (.cells #[.int .u8 0, .int .i64 0, .int .i64 0, .int .i64 0, .bool false, .string ⟨#[]⟩, .int .u8 0, .int .u8 0, .int .u8 0, .int .u8 0, .int .u8 0, .int .u8 0, .int .u8 0, .int .u8 0, .int .u8 0, .int .u8 0, .int .u8 0, .int .u8 0, .int .u8 0, .int .u8 0, .int .u8 0, .int .u8 0, .slice none 0 0] 33) := ⟨_, rfl⟩
  have b1 : Below w.heap.size w W1 := by rw [hW1]; exact al_below _ _
  have g1 : W1.heap[w.heap.size]? = some (.cells #[.int .u8 0, .int .i64 0, .int .i64 0, .int .i64 0, .bool false, .string ⟨#[]⟩, .int .u8 0, .int .u8 0, .int .u8 0, .int .u8 0, .int .u8 0, .int .u8 0, .int .u8 0, .int .u8 0, .int .u8 0, .int .u8 0, .int .u8 0, .int .u8 0, .int .u8 0, .int .u8 0, .int .u8 0, .int .u8 0, .slice none 0 0] 33 (0, 0)) := by rw [hW1]; exact heap_alloc_new _ _
  have HG1 : Hid (W1.heap[w.heap.size]? = some (.cells #[.int .u8 0, .int .i64 0, .int .i64 0, .int .i64 0, .bool false, .string ⟨#[]⟩, .int .u8 0, .int .u8 0, .int .u8 0, .int .u8 0, .int .u8 0, .int .u8 0, .int .u8 0, .int .u8 0, .int .u8 0, .int .u8 0, .int .u8 0, .int .u8 0, .int .u8 0, .int .u8 0, .int .u8 0, .int .u8 0, .slice none 0 0] 33 (0, 0))) := g1
  have HB1 : Hid (Below w.heap.size w W1) := b1
  have HSZ : Hid ((Tryz.prog.info? 33).map (·.size) = some (plA Fm.zero (.slice none 0 0)).size) := infoP
  have HON : Hid ((plA Fm.zero (.slice none 0 0)).all (·.oneCell') = true) := all_oneCell_toArray (plL_one rfl)
  have a1 : ∀ W : World, (Instr.typeAssert .nilIface 29 69 true).run Tryz.prog W = .ok (.tuple #[.agg #[], .bool false]) W := fun W => by kernel_rfl
  have a2 : ∀ W : World, (Instr.typeAssert .nilIface 29 72 true).run Tryz.prog W = .ok (.tuple #[.agg #[.int .i64 0, .slice none 0 0], .bool false]) W := fun W => by kernel_rfl
  have a3 : ∀ W : World, (Instr.typeAssert .nilIface 29 42 true).run Tryz.prog W = .ok (.tuple #[.agg #[.int .i64 0, .int .i64 0, .bool false, .string ⟨#[]⟩], .bool false]) W := fun W => by kernel_rfl
  have a4 : ∀ W : World, (Instr.typeAssert .nilIface 29 74 true).run Tryz.prog W = .ok (.tuple #[.agg #[.int .i64 0, .int .i64 0, .int .i64 0], .bool false]) W := fun W => by kernel_rfl
  have a5 : ∀ W : World, (Instr.typeAssert .nilIface 29 76 true).run Tryz.prog W = .ok (.tuple #[.agg #[.int .i64 0, .int .i64 0], .bool false]) W := fun W => by kernel_rfl
  have a6 : ∀ W : World, (Instr.typeAssert .nilIface 29 78 true).run Tryz.prog W = .ok (.tuple #[.agg #[.int .i64 0], .bool false]) W := fun W => by kernel_rfl
  have a7 : ∀ W : World, (Instr.typeAssert .nilIface 29 80 true).run Tryz.prog W = .ok (.tuple #[.agg #[.int .i64 0, .int .i64 0], .bool false]) W := fun W => by kernel_rfl
  have a8 : ∀ W : World, (Instr.typeAssert .nilIface 29 81 true).run Tryz.prog W = .ok (.tuple #[.agg #[.int .i64 0], .bool false]) W := fun W => by kernel_rfl
  have a9 : ∀ W : World, (Instr.typeAssert .nilIface 29 83 true).run Tryz.prog W = .ok (.tuple #[.agg #[.int .u8 0, .int .u8 0, .int .u8 0, .int .u8 0, .int .u8 0, .int .u8 0, .int .u8 0, .int .u8 0, .int .u8 0, .int .u8 0, .int .u8 0, .int .u8 0, .int .u8 0, .int .u8 0, .int .u8 0, .int .u8 0, .string ⟨#[]⟩], .bool false]) W := fun W => by kernel_rfl
  have a10 : ∀ W : World, (Instr.typeAssert .nilIface 29 85 true).run Tryz.prog W = .ok (.tuple #[.agg #[.int .i64 0, .string ⟨#[]⟩], .bool false]) W := fun W => by kernel_rfl
  clear b1 g1
  go_enter Tryz.func32, Tryz.ntmps32
  go_upto_region 1 with fail
  rw [← hW1]
  clear hW1
  go_wp2_with (refine wpList_store_row rfl 33 _ _ rfl w.heap.size (plA Fm.zero (.slice none 0 0)) rfl rfl 33 _ HG1.out HSZ.out rfl HON.out (Hid.out ?_))
  unfold Hid
  go_wp2
  refine bodyPost_ret (v := .agg (plA Fm.zero (.slice none 0 0))) (results_cell_row rfl _ _ w.heap.size 33 (plA Fm.zero (.slice none 0 0)) (0, 0) _ rfl (setRow_heap _ _ _ _ _ _ HG1.out) Tryz.underlying33 rfl HSZ.out) rfl ⟨rfl, below_setRow HB1.out (Nat.le_refl _) _⟩
set_option maxHeartbeats 4000000 in
theorem flatVNil (w : World) :
    Calls Tryz.prog 31 #[.nilIface] w fun e w' => e = .returned (.agg (plA Fm.zero (.slice none 0 0))) ∧ Below w.heap.size w w' := by
  obtain ⟨W1, hW1⟩ : ∃ W1, W1 = w.alloc (.cells #[.int .u8 0, .int .i64 0, .int .i64 0, .int .i64 0, .bool false, .string ⟨#[]⟩, .int .u8 0, .int .u8 0, .int .u8 0, .int .u8 0, .int .u8 0, .int .u8 0, .int .u8 0, .int .u8 0, .int .u8 0, .int .u8 0, .int .u8 0, .int .u8 0, .int .u8 0, .int .u8 0, .int .u8 0, .int .u8 0, .slice none 0 0] 33) := ⟨_, rfl⟩
  have b1 : Below w.heap.size w W1 := by rw [hW1]; exact al_below _ _
  have g1 : W1.heap[w.heap.size]? = some (.cells #[.int .u8 0, .int .i64 0, .int .i64 0, .int .i64 0, .bool false, .string ⟨#[]⟩, .int .u8 0, .int .u8 0, .int .u8 0, .int .u8 0, .int .u8 0, .int .u8 0, .int .u8 0, .int .u8 0, .int .u8 0, .int .u8 0, .int .u8 0, .int .u8 0, .int .u8 0, .int .u8 0, .int .u8 0, .int .u8 0, .slice none 0 0] 33 (0, 0)) := by rw [hW1]; exact heap_alloc_new _ _
  have cf := flatNil W1
  have HB1 : Hid (Below w.heap.size w W1) := b1
  have HG1 : Hid (W1.heap[w.heap.size]? = some (.cells #[.int .u8 0, .int .i64 0, .int .i64 0, .int .i64 0, .bool false, .string ⟨#[]⟩, .int .u8 0, .int .u8 0, .int .u8 0, .int .u8 0, .int .u8 0, .int .u8 0, .int .u8 0, .int .u8 0, .int .u8 0, .int .u8 0, .int .u8 0, .int .u8 0, .int .u8 0, .int .u8 0, .int .u8 0, .int .u8 0, .slice none 0 0] 33 (0, 0))) := g1
  have HSZ : Hid ((Tryz.prog.info? 33).map (·.size) = some (plA Fm.zero (.slice none 0 0)).size) := infoP
  have HON : Hid ((plA Fm.zero (.slice none 0 0)).all (·.oneCell') = true) := all_oneCell_toArray (plL_one rfl)
  clear b1 g1
  go_enter Tryz.func31, Tryz.ntmps31
  go_upto_region 1 with fail
  rw [← hW1]
  clear hW1
  go_wp2_with fail
  refine cf.mono ?_
  rintro e w2 ⟨rfl, b2⟩
  have HG2 : Hid (w2.heap[w.heap.size]? = some (.cells #[.int .u8 0, .int .i64 0, .int .i64 0, .int .i64 0, .bool false, .string ⟨#[]⟩, .int .u8 0, .int .u8 0, .int .u8 0, .int .u8 0, .int .u8 0, .int .u8 0, .int .u8 0, .int .u8 0, .int .u8 0, .int .u8 0, .int .u8 0, .int .u8 0, .int .u8 0, .int .u8 0, .int .u8 0, .int .u8 0, .slice none 0 0] 33 (0, 0))) := blk_kept HG1.out b2 (blk_lt HG1.out)
  have HB2 : Hid (Below w.heap.size w w2) := HB1.out.trans (b2.mono HB1.out.size)
  clear cf b2
  go_wp2_with (refine wpList_store_row rfl 33 _ _ rfl w.heap.size (plA Fm.zero (.slice none 0 0)) rfl rfl 33 _ HG2.out HSZ.out rfl HON.out (Hid.out ?_))
  unfold Hid
  go_wp2
  refine bodyPost_ret (v := .agg (plA Fm.zero (.slice none 0 0))) (results_cell_row rfl _ _ w.heap.size 33 (plA Fm.zero (.slice none 0 0)) (0, 0) _ rfl (setRow_heap _ _ _ _ _ _ HG2.out) Tryz.underlying33 rfl HSZ.out) rfl ⟨rfl, below_setRow HB2.out (Nat.le_refl _) _⟩
set_option maxHeartbeats 4000000 in
theorem sameNil (w : World) :
    Calls Tryz.prog 9 #[.nilIface, .agg (plA Fm.zero (.slice none 0 0))] w fun e w' => e = .returned (.bool true) ∧ Below w.heap.size w w' := by
  have hn : Fm.zero.nc.length = 16 := rfl
  obtain ⟨W1, hW1⟩ : ∃ W1, W1 = w.alloc (.cells (plA Fm.zero (.slice none 0 0)) 25) := ⟨_, rfl⟩
  have b1 : Below w.heap.size w W1 := by rw [hW1]; exact al_below _ _
  have g1 : PF W1 w.heap.size 25 Fm.zero (.slice none 0 0) := by rw [hW1]; exact PF.new w _ Fm.zero _
  have HB1 : Hid (Below w.heap.size w W1) := b1
  have FR : Hid (∀ x, From W1 x → x.rangeAt w.heap.size 0 (plL Fm.zero (.slice none 0 0))) := fun x hx => (g1.kept hx).range
  have CF : Hid (∀ x, From W1 x → Calls Tryz.prog 31 #[.nilIface] x fun e w' => ∃ sv', e = .returned (.agg (plA Fm.zero sv')) ∧ SSp w' sv' Fm.zero.sp ∧ Below x.heap.size x w') := fun x hx => (flatVNil x).mono fun _ _ ⟨e, b⟩ => ⟨_, e, SSp.nil _, b⟩
  have CS : Hid (∀ x u, From W1 x → SSp x u Fm.zero.sp → Calls Tryz.prog 30 #[.agg (plA Fm.zero u), .agg (plA Fm.zero (.slice none 0 0))] x fun e w' => e = .returned (.bool true) ∧ Below x.heap.size x w') := fun x u hx h => rsameF_any Fm.zero u _ x hn h (SSp.nil _) (by show ([] : List Sp).length ≤ 100000; simp)
  have HSL : Hid ((Tryz.prog.info? 25).map (·.size) = some (plL Fm.zero (.slice none 0 0)).length) := by unfold Hid; rw [plL_len hn]; kernel_rfl
  clear b1 g1 hn
  obtain ⟨p, hp⟩ : ∃ p, p = Fm.zero := ⟨_, rfl⟩
  obtain ⟨pv, hpv⟩ : ∃ v, v = Value.slice none 0 0 := ⟨_, rfl⟩
  rw [← hp] at FR CF CS HSL hW1 ⊢
  rw [← hpv] at FR CS HSL hW1 ⊢
  clear hp hpv
  go_enter Tryz.func9, Tryz.ntmps9
  go_upto_region 1 with fail
  rw [← hW1]
  clear hW1
  refine wp_region_held_drew (S := From W1) (by kernel_rfl) (Below.drew (Below.refl _ _)) (fun _ => ?_)
  refine wpAnyH_name (fun u0 hu0 => ?_)
  have bu0 : Below W1.heap.size W1 u0 := by rw [hu0.out]; exact Below.drew (Below.refl _ _)
  refine wpAnyH_take (i := 0) (oi := { dst := some 5, op := Op.move (Operand.tmp 0), type := 29, pos := "law.go:25", after := #[], guard := none }) (v := ?vr1) rfl (by kernel_rfl) (by kernel_rfl) (by kernel_rfl) (fun _ _ _ h => h) (Or.inl ⟨by rfl, ?yr1⟩) bu0 ?rr1
  case yr1 => (intro w hSw; go_simp; try with_reducible rfl)
  try simp only [Act.put, List.setIfInBounds_toArray, List.set_cons_zero, List.set_cons_succ]
  refine wpAnyH_take (i := 2) (oi := { dst := some 7, op := Op.load 25 (Operand.tmp 3), type := 25, pos := "law.go:25", after := #[], guard := none }) (v := .agg (plA p pv)) rfl (by kernel_rfl) (by kernel_rfl) (by kernel_rfl) (fun _ _ _ h => h) (yieldsIf_load_mid (by rfl) 25 _ rfl w.heap.size 0 rfl (plL p pv) _ (fun x hx => FR.out x hx) Tryz.underlying25 rfl HSL.out) bu0 ?_
  try simp only [Act.put, List.setIfInBounds_toArray, List.set_cons_zero, List.set_cons_succ]
  refine wpAnyH_ready (rs := [1]) (by kernel_rfl) (by simp) ?_
  refine AllReadyH.cons (o := { dst := some 6, op := Op.call { callee := Callee.value (Operand.func 31), args := #[Operand.tmp 5], argTypes := #[29] }, type := 33, pos := "law.go:25", after := #[{ on := 0, ground := Ground.data }], guard := none }) rfl (fun KK hKK => ?_) ?_
  · go_simp
    refine (CF.out _ bu0).mono ?_
    rintro e u3' ⟨vu3, rfl, ou3, bu3'⟩
    (try go_wp2_with fail)
    refine hKK.out _ _ (bu0.trans (Below.mono (bu3') bu0.size)) (fun _ => ?_)
    clear hKK KK
    try simp only [Act.put, List.setIfInBounds_toArray, List.set_cons_zero, List.set_cons_succ]
    refine wpAnyH_name (fun u3 hu3 => ?_)
    have bu3 : Below W1.heap.size W1 u3 := by rw [hu3.out]; exact (bu0.trans (Below.mono (bu3') bu0.size))
    have OO : Hid (SSp u3 vu3 p.sp) := by unfold Hid; rw [hu3.out]; exact ou3
    refine wpAnyH_ready (rs := [3]) (by kernel_rfl) (by simp) ?_
    refine AllReadyH.cons (o := { dst := some 8, op := Op.call { callee := Callee.value (Operand.func 30), args := #[Operand.tmp 6, Operand.tmp 7], argTypes := #[25, 25] }, type := 4, pos := "law.go:25", after := #[{ on := 1, ground := Ground.data }, { on := 2, ground := Ground.data }, { on := 1, ground := Ground.chain }], guard := none }) rfl (fun KK hKK => ?_) ?_
    · have csu4 := CS.out _ _ bu3 OO.out
      go_simp
      refine csu4.mono ?_
      rintro e u4' ⟨rfl, bu4'⟩
      (try go_wp2_with fail)
      refine hKK.out _ _ (bu3.trans (Below.mono (bu4') bu3.size)) (fun _ => ?_)
      clear hKK KK
      try simp only [Act.put, List.setIfInBounds_toArray, List.set_cons_zero, List.set_cons_succ]
      refine wpAnyH_name (fun u4 hu4 => ?_)
      have bu4 : Below W1.heap.size W1 u4 := by rw [hu4.out]; exact (bu3.trans (Below.mono (bu4') bu3.size))
      refine wpAnyH_take (i := 4) (oi := { dst := some 4, op := Op.assign (Operand.tmp 8), type := 4, pos := "law.go:25", after := #[{ on := 3, ground := Ground.data }, { on := 3, ground := Ground.chain }, { on := 0, ground := Ground.phase }, { on := 1, ground := Ground.phase }, { on := 2, ground := Ground.phase }, { on := 3, ground := Ground.phase }], guard := none }) (v := ?vr5) rfl (by kernel_rfl) (by kernel_rfl) (by kernel_rfl) (fun _ _ _ h => h) (Or.inl ⟨by rfl, ?yr5⟩) bu4 ?rr5
      case yr5 => (intro w hSw; go_simp; try with_reducible rfl)
      try simp only [Act.put, List.setIfInBounds_toArray, List.set_cons_zero, List.set_cons_succ]
      refine wpAnyH_done (by kernel_rfl) ?_ _
      have BZ : Hid (Below w.heap.size w u4) := HB1.out.trans (Below.mono bu4 HB1.out.size)
      go_wp2
      go_ret
      exact ⟨rfl, BZ.out⟩
    exact AllReadyH.nil
  exact AllReadyH.nil
end Go.Proofs.YtmplpdjkhdaniaaGreatDoor
