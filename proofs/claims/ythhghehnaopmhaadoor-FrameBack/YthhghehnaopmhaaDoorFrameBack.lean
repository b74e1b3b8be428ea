/-
  FrameBack: frames that are put one behind the other are got as they were; the last one, cut off, is none. The conditions: those of the given statement alone, a tied card whose listed tables are frame.shapes and varint.widths.
-/
import Derived.Test.YthhghehnaopmhaaDoorPkQ
import Derived.Test.YthhghehnaopmhaaDoorPkQ
import Derived.Test.YthhghehnaopmhaaDoorPkO
namespace Go.Proofs.YthhghehnaopmhaaDoor.frameBack
open Go.ChangeShapes Go.WideShapes Go.ChangeAt Go.RowKit Go.Deep Go.ChangeMaps
set_option maxRecDepth 100000

set_option maxHeartbeats 16000000 in
theorem walk (v : Value) (L : List FV) (ct : Int) (w : World) (ht : Tb w) (h : FQ w v L) (hct : (Lit.int .u16 ct).wf = true) :
    Calls Tryd.prog 3 #[v, .int .u16 ct] w fun e w' => e = .returned (.bool true) ∧ Below w.heap.size w w' := by
  obtain ⟨a, c, rfl, h2, h3, h4⟩ := h.is.shape
  rw [List.length_map] at h2 h ⊢
  have ctb := bounds_u16 hct
  have HAW : Hid (∀ W, Below w.heap.size w W → Calls Tryd.prog 5 #[] W fun e w' => e = .returned (.bool true) ∧ Below W.heap.size W w') := fun W hb => awake_any W (ht.next hb)
  by_cases h40 : 40 < L.length
  · have d0 : decide ((40 : Int) < (L.length : Int)) = true := by simp; omega
    have aw := HAW.out w (Below.refl _ _)
    clear h ht h2 h3 h4 HAW
    generalize L.length = n at *
    go_enter Tryd.func3, Tryd.ntmps3
    go_wp2_with fail
    refine aw.mono ?_
    rintro e w1 ⟨rfl, b1⟩
    clear aw
    have B1 : Hid (Below w.heap.size w w1) := b1
    clear b1
    go_wp2
    go_ret
    exact ⟨rfl, B1.out⟩
  have d0 : decide ((40 : Int) < (L.length : Int)) = false := by simp; omega
  have HFQ : Hid (∀ W, Below w.heap.size w W → FQ W (.slice a L.length c) L) := fun W hb => h.kept hb
  have HFO : Hid (∀ q ∈ L, FmI w q.1 q.2) := h.ok
  have HTB : Hid (Tb w) := ht
  have hn : L.length ≤ 40 := by omega
  have HOM : Hid (∀ j, Oks (mq L j)) := fun j q hq => ⟨(mq_mem hq).2, (h.ok q (mq_mem hq).1).nl⟩
  obtain ⟨n, hn'⟩ : ∃ n, n = L.length := ⟨_, rfl⟩
  have HN : Hid (n = L.length) := hn'
  rw [← hn'] at h2 hn HFQ d0 ⊢
  have HB0 : Hid (BL w (mq L 0) (.slice none 0 0) (.slice none 0 0) w) := BL.start w
  have HL0 : Hid (LS (mq L 0) 0) := LS.nil
  clear h ht h3 h4 hn' h40 hct
  go_enter Tryd.func3, Tryd.ntmps3
  go_wp2_with fail
  go_loopw [5, 6, 7, 8] (fun s5 s6 s7 z wr => ∃ j ls : Nat, j ≤ n ∧ z = .int .i64 j ∧ s7 = .int .i64 ls ∧ LS (mq L j) ls ∧ BL w (mq L j) s5 s6 wr) (fun _ _ _ z _ => n - (intOf z).toNat)
  case atStart => exact ⟨0, 0, by omega, rfl, rfl, HL0.out, HB0.out⟩
  case round =>
    obtain ⟨j, ls, hj, rfl, rfl, lsj, bl⟩ := hrel
    have HL1 : Hid (LS (mq L j) ls) := lsj
    have HB1 : Hid (BL w (mq L j) u5 u6 wr) := bl
    have HB : Hid (Below w.heap.size w wr) := bl.bel
    have HOJ : Hid (Oks (mq L j)) := HOM.out j
    have HML : Hid ((mq L j).length ≤ j) := mq_len L j
    have HPL : Hid ((pts (mq L j)).length ≤ 1150 * (mq L j).length) := pts_len (HOM.out j)
    obtain ⟨a5, c5, rfl⟩ := bl.b.shape
    obtain ⟨a6, c6, rfl, -, -, -⟩ := bl.m.is.shape
    rw [List.length_map] at HB1 ⊢
    clear bl lsj HB0 HL0
    by_cases hlt : j < n
    · have lt2 : (j : Int) < (n : Int) := by omega
      have lt3 : (0 : Int) ≤ (j : Int) := by omega
      obtain ⟨b, off, rfl, hr⟩ := (HFQ.out wr HB.out).is.at j (by rw [List.length_map, ← HN.out]; exact hlt)
      have hjl : j < L.length := by rw [← HN.out]; exact hlt
      rw [atC_plc L j hjl] at hr
      have hx := HFO.out _ (atF_mem L j hjl)
      have HMD : Hid (mq L (j + 1) = if chkM (atF L j).1 = 0 then mq L j ++ [atF L j] else mq L j) := mq_next L j hjl
      have HO1 : Hid (Oks (mq L (j + 1))) := HOM.out (j + 1)
      have FX : Hid (∀ W, Below w.heap.size w W → W.rangeAt b (off + j * 23) (plc (atF L j))) := fun W hb => by
        obtain ⟨b', off', e', hr'⟩ := (HFQ.out W hb).is.at j (by rw [List.length_map]; exact hjl)
        cases e'
        rw [atC_plc L j hjl] at hr'
        exact hr'
      generalize atF L j = q at *
      generalize mq L j = M at *
      obtain ⟨p, u⟩ := q
      simp only at hx HMD
      have FY : Hid (∀ W, Below w.heap.size w W → W.rangeAt b (off + j * 23) (plL p u)) := FX.out
      have hnl := hx.nl
      have ZQ : Hid ((Tryd.prog.info? 30).map (·.size) = some (plL p u).length) := by unfold Hid; rw [plL_len hnl]; kernel_rfl
      have RN : Hid (wr.rangeAt b (off + j * 23) (plL p u)) := FY.out wr HB.out
      have cl := light_any p u wr hnl (hx.sp.kept HB.out)
      have HX : Hid (FmI w p u) := hx
      unfold plA at cl
      obtain ⟨ml, hml⟩ : ∃ ml, ml = M.length := ⟨_, rfl⟩
      have HMN : Hid (ml = M.length) := hml
      obtain ⟨pl, hpl⟩ : ∃ pl, pl = (pts M).length := ⟨_, rfl⟩
      have HPN : Hid (pl = (pts M).length) := hpl
      rw [← hml, ← hpl] at HB1 ⊢
      clear hml hpl hr hx FX hjl HFQ HFO HOM
      by_cases hli : liM p = true
      · have hfi := fmi_fi HX.out hli
        have HFI : Hid (FI w p u) := hfi
        rw [hli] at cl
        go_wp2_with (refine wpList_load_mid rfl 30 _ rfl b (off + j * 23) rfl (plL p u) _ RN.out Tryd.underlying30 rfl ZQ.out ?_)
        refine cl.mono ?_
        rintro e w1 ⟨rfl, b1⟩
        have L1 : Hid (BL w M (.slice a5 pl c5) (.slice a6 ml c6) w1) := HB1.out.kept b1
        have RN1 : Hid (w1.rangeAt b (off + j * 23) (plL p u)) := FY.out w1 L1.out.bel
        have co := ofF_any p u w1 (HTB.out.next L1.out.bel) (hfi.kept L1.out.bel)
        unfold plA at co
        clear cl b1 HB1 RN hfi hli
        by_cases hck : chkM p = 0
        · have hok := chkM_ok hck
          have HOK : Hid (Ok p) := hok
          have HM1 : Hid (mq L (j + 1) = M ++ [(p, u)]) := by unfold Hid; rw [HMD.out, if_pos hck]
          have eo : ofP p = p := by unfold ofP; rw [if_pos hck]
          have hsk := spO_ok hok
          rw [hck, eo, hsk] at co
          go_wp2_with (refine wpList_load_mid rfl 30 _ rfl b (off + j * 23) rfl (plL p u) _ RN1.out Tryd.underlying30 rfl ZQ.out ?_)
          refine co.mono ?_
          rintro e w2 ⟨s2, rfl, r2, b2⟩
          have L2 : Hid (BL w M (.slice a5 pl c5) (.slice a6 ml c6) w2) := L1.out.kept b2
          have hif := frV_iface hok.kk s2
          have cp := putF_any p s2 w2 (HTB.out.next L2.out.bel) (ok_fp HFI.out.k hok (RSp.is r2)) hif
          have epr : putR p = putM p := by unfold putR; rw [if_pos hck]
          rw [hck, epr] at cp
          have HQP : Hid (0 < (putM p).length ∧ (putM p).length ≤ 1150) := ⟨putM_pos p, putM_le hok HFI.out.k.nl⟩
          obtain ⟨ty, y, hy⟩ := hif
          rw [hy] at cp ⊢
          clear co r2 b2 L1 RN1 hy hsk eo epr hok hck HMD
          go_wp2_with fail
          refine cp.mono ?_
          rintro e w3 ⟨v3, rfl, o3, b3⟩
          have L3 : Hid (BL w M (.slice a5 pl c5) (.slice a6 ml c6) w3) := L2.out.kept b3
          have S3 : Hid (Sl w3 v3 (putM p)) := o3.sl
          have BB3 : Hid (∀ k, 0 ≤ (putM p).getD k 0 ∧ (putM p).getD k 0 < 256) := o3.2
          obtain ⟨a3, c3, rfl⟩ := o3.shape
          obtain ⟨ql, hql⟩ : ∃ ql, ql = (putM p).length := ⟨_, rfl⟩
          have HQL : Hid (ql = (putM p).length) := hql
          have hq0 : 0 < ql := by rw [hql]; exact HQP.out.1
          have hq1 : (0 : Int) < (ql : Int) := by omega
          have hq2 : ((ql : Int) == 0) = false := by simp; omega
          have hq3 : ¬ (ql : Int) = 0 := by omega
          rw [← hql] at S3 ⊢
          clear cp o3 b3 L2 hql hq0
          go_wp2_with (at_builtin; refine wpList_append_sl rfl _ _ rfl w.heap.size _ pl ((pts M).map (Value.int .u8)) rfl (by have := L3.out.b.1; rw [← HPN.out] at this; exact this) _ (putM p) rfl S3.out (by have := HPL.out; have := HML.out; have := HPN.out; have := HQP.out.2; omega) L3.out.bel.size (Hid.out ?_))
          unfold Hid
          intro v4 w4 o4 g4
          have m4 : RI 30 23 w4 w.heap.size (.slice a6 ml c6) (M.map plc) := ⟨own_apart L3.out.b.1 L3.out.m.1 (by decide) g4, L3.out.m.2⟩
          have b4 : Below w.heap.size w w4 := L3.out.bel.grown g4 L3.out.bel.size (own_base L3.out.b.1)
          have o4' : Ow w4 w.heap.size v4 (pts (M ++ [(p, u)])) := by
            refine ⟨?_, ?_⟩
            · rw [pts_app, List.length_append, List.map_append, ← HPN.out]
              exact o4
            · rw [pts_app]
              exact ow_app L3.out.b.2 BB3.out
          obtain ⟨a4, c4, rfl⟩ := own_shape o4
          rw [← HQL.out] at o4 o4' ⊢
          have HO4 : Hid (Ow w4 w.heap.size (.slice a4 (pl + ql) c4) (pts (M ++ [(p, u)]))) := o4'
          have HM4 : Hid (RI 30 23 w4 w.heap.size (.slice a6 ml c6) (M.map plc)) := m4
          have HB4 : Hid (Below w.heap.size w w4) := b4
          have RN4 : Hid (w4.rangeAt b (off + j * 23) (plL p u)) := FY.out w4 b4
          have HLS : Hid (LS (mq L (j + 1)) pl) := by unfold Hid; have := HO1.out; rw [HM1.out] at this ⊢; rw [HPN.out]; exact LS.app this
          have ML40 : Hid (M.length ≤ 40) := by unfold Hid; have := HML.out; omega
          obtain ⟨W5, hW5⟩ : ∃ W5, W5 = w4.alloc (.cells (plA p u) 30) := ⟨_, rfl⟩
          have b5 : Below w4.heap.size w4 W5 := by rw [hW5]; exact al_below _ _
          have K5 : Hid (W5.rangeAt w4.heap.size 0 (plL p u)) := by unfold Hid; rw [hW5]; exact blk_range (heap_alloc_new _ _)
          have HO5 : Hid (Ow W5 w.heap.size (.slice a4 (pl + ql) c4) (pts (M ++ [(p, u)]))) := HO4.out.below b5
          have HM5 : Hid (RI 30 23 W5 w.heap.size (.slice a6 ml c6) (M.map plc)) := HM4.out.below b5
          have HB5 : Hid (Below w.heap.size w W5) := b4.trans (b5.mono b4.size)
          have HU : Hid (∃ b m c, u = .slice b m c) := by obtain ⟨b, c, e, _⟩ := HX.out.sp.shape; exact ⟨b, _, c, e⟩
          have hw5 := hW5.symm
          clear o4 g4 m4 b4 o4' L3 S3 HO4 HM4 HB4 b5 hW5 HL1 HO1 hq1 hq2 hq3
          unfold plA at hw5
          generalize pl + ql = tl at *
          go_wp2_with (first | refine wpList_load_mid rfl 30 _ rfl b (off + j * 23) rfl (plL p u) _ RN4.out Tryd.underlying30 rfl ZQ.out ?_ | refine wpList_bsF rfl _ rfl p u HX.out.nl HU.out rfl (Hid.out ?_))
          unfold Hid
          unfold plA
          rw [hw5]
          clear hw5
          go_wp2_with (at_builtin; refine wpList_append_it rfl _ _ 22 30 23 96 (.agg (plA Fm.zero (.slice none 0 0))) rfl Tryd.underlying22 infoPq (plA_size rfl _) (by decide) (by decide) w.heap.size _ (M.map plc) rfl HM5.out w4.heap.size (plL p u) 1 (plL_len HX.out.nl u) (plL_one (ssp_one HX.out.sp)) rfl K5.out (by rw [List.length_map]; have := ML40.out; omega) HB5.out.size (Hid.out ?_))
          unfold Hid
          intro v6 w6 o6 g6
          have HZ : Hid (BL w (mq L (j + 1)) (.slice a4 tl c4) v6 w6) := by
            unfold Hid
            rw [HM1.out]
            refine ⟨⟨own_apart HM5.out.1 HO5.out.1 (by decide) g6, HO5.out.2⟩, by rw [List.map_append]; exact o6, HB5.out.grown g6 HB5.out.size (own_base HM5.out.1)⟩
          obtain ⟨a7, c7, rfl, -, -, -⟩ := o6.is.shape
          rw [List.length_append, List.length_map, ← HMN.out] at HZ ⊢
          clear o6 g6 HM5 HO5 K5 HB5 RN4
          go_wp2
          go_roundw
          case rel => exact ⟨j + 1, pl, by omega, by go_num, rfl, HLS.out, HZ.out⟩
          case measure => simp [intOf]; omega
        · have HM1 : Hid (mq L (j + 1) = M) := by unfold Hid; rw [HMD.out, if_neg hck]
          have dck : (chkM p != 0) = true := by simpa using hck
          go_wp2_with (refine wpList_load_mid rfl 30 _ rfl b (off + j * 23) rfl (plL p u) _ RN1.out Tryd.underlying30 rfl ZQ.out ?_)
          refine co.mono ?_
          rintro e w2 ⟨s2, rfl, r2, b2⟩
          have HZ : Hid (BL w (mq L (j + 1)) (.slice a5 pl c5) (.slice a6 ml c6) w2) := by unfold Hid; rw [HM1.out]; exact L1.out.kept b2
          have HLS : Hid (LS (mq L (j + 1)) ls) := by unfold Hid; rw [HM1.out]; exact HL1.out
          generalize frV (ofP p) s2 = fv
          generalize chkM p = k at *
          clear co r2 b2 hck L1 RN1
          go_wp2
          go_roundw
          case rel => exact ⟨j + 1, ls, by omega, by go_num, rfl, HLS.out, HZ.out⟩
          case measure => simp [intOf]; omega
      · have e1 : liM p = false := by simpa using hli
        rw [e1] at cl
        go_wp2_with (refine wpList_load_mid rfl 30 _ rfl b (off + j * 23) rfl (plL p u) _ RN.out Tryd.underlying30 rfl ZQ.out ?_)
        refine cl.mono ?_
        rintro e w1 ⟨rfl, b1⟩
        have B1 : Hid (Below w.heap.size w w1) := HB.out.trans (b1.mono HB.out.size)
        have aw := HAW.out w1 B1.out
        clear cl b1 HAW
        go_wp2_with fail
        refine aw.mono ?_
        rintro e w2 ⟨rfl, b2⟩
        have B2 : Hid (Below w.heap.size w w2) := B1.out.trans (b2.mono B1.out.size)
        clear aw b2
        go_wp2
        go_ret
        exact ⟨rfl, B2.out⟩
    · obtain rfl : j = n := by omega
      have OM := HOM.out j
      have PA := pts_all OM
      have hm40 : (mq L j).length ≤ 40 := by have := HML.out; omega
      have hpl : (pts (mq L j)).length ≤ 46000 := by have := HPL.out; omega
      have HFM : Hid (∀ q ∈ mq L j, FmI w q.1 q.2 ∧ Ok q.1) := fun q hq => ⟨HFO.out q (mq_mem hq).1, (mq_mem hq).2⟩
      have ca := allF_any _ (pts (mq L j)) wr (HTB.out.next HB.out) HB1.out.b.sl (by omega)
      rw [PA] at ca
      have CUT : Hid (∀ k, ls < k → k < (pts (mq L j)).length → ∀ W, Below w.heap.size w W → Sl W (.slice a5 (pts (mq L j)).length c5) (pts (mq L j)) → Calls Tryd.prog 9 #[.slice a5 k c5] W fun e w' => ∃ v', e = .returned (.tuple #[v', .int .i64 3]) ∧ RF w' W.heap.size v' [] ∧ Below W.heap.size W w') := fun k h1 h2 W hb hs => by
        have st := hs.take k (by omega)
        have := allF_any _ _ W (HTB.out.next hb) st (by rw [List.length_take]; omega)
        rw [HL1.out.2 k h1 h2] at this
        exact this
      have hls := HL1.out.1
      clear PA OM HFQ HFO HOM HL1 HML HPL HOJ
      generalize mq L j = M at *
      obtain ⟨pl, hpl'⟩ : ∃ pl, pl = (pts M).length := ⟨_, rfl⟩
      have HPN : Hid (pl = (pts M).length) := hpl'
      obtain ⟨ml, hml⟩ : ∃ ml, ml = M.length := ⟨_, rfl⟩
      have HMN : Hid (ml = M.length) := hml
      rw [← hpl'] at ca CUT HB1 hpl hls ⊢
      rw [← hml] at HB1 hm40 ⊢
      clear hpl' hml
      have dn : ((ml : Int) != (ml : Int)) = false := by simp
      go_wp2_with fail
      refine ca.mono ?_
      rintro e w2 ⟨v2, rfl, r2, b2⟩
      have L2 : Hid (BL w M (.slice a5 pl c5) (.slice a6 ml c6) w2) := HB1.out.kept b2
      have R2 : Hid (RF w2 wr.heap.size v2 (M.map Prod.fst)) := r2
      obtain ⟨a2, c2, rfl⟩ := r2.shape
      rw [List.length_map, ← HMN.out] at R2 ⊢
      clear ca r2 b2 HB1
      go_wp2_with fail
      clear dn
      go_loopw [15] (fun z wq => ∃ i : Nat, i ≤ ml ∧ z = .int .i64 i ∧ Below w2.heap.size w2 wq) (fun z _ => ml - (intOf z).toNat)
      case atStart => exact ⟨0, by omega, rfl, Below.refl _ _⟩
      case round =>
        rename_i wv _
        obtain ⟨i, hi, rfl, hbq⟩ := hrel
        have LQ : Hid (BL w M (.slice a5 pl c5) (.slice a6 ml c6) wr) := L2.out.kept hbq
        have HQ : Hid (Below w2.heap.size w2 wr) := hbq
        clear hbq
        by_cases hli : i < ml
        · have li2 : (i : Int) < (ml : Int) := by omega
          have li0 : (0 : Int) ≤ (i : Int) := by omega
          have hiM : i < M.length := by rw [← HMN.out]; exact hli
          obtain ⟨bm, om, rfl, hr⟩ := LQ.out.m.is.at i (by rw [List.length_map]; exact hiM)
          rw [atC_plc M i hiM] at hr
          obtain ⟨bg, sv, rfl, hc, hsv⟩ := (R2.out.below HQ.out).at i (by rw [List.length_map]; exact hiM)
          have eg : (M.map Prod.fst).getD i Fm.zero = (atF M i).1 := by rw [atF_eq M i hiM]; simp [List.getD, hiM]
          rw [eg] at hc hsv
          obtain ⟨hfm, hok⟩ := HFM.out _ (atF_mem M i hiM)
          generalize atF M i = q at *
          obtain ⟨p, u⟩ := q
          simp only at hfm hok hc hsv
          rw [spO_ok hok] at hsv
          have hnl := hfm.nl
          have FR : Hid (∀ x, From wr x → x.rangeAt bm (om + i * 23) (plL p u)) := fun x hx => range_kept hr hx
          have ZQ : Hid ((Tryd.prog.info? 30).map (·.size) = some (plL p u).length) := by unfold Hid; rw [plL_len hnl]; kernel_rfl
          have CS : Hid (∀ x, From wr x → Calls Tryd.prog 10 #[frV p sv, .agg (plL p u).toArray] x fun e w' => e = .returned (.bool true) ∧ Below x.heap.size x w') := fun x hx => sameF_any p sv u x hok.kk hok.nb hnl (fun _ => (RSp.is hsv).kept hx) ((hfm.sp.kept LQ.out.bel).kept hx) (by have := ok_sp hok; omega)
          have FC : Hid (∀ x, From wr x → x.cell? ⟨bg, i, none⟩ = some (frV p sv)) := fun x hx => (Below.cell hx (World.block_lt_of_cell? _ _ hc)).trans hc
          have HBW : Hid (∀ x, From wr x → Below w2.heap.size w2 x) := fun x hx => HQ.out.trans (Below.mono hx HQ.out.size)
          obtain ⟨ty, y, hy⟩ := frV_iface hok.kk sv
          rw [hy] at CS FC
          clear hr hc hsv eg hfm hok hnl hy hiM CUT LQ HQ
          go_wp2_with fail
          refine wp_region_held_drew (S := From wr) (by kernel_rfl) (Below.drew (Below.refl _ _)) (fun _ => ?_)
          refine wpAnyH_name (fun u0 hu0 => ?_)
          have bu0 : Below wr.heap.size wr u0 := by rw [hu0.out]; exact Below.drew (Below.refl _ _)
          refine wpAnyH_take (i := 0) (oi := { dst := some 88, op := Op.move (Operand.tmp 13), type := 39, pos := "own.go:38", after := #[], guard := none }) (v := ?vr1) rfl (by kernel_rfl) (by kernel_rfl) (by kernel_rfl) (fun _ _ _ h => h) (Or.inl ⟨by rfl, ?yr1⟩) bu0 ?rr1
          case yr1 => (intro w hSw; go_simp; try with_reducible rfl)
          try simp only [Act.put, List.setIfInBounds_toArray, List.set_cons_zero, List.set_cons_succ]
          refine wpAnyH_take (i := 1) (oi := { dst := some 89, op := Op.move (Operand.tmp 15), type := 3, pos := "own.go:38", after := #[], guard := none }) (v := ?vr2) rfl (by kernel_rfl) (by kernel_rfl) (by kernel_rfl) (fun _ _ _ h => h) (Or.inl ⟨by rfl, ?yr2⟩) bu0 ?rr2
          case yr2 => (intro w hSw; go_simp; try with_reducible rfl)
          try simp only [Act.put, List.setIfInBounds_toArray, List.set_cons_zero, List.set_cons_succ]
          refine wpAnyH_take (i := 2) (oi := { dst := some 90, op := Op.indexAddr 39 (Operand.tmp 88) (Operand.tmp 89), type := 0, pos := "own.go:38", after := #[{ on := 0, ground := Ground.data }, { on := 1, ground := Ground.data }], guard := none }) (v := ?vr3) rfl (by kernel_rfl) (by kernel_rfl) (by kernel_rfl) (fun _ _ _ h => h) (Or.inl ⟨by rfl, ?yr3⟩) bu0 ?rr3
          case yr3 => (intro w hSw; go_simp; try with_reducible rfl)
          try simp only [Act.put, List.setIfInBounds_toArray, List.set_cons_zero, List.set_cons_succ]
          refine wpAnyH_take (i := 3) (oi := { dst := some 91, op := Op.load 32 (Operand.tmp 90), type := 32, pos := "own.go:38", after := #[{ on := 2, ground := Ground.data }], guard := none }) (v := ?vr4) rfl (by kernel_rfl) (by kernel_rfl) (by kernel_rfl) (fun _ _ _ h => h) (Or.inl ⟨by rfl, ?yr4⟩) bu0 ?rr4
          case yr4 => (intro w hSw; have t0 := FC.out w hSw; go_simp; try with_reducible rfl)
          try simp only [Act.put, List.setIfInBounds_toArray, List.set_cons_zero, List.set_cons_succ]
          refine wpAnyH_take (i := 4) (oi := { dst := some 92, op := Op.move (Operand.tmp 6), type := 22, pos := "own.go:38", after := #[], guard := none }) (v := ?vr5) rfl (by kernel_rfl) (by kernel_rfl) (by kernel_rfl) (fun _ _ _ h => h) (Or.inl ⟨by rfl, ?yr5⟩) bu0 ?rr5
          case yr5 => (intro w hSw; go_simp; try with_reducible rfl)
          try simp only [Act.put, List.setIfInBounds_toArray, List.set_cons_zero, List.set_cons_succ]
          refine wpAnyH_take (i := 5) (oi := { dst := some 93, op := Op.move (Operand.tmp 15), type := 3, pos := "own.go:38", after := #[], guard := none }) (v := ?vr6) rfl (by kernel_rfl) (by kernel_rfl) (by kernel_rfl) (fun _ _ _ h => h) (Or.inl ⟨by rfl, ?yr6⟩) bu0 ?rr6
          case yr6 => (intro w hSw; go_simp; try with_reducible rfl)
          try simp only [Act.put, List.setIfInBounds_toArray, List.set_cons_zero, List.set_cons_succ]
          refine wpAnyH_take (i := 6) (oi := { dst := some 94, op := Op.indexAddr 22 (Operand.tmp 92) (Operand.tmp 93), type := 0, pos := "own.go:38", after := #[{ on := 4, ground := Ground.data }, { on := 5, ground := Ground.data }], guard := none }) (v := ?vr7) rfl (by kernel_rfl) (by kernel_rfl) (by kernel_rfl) (fun _ _ _ h => h) (Or.inl ⟨by rfl, ?yr7⟩) bu0 ?rr7
          case yr7 => (intro w hSw; go_simp; try with_reducible rfl)
          try simp only [Act.put, List.setIfInBounds_toArray, List.set_cons_zero, List.set_cons_succ]
          refine wpAnyH_take (i := 7) (oi := { dst := some 95, op := Op.load 30 (Operand.tmp 94), type := 30, pos := "own.go:38", after := #[{ on := 6, ground := Ground.data }], guard := none }) (v := .agg (plL p u).toArray) rfl (by kernel_rfl) (by kernel_rfl) (by kernel_rfl) (fun _ _ _ h => h) (yieldsIf_load_mid (by rfl) 30 _ rfl bm (om + i * 23) rfl (plL p u) _ (fun x hx => FR.out x hx) Tryd.underlying30 rfl ZQ.out) bu0 ?_
          try simp only [Act.put, List.setIfInBounds_toArray, List.set_cons_zero, List.set_cons_succ]
          refine wpAnyH_ready (rs := [8]) (by kernel_rfl) (by simp) ?_
          refine AllReadyH.cons (o := { dst := some 96, op := Op.call { callee := Callee.value (Operand.func 10), args := #[Operand.tmp 91, Operand.tmp 95], argTypes := #[32, 30] }, type := 4, pos := "own.go:38", after := #[{ on := 3, ground := Ground.data }, { on := 7, ground := Ground.data }], guard := none }) rfl (fun KK hKK => ?_) ?_
          · have csu9 := CS.out _ bu0
            go_simp
            refine csu9.mono ?_
            rintro e u9' ⟨rfl, bu9'⟩
            (try go_wp2_with fail)
            refine hKK.out _ _ (bu0.trans (Below.mono (bu9') bu0.size)) (fun _ => ?_)
            clear hKK KK
            try simp only [Act.put, List.setIfInBounds_toArray, List.set_cons_zero, List.set_cons_succ]
            refine wpAnyH_name (fun u9 hu9 => ?_)
            have bu9 : Below wr.heap.size wr u9 := by rw [hu9.out]; exact (bu0.trans (Below.mono (bu9') bu0.size))
            refine wpAnyH_take (i := 9) (oi := { dst := some 97, op := Op.unOp UnOp.not 4 (Operand.tmp 96), type := 4, pos := "own.go:38", after := #[{ on := 8, ground := Ground.data }], guard := none }) (v := ?vr10) rfl (by kernel_rfl) (by kernel_rfl) (by kernel_rfl) (fun _ _ _ h => h) (Or.inl ⟨by rfl, ?yr10⟩) bu9 ?rr10
            case yr10 => (intro w hSw; go_simp; try with_reducible rfl)
            try simp only [Act.put, List.setIfInBounds_toArray, List.set_cons_zero, List.set_cons_succ]
            refine wpAnyH_done (by kernel_rfl) ?_ _
            have BZ : Hid (Below w2.heap.size w2 u9) := HBW.out _ bu9
            clear FC FR CS
            go_wp2
            go_roundw
            case rel => exact ⟨i + 1, by omega, by go_num, BZ.out⟩
            case measure => simp [intOf]; omega
          exact AllReadyH.nil
        · obtain rfl : i = ml := by omega
          have SQ := LQ.out.b.sl
          have k1 : pl ≤ c5 := by
            obtain ⟨_, _, e9, h9, _⟩ := SQ
            cases e9
            rw [HPN.out]
            exact h9
          by_cases hsm : pl < ls + 2
          · have t1 : (pl : Int) < (ls : Int) + 2 := by omega
            have y1 : IntKind.i64.wrap ((ls : Int) + 2) = (ls : Int) + 2 := by rw [IntKind.wrap_i64]; omega
            have y1' : wrap64 ((ls : Int) + 2) = (ls : Int) + 2 := by unfold wrap64; omega
            have aw := HAW.out wr LQ.out.bel
            clear SQ k1 CUT HAW
            go_wp2_with fail
            refine aw.mono ?_
            rintro e w3 ⟨rfl, b3⟩
            have B3 : Hid (Below w.heap.size w w3) := LQ.out.bel.trans (b3.mono LQ.out.bel.size)
            clear aw b3
            go_wp2
            go_ret
            exact ⟨rfl, B3.out⟩
          · have t1 : ¬ (pl : Int) < (ls : Int) + 2 := by omega
            have t2 : ¬ (pl : Int) + 1 < (ls : Int) + 2 + 1 := by omega
            obtain ⟨d, hd⟩ : ∃ d : Nat, pl = ls + 1 + d := ⟨pl - ls - 1, by omega⟩
            have hd0 : 0 < d := by omega
            have e4 : (pl : Int) - (ls : Int) = (d : Int) + 1 := by rw [hd]; push_cast; omega
            have e5 : (d : Int) + 1 - 1 = (d : Int) := by omega
            have dB : (0 : Int) < (d : Int) ∧ (d : Int) ≤ 46000 := ⟨by omega, by omega⟩
            have lB : (0 : Int) ≤ (ls : Int) ∧ (ls : Int) ≤ 46000 := ⟨by omega, by omega⟩
            have cB : (0 : Int) ≤ ct ∧ ct < 65536 := ⟨by omega, by omega⟩
            have y6 : ¬ (d : Int) = 0 := by omega
            have ect : ct = ((ct.toNat : Nat) : Int) := by omega
            obtain ⟨m, hm⟩ : ∃ m : Nat, m = ct.toNat % d := ⟨_, rfl⟩
            have hml' : m < d := by rw [hm]; exact Nat.mod_lt _ hd0
            have hrem : Int.tmod ct (d : Int) = (m : Int) := by rw [ect, ← Int.ofNat_tmod, hm]
            have hrem2 : ct % (d : Int) = (m : Int) := by
              rw [ect, hm]
              first | exact (Int.natCast_emod _ _).symm | exact (Int.ofNat_emod _ _).symm | rfl
            have HR1 : Hid (Int.tmod ct (d : Int) = (m : Int)) := hrem
            have HR2 : Hid (ct % (d : Int) = (m : Int)) := hrem2
            clear hm ect hrem hrem2
            have hk1 : ls < ls + 1 + m := by omega
            have hk2 : ls + 1 + m < pl := by omega
            have cc := CUT.out (ls + 1 + m) hk1 hk2 wr LQ.out.bel SQ
            have e7 : ((ls + 1 + m : Nat) : Int) = (ls : Int) + 1 + (m : Int) := by push_cast; rfl
            have mB : (0 : Int) ≤ (ls : Int) + 1 + (m : Int) ∧ (ls : Int) + 1 + (m : Int) ≤ 46000 := ⟨by omega, by omega⟩
            have z1 : ((ls + 1 + m : Nat) : Int) ≤ (c5 : Int) := by omega
            have z0 : (0 : Int) ≤ ((ls + 1 + m : Nat) : Int) := Int.natCast_nonneg _
            obtain ⟨dB0, dB1⟩ := dB
            obtain ⟨lB0, lB1⟩ := lB
            obtain ⟨cB0, cB1⟩ := cB
            obtain ⟨mB0, mB1⟩ := mB
            clear SQ CUT hd hd0 hml' k1 hk1 hk2 hsm t2 hpl hls hm40 hn ctb h2
            have Y7 := wrS (x := (ls : Int) + 1 + (m : Int)) (by omega) (by omega)
            rw [← e7] at Y7
            have Y7' : IntKind.i64.wrap ((ls : Int) + 1 + (m : Int)) = ((ls + 1 + m : Nat) : Int) ∧ wrap64 ((ls : Int) + 1 + (m : Int)) = ((ls + 1 + m : Nat) : Int) := by rw [← e7]; exact Y7
            have HY7 : Hid (IntKind.i64.wrap ((ls : Int) + 1 + (m : Int)) = ((ls + 1 + m : Nat) : Int) ∧ wrap64 ((ls : Int) + 1 + (m : Int)) = ((ls + 1 + m : Nat) : Int)) := Y7'
            clear Y7 Y7' e7 mB0 mB1
            have HY1 := Hid.mk' (wrS (x := (ls : Int) + 2) (by omega) (by omega))
            have HY2 := Hid.mk' (wrS (x := ct) (by omega) (by omega))
            have HY3 := Hid.mk' (wrS (x := (ls : Int) + 1) (by omega) (by omega))
            have HY5 := Hid.mk' (wrS (x := (d : Int)) (by omega) (by omega))
            have HY4 : Hid (IntKind.i64.wrap ((pl : Int) - (ls : Int)) = (d : Int) + 1 ∧ wrap64 ((pl : Int) - (ls : Int)) = (d : Int) + 1) := by unfold Hid; rw [e4]; exact wrS (by omega) (by omega)
            have HY6 : Hid (IntKind.i64.wrap ((d : Int) + 1 - 1) = (d : Int) ∧ wrap64 ((d : Int) + 1 - 1) = (d : Int)) := by unfold Hid; rw [e5]; exact HY5.out
            clear e4 e5 dB0 dB1 lB0 lB1 cB0 cB1
            generalize ls + 1 + m = kk at *
            have hrem := HR1.out
            have hrem2 := HR2.out
            have y1 := HY1.out.1
            have y2 := HY2.out.1
            have y3 := HY3.out.1
            have y4 := HY4.out.1
            have y5 := HY5.out.1
            have y5a := HY6.out.1
            have y7 := HY7.out.1
            go_wp2_with fail
            refine cc.mono ?_
            rintro e w3 ⟨v3, rfl, r3, b3⟩
            have B3 : Hid (Below w.heap.size w w3) := LQ.out.bel.trans (b3.mono LQ.out.bel.size)
            have aw := HAW.out w3 B3.out
            obtain ⟨a3, c3, rfl⟩ := r3.shape
            clear cc r3 b3 HAW hrem hrem2 y1 y2 y3 y4 y5 y5a y6 y7 z0 z1
            go_wp2_with fail
            refine aw.mono ?_
            rintro e w4 ⟨rfl, b4⟩
            have B4 : Hid (Below w.heap.size w w4) := B3.out.trans (b4.mono B3.out.size)
            clear aw b4
            go_wp2
            go_ret
            exact ⟨rfl, B4.out⟩

theorem contract (H : Type) (enc : TypeId × Value → H) (W : World) (base : Nat) (args : Array Value) (ds gs : List (DataW H)) (before : List MemPlace)
    (hval : ∀ (j : Nat) t v, Tryd.f3.params[j]? = some t → args[j]? = some v → Value.okWide Tryd.prog W .any base t v)
    (hW : DataW.Whole enc Tryd.prog Tryd.f3.params.toList Rows.frameBackSpec.vars false W args.toList ds gs before) (hL : laidMetH Tryd.prog Rows.frameBackRow.laid W)
    (hsz0 : (DataW.weightsEach Tryd.prog (Tryd.f3.params.toList ++ Rows.frameBackSpec.plain.varTypes Tryd.prog) (ds ++ gs)).all (· ≤ reachBytes) = true) :
    Calls Tryd.prog 3 args W fun e W' => ∃ v, e = .returned v ∧ Rows.frameBackSpec.post enc Tryd.prog Tryd.f3 false true false false W args v W' := by
  have hW' := hW
  obtain ⟨p, q, hA0, hV, rfl, hfz, hnd⟩ := hW
  have hA : DataW.TrodAll enc Tryd.prog W 0 (fun _ => true) true Tryd.f3.params.toList args.toList ds p := hA0
  rw [Tryd.params3] at hA hval hsz0
  obtain ⟨v0, vs0, d0, ds0, p0, q0, hargs, rfl, rfl, h0, r0⟩ := trodAll_cons hA
  obtain ⟨v1, vs1, d1, ds1, p1, q1, rfl, rfl, rfl, h1, r1⟩ := trodAll_cons r0
  obtain ⟨rfl, rfl, rfl⟩ := trodAll_nil r1
  obtain rfl : args = #[v0, v1] := by cases args; simp_all
  obtain ⟨rfl, rfl⟩ := trodVars_none hV
  have k0 := h0
  have lt0 : ∀ x ∈ p0, x.block < W.heap.size := by obtain ⟨m, hm⟩ := k0; exact DataW.trod_lt m _ _ _ hm
  obtain ⟨L0, w0⟩ := fms_in (hval 0 22 v0 rfl rfl) h0
  obtain ⟨a1, rfl, rfl, rfl, w1⟩ := open_int Tryd.underlying23 (hval 1 23 v1 rfl rfl) h1
  clear hA0
  refine (walk v0 L0 a1 W (tb_of hL) w0 w1).mono fun e W' ⟨he, bel⟩ => ?_
  subst he
  exact ⟨_, rfl, _, _, _, [], _, [], hW', trodAll_mk1 (shut_bool Tryd.underlying4 _), (trodAll_cons_mk (Below.trod laidOut (by kernel_rfl) (of_decide_eq_true (by kernel_rfl)) k0 bel lt0) (trodAll_cons_mk (shut_int Tryd.underlying23 w1) trodAll_mk0)), rfl, bel.frame _, fun h => by cases h⟩

theorem laid_met (os : Os) : laidMet Tryd.prog Rows.frameBackRow.laid (({ World.holding Tryd.prog os ⟨#[], #[], []⟩ with heap := (((World.holding Tryd.prog os ⟨#[], #[], []⟩).heap.modify 0 (fun
      | .cells _ t frozen => .cells shpT t frozen
      | o => o)).modify 1 (fun
      | .cells _ t frozen => .cells widT t frozen
      | o => o)) } : World).forCall (fun _ _ => 0) ⟨#[], #[.slice none 0 0, .int .u16 0], []⟩).memory :=
  laidMet_of_run' 8 (by kernel_rfl) (by kernel_rfl)
theorem reads (os : Os) {H : Type} (enc : TypeId × Value → H) : ∃ places, DataW.whole enc Tryd.prog (({ World.holding Tryd.prog os ⟨#[], #[], []⟩ with heap := (((World.holding Tryd.prog os ⟨#[], #[], []⟩).heap.modify 0 (fun
      | .cells _ t frozen => .cells shpT t frozen
      | o => o)).modify 1 (fun
      | .cells _ t frozen => .cells widT t frozen
      | o => o)) } : World).forCall (fun _ _ => 0) ⟨#[], #[.slice none 0 0, .int .u16 0], []⟩).memory Tryd.f3.params.toList Rows.frameBackSpec.vars false #[Value.slice none 0 0, .int .u16 0].toList 8 = some ([.nil, .lit (.int .u16 0)], [], places) :=
  ⟨[], by kernel_rfl⟩

set_option maxRecDepth 100000 in
theorem lifted (os : Os) (started : os.Started) (H : Type) (enc : TypeId × Value → H) (F : Stop.Interp) :
    ReturnsInHanded {} Tryd.checked os 3 .any ((OpenSpec.ofChange Rows.frameBackSpec).preRow enc Tryd.prog Tryd.f3 Rows.frameBackRow.domain false Rows.frameBackRow.laid) (((OpenSpec.ofChange Rows.frameBackSpec).at F).post enc Tryd.prog Tryd.f3 false true false false) := by
  obtain ⟨places, hx⟩ := reads os enc
  refine returnsInHanded_of_row (C := Tryd.checked) (s := OpenSpec.ofChange Rows.frameBackSpec) own started (by kernel_rfl) Tryd.func3
    (witness_row_at (enc := enc) (C := Tryd.checked) false ({ World.holding Tryd.prog os ⟨#[], #[], []⟩ with heap := (((World.holding Tryd.prog os ⟨#[], #[], []⟩).heap.modify 0 (fun
      | .cells _ t frozen => .cells shpT t frozen
      | o => o)).modify 1 (fun
      | .cells _ t frozen => .cells widT t frozen
      | o => o)) } : World) #[.slice none 0 0, .int .u16 0] rfl (by kernel_rfl) (by kernel_rfl) (by kernel_rfl)
      (OpenSpec.preRow_of_cond 8 hx (by kernel_rfl) (fun k hk => by cases hk) (by kernel_rfl) (laid_met os))) ?_
  intro W base args ds gs before hval hW _ _ hsz hL _ _
  exact contract H enc W base args ds gs before hval hW hL hsz

theorem said : Rows.FrameBackSaid :=
  OpenClaim.holds_of_cond 3 Tryd.f3 rfl rfl rfl rfl rfl rfl rfl ⟨rfl, rfl, rfl, rfl, rfl⟩ rfl rfl rfl rfl rfl (by kernel_rfl) Tryd.func3 (by kernel_rfl)
    (of_decide_eq_true (by kernel_rfl)) (by unfold Func.isWrapper; first | (rw [if_pos (by decide +kernel)]; kernel_rfl) | (rw [if_neg (by decide +kernel)]; exact ⟨rfl, rfl⟩))
    (fun os started H enc _ F => by rw [OpenClaim.pre_eq_preRow]; exact lifted os started H enc F)

theorem plain (f : FuncId) (fn : Func) (hf : Tryd.pinned.checked.prog.funcNamed "sumpter/sumpterlaw18.FrameBack" = some f) (hfn : Tryd.pinned.checked.prog.funcs[f]? = some fn) :
    true = Tryd.pinned.checked.prog.looks [] ∧ ∀ (j : Nat) t, fn.params[j]? = some t → Tryd.pinned.checked.prog.wantsStandIn t = false := by
  obtain rfl : f = 3 := Option.some.inj ((show Tryd.prog.funcNamed "sumpter/sumpterlaw18.FrameBack" = some 3 by kernel_rfl).symm.trans hf) |>.symm
  obtain rfl : fn = Tryd.f3 := (Option.some.inj (Tryd.func3.symm.trans hfn)).symm
  refine ⟨by kernel_rfl, fun j t ht => ?_⟩
  rw [Tryd.params3] at ht
  have hm : t ∈ [22, 23] := by simpa using Array.mem_of_getElem? ht
  have hall : ([22, 23].all fun u => !Tryd.prog.wantsStandIn u) = true := by kernel_rfl
  exact (show Tryd.prog.wantsStandIn t = false by simpa using List.all_eq_true.1 hall t hm)
end Go.Proofs.YthhghehnaopmhaaDoor.frameBack

namespace Go.Proofs.YthhghehnaopmhaaDoor
/-- The card of FrameBack. -/
theorem frameBack_card : Rows.FrameBackCardSaid :=
  Claim7.holds_tied_plain_at .later [] _ _ _ _ frameBack.said (fun _ h => by cases h) (by kernel_rfl) (fun _ h => by cases h) frameBack_row_tie rfl ⟨rfl, rfl⟩ (by kernel_rfl) rfl frameBack.plain (by kernel_rfl)
#print axioms frameBack_card
end Go.Proofs.YthhghehnaopmhaaDoor
