/-
  Flat; whether a frame's plain form is this one.
  Plain forms that came in.
  Plain forms that came in, whole.
  A slice of plain forms that came in.
-/
import Derived.Test.YtmplpdjkhdaniaaGreatDoorWbu
import Derived.Deep.Slices
import Derived.Test.YtmplpdjkhdaniaaGreatDoorWbj
namespace Go.Proofs.YtmplpdjkhdaniaaGreatDoor
open Go.RowKit Go.Shelf
set_option maxRecDepth 100000

set_option maxHeartbeats 4000000 in
theorem flatV_any (p : Fm) (sv : Value) (w : World) (hK : isK p.k = true) (hb : ¬ badF p) (hn : p.nc.length = 16) (hs : hS p.k = true → SSp w sv p.sp) (hl : p.sp.length ≤ 100000) :
    Calls Tryz.prog 31 #[frV p sv] w fun e w' => ∃ sv', e = .returned (.agg (plA p sv')) ∧ RSp w' w.heap.size sv' p.sp ∧ Below w.heap.size w w' := by
  obtain ⟨ty, y, hy⟩ := frV_iface hK sv
  obtain ⟨W1, hW1⟩ : ∃ W1, W1 = w.alloc (.cells #[.int .u8 0, .int .i64 0, .int .i64 0, .int .i64 0, .bool false, .string ⟨#[]⟩, .int .u8 0, .int .u8 0, .int .u8 0, .int .u8 0, .int .u8 0, .int .u8 0, .int .u8 0, .int .u8 0, .int .u8 0, .int .u8 0, .int .u8 0, .int .u8 0, .int .u8 0, .int .u8 0, .int .u8 0, .int .u8 0, .slice none 0 0] 33) := ⟨_, rfl⟩
  have b1 : Below w.heap.size w W1 := by rw [hW1]; exact al_below _ _
  have g1 : W1.heap[w.heap.size]? = some (.cells #[.int .u8 0, .int .i64 0, .int .i64 0, .int .i64 0, .bool false, .string ⟨#[]⟩, .int .u8 0, .int .u8 0, .int .u8 0, .int .u8 0, .int .u8 0, .int .u8 0, .int .u8 0, .int .u8 0, .int .u8 0, .int .u8 0, .int .u8 0, .int .u8 0, .int .u8 0, .int .u8 0, .int .u8 0, .int .u8 0, .slice none 0 0] 33 (0, 0)) := by rw [hW1]; exact heap_alloc_new _ _
  have cf := flatF_any p sv W1 hK hb hn (fun h => (hs h).kept b1) hl
  rw [hy] at cf ⊢
  have HB1 : Hid (Below w.heap.size w W1) := b1
  have HG1 : Hid (W1.heap[w.heap.size]? = some (.cells #[.int .u8 0, .int .i64 0, .int .i64 0, .int .i64 0, .bool false, .string ⟨#[]⟩, .int .u8 0, .int .u8 0, .int .u8 0, .int .u8 0, .int .u8 0, .int .u8 0, .int .u8 0, .int .u8 0, .int .u8 0, .int .u8 0, .int .u8 0, .int .u8 0, .int .u8 0, .int .u8 0, .int .u8 0, .int .u8 0, .slice none 0 0] 33 (0, 0))) := g1
  have HNL : Hid (p.nc.length = 16) := hn
  have HSZ : Hid (∀ v, (Tryz.prog.info? 33).map (·.size) = some (plA p v).size) := fun v => by rw [plA_size hn]; exact infoP
  have HON : Hid (∀ (a : Option Addr) (m c : Nat), (plA p (.slice a m c)).all (·.oneCell') = true) := fun a m c => all_oneCell_toArray (plL_one rfl)
  have HO23 : Hid (∀ v, (plA Fm.zero (.slice none 0 0)).size = (plA p v).size) := fun v => by rw [plA_size hn]; rfl
  clear b1 g1 hK hb hn hs hl hy
  go_enter Tryz.func31, Tryz.ntmps31
  go_upto_region 1 with fail
  rw [← hW1]
  clear hW1
  go_wp2_with fail
  refine cf.mono ?_
  rintro e w2 ⟨s2, rfl, r2, b2⟩
  obtain ⟨sa, sc, rfl, -, -, -⟩ := r2.is.shape
  have HG2 : Hid (w2.heap[w.heap.size]? = some (.cells #[.int .u8 0, .int .i64 0, .int .i64 0, .int .i64 0, .bool false, .string ⟨#[]⟩, .int .u8 0, .int .u8 0, .int .u8 0, .int .u8 0, .int .u8 0, .int .u8 0, .int .u8 0, .int .u8 0, .int .u8 0, .int .u8 0, .int .u8 0, .int .u8 0, .int .u8 0, .int .u8 0, .int .u8 0, .int .u8 0, .slice none 0 0] 33 (0, 0))) := blk_kept HG1.out b2 (blk_lt HG1.out)
  have HB2 : Hid (Below w.heap.size w w2) := HB1.out.trans (b2.mono HB1.out.size)
  have HR2 : Hid (RSp w2 w.heap.size (.slice sa p.sp.length sc) p.sp) := RSp.mono r2 HB1.out.size
  have HRZ : Hid (RSp (w2.setRow w.heap.size (plA p (.slice sa p.sp.length sc))) w.heap.size (.slice sa p.sp.length sc) p.sp) := HR2.out.keep (fun k cs hk hh => by rw [setRow_other _ _ _ _ (fun e => by rw [e, HG2.out] at hh; cases hh)]; exact hh)
  clear cf r2 b2
  go_wp2_with (refine wpList_store_row rfl 33 _ _ rfl w.heap.size (plA p (.slice sa p.sp.length sc)) rfl rfl 33 _ HG2.out (HSZ.out _) (HO23.out _) (HON.out _ _ _) (Hid.out ?_))
  unfold Hid
  go_wp2
  refine bodyPost_ret (v := .agg (plA p (.slice sa p.sp.length sc))) (results_cell_row rfl _ _ w.heap.size 33 (plA p (.slice sa p.sp.length sc)) (0, 0) _ rfl (setRow_heap _ _ _ _ _ _ HG2.out) Tryz.underlying33 rfl (HSZ.out _)) rfl ⟨_, rfl, HRZ.out, below_setRow HB2.out (Nat.le_refl _) _⟩
set_option maxHeartbeats 4000000 in
theorem sameF_any (p : Fm) (sv pv : Value) (w : World) (hK : isK p.k = true) (hb : ¬ badF p) (hn : p.nc.length = 16) (hs : hS p.k = true → SSp w sv p.sp) (hv : SSp w pv p.sp) (hl : p.sp.length ≤ 100000) :
    Calls Tryz.prog 9 #[frV p sv, .agg (plA p pv)] w fun e w' => e = .returned (.bool true) ∧ Below w.heap.size w w' := by
  obtain ⟨ty, y, hy⟩ := frV_iface hK sv
  obtain ⟨W1, hW1⟩ : ∃ W1, W1 = w.alloc (.cells (plA p pv) 25) := ⟨_, rfl⟩
  have b1 : Below w.heap.size w W1 := by rw [hW1]; exact al_below _ _
  have g1 : PF W1 w.heap.size 25 p pv := by rw [hW1]; exact PF.new w _ p pv
  have HB1 : Hid (Below w.heap.size w W1) := b1
  have FR : Hid (∀ x, From W1 x → x.rangeAt w.heap.size 0 (plL p pv)) := fun x hx => (g1.kept hx).range
  have CF : Hid (∀ x, From W1 x → Calls Tryz.prog 31 #[.iface ty y] x fun e w' => ∃ sv', e = .returned (.agg (plA p sv')) ∧ RSp w' x.heap.size sv' p.sp ∧ Below x.heap.size x w') := fun x hx => by
    have := flatV_any p sv x hK hb hn (fun h => ((hs h).kept b1).kept hx) hl
    rwa [hy] at this
  have CS : Hid (∀ x u, From W1 x → SSp x u p.sp → Calls Tryz.prog 30 #[.agg (plA p u), .agg (plA p pv)] x fun e w' => e = .returned (.bool true) ∧ Below x.heap.size x w') := fun x u hx h => rsameF_any p u pv x hn h ((hv.kept b1).kept hx) hl
  have HSL : Hid ((Tryz.prog.info? 25).map (·.size) = some (plL p pv).length) := by unfold Hid; rw [plL_len hn]; kernel_rfl
  rw [hy]
  clear b1 g1 hK hb hn hs hv hl hy
  go_enter Tryz.func9, Tryz.ntmps9
  go_upto_region 1 with fail
  rw [← hW1]
  clear hW1
  refine wp_region_held_drew (S := From W1) (by kernel_rfl) (Below.drew (Below.refl _ _)) (fun _ => ?_)
  refine wpAnyH_name (fun u0 hu0 => ?_)
  have bu0 : Below W1.heap.size W1 u0 := by rw [hu0.out]; exact Below.drew (Below.refl _ _)
  refine wpAnyH_take (i := 0) (oi := { dst := some 5, op := Op.move (Operand.tmp 0), type := 29, pos := "law.go:25", after := #[], guard := none }) (v := ?vr1) rfl (by kernel_rfl) (by kernel_rfl) (by kernel_rfl) (fun _ _ _ h => h) (Or.inl ⟨by rfl, ?yr1⟩) bu0 ?rr1
  case yr1 => (intro w hSw; go_simp; try with_reducible rfl)
  try simp only [Act.put, List.setIfInBounds_toArray, List.set_cons_zero, List.set_cons_succ]
  refine wpAnyH_take (i := 2) (oi := { dst := some 7, op := Op.load 25 (Operand.tmp 3), type := 25, pos := "law.go:25", after := #[], guard := none }) (v := .agg (plA p pv)) rfl (by kernel_rfl) (by kernel_rfl) (by kernel_rfl) (fun _ _ _ h => h) (yieldsIf_load_mid (by rfl) 25 _ rfl w.heap.size 0 rfl (plL p pv) _ (fun x hx => FR.out x hx) Tryz.underlying25 rfl HSL.out) bu0 ?_
  try simp only [Act.put, List.setIfInBounds_toArray, List.set_cons_zero, List.set_cons_succ]
  refine wpAnyH_ready (rs := [1]) (by kernel_rfl) (by simp) ?_
  refine AllReadyH.cons (o := { dst := some 6, op := Op.call { callee := Callee.value (Operand.func 31), args := #[Operand.tmp 5], argTypes := #[29] }, type := 33, pos := "law.go:25", after := #[{ on := 0, ground := Ground.data }], guard := none }) rfl (fun KK hKK => ?_) ?_
  · go_simp
    refine (CF.out _ bu0).mono ?_
    rintro e u3' ⟨vu3, rfl, ou3, bu3'⟩
    (try go_wp2_with fail)
    refine hKK.out _ _ (bu0.trans (Below.mono (bu3') bu0.size)) (fun _ => ?_)
    clear hKK KK
    try simp only [Act.put, List.setIfInBounds_toArray, List.set_cons_zero, List.set_cons_succ]
    refine wpAnyH_name (fun u3 hu3 => ?_)
    have bu3 : Below W1.heap.size W1 u3 := by rw [hu3.out]; exact (bu0.trans (Below.mono (bu3') bu0.size))
    have OO : Hid (SSp u3 vu3 p.sp) := by unfold Hid; rw [hu3.out]; exact RSp.is ou3
    refine wpAnyH_ready (rs := [3]) (by kernel_rfl) (by simp) ?_
    refine AllReadyH.cons (o := { dst := some 8, op := Op.call { callee := Callee.value (Operand.func 30), args := #[Operand.tmp 6, Operand.tmp 7], argTypes := #[25, 25] }, type := 4, pos := "law.go:25", after := #[{ on := 1, ground := Ground.data }, { on := 2, ground := Ground.data }, { on := 1, ground := Ground.chain }], guard := none }) rfl (fun KK hKK => ?_) ?_
    · have csu4 := CS.out _ _ bu3 OO.out
      go_simp
      refine csu4.mono ?_
      rintro e u4' ⟨rfl, bu4'⟩
      (try go_wp2_with fail)
      refine hKK.out _ _ (bu3.trans (Below.mono (bu4') bu3.size)) (fun _ => ?_)
      clear hKK KK
      try simp only [Act.put, List.setIfInBounds_toArray, List.set_cons_zero, List.set_cons_succ]
      refine wpAnyH_name (fun u4 hu4 => ?_)
      have bu4 : Below W1.heap.size W1 u4 := by rw [hu4.out]; exact (bu3.trans (Below.mono (bu4') bu3.size))
      refine wpAnyH_take (i := 4) (oi := { dst := some 4, op := Op.assign (Operand.tmp 8), type := 4, pos := "law.go:25", after := #[{ on := 3, ground := Ground.data }, { on := 3, ground := Ground.chain }, { on := 0, ground := Ground.phase }, { on := 1, ground := Ground.phase }, { on := 2, ground := Ground.phase }, { on := 3, ground := Ground.phase }], guard := none }) (v := ?vr5) rfl (by kernel_rfl) (by kernel_rfl) (by kernel_rfl) (fun _ _ _ h => h) (Or.inl ⟨by rfl, ?yr5⟩) bu4 ?rr5
      case yr5 => (intro w hSw; go_simp; try with_reducible rfl)
      try simp only [Act.put, List.setIfInBounds_toArray, List.set_cons_zero, List.set_cons_succ]
      refine wpAnyH_done (by kernel_rfl) ?_ _
      have BZ : Hid (Below w.heap.size w u4) := HB1.out.trans (Below.mono bu4 HB1.out.size)
      go_wp2
      go_ret
      exact ⟨rfl, BZ.out⟩
    exact AllReadyH.nil
  exact AllReadyH.nil
end Go.Proofs.YtmplpdjkhdaniaaGreatDoor
namespace Go.Proofs.YtmplpdjkhdaniaaGreatDoor
open Go.ChangeShapes Go.WideShapes Go.ChangeAt Go.RowKit Go.Deep
set_option maxRecDepth 100000

theorem cells27 : Tryz.prog.cellsOf 22 = 16 := by kernel_rfl
theorem cells28 : Tryz.prog.cellsOf 23 = 1 := by kernel_rfl
theorem cells4 : Tryz.prog.cellsOf 4 = 1 := by kernel_rfl
theorem cells30 : Tryz.prog.cellsOf 25 = 23 := by kernel_rfl
theorem cellsSp : Tryz.prog.cellsOf 89 = 2 := by kernel_rfl
/-- Spans that came in, in a cell. -/
theorem sps_trod {H : Type} {enc : TypeId × Value → H} {W : World} {fuel : Nat} {cs : List Value} {x : DataW H × List MemPlace}
    (h : DataW.trod enc Tryz.prog W 0 (fun _ => true) true fuel 23 cs = some x) : ∃ sv l, cs = [sv] ∧ SSp W sv l := by
  rcases open_slice Tryz.underlying23 h with ⟨hcs, _⟩ | ⟨a, len0, cap0, m, n, D, Pl, hcs, _, hl, hm, hmm, _, hall⟩
  · exact ⟨_, [], hcs, SSp.nil W⟩
  · simp only [if_true] at hmm
    have each : ∀ i, i < len0 → ∃ q : Sp, ∀ j v, (spc q)[j]? = some v → W.cell? (a.add (i * 2 + j)) = some v := by
      intro i hi
      obtain ⟨cs', h1, h2⟩ := hall i (by omega)
      rw [cellsSp] at h1
      obtain ⟨_, hlen, hcell⟩ := World.cells?_some h1
      obtain ⟨y0, y1, k, _, hl2, q0, q1⟩ := trod_struct2 Tryz.underlying89 h2
      obtain ⟨a0, e0, _, _⟩ := DataW.trod_int Tryz.underlying3 q0
      obtain ⟨a1, e1, _, _⟩ := DataW.trod_int Tryz.underlying3 q1
      refine ⟨(a0, a1), fun j v hv => ?_⟩
      have hj : j < 2 := (List.getElem?_eq_some_iff.1 hv).1
      have c0 := hcell j (by omega)
      rw [add_add] at c0
      rw [c0]
      have u0 := congrArg (·[0]?) e0
      have u1 := congrArg (·[0]?) e1
      simp only [List.getElem?_take, List.getElem?_drop, cells3] at u0 u1
      rcases (by omega : j = 0 ∨ j = 1) with rfl | rfl
      · have : v = .int .i64 a0 := by simpa [spc] using hv.symm
        rw [this]
        simpa using u0
      · have : v = .int .i64 a1 := by simpa [spc] using hv.symm
        rw [this]
        simpa using u1
    obtain ⟨q, hq⟩ := choose_lt each
    have hlen : ((List.range len0).map q).length = len0 := by simp
    refine ⟨_, (List.range len0).map q, hcs, ⟨some a, cap0, by rw [List.length_map, hlen], by rw [List.length_map, hlen]; exact hl, hm, (fun e => by cases e), spc_cl _, ?_⟩⟩
    rcases Nat.eq_zero_or_pos len0 with h0 | h0
    · subst h0; exact .inl rfl
    · obtain ⟨b, off, spot⟩ := a
      have hspot : spot = none := by simpa [Addr.add] using World.cell?_spot (hq 0 h0 0 _ rfl)
      subst hspot
      refine .inr ⟨b, off, rfl, fun i hi => ?_⟩
      rw [List.length_map, hlen] at hi
      have e : atC (((List.range len0).map q).map spc) i = spc (q i) := by simp [atC, List.getD, hi]
      rw [e]
      intro j v hv
      have := hq i hi j v hv
      rw [Addr.add_lit, ← Nat.add_assoc] at this
      exact this
/-- The sixteen bytes of a nonce. -/
theorem nc_trod {H : Type} {enc : TypeId × Value → H} {W : World} {fuel : Nat} {cs : List Value} {x : DataW H × List MemPlace}
    (h : DataW.trod enc Tryz.prog W 0 (fun _ => true) true fuel 22 cs = some x) (hsz : cs.length = 16) : ∃ nc : List Int, cs = nc.map (Value.int .u8) ∧ nc.length = 16 ∧ BB nc := by
  cases fuel with
  | zero => simp [DataW.trod] at h
  | succ m =>
    rw [DataW.trod_step] at h
    unfold DataW.trodStep at h
    simp only [Tryz.underlying22] at h
    rw [if_pos (by rw [cells27]; exact hsz)] at h
    simp only [Option.map_eq_some_iff] at h
    obtain ⟨ys, hy, _⟩ := h
    have cell : ∀ i, i < 16 → ∃ a : Int, cs[i]? = some (.int .u8 a) ∧ (Lit.int .u8 a).wf = true := fun i hi => by
      obtain ⟨y, hyi⟩ := mapM_each _ _ hy i (by simpa using hi)
      obtain ⟨a, ea, _, wa⟩ := DataW.trod_int Tryz.underlying5 hyi
      refine ⟨a, ?_, wa⟩
      rw [cells5, Nat.mul_one] at ea
      have h0 := congrArg (·[0]?) ea
      simpa [List.getElem?_take, List.getElem?_drop] using h0
    obtain ⟨q, hq⟩ := choose_lt cell
    refine ⟨(List.range 16).map q, ?_, by simp, fun i => ?_⟩
    · apply List.ext_getElem?
      intro i
      by_cases hi : i < 16
      · rw [(hq i hi).1]
        simp [hi]
      · rw [List.getElem?_eq_none (by omega), List.getElem?_eq_none (by simp; omega)]
    · rw [List.getD_eq_getElem?_getD, List.getElem?_map]
      by_cases hi : i < 16
      · rw [List.getElem?_range hi]
        have := bounds_u8 (hq i hi).2
        simp
        omega
      · rw [List.getElem?_eq_none (by simp; omega)]
        simp
end Go.Proofs.YtmplpdjkhdaniaaGreatDoor
namespace Go.Proofs.YtmplpdjkhdaniaaGreatDoor
open Go.ChangeShapes Go.WideShapes Go.ChangeAt Go.RowKit Go.Deep
set_option maxRecDepth 100000

theorem trod_struct8 {H : Type} {enc : TypeId × Value → H} {P : Program} {w : World} {base : Nat} {spare : Nat → Bool} {held : Bool} {t : TypeId} {f0 f1 f2 f3 f4 f5 f6 f7 : Field} {fuel : Nat} {cs : List Value} {x : DataW H × List MemPlace} (ht : P.underlying t = some (.struct #[f0, f1, f2, f3, f4, f5, f6, f7])) (h : DataW.trod enc P w base spare held fuel t cs = some x) :
    ∃ y0 y1 y2 y3 y4 y5 y6 y7 n, cs.length = P.cellsOf t ∧ DataW.trod enc P w base spare held n f0.type ((cs.drop f0.offset).take (P.cellsOf f0.type)) = some y0 ∧
      DataW.trod enc P w base spare held n f1.type ((cs.drop f1.offset).take (P.cellsOf f1.type)) = some y1 ∧ DataW.trod enc P w base spare held n f2.type ((cs.drop f2.offset).take (P.cellsOf f2.type)) = some y2 ∧
      DataW.trod enc P w base spare held n f3.type ((cs.drop f3.offset).take (P.cellsOf f3.type)) = some y3 ∧ DataW.trod enc P w base spare held n f4.type ((cs.drop f4.offset).take (P.cellsOf f4.type)) = some y4 ∧
      DataW.trod enc P w base spare held n f5.type ((cs.drop f5.offset).take (P.cellsOf f5.type)) = some y5 ∧ DataW.trod enc P w base spare held n f6.type ((cs.drop f6.offset).take (P.cellsOf f6.type)) = some y6 ∧
      DataW.trod enc P w base spare held n f7.type ((cs.drop f7.offset).take (P.cellsOf f7.type)) = some y7 := by
  obtain ⟨xs, n, _, rfl, hl, hlen, hf⟩ := DataW.trod_struct ht h
  match xs, hlen with
  | [y0, y1, y2, y3, y4, y5, y6, y7], _ => exact ⟨y0, y1, y2, y3, y4, y5, y6, y7, n, hl, by simpa using hf 0 f0 rfl, by simpa using hf 1 f1 rfl, by simpa using hf 2 f2 rfl, by simpa using hf 3 f3 rfl, by simpa using hf 4 f4 rfl, by simpa using hf 5 f5 rfl, by simpa using hf 6 f6 rfl, by simpa using hf 7 f7 rfl⟩
theorem nine (cs : List Value) (h : cs.length = 23) : ∃ v0 v1 v2 v3 v4 v5 r v22, cs = v0 :: v1 :: v2 :: v3 :: v4 :: v5 :: (r ++ [v22]) ∧ r.length = 16 := by
  match cs, h with
  | v0 :: v1 :: v2 :: v3 :: v4 :: v5 :: rest, h =>
    have hr : rest.length = 17 := by simpa using h
    have h1 : (rest.drop 16).length = 1 := by rw [List.length_drop, hr]
    match hd : rest.drop 16, h1 with
    | [v22], _ =>
      refine ⟨v0, v1, v2, v3, v4, v5, rest.take 16, v22, ?_, by rw [List.length_take, hr]; rfl⟩
      rw [← hd, List.take_append_drop]
/-- What a plain form that came in keeps: numbers of their types. -/
structure FmI (W : World) (p : Fm) (sv : Value) : Prop where
  k : 0 ≤ p.k ∧ p.k ≤ 255
  id : -9223372036854775808 ≤ p.id ∧ p.id ≤ 9223372036854775807
  n : -9223372036854775808 ≤ p.n ∧ p.n ≤ 9223372036854775807
  cd : -9223372036854775808 ≤ p.cd ∧ p.cd ≤ 9223372036854775807
  nl : p.nc.length = 16
  nb : BB p.nc
  sp : SSp W sv p.sp
theorem fm_trod {H : Type} {enc : TypeId × Value → H} {W : World} {fuel : Nat} {cs : List Value} {x : DataW H × List MemPlace}
    (h : DataW.trod enc Tryz.prog W 0 (fun _ => true) true fuel 25 cs = some x) : ∃ p sv, cs = plL p sv ∧ FmI W p sv := by
  obtain ⟨y0, y1, y2, y3, y4, y5, y6, y7, n, hl, h0, h1, h2, h3, h4, h5, h6, h7⟩ := trod_struct8 Tryz.underlying25 h
  rw [cells30] at hl
  obtain ⟨v0, v1, v2, v3, v4, v5, r, v22, rfl, hr⟩ := nine cs hl
  simp only [cells9, cells5, cells3, cells4, cells27, cells28] at h0 h1 h2 h3 h4 h5 h6 h7
  obtain ⟨k, e0, _, wk⟩ := DataW.trod_int Tryz.underlying5 h0
  obtain ⟨i, e1, _, wi⟩ := DataW.trod_int Tryz.underlying3 h1
  obtain ⟨m, e2, _, wm⟩ := DataW.trod_int Tryz.underlying3 h2
  obtain ⟨c, e3, _, wc⟩ := DataW.trod_int Tryz.underlying3 h3
  obtain ⟨b, e4, _⟩ := DataW.trod_bool Tryz.underlying4 h4
  obtain ⟨s, e5, _, hs⟩ := DataW.trod_string Tryz.underlying9 h5
  have e6 : ((v0 :: v1 :: v2 :: v3 :: v4 :: v5 :: (r ++ [v22])).drop 6).take 16 = r := by
    show (r ++ [v22]).take 16 = r
    exact List.take_left' hr
  rw [e6] at h6
  obtain ⟨nc, rfl, hn, hb⟩ := nc_trod h6 hr
  have e7 : ((v0 :: v1 :: v2 :: v3 :: v4 :: v5 :: (nc.map (Value.int .u8) ++ [v22])).drop 22).take 1 = [v22] := by
    show ((nc.map (Value.int .u8) ++ [v22]).drop 16).take 1 = [v22]
    rw [List.drop_left' hr]
    rfl
  rw [e7] at h7
  obtain ⟨sv, l, e8, hsp⟩ := sps_trod h7
  simp at e0 e1 e2 e3 e4 e5 e8
  subst e0 e1 e2 e3 e4 e5 e8
  have bk := bounds_u8 wk
  have bi := bounds_i64 wi
  have bm := bounds_i64 wm
  have bc := bounds_i64 wc
  exact ⟨⟨k, i, m, c, b, s, nc, l⟩, _, rfl, ⟨by show 0 ≤ k ∧ k ≤ 255; omega, by show _ ≤ i ∧ i ≤ _; omega, by show _ ≤ m ∧ m ≤ _; omega, by show _ ≤ c ∧ c ≤ _; omega, hn, hb, hsp⟩⟩
end Go.Proofs.YtmplpdjkhdaniaaGreatDoor
namespace Go.Proofs.YtmplpdjkhdaniaaGreatDoor
open Go.ChangeShapes Go.WideShapes Go.ChangeAt Go.RowKit Go.Deep
set_option maxRecDepth 100000

def plc (q : Fm × Value) : List Value := plL q.1 q.2
theorem FmI.kept {W W' : World} {p : Fm} {sv : Value} (h : FmI W p sv) (hb : Below W.heap.size W W') : FmI W' p sv := ⟨h.k, h.id, h.n, h.cd, h.nl, h.nb, h.sp.kept hb⟩
/-- Plain forms in a slice. -/
structure FQ (W : World) (v : Value) (l : List (Fm × Value)) : Prop where
  is : IS 23 W v (l.map plc)
  ok : ∀ q ∈ l, FmI W q.1 q.2
theorem FQ.kept {W W' : World} {v : Value} {l : List (Fm × Value)} (h : FQ W v l) (hb : Below W.heap.size W W') : FQ W' v l := ⟨h.is.kept hb, fun q hq => (h.ok q hq).kept hb⟩
end Go.Proofs.YtmplpdjkhdaniaaGreatDoor
