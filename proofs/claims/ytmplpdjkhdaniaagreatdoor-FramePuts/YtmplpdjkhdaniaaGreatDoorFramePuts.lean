/-
  Any plain form is the frame, with the bytes, that the document says, or it is told why not: texts of up to 1200 bytes, 70 spans.
-/
import Derived.Test.YtmplpdjkhdaniaaGreatDoorWbx
import Derived.Test.YtmplpdjkhdaniaaGreatDoorWbj
namespace Go.Proofs.YtmplpdjkhdaniaaGreatDoor.framePuts
open Go.ChangeShapes Go.WideShapes Go.ChangeAt Go.RowKit Go.Deep Go.ChangeMaps
set_option maxRecDepth 100000

theorem sl3 {w : World} {B : Nat} {v : Value} {l : List Sp} (h : RSp w B v l) : ∃ a n c, v = .slice a n c ∧ n = l.length := by
  obtain ⟨a, c, e, -⟩ := h.is.shape
  exact ⟨a, _, c, e, rfl⟩
set_option maxHeartbeats 16000000 in
theorem walk (v : Value) (L : Fm × Value) (w : World) (ht : Tb w) (h : PlnI w v L) :
    Calls Tryz.prog 3 #[v] w fun e w' => e = .returned (.bool true) ∧ Below w.heap.size w w' := by
  obtain ⟨p, u⟩ := L
  obtain ⟨hv, hi⟩ := h
  simp only at hv hi
  subst hv
  obtain ⟨W1, hW1⟩ : ∃ W1, W1 = w.alloc (.cells (plA p u) 25) := ⟨_, rfl⟩
  have b1 : Below w.heap.size w W1 := by rw [hW1]; exact al_below _ _
  have g1 : PF W1 w.heap.size 25 p u := by rw [hW1]; exact PF.new w _ p u
  have hn := hi.nl
  have FR : Hid (∀ W, From W1 W → W.rangeAt w.heap.size 0 (plL p u) ∧ PC W w.heap.size p u) := fun W hb => ⟨(g1.kept hb).range, (g1.kept hb).pc hn⟩
  have HSL : Hid ((Tryz.prog.info? 25).map (·.size) = some (plL p u).length) := by unfold Hid; rw [plL_len hn]; kernel_rfl
  have HB1 : Hid (Below w.heap.size w W1) := b1
  have HTB : Hid (∀ W, From W1 W → Tb W) := fun W hb => ht.next (b1.trans (hb.mono b1.size))
  have HAW : Hid (∀ W, From W1 W → Calls Tryz.prog 5 #[] W fun e w' => e = .returned (.bool true) ∧ Below W.heap.size W w') := fun W hb => awake_any W (HTB.out W hb)
  have cl := light_any p u W1 hn (hi.sp.kept b1)
  have HH : Hid (From W1 W1) := Below.refl _ _
  clear b1 g1 ht
  go_enter Tryz.func3, Tryz.ntmps3
  go_upto_region 1 with fail
  rw [← hW1]
  clear hW1
  go_wp2_with (refine wpList_load_mid rfl 25 _ rfl w.heap.size 0 rfl (plL p u) _ (FR.out _ HH.out).1 Tryz.underlying25 rfl HSL.out (Hid.out ?_))
  unfold Hid
  go_wp2_with fail
  refine cl.mono ?_
  rintro e w2 ⟨rfl, b9⟩
  have Hw2 : Hid (From W1 w2) := HH.out.trans (b9.mono HH.out.size)
  clear cl b9
  cases hl : liM p with
  | false =>
    have ca := HAW.out w2 Hw2.out
    clear hi hn hl
    go_wp2_with fail
    refine ca.mono ?_
    rintro e w3 ⟨rfl, b9⟩
    have Hw3 : Hid (From W1 w3) := Hw2.out.trans (b9.mono Hw2.out.size)
    clear ca b9
    have HBZ : Hid (Below w.heap.size w w3) := HB1.out.trans (Hw3.out.mono HB1.out.size)
    go_wp2
    go_ret
    exact ⟨rfl, HBZ.out⟩
  | true =>
    obtain ⟨fi0, hl1, hl2⟩ := vfmi_fi hi hl
    have HFI : Hid (∀ W, From W1 W → FI W p u) := fun W hb => (fi0.kept HB1.out).kept hb
    have HFK : Hid (FK p) := fi0.k
    have HN : Hid (p.nc.length = 16) := hn
    have HL1 : Hid (p.sp.length ≤ 1000) := hl1
    have HL2 : Hid (p.tx.size ≤ 100000) := hl2
    have co := ofF_any p u w2 (HTB.out w2 Hw2.out) (HFI.out w2 Hw2.out)
    clear hi hl fi0 hl1 hl2 hn
    go_wp2_with (refine wpList_load_mid rfl 25 _ rfl w.heap.size 0 rfl (plL p u) _ (FR.out _ Hw2.out).1 Tryz.underlying25 rfl HSL.out (Hid.out ?_))
    unfold Hid
    go_wp2_with fail
    refine co.mono ?_
    rintro e w3 ⟨s3, rfl, r3, b9⟩
    have Hw3 : Hid (From W1 w3) := Hw2.out.trans (b9.mono Hw2.out.size)
    clear co b9
    have cp := rputF_any p u w3 (HFI.out w3 Hw3.out) HL1.out HL2.out
    by_cases hc : chkM p = 0
    · have hok := chkM_ok hc
      have eo : ofP p = p := by unfold ofP; rw [if_pos hc]
      rw [eo, vspO_ok hok] at r3
      rw [eo]
      have HOK : Hid (Ok p) := hok
      have HR3 : Hid (RSp w3 w2.heap.size s3 p.sp) := r3
      have epr : putR p = putM p := by unfold putR; rw [if_pos hc]
      have HPR : Hid (putR p = putM p) := epr
      have HC : Hid (chkM p = 0) := hc
      rw [hc, epr] at cp
      rw [hc]
      obtain ⟨ty, y, hy⟩ := frV_iface hok.kk s3
      have HY : Hid (frV p s3 = .iface ty y) := hy
      rw [hy]
      clear hok eo r3 epr hc hy
      go_wp2_with (refine wpList_load_mid rfl 25 _ rfl w.heap.size 0 rfl (plL p u) _ (FR.out _ Hw3.out).1 Tryz.underlying25 rfl HSL.out (Hid.out ?_))
      unfold Hid
      go_wp2_with fail
      refine cp.mono ?_
      rintro e w4 ⟨v4, rfl, s4, b9⟩
      have Hw4 : Hid (From W1 w4) := Hw3.out.trans (b9.mono Hw3.out.size)
      have H34 : Hid (From w3 w4) := b9
      have HS4 : Hid (Sl w4 v4 (putM p)) := s4
      obtain ⟨a4, n4, c4, rfl, -⟩ := sl_shp s4
      clear cp b9 s4
      have cc := checkF_any p u w4 (HTB.out w4 Hw4.out) (HFI.out w4 Hw4.out)
      rw [HC.out] at cc
      go_wp2_with (refine BigFrame.wpList_want (by rfl) fun KK hKK => wp_load_mid 25 _ rfl w.heap.size 0 rfl (plL p u) _ (FR.out _ Hw4.out).1 Tryz.underlying25 rfl HSL.out (hKK _ _ (Hid.out ?_)))
      unfold Hid
      go_wp2_with fail
      refine cc.mono ?_
      rintro e w5 ⟨rfl, b9⟩
      have Hw5 : Hid (From W1 w5) := Hw4.out.trans (b9.mono Hw4.out.size)
      have H35 : Hid (From w3 w5) := H34.out.trans (b9.mono H34.out.size)
      have HS5 : Hid (Sl w5 (.slice a4 n4 c4) (putM p)) := HS4.out.kept b9
      clear cc b9
      have cp := putF_any p s3 w5 (HTB.out w5 Hw5.out) (vok_fp HFK.out HOK.out ((HR3.out.is).kept H35.out)) ⟨ty, y, HY.out⟩
      rw [HC.out, HPR.out, HY.out] at cp
      go_wp2_with fail
      refine cp.mono ?_
      rintro e w6 ⟨v6, rfl, o6, b9⟩
      have Hw6 : Hid (From W1 w6) := Hw5.out.trans (b9.mono Hw5.out.size)
      have H36 : Hid (From w3 w6) := H35.out.trans (b9.mono H35.out.size)
      have HS6 : Hid (Sl w6 (.slice a4 n4 c4) (putM p)) := HS5.out.kept b9
      have HT6 : Hid (Sl w6 v6 (putM p)) := o6.sl
      obtain ⟨a6, n6, c6, rfl, -⟩ := o6.shp
      clear cp b9 o6
      have cq := streamF_any p s3 w6 HOK.out.kk
      obtain ⟨EE, hE⟩ : ∃ EE : Int, EE = if p.k = 3 then 0 else 9 := ⟨_, rfl⟩
      rw [HY.out, ← hE] at cq
      have HE : Hid (EE = if p.k = 3 then 0 else 9) := hE
      clear hE
      go_wp2_with fail
      refine cq.mono ?_
      rintro e w7 ⟨xi, xn, xf, xt, rfl, b9⟩
      have Hw7 : Hid (From W1 w7) := Hw6.out.trans (b9.mono Hw6.out.size)
      have H67 : Hid (From w6 w7) := b9
      clear cq b9
      obtain ⟨W8, hW8⟩ : ∃ W8, W8 = w7.alloc (.cells #[.int .i64 0, .int .i64 0, .bool false, .string ⟨#[]⟩] 42) := ⟨_, rfl⟩
      obtain ⟨W9, hW9⟩ : ∃ W9, W9 = W8.setRow w7.heap.size #[.int .i64 xi, .int .i64 xn, .bool xf, .string xt] := ⟨_, rfl⟩
      have b8 : Below w7.heap.size w7 W8 := by rw [hW8]; exact al_below _ _
      have b9 : Below w7.heap.size w7 W9 := by rw [hW9]; exact below_setRow b8 (Nat.le_refl _) _
      have HG8 : Hid ((w7.alloc (.cells #[.int .i64 0, .int .i64 0, .bool false, .string ⟨#[]⟩] 42)).heap[w7.heap.size]? = some (.cells #[.int .i64 0, .int .i64 0, .bool false, .string ⟨#[]⟩] 42 (0, 0))) := heap_alloc_new _ _
      have Hw9 : Hid (From W1 W9) := Hw7.out.trans (b9.mono Hw7.out.size)
      have H69 : Hid (From w6 W9) := H67.out.trans (b9.mono H67.out.size)
      have H39 : Hid (From w3 W9) := H36.out.trans (H69.out.mono H36.out.size)
      have hinf : Hid ((Tryz.prog.info? 42).map (·.size) = some 4) := by unfold Hid; kernel_rfl
      have HONE : Hid (#[Value.int .i64 xi, .int .i64 xn, .bool xf, .string xt].all (·.oneCell') = true) := all_oneCell_toArray (cs := [Value.int .i64 xi, .int .i64 xn, .bool xf, .string xt]) fun v hv => by
        simp only [List.mem_cons, List.not_mem_nil, or_false] at hv
        rcases hv with rfl | rfl | rfl | rfl <;> rfl
      clear b8 b9
      go_wp2_with (refine wpList_store_row rfl 42 _ _ rfl w7.heap.size #[.int .i64 xi, .int .i64 xn, .bool xf, .string xt] rfl rfl 42 _ HG8.out hinf.out rfl HONE.out (Hid.out ?_))
      unfold Hid
      rw [← hW8, ← hW9]
      clear hW8 hW9 HG8 hinf HONE
      generalize w7.heap.size = hq at *
      have CS : Hid (∀ W, From W9 W → Calls Tryz.prog 9 #[.iface ty y, .agg (plA p u)] W fun e w' => e = .returned (.bool true) ∧ Below W.heap.size W w') := fun W hb => by
        have h3 : From w3 W := H39.out.trans (hb.mono H39.out.size)
        have hw : From W1 W := Hw9.out.trans (hb.mono Hw9.out.size)
        have := sameF_any p s3 u W HOK.out.kk HOK.out.nb HN.out (fun _ => HR3.out.is.kept h3) (HFI.out W hw).s (by have := HL1.out; omega)
        rwa [HY.out] at this
      have CA : Hid (∀ W, From W9 W → Calls Tryz.prog 12 #[.iface ty y] W fun e w' => e = .returned (.bool (askM p.k)) ∧ Below W.heap.size W w') := fun W hb => by
        have := asksF_any p s3 W HOK.out.kk (by obtain ⟨a, n, c, e, -⟩ := sl3 HR3.out; exact ⟨a, n, c, e⟩)
        rwa [HY.out] at this
      have CR : Hid (∀ W, From W9 W → Calls Tryz.prog 13 #[.agg (plA p u)] W fun e w' => e = .returned (.bool (askM p.k)) ∧ Below W.heap.size W w') := fun W _ => rasksF_any p u W HN.out
      have CW : Hid (∀ W, From W9 W → Calls Tryz.prog 5 #[] W fun e w' => e = .returned (.bool true) ∧ Below W.heap.size W w') := fun W hb => HAW.out W (Hw9.out.trans (hb.mono Hw9.out.size))
      have FX : Hid (∀ W, From W9 W → W.rangeAt w.heap.size 0 (plL p u) ∧ PC W w.heap.size p u) := fun W hb => FR.out W (Hw9.out.trans (hb.mono Hw9.out.size))
      have FS : Hid (∀ W, From W9 W → (convert 34 9 (.slice a6 n6 c6)).run Tryz.prog W = .ok (.string (strB (putM p))) W ∧ (convert 34 9 (.slice a4 n4 c4)).run Tryz.prog W = .ok (.string (strB (putM p))) W) := fun W hb => by
        have h6 : From w6 W := H69.out.trans (hb.mono H69.out.size)
        exact ⟨(HT6.out.kept h6).conv, (HS6.out.kept h6).conv⟩
      have HBW : Hid (∀ W, From W9 W → Below w.heap.size w W) := fun W hb => HB1.out.trans ((Hw9.out.trans (hb.mono Hw9.out.size)).mono HB1.out.size)
      generalize strB (putM p) = TX at *
      generalize askM p.k = AK at *
      clear HTB HAW HFI HFK HL1 HL2 HOK HR3 HPR HC HY Hw2 Hw3 Hw4 Hw5 Hw6 Hw7 Hw9 H34 H35 H36 H67 H69 H39 HS4 HS5 HS6 HT6
      by_cases h3 : p.k = 3
      · obtain rfl : EE = 0 := by rw [HE.out, if_pos h3]
        have HK3 : Hid (p.k = 3) := h3
        clear h3
        go_upto_region 11 with fail
        refine wp_region_held_drew (S := From W9) (by kernel_rfl) (Below.drew (Below.refl _ _)) (fun _ => ?_)
        refine wpAnyH_name (fun u0 hu0 => ?_)
        have bu0 : Below W9.heap.size W9 u0 := by rw [hu0.out]; exact Below.drew (Below.refl _ _)
        refine wpAnyH_take (i := 0) (oi := { dst := some 52, op := Op.move (Operand.tmp 3), type := 29, pos := "law.go:42", after := #[], guard := none }) (v := ?va1) rfl (by kernel_rfl) (by kernel_rfl) (by kernel_rfl) (fun _ _ _ h => h) (Or.inl ⟨by rfl, ?ya1⟩) bu0 ?ra1
        case ya1 => (intro w hSw; go_simp; try with_reducible rfl)
        try simp only [Act.put, List.setIfInBounds_toArray, List.set_cons_zero, List.set_cons_succ]
        refine wpAnyH_take (i := 1) (oi := { dst := some 53, op := Op.load 25 (Operand.tmp 1), type := 25, pos := "law.go:42", after := #[], guard := none }) (v := .agg (plA p u)) rfl (by kernel_rfl) (by kernel_rfl) (by kernel_rfl) (fun _ _ _ h => h) (yieldsIf_load_mid (by rfl) 25 _ rfl w.heap.size 0 rfl (plL p u) _ (fun x hx => (FX.out x hx).1) Tryz.underlying25 rfl HSL.out) bu0 ?_
        try simp only [Act.put, List.setIfInBounds_toArray, List.set_cons_zero, List.set_cons_succ]
        refine wpAnyH_ready (rs := [2]) (by kernel_rfl) (by simp) ?_
        refine AllReadyH.cons (o := { dst := some 54, op := Op.call { callee := Callee.value (Operand.func 9), args := #[Operand.tmp 52, Operand.tmp 53], argTypes := #[29, 25] }, type := 4, pos := "law.go:42", after := #[{ on := 0, ground := Ground.data }, { on := 1, ground := Ground.data }], guard := none }) rfl (fun KK hKK => ?_) ?_
        · go_simp
          refine (CS.out _ bu0).mono ?_
          rintro e u3' ⟨rfl, bu3'⟩
          (try go_wp2_with fail)
          refine hKK.out _ _ (bu0.trans (Below.mono (bu3') bu0.size)) (fun _ => ?_)
          clear hKK KK
          try simp only [Act.put, List.setIfInBounds_toArray, List.set_cons_zero, List.set_cons_succ]
          refine wpAnyH_name (fun u3 hu3 => ?_)
          have bu3 : Below W9.heap.size W9 u3 := by rw [hu3.out]; exact (bu0.trans (Below.mono (bu3') bu0.size))
          refine wpAnyH_take (i := 3) (oi := { dst := some 55, op := Op.move (Operand.tmp 54), type := 4, pos := "law.go:42", after := #[{ on := 2, ground := Ground.data }, { on := 2, ground := Ground.chain }], guard := none }) (v := ?va4) rfl (by kernel_rfl) (by kernel_rfl) (by kernel_rfl) (fun _ _ _ h => h) (Or.inl ⟨by rfl, ?ya4⟩) bu3 ?ra4
          case ya4 => (intro w hSw; go_simp; try with_reducible rfl)
          try simp only [Act.put, List.setIfInBounds_toArray, List.set_cons_zero, List.set_cons_succ]
          refine wpAnyH_take (i := 4) (oi := { dst := some 56, op := Op.move (Operand.tmp 8), type := 30, pos := "law.go:42", after := #[{ on := 3, ground := Ground.guard }], guard := some (3, true) }) (v := ?va5) rfl (by kernel_rfl) (by kernel_rfl) (by kernel_rfl) (fun _ _ _ h => h) (Or.inl ⟨by rfl, ?ya5⟩) bu3 ?ra5
          case ya5 => (intro w hSw; go_simp; try with_reducible rfl)
          try simp only [Act.put, List.setIfInBounds_toArray, List.set_cons_zero, List.set_cons_succ]
          refine wpAnyH_take (i := 5) (oi := { dst := some 57, op := Op.binOp BinOp.eql 30 (Operand.tmp 56) (Operand.const (Value.int IntKind.i64 0)) 30, type := 4, pos := "law.go:42", after := #[{ on := 4, ground := Ground.data }, { on := 3, ground := Ground.guard }], guard := some (3, true) }) (v := .bool true) rfl (by kernel_rfl) (by kernel_rfl) (by kernel_rfl) (fun _ _ _ h => h) (Or.inl ⟨by rfl, ?ya6⟩) bu3 ?ra6
          case ya6 => (intro w hSw; go_simp; try with_reducible rfl)
          try simp only [Act.put, List.setIfInBounds_toArray, List.set_cons_zero, List.set_cons_succ]
          refine wpAnyH_take (i := 6) (oi := { dst := some 58, op := Op.pick (Operand.tmp 55) (Operand.tmp 57) (Operand.const (Value.bool false)), type := 4, pos := "law.go:42", after := #[{ on := 3, ground := Ground.data }, { on := 5, ground := Ground.data }], guard := none }) (v := ?va7) rfl (by kernel_rfl) (by kernel_rfl) (by kernel_rfl) (fun _ _ _ h => h) (Or.inl ⟨by rfl, ?ya7⟩) bu3 ?ra7
          case ya7 => (intro w hSw; go_simp; try with_reducible rfl)
          try simp only [Act.put, List.setIfInBounds_toArray, List.set_cons_zero, List.set_cons_succ]
          refine wpAnyH_take (i := 7) (oi := { dst := some 59, op := Op.move (Operand.tmp 58), type := 4, pos := "law.go:42", after := #[{ on := 6, ground := Ground.data }, { on := 3, ground := Ground.chain }], guard := none }) (v := ?va8) rfl (by kernel_rfl) (by kernel_rfl) (by kernel_rfl) (fun _ _ _ h => h) (Or.inl ⟨by rfl, ?ya8⟩) bu3 ?ra8
          case ya8 => (intro w hSw; go_simp; try with_reducible rfl)
          try simp only [Act.put, List.setIfInBounds_toArray, List.set_cons_zero, List.set_cons_succ]
          refine wpAnyH_take (i := 8) (oi := { dst := some 60, op := Op.move (Operand.tmp 7), type := 34, pos := "law.go:42", after := #[{ on := 7, ground := Ground.guard }], guard := some (7, true) }) (v := ?va9) rfl (by kernel_rfl) (by kernel_rfl) (by kernel_rfl) (fun _ _ _ h => h) (Or.inl ⟨by rfl, ?ya9⟩) bu3 ?ra9
          case ya9 => (intro w hSw; go_simp; try with_reducible rfl)
          try simp only [Act.put, List.setIfInBounds_toArray, List.set_cons_zero, List.set_cons_succ]
          refine wpAnyH_take (i := 9) (oi := { dst := some 61, op := Op.convert 34 9 (Operand.tmp 60), type := 9, pos := "law.go:42", after := #[{ on := 8, ground := Ground.data }, { on := 7, ground := Ground.guard }], guard := some (7, true) }) (v := .string TX) rfl (by kernel_rfl) (by kernel_rfl) (by kernel_rfl) (fun _ _ _ h => h) (Or.inl ⟨by rfl, ?ya10⟩) bu3 ?ra10
          case ya10 => (intro w hSw; have t0 := (FS.out w hSw).1; go_simp; try with_reducible rfl)
          try simp only [Act.put, List.setIfInBounds_toArray, List.set_cons_zero, List.set_cons_succ]
          refine wpAnyH_take (i := 10) (oi := { dst := some 62, op := Op.move (Operand.tmp 5), type := 34, pos := "law.go:42", after := #[{ on := 7, ground := Ground.guard }], guard := some (7, true) }) (v := ?va11) rfl (by kernel_rfl) (by kernel_rfl) (by kernel_rfl) (fun _ _ _ h => h) (Or.inl ⟨by rfl, ?ya11⟩) bu3 ?ra11
          case ya11 => (intro w hSw; go_simp; try with_reducible rfl)
          try simp only [Act.put, List.setIfInBounds_toArray, List.set_cons_zero, List.set_cons_succ]
          refine wpAnyH_take (i := 11) (oi := { dst := some 63, op := Op.convert 34 9 (Operand.tmp 62), type := 9, pos := "law.go:42", after := #[{ on := 10, ground := Ground.data }, { on := 7, ground := Ground.guard }], guard := some (7, true) }) (v := .string TX) rfl (by kernel_rfl) (by kernel_rfl) (by kernel_rfl) (fun _ _ _ h => h) (Or.inl ⟨by rfl, ?ya12⟩) bu3 ?ra12
          case ya12 => (intro w hSw; have t0 := (FS.out w hSw).2; go_simp; try with_reducible rfl)
          try simp only [Act.put, List.setIfInBounds_toArray, List.set_cons_zero, List.set_cons_succ]
          refine wpAnyH_take (i := 12) (oi := { dst := some 64, op := Op.binOp BinOp.eql 9 (Operand.tmp 61) (Operand.tmp 63) 9, type := 4, pos := "law.go:42", after := #[{ on := 9, ground := Ground.data }, { on := 11, ground := Ground.data }, { on := 7, ground := Ground.guard }], guard := some (7, true) }) (v := .bool true) rfl (by kernel_rfl) (by kernel_rfl) (by kernel_rfl) (fun _ _ _ h => h) (Or.inl ⟨by rfl, ?ya13⟩) bu3 ?ra13
          case ya13 => (intro w hSw; go_simp; try with_reducible rfl)
          try simp only [Act.put, List.setIfInBounds_toArray, List.set_cons_zero, List.set_cons_succ]
          refine wpAnyH_take (i := 13) (oi := { dst := some 65, op := Op.pick (Operand.tmp 59) (Operand.tmp 64) (Operand.const (Value.bool false)), type := 4, pos := "law.go:42", after := #[{ on := 7, ground := Ground.data }, { on := 12, ground := Ground.data }], guard := none }) (v := ?va14) rfl (by kernel_rfl) (by kernel_rfl) (by kernel_rfl) (fun _ _ _ h => h) (Or.inl ⟨by rfl, ?ya14⟩) bu3 ?ra14
          case ya14 => (intro w hSw; go_simp; try with_reducible rfl)
          try simp only [Act.put, List.setIfInBounds_toArray, List.set_cons_zero, List.set_cons_succ]
          refine wpAnyH_take (i := 14) (oi := { dst := some 66, op := Op.move (Operand.tmp 65), type := 4, pos := "law.go:42", after := #[{ on := 13, ground := Ground.data }, { on := 7, ground := Ground.chain }], guard := none }) (v := ?va15) rfl (by kernel_rfl) (by kernel_rfl) (by kernel_rfl) (fun _ _ _ h => h) (Or.inl ⟨by rfl, ?ya15⟩) bu3 ?ra15
          case ya15 => (intro w hSw; go_simp; try with_reducible rfl)
          try simp only [Act.put, List.setIfInBounds_toArray, List.set_cons_zero, List.set_cons_succ]
          refine wpAnyH_take (i := 15) (oi := { dst := some 67, op := Op.move (Operand.tmp 3), type := 29, pos := "law.go:42", after := #[{ on := 14, ground := Ground.guard }], guard := some (14, true) }) (v := ?va16) rfl (by kernel_rfl) (by kernel_rfl) (by kernel_rfl) (fun _ _ _ h => h) (Or.inl ⟨by rfl, ?ya16⟩) bu3 ?ra16
          case ya16 => (intro w hSw; go_simp; try with_reducible rfl)
          try simp only [Act.put, List.setIfInBounds_toArray, List.set_cons_zero, List.set_cons_succ]
          refine wpAnyH_take (i := 17) (oi := { dst := some 69, op := Op.load 25 (Operand.tmp 1), type := 25, pos := "law.go:42", after := #[{ on := 14, ground := Ground.guard }], guard := some (14, true) }) (v := .agg (plA p u)) rfl (by kernel_rfl) (by kernel_rfl) (by kernel_rfl) (fun _ _ _ h => h) (yieldsIf_load_mid (by rfl) 25 _ rfl w.heap.size 0 rfl (plL p u) _ (fun x hx => (FX.out x hx).1) Tryz.underlying25 rfl HSL.out) bu3 ?_
          try simp only [Act.put, List.setIfInBounds_toArray, List.set_cons_zero, List.set_cons_succ]
          refine wpAnyH_ready (rs := [16]) (by kernel_rfl) (by simp) ?_
          refine AllReadyH.cons (o := { dst := some 68, op := Op.call { callee := Callee.value (Operand.func 12), args := #[Operand.tmp 67], argTypes := #[29] }, type := 4, pos := "law.go:42", after := #[{ on := 15, ground := Ground.data }, { on := 14, ground := Ground.chain }, { on := 14, ground := Ground.guard }], guard := some (14, true) }) rfl (fun KK hKK => ?_) ?_
          · go_simp
            refine (CA.out _ bu3).mono ?_
            rintro e u18' ⟨rfl, bu18'⟩
            (try go_wp2_with fail)
            refine hKK.out _ _ (bu3.trans (Below.mono (bu18') bu3.size)) (fun _ => ?_)
            clear hKK KK
            try simp only [Act.put, List.setIfInBounds_toArray, List.set_cons_zero, List.set_cons_succ]
            refine wpAnyH_name (fun u18 hu18 => ?_)
            have bu18 : Below W9.heap.size W9 u18 := by rw [hu18.out]; exact (bu3.trans (Below.mono (bu18') bu3.size))
            refine wpAnyH_ready (rs := [18]) (by kernel_rfl) (by simp) ?_
            refine AllReadyH.cons (o := { dst := some 70, op := Op.call { callee := Callee.value (Operand.func 13), args := #[Operand.tmp 69], argTypes := #[25] }, type := 4, pos := "law.go:42", after := #[{ on := 17, ground := Ground.data }, { on := 16, ground := Ground.chain }, { on := 14, ground := Ground.guard }], guard := some (14, true) }) rfl (fun KK hKK => ?_) ?_
            · go_simp
              refine (CR.out _ bu18).mono ?_
              rintro e u19' ⟨rfl, bu19'⟩
              (try go_wp2_with fail)
              refine hKK.out _ _ (bu18.trans (Below.mono (bu19') bu18.size)) (fun _ => ?_)
              clear hKK KK
              try simp only [Act.put, List.setIfInBounds_toArray, List.set_cons_zero, List.set_cons_succ]
              refine wpAnyH_name (fun u19 hu19 => ?_)
              have bu19 : Below W9.heap.size W9 u19 := by rw [hu19.out]; exact (bu18.trans (Below.mono (bu19') bu18.size))
              refine wpAnyH_take (i := 19) (oi := { dst := some 71, op := Op.binOp BinOp.eql 4 (Operand.tmp 68) (Operand.tmp 70) 4, type := 4, pos := "law.go:42", after := #[{ on := 16, ground := Ground.data }, { on := 18, ground := Ground.data }, { on := 14, ground := Ground.guard }], guard := some (14, true) }) (v := .bool true) rfl (by kernel_rfl) (by kernel_rfl) (by kernel_rfl) (fun _ _ _ h => h) (Or.inl ⟨by rfl, ?ya20⟩) bu19 ?ra20
              case ya20 => (intro w hSw; go_simp; try with_reducible rfl)
              try simp only [Act.put, List.setIfInBounds_toArray, List.set_cons_zero, List.set_cons_succ]
              refine wpAnyH_take (i := 20) (oi := { dst := some 72, op := Op.pick (Operand.tmp 66) (Operand.tmp 71) (Operand.const (Value.bool false)), type := 4, pos := "law.go:42", after := #[{ on := 14, ground := Ground.data }, { on := 19, ground := Ground.data }], guard := none }) (v := ?va21) rfl (by kernel_rfl) (by kernel_rfl) (by kernel_rfl) (fun _ _ _ h => h) (Or.inl ⟨by rfl, ?ya21⟩) bu19 ?ra21
              case ya21 => (intro w hSw; go_simp; try with_reducible rfl)
              try simp only [Act.put, List.setIfInBounds_toArray, List.set_cons_zero, List.set_cons_succ]
              refine wpAnyH_take (i := 21) (oi := { dst := some 73, op := Op.move (Operand.tmp 72), type := 4, pos := "law.go:42", after := #[{ on := 20, ground := Ground.data }, { on := 18, ground := Ground.chain }], guard := none }) (v := ?va22) rfl (by kernel_rfl) (by kernel_rfl) (by kernel_rfl) (fun _ _ _ h => h) (Or.inl ⟨by rfl, ?ya22⟩) bu19 ?ra22
              case ya22 => (intro w hSw; go_simp; try with_reducible rfl)
              try simp only [Act.put, List.setIfInBounds_toArray, List.set_cons_zero, List.set_cons_succ]
              refine wpAnyH_take (i := 22) (oi := { dst := some 74, op := Op.move (Operand.tmp 10), type := 30, pos := "law.go:42", after := #[{ on := 21, ground := Ground.guard }], guard := some (21, true) }) (v := ?va23) rfl (by kernel_rfl) (by kernel_rfl) (by kernel_rfl) (fun _ _ _ h => h) (Or.inl ⟨by rfl, ?ya23⟩) bu19 ?ra23
              case ya23 => (intro w hSw; go_simp; try with_reducible rfl)
              try simp only [Act.put, List.setIfInBounds_toArray, List.set_cons_zero, List.set_cons_succ]
              refine wpAnyH_take (i := 23) (oi := { dst := some 75, op := Op.binOp BinOp.eql 30 (Operand.tmp 74) (Operand.const (Value.int IntKind.i64 0)) 30, type := 4, pos := "law.go:42", after := #[{ on := 22, ground := Ground.data }, { on := 21, ground := Ground.guard }], guard := some (21, true) }) (v := .bool true) rfl (by kernel_rfl) (by kernel_rfl) (by kernel_rfl) (fun _ _ _ h => h) (Or.inl ⟨by rfl, ?ya24⟩) bu19 ?ra24
              case ya24 => (intro w hSw; go_simp; try with_reducible rfl)
              try simp only [Act.put, List.setIfInBounds_toArray, List.set_cons_zero, List.set_cons_succ]
              refine wpAnyH_take (i := 24) (oi := { dst := some 76, op := Op.fieldAddr 25 (Operand.tmp 1) 0, type := 0, pos := "law.go:42", after := #[{ on := 21, ground := Ground.guard }], guard := some (21, true) }) (v := ?va25) rfl (by kernel_rfl) (by kernel_rfl) (by kernel_rfl) (fun _ _ _ h => h) (Or.inl ⟨by rfl, ?ya25⟩) bu19 ?ra25
              case ya25 => (intro w hSw; go_simp; try with_reducible rfl)
              try simp only [Act.put, List.setIfInBounds_toArray, List.set_cons_zero, List.set_cons_succ]
              refine wpAnyH_take (i := 25) (oi := { dst := some 77, op := Op.load 5 (Operand.tmp 76), type := 5, pos := "law.go:42", after := #[{ on := 24, ground := Ground.data }, { on := 21, ground := Ground.guard }], guard := some (21, true) }) (v := .int .u8 p.k) rfl (by kernel_rfl) (by kernel_rfl) (by kernel_rfl) (fun _ _ _ h => h) (Or.inl ⟨by rfl, ?ya26⟩) bu19 ?ra26
              case ya26 => (intro w hSw; have t0 := (FX.out w hSw).2.c0; go_simp; try with_reducible rfl)
              try simp only [Act.put, List.setIfInBounds_toArray, List.set_cons_zero, List.set_cons_succ]
              refine wpAnyH_take (i := 26) (oi := { dst := some 78, op := Op.binOp BinOp.eql 5 (Operand.tmp 77) (Operand.const (Value.int IntKind.u8 3)) 5, type := 4, pos := "law.go:42", after := #[{ on := 25, ground := Ground.data }, { on := 21, ground := Ground.guard }], guard := some (21, true) }) (v := .bool true) rfl (by kernel_rfl) (by kernel_rfl) (by kernel_rfl) (fun _ _ _ h => h) (Or.inl ⟨by rfl, ?ya27⟩) bu19 ?ra27
              case ya27 => (intro w hSw; have t0 := HK3.out; have t1 : (p.k == 3) = true := (by simpa using t0); go_simp; try with_reducible rfl)
              try simp only [Act.put, List.setIfInBounds_toArray, List.set_cons_zero, List.set_cons_succ]
              refine wpAnyH_take (i := 27) (oi := { dst := some 79, op := Op.binOp BinOp.eql 4 (Operand.tmp 75) (Operand.tmp 78) 4, type := 4, pos := "law.go:42", after := #[{ on := 23, ground := Ground.data }, { on := 26, ground := Ground.data }, { on := 21, ground := Ground.guard }], guard := some (21, true) }) (v := .bool true) rfl (by kernel_rfl) (by kernel_rfl) (by kernel_rfl) (fun _ _ _ h => h) (Or.inl ⟨by rfl, ?ya28⟩) bu19 ?ra28
              case ya28 => (intro w hSw; go_simp; try with_reducible rfl)
              try simp only [Act.put, List.setIfInBounds_toArray, List.set_cons_zero, List.set_cons_succ]
              refine wpAnyH_take (i := 28) (oi := { dst := some 80, op := Op.pick (Operand.tmp 73) (Operand.tmp 79) (Operand.const (Value.bool false)), type := 4, pos := "law.go:42", after := #[{ on := 21, ground := Ground.data }, { on := 27, ground := Ground.data }], guard := none }) (v := ?va29) rfl (by kernel_rfl) (by kernel_rfl) (by kernel_rfl) (fun _ _ _ h => h) (Or.inl ⟨by rfl, ?ya29⟩) bu19 ?ra29
              case ya29 => (intro w hSw; go_simp; try with_reducible rfl)
              try simp only [Act.put, List.setIfInBounds_toArray, List.set_cons_zero, List.set_cons_succ]
              refine wpAnyH_take (i := 29) (oi := { dst := some 81, op := Op.move (Operand.tmp 80), type := 4, pos := "law.go:42", after := #[{ on := 28, ground := Ground.data }, { on := 21, ground := Ground.chain }], guard := none }) (v := ?va30) rfl (by kernel_rfl) (by kernel_rfl) (by kernel_rfl) (fun _ _ _ h => h) (Or.inl ⟨by rfl, ?ya30⟩) bu19 ?ra30
              case ya30 => (intro w hSw; go_simp; try with_reducible rfl)
              try simp only [Act.put, List.setIfInBounds_toArray, List.set_cons_zero, List.set_cons_succ]
              refine wpAnyH_take (i := 30) (oi := { dst := some 82, op := Op.move (Operand.tmp 10), type := 30, pos := "law.go:42", after := #[{ on := 29, ground := Ground.guard }], guard := some (29, true) }) (v := ?va31) rfl (by kernel_rfl) (by kernel_rfl) (by kernel_rfl) (fun _ _ _ h => h) (Or.inl ⟨by rfl, ?ya31⟩) bu19 ?ra31
              case ya31 => (intro w hSw; go_simp; try with_reducible rfl)
              try simp only [Act.put, List.setIfInBounds_toArray, List.set_cons_zero, List.set_cons_succ]
              refine wpAnyH_take (i := 31) (oi := { dst := some 83, op := Op.binOp BinOp.eql 30 (Operand.tmp 82) (Operand.const (Value.int IntKind.i64 0)) 30, type := 4, pos := "law.go:42", after := #[{ on := 30, ground := Ground.data }, { on := 29, ground := Ground.guard }], guard := some (29, true) }) (v := .bool true) rfl (by kernel_rfl) (by kernel_rfl) (by kernel_rfl) (fun _ _ _ h => h) (Or.inl ⟨by rfl, ?ya32⟩) bu19 ?ra32
              case ya32 => (intro w hSw; go_simp; try with_reducible rfl)
              try simp only [Act.put, List.setIfInBounds_toArray, List.set_cons_zero, List.set_cons_succ]
              refine wpAnyH_take (i := 32) (oi := { dst := some 84, op := Op.move (Operand.tmp 83), type := 4, pos := "law.go:42", after := #[{ on := 31, ground := Ground.data }, { on := 29, ground := Ground.chain }, { on := 29, ground := Ground.guard }], guard := some (29, true) }) (v := ?va33) rfl (by kernel_rfl) (by kernel_rfl) (by kernel_rfl) (fun _ _ _ h => h) (Or.inl ⟨by rfl, ?ya33⟩) bu19 ?ra33
              case ya33 => (intro w hSw; go_simp; try with_reducible rfl)
              try simp only [Act.put, List.setIfInBounds_toArray, List.set_cons_zero, List.set_cons_succ]
              refine wpAnyH_take (i := 33) (oi := { dst := some 85, op := Op.move (Operand.tmp 10), type := 30, pos := "law.go:42", after := #[{ on := 32, ground := Ground.guard }], guard := some (32, false) }) (v := undef) rfl (by kernel_rfl) (by kernel_rfl) (by kernel_rfl) (fun _ _ _ h => h) (Or.inr ⟨by rfl, rfl⟩) bu19 ?_
              try simp only [Act.put, List.setIfInBounds_toArray, List.set_cons_zero, List.set_cons_succ]
              refine wpAnyH_take (i := 34) (oi := { dst := some 86, op := Op.binOp BinOp.eql 30 (Operand.tmp 85) (Operand.const (Value.int IntKind.i64 9)) 30, type := 4, pos := "law.go:42", after := #[{ on := 33, ground := Ground.data }, { on := 32, ground := Ground.guard }], guard := some (32, false) }) (v := undef) rfl (by kernel_rfl) (by kernel_rfl) (by kernel_rfl) (fun _ _ _ h => h) (Or.inr ⟨by rfl, rfl⟩) bu19 ?_
              try simp only [Act.put, List.setIfInBounds_toArray, List.set_cons_zero, List.set_cons_succ]
              refine wpAnyH_take (i := 35) (oi := { dst := some 87, op := Op.pick (Operand.tmp 84) (Operand.const (Value.bool true)) (Operand.tmp 86), type := 4, pos := "law.go:42", after := #[{ on := 32, ground := Ground.data }, { on := 34, ground := Ground.data }, { on := 29, ground := Ground.guard }], guard := some (29, true) }) (v := ?va36) rfl (by kernel_rfl) (by kernel_rfl) (by kernel_rfl) (fun _ _ _ h => h) (Or.inl ⟨by rfl, ?ya36⟩) bu19 ?ra36
              case ya36 => (intro w hSw; go_simp; try with_reducible rfl)
              try simp only [Act.put, List.setIfInBounds_toArray, List.set_cons_zero, List.set_cons_succ]
              refine wpAnyH_take (i := 36) (oi := { dst := some 88, op := Op.pick (Operand.tmp 81) (Operand.tmp 87) (Operand.const (Value.bool false)), type := 4, pos := "law.go:42", after := #[{ on := 29, ground := Ground.data }, { on := 35, ground := Ground.data }], guard := none }) (v := ?va37) rfl (by kernel_rfl) (by kernel_rfl) (by kernel_rfl) (fun _ _ _ h => h) (Or.inl ⟨by rfl, ?ya37⟩) bu19 ?ra37
              case ya37 => (intro w hSw; go_simp; try with_reducible rfl)
              try simp only [Act.put, List.setIfInBounds_toArray, List.set_cons_zero, List.set_cons_succ]
              refine wpAnyH_take (i := 37) (oi := { dst := some 89, op := Op.move (Operand.tmp 88), type := 4, pos := "law.go:42", after := #[{ on := 36, ground := Ground.data }, { on := 32, ground := Ground.chain }], guard := none }) (v := ?va38) rfl (by kernel_rfl) (by kernel_rfl) (by kernel_rfl) (fun _ _ _ h => h) (Or.inl ⟨by rfl, ?ya38⟩) bu19 ?ra38
              case ya38 => (intro w hSw; go_simp; try with_reducible rfl)
              try simp only [Act.put, List.setIfInBounds_toArray, List.set_cons_zero, List.set_cons_succ]
              refine wpAnyH_ready (rs := [38]) (by kernel_rfl) (by simp) ?_
              refine AllReadyH.cons (o := { dst := some 90, op := Op.call { callee := Callee.value (Operand.func 5), args := #[], argTypes := #[] }, type := 4, pos := "law.go:42", after := #[{ on := 37, ground := Ground.chain }, { on := 37, ground := Ground.guard }], guard := some (37, true) }) rfl (fun KK hKK => ?_) ?_
              · go_simp
                refine (CW.out _ bu19).mono ?_
                rintro e u39' ⟨rfl, bu39'⟩
                (try go_wp2_with fail)
                refine hKK.out _ _ (bu19.trans (Below.mono (bu39') bu19.size)) (fun _ => ?_)
                clear hKK KK
                try simp only [Act.put, List.setIfInBounds_toArray, List.set_cons_zero, List.set_cons_succ]
                refine wpAnyH_name (fun u39 hu39 => ?_)
                have bu39 : Below W9.heap.size W9 u39 := by rw [hu39.out]; exact (bu19.trans (Below.mono (bu39') bu19.size))
                refine wpAnyH_take (i := 39) (oi := { dst := some 91, op := Op.pick (Operand.tmp 89) (Operand.tmp 90) (Operand.const (Value.bool false)), type := 4, pos := "law.go:42", after := #[{ on := 37, ground := Ground.data }, { on := 38, ground := Ground.data }], guard := none }) (v := ?va40) rfl (by kernel_rfl) (by kernel_rfl) (by kernel_rfl) (fun _ _ _ h => h) (Or.inl ⟨by rfl, ?ya40⟩) bu39 ?ra40
                case ya40 => (intro w hSw; go_simp; try with_reducible rfl)
                try simp only [Act.put, List.setIfInBounds_toArray, List.set_cons_zero, List.set_cons_succ]
                refine wpAnyH_take (i := 40) (oi := { dst := some 2, op := Op.assign (Operand.tmp 91), type := 4, pos := "law.go:42", after := #[{ on := 39, ground := Ground.data }, { on := 38, ground := Ground.chain }, { on := 0, ground := Ground.phase }, { on := 1, ground := Ground.phase }, { on := 2, ground := Ground.phase }, { on := 3, ground := Ground.phase }, { on := 4, ground := Ground.phase }, { on := 5, ground := Ground.phase }, { on := 6, ground := Ground.phase }, { on := 7, ground := Ground.phase }, { on := 8, ground := Ground.phase }, { on := 9, ground := Ground.phase }, { on := 10, ground := Ground.phase }, { on := 11, ground := Ground.phase }, { on := 12, ground := Ground.phase }, { on := 13, ground := Ground.phase }, { on := 14, ground := Ground.phase }, { on := 15, ground := Ground.phase }, { on := 16, ground := Ground.phase }, { on := 17, ground := Ground.phase }, { on := 18, ground := Ground.phase }, { on := 19, ground := Ground.phase }, { on := 20, ground := Ground.phase }, { on := 21, ground := Ground.phase }, { on := 22, ground := Ground.phase }, { on := 23, ground := Ground.phase }, { on := 24, ground := Ground.phase }, { on := 25, ground := Ground.phase }, { on := 26, ground := Ground.phase }, { on := 27, ground := Ground.phase }, { on := 28, ground := Ground.phase }, { on := 29, ground := Ground.phase }, { on := 30, ground := Ground.phase }, { on := 31, ground := Ground.phase }, { on := 32, ground := Ground.phase }, { on := 33, ground := Ground.phase }, { on := 34, ground := Ground.phase }, { on := 35, ground := Ground.phase }, { on := 36, ground := Ground.phase }, { on := 37, ground := Ground.phase }, { on := 38, ground := Ground.phase }, { on := 39, ground := Ground.phase }], guard := none }) (v := ?va41) rfl (by kernel_rfl) (by kernel_rfl) (by kernel_rfl) (fun _ _ _ h => h) (Or.inl ⟨by rfl, ?ya41⟩) bu39 ?ra41
                case ya41 => (intro w hSw; go_simp; try with_reducible rfl)
                try simp only [Act.put, List.setIfInBounds_toArray, List.set_cons_zero, List.set_cons_succ]
                refine wpAnyH_done (by kernel_rfl) ?_ _
                have HBZ : Hid (Below w.heap.size w u39) := HBW.out _ bu39
                clear FX FS CS CA CR CW HBW
                go_wp2
                go_ret
                exact ⟨rfl, HBZ.out⟩
              exact AllReadyH.nil
            exact AllReadyH.nil
          exact AllReadyH.nil
        exact AllReadyH.nil
      · obtain rfl : EE = 9 := by rw [HE.out, if_neg h3]
        have HK3 : Hid (p.k ≠ 3) := h3
        clear h3
        go_upto_region 11 with fail
        refine wp_region_held_drew (S := From W9) (by kernel_rfl) (Below.drew (Below.refl _ _)) (fun _ => ?_)
        refine wpAnyH_name (fun u0 hu0 => ?_)
        have bu0 : Below W9.heap.size W9 u0 := by rw [hu0.out]; exact Below.drew (Below.refl _ _)
        refine wpAnyH_take (i := 0) (oi := { dst := some 52, op := Op.move (Operand.tmp 3), type := 29, pos := "law.go:42", after := #[], guard := none }) (v := ?vb1) rfl (by kernel_rfl) (by kernel_rfl) (by kernel_rfl) (fun _ _ _ h => h) (Or.inl ⟨by rfl, ?yb1⟩) bu0 ?rb1
        case yb1 => (intro w hSw; go_simp; try with_reducible rfl)
        try simp only [Act.put, List.setIfInBounds_toArray, List.set_cons_zero, List.set_cons_succ]
        refine wpAnyH_take (i := 1) (oi := { dst := some 53, op := Op.load 25 (Operand.tmp 1), type := 25, pos := "law.go:42", after := #[], guard := none }) (v := .agg (plA p u)) rfl (by kernel_rfl) (by kernel_rfl) (by kernel_rfl) (fun _ _ _ h => h) (yieldsIf_load_mid (by rfl) 25 _ rfl w.heap.size 0 rfl (plL p u) _ (fun x hx => (FX.out x hx).1) Tryz.underlying25 rfl HSL.out) bu0 ?_
        try simp only [Act.put, List.setIfInBounds_toArray, List.set_cons_zero, List.set_cons_succ]
        refine wpAnyH_ready (rs := [2]) (by kernel_rfl) (by simp) ?_
        refine AllReadyH.cons (o := { dst := some 54, op := Op.call { callee := Callee.value (Operand.func 9), args := #[Operand.tmp 52, Operand.tmp 53], argTypes := #[29, 25] }, type := 4, pos := "law.go:42", after := #[{ on := 0, ground := Ground.data }, { on := 1, ground := Ground.data }], guard := none }) rfl (fun KK hKK => ?_) ?_
        · go_simp
          refine (CS.out _ bu0).mono ?_
          rintro e u3' ⟨rfl, bu3'⟩
          (try go_wp2_with fail)
          refine hKK.out _ _ (bu0.trans (Below.mono (bu3') bu0.size)) (fun _ => ?_)
          clear hKK KK
          try simp only [Act.put, List.setIfInBounds_toArray, List.set_cons_zero, List.set_cons_succ]
          refine wpAnyH_name (fun u3 hu3 => ?_)
          have bu3 : Below W9.heap.size W9 u3 := by rw [hu3.out]; exact (bu0.trans (Below.mono (bu3') bu0.size))
          refine wpAnyH_take (i := 3) (oi := { dst := some 55, op := Op.move (Operand.tmp 54), type := 4, pos := "law.go:42", after := #[{ on := 2, ground := Ground.data }, { on := 2, ground := Ground.chain }], guard := none }) (v := ?vb4) rfl (by kernel_rfl) (by kernel_rfl) (by kernel_rfl) (fun _ _ _ h => h) (Or.inl ⟨by rfl, ?yb4⟩) bu3 ?rb4
          case yb4 => (intro w hSw; go_simp; try with_reducible rfl)
          try simp only [Act.put, List.setIfInBounds_toArray, List.set_cons_zero, List.set_cons_succ]
          refine wpAnyH_take (i := 4) (oi := { dst := some 56, op := Op.move (Operand.tmp 8), type := 30, pos := "law.go:42", after := #[{ on := 3, ground := Ground.guard }], guard := some (3, true) }) (v := ?vb5) rfl (by kernel_rfl) (by kernel_rfl) (by kernel_rfl) (fun _ _ _ h => h) (Or.inl ⟨by rfl, ?yb5⟩) bu3 ?rb5
          case yb5 => (intro w hSw; go_simp; try with_reducible rfl)
          try simp only [Act.put, List.setIfInBounds_toArray, List.set_cons_zero, List.set_cons_succ]
          refine wpAnyH_take (i := 5) (oi := { dst := some 57, op := Op.binOp BinOp.eql 30 (Operand.tmp 56) (Operand.const (Value.int IntKind.i64 0)) 30, type := 4, pos := "law.go:42", after := #[{ on := 4, ground := Ground.data }, { on := 3, ground := Ground.guard }], guard := some (3, true) }) (v := .bool true) rfl (by kernel_rfl) (by kernel_rfl) (by kernel_rfl) (fun _ _ _ h => h) (Or.inl ⟨by rfl, ?yb6⟩) bu3 ?rb6
          case yb6 => (intro w hSw; go_simp; try with_reducible rfl)
          try simp only [Act.put, List.setIfInBounds_toArray, List.set_cons_zero, List.set_cons_succ]
          refine wpAnyH_take (i := 6) (oi := { dst := some 58, op := Op.pick (Operand.tmp 55) (Operand.tmp 57) (Operand.const (Value.bool false)), type := 4, pos := "law.go:42", after := #[{ on := 3, ground := Ground.data }, { on := 5, ground := Ground.data }], guard := none }) (v := ?vb7) rfl (by kernel_rfl) (by kernel_rfl) (by kernel_rfl) (fun _ _ _ h => h) (Or.inl ⟨by rfl, ?yb7⟩) bu3 ?rb7
          case yb7 => (intro w hSw; go_simp; try with_reducible rfl)
          try simp only [Act.put, List.setIfInBounds_toArray, List.set_cons_zero, List.set_cons_succ]
          refine wpAnyH_take (i := 7) (oi := { dst := some 59, op := Op.move (Operand.tmp 58), type := 4, pos := "law.go:42", after := #[{ on := 6, ground := Ground.data }, { on := 3, ground := Ground.chain }], guard := none }) (v := ?vb8) rfl (by kernel_rfl) (by kernel_rfl) (by kernel_rfl) (fun _ _ _ h => h) (Or.inl ⟨by rfl, ?yb8⟩) bu3 ?rb8
          case yb8 => (intro w hSw; go_simp; try with_reducible rfl)
          try simp only [Act.put, List.setIfInBounds_toArray, List.set_cons_zero, List.set_cons_succ]
          refine wpAnyH_take (i := 8) (oi := { dst := some 60, op := Op.move (Operand.tmp 7), type := 34, pos := "law.go:42", after := #[{ on := 7, ground := Ground.guard }], guard := some (7, true) }) (v := ?vb9) rfl (by kernel_rfl) (by kernel_rfl) (by kernel_rfl) (fun _ _ _ h => h) (Or.inl ⟨by rfl, ?yb9⟩) bu3 ?rb9
          case yb9 => (intro w hSw; go_simp; try with_reducible rfl)
          try simp only [Act.put, List.setIfInBounds_toArray, List.set_cons_zero, List.set_cons_succ]
          refine wpAnyH_take (i := 9) (oi := { dst := some 61, op := Op.convert 34 9 (Operand.tmp 60), type := 9, pos := "law.go:42", after := #[{ on := 8, ground := Ground.data }, { on := 7, ground := Ground.guard }], guard := some (7, true) }) (v := .string TX) rfl (by kernel_rfl) (by kernel_rfl) (by kernel_rfl) (fun _ _ _ h => h) (Or.inl ⟨by rfl, ?yb10⟩) bu3 ?rb10
          case yb10 => (intro w hSw; have t0 := (FS.out w hSw).1; go_simp; try with_reducible rfl)
          try simp only [Act.put, List.setIfInBounds_toArray, List.set_cons_zero, List.set_cons_succ]
          refine wpAnyH_take (i := 10) (oi := { dst := some 62, op := Op.move (Operand.tmp 5), type := 34, pos := "law.go:42", after := #[{ on := 7, ground := Ground.guard }], guard := some (7, true) }) (v := ?vb11) rfl (by kernel_rfl) (by kernel_rfl) (by kernel_rfl) (fun _ _ _ h => h) (Or.inl ⟨by rfl, ?yb11⟩) bu3 ?rb11
          case yb11 => (intro w hSw; go_simp; try with_reducible rfl)
          try simp only [Act.put, List.setIfInBounds_toArray, List.set_cons_zero, List.set_cons_succ]
          refine wpAnyH_take (i := 11) (oi := { dst := some 63, op := Op.convert 34 9 (Operand.tmp 62), type := 9, pos := "law.go:42", after := #[{ on := 10, ground := Ground.data }, { on := 7, ground := Ground.guard }], guard := some (7, true) }) (v := .string TX) rfl (by kernel_rfl) (by kernel_rfl) (by kernel_rfl) (fun _ _ _ h => h) (Or.inl ⟨by rfl, ?yb12⟩) bu3 ?rb12
          case yb12 => (intro w hSw; have t0 := (FS.out w hSw).2; go_simp; try with_reducible rfl)
          try simp only [Act.put, List.setIfInBounds_toArray, List.set_cons_zero, List.set_cons_succ]
          refine wpAnyH_take (i := 12) (oi := { dst := some 64, op := Op.binOp BinOp.eql 9 (Operand.tmp 61) (Operand.tmp 63) 9, type := 4, pos := "law.go:42", after := #[{ on := 9, ground := Ground.data }, { on := 11, ground := Ground.data }, { on := 7, ground := Ground.guard }], guard := some (7, true) }) (v := .bool true) rfl (by kernel_rfl) (by kernel_rfl) (by kernel_rfl) (fun _ _ _ h => h) (Or.inl ⟨by rfl, ?yb13⟩) bu3 ?rb13
          case yb13 => (intro w hSw; go_simp; try with_reducible rfl)
          try simp only [Act.put, List.setIfInBounds_toArray, List.set_cons_zero, List.set_cons_succ]
          refine wpAnyH_take (i := 13) (oi := { dst := some 65, op := Op.pick (Operand.tmp 59) (Operand.tmp 64) (Operand.const (Value.bool false)), type := 4, pos := "law.go:42", after := #[{ on := 7, ground := Ground.data }, { on := 12, ground := Ground.data }], guard := none }) (v := ?vb14) rfl (by kernel_rfl) (by kernel_rfl) (by kernel_rfl) (fun _ _ _ h => h) (Or.inl ⟨by rfl, ?yb14⟩) bu3 ?rb14
          case yb14 => (intro w hSw; go_simp; try with_reducible rfl)
          try simp only [Act.put, List.setIfInBounds_toArray, List.set_cons_zero, List.set_cons_succ]
          refine wpAnyH_take (i := 14) (oi := { dst := some 66, op := Op.move (Operand.tmp 65), type := 4, pos := "law.go:42", after := #[{ on := 13, ground := Ground.data }, { on := 7, ground := Ground.chain }], guard := none }) (v := ?vb15) rfl (by kernel_rfl) (by kernel_rfl) (by kernel_rfl) (fun _ _ _ h => h) (Or.inl ⟨by rfl, ?yb15⟩) bu3 ?rb15
          case yb15 => (intro w hSw; go_simp; try with_reducible rfl)
          try simp only [Act.put, List.setIfInBounds_toArray, List.set_cons_zero, List.set_cons_succ]
          refine wpAnyH_take (i := 15) (oi := { dst := some 67, op := Op.move (Operand.tmp 3), type := 29, pos := "law.go:42", after := #[{ on := 14, ground := Ground.guard }], guard := some (14, true) }) (v := ?vb16) rfl (by kernel_rfl) (by kernel_rfl) (by kernel_rfl) (fun _ _ _ h => h) (Or.inl ⟨by rfl, ?yb16⟩) bu3 ?rb16
          case yb16 => (intro w hSw; go_simp; try with_reducible rfl)
          try simp only [Act.put, List.setIfInBounds_toArray, List.set_cons_zero, List.set_cons_succ]
          refine wpAnyH_take (i := 17) (oi := { dst := some 69, op := Op.load 25 (Operand.tmp 1), type := 25, pos := "law.go:42", after := #[{ on := 14, ground := Ground.guard }], guard := some (14, true) }) (v := .agg (plA p u)) rfl (by kernel_rfl) (by kernel_rfl) (by kernel_rfl) (fun _ _ _ h => h) (yieldsIf_load_mid (by rfl) 25 _ rfl w.heap.size 0 rfl (plL p u) _ (fun x hx => (FX.out x hx).1) Tryz.underlying25 rfl HSL.out) bu3 ?_
          try simp only [Act.put, List.setIfInBounds_toArray, List.set_cons_zero, List.set_cons_succ]
          refine wpAnyH_ready (rs := [16]) (by kernel_rfl) (by simp) ?_
          refine AllReadyH.cons (o := { dst := some 68, op := Op.call { callee := Callee.value (Operand.func 12), args := #[Operand.tmp 67], argTypes := #[29] }, type := 4, pos := "law.go:42", after := #[{ on := 15, ground := Ground.data }, { on := 14, ground := Ground.chain }, { on := 14, ground := Ground.guard }], guard := some (14, true) }) rfl (fun KK hKK => ?_) ?_
          · go_simp
            refine (CA.out _ bu3).mono ?_
            rintro e u18' ⟨rfl, bu18'⟩
            (try go_wp2_with fail)
            refine hKK.out _ _ (bu3.trans (Below.mono (bu18') bu3.size)) (fun _ => ?_)
            clear hKK KK
            try simp only [Act.put, List.setIfInBounds_toArray, List.set_cons_zero, List.set_cons_succ]
            refine wpAnyH_name (fun u18 hu18 => ?_)
            have bu18 : Below W9.heap.size W9 u18 := by rw [hu18.out]; exact (bu3.trans (Below.mono (bu18') bu3.size))
            refine wpAnyH_ready (rs := [18]) (by kernel_rfl) (by simp) ?_
            refine AllReadyH.cons (o := { dst := some 70, op := Op.call { callee := Callee.value (Operand.func 13), args := #[Operand.tmp 69], argTypes := #[25] }, type := 4, pos := "law.go:42", after := #[{ on := 17, ground := Ground.data }, { on := 16, ground := Ground.chain }, { on := 14, ground := Ground.guard }], guard := some (14, true) }) rfl (fun KK hKK => ?_) ?_
            · go_simp
              refine (CR.out _ bu18).mono ?_
              rintro e u19' ⟨rfl, bu19'⟩
              (try go_wp2_with fail)
              refine hKK.out _ _ (bu18.trans (Below.mono (bu19') bu18.size)) (fun _ => ?_)
              clear hKK KK
              try simp only [Act.put, List.setIfInBounds_toArray, List.set_cons_zero, List.set_cons_succ]
              refine wpAnyH_name (fun u19 hu19 => ?_)
              have bu19 : Below W9.heap.size W9 u19 := by rw [hu19.out]; exact (bu18.trans (Below.mono (bu19') bu18.size))
              refine wpAnyH_take (i := 19) (oi := { dst := some 71, op := Op.binOp BinOp.eql 4 (Operand.tmp 68) (Operand.tmp 70) 4, type := 4, pos := "law.go:42", after := #[{ on := 16, ground := Ground.data }, { on := 18, ground := Ground.data }, { on := 14, ground := Ground.guard }], guard := some (14, true) }) (v := .bool true) rfl (by kernel_rfl) (by kernel_rfl) (by kernel_rfl) (fun _ _ _ h => h) (Or.inl ⟨by rfl, ?yb20⟩) bu19 ?rb20
              case yb20 => (intro w hSw; go_simp; try with_reducible rfl)
              try simp only [Act.put, List.setIfInBounds_toArray, List.set_cons_zero, List.set_cons_succ]
              refine wpAnyH_take (i := 20) (oi := { dst := some 72, op := Op.pick (Operand.tmp 66) (Operand.tmp 71) (Operand.const (Value.bool false)), type := 4, pos := "law.go:42", after := #[{ on := 14, ground := Ground.data }, { on := 19, ground := Ground.data }], guard := none }) (v := ?vb21) rfl (by kernel_rfl) (by kernel_rfl) (by kernel_rfl) (fun _ _ _ h => h) (Or.inl ⟨by rfl, ?yb21⟩) bu19 ?rb21
              case yb21 => (intro w hSw; go_simp; try with_reducible rfl)
              try simp only [Act.put, List.setIfInBounds_toArray, List.set_cons_zero, List.set_cons_succ]
              refine wpAnyH_take (i := 21) (oi := { dst := some 73, op := Op.move (Operand.tmp 72), type := 4, pos := "law.go:42", after := #[{ on := 20, ground := Ground.data }, { on := 18, ground := Ground.chain }], guard := none }) (v := ?vb22) rfl (by kernel_rfl) (by kernel_rfl) (by kernel_rfl) (fun _ _ _ h => h) (Or.inl ⟨by rfl, ?yb22⟩) bu19 ?rb22
              case yb22 => (intro w hSw; go_simp; try with_reducible rfl)
              try simp only [Act.put, List.setIfInBounds_toArray, List.set_cons_zero, List.set_cons_succ]
              refine wpAnyH_take (i := 22) (oi := { dst := some 74, op := Op.move (Operand.tmp 10), type := 30, pos := "law.go:42", after := #[{ on := 21, ground := Ground.guard }], guard := some (21, true) }) (v := ?vb23) rfl (by kernel_rfl) (by kernel_rfl) (by kernel_rfl) (fun _ _ _ h => h) (Or.inl ⟨by rfl, ?yb23⟩) bu19 ?rb23
              case yb23 => (intro w hSw; go_simp; try with_reducible rfl)
              try simp only [Act.put, List.setIfInBounds_toArray, List.set_cons_zero, List.set_cons_succ]
              refine wpAnyH_take (i := 23) (oi := { dst := some 75, op := Op.binOp BinOp.eql 30 (Operand.tmp 74) (Operand.const (Value.int IntKind.i64 0)) 30, type := 4, pos := "law.go:42", after := #[{ on := 22, ground := Ground.data }, { on := 21, ground := Ground.guard }], guard := some (21, true) }) (v := .bool false) rfl (by kernel_rfl) (by kernel_rfl) (by kernel_rfl) (fun _ _ _ h => h) (Or.inl ⟨by rfl, ?yb24⟩) bu19 ?rb24
              case yb24 => (intro w hSw; go_simp; try with_reducible rfl)
              try simp only [Act.put, List.setIfInBounds_toArray, List.set_cons_zero, List.set_cons_succ]
              refine wpAnyH_take (i := 24) (oi := { dst := some 76, op := Op.fieldAddr 25 (Operand.tmp 1) 0, type := 0, pos := "law.go:42", after := #[{ on := 21, ground := Ground.guard }], guard := some (21, true) }) (v := ?vb25) rfl (by kernel_rfl) (by kernel_rfl) (by kernel_rfl) (fun _ _ _ h => h) (Or.inl ⟨by rfl, ?yb25⟩) bu19 ?rb25
              case yb25 => (intro w hSw; go_simp; try with_reducible rfl)
              try simp only [Act.put, List.setIfInBounds_toArray, List.set_cons_zero, List.set_cons_succ]
              refine wpAnyH_take (i := 25) (oi := { dst := some 77, op := Op.load 5 (Operand.tmp 76), type := 5, pos := "law.go:42", after := #[{ on := 24, ground := Ground.data }, { on := 21, ground := Ground.guard }], guard := some (21, true) }) (v := .int .u8 p.k) rfl (by kernel_rfl) (by kernel_rfl) (by kernel_rfl) (fun _ _ _ h => h) (Or.inl ⟨by rfl, ?yb26⟩) bu19 ?rb26
              case yb26 => (intro w hSw; have t0 := (FX.out w hSw).2.c0; go_simp; try with_reducible rfl)
              try simp only [Act.put, List.setIfInBounds_toArray, List.set_cons_zero, List.set_cons_succ]
              refine wpAnyH_take (i := 26) (oi := { dst := some 78, op := Op.binOp BinOp.eql 5 (Operand.tmp 77) (Operand.const (Value.int IntKind.u8 3)) 5, type := 4, pos := "law.go:42", after := #[{ on := 25, ground := Ground.data }, { on := 21, ground := Ground.guard }], guard := some (21, true) }) (v := .bool false) rfl (by kernel_rfl) (by kernel_rfl) (by kernel_rfl) (fun _ _ _ h => h) (Or.inl ⟨by rfl, ?yb27⟩) bu19 ?rb27
              case yb27 => (intro w hSw; have t0 := HK3.out; have t1 : (p.k == 3) = false := (by simpa using t0); go_simp; try with_reducible rfl)
              try simp only [Act.put, List.setIfInBounds_toArray, List.set_cons_zero, List.set_cons_succ]
              refine wpAnyH_take (i := 27) (oi := { dst := some 79, op := Op.binOp BinOp.eql 4 (Operand.tmp 75) (Operand.tmp 78) 4, type := 4, pos := "law.go:42", after := #[{ on := 23, ground := Ground.data }, { on := 26, ground := Ground.data }, { on := 21, ground := Ground.guard }], guard := some (21, true) }) (v := .bool true) rfl (by kernel_rfl) (by kernel_rfl) (by kernel_rfl) (fun _ _ _ h => h) (Or.inl ⟨by rfl, ?yb28⟩) bu19 ?rb28
              case yb28 => (intro w hSw; go_simp; try with_reducible rfl)
              try simp only [Act.put, List.setIfInBounds_toArray, List.set_cons_zero, List.set_cons_succ]
              refine wpAnyH_take (i := 28) (oi := { dst := some 80, op := Op.pick (Operand.tmp 73) (Operand.tmp 79) (Operand.const (Value.bool false)), type := 4, pos := "law.go:42", after := #[{ on := 21, ground := Ground.data }, { on := 27, ground := Ground.data }], guard := none }) (v := ?vb29) rfl (by kernel_rfl) (by kernel_rfl) (by kernel_rfl) (fun _ _ _ h => h) (Or.inl ⟨by rfl, ?yb29⟩) bu19 ?rb29
              case yb29 => (intro w hSw; go_simp; try with_reducible rfl)
              try simp only [Act.put, List.setIfInBounds_toArray, List.set_cons_zero, List.set_cons_succ]
              refine wpAnyH_take (i := 29) (oi := { dst := some 81, op := Op.move (Operand.tmp 80), type := 4, pos := "law.go:42", after := #[{ on := 28, ground := Ground.data }, { on := 21, ground := Ground.chain }], guard := none }) (v := ?vb30) rfl (by kernel_rfl) (by kernel_rfl) (by kernel_rfl) (fun _ _ _ h => h) (Or.inl ⟨by rfl, ?yb30⟩) bu19 ?rb30
              case yb30 => (intro w hSw; go_simp; try with_reducible rfl)
              try simp only [Act.put, List.setIfInBounds_toArray, List.set_cons_zero, List.set_cons_succ]
              refine wpAnyH_take (i := 30) (oi := { dst := some 82, op := Op.move (Operand.tmp 10), type := 30, pos := "law.go:42", after := #[{ on := 29, ground := Ground.guard }], guard := some (29, true) }) (v := ?vb31) rfl (by kernel_rfl) (by kernel_rfl) (by kernel_rfl) (fun _ _ _ h => h) (Or.inl ⟨by rfl, ?yb31⟩) bu19 ?rb31
              case yb31 => (intro w hSw; go_simp; try with_reducible rfl)
              try simp only [Act.put, List.setIfInBounds_toArray, List.set_cons_zero, List.set_cons_succ]
              refine wpAnyH_take (i := 31) (oi := { dst := some 83, op := Op.binOp BinOp.eql 30 (Operand.tmp 82) (Operand.const (Value.int IntKind.i64 0)) 30, type := 4, pos := "law.go:42", after := #[{ on := 30, ground := Ground.data }, { on := 29, ground := Ground.guard }], guard := some (29, true) }) (v := .bool false) rfl (by kernel_rfl) (by kernel_rfl) (by kernel_rfl) (fun _ _ _ h => h) (Or.inl ⟨by rfl, ?yb32⟩) bu19 ?rb32
              case yb32 => (intro w hSw; go_simp; try with_reducible rfl)
              try simp only [Act.put, List.setIfInBounds_toArray, List.set_cons_zero, List.set_cons_succ]
              refine wpAnyH_take (i := 32) (oi := { dst := some 84, op := Op.move (Operand.tmp 83), type := 4, pos := "law.go:42", after := #[{ on := 31, ground := Ground.data }, { on := 29, ground := Ground.chain }, { on := 29, ground := Ground.guard }], guard := some (29, true) }) (v := ?vb33) rfl (by kernel_rfl) (by kernel_rfl) (by kernel_rfl) (fun _ _ _ h => h) (Or.inl ⟨by rfl, ?yb33⟩) bu19 ?rb33
              case yb33 => (intro w hSw; go_simp; try with_reducible rfl)
              try simp only [Act.put, List.setIfInBounds_toArray, List.set_cons_zero, List.set_cons_succ]
              refine wpAnyH_take (i := 33) (oi := { dst := some 85, op := Op.move (Operand.tmp 10), type := 30, pos := "law.go:42", after := #[{ on := 32, ground := Ground.guard }], guard := some (32, false) }) (v := ?vb34) rfl (by kernel_rfl) (by kernel_rfl) (by kernel_rfl) (fun _ _ _ h => h) (Or.inl ⟨by rfl, ?yb34⟩) bu19 ?rb34
              case yb34 => (intro w hSw; go_simp; try with_reducible rfl)
              try simp only [Act.put, List.setIfInBounds_toArray, List.set_cons_zero, List.set_cons_succ]
              refine wpAnyH_take (i := 34) (oi := { dst := some 86, op := Op.binOp BinOp.eql 30 (Operand.tmp 85) (Operand.const (Value.int IntKind.i64 9)) 30, type := 4, pos := "law.go:42", after := #[{ on := 33, ground := Ground.data }, { on := 32, ground := Ground.guard }], guard := some (32, false) }) (v := .bool true) rfl (by kernel_rfl) (by kernel_rfl) (by kernel_rfl) (fun _ _ _ h => h) (Or.inl ⟨by rfl, ?yb35⟩) bu19 ?rb35
              case yb35 => (intro w hSw; go_simp; try with_reducible rfl)
              try simp only [Act.put, List.setIfInBounds_toArray, List.set_cons_zero, List.set_cons_succ]
              refine wpAnyH_take (i := 35) (oi := { dst := some 87, op := Op.pick (Operand.tmp 84) (Operand.const (Value.bool true)) (Operand.tmp 86), type := 4, pos := "law.go:42", after := #[{ on := 32, ground := Ground.data }, { on := 34, ground := Ground.data }, { on := 29, ground := Ground.guard }], guard := some (29, true) }) (v := ?vb36) rfl (by kernel_rfl) (by kernel_rfl) (by kernel_rfl) (fun _ _ _ h => h) (Or.inl ⟨by rfl, ?yb36⟩) bu19 ?rb36
              case yb36 => (intro w hSw; go_simp; try with_reducible rfl)
              try simp only [Act.put, List.setIfInBounds_toArray, List.set_cons_zero, List.set_cons_succ]
              refine wpAnyH_take (i := 36) (oi := { dst := some 88, op := Op.pick (Operand.tmp 81) (Operand.tmp 87) (Operand.const (Value.bool false)), type := 4, pos := "law.go:42", after := #[{ on := 29, ground := Ground.data }, { on := 35, ground := Ground.data }], guard := none }) (v := ?vb37) rfl (by kernel_rfl) (by kernel_rfl) (by kernel_rfl) (fun _ _ _ h => h) (Or.inl ⟨by rfl, ?yb37⟩) bu19 ?rb37
              case yb37 => (intro w hSw; go_simp; try with_reducible rfl)
              try simp only [Act.put, List.setIfInBounds_toArray, List.set_cons_zero, List.set_cons_succ]
              refine wpAnyH_take (i := 37) (oi := { dst := some 89, op := Op.move (Operand.tmp 88), type := 4, pos := "law.go:42", after := #[{ on := 36, ground := Ground.data }, { on := 32, ground := Ground.chain }], guard := none }) (v := ?vb38) rfl (by kernel_rfl) (by kernel_rfl) (by kernel_rfl) (fun _ _ _ h => h) (Or.inl ⟨by rfl, ?yb38⟩) bu19 ?rb38
              case yb38 => (intro w hSw; go_simp; try with_reducible rfl)
              try simp only [Act.put, List.setIfInBounds_toArray, List.set_cons_zero, List.set_cons_succ]
              refine wpAnyH_ready (rs := [38]) (by kernel_rfl) (by simp) ?_
              refine AllReadyH.cons (o := { dst := some 90, op := Op.call { callee := Callee.value (Operand.func 5), args := #[], argTypes := #[] }, type := 4, pos := "law.go:42", after := #[{ on := 37, ground := Ground.chain }, { on := 37, ground := Ground.guard }], guard := some (37, true) }) rfl (fun KK hKK => ?_) ?_
              · go_simp
                refine (CW.out _ bu19).mono ?_
                rintro e u39' ⟨rfl, bu39'⟩
                (try go_wp2_with fail)
                refine hKK.out _ _ (bu19.trans (Below.mono (bu39') bu19.size)) (fun _ => ?_)
                clear hKK KK
                try simp only [Act.put, List.setIfInBounds_toArray, List.set_cons_zero, List.set_cons_succ]
                refine wpAnyH_name (fun u39 hu39 => ?_)
                have bu39 : Below W9.heap.size W9 u39 := by rw [hu39.out]; exact (bu19.trans (Below.mono (bu39') bu19.size))
                refine wpAnyH_take (i := 39) (oi := { dst := some 91, op := Op.pick (Operand.tmp 89) (Operand.tmp 90) (Operand.const (Value.bool false)), type := 4, pos := "law.go:42", after := #[{ on := 37, ground := Ground.data }, { on := 38, ground := Ground.data }], guard := none }) (v := ?vb40) rfl (by kernel_rfl) (by kernel_rfl) (by kernel_rfl) (fun _ _ _ h => h) (Or.inl ⟨by rfl, ?yb40⟩) bu39 ?rb40
                case yb40 => (intro w hSw; go_simp; try with_reducible rfl)
                try simp only [Act.put, List.setIfInBounds_toArray, List.set_cons_zero, List.set_cons_succ]
                refine wpAnyH_take (i := 40) (oi := { dst := some 2, op := Op.assign (Operand.tmp 91), type := 4, pos := "law.go:42", after := #[{ on := 39, ground := Ground.data }, { on := 38, ground := Ground.chain }, { on := 0, ground := Ground.phase }, { on := 1, ground := Ground.phase }, { on := 2, ground := Ground.phase }, { on := 3, ground := Ground.phase }, { on := 4, ground := Ground.phase }, { on := 5, ground := Ground.phase }, { on := 6, ground := Ground.phase }, { on := 7, ground := Ground.phase }, { on := 8, ground := Ground.phase }, { on := 9, ground := Ground.phase }, { on := 10, ground := Ground.phase }, { on := 11, ground := Ground.phase }, { on := 12, ground := Ground.phase }, { on := 13, ground := Ground.phase }, { on := 14, ground := Ground.phase }, { on := 15, ground := Ground.phase }, { on := 16, ground := Ground.phase }, { on := 17, ground := Ground.phase }, { on := 18, ground := Ground.phase }, { on := 19, ground := Ground.phase }, { on := 20, ground := Ground.phase }, { on := 21, ground := Ground.phase }, { on := 22, ground := Ground.phase }, { on := 23, ground := Ground.phase }, { on := 24, ground := Ground.phase }, { on := 25, ground := Ground.phase }, { on := 26, ground := Ground.phase }, { on := 27, ground := Ground.phase }, { on := 28, ground := Ground.phase }, { on := 29, ground := Ground.phase }, { on := 30, ground := Ground.phase }, { on := 31, ground := Ground.phase }, { on := 32, ground := Ground.phase }, { on := 33, ground := Ground.phase }, { on := 34, ground := Ground.phase }, { on := 35, ground := Ground.phase }, { on := 36, ground := Ground.phase }, { on := 37, ground := Ground.phase }, { on := 38, ground := Ground.phase }, { on := 39, ground := Ground.phase }], guard := none }) (v := ?vb41) rfl (by kernel_rfl) (by kernel_rfl) (by kernel_rfl) (fun _ _ _ h => h) (Or.inl ⟨by rfl, ?yb41⟩) bu39 ?rb41
                case yb41 => (intro w hSw; go_simp; try with_reducible rfl)
                try simp only [Act.put, List.setIfInBounds_toArray, List.set_cons_zero, List.set_cons_succ]
                refine wpAnyH_done (by kernel_rfl) ?_ _
                have HBZ : Hid (Below w.heap.size w u39) := HBW.out _ bu39
                clear FX FS CS CA CR CW HBW
                go_wp2
                go_ret
                exact ⟨rfl, HBZ.out⟩
              exact AllReadyH.nil
            exact AllReadyH.nil
          exact AllReadyH.nil
        exact AllReadyH.nil
    · have eo : ofP p = Fm.zero := by unfold ofP; rw [if_neg hc]
      rw [eo]
      have ez : frV Fm.zero s3 = .nilIface := rfl
      rw [ez]
      have HC : Hid ((chkM p != chkM p) = false ∧ (chkM p != 0) = true) := ⟨by simp, by simpa using hc⟩
      obtain ⟨tc1, tc2⟩ := HC.out
      clear eo ez r3 hc
      go_wp2_with (refine wpList_load_mid rfl 25 _ rfl w.heap.size 0 rfl (plL p u) _ (FR.out _ Hw3.out).1 Tryz.underlying25 rfl HSL.out (Hid.out ?_))
      unfold Hid
      go_wp2_with fail
      refine cp.mono ?_
      rintro e w4 ⟨v4, rfl, s4, b9⟩
      have Hw4 : Hid (From W1 w4) := Hw3.out.trans (b9.mono Hw3.out.size)
      obtain ⟨a4, n4, c4, rfl, -⟩ := sl_shp s4
      clear cp b9 s4
      have cc := checkF_any p u w4 (HTB.out w4 Hw4.out) (HFI.out w4 Hw4.out)
      generalize chkM p = CK at *
      go_wp2_with (refine BigFrame.wpList_want (by rfl) fun KK hKK => wp_load_mid 25 _ rfl w.heap.size 0 rfl (plL p u) _ (FR.out _ Hw4.out).1 Tryz.underlying25 rfl HSL.out (hKK _ _ (Hid.out ?_)))
      unfold Hid
      go_wp2_with fail
      refine cc.mono ?_
      rintro e w5 ⟨rfl, b9⟩
      have Hw5 : Hid (From W1 w5) := Hw4.out.trans (b9.mono Hw4.out.size)
      clear cc b9
      have cs : Calls Tryz.prog 9 #[.nilIface, .agg #[.int .u8 0, .int .i64 0, .int .i64 0, .int .i64 0, .bool false, .string ⟨#[]⟩, .int .u8 0, .int .u8 0, .int .u8 0, .int .u8 0, .int .u8 0, .int .u8 0, .int .u8 0, .int .u8 0, .int .u8 0, .int .u8 0, .int .u8 0, .int .u8 0, .int .u8 0, .int .u8 0, .int .u8 0, .int .u8 0, .slice none 0 0]] w5 fun e w' => e = .returned (.bool true) ∧ Below w5.heap.size w5 w' := sameNil w5
      go_wp2_with fail
      refine cs.mono ?_
      rintro e w6 ⟨rfl, b9⟩
      have Hw6 : Hid (From W1 w6) := Hw5.out.trans (b9.mono Hw5.out.size)
      clear cs b9
      have ca := HAW.out w6 Hw6.out
      go_wp2_with fail
      refine ca.mono ?_
      rintro e w7 ⟨rfl, b9⟩
      have Hw7 : Hid (From W1 w7) := Hw6.out.trans (b9.mono Hw6.out.size)
      clear ca b9
      have HBZ : Hid (Below w.heap.size w w7) := HB1.out.trans (Hw7.out.mono HB1.out.size)
      go_wp2
      go_ret
      exact ⟨rfl, HBZ.out⟩

theorem contract (H : Type) (enc : TypeId × Value → H) (W : World) (base : Nat) (args : Array Value) (ds gs : List (DataW H)) (before : List MemPlace)
    (hval : ∀ (j : Nat) t v, Tryz.f3.params[j]? = some t → args[j]? = some v → Value.okWide Tryz.prog W .any base t v)
    (hW : DataW.Whole enc Tryz.prog Tryz.f3.params.toList Rows.framePutsSpec.vars false W args.toList ds gs before) (hL : laidMetH Tryz.prog Rows.framePutsRow.laid W)
    (hsz0 : (DataW.weightsEach Tryz.prog (Tryz.f3.params.toList ++ Rows.framePutsSpec.plain.varTypes Tryz.prog) (ds ++ gs)).all (· ≤ reachBytes) = true) :
    Calls Tryz.prog 3 args W fun e W' => ∃ v, e = .returned v ∧ Rows.framePutsSpec.post enc Tryz.prog Tryz.f3 false true false false W args v W' := by
  have hW' := hW
  obtain ⟨p, q, hA0, hV, rfl, hfz, hnd⟩ := hW
  have hA : DataW.TrodAll enc Tryz.prog W 0 (fun _ => true) true Tryz.f3.params.toList args.toList ds p := hA0
  rw [Tryz.params3] at hA hval hsz0
  obtain ⟨v0, vs0, d0, ds0, p0, q0, hargs, rfl, rfl, h0, r0⟩ := trodAll_cons hA
  obtain ⟨rfl, rfl, rfl⟩ := trodAll_nil r0
  obtain rfl : args = #[v0] := by cases args; simp_all
  obtain ⟨rfl, rfl⟩ := trodVars_none hV
  have k0 := h0
  have lt0 : ∀ x ∈ p0, x.block < W.heap.size := by obtain ⟨m, hm⟩ := k0; exact DataW.trod_lt m _ _ _ hm
  obtain ⟨L0, w0⟩ := pln_in (hval 0 25 v0 rfl rfl) h0
  clear hA0
  refine (walk v0 L0 W (tb_of hL) w0).mono fun e W' ⟨he, bel⟩ => ?_
  subst he
  exact ⟨_, rfl, _, _, _, [], _, [], hW', trodAll_mk1 (shut_bool Tryz.underlying4 _), (trodAll_cons_mk (Below.trod laidOut (by kernel_rfl) (of_decide_eq_true (by kernel_rfl)) k0 bel lt0) trodAll_mk0), rfl, bel.frame _, fun h => by cases h⟩

theorem laid_met (os : Os) : laidMet Tryz.prog Rows.framePutsRow.laid (({ World.holding Tryz.prog os ⟨#[], #[], []⟩ with heap := (((World.holding Tryz.prog os ⟨#[], #[], []⟩).heap.modify 0 (fun
      | .cells _ t frozen => .cells shpT t frozen
      | o => o)).modify 1 (fun
      | .cells _ t frozen => .cells widT t frozen
      | o => o)) } : World).forCall (fun _ _ => 0) ⟨#[], #[.agg #[.int .u8 0, .int .i64 0, .int .i64 0, .int .i64 0, .bool false, .string ⟨#[]⟩, .int .u8 0, .int .u8 0, .int .u8 0, .int .u8 0, .int .u8 0, .int .u8 0, .int .u8 0, .int .u8 0, .int .u8 0, .int .u8 0, .int .u8 0, .int .u8 0, .int .u8 0, .int .u8 0, .int .u8 0, .int .u8 0, .slice none 0 0]], []⟩).memory :=
  laidMet_of_run' 8 (by kernel_rfl) (by kernel_rfl)
theorem reads (os : Os) {H : Type} (enc : TypeId × Value → H) : ∃ places, DataW.whole enc Tryz.prog (({ World.holding Tryz.prog os ⟨#[], #[], []⟩ with heap := (((World.holding Tryz.prog os ⟨#[], #[], []⟩).heap.modify 0 (fun
      | .cells _ t frozen => .cells shpT t frozen
      | o => o)).modify 1 (fun
      | .cells _ t frozen => .cells widT t frozen
      | o => o)) } : World).forCall (fun _ _ => 0) ⟨#[], #[.agg #[.int .u8 0, .int .i64 0, .int .i64 0, .int .i64 0, .bool false, .string ⟨#[]⟩, .int .u8 0, .int .u8 0, .int .u8 0, .int .u8 0, .int .u8 0, .int .u8 0, .int .u8 0, .int .u8 0, .int .u8 0, .int .u8 0, .int .u8 0, .int .u8 0, .int .u8 0, .int .u8 0, .int .u8 0, .int .u8 0, .slice none 0 0]], []⟩).memory Tryz.f3.params.toList Rows.framePutsSpec.vars false #[Value.agg #[.int .u8 0, .int .i64 0, .int .i64 0, .int .i64 0, .bool false, .string ⟨#[]⟩, .int .u8 0, .int .u8 0, .int .u8 0, .int .u8 0, .int .u8 0, .int .u8 0, .int .u8 0, .int .u8 0, .int .u8 0, .int .u8 0, .int .u8 0, .int .u8 0, .int .u8 0, .int .u8 0, .int .u8 0, .int .u8 0, .slice none 0 0]].toList 8 = some ([.agg [.lit (.int .u8 0), .lit (.int .i64 0), .lit (.int .i64 0), .lit (.int .i64 0), .lit (.bool false), .lit (.string []), .agg [.lit (.int .u8 0), .lit (.int .u8 0), .lit (.int .u8 0), .lit (.int .u8 0), .lit (.int .u8 0), .lit (.int .u8 0), .lit (.int .u8 0), .lit (.int .u8 0), .lit (.int .u8 0), .lit (.int .u8 0), .lit (.int .u8 0), .lit (.int .u8 0), .lit (.int .u8 0), .lit (.int .u8 0), .lit (.int .u8 0), .lit (.int .u8 0)], .nil]], [], places) :=
  ⟨[], by kernel_rfl⟩

set_option maxRecDepth 100000 in
theorem lifted (os : Os) (started : os.Started) (H : Type) (enc : TypeId × Value → H) (F : Stop.Interp) :
    ReturnsInHanded {} Tryz.checked os 3 .any ((OpenSpec.ofChange Rows.framePutsSpec).preRow enc Tryz.prog Tryz.f3 Rows.framePutsRow.domain false Rows.framePutsRow.laid) (((OpenSpec.ofChange Rows.framePutsSpec).at F).post enc Tryz.prog Tryz.f3 false true false false) := by
  obtain ⟨places, hx⟩ := reads os enc
  refine returnsInHanded_of_row (C := Tryz.checked) (s := OpenSpec.ofChange Rows.framePutsSpec) own started (by kernel_rfl) Tryz.func3
    (witness_row_at (enc := enc) (C := Tryz.checked) false ({ World.holding Tryz.prog os ⟨#[], #[], []⟩ with heap := (((World.holding Tryz.prog os ⟨#[], #[], []⟩).heap.modify 0 (fun
      | .cells _ t frozen => .cells shpT t frozen
      | o => o)).modify 1 (fun
      | .cells _ t frozen => .cells widT t frozen
      | o => o)) } : World) #[.agg #[.int .u8 0, .int .i64 0, .int .i64 0, .int .i64 0, .bool false, .string ⟨#[]⟩, .int .u8 0, .int .u8 0, .int .u8 0, .int .u8 0, .int .u8 0, .int .u8 0, .int .u8 0, .int .u8 0, .int .u8 0, .int .u8 0, .int .u8 0, .int .u8 0, .int .u8 0, .int .u8 0, .int .u8 0, .int .u8 0, .slice none 0 0]] rfl (by kernel_rfl) (by kernel_rfl) (by kernel_rfl)
      (OpenSpec.preRow_of_cond 8 hx (by kernel_rfl) (fun k hk => by cases hk) (by kernel_rfl) (laid_met os))) ?_
  intro W base args ds gs before hval hW _ _ hsz hL _ _
  exact contract H enc W base args ds gs before hval hW hL hsz

theorem said : Rows.FramePutsSaid :=
  OpenClaim.holds_of_cond 3 Tryz.f3 rfl rfl rfl rfl rfl rfl rfl ⟨rfl, rfl, rfl, rfl, rfl⟩ rfl rfl rfl rfl rfl (by kernel_rfl) Tryz.func3 (by kernel_rfl)
    (of_decide_eq_true (by kernel_rfl)) (by unfold Func.isWrapper; first | (rw [if_pos (by decide +kernel)]; kernel_rfl) | (rw [if_neg (by decide +kernel)]; exact ⟨rfl, rfl⟩))
    (fun os started H enc _ F => by rw [OpenClaim.pre_eq_preRow]; exact lifted os started H enc F)

theorem plain (f : FuncId) (fn : Func) (hf : Tryz.pinned.checked.prog.funcNamed "sumpter/sumpterlaw18.FramePuts" = some f) (hfn : Tryz.pinned.checked.prog.funcs[f]? = some fn) :
    true = Tryz.pinned.checked.prog.looks [] ∧ ∀ (j : Nat) t, fn.params[j]? = some t → Tryz.pinned.checked.prog.wantsStandIn t = false := by
  obtain rfl : f = 3 := Option.some.inj ((show Tryz.prog.funcNamed "sumpter/sumpterlaw18.FramePuts" = some 3 by kernel_rfl).symm.trans hf) |>.symm
  obtain rfl : fn = Tryz.f3 := (Option.some.inj (Tryz.func3.symm.trans hfn)).symm
  refine ⟨by kernel_rfl, fun j t ht => ?_⟩
  rw [Tryz.params3] at ht
  have hm : t ∈ [25] := by simpa using Array.mem_of_getElem? ht
  have hall : ([25].all fun u => !Tryz.prog.wantsStandIn u) = true := by kernel_rfl
  exact (show Tryz.prog.wantsStandIn t = false by simpa using List.all_eq_true.1 hall t hm)
end Go.Proofs.YtmplpdjkhdaniaaGreatDoor.framePuts

namespace Go.Proofs.YtmplpdjkhdaniaaGreatDoor
/-- The card of FramePuts. -/
theorem framePuts_card : Rows.FramePutsCardSaid :=
  Claim7.holds_tied_plain_at .later [] _ _ _ _ framePuts.said (fun _ h => by cases h) (by kernel_rfl) (fun _ h => by cases h) framePuts_row_tie rfl ⟨rfl, rfl⟩ (by kernel_rfl) rfl framePuts.plain (by kernel_rfl)
#print axioms framePuts_card
end Go.Proofs.YtmplpdjkhdaniaaGreatDoor
