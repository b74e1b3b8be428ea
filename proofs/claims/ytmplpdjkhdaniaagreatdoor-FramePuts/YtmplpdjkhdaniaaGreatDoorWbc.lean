/-
  What build makes.
-/
import Derived.Test.YtmplpdjkhdaniaaGreatDoorWaz
namespace Go.Proofs.YtmplpdjkhdaniaaGreatDoor
open Go.RowKit
set_option maxRecDepth 100000

theorem nc16 : ∀ {l : List Int}, l.length = 16 → ∃ a b c d e f g h i j k m n o p q, l = [a, b, c, d, e, f, g, h, i, j, k, m, n, o, p, q]
  | [a, b, c, d, e, f, g, h, i, j, k, m, n, o, p, q], _ => ⟨a, b, c, d, e, f, g, h, i, j, k, m, n, o, p, q, rfl⟩
/-- The spans of a frame. -/
def spO (p : Fm) : List Sp := if hS p.k then p.sp else []
set_option maxHeartbeats 8000000 in
theorem buildF_any (p : Fm) (sv : Value) (w : World) (hi : FI w p sv) :
    Calls Tryz.prog 16 #[.agg (plA p sv)] w fun e w' => ∃ sv', e = .returned (frV p sv') ∧ RSp w' w.heap.size sv' (spO p) ∧ Below w.heap.size w w' := by
  obtain ⟨W1, hW1⟩ : ∃ W1, W1 = w.alloc (.cells (plA p sv) 33) := ⟨_, rfl⟩
  have b1 : Below w.heap.size w W1 := by rw [hW1]; exact al_below _ _
  have g1 : PF W1 w.heap.size 33 p sv := by rw [hW1]; exact PF.new w _ p sv
  have FK : Hid (∀ x, From W1 x → PC x w.heap.size p sv) := fun x hx => (g1.kept hx).pc hi.k.nl
  have HB1 : Hid (Below w.heap.size w W1) := b1
  have HNL : Hid (p.nc.length = 16) := hi.k.nl
  have CO : Hid (∀ x, From W1 x → Calls Tryz.prog 37 #[sv] x fun e w' => ∃ v', e = .returned v' ∧ RSp w' x.heap.size v' p.sp ∧ Below x.heap.size x w') := fun x hx => ownSpans_any x sv p.sp ((hi.s.kept b1).kept hx) hi.l
  have HNIL : Hid (∀ x, RSp x w.heap.size (.slice none 0 0) []) := fun x => RI.nil _ _ _ _
  have h0 := hi.k.k0
  have h1 := hi.k.k1
  obtain ⟨c0, c1, c2, c3, c4, c5, c22, cn⟩ := FK.out W1 (Below.refl _ _)
  obtain ⟨sa, sc, rfl, -, -, -⟩ := hi.s.shape
  clear b1 g1 hi
  have hcase : (p.k = 1 ∨ p.k = 2 ∨ p.k = 3 ∨ p.k = 4 ∨ p.k = 5 ∨ p.k = 6 ∨ p.k = 7 ∨ p.k = 8 ∨ p.k = 9 ∨ p.k = 10) ∨ (p.k ≠ 1 ∧ p.k ≠ 2 ∧ p.k ≠ 3 ∧ p.k ≠ 4 ∧ p.k ≠ 5 ∧ p.k ≠ 6 ∧ p.k ≠ 7 ∧ p.k ≠ 8 ∧ p.k ≠ 9 ∧ p.k ≠ 10) := by omega
  rcases hcase with hc | hc
  · rcases hc with hk | hk | hk | hk | hk | hk | hk | hk | hk | hk
    · have HV : Hid (frV p (.slice none 0 0) = .iface 69 (.agg #[])) := by unfold Hid frV; simp only [hk]; rfl
      have HSP : Hid (spO p = []) := by unfold spO; rw [hk]; rfl
      rw [hk] at c0
      clear FK CO hk h0 h1 cn HNL
      go_enter Tryz.func16, Tryz.ntmps16
      go_upto_region 1 with fail
      rw [← hW1]
      clear hW1
      go_wp2
      go_ret
      exact ⟨_, by rw [HV.out]; rfl, by rw [HSP.out]; exact HNIL.out W1, HB1.out⟩
    · have HSP : Hid (spO p = p.sp) := by unfold spO; rw [hk]; rfl
      have HV : Hid (∀ v, frV p v = .iface 72 (.agg #[.int .i64 p.n, v])) := fun v => by unfold frV; simp only [hk]; rfl
      rw [hk] at c0
      clear hk h0 h1 cn HNL
      go_enter Tryz.func16, Tryz.ntmps16
      go_upto_region 1 with fail
      rw [← hW1]
      clear hW1
      go_upto_region 5 with fail
      refine wp_region_held_drew (S := From W1) (by kernel_rfl) (Below.drew (Below.refl _ _)) (fun _ => ?_)
      refine wpAnyH_name (fun u0 hu0 => ?_)
      have bu0 : Below W1.heap.size W1 u0 := by rw [hu0.out]; exact Below.drew (Below.refl _ _)
      refine wpAnyH_take (i := 0) (oi := { dst := some 11, op := Op.fieldAddr 33 (Operand.tmp 1) 2, type := 0, pos := "frame.go:253", after := #[], guard := none }) (v := ?vr1) rfl (by kernel_rfl) (by kernel_rfl) (by kernel_rfl) (fun _ _ _ h => h) (Or.inl ⟨by rfl, ?yr1⟩) bu0 ?rr1
      case yr1 => (intro w hSw; go_simp; try with_reducible rfl)
      try simp only [Act.put, List.setIfInBounds_toArray, List.set_cons_zero, List.set_cons_succ]
      refine wpAnyH_take (i := 1) (oi := { dst := some 12, op := Op.load 3 (Operand.tmp 11), type := 3, pos := "frame.go:253", after := #[{ on := 0, ground := Ground.data }], guard := none }) (v := .int .i64 p.n) rfl (by kernel_rfl) (by kernel_rfl) (by kernel_rfl) (fun _ _ _ h => h) (Or.inl ⟨by rfl, ?yr2⟩) bu0 ?rr2
      case yr2 => (intro w hSw; have := (FK.out w hSw).c2; go_simp; try with_reducible rfl)
      try simp only [Act.put, List.setIfInBounds_toArray, List.set_cons_zero, List.set_cons_succ]
      refine wpAnyH_take (i := 2) (oi := { dst := some 13, op := Op.fieldAddr 33 (Operand.tmp 1) 7, type := 0, pos := "frame.go:253", after := #[], guard := none }) (v := ?vr3) rfl (by kernel_rfl) (by kernel_rfl) (by kernel_rfl) (fun _ _ _ h => h) (Or.inl ⟨by rfl, ?yr3⟩) bu0 ?rr3
      case yr3 => (intro w hSw; go_simp; try with_reducible rfl)
      try simp only [Act.put, List.setIfInBounds_toArray, List.set_cons_zero, List.set_cons_succ]
      refine wpAnyH_take (i := 3) (oi := { dst := some 14, op := Op.load 23 (Operand.tmp 13), type := 23, pos := "frame.go:253", after := #[{ on := 2, ground := Ground.data }], guard := none }) (v := .slice sa p.sp.length sc) rfl (by kernel_rfl) (by kernel_rfl) (by kernel_rfl) (fun _ _ _ h => h) (Or.inl ⟨by rfl, ?yr4⟩) bu0 ?rr4
      case yr4 => (intro w hSw; have := (FK.out w hSw).c22; go_simp; try with_reducible rfl)
      try simp only [Act.put, List.setIfInBounds_toArray, List.set_cons_zero, List.set_cons_succ]
      refine wpAnyH_ready (rs := [4]) (by kernel_rfl) (by simp) ?_
      refine AllReadyH.cons (o := { dst := some 15, op := Op.call { callee := Callee.value (Operand.func 37), args := #[Operand.tmp 14], argTypes := #[23] }, type := 23, pos := "frame.go:253", after := #[{ on := 3, ground := Ground.data }], guard := none }) rfl (fun KK hKK => ?_) ?_
      · go_simp
        refine (CO.out _ bu0).mono ?_
        rintro e u5' ⟨vu5, rfl, ou5, bu5'⟩
        obtain ⟨oa, oc, rfl, -, -, -⟩ := (RSp.is ou5).shape
        (try go_wp2_with fail)
        refine hKK.out _ _ (bu0.trans (Below.mono (bu5') bu0.size)) (fun _ => ?_)
        clear hKK KK
        try simp only [Act.put, List.setIfInBounds_toArray, List.set_cons_zero, List.set_cons_succ]
        refine wpAnyH_name (fun u5 hu5 => ?_)
        have bu5 : Below W1.heap.size W1 u5 := by rw [hu5.out]; exact (bu0.trans (Below.mono (bu5') bu0.size))
        have qu5 : Below u0.heap.size u0 u5 := by rw [hu5.out]; exact bu5'
        have OO : Hid (RSp u5 w.heap.size (.slice oa p.sp.length oc) p.sp) := by unfold Hid; rw [hu5.out]; exact RSp.mono ou5 (Nat.le_trans HB1.out.size (Below.size bu0))
        refine wpAnyH_take (i := 5) (oi := { dst := some 16, op := Op.build 72 #[(0, Operand.tmp 12), (1, Operand.tmp 15)], type := 72, pos := "frame.go:253", after := #[{ on := 1, ground := Ground.data }, { on := 4, ground := Ground.data }], guard := none }) (v := ?vr6) rfl (by kernel_rfl) (by kernel_rfl) (by kernel_rfl) (fun _ _ _ h => h) (Or.inl ⟨by rfl, ?yr6⟩) bu5 ?rr6
        case yr6 => (intro w hSw; go_simp; try with_reducible rfl)
        try simp only [Act.put, List.setIfInBounds_toArray, List.set_cons_zero, List.set_cons_succ]
        refine wpAnyH_take (i := 6) (oi := { dst := some 17, op := Op.makeInterface 72 (Operand.tmp 16), type := 29, pos := "frame.go:253", after := #[{ on := 5, ground := Ground.data }], guard := none }) (v := ?vr7) rfl (by kernel_rfl) (by kernel_rfl) (by kernel_rfl) (fun _ _ _ h => h) (Or.inl ⟨by rfl, ?yr7⟩) bu5 ?rr7
        case yr7 => (intro w hSw; go_simp; try with_reducible rfl)
        try simp only [Act.put, List.setIfInBounds_toArray, List.set_cons_zero, List.set_cons_succ]
        refine wpAnyH_take (i := 7) (oi := { dst := some 2, op := Op.assign (Operand.tmp 17), type := 29, pos := "frame.go:253", after := #[{ on := 6, ground := Ground.data }, { on := 4, ground := Ground.chain }, { on := 0, ground := Ground.phase }, { on := 1, ground := Ground.phase }, { on := 2, ground := Ground.phase }, { on := 3, ground := Ground.phase }, { on := 4, ground := Ground.phase }, { on := 5, ground := Ground.phase }, { on := 6, ground := Ground.phase }], guard := none }) (v := ?vr8) rfl (by kernel_rfl) (by kernel_rfl) (by kernel_rfl) (fun _ _ _ h => h) (Or.inl ⟨by rfl, ?yr8⟩) bu5 ?rr8
        case yr8 => (intro w hSw; go_simp; try with_reducible rfl)
        try simp only [Act.put, List.setIfInBounds_toArray, List.set_cons_zero, List.set_cons_succ]
        refine wpAnyH_done (by kernel_rfl) ?_ _
        have BZ : Hid (Below w.heap.size w u5) := HB1.out.trans (Below.mono bu5 HB1.out.size)
        clear FK CO c0 c1 c2 c3 c4 c5 c22
        go_wp2
        go_ret
        exact ⟨_, by rw [HV.out]; rfl, by rw [HSP.out]; exact OO.out, BZ.out⟩
      exact AllReadyH.nil
    · have HV : Hid (frV p (.slice none 0 0) = .iface 42 (.agg #[.int .i64 p.id, .int .i64 p.n, .bool p.fin, .string p.tx])) := by unfold Hid frV; simp only [hk]; rfl
      have HSP : Hid (spO p = []) := by unfold spO; rw [hk]; rfl
      rw [hk] at c0
      clear FK CO hk h0 h1 cn HNL
      go_enter Tryz.func16, Tryz.ntmps16
      go_upto_region 1 with fail
      rw [← hW1]
      clear hW1
      go_wp2
      go_ret
      exact ⟨_, by rw [HV.out]; rfl, by rw [HSP.out]; exact HNIL.out W1, HB1.out⟩
    · have HV : Hid (frV p (.slice none 0 0) = .iface 74 (.agg #[.int .i64 p.id, .int .i64 p.cd, .int .i64 p.n])) := by unfold Hid frV; simp only [hk]; rfl
      have HSP : Hid (spO p = []) := by unfold spO; rw [hk]; rfl
      rw [hk] at c0
      clear FK CO hk h0 h1 cn HNL
      go_enter Tryz.func16, Tryz.ntmps16
      go_upto_region 1 with fail
      rw [← hW1]
      clear hW1
      go_wp2
      go_ret
      exact ⟨_, by rw [HV.out]; rfl, by rw [HSP.out]; exact HNIL.out W1, HB1.out⟩
    · have HV : Hid (frV p (.slice none 0 0) = .iface 76 (.agg #[.int .i64 p.id, .int .i64 p.cd])) := by unfold Hid frV; simp only [hk]; rfl
      have HSP : Hid (spO p = []) := by unfold spO; rw [hk]; rfl
      rw [hk] at c0
      clear FK CO hk h0 h1 cn HNL
      go_enter Tryz.func16, Tryz.ntmps16
      go_upto_region 1 with fail
      rw [← hW1]
      clear hW1
      go_wp2
      go_ret
      exact ⟨_, by rw [HV.out]; rfl, by rw [HSP.out]; exact HNIL.out W1, HB1.out⟩
    · have HV : Hid (frV p (.slice none 0 0) = .iface 78 (.agg #[.int .i64 p.n])) := by unfold Hid frV; simp only [hk]; rfl
      have HSP : Hid (spO p = []) := by unfold spO; rw [hk]; rfl
      rw [hk] at c0
      clear FK CO hk h0 h1 cn HNL
      go_enter Tryz.func16, Tryz.ntmps16
      go_upto_region 1 with fail
      rw [← hW1]
      clear hW1
      go_wp2
      go_ret
      exact ⟨_, by rw [HV.out]; rfl, by rw [HSP.out]; exact HNIL.out W1, HB1.out⟩
    · have HV : Hid (frV p (.slice none 0 0) = .iface 80 (.agg #[.int .i64 p.id, .int .i64 p.n])) := by unfold Hid frV; simp only [hk]; rfl
      have HSP : Hid (spO p = []) := by unfold spO; rw [hk]; rfl
      rw [hk] at c0
      clear FK CO hk h0 h1 cn HNL
      go_enter Tryz.func16, Tryz.ntmps16
      go_upto_region 1 with fail
      rw [← hW1]
      clear hW1
      go_wp2
      go_ret
      exact ⟨_, by rw [HV.out]; rfl, by rw [HSP.out]; exact HNIL.out W1, HB1.out⟩
    · have HV : Hid (frV p (.slice none 0 0) = .iface 81 (.agg #[.int .i64 p.n])) := by unfold Hid frV; simp only [hk]; rfl
      have HSP : Hid (spO p = []) := by unfold spO; rw [hk]; rfl
      rw [hk] at c0
      clear FK CO hk h0 h1 cn HNL
      go_enter Tryz.func16, Tryz.ntmps16
      go_upto_region 1 with fail
      rw [← hW1]
      clear hW1
      go_wp2
      go_ret
      exact ⟨_, by rw [HV.out]; rfl, by rw [HSP.out]; exact HNIL.out W1, HB1.out⟩
    · have HV : Hid (frV p (.slice none 0 0) = .iface 83 (.agg (p.nc.map (Value.int .u8) ++ [Value.string p.tx]).toArray)) := by unfold Hid frV; simp only [hk]; rfl
      have HSP : Hid (spO p = []) := by unfold spO; rw [hk]; rfl
      rw [hk] at c0
      clear FK CO hk h0 h1
      go_enter Tryz.func16, Tryz.ntmps16
      go_upto_region 1 with fail
      rw [← hW1]
      clear hW1
      go_wp2_with (refine wpList_load_mid rfl 22 _ rfl w.heap.size 6 rfl (p.nc.map (Value.int .u8)) _ cn Tryz.underlying22 rfl (by rw [List.length_map, HNL.out]; exact infoNc) (Hid.out ?_))
      unfold Hid
      obtain ⟨x0, x1, x2, x3, x4, x5, x6, x7, x8, x9, xa, xb, xc, xd, xe, xf, hx⟩ := nc16 HNL.out
      rw [hx] at HV ⊢
      simp only [List.map_cons, List.map_nil] at HV ⊢
      clear cn HNL hx
      go_wp2
      go_ret
      exact ⟨_, by rw [HV.out]; rfl, by rw [HSP.out]; exact HNIL.out W1, HB1.out⟩
    · have HV : Hid (frV p (.slice none 0 0) = .iface 85 (.agg #[.int .i64 p.cd, .string p.tx])) := by unfold Hid frV; simp only [hk]; rfl
      have HSP : Hid (spO p = []) := by unfold spO; rw [hk]; rfl
      rw [hk] at c0
      clear FK CO hk h0 h1 cn HNL
      go_enter Tryz.func16, Tryz.ntmps16
      go_upto_region 1 with fail
      rw [← hW1]
      clear hW1
      go_wp2
      go_ret
      exact ⟨_, by rw [HV.out]; rfl, by rw [HSP.out]; exact HNIL.out W1, HB1.out⟩
  · obtain ⟨q1, q2, q3, q4, q5, q6, q7, q8, q9, q10⟩ := hc
    have HV : Hid (frV p (.slice none 0 0) = .nilIface) := by unfold Hid frV; rw [if_neg q1, if_neg q2, if_neg q3, if_neg q4, if_neg q5, if_neg q6, if_neg q7, if_neg q8, if_neg q9, if_neg q10]
    have HSP : Hid (spO p = []) := by unfold Hid spO hS; rw [if_neg (by simp [q2])]
    have t1 : (p.k == 1) = false := by simpa using q1
    have t2 : (p.k == 2) = false := by simpa using q2
    have t3 : (p.k == 3) = false := by simpa using q3
    have t4 : (p.k == 4) = false := by simpa using q4
    have t5 : (p.k == 5) = false := by simpa using q5
    have t6 : (p.k == 6) = false := by simpa using q6
    have t7 : (p.k == 7) = false := by simpa using q7
    have t8 : (p.k == 8) = false := by simpa using q8
    have t9 : (p.k == 9) = false := by simpa using q9
    have t10 : (p.k == 10) = false := by simpa using q10
    clear FK CO HNL q1 q2 q3 q4 q5 q6 q7 q8 q9 q10 c1 c2 c3 c4 c5 c22 cn h0 h1
    generalize p.k = kk at *
    go_enter Tryz.func16, Tryz.ntmps16
    go_upto_region 1 with fail
    rw [← hW1]
    clear hW1
    go_wp2
    go_ret
    exact ⟨_, by rw [HV.out]; rfl, by rw [HSP.out]; exact HNIL.out W1, HB1.out⟩
end Go.Proofs.YtmplpdjkhdaniaaGreatDoor
