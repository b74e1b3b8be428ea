/-
  Spans of one's own; what build makes.
  What build makes.
  What flatten tells.
  What flatten tells.
  What flatten tells of a frame.
-/
import Derived.Test.YtjjjomikgpnahaaDoorFc
import Derived.Deep.AppendSrc
namespace Go.Proofs.YtjjjomikgpnahaaDoor
open Go.RowKit
set_option maxRecDepth 100000

theorem is_flat {k : Nat} {w : World} {b off n c : Nat} {L : List (List Value)} (h : IS k w (.slice (some ⟨b, off, none⟩) n c) L) (hk : 0 < k) : ∀ j u, L.flatten[j]? = some u → w.cell? ((⟨b, off, none⟩ : Addr).add j) = some u := fun j u hj => by
  have hl : j < L.length * k := by rw [← h.cl.flat]; exact (List.getElem?_eq_some_iff.1 hj).1
  have hi : j / k < L.length := (Nat.div_lt_iff_lt_mul hk).2 hl
  have hm : j % k < k := Nat.mod_lt _ hk
  have hcl := (h.cl _ (atC_mem L _ hi)).1
  obtain ⟨v, hv⟩ : ∃ v, (atC L (j / k))[j % k]? = some v := ⟨(atC L (j / k))[j % k]'(by rw [hcl]; exact hm), List.getElem?_eq_getElem _⟩
  have e := h.cl.get hi hv
  rw [Nat.div_add_mod' j k, hj] at e
  cases e
  obtain ⟨b', off', e', hr⟩ := h.at _ hi
  cases e'
  have q := hr _ _ hv
  rw [Addr.add_lit]
  rwa [Nat.add_assoc, Nat.div_add_mod' j k] at q
theorem infoSp : (Tryd.prog.info? 109).map (fun i => (i.zero, i.size, i.bytes)) = some (some (.agg #[.int .i64 0, .int .i64 0]), 2, 16) := by kernel_rfl
set_option maxHeartbeats 1000000 in
theorem ownSpans_any (w : World) (v : Value) (l : List Sp) (h : SSp w v l) (hl : l.length ≤ 100000) :
    Calls Tryd.prog 29 #[v] w fun e w' => ∃ v', e = .returned v' ∧ RSp w' w.heap.size v' l ∧ Below w.heap.size w w' := by
  obtain ⟨a, c, rfl, h1, h2, h3⟩ := h.shape
  obtain ⟨i0, hi, hz0, hz1, hz2⟩ := info_parts infoSp
  have h0 : RSp w w.heap.size (.slice none 0 0) [] := RI.nil _ _ _ _
  cases a with
  | none =>
    obtain rfl : c = 0 := h3 rfl
    obtain rfl : l = [] := List.length_eq_zero_iff.1 (by omega)
    clear h hi hz0 hz1 hz2
    go_enter Tryd.func29, Tryd.ntmps29
    go_wp2
    go_ret
    exact ⟨_, rfl, h0, Below.refl _ _⟩
  | some x =>
    obtain ⟨b, off, sp⟩ := x
    have hsp : l ≠ [] → sp = none := fun hn => by
      obtain ⟨b', off', e, -⟩ := SSp.at h 0 (List.length_pos_iff.2 hn)
      cases e
      rfl
    have hcl : ((l.map spc).flatten).length = l.length * 2 := by rw [(spc_cl l).flat, List.length_map]
    have hc : ∀ j u, (l.map spc).flatten[j]? = some u → w.cell? ((⟨b, off, sp⟩ : Addr).add j) = some u := fun j u hj => by
      have hn : l ≠ [] := fun e => by rw [e] at hj; simp at hj
      obtain rfl := hsp hn
      exact is_flat h (by omega) j u hj
    have HO : Hid (∀ v' w', w'.ownsRow w.heap.size 109 2 v' (0 + l.length) ([] ++ (l.map spc).flatten) → RSp w' w.heap.size v' l) := fun v' w' ho => ⟨by rw [Nat.zero_add, List.nil_append] at ho; rw [List.length_map]; exact ho, spc_cl l⟩
    have h1' := (spc_cl l).ones
    have HO2 : Hid (∀ v' w', w'.ownsRow w.heap.size 109 2 v' l.length (l.map spc).flatten → RSp w' w.heap.size v' l) := fun v' w' ho => HO.out v' w' (by rw [Nat.zero_add, List.nil_append]; exact ho)
    clear HO
    generalize (l.map spc).flatten = F at *
    generalize l.length = n at *
    go_enter Tryd.func29, Tryd.ntmps29
    go_wp2_with (at_builtin; refine wpList_append_own_wide w rfl _ _ 28 rfl w.heap.size 109 i0 _ 2 16 Tryd.underlying28 hi hz0 hz1 hz2 rfl (by decide) _ 0 [] rfl (World.ownsRow_nil _ _ _ _) ⟨b, off, sp⟩ n c F rfl hcl hc h1' (by unfold maxLen; omega) (by omega) (Nat.le_refl _) (Hid.out ?_))
    unfold Hid
    intro v' w' ho hg hx
    go_wp2
    go_ret
    exact ⟨_, rfl, HO2.out _ _ ho, (Below.refl _ _).grown hg (Nat.le_refl _) (fun k e => by cases e)⟩
/-- The value of a frame, its Spans being some slice. -/
def frV (p : Fm) (sv : Value) : Value :=
  if p.k = 1 then .iface 70 (.agg #[])
  else if p.k = 2 then .iface 73 (.agg #[.int .i64 p.n, sv])
  else if p.k = 3 then .iface 46 (.agg #[.int .i64 p.id, .int .i64 p.n, .bool p.fin, .string p.tx])
  else if p.k = 4 then .iface 75 (.agg #[.int .i64 p.id, .int .i64 p.cd, .int .i64 p.n])
  else if p.k = 5 then .iface 77 (.agg #[.int .i64 p.id, .int .i64 p.cd])
  else if p.k = 6 then .iface 79 (.agg #[.int .i64 p.n])
  else if p.k = 7 then .iface 81 (.agg #[.int .i64 p.id, .int .i64 p.n])
  else if p.k = 8 then .iface 82 (.agg #[.int .i64 p.n])
  else if p.k = 9 then .iface 84 (.agg (p.nc.map (Value.int .u8) ++ [Value.string p.tx]).toArray)
  else if p.k = 10 then .iface 86 (.agg #[.int .i64 p.cd, .string p.tx])
  else .nilIface
end Go.Proofs.YtjjjomikgpnahaaDoor
namespace Go.Proofs.YtjjjomikgpnahaaDoor
open Go.RowKit
set_option maxRecDepth 100000

theorem nc16 : ∀ {l : List Int}, l.length = 16 → ∃ a b c d e f g h i j k m n o p q, l = [a, b, c, d, e, f, g, h, i, j, k, m, n, o, p, q]
  | [a, b, c, d, e, f, g, h, i, j, k, m, n, o, p, q], _ => ⟨a, b, c, d, e, f, g, h, i, j, k, m, n, o, p, q, rfl⟩
/-- The spans of a frame. -/
def spO (p : Fm) : List Sp := if hS p.k then p.sp else []
set_option maxHeartbeats 8000000 in
theorem buildF_any (p : Fm) (sv : Value) (w : World) (hi : FI w p sv) :
    Calls Tryd.prog 16 #[.agg (plA p sv)] w fun e w' => ∃ sv', e = .returned (frV p sv') ∧ RSp w' w.heap.size sv' (spO p) ∧ Below w.heap.size w w' := by
  obtain ⟨W1, hW1⟩ : ∃ W1, W1 = w.alloc (.cells (plA p sv) 36) := ⟨_, rfl⟩
  have b1 : Below w.heap.size w W1 := by rw [hW1]; exact al_below _ _
  have g1 : PF W1 w.heap.size 36 p sv := by rw [hW1]; exact PF.new w _ p sv
  have FK : Hid (∀ x, From W1 x → PC x w.heap.size p sv) := fun x hx => (g1.kept hx).pc hi.k.nl
  have HB1 : Hid (Below w.heap.size w W1) := b1
  have HNL : Hid (p.nc.length = 16) := hi.k.nl
  have CO : Hid (∀ x, From W1 x → Calls Tryd.prog 29 #[sv] x fun e w' => ∃ v', e = .returned v' ∧ RSp w' x.heap.size v' p.sp ∧ Below x.heap.size x w') := fun x hx => ownSpans_any x sv p.sp ((hi.s.kept b1).kept hx) hi.l
  have HNIL : Hid (∀ x, RSp x w.heap.size (.slice none 0 0) []) := fun x => RI.nil _ _ _ _
  have h0 := hi.k.k0
  have h1 := hi.k.k1
  obtain ⟨c0, c1, c2, c3, c4, c5, c22, cn⟩ := FK.out W1 (Below.refl _ _)
  obtain ⟨sa, sc, rfl, -, -, -⟩ := hi.s.shape
  clear b1 g1 hi
  have hcase : (p.k = 1 ∨ p.k = 2 ∨ p.k = 3 ∨ p.k = 4 ∨ p.k = 5 ∨ p.k = 6 ∨ p.k = 7 ∨ p.k = 8 ∨ p.k = 9 ∨ p.k = 10) ∨ (p.k ≠ 1 ∧ p.k ≠ 2 ∧ p.k ≠ 3 ∧ p.k ≠ 4 ∧ p.k ≠ 5 ∧ p.k ≠ 6 ∧ p.k ≠ 7 ∧ p.k ≠ 8 ∧ p.k ≠ 9 ∧ p.k ≠ 10) := by omega
  rcases hcase with hc | hc
  · rcases hc with hk | hk | hk | hk | hk | hk | hk | hk | hk | hk
    · have HV : Hid (frV p (.slice none 0 0) = .iface 70 (.agg #[])) := by unfold Hid frV; simp only [hk]; rfl
      have HSP : Hid (spO p = []) := by unfold spO; rw [hk]; rfl
      rw [hk] at c0
      clear FK CO hk h0 h1 cn HNL
      go_enter Tryd.func16, Tryd.ntmps16
      go_upto_region 1 with fail
      rw [← hW1]
      clear hW1
      go_wp2
      go_ret
      exact ⟨_, by rw [HV.out]; rfl, by rw [HSP.out]; exact HNIL.out W1, HB1.out⟩
    · have HSP : Hid (spO p = p.sp) := by unfold spO; rw [hk]; rfl
      have HV : Hid (∀ v, frV p v = .iface 73 (.agg #[.int .i64 p.n, v])) := fun v => by unfold frV; simp only [hk]; rfl
      rw [hk] at c0
      clear hk h0 h1 cn HNL
      go_enter Tryd.func16, Tryd.ntmps16
      go_upto_region 1 with fail
      rw [← hW1]
      clear hW1
      go_upto_region 5 with fail
      refine wp_region_held_drew (S := From W1) (by kernel_rfl) (Below.drew (Below.refl _ _)) (fun _ => ?_)
      refine wpAnyH_name (fun u0 hu0 => ?_)
      have bu0 : Below W1.heap.size W1 u0 := by rw [hu0.out]; exact Below.drew (Below.refl _ _)
      refine wpAnyH_take (i := 0) (oi := { dst := some 11, op := Op.fieldAddr 36 (Operand.tmp 1) 2, type := 0, pos := "frame.go:253", after := #[], guard := none }) (v := ?vr1) rfl (by kernel_rfl) (by kernel_rfl) (by kernel_rfl) (fun _ _ _ h => h) (Or.inl ⟨by rfl, ?yr1⟩) bu0 ?rr1
      case yr1 => (intro w hSw; go_simp; try with_reducible rfl)
      try simp only [Act.put, List.setIfInBounds_toArray, List.set_cons_zero, List.set_cons_succ]
      refine wpAnyH_take (i := 1) (oi := { dst := some 12, op := Op.load 3 (Operand.tmp 11), type := 3, pos := "frame.go:253", after := #[{ on := 0, ground := Ground.data }], guard := none }) (v := .int .i64 p.n) rfl (by kernel_rfl) (by kernel_rfl) (by kernel_rfl) (fun _ _ _ h => h) (Or.inl ⟨by rfl, ?yr2⟩) bu0 ?rr2
      case yr2 => (intro w hSw; have := (FK.out w hSw).c2; go_simp; try with_reducible rfl)
      try simp only [Act.put, List.setIfInBounds_toArray, List.set_cons_zero, List.set_cons_succ]
      refine wpAnyH_take (i := 2) (oi := { dst := some 13, op := Op.fieldAddr 36 (Operand.tmp 1) 7, type := 0, pos := "frame.go:253", after := #[], guard := none }) (v := ?vr3) rfl (by kernel_rfl) (by kernel_rfl) (by kernel_rfl) (fun _ _ _ h => h) (Or.inl ⟨by rfl, ?yr3⟩) bu0 ?rr3
      case yr3 => (intro w hSw; go_simp; try with_reducible rfl)
      try simp only [Act.put, List.setIfInBounds_toArray, List.set_cons_zero, List.set_cons_succ]
      refine wpAnyH_take (i := 3) (oi := { dst := some 14, op := Op.load 28 (Operand.tmp 13), type := 28, pos := "frame.go:253", after := #[{ on := 2, ground := Ground.data }], guard := none }) (v := .slice sa p.sp.length sc) rfl (by kernel_rfl) (by kernel_rfl) (by kernel_rfl) (fun _ _ _ h => h) (Or.inl ⟨by rfl, ?yr4⟩) bu0 ?rr4
      case yr4 => (intro w hSw; have := (FK.out w hSw).c22; go_simp; try with_reducible rfl)
      try simp only [Act.put, List.setIfInBounds_toArray, List.set_cons_zero, List.set_cons_succ]
      refine wpAnyH_ready (rs := [4]) (by kernel_rfl) (by simp) ?_
      refine AllReadyH.cons (o := { dst := some 15, op := Op.call { callee := Callee.value (Operand.func 29), args := #[Operand.tmp 14], argTypes := #[28] }, type := 28, pos := "frame.go:253", after := #[{ on := 3, ground := Ground.data }], guard := none }) rfl (fun KK hKK => ?_) ?_
      · go_simp
        refine (CO.out _ bu0).mono ?_
        rintro e u5' ⟨vu5, rfl, ou5, bu5'⟩
        obtain ⟨oa, oc, rfl, -, -, -⟩ := (RSp.is ou5).shape
        (try go_wp2_with fail)
        refine hKK.out _ _ (bu0.trans (Below.mono (bu5') bu0.size)) (fun _ => ?_)
        clear hKK KK
        try simp only [Act.put, List.setIfInBounds_toArray, List.set_cons_zero, List.set_cons_succ]
        refine wpAnyH_name (fun u5 hu5 => ?_)
        have bu5 : Below W1.heap.size W1 u5 := by rw [hu5.out]; exact (bu0.trans (Below.mono (bu5') bu0.size))
        have qu5 : Below u0.heap.size u0 u5 := by rw [hu5.out]; exact bu5'
        have OO : Hid (RSp u5 w.heap.size (.slice oa p.sp.length oc) p.sp) := by unfold Hid; rw [hu5.out]; exact RSp.mono ou5 (Nat.le_trans HB1.out.size (Below.size bu0))
        refine wpAnyH_take (i := 5) (oi := { dst := some 16, op := Op.build 73 #[(0, Operand.tmp 12), (1, Operand.tmp 15)], type := 73, pos := "frame.go:253", after := #[{ on := 1, ground := Ground.data }, { on := 4, ground := Ground.data }], guard := none }) (v := ?vr6) rfl (by kernel_rfl) (by kernel_rfl) (by kernel_rfl) (fun _ _ _ h => h) (Or.inl ⟨by rfl, ?yr6⟩) bu5 ?rr6
        case yr6 => (intro w hSw; go_simp; try with_reducible rfl)
        try simp only [Act.put, List.setIfInBounds_toArray, List.set_cons_zero, List.set_cons_succ]
        refine wpAnyH_take (i := 6) (oi := { dst := some 17, op := Op.makeInterface 73 (Operand.tmp 16), type := 32, pos := "frame.go:253", after := #[{ on := 5, ground := Ground.data }], guard := none }) (v := ?vr7) rfl (by kernel_rfl) (by kernel_rfl) (by kernel_rfl) (fun _ _ _ h => h) (Or.inl ⟨by rfl, ?yr7⟩) bu5 ?rr7
        case yr7 => (intro w hSw; go_simp; try with_reducible rfl)
        try simp only [Act.put, List.setIfInBounds_toArray, List.set_cons_zero, List.set_cons_succ]
        refine wpAnyH_take (i := 7) (oi := { dst := some 2, op := Op.assign (Operand.tmp 17), type := 32, pos := "frame.go:253", after := #[{ on := 6, ground := Ground.data }, { on := 4, ground := Ground.chain }, { on := 0, ground := Ground.phase }, { on := 1, ground := Ground.phase }, { on := 2, ground := Ground.phase }, { on := 3, ground := Ground.phase }, { on := 4, ground := Ground.phase }, { on := 5, ground := Ground.phase }, { on := 6, ground := Ground.phase }], guard := none }) (v := ?vr8) rfl (by kernel_rfl) (by kernel_rfl) (by kernel_rfl) (fun _ _ _ h => h) (Or.inl ⟨by rfl, ?yr8⟩) bu5 ?rr8
        case yr8 => (intro w hSw; go_simp; try with_reducible rfl)
        try simp only [Act.put, List.setIfInBounds_toArray, List.set_cons_zero, List.set_cons_succ]
        refine wpAnyH_done (by kernel_rfl) ?_ _
        have BZ : Hid (Below w.heap.size w u5) := HB1.out.trans (Below.mono bu5 HB1.out.size)
        clear FK CO c0 c1 c2 c3 c4 c5 c22
        go_wp2
        go_ret
        exact ⟨_, by rw [HV.out]; rfl, by rw [HSP.out]; exact OO.out, BZ.out⟩
      exact AllReadyH.nil
    · have HV : Hid (frV p (.slice none 0 0) = .iface 46 (.agg #[.int .i64 p.id, .int .i64 p.n, .bool p.fin, .string p.tx])) := by unfold Hid frV; simp only [hk]; rfl
      have HSP : Hid (spO p = []) := by unfold spO; rw [hk]; rfl
      rw [hk] at c0
      clear FK CO hk h0 h1 cn HNL
      go_enter Tryd.func16, Tryd.ntmps16
      go_upto_region 1 with fail
      rw [← hW1]
      clear hW1
      go_wp2
      go_ret
      exact ⟨_, by rw [HV.out]; rfl, by rw [HSP.out]; exact HNIL.out W1, HB1.out⟩
    · have HV : Hid (frV p (.slice none 0 0) = .iface 75 (.agg #[.int .i64 p.id, .int .i64 p.cd, .int .i64 p.n])) := by unfold Hid frV; simp only [hk]; rfl
      have HSP : Hid (spO p = []) := by unfold spO; rw [hk]; rfl
      rw [hk] at c0
      clear FK CO hk h0 h1 cn HNL
      go_enter Tryd.func16, Tryd.ntmps16
      go_upto_region 1 with fail
      rw [← hW1]
      clear hW1
      go_wp2
      go_ret
      exact ⟨_, by rw [HV.out]; rfl, by rw [HSP.out]; exact HNIL.out W1, HB1.out⟩
    · have HV : Hid (frV p (.slice none 0 0) = .iface 77 (.agg #[.int .i64 p.id, .int .i64 p.cd])) := by unfold Hid frV; simp only [hk]; rfl
      have HSP : Hid (spO p = []) := by unfold spO; rw [hk]; rfl
      rw [hk] at c0
      clear FK CO hk h0 h1 cn HNL
      go_enter Tryd.func16, Tryd.ntmps16
      go_upto_region 1 with fail
      rw [← hW1]
      clear hW1
      go_wp2
      go_ret
      exact ⟨_, by rw [HV.out]; rfl, by rw [HSP.out]; exact HNIL.out W1, HB1.out⟩
    · have HV : Hid (frV p (.slice none 0 0) = .iface 79 (.agg #[.int .i64 p.n])) := by unfold Hid frV; simp only [hk]; rfl
      have HSP : Hid (spO p = []) := by unfold spO; rw [hk]; rfl
      rw [hk] at c0
      clear FK CO hk h0 h1 cn HNL
      go_enter Tryd.func16, Tryd.ntmps16
      go_upto_region 1 with fail
      rw [← hW1]
      clear hW1
      go_wp2
      go_ret
      exact ⟨_, by rw [HV.out]; rfl, by rw [HSP.out]; exact HNIL.out W1, HB1.out⟩
    · have HV : Hid (frV p (.slice none 0 0) = .iface 81 (.agg #[.int .i64 p.id, .int .i64 p.n])) := by unfold Hid frV; simp only [hk]; rfl
      have HSP : Hid (spO p = []) := by unfold spO; rw [hk]; rfl
      rw [hk] at c0
      clear FK CO hk h0 h1 cn HNL
      go_enter Tryd.func16, Tryd.ntmps16
      go_upto_region 1 with fail
      rw [← hW1]
      clear hW1
      go_wp2
      go_ret
      exact ⟨_, by rw [HV.out]; rfl, by rw [HSP.out]; exact HNIL.out W1, HB1.out⟩
    · have HV : Hid (frV p (.slice none 0 0) = .iface 82 (.agg #[.int .i64 p.n])) := by unfold Hid frV; simp only [hk]; rfl
      have HSP : Hid (spO p = []) := by unfold spO; rw [hk]; rfl
      rw [hk] at c0
      clear FK CO hk h0 h1 cn HNL
      go_enter Tryd.func16, Tryd.ntmps16
      go_upto_region 1 with fail
      rw [← hW1]
      clear hW1
      go_wp2
      go_ret
      exact ⟨_, by rw [HV.out]; rfl, by rw [HSP.out]; exact HNIL.out W1, HB1.out⟩
    · have HV : Hid (frV p (.slice none 0 0) = .iface 84 (.agg (p.nc.map (Value.int .u8) ++ [Value.string p.tx]).toArray)) := by unfold Hid frV; simp only [hk]; rfl
      have HSP : Hid (spO p = []) := by unfold spO; rw [hk]; rfl
      rw [hk] at c0
      clear FK CO hk h0 h1
      go_enter Tryd.func16, Tryd.ntmps16
      go_upto_region 1 with fail
      rw [← hW1]
      clear hW1
      go_wp2_with (refine wpList_load_mid rfl 27 _ rfl w.heap.size 6 rfl (p.nc.map (Value.int .u8)) _ cn Tryd.underlying27 rfl (by rw [List.length_map, HNL.out]; exact infoNc) (Hid.out ?_))
      unfold Hid
      obtain ⟨x0, x1, x2, x3, x4, x5, x6, x7, x8, x9, xa, xb, xc, xd, xe, xf, hx⟩ := nc16 HNL.out
      rw [hx] at HV ⊢
      simp only [List.map_cons, List.map_nil] at HV ⊢
      clear cn HNL hx
      go_wp2
      go_ret
      exact ⟨_, by rw [HV.out]; rfl, by rw [HSP.out]; exact HNIL.out W1, HB1.out⟩
    · have HV : Hid (frV p (.slice none 0 0) = .iface 86 (.agg #[.int .i64 p.cd, .string p.tx])) := by unfold Hid frV; simp only [hk]; rfl
      have HSP : Hid (spO p = []) := by unfold spO; rw [hk]; rfl
      rw [hk] at c0
      clear FK CO hk h0 h1 cn HNL
      go_enter Tryd.func16, Tryd.ntmps16
      go_upto_region 1 with fail
      rw [← hW1]
      clear hW1
      go_wp2
      go_ret
      exact ⟨_, by rw [HV.out]; rfl, by rw [HSP.out]; exact HNIL.out W1, HB1.out⟩
  · obtain ⟨q1, q2, q3, q4, q5, q6, q7, q8, q9, q10⟩ := hc
    have HV : Hid (frV p (.slice none 0 0) = .nilIface) := by unfold Hid frV; rw [if_neg q1, if_neg q2, if_neg q3, if_neg q4, if_neg q5, if_neg q6, if_neg q7, if_neg q8, if_neg q9, if_neg q10]
    have HSP : Hid (spO p = []) := by unfold Hid spO hS; rw [if_neg (by simp [q2])]
    have t1 : (p.k == 1) = false := by simpa using q1
    have t2 : (p.k == 2) = false := by simpa using q2
    have t3 : (p.k == 3) = false := by simpa using q3
    have t4 : (p.k == 4) = false := by simpa using q4
    have t5 : (p.k == 5) = false := by simpa using q5
    have t6 : (p.k == 6) = false := by simpa using q6
    have t7 : (p.k == 7) = false := by simpa using q7
    have t8 : (p.k == 8) = false := by simpa using q8
    have t9 : (p.k == 9) = false := by simpa using q9
    have t10 : (p.k == 10) = false := by simpa using q10
    clear FK CO HNL q1 q2 q3 q4 q5 q6 q7 q8 q9 q10 c1 c2 c3 c4 c5 c22 cn h0 h1
    generalize p.k = kk at *
    go_enter Tryd.func16, Tryd.ntmps16
    go_upto_region 1 with fail
    rw [← hW1]
    clear hW1
    go_wp2
    go_ret
    exact ⟨_, by rw [HV.out]; rfl, by rw [HSP.out]; exact HNIL.out W1, HB1.out⟩
end Go.Proofs.YtjjjomikgpnahaaDoor
namespace Go.Proofs.YtjjjomikgpnahaaDoor
open Go.RowKit
set_option maxRecDepth 100000

set_option maxHeartbeats 8000000 in
theorem flat2 (n : Int) (sv : Value) (l : List Sp) (w : World) (hs : SSp w sv l) (hl : l.length ≤ 100000) :
    Calls Tryd.prog 17 #[.iface 73 (.agg #[.int .i64 n, sv])] w fun e w' => ∃ sv', e = .returned (.agg (plA ⟨2, 0, n, 0, false, ⟨#[]⟩, zn, l⟩ sv')) ∧ RSp w' w.heap.size sv' l ∧ Below w.heap.size w w' := by
  obtain ⟨W1, hW1⟩ : ∃ W1, W1 = w.alloc (.cells #[.int .u8 0, .int .i64 0, .int .i64 0, .int .i64 0, .bool false, .string ⟨#[]⟩, .int .u8 0, .int .u8 0, .int .u8 0, .int .u8 0, .int .u8 0, .int .u8 0, .int .u8 0, .int .u8 0, .int .u8 0, .int .u8 0, .int .u8 0, .int .u8 0, .int .u8 0, .int .u8 0, .int .u8 0, .int .u8 0, .slice none 0 0] 36) := ⟨_, rfl⟩
  have b1 : Below w.heap.size w W1 := by rw [hW1]; exact al_below _ _
  have g1 : W1.heap[w.heap.size]? = some (.cells #[.int .u8 0, .int .i64 0, .int .i64 0, .int .i64 0, .bool false, .string ⟨#[]⟩, .int .u8 0, .int .u8 0, .int .u8 0, .int .u8 0, .int .u8 0, .int .u8 0, .int .u8 0, .int .u8 0, .int .u8 0, .int .u8 0, .int .u8 0, .int .u8 0, .int .u8 0, .int .u8 0, .int .u8 0, .int .u8 0, .slice none 0 0] 36 (0, 0)) := by rw [hW1]; exact heap_alloc_new _ _
  obtain ⟨W2, hW2⟩ : ∃ W2, W2 = W1.alloc (.cells #[.int .i64 n, sv] 73) := ⟨_, rfl⟩
  have b2 : Below W1.heap.size W1 W2 := by rw [hW2]; exact al_below _ _
  have h2 : W2.heap[W1.heap.size]? = some (.cells #[.int .i64 n, sv] 73 (0, 0)) := by rw [hW2]; exact heap_alloc_new _ _
  have HG2 : Hid (W2.heap[w.heap.size]? = some (.cells #[.int .u8 0, .int .i64 0, .int .i64 0, .int .i64 0, .bool false, .string ⟨#[]⟩, .int .u8 0, .int .u8 0, .int .u8 0, .int .u8 0, .int .u8 0, .int .u8 0, .int .u8 0, .int .u8 0, .int .u8 0, .int .u8 0, .int .u8 0, .int .u8 0, .int .u8 0, .int .u8 0, .int .u8 0, .int .u8 0, .slice none 0 0] 36 (0, 0))) := blk_kept g1 b2 (blk_lt g1)
  have hlt1 : w.heap.size < W1.heap.size := blk_lt g1
  have HNE : Hid (w.heap.size ≠ W1.heap.size) := by unfold Hid; omega
  have HH2 : Hid (W2.heap[W1.heap.size]? = some (.cells #[.int .i64 n, sv] 73 (0, 0))) := h2
  have HB2 : Hid (Below w.heap.size w W2) := b1.trans (b2.mono b1.size)
  have HLT : Hid (W1.heap.size < W2.heap.size) := blk_lt h2
  have CO : Hid (∀ x, Below w.heap.size w x → Calls Tryd.prog 29 #[sv] x fun e w' => ∃ v', e = .returned v' ∧ RSp w' x.heap.size v' l ∧ Below x.heap.size x w') := fun x hx => ownSpans_any x sv l (hs.kept hx) hl
  obtain ⟨sa, sc, rfl, -, -, -⟩ := hs.shape
  have HSZ : Hid (∀ v, (Tryd.prog.info? 36).map (·.size) = some (plA ⟨2, 0, n, 0, false, ⟨#[]⟩, zn, l⟩ v).size) := fun v => infoP
  have HON : Hid (∀ (a : Option Addr) (m c : Nat), (plA ⟨2, 0, n, 0, false, ⟨#[]⟩, zn, l⟩ (.slice a m c)).all (·.oneCell') = true) := fun a m c => all_oneCell_toArray (plL_one rfl)
  have a1 : ∀ (v : Value) (W : World), (Instr.typeAssert (.iface 73 v) 32 70 true).run Tryd.prog W = .ok (.tuple #[.agg #[], .bool false]) W := fun v W => by kernel_rfl
  have a2 : ∀ (v : Value) (W : World), (Instr.typeAssert (.iface 73 v) 32 73 true).run Tryd.prog W = .ok (.tuple #[v, .bool true]) W := fun v W => by kernel_rfl
  clear b1 g1 b2 h2 hs hlt1
  go_enter Tryd.func17, Tryd.ntmps17
  go_upto_region 1 with fail
  rw [← hW1]
  clear hW1
  go_upto_region 7 with fail
  rw [← hW2]
  clear hW2
  refine wp_region_held_drew (S := fun x : World => Below w.heap.size w x ∧ W2.heap.size ≤ x.heap.size ∧ x.heap[W1.heap.size]? = some (.cells #[.int .i64 n, .slice sa l.length sc] 73 (0, 0))) (by kernel_rfl) (⟨HB2.out.drew, Nat.le_refl _, HH2.out⟩) (fun _ => ?_)
  refine wpAnyH_name (fun u0 hu0 => ?_)
  have su0 : (fun x : World => Below w.heap.size w x ∧ W2.heap.size ≤ x.heap.size ∧ x.heap[W1.heap.size]? = some (.cells #[.int .i64 n, .slice sa l.length sc] 73 (0, 0))) u0 := by rw [hu0.out]; exact (⟨HB2.out.drew, Nat.le_refl _, HH2.out⟩)
  have g0u0 : u0.heap[w.heap.size]? = some (.cells #[.int .u8 0, .int .i64 0, .int .i64 0, .int .i64 0, .bool false, .string ⟨#[]⟩, .int .u8 0, .int .u8 0, .int .u8 0, .int .u8 0, .int .u8 0, .int .u8 0, .int .u8 0, .int .u8 0, .int .u8 0, .int .u8 0, .int .u8 0, .int .u8 0, .int .u8 0, .int .u8 0, .int .u8 0, .int .u8 0, .slice none 0 0] 36 (0, 0)) := by rw [hu0.out]; exact HG2.out
  refine wpAnyH_take (i := 0) (oi := { dst := some 21, op := Op.fieldAddr 73 (Operand.tmp 4) 0, type := 0, pos := "frame.go:226", after := #[], guard := none }) (v := ?vr1) rfl (by kernel_rfl) (by kernel_rfl) (by kernel_rfl) (fun _ _ _ h => h) (Or.inl ⟨by rfl, ?yr1⟩) su0 ?rr1
  case yr1 => (intro w hSw; go_simp; try with_reducible rfl)
  try simp only [Act.put, List.setIfInBounds_toArray, List.set_cons_zero, List.set_cons_succ]
  refine wpAnyH_take (i := 1) (oi := { dst := some 22, op := Op.load 3 (Operand.tmp 21), type := 3, pos := "frame.go:226", after := #[{ on := 0, ground := Ground.data }], guard := none }) (v := .int .i64 n) rfl (by kernel_rfl) (by kernel_rfl) (by kernel_rfl) (fun _ _ _ h => h) (Or.inl ⟨by rfl, ?yr2⟩) su0 ?rr2
  case yr2 => (intro w hSw; have q7 := hSw.2.2; have q8 : w.cell? ⟨W1.heap.size, 0, none⟩ = some (.int .i64 n) := (by simp [World.cell?, q7]); go_simp; try with_reducible rfl)
  try simp only [Act.put, List.setIfInBounds_toArray, List.set_cons_zero, List.set_cons_succ]
  refine wpAnyH_take (i := 2) (oi := { dst := some 23, op := Op.fieldAddr 73 (Operand.tmp 4) 1, type := 0, pos := "frame.go:226", after := #[], guard := none }) (v := ?vr3) rfl (by kernel_rfl) (by kernel_rfl) (by kernel_rfl) (fun _ _ _ h => h) (Or.inl ⟨by rfl, ?yr3⟩) su0 ?rr3
  case yr3 => (intro w hSw; go_simp; try with_reducible rfl)
  try simp only [Act.put, List.setIfInBounds_toArray, List.set_cons_zero, List.set_cons_succ]
  refine wpAnyH_take (i := 3) (oi := { dst := some 24, op := Op.load 28 (Operand.tmp 23), type := 28, pos := "frame.go:226", after := #[{ on := 2, ground := Ground.data }], guard := none }) (v := .slice sa l.length sc) rfl (by kernel_rfl) (by kernel_rfl) (by kernel_rfl) (fun _ _ _ h => h) (Or.inl ⟨by rfl, ?yr4⟩) su0 ?rr4
  case yr4 => (intro w hSw; have q7 := hSw.2.2; have q8 : w.cell? ⟨W1.heap.size, 1, none⟩ = some (.slice sa l.length sc) := (by simp [World.cell?, q7]); go_simp; try with_reducible rfl)
  try simp only [Act.put, List.setIfInBounds_toArray, List.set_cons_zero, List.set_cons_succ]
  refine wpAnyH_ready (rs := [4]) (by kernel_rfl) (by simp) ?_
  refine AllReadyH.cons (o := { dst := some 25, op := Op.call { callee := Callee.value (Operand.func 29), args := #[Operand.tmp 24], argTypes := #[28] }, type := 28, pos := "frame.go:226", after := #[{ on := 3, ground := Ground.data }], guard := none }) rfl (fun KK hKK => ?_) ?_
  · go_simp
    refine (CO.out _ su0.1).mono ?_
    rintro e u5' ⟨vu5, rfl, ou5, bu5'⟩
    obtain ⟨oa, oc, rfl, -, -, -⟩ := (RSp.is ou5).shape
    (try go_wp2_with fail)
    refine hKK.out _ _ (⟨su0.1.trans (Below.mono bu5' su0.1.size), Nat.le_trans su0.2.1 bu5'.size, blk_kept su0.2.2 bu5' (blk_lt su0.2.2)⟩) (fun _ => ?_)
    clear hKK KK
    try simp only [Act.put, List.setIfInBounds_toArray, List.set_cons_zero, List.set_cons_succ]
    refine wpAnyH_name (fun u5 hu5 => ?_)
    have su5 : (fun x : World => Below w.heap.size w x ∧ W2.heap.size ≤ x.heap.size ∧ x.heap[W1.heap.size]? = some (.cells #[.int .i64 n, .slice sa l.length sc] 73 (0, 0))) u5 := by rw [hu5.out]; exact (⟨su0.1.trans (Below.mono bu5' su0.1.size), Nat.le_trans su0.2.1 bu5'.size, blk_kept su0.2.2 bu5' (blk_lt su0.2.2)⟩)
    have OO : Hid (RSp u5 w.heap.size (.slice oa l.length oc) l) := by unfold Hid; rw [hu5.out]; exact RSp.mono ou5 (su0.1.size)
    have GG : Hid (u5.heap[w.heap.size]? = some (.cells #[.int .u8 0, .int .i64 0, .int .i64 0, .int .i64 0, .bool false, .string ⟨#[]⟩, .int .u8 0, .int .u8 0, .int .u8 0, .int .u8 0, .int .u8 0, .int .u8 0, .int .u8 0, .int .u8 0, .int .u8 0, .int .u8 0, .int .u8 0, .int .u8 0, .int .u8 0, .int .u8 0, .int .u8 0, .int .u8 0, .slice none 0 0] 36 (0, 0))) := by unfold Hid; rw [hu5.out]; exact blk_kept g0u0 bu5' (blk_lt g0u0)
    refine wpAnyH_take (i := 5) (oi := { dst := some 26, op := Op.build 36 #[(0, Operand.const (Value.int IntKind.u8 2)), (2, Operand.tmp 22), (7, Operand.tmp 25)], type := 36, pos := "frame.go:226", after := #[{ on := 1, ground := Ground.data }, { on := 4, ground := Ground.data }], guard := none }) (v := .agg (plA ⟨2, 0, n, 0, false, ⟨#[]⟩, zn, l⟩ (.slice oa l.length oc))) rfl (by kernel_rfl) (by kernel_rfl) (by kernel_rfl) (fun _ _ _ h => h) (Or.inl ⟨by rfl, ?yr6⟩) su5 ?rr6
    case yr6 => (intro w hSw; go_simp; rfl; try with_reducible rfl)
    try simp only [Act.put, List.setIfInBounds_toArray, List.set_cons_zero, List.set_cons_succ]
    refine wpAnyH_ready (rs := [6]) (by kernel_rfl) (by simp) ?_
    refine AllReadyH.cons (o := { dst := none, op := Op.store 36 (Operand.tmp 2) (Operand.tmp 26), type := 0, pos := "frame.go:226", after := #[{ on := 5, ground := Ground.data }, { on := 4, ground := Ground.chain }, { on := 0, ground := Ground.phase }, { on := 1, ground := Ground.phase }, { on := 2, ground := Ground.phase }, { on := 3, ground := Ground.phase }, { on := 4, ground := Ground.phase }, { on := 5, ground := Ground.phase }], guard := none }) rfl (fun KK hKK => ?_) ?_
    · refine wp_store_row 36 _ _ rfl w.heap.size (plA ⟨2, 0, n, 0, false, ⟨#[]⟩, zn, l⟩ (.slice oa l.length oc)) rfl rfl 36 _ GG.out (HSZ.out _) rfl (HON.out _ _ _) ?_
      refine hKK.out _ _ (⟨below_setRow su5.1 (Nat.le_refl _) _, by rw [setRow_size]; exact su5.2.1, by rw [setRow_other _ _ _ _ (Ne.symm HNE.out)]; exact su5.2.2⟩) (fun _ => ?_)
      clear hKK KK
      try simp only [Act.put]
      refine wpAnyH_name (fun u7 hu7 => ?_)
      have su7 : (fun x : World => Below w.heap.size w x ∧ W2.heap.size ≤ x.heap.size ∧ x.heap[W1.heap.size]? = some (.cells #[.int .i64 n, .slice sa l.length sc] 73 (0, 0))) u7 := by rw [hu7.out]; exact (⟨below_setRow su5.1 (Nat.le_refl _) _, by rw [setRow_size]; exact su5.2.1, by rw [setRow_other _ _ _ _ (Ne.symm HNE.out)]; exact su5.2.2⟩)
      have OZ : Hid (RSp u7 w.heap.size (.slice oa l.length oc) l) := by unfold Hid; rw [hu7.out]; exact OO.out.keep (fun k cs hk hh => by rw [setRow_other _ _ _ _ (fun e => by rw [e, GG.out] at hh; cases hh)]; exact hh)
      have GZ : Hid (u7.heap[w.heap.size]? = some (.cells (plA ⟨2, 0, n, 0, false, ⟨#[]⟩, zn, l⟩ (.slice oa l.length oc)) 36 (0, 0))) := by unfold Hid; rw [hu7.out]; exact setRow_heap _ _ _ _ _ _ GG.out
      refine wpAnyH_done (by kernel_rfl) ?_ _
      have BZ : Hid (Below w.heap.size w u7) := su7.1
      clear CO GG OO
      go_wp2
      refine bodyPost_ret (v := .agg (plA ⟨2, 0, n, 0, false, ⟨#[]⟩, zn, l⟩ (.slice oa l.length oc))) (results_cell_row rfl _ _ w.heap.size 36 _ (0, 0) _ rfl GZ.out Tryd.underlying36 rfl (HSZ.out _)) rfl ⟨_, rfl, OZ.out, BZ.out⟩
    exact AllReadyH.nil
  exact AllReadyH.nil
set_option maxHeartbeats 8000000 in
theorem flat1 (w : World) :
    Calls Tryd.prog 17 #[.iface 70 (.agg #[])] w fun e w' => e = .returned (.agg (plA ⟨1, 0, 0, 0, false, ⟨#[]⟩, zn, []⟩ (.slice none 0 0))) ∧ Below w.heap.size w w' := by
  obtain ⟨W1, hW1⟩ : ∃ W1, W1 = w.alloc (.cells #[.int .u8 0, .int .i64 0, .int .i64 0, .int .i64 0, .bool false, .string ⟨#[]⟩, .int .u8 0, .int .u8 0, .int .u8 0, .int .u8 0, .int .u8 0, .int .u8 0, .int .u8 0, .int .u8 0, .int .u8 0, .int .u8 0, .int .u8 0, .int .u8 0, .int .u8 0, .int .u8 0, .int .u8 0, .int .u8 0, .slice none 0 0] 36) := ⟨_, rfl⟩
  have b1 : Below w.heap.size w W1 := by rw [hW1]; exact al_below _ _
  have g1 : W1.heap[w.heap.size]? = some (.cells #[.int .u8 0, .int .i64 0, .int .i64 0, .int .i64 0, .bool false, .string ⟨#[]⟩, .int .u8 0, .int .u8 0, .int .u8 0, .int .u8 0, .int .u8 0, .int .u8 0, .int .u8 0, .int .u8 0, .int .u8 0, .int .u8 0, .int .u8 0, .int .u8 0, .int .u8 0, .int .u8 0, .int .u8 0, .int .u8 0, .slice none 0 0] 36 (0, 0)) := by rw [hW1]; exact heap_alloc_new _ _
  obtain ⟨W2, hW2⟩ : ∃ W2, W2 = W1.alloc (.cells #[] 70) := ⟨_, rfl⟩
  have b2 : Below W1.heap.size W1 W2 := by rw [hW2]; exact al_below _ _
  have HG2 : Hid (W2.heap[w.heap.size]? = some (.cells #[.int .u8 0, .int .i64 0, .int .i64 0, .int .i64 0, .bool false, .string ⟨#[]⟩, .int .u8 0, .int .u8 0, .int .u8 0, .int .u8 0, .int .u8 0, .int .u8 0, .int .u8 0, .int .u8 0, .int .u8 0, .int .u8 0, .int .u8 0, .int .u8 0, .int .u8 0, .int .u8 0, .int .u8 0, .int .u8 0, .slice none 0 0] 36 (0, 0))) := blk_kept g1 b2 (blk_lt g1)
  have HB2 : Hid (Below w.heap.size w W2) := b1.trans (b2.mono b1.size)
  have HSZ : Hid ((Tryd.prog.info? 36).map (·.size) = some (plA ⟨1, 0, 0, 0, false, ⟨#[]⟩, zn, []⟩ (.slice none 0 0)).size) := infoP
  have HON : Hid ((plA ⟨1, 0, 0, 0, false, ⟨#[]⟩, zn, []⟩ (.slice none 0 0)).all (·.oneCell') = true) := all_oneCell_toArray (plL_one rfl)
  have a1 : ∀ (v : Value) (W : World), (Instr.typeAssert (.iface 70 v) 32 70 true).run Tryd.prog W = .ok (.tuple #[v, .bool true]) W := fun v W => by kernel_rfl
  clear b1 g1 b2
  go_enter Tryd.func17, Tryd.ntmps17
  go_upto_region 1 with fail
  rw [← hW1]
  clear hW1
  go_wp2_with (rw [← hW2]; refine wpList_store_row rfl 36 _ _ rfl w.heap.size (plA ⟨1, 0, 0, 0, false, ⟨#[]⟩, zn, []⟩ (.slice none 0 0)) rfl rfl 36 _ HG2.out HSZ.out rfl HON.out (Hid.out ?_))
  unfold Hid
  go_wp2
  rw [← hW2]
  refine bodyPost_ret (v := .agg (plA ⟨1, 0, 0, 0, false, ⟨#[]⟩, zn, []⟩ (.slice none 0 0))) (results_cell_row rfl _ _ w.heap.size 36 (plA ⟨1, 0, 0, 0, false, ⟨#[]⟩, zn, []⟩ (.slice none 0 0)) (0, 0) _ rfl (setRow_heap _ _ _ _ _ _ HG2.out) Tryd.underlying36 rfl HSZ.out) rfl ⟨rfl, below_setRow HB2.out (Nat.le_refl _) _⟩
set_option maxHeartbeats 8000000 in
theorem flat3 (id n : Int) (fin : Bool) (tx : ByteArray) (w : World) :
    Calls Tryd.prog 17 #[.iface 46 (.agg #[.int .i64 id, .int .i64 n, .bool fin, .string tx])] w fun e w' => e = .returned (.agg (plA ⟨3, id, n, 0, fin, tx, zn, []⟩ (.slice none 0 0))) ∧ Below w.heap.size w w' := by
  obtain ⟨W1, hW1⟩ : ∃ W1, W1 = w.alloc (.cells #[.int .u8 0, .int .i64 0, .int .i64 0, .int .i64 0, .bool false, .string ⟨#[]⟩, .int .u8 0, .int .u8 0, .int .u8 0, .int .u8 0, .int .u8 0, .int .u8 0, .int .u8 0, .int .u8 0, .int .u8 0, .int .u8 0, .int .u8 0, .int .u8 0, .int .u8 0, .int .u8 0, .int .u8 0, .int .u8 0, .slice none 0 0] 36) := ⟨_, rfl⟩
  have b1 : Below w.heap.size w W1 := by rw [hW1]; exact al_below _ _
  have g1 : W1.heap[w.heap.size]? = some (.cells #[.int .u8 0, .int .i64 0, .int .i64 0, .int .i64 0, .bool false, .string ⟨#[]⟩, .int .u8 0, .int .u8 0, .int .u8 0, .int .u8 0, .int .u8 0, .int .u8 0, .int .u8 0, .int .u8 0, .int .u8 0, .int .u8 0, .int .u8 0, .int .u8 0, .int .u8 0, .int .u8 0, .int .u8 0, .int .u8 0, .slice none 0 0] 36 (0, 0)) := by rw [hW1]; exact heap_alloc_new _ _
  obtain ⟨W2, hW2⟩ : ∃ W2, W2 = W1.alloc (.cells #[.int .i64 id, .int .i64 n, .bool fin, .string tx] 46) := ⟨_, rfl⟩
  have b2 : Below W1.heap.size W1 W2 := by rw [hW2]; exact al_below _ _
  have HG2 : Hid (W2.heap[w.heap.size]? = some (.cells #[.int .u8 0, .int .i64 0, .int .i64 0, .int .i64 0, .bool false, .string ⟨#[]⟩, .int .u8 0, .int .u8 0, .int .u8 0, .int .u8 0, .int .u8 0, .int .u8 0, .int .u8 0, .int .u8 0, .int .u8 0, .int .u8 0, .int .u8 0, .int .u8 0, .int .u8 0, .int .u8 0, .int .u8 0, .int .u8 0, .slice none 0 0] 36 (0, 0))) := blk_kept g1 b2 (blk_lt g1)
  have HB2 : Hid (Below w.heap.size w W2) := b1.trans (b2.mono b1.size)
  have HSZ : Hid ((Tryd.prog.info? 36).map (·.size) = some (plA ⟨3, id, n, 0, fin, tx, zn, []⟩ (.slice none 0 0)).size) := infoP
  have HON : Hid ((plA ⟨3, id, n, 0, fin, tx, zn, []⟩ (.slice none 0 0)).all (·.oneCell') = true) := all_oneCell_toArray (plL_one rfl)
  have a1 : ∀ (v : Value) (W : World), (Instr.typeAssert (.iface 46 v) 32 70 true).run Tryd.prog W = .ok (.tuple #[.agg #[], .bool false]) W := fun v W => by kernel_rfl
  have a2 : ∀ (v : Value) (W : World), (Instr.typeAssert (.iface 46 v) 32 73 true).run Tryd.prog W = .ok (.tuple #[.agg #[.int .i64 0, .slice none 0 0], .bool false]) W := fun v W => by kernel_rfl
  have a3 : ∀ (v : Value) (W : World), (Instr.typeAssert (.iface 46 v) 32 46 true).run Tryd.prog W = .ok (.tuple #[v, .bool true]) W := fun v W => by kernel_rfl
  clear b1 g1 b2
  go_enter Tryd.func17, Tryd.ntmps17
  go_upto_region 1 with fail
  rw [← hW1]
  clear hW1
  go_wp2_with (rw [← hW2]; refine wpList_store_row rfl 36 _ _ rfl w.heap.size (plA ⟨3, id, n, 0, fin, tx, zn, []⟩ (.slice none 0 0)) rfl rfl 36 _ HG2.out HSZ.out rfl HON.out (Hid.out ?_))
  unfold Hid
  go_wp2
  rw [← hW2]
  refine bodyPost_ret (v := .agg (plA ⟨3, id, n, 0, fin, tx, zn, []⟩ (.slice none 0 0))) (results_cell_row rfl _ _ w.heap.size 36 (plA ⟨3, id, n, 0, fin, tx, zn, []⟩ (.slice none 0 0)) (0, 0) _ rfl (setRow_heap _ _ _ _ _ _ HG2.out) Tryd.underlying36 rfl HSZ.out) rfl ⟨rfl, below_setRow HB2.out (Nat.le_refl _) _⟩
set_option maxHeartbeats 8000000 in
theorem flat4 (id n cd : Int) (w : World) :
    Calls Tryd.prog 17 #[.iface 75 (.agg #[.int .i64 id, .int .i64 cd, .int .i64 n])] w fun e w' => e = .returned (.agg (plA ⟨4, id, n, cd, false, ⟨#[]⟩, zn, []⟩ (.slice none 0 0))) ∧ Below w.heap.size w w' := by
  obtain ⟨W1, hW1⟩ : ∃ W1, W1 = w.alloc (.cells #[.int .u8 0, .int .i64 0, .int .i64 0, .int .i64 0, .bool false, .string ⟨#[]⟩, .int .u8 0, .int .u8 0, .int .u8 0, .int .u8 0, .int .u8 0, .int .u8 0, .int .u8 0, .int .u8 0, .int .u8 0, .int .u8 0, .int .u8 0, .int .u8 0, .int .u8 0, .int .u8 0, .int .u8 0, .int .u8 0, .slice none 0 0] 36) := ⟨_, rfl⟩
  have b1 : Below w.heap.size w W1 := by rw [hW1]; exact al_below _ _
  have g1 : W1.heap[w.heap.size]? = some (.cells #[.int .u8 0, .int .i64 0, .int .i64 0, .int .i64 0, .bool false, .string ⟨#[]⟩, .int .u8 0, .int .u8 0, .int .u8 0, .int .u8 0, .int .u8 0, .int .u8 0, .int .u8 0, .int .u8 0, .int .u8 0, .int .u8 0, .int .u8 0, .int .u8 0, .int .u8 0, .int .u8 0, .int .u8 0, .int .u8 0, .slice none 0 0] 36 (0, 0)) := by rw [hW1]; exact heap_alloc_new _ _
  obtain ⟨W2, hW2⟩ : ∃ W2, W2 = W1.alloc (.cells #[.int .i64 id, .int .i64 cd, .int .i64 n] 75) := ⟨_, rfl⟩
  have b2 : Below W1.heap.size W1 W2 := by rw [hW2]; exact al_below _ _
  have HG2 : Hid (W2.heap[w.heap.size]? = some (.cells #[.int .u8 0, .int .i64 0, .int .i64 0, .int .i64 0, .bool false, .string ⟨#[]⟩, .int .u8 0, .int .u8 0, .int .u8 0, .int .u8 0, .int .u8 0, .int .u8 0, .int .u8 0, .int .u8 0, .int .u8 0, .int .u8 0, .int .u8 0, .int .u8 0, .int .u8 0, .int .u8 0, .int .u8 0, .int .u8 0, .slice none 0 0] 36 (0, 0))) := blk_kept g1 b2 (blk_lt g1)
  have HB2 : Hid (Below w.heap.size w W2) := b1.trans (b2.mono b1.size)
  have HSZ : Hid ((Tryd.prog.info? 36).map (·.size) = some (plA ⟨4, id, n, cd, false, ⟨#[]⟩, zn, []⟩ (.slice none 0 0)).size) := infoP
  have HON : Hid ((plA ⟨4, id, n, cd, false, ⟨#[]⟩, zn, []⟩ (.slice none 0 0)).all (·.oneCell') = true) := all_oneCell_toArray (plL_one rfl)
  have a1 : ∀ (v : Value) (W : World), (Instr.typeAssert (.iface 75 v) 32 70 true).run Tryd.prog W = .ok (.tuple #[.agg #[], .bool false]) W := fun v W => by kernel_rfl
  have a2 : ∀ (v : Value) (W : World), (Instr.typeAssert (.iface 75 v) 32 73 true).run Tryd.prog W = .ok (.tuple #[.agg #[.int .i64 0, .slice none 0 0], .bool false]) W := fun v W => by kernel_rfl
  have a3 : ∀ (v : Value) (W : World), (Instr.typeAssert (.iface 75 v) 32 46 true).run Tryd.prog W = .ok (.tuple #[.agg #[.int .i64 0, .int .i64 0, .bool false, .string ⟨#[]⟩], .bool false]) W := fun v W => by kernel_rfl
  have a4 : ∀ (v : Value) (W : World), (Instr.typeAssert (.iface 75 v) 32 75 true).run Tryd.prog W = .ok (.tuple #[v, .bool true]) W := fun v W => by kernel_rfl
  clear b1 g1 b2
  go_enter Tryd.func17, Tryd.ntmps17
  go_upto_region 1 with fail
  rw [← hW1]
  clear hW1
  go_wp2_with (rw [← hW2]; refine wpList_store_row rfl 36 _ _ rfl w.heap.size (plA ⟨4, id, n, cd, false, ⟨#[]⟩, zn, []⟩ (.slice none 0 0)) rfl rfl 36 _ HG2.out HSZ.out rfl HON.out (Hid.out ?_))
  unfold Hid
  go_wp2
  rw [← hW2]
  refine bodyPost_ret (v := .agg (plA ⟨4, id, n, cd, false, ⟨#[]⟩, zn, []⟩ (.slice none 0 0))) (results_cell_row rfl _ _ w.heap.size 36 (plA ⟨4, id, n, cd, false, ⟨#[]⟩, zn, []⟩ (.slice none 0 0)) (0, 0) _ rfl (setRow_heap _ _ _ _ _ _ HG2.out) Tryd.underlying36 rfl HSZ.out) rfl ⟨rfl, below_setRow HB2.out (Nat.le_refl _) _⟩
set_option maxHeartbeats 8000000 in
theorem flat5 (id cd : Int) (w : World) :
    Calls Tryd.prog 17 #[.iface 77 (.agg #[.int .i64 id, .int .i64 cd])] w fun e w' => e = .returned (.agg (plA ⟨5, id, 0, cd, false, ⟨#[]⟩, zn, []⟩ (.slice none 0 0))) ∧ Below w.heap.size w w' := by
  obtain ⟨W1, hW1⟩ : ∃ W1, W1 = w.alloc (.cells #[.int .u8 0, .int .i64 0, .int .i64 0, .int .i64 0, .bool false, .string ⟨#[]⟩, .int .u8 0, .int .u8 0, .int .u8 0, .int .u8 0, .int .u8 0, .int .u8 0, .int .u8 0, .int .u8 0, .int .u8 0, .int .u8 0, .int .u8 0, .int .u8 0, .int .u8 0, .int .u8 0, .int .u8 0, .int .u8 0, .slice none 0 0] 36) := ⟨_, rfl⟩
  have b1 : Below w.heap.size w W1 := by rw [hW1]; exact al_below _ _
  have g1 : W1.heap[w.heap.size]? = some (.cells #[.int .u8 0, .int .i64 0, .int .i64 0, .int .i64 0, .bool false, .string ⟨#[]⟩, .int .u8 0, .int .u8 0, .int .u8 0, .int .u8 0, .int .u8 0, .int .u8 0, .int .u8 0, .int .u8 0, .int .u8 0, .int .u8 0, .int .u8 0, .int .u8 0, .int .u8 0, .int .u8 0, .int .u8 0, .int .u8 0, .slice none 0 0] 36 (0, 0)) := by rw [hW1]; exact heap_alloc_new _ _
  obtain ⟨W2, hW2⟩ : ∃ W2, W2 = W1.alloc (.cells #[.int .i64 id, .int .i64 cd] 77) := ⟨_, rfl⟩
  have b2 : Below W1.heap.size W1 W2 := by rw [hW2]; exact al_below _ _
  have HG2 : Hid (W2.heap[w.heap.size]? = some (.cells #[.int .u8 0, .int .i64 0, .int .i64 0, .int .i64 0, .bool false, .string ⟨#[]⟩, .int .u8 0, .int .u8 0, .int .u8 0, .int .u8 0, .int .u8 0, .int .u8 0, .int .u8 0, .int .u8 0, .int .u8 0, .int .u8 0, .int .u8 0, .int .u8 0, .int .u8 0, .int .u8 0, .int .u8 0, .int .u8 0, .slice none 0 0] 36 (0, 0))) := blk_kept g1 b2 (blk_lt g1)
  have HB2 : Hid (Below w.heap.size w W2) := b1.trans (b2.mono b1.size)
  have HSZ : Hid ((Tryd.prog.info? 36).map (·.size) = some (plA ⟨5, id, 0, cd, false, ⟨#[]⟩, zn, []⟩ (.slice none 0 0)).size) := infoP
  have HON : Hid ((plA ⟨5, id, 0, cd, false, ⟨#[]⟩, zn, []⟩ (.slice none 0 0)).all (·.oneCell') = true) := all_oneCell_toArray (plL_one rfl)
  have a1 : ∀ (v : Value) (W : World), (Instr.typeAssert (.iface 77 v) 32 70 true).run Tryd.prog W = .ok (.tuple #[.agg #[], .bool false]) W := fun v W => by kernel_rfl
  have a2 : ∀ (v : Value) (W : World), (Instr.typeAssert (.iface 77 v) 32 73 true).run Tryd.prog W = .ok (.tuple #[.agg #[.int .i64 0, .slice none 0 0], .bool false]) W := fun v W => by kernel_rfl
  have a3 : ∀ (v : Value) (W : World), (Instr.typeAssert (.iface 77 v) 32 46 true).run Tryd.prog W = .ok (.tuple #[.agg #[.int .i64 0, .int .i64 0, .bool false, .string ⟨#[]⟩], .bool false]) W := fun v W => by kernel_rfl
  have a4 : ∀ (v : Value) (W : World), (Instr.typeAssert (.iface 77 v) 32 75 true).run Tryd.prog W = .ok (.tuple #[.agg #[.int .i64 0, .int .i64 0, .int .i64 0], .bool false]) W := fun v W => by kernel_rfl
  have a5 : ∀ (v : Value) (W : World), (Instr.typeAssert (.iface 77 v) 32 77 true).run Tryd.prog W = .ok (.tuple #[v, .bool true]) W := fun v W => by kernel_rfl
  clear b1 g1 b2
  go_enter Tryd.func17, Tryd.ntmps17
  go_upto_region 1 with fail
  rw [← hW1]
  clear hW1
  go_wp2_with (rw [← hW2]; refine wpList_store_row rfl 36 _ _ rfl w.heap.size (plA ⟨5, id, 0, cd, false, ⟨#[]⟩, zn, []⟩ (.slice none 0 0)) rfl rfl 36 _ HG2.out HSZ.out rfl HON.out (Hid.out ?_))
  unfold Hid
  go_wp2
  rw [← hW2]
  refine bodyPost_ret (v := .agg (plA ⟨5, id, 0, cd, false, ⟨#[]⟩, zn, []⟩ (.slice none 0 0))) (results_cell_row rfl _ _ w.heap.size 36 (plA ⟨5, id, 0, cd, false, ⟨#[]⟩, zn, []⟩ (.slice none 0 0)) (0, 0) _ rfl (setRow_heap _ _ _ _ _ _ HG2.out) Tryd.underlying36 rfl HSZ.out) rfl ⟨rfl, below_setRow HB2.out (Nat.le_refl _) _⟩
end Go.Proofs.YtjjjomikgpnahaaDoor
namespace Go.Proofs.YtjjjomikgpnahaaDoor
open Go.RowKit
set_option maxRecDepth 100000

set_option maxHeartbeats 8000000 in
theorem flat0 (w : World) :
    Calls Tryd.prog 17 #[.nilIface] w fun e w' => e = .returned (.agg (plA Fm.zero (.slice none 0 0))) ∧ Below w.heap.size w w' := by
  obtain ⟨W1, hW1⟩ : ∃ W1, W1 = w.alloc (.cells #[.int .u8 0, .int .i64 0, .int .i64 0, .int .i64 0, .bool false, .string ⟨#[]⟩, .int .u8 0, .int .u8 0, .int .u8 0, .int .u8 0, .int .u8 0, .int .u8 0, .int .u8 0, .int .u8 0, .int .u8 0, .int .u8 0, .int .u8 0, .int .u8 0, .int .u8 0, .int .u8 0, .int .u8 0, .int .u8 0, .slice none 0 0] 36) := ⟨_, rfl⟩
  have b1 : Below w.heap.size w W1 := by rw [hW1]; exact al_below _ _
  have g1 : W1.heap[w.heap.size]? = some (.cells #[.int .u8 0, .int .i64 0, .int .i64 0, .int .i64 0, .bool false, .string ⟨#[]⟩, .int .u8 0, .int .u8 0, .int .u8 0, .int .u8 0, .int .u8 0, .int .u8 0, .int .u8 0, .int .u8 0, .int .u8 0, .int .u8 0, .int .u8 0, .int .u8 0, .int .u8 0, .int .u8 0, .int .u8 0, .int .u8 0, .slice none 0 0] 36 (0, 0)) := by rw [hW1]; exact heap_alloc_new _ _
  have HG1 : Hid (W1.heap[w.heap.size]? = some (.cells #[.int .u8 0, .int .i64 0, .int .i64 0, .int .i64 0, .bool false, .string ⟨#[]⟩, .int .u8 0, .int .u8 0, .int .u8 0, .int .u8 0, .int .u8 0, .int .u8 0, .int .u8 0, .int .u8 0, .int .u8 0, .int .u8 0, .int .u8 0, .int .u8 0, .int .u8 0, .int .u8 0, .int .u8 0, .int .u8 0, .slice none 0 0] 36 (0, 0))) := g1
  have HB1 : Hid (Below w.heap.size w W1) := b1
  have HSZ : Hid ((Tryd.prog.info? 36).map (·.size) = some (plA Fm.zero (.slice none 0 0)).size) := infoP
  have HON : Hid ((plA Fm.zero (.slice none 0 0)).all (·.oneCell') = true) := all_oneCell_toArray (plL_one rfl)
  have a1 : ∀ (W : World), (Instr.typeAssert .nilIface 32 70 true).run Tryd.prog W = .ok (.tuple #[.agg #[], .bool false]) W := fun W => by kernel_rfl
  have a2 : ∀ (W : World), (Instr.typeAssert .nilIface 32 73 true).run Tryd.prog W = .ok (.tuple #[.agg #[.int .i64 0, .slice none 0 0], .bool false]) W := fun W => by kernel_rfl
  have a3 : ∀ (W : World), (Instr.typeAssert .nilIface 32 46 true).run Tryd.prog W = .ok (.tuple #[.agg #[.int .i64 0, .int .i64 0, .bool false, .string ⟨#[]⟩], .bool false]) W := fun W => by kernel_rfl
  have a4 : ∀ (W : World), (Instr.typeAssert .nilIface 32 75 true).run Tryd.prog W = .ok (.tuple #[.agg #[.int .i64 0, .int .i64 0, .int .i64 0], .bool false]) W := fun W => by kernel_rfl
  have a5 : ∀ (W : World), (Instr.typeAssert .nilIface 32 77 true).run Tryd.prog W = .ok (.tuple #[.agg #[.int .i64 0, .int .i64 0], .bool false]) W := fun W => by kernel_rfl
  have a6 : ∀ (W : World), (Instr.typeAssert .nilIface 32 79 true).run Tryd.prog W = .ok (.tuple #[.agg #[.int .i64 0], .bool false]) W := fun W => by kernel_rfl
  have a7 : ∀ (W : World), (Instr.typeAssert .nilIface 32 81 true).run Tryd.prog W = .ok (.tuple #[.agg #[.int .i64 0, .int .i64 0], .bool false]) W := fun W => by kernel_rfl
  have a8 : ∀ (W : World), (Instr.typeAssert .nilIface 32 82 true).run Tryd.prog W = .ok (.tuple #[.agg #[.int .i64 0], .bool false]) W := fun W => by kernel_rfl
  have a9 : ∀ (W : World), (Instr.typeAssert .nilIface 32 84 true).run Tryd.prog W = .ok (.tuple #[.agg #[.int .u8 0, .int .u8 0, .int .u8 0, .int .u8 0, .int .u8 0, .int .u8 0, .int .u8 0, .int .u8 0, .int .u8 0, .int .u8 0, .int .u8 0, .int .u8 0, .int .u8 0, .int .u8 0, .int .u8 0, .int .u8 0, .string ⟨#[]⟩], .bool false]) W := fun W => by kernel_rfl
  have a10 : ∀ (W : World), (Instr.typeAssert .nilIface 32 86 true).run Tryd.prog W = .ok (.tuple #[.agg #[.int .i64 0, .string ⟨#[]⟩], .bool false]) W := fun W => by kernel_rfl
  clear b1 g1
  go_enter Tryd.func17, Tryd.ntmps17
  go_upto_region 1 with fail
  rw [← hW1]
  clear hW1
  go_wp2_with (refine wpList_store_row rfl 36 _ _ rfl w.heap.size (plA Fm.zero (.slice none 0 0)) rfl rfl 36 _ HG1.out HSZ.out rfl HON.out (Hid.out ?_))
  unfold Hid
  go_wp2
  refine bodyPost_ret (v := .agg (plA Fm.zero (.slice none 0 0))) (results_cell_row rfl _ _ w.heap.size 36 (plA Fm.zero (.slice none 0 0)) (0, 0) _ rfl (setRow_heap _ _ _ _ _ _ HG1.out) Tryd.underlying36 rfl HSZ.out) rfl ⟨rfl, below_setRow HB1.out (Nat.le_refl _) _⟩
set_option maxHeartbeats 8000000 in
theorem flat6 (n : Int) (w : World) :
    Calls Tryd.prog 17 #[.iface 79 (.agg #[.int .i64 n])] w fun e w' => e = .returned (.agg (plA ⟨6, 0, n, 0, false, ⟨#[]⟩, zn, []⟩ (.slice none 0 0))) ∧ Below w.heap.size w w' := by
  obtain ⟨W1, hW1⟩ : ∃ W1, W1 = w.alloc (.cells #[.int .u8 0, .int .i64 0, .int .i64 0, .int .i64 0, .bool false, .string ⟨#[]⟩, .int .u8 0, .int .u8 0, .int .u8 0, .int .u8 0, .int .u8 0, .int .u8 0, .int .u8 0, .int .u8 0, .int .u8 0, .int .u8 0, .int .u8 0, .int .u8 0, .int .u8 0, .int .u8 0, .int .u8 0, .int .u8 0, .slice none 0 0] 36) := ⟨_, rfl⟩
  have b1 : Below w.heap.size w W1 := by rw [hW1]; exact al_below _ _
  have g1 : W1.heap[w.heap.size]? = some (.cells #[.int .u8 0, .int .i64 0, .int .i64 0, .int .i64 0, .bool false, .string ⟨#[]⟩, .int .u8 0, .int .u8 0, .int .u8 0, .int .u8 0, .int .u8 0, .int .u8 0, .int .u8 0, .int .u8 0, .int .u8 0, .int .u8 0, .int .u8 0, .int .u8 0, .int .u8 0, .int .u8 0, .int .u8 0, .int .u8 0, .slice none 0 0] 36 (0, 0)) := by rw [hW1]; exact heap_alloc_new _ _
  obtain ⟨W2, hW2⟩ : ∃ W2, W2 = W1.alloc (.cells #[.int .i64 n] 79) := ⟨_, rfl⟩
  have b2 : Below W1.heap.size W1 W2 := by rw [hW2]; exact al_below _ _
  have HG2 : Hid (W2.heap[w.heap.size]? = some (.cells #[.int .u8 0, .int .i64 0, .int .i64 0, .int .i64 0, .bool false, .string ⟨#[]⟩, .int .u8 0, .int .u8 0, .int .u8 0, .int .u8 0, .int .u8 0, .int .u8 0, .int .u8 0, .int .u8 0, .int .u8 0, .int .u8 0, .int .u8 0, .int .u8 0, .int .u8 0, .int .u8 0, .int .u8 0, .int .u8 0, .slice none 0 0] 36 (0, 0))) := blk_kept g1 b2 (blk_lt g1)
  have HB2 : Hid (Below w.heap.size w W2) := b1.trans (b2.mono b1.size)
  have HSZ : Hid ((Tryd.prog.info? 36).map (·.size) = some (plA ⟨6, 0, n, 0, false, ⟨#[]⟩, zn, []⟩ (.slice none 0 0)).size) := infoP
  have HON : Hid ((plA ⟨6, 0, n, 0, false, ⟨#[]⟩, zn, []⟩ (.slice none 0 0)).all (·.oneCell') = true) := all_oneCell_toArray (plL_one rfl)
  have a1 : ∀ (v : Value) (W : World), (Instr.typeAssert (.iface 79 v) 32 70 true).run Tryd.prog W = .ok (.tuple #[.agg #[], .bool false]) W := fun v W => by kernel_rfl
  have a2 : ∀ (v : Value) (W : World), (Instr.typeAssert (.iface 79 v) 32 73 true).run Tryd.prog W = .ok (.tuple #[.agg #[.int .i64 0, .slice none 0 0], .bool false]) W := fun v W => by kernel_rfl
  have a3 : ∀ (v : Value) (W : World), (Instr.typeAssert (.iface 79 v) 32 46 true).run Tryd.prog W = .ok (.tuple #[.agg #[.int .i64 0, .int .i64 0, .bool false, .string ⟨#[]⟩], .bool false]) W := fun v W => by kernel_rfl
  have a4 : ∀ (v : Value) (W : World), (Instr.typeAssert (.iface 79 v) 32 75 true).run Tryd.prog W = .ok (.tuple #[.agg #[.int .i64 0, .int .i64 0, .int .i64 0], .bool false]) W := fun v W => by kernel_rfl
  have a5 : ∀ (v : Value) (W : World), (Instr.typeAssert (.iface 79 v) 32 77 true).run Tryd.prog W = .ok (.tuple #[.agg #[.int .i64 0, .int .i64 0], .bool false]) W := fun v W => by kernel_rfl
  have a6 : ∀ (v : Value) (W : World), (Instr.typeAssert (.iface 79 v) 32 79 true).run Tryd.prog W = .ok (.tuple #[v, .bool true]) W := fun v W => by kernel_rfl
  clear b1 g1 b2
  go_enter Tryd.func17, Tryd.ntmps17
  go_upto_region 1 with fail
  rw [← hW1]
  clear hW1
  go_wp2_with (rw [← hW2]; refine wpList_store_row rfl 36 _ _ rfl w.heap.size (plA ⟨6, 0, n, 0, false, ⟨#[]⟩, zn, []⟩ (.slice none 0 0)) rfl rfl 36 _ HG2.out HSZ.out rfl HON.out (Hid.out ?_))
  unfold Hid
  go_wp2
  rw [← hW2]
  refine bodyPost_ret (v := .agg (plA ⟨6, 0, n, 0, false, ⟨#[]⟩, zn, []⟩ (.slice none 0 0))) (results_cell_row rfl _ _ w.heap.size 36 (plA ⟨6, 0, n, 0, false, ⟨#[]⟩, zn, []⟩ (.slice none 0 0)) (0, 0) _ rfl (setRow_heap _ _ _ _ _ _ HG2.out) Tryd.underlying36 rfl HSZ.out) rfl ⟨rfl, below_setRow HB2.out (Nat.le_refl _) _⟩
set_option maxHeartbeats 8000000 in
theorem flat7 (id n : Int) (w : World) :
    Calls Tryd.prog 17 #[.iface 81 (.agg #[.int .i64 id, .int .i64 n])] w fun e w' => e = .returned (.agg (plA ⟨7, id, n, 0, false, ⟨#[]⟩, zn, []⟩ (.slice none 0 0))) ∧ Below w.heap.size w w' := by
  obtain ⟨W1, hW1⟩ : ∃ W1, W1 = w.alloc (.cells #[.int .u8 0, .int .i64 0, .int .i64 0, .int .i64 0, .bool false, .string ⟨#[]⟩, .int .u8 0, .int .u8 0, .int .u8 0, .int .u8 0, .int .u8 0, .int .u8 0, .int .u8 0, .int .u8 0, .int .u8 0, .int .u8 0, .int .u8 0, .int .u8 0, .int .u8 0, .int .u8 0, .int .u8 0, .int .u8 0, .slice none 0 0] 36) := ⟨_, rfl⟩
  have b1 : Below w.heap.size w W1 := by rw [hW1]; exact al_below _ _
  have g1 : W1.heap[w.heap.size]? = some (.cells #[.int .u8 0, .int .i64 0, .int .i64 0, .int .i64 0, .bool false, .string ⟨#[]⟩, .int .u8 0, .int .u8 0, .int .u8 0, .int .u8 0, .int .u8 0, .int .u8 0, .int .u8 0, .int .u8 0, .int .u8 0, .int .u8 0, .int .u8 0, .int .u8 0, .int .u8 0, .int .u8 0, .int .u8 0, .int .u8 0, .slice none 0 0] 36 (0, 0)) := by rw [hW1]; exact heap_alloc_new _ _
  obtain ⟨W2, hW2⟩ : ∃ W2, W2 = W1.alloc (.cells #[.int .i64 id, .int .i64 n] 81) := ⟨_, rfl⟩
  have b2 : Below W1.heap.size W1 W2 := by rw [hW2]; exact al_below _ _
  have HG2 : Hid (W2.heap[w.heap.size]? = some (.cells #[.int .u8 0, .int .i64 0, .int .i64 0, .int .i64 0, .bool false, .string ⟨#[]⟩, .int .u8 0, .int .u8 0, .int .u8 0, .int .u8 0, .int .u8 0, .int .u8 0, .int .u8 0, .int .u8 0, .int .u8 0, .int .u8 0, .int .u8 0, .int .u8 0, .int .u8 0, .int .u8 0, .int .u8 0, .int .u8 0, .slice none 0 0] 36 (0, 0))) := blk_kept g1 b2 (blk_lt g1)
  have HB2 : Hid (Below w.heap.size w W2) := b1.trans (b2.mono b1.size)
  have HSZ : Hid ((Tryd.prog.info? 36).map (·.size) = some (plA ⟨7, id, n, 0, false, ⟨#[]⟩, zn, []⟩ (.slice none 0 0)).size) := infoP
  have HON : Hid ((plA ⟨7, id, n, 0, false, ⟨#[]⟩, zn, []⟩ (.slice none 0 0)).all (·.oneCell') = true) := all_oneCell_toArray (plL_one rfl)
  have a1 : ∀ (v : Value) (W : World), (Instr.typeAssert (.iface 81 v) 32 70 true).run Tryd.prog W = .ok (.tuple #[.agg #[], .bool false]) W := fun v W => by kernel_rfl
  have a2 : ∀ (v : Value) (W : World), (Instr.typeAssert (.iface 81 v) 32 73 true).run Tryd.prog W = .ok (.tuple #[.agg #[.int .i64 0, .slice none 0 0], .bool false]) W := fun v W => by kernel_rfl
  have a3 : ∀ (v : Value) (W : World), (Instr.typeAssert (.iface 81 v) 32 46 true).run Tryd.prog W = .ok (.tuple #[.agg #[.int .i64 0, .int .i64 0, .bool false, .string ⟨#[]⟩], .bool false]) W := fun v W => by kernel_rfl
  have a4 : ∀ (v : Value) (W : World), (Instr.typeAssert (.iface 81 v) 32 75 true).run Tryd.prog W = .ok (.tuple #[.agg #[.int .i64 0, .int .i64 0, .int .i64 0], .bool false]) W := fun v W => by kernel_rfl
  have a5 : ∀ (v : Value) (W : World), (Instr.typeAssert (.iface 81 v) 32 77 true).run Tryd.prog W = .ok (.tuple #[.agg #[.int .i64 0, .int .i64 0], .bool false]) W := fun v W => by kernel_rfl
  have a6 : ∀ (v : Value) (W : World), (Instr.typeAssert (.iface 81 v) 32 79 true).run Tryd.prog W = .ok (.tuple #[.agg #[.int .i64 0], .bool false]) W := fun v W => by kernel_rfl
  have a7 : ∀ (v : Value) (W : World), (Instr.typeAssert (.iface 81 v) 32 81 true).run Tryd.prog W = .ok (.tuple #[v, .bool true]) W := fun v W => by kernel_rfl
  clear b1 g1 b2
  go_enter Tryd.func17, Tryd.ntmps17
  go_upto_region 1 with fail
  rw [← hW1]
  clear hW1
  go_wp2_with (rw [← hW2]; refine wpList_store_row rfl 36 _ _ rfl w.heap.size (plA ⟨7, id, n, 0, false, ⟨#[]⟩, zn, []⟩ (.slice none 0 0)) rfl rfl 36 _ HG2.out HSZ.out rfl HON.out (Hid.out ?_))
  unfold Hid
  go_wp2
  rw [← hW2]
  refine bodyPost_ret (v := .agg (plA ⟨7, id, n, 0, false, ⟨#[]⟩, zn, []⟩ (.slice none 0 0))) (results_cell_row rfl _ _ w.heap.size 36 (plA ⟨7, id, n, 0, false, ⟨#[]⟩, zn, []⟩ (.slice none 0 0)) (0, 0) _ rfl (setRow_heap _ _ _ _ _ _ HG2.out) Tryd.underlying36 rfl HSZ.out) rfl ⟨rfl, below_setRow HB2.out (Nat.le_refl _) _⟩
set_option maxHeartbeats 8000000 in
theorem flat8 (n : Int) (w : World) :
    Calls Tryd.prog 17 #[.iface 82 (.agg #[.int .i64 n])] w fun e w' => e = .returned (.agg (plA ⟨8, 0, n, 0, false, ⟨#[]⟩, zn, []⟩ (.slice none 0 0))) ∧ Below w.heap.size w w' := by
  obtain ⟨W1, hW1⟩ : ∃ W1, W1 = w.alloc (.cells #[.int .u8 0, .int .i64 0, .int .i64 0, .int .i64 0, .bool false, .string ⟨#[]⟩, .int .u8 0, .int .u8 0, .int .u8 0, .int .u8 0, .int .u8 0, .int .u8 0, .int .u8 0, .int .u8 0, .int .u8 0, .int .u8 0, .int .u8 0, .int .u8 0, .int .u8 0, .int .u8 0, .int .u8 0, .int .u8 0, .slice none 0 0] 36) := ⟨_, rfl⟩
  have b1 : Below w.heap.size w W1 := by rw [hW1]; exact al_below _ _
  have g1 : W1.heap[w.heap.size]? = some (.cells #[.int .u8 0, .int .i64 0, .int .i64 0, .int .i64 0, .bool false, .string ⟨#[]⟩, .int .u8 0, .int .u8 0, .int .u8 0, .int .u8 0, .int .u8 0, .int .u8 0, .int .u8 0, .int .u8 0, .int .u8 0, .int .u8 0, .int .u8 0, .int .u8 0, .int .u8 0, .int .u8 0, .int .u8 0, .int .u8 0, .slice none 0 0] 36 (0, 0)) := by rw [hW1]; exact heap_alloc_new _ _
  obtain ⟨W2, hW2⟩ : ∃ W2, W2 = W1.alloc (.cells #[.int .i64 n] 82) := ⟨_, rfl⟩
  have b2 : Below W1.heap.size W1 W2 := by rw [hW2]; exact al_below _ _
  have HG2 : Hid (W2.heap[w.heap.size]? = some (.cells #[.int .u8 0, .int .i64 0, .int .i64 0, .int .i64 0, .bool false, .string ⟨#[]⟩, .int .u8 0, .int .u8 0, .int .u8 0, .int .u8 0, .int .u8 0, .int .u8 0, .int .u8 0, .int .u8 0, .int .u8 0, .int .u8 0, .int .u8 0, .int .u8 0, .int .u8 0, .int .u8 0, .int .u8 0, .int .u8 0, .slice none 0 0] 36 (0, 0))) := blk_kept g1 b2 (blk_lt g1)
  have HB2 : Hid (Below w.heap.size w W2) := b1.trans (b2.mono b1.size)
  have HSZ : Hid ((Tryd.prog.info? 36).map (·.size) = some (plA ⟨8, 0, n, 0, false, ⟨#[]⟩, zn, []⟩ (.slice none 0 0)).size) := infoP
  have HON : Hid ((plA ⟨8, 0, n, 0, false, ⟨#[]⟩, zn, []⟩ (.slice none 0 0)).all (·.oneCell') = true) := all_oneCell_toArray (plL_one rfl)
  have a1 : ∀ (v : Value) (W : World), (Instr.typeAssert (.iface 82 v) 32 70 true).run Tryd.prog W = .ok (.tuple #[.agg #[], .bool false]) W := fun v W => by kernel_rfl
  have a2 : ∀ (v : Value) (W : World), (Instr.typeAssert (.iface 82 v) 32 73 true).run Tryd.prog W = .ok (.tuple #[.agg #[.int .i64 0, .slice none 0 0], .bool false]) W := fun v W => by kernel_rfl
  have a3 : ∀ (v : Value) (W : World), (Instr.typeAssert (.iface 82 v) 32 46 true).run Tryd.prog W = .ok (.tuple #[.agg #[.int .i64 0, .int .i64 0, .bool false, .string ⟨#[]⟩], .bool false]) W := fun v W => by kernel_rfl
  have a4 : ∀ (v : Value) (W : World), (Instr.typeAssert (.iface 82 v) 32 75 true).run Tryd.prog W = .ok (.tuple #[.agg #[.int .i64 0, .int .i64 0, .int .i64 0], .bool false]) W := fun v W => by kernel_rfl
  have a5 : ∀ (v : Value) (W : World), (Instr.typeAssert (.iface 82 v) 32 77 true).run Tryd.prog W = .ok (.tuple #[.agg #[.int .i64 0, .int .i64 0], .bool false]) W := fun v W => by kernel_rfl
  have a6 : ∀ (v : Value) (W : World), (Instr.typeAssert (.iface 82 v) 32 79 true).run Tryd.prog W = .ok (.tuple #[.agg #[.int .i64 0], .bool false]) W := fun v W => by kernel_rfl
  have a7 : ∀ (v : Value) (W : World), (Instr.typeAssert (.iface 82 v) 32 81 true).run Tryd.prog W = .ok (.tuple #[.agg #[.int .i64 0, .int .i64 0], .bool false]) W := fun v W => by kernel_rfl
  have a8 : ∀ (v : Value) (W : World), (Instr.typeAssert (.iface 82 v) 32 82 true).run Tryd.prog W = .ok (.tuple #[v, .bool true]) W := fun v W => by kernel_rfl
  clear b1 g1 b2
  go_enter Tryd.func17, Tryd.ntmps17
  go_upto_region 1 with fail
  rw [← hW1]
  clear hW1
  go_wp2_with (rw [← hW2]; refine wpList_store_row rfl 36 _ _ rfl w.heap.size (plA ⟨8, 0, n, 0, false, ⟨#[]⟩, zn, []⟩ (.slice none 0 0)) rfl rfl 36 _ HG2.out HSZ.out rfl HON.out (Hid.out ?_))
  unfold Hid
  go_wp2
  rw [← hW2]
  refine bodyPost_ret (v := .agg (plA ⟨8, 0, n, 0, false, ⟨#[]⟩, zn, []⟩ (.slice none 0 0))) (results_cell_row rfl _ _ w.heap.size 36 (plA ⟨8, 0, n, 0, false, ⟨#[]⟩, zn, []⟩ (.slice none 0 0)) (0, 0) _ rfl (setRow_heap _ _ _ _ _ _ HG2.out) Tryd.underlying36 rfl HSZ.out) rfl ⟨rfl, below_setRow HB2.out (Nat.le_refl _) _⟩
set_option maxHeartbeats 8000000 in
theorem flat9 (x0 x1 x2 x3 x4 x5 x6 x7 x8 x9 xa xb xc xd xe xf : Int) (tx : ByteArray) (w : World) :
    Calls Tryd.prog 17 #[.iface 84 (.agg #[.int .u8 x0, .int .u8 x1, .int .u8 x2, .int .u8 x3, .int .u8 x4, .int .u8 x5, .int .u8 x6, .int .u8 x7, .int .u8 x8, .int .u8 x9, .int .u8 xa, .int .u8 xb, .int .u8 xc, .int .u8 xd, .int .u8 xe, .int .u8 xf, .string tx])] w fun e w' => e = .returned (.agg (plA ⟨9, 0, 0, 0, false, tx, [x0, x1, x2, x3, x4, x5, x6, x7, x8, x9, xa, xb, xc, xd, xe, xf], []⟩ (.slice none 0 0))) ∧ Below w.heap.size w w' := by
  obtain ⟨W1, hW1⟩ : ∃ W1, W1 = w.alloc (.cells #[.int .u8 0, .int .i64 0, .int .i64 0, .int .i64 0, .bool false, .string ⟨#[]⟩, .int .u8 0, .int .u8 0, .int .u8 0, .int .u8 0, .int .u8 0, .int .u8 0, .int .u8 0, .int .u8 0, .int .u8 0, .int .u8 0, .int .u8 0, .int .u8 0, .int .u8 0, .int .u8 0, .int .u8 0, .int .u8 0, .slice none 0 0] 36) := ⟨_, rfl⟩
  have b1 : Below w.heap.size w W1 := by rw [hW1]; exact al_below _ _
  have g1 : W1.heap[w.heap.size]? = some (.cells #[.int .u8 0, .int .i64 0, .int .i64 0, .int .i64 0, .bool false, .string ⟨#[]⟩, .int .u8 0, .int .u8 0, .int .u8 0, .int .u8 0, .int .u8 0, .int .u8 0, .int .u8 0, .int .u8 0, .int .u8 0, .int .u8 0, .int .u8 0, .int .u8 0, .int .u8 0, .int .u8 0, .int .u8 0, .int .u8 0, .slice none 0 0] 36 (0, 0)) := by rw [hW1]; exact heap_alloc_new _ _
  obtain ⟨W2, hW2⟩ : ∃ W2, W2 = W1.alloc (.cells #[.int .u8 x0, .int .u8 x1, .int .u8 x2, .int .u8 x3, .int .u8 x4, .int .u8 x5, .int .u8 x6, .int .u8 x7, .int .u8 x8, .int .u8 x9, .int .u8 xa, .int .u8 xb, .int .u8 xc, .int .u8 xd, .int .u8 xe, .int .u8 xf, .string tx] 84) := ⟨_, rfl⟩
  have b2 : Below W1.heap.size W1 W2 := by rw [hW2]; exact al_below _ _
  have HG2 : Hid (W2.heap[w.heap.size]? = some (.cells #[.int .u8 0, .int .i64 0, .int .i64 0, .int .i64 0, .bool false, .string ⟨#[]⟩, .int .u8 0, .int .u8 0, .int .u8 0, .int .u8 0, .int .u8 0, .int .u8 0, .int .u8 0, .int .u8 0, .int .u8 0, .int .u8 0, .int .u8 0, .int .u8 0, .int .u8 0, .int .u8 0, .int .u8 0, .int .u8 0, .slice none 0 0] 36 (0, 0))) := blk_kept g1 b2 (blk_lt g1)
  have HB2 : Hid (Below w.heap.size w W2) := b1.trans (b2.mono b1.size)
  have HSZ : Hid ((Tryd.prog.info? 36).map (·.size) = some (plA ⟨9, 0, 0, 0, false, tx, [x0, x1, x2, x3, x4, x5, x6, x7, x8, x9, xa, xb, xc, xd, xe, xf], []⟩ (.slice none 0 0)).size) := infoP
  have HON : Hid ((plA ⟨9, 0, 0, 0, false, tx, [x0, x1, x2, x3, x4, x5, x6, x7, x8, x9, xa, xb, xc, xd, xe, xf], []⟩ (.slice none 0 0)).all (·.oneCell') = true) := all_oneCell_toArray (plL_one rfl)
  have a1 : ∀ (v : Value) (W : World), (Instr.typeAssert (.iface 84 v) 32 70 true).run Tryd.prog W = .ok (.tuple #[.agg #[], .bool false]) W := fun v W => by kernel_rfl
  have a2 : ∀ (v : Value) (W : World), (Instr.typeAssert (.iface 84 v) 32 73 true).run Tryd.prog W = .ok (.tuple #[.agg #[.int .i64 0, .slice none 0 0], .bool false]) W := fun v W => by kernel_rfl
  have a3 : ∀ (v : Value) (W : World), (Instr.typeAssert (.iface 84 v) 32 46 true).run Tryd.prog W = .ok (.tuple #[.agg #[.int .i64 0, .int .i64 0, .bool false, .string ⟨#[]⟩], .bool false]) W := fun v W => by kernel_rfl
  have a4 : ∀ (v : Value) (W : World), (Instr.typeAssert (.iface 84 v) 32 75 true).run Tryd.prog W = .ok (.tuple #[.agg #[.int .i64 0, .int .i64 0, .int .i64 0], .bool false]) W := fun v W => by kernel_rfl
  have a5 : ∀ (v : Value) (W : World), (Instr.typeAssert (.iface 84 v) 32 77 true).run Tryd.prog W = .ok (.tuple #[.agg #[.int .i64 0, .int .i64 0], .bool false]) W := fun v W => by kernel_rfl
  have a6 : ∀ (v : Value) (W : World), (Instr.typeAssert (.iface 84 v) 32 79 true).run Tryd.prog W = .ok (.tuple #[.agg #[.int .i64 0], .bool false]) W := fun v W => by kernel_rfl
  have a7 : ∀ (v : Value) (W : World), (Instr.typeAssert (.iface 84 v) 32 81 true).run Tryd.prog W = .ok (.tuple #[.agg #[.int .i64 0, .int .i64 0], .bool false]) W := fun v W => by kernel_rfl
  have a8 : ∀ (v : Value) (W : World), (Instr.typeAssert (.iface 84 v) 32 82 true).run Tryd.prog W = .ok (.tuple #[.agg #[.int .i64 0], .bool false]) W := fun v W => by kernel_rfl
  have a9 : ∀ (v : Value) (W : World), (Instr.typeAssert (.iface 84 v) 32 84 true).run Tryd.prog W = .ok (.tuple #[v, .bool true]) W := fun v W => by kernel_rfl
  clear b1 g1 b2
  go_enter Tryd.func17, Tryd.ntmps17
  go_upto_region 1 with fail
  rw [← hW1]
  clear hW1
  go_wp2_with (rw [← hW2]; refine wpList_store_row rfl 36 _ _ rfl w.heap.size (plA ⟨9, 0, 0, 0, false, tx, [x0, x1, x2, x3, x4, x5, x6, x7, x8, x9, xa, xb, xc, xd, xe, xf], []⟩ (.slice none 0 0)) rfl rfl 36 _ HG2.out HSZ.out rfl HON.out (Hid.out ?_))
  unfold Hid
  go_wp2
  rw [← hW2]
  refine bodyPost_ret (v := .agg (plA ⟨9, 0, 0, 0, false, tx, [x0, x1, x2, x3, x4, x5, x6, x7, x8, x9, xa, xb, xc, xd, xe, xf], []⟩ (.slice none 0 0))) (results_cell_row rfl _ _ w.heap.size 36 (plA ⟨9, 0, 0, 0, false, tx, [x0, x1, x2, x3, x4, x5, x6, x7, x8, x9, xa, xb, xc, xd, xe, xf], []⟩ (.slice none 0 0)) (0, 0) _ rfl (setRow_heap _ _ _ _ _ _ HG2.out) Tryd.underlying36 rfl HSZ.out) rfl ⟨rfl, below_setRow HB2.out (Nat.le_refl _) _⟩
set_option maxHeartbeats 8000000 in
theorem flat10 (cd : Int) (tx : ByteArray) (w : World) :
    Calls Tryd.prog 17 #[.iface 86 (.agg #[.int .i64 cd, .string tx])] w fun e w' => e = .returned (.agg (plA ⟨10, 0, 0, cd, false, tx, zn, []⟩ (.slice none 0 0))) ∧ Below w.heap.size w w' := by
  obtain ⟨W1, hW1⟩ : ∃ W1, W1 = w.alloc (.cells #[.int .u8 0, .int .i64 0, .int .i64 0, .int .i64 0, .bool false, .string ⟨#[]⟩, .int .u8 0, .int .u8 0, .int .u8 0, .int .u8 0, .int .u8 0, .int .u8 0, .int .u8 0, .int .u8 0, .int .u8 0, .int .u8 0, .int .u8 0, .int .u8 0, .int .u8 0, .int .u8 0, .int .u8 0, .int .u8 0, .slice none 0 0] 36) := ⟨_, rfl⟩
  have b1 : Below w.heap.size w W1 := by rw [hW1]; exact al_below _ _
  have g1 : W1.heap[w.heap.size]? = some (.cells #[.int .u8 0, .int .i64 0, .int .i64 0, .int .i64 0, .bool false, .string ⟨#[]⟩, .int .u8 0, .int .u8 0, .int .u8 0, .int .u8 0, .int .u8 0, .int .u8 0, .int .u8 0, .int .u8 0, .int .u8 0, .int .u8 0, .int .u8 0, .int .u8 0, .int .u8 0, .int .u8 0, .int .u8 0, .int .u8 0, .slice none 0 0] 36 (0, 0)) := by rw [hW1]; exact heap_alloc_new _ _
  obtain ⟨W2, hW2⟩ : ∃ W2, W2 = W1.alloc (.cells #[.int .i64 cd, .string tx] 86) := ⟨_, rfl⟩
  have b2 : Below W1.heap.size W1 W2 := by rw [hW2]; exact al_below _ _
  have HG2 : Hid (W2.heap[w.heap.size]? = some (.cells #[.int .u8 0, .int .i64 0, .int .i64 0, .int .i64 0, .bool false, .string ⟨#[]⟩, .int .u8 0, .int .u8 0, .int .u8 0, .int .u8 0, .int .u8 0, .int .u8 0, .int .u8 0, .int .u8 0, .int .u8 0, .int .u8 0, .int .u8 0, .int .u8 0, .int .u8 0, .int .u8 0, .int .u8 0, .int .u8 0, .slice none 0 0] 36 (0, 0))) := blk_kept g1 b2 (blk_lt g1)
  have HB2 : Hid (Below w.heap.size w W2) := b1.trans (b2.mono b1.size)
  have HSZ : Hid ((Tryd.prog.info? 36).map (·.size) = some (plA ⟨10, 0, 0, cd, false, tx, zn, []⟩ (.slice none 0 0)).size) := infoP
  have HON : Hid ((plA ⟨10, 0, 0, cd, false, tx, zn, []⟩ (.slice none 0 0)).all (·.oneCell') = true) := all_oneCell_toArray (plL_one rfl)
  have a1 : ∀ (v : Value) (W : World), (Instr.typeAssert (.iface 86 v) 32 70 true).run Tryd.prog W = .ok (.tuple #[.agg #[], .bool false]) W := fun v W => by kernel_rfl
  have a2 : ∀ (v : Value) (W : World), (Instr.typeAssert (.iface 86 v) 32 73 true).run Tryd.prog W = .ok (.tuple #[.agg #[.int .i64 0, .slice none 0 0], .bool false]) W := fun v W => by kernel_rfl
  have a3 : ∀ (v : Value) (W : World), (Instr.typeAssert (.iface 86 v) 32 46 true).run Tryd.prog W = .ok (.tuple #[.agg #[.int .i64 0, .int .i64 0, .bool false, .string ⟨#[]⟩], .bool false]) W := fun v W => by kernel_rfl
  have a4 : ∀ (v : Value) (W : World), (Instr.typeAssert (.iface 86 v) 32 75 true).run Tryd.prog W = .ok (.tuple #[.agg #[.int .i64 0, .int .i64 0, .int .i64 0], .bool false]) W := fun v W => by kernel_rfl
  have a5 : ∀ (v : Value) (W : World), (Instr.typeAssert (.iface 86 v) 32 77 true).run Tryd.prog W = .ok (.tuple #[.agg #[.int .i64 0, .int .i64 0], .bool false]) W := fun v W => by kernel_rfl
  have a6 : ∀ (v : Value) (W : World), (Instr.typeAssert (.iface 86 v) 32 79 true).run Tryd.prog W = .ok (.tuple #[.agg #[.int .i64 0], .bool false]) W := fun v W => by kernel_rfl
  have a7 : ∀ (v : Value) (W : World), (Instr.typeAssert (.iface 86 v) 32 81 true).run Tryd.prog W = .ok (.tuple #[.agg #[.int .i64 0, .int .i64 0], .bool false]) W := fun v W => by kernel_rfl
  have a8 : ∀ (v : Value) (W : World), (Instr.typeAssert (.iface 86 v) 32 82 true).run Tryd.prog W = .ok (.tuple #[.agg #[.int .i64 0], .bool false]) W := fun v W => by kernel_rfl
  have a9 : ∀ (v : Value) (W : World), (Instr.typeAssert (.iface 86 v) 32 84 true).run Tryd.prog W = .ok (.tuple #[.agg #[.int .u8 0, .int .u8 0, .int .u8 0, .int .u8 0, .int .u8 0, .int .u8 0, .int .u8 0, .int .u8 0, .int .u8 0, .int .u8 0, .int .u8 0, .int .u8 0, .int .u8 0, .int .u8 0, .int .u8 0, .int .u8 0, .string ⟨#[]⟩], .bool false]) W := fun v W => by kernel_rfl
  have a10 : ∀ (v : Value) (W : World), (Instr.typeAssert (.iface 86 v) 32 86 true).run Tryd.prog W = .ok (.tuple #[v, .bool true]) W := fun v W => by kernel_rfl
  clear b1 g1 b2
  go_enter Tryd.func17, Tryd.ntmps17
  go_upto_region 1 with fail
  rw [← hW1]
  clear hW1
  go_wp2_with (rw [← hW2]; refine wpList_store_row rfl 36 _ _ rfl w.heap.size (plA ⟨10, 0, 0, cd, false, tx, zn, []⟩ (.slice none 0 0)) rfl rfl 36 _ HG2.out HSZ.out rfl HON.out (Hid.out ?_))
  unfold Hid
  go_wp2
  rw [← hW2]
  refine bodyPost_ret (v := .agg (plA ⟨10, 0, 0, cd, false, tx, zn, []⟩ (.slice none 0 0))) (results_cell_row rfl _ _ w.heap.size 36 (plA ⟨10, 0, 0, cd, false, tx, zn, []⟩ (.slice none 0 0)) (0, 0) _ rfl (setRow_heap _ _ _ _ _ _ HG2.out) Tryd.underlying36 rfl HSZ.out) rfl ⟨rfl, below_setRow HB2.out (Nat.le_refl _) _⟩
end Go.Proofs.YtjjjomikgpnahaaDoor
namespace Go.Proofs.YtjjjomikgpnahaaDoor
open Go.RowKit
set_option maxRecDepth 100000

theorem flatF_any (p : Fm) (sv : Value) (w : World) (hK : isK p.k = true) (hb : ¬ badF p) (hn : p.nc.length = 16) (hs : hS p.k = true → SSp w sv p.sp) (hl : p.sp.length ≤ 100000) :
    Calls Tryd.prog 17 #[frV p sv] w fun e w' => ∃ sv', e = .returned (.agg (plA p sv')) ∧ RSp w' w.heap.size sv' p.sp ∧ Below w.heap.size w w' := by
  have hnil : ∀ x, RSp x w.heap.size (.slice none 0 0) [] := fun x => RI.nil _ _ _ _
  obtain ⟨k, id, n, cd, fin, tx, nc, sp⟩ := p
  simp only at hK hb hn hs hl
  unfold badF at hb
  simp only [not_or, not_and] at hb
  obtain ⟨b1, b2, b3, b4, b5, b6, b7⟩ := hb
  have hk : k = 1 ∨ k = 2 ∨ k = 3 ∨ k = 4 ∨ k = 5 ∨ k = 6 ∨ k = 7 ∨ k = 8 ∨ k = 9 ∨ k = 10 := by unfold isK at hK; simp at hK; omega
  have d1 : hI k = false → id = 0 := fun q => Classical.not_not.1 fun r => b1 r q
  have d2 : hN k = false → n = 0 := fun q => Classical.not_not.1 fun r => b2 r q
  have d3 : hF k = false → fin = false := fun q => by cases fin; rfl; exact absurd q (b3 rfl)
  have d4 : hC k = false → cd = 0 := fun q => Classical.not_not.1 fun r => b4 r q
  have d5 : hO k = false → nc = zn := fun q => Classical.not_not.1 fun r => b5 r q
  have d6 : hT k = false → tx = ⟨#[]⟩ := fun q => Classical.not_not.1 fun r => b6 r q
  have d7 : hS k = false → sp = [] := fun q => Classical.not_not.1 fun r => b7 r q
  clear b1 b2 b3 b4 b5 b6 b7 hK
  rcases hk with rfl | rfl | rfl | rfl | rfl | rfl | rfl | rfl | rfl | rfl
  · obtain rfl := d1 rfl
    obtain rfl := d2 rfl
    obtain rfl := d3 rfl
    obtain rfl := d4 rfl
    obtain rfl := d5 rfl
    obtain rfl := d6 rfl
    obtain rfl := d7 rfl
    exact (flat1  w).mono fun _ w' ⟨e, b⟩ => ⟨_, e, hnil w', b⟩
  · obtain rfl := d1 rfl
    obtain rfl := d3 rfl
    obtain rfl := d4 rfl
    obtain rfl := d5 rfl
    obtain rfl := d6 rfl
    exact flat2 n sv sp w (hs rfl) hl
  · obtain rfl := d4 rfl
    obtain rfl := d5 rfl
    obtain rfl := d7 rfl
    exact (flat3 id n fin tx w).mono fun _ w' ⟨e, b⟩ => ⟨_, e, hnil w', b⟩
  · obtain rfl := d3 rfl
    obtain rfl := d5 rfl
    obtain rfl := d6 rfl
    obtain rfl := d7 rfl
    exact (flat4 id n cd w).mono fun _ w' ⟨e, b⟩ => ⟨_, e, hnil w', b⟩
  · obtain rfl := d2 rfl
    obtain rfl := d3 rfl
    obtain rfl := d5 rfl
    obtain rfl := d6 rfl
    obtain rfl := d7 rfl
    exact (flat5 id cd w).mono fun _ w' ⟨e, b⟩ => ⟨_, e, hnil w', b⟩
  · obtain rfl := d1 rfl
    obtain rfl := d3 rfl
    obtain rfl := d4 rfl
    obtain rfl := d5 rfl
    obtain rfl := d6 rfl
    obtain rfl := d7 rfl
    exact (flat6 n w).mono fun _ w' ⟨e, b⟩ => ⟨_, e, hnil w', b⟩
  · obtain rfl := d3 rfl
    obtain rfl := d4 rfl
    obtain rfl := d5 rfl
    obtain rfl := d6 rfl
    obtain rfl := d7 rfl
    exact (flat7 id n w).mono fun _ w' ⟨e, b⟩ => ⟨_, e, hnil w', b⟩
  · obtain rfl := d1 rfl
    obtain rfl := d3 rfl
    obtain rfl := d4 rfl
    obtain rfl := d5 rfl
    obtain rfl := d6 rfl
    obtain rfl := d7 rfl
    exact (flat8 n w).mono fun _ w' ⟨e, b⟩ => ⟨_, e, hnil w', b⟩
  · obtain rfl := d1 rfl
    obtain rfl := d2 rfl
    obtain rfl := d3 rfl
    obtain rfl := d4 rfl
    obtain rfl := d7 rfl
    obtain ⟨x0, x1, x2, x3, x4, x5, x6, x7, x8, x9, xa, xb, xc, xd, xe, xf, rfl⟩ := nc16 hn
    exact (flat9 x0 x1 x2 x3 x4 x5 x6 x7 x8 x9 xa xb xc xd xe xf tx w).mono fun _ w' ⟨e, b⟩ => ⟨_, e, hnil w', b⟩
  · obtain rfl := d1 rfl
    obtain rfl := d2 rfl
    obtain rfl := d3 rfl
    obtain rfl := d5 rfl
    obtain rfl := d7 rfl
    exact (flat10 cd tx w).mono fun _ w' ⟨e, b⟩ => ⟨_, e, hnil w', b⟩
end Go.Proofs.YtjjjomikgpnahaaDoor
