/-
  What begin answers.
-/
import Derived.Test.YtcenchnmibdebaaDoorTe
import Derived.Test.YtcenchnmibdebaaDoorOrd
import Derived.Deep.DeepCutAuto
namespace Go.Proofs.YtcenchnmibdebaaDoor
open Go.RowKit
set_option maxRecDepth 100000

/-- A struct is built in a region that draws its order. -/
theorem yields_built {P : Program} {S : World → Prop} {ops : Array Oper} {o : Oper} {a : Act} (hw : Region.wanted o (yielded ops a.tmps) = true) (t : TypeId) (parts : List (Nat × Operand)) (ho : o.op = .build t parts.toArray)
    (L : List (Nat × Value)) (hL : parts.map (fun (i, x) => (i, a.eval x)) = L) (cs : Array Value) (hb : P.built t L = some cs) : YieldsIf P ops S o (.agg cs) a := by
  refine .inl ⟨hw, fun w _ => ?_⟩
  have e : (parts.toArray.map fun (i, x) => (i, a.eval x)).toList = L := by rw [← hL]; simp
  have h := run_build (P := P) w t (parts.toArray.map fun (i, x) => (i, a.eval x)) cs (by rw [e]; exact hb)
  unfold execOp
  simp only [ho, Sem.run_bind, h, Result.andThen_ok, Sem.run_pure]
theorem range_set {w : World} {b o g i : Nat} {x : Value} {cs : List Value} (h : w.rangeAt b o cs) (hne : b ≠ g) : (w.setCell ⟨g, i, none⟩ x).rangeAt b o cs := fun j v hv => by
  have := h j v hv
  rw [← this]
  exact World.cell?_of_block (heap_setCell_other _ _ _ _ hne)
theorem wp_append_pa {o : Oper} {a : Act} {w : World} {K : Act → World → Prop} {Q : Exit → Act → World → Prop} (s x : Operand) (ho : o.op = .call { callee := .builtin .append, args := #[s, x], argTypes := #[41, 41] })
    (B : Nat) (v : Value) (l : List Pa) (hs : a.eval s = v) (hown : RP w B v l) (g : Nat) (y : Pa) (cap : Nat) (hy : y.ok)
    (hx : a.eval x = .slice (some ⟨g, 0, none⟩) 1 cap) (hc : w.rangeAt g 0 y.cells) (hbig : l.length ≤ 100000) (hbase : B ≤ w.heap.size)
    (h : ∀ v' w', RP w' B v' (l ++ [y]) → w.grownBy w' v.ownBlock → K (a.put o.dst v') w') : o.wp Tryd.prog a w K Q := by
  obtain ⟨i0, hi, hz0, hz1, hz2⟩ := info_parts infoP
  refine wp_append_own_wide w s x 41 ho B 58 i0 pa0.val 36 72 Tryd.underlying41 hi hz0 hz1 hz2 (by simp [Pa.val, Value.cells, Pa.len pa0_ok]) (by decide) v l.length (l.map Pa.cells).flatten hs hown.own ⟨g, 0, none⟩ 1 cap y.cells hx (by rw [Pa.len hy]) ?_ y.one (by unfold maxLen; omega) (by omega) hbase ?_
  · intro j u hj
    rw [Addr.add_lit]
    exact hc j u hj
  · intro v' w' ho' hg _
    refine h v' w' (hown.one hy ⟨?_, hown.1.2.app (CL.one (Pa.len hy) y.one)⟩) hg
    rw [List.length_append, List.flatten_append, List.flatten_cons, List.flatten_nil, List.append_nil, List.length_map]
    exact ho'
set_option maxHeartbeats 1000000 in
theorem passW_any (B g : Nat) (v : Value) (s : Ste) (i : Int) (w : World) (h : SV w B g v s) (hi : i ≤ 4611686018427387904) (hi2 : -9223372036854775808 ≤ i) (hp : s.n ≤ i) :
    Calls Tryd.prog 47 #[.pointer (some ⟨g, 0, none⟩), .int .i64 i] w fun e w' => e = .returned (.bool true) ∧ w' = w.setCell ⟨g, 1, none⟩ (.int .i64 (i + 1)) := by
  obtain ⟨k0, k1, kf⟩ := h.cells
  have f1 := kf 1
  have yw : wrap64 (i + 1) = i + 1 := by unfold wrap64; omega
  have yp : IntKind.i64.wrap (i + 1) = i + 1 := by rw [IntKind.wrap_i64]; omega
  have d1 : decide (i < s.n) = false := by simp; omega
  clear h hi hi2 kf k0
  go_enter Tryd.func47, Tryd.ntmps47
  go_wp2
  go_ret
  exact ⟨rfl, rfl⟩
def bgO (s : Ste) (r : Rc) : Option Ste := if (fnd s.l r.x.p).isSome = true ∨ 64 ≤ s.l.length ∨ r.x.i < s.n then none else some ⟨s.l ++ [{ r.x with o := 0 }], r.x.i + 1⟩
set_option maxHeartbeats 2000000 in
theorem begin_any (B g : Nat) (v : Value) (s : Ste) (r : Rc) (w : World) (h : SV w B g v s) (hB : B ≤ g) (hr : r.ok) (hi : r.x.i ≤ 4611686018427387904) (hl : s.l.length ≤ 1000) :
    Calls Tryd.prog 44 #[.pointer (some ⟨g, 0, none⟩), r.val] w fun e w' => e = .returned (.bool (bgO s r).isSome) ∧ SB w' B g ((bgO s r).getD s) ∧ Below B w w' := by
  obtain ⟨W1, hW1⟩ : ∃ W1, W1 = w.alloc (.cells r.cells.toArray 33) := ⟨_, rfl⟩
  have b1 : Below w.heap.size w W1 := by rw [hW1]; exact al_below _ _
  have r1 : W1.rangeAt w.heap.size 0 r.cells := by rw [hW1]; exact rc_new w r
  have s1 : SV W1 B g v s := h.kept b1
  have hBw : B ≤ w.heap.size := Nat.le_trans hB (Nat.le_of_lt h.lt)
  have hlt := h.lt
  have FS : Hid (∀ W, From W1 W → SV W B g v s ∧ Below B w W) := fun W hb => ⟨s1.kept hb, (b1.mono hBw).trans (hb.mono (Nat.le_trans hBw b1.size))⟩
  have FK : Hid (∀ W, From W1 W → W.cell? ⟨g, 0, none⟩ = some v ∧ W.cell? ⟨g, 1, none⟩ = some (.int .i64 s.n) ∧ W.cell? ⟨w.heap.size, 1, none⟩ = some (.int .i64 r.x.i) ∧ W.cell? ⟨w.heap.size, 2, none⟩ = some (.string r.x.p)) := fun W hb => by
    obtain ⟨_, c1, c2, _, _, _⟩ := rcC (range_kept r1 hb) hr
    simp only [Nat.zero_add] at c1 c2
    have sc := (s1.kept hb).cells
    exact ⟨sc.1, sc.2.1, c1, c2⟩
  have g1 : W1.heap[w.heap.size]? = some (.cells r.cells.toArray 33 (0, 0)) := by rw [hW1]; exact heap_alloc_new _ _
  have FR : Hid (∀ W, From W1 W → W.heap[w.heap.size]? = some (.cells r.cells.toArray 33 (0, 0))) := fun W hb => blk_kept g1 hb (blk_lt g1)
  have FF : Hid (∀ W, From W1 W → From W1 W) := fun W hb => hb
  obtain ⟨y, hy⟩ : ∃ y, y = (fnd s.l r.x.p).getD pa0 := ⟨_, rfl⟩
  have HY : Hid y.ok := by
    unfold Hid
    rw [hy]
    cases hf : fnd s.l r.x.p with
    | none => exact pa0_ok
    | some z => exact h.2.2 z (List.mem_of_find?_eq_some hf)
  have CF : Hid (∀ W, From W1 W → Calls Tryd.prog 16 #[.agg #[v, .int .i64 s.n], .string r.x.p] W fun e w' => e = .returned (.tuple #[y.val, .bool (fnd s.l r.x.p).isSome]) ∧ Below W.heap.size W w') := fun W hb => by
    rw [hy]
    exact find_any v s.l s.n r.x.p W (s1.kept hb).2.is (by omega)
  have HM : Hid (bgO s r = if (fnd s.l r.x.p).isSome = true ∨ 64 ≤ s.l.length ∨ r.x.i < s.n then none else some ⟨s.l ++ [{ r.x with o := 0 }], r.x.i + 1⟩) := rfl
  have CP : Hid (∀ W, From W1 W → Calls Tryd.prog 47 #[.pointer (some ⟨g, 0, none⟩), .int .i64 r.x.i] W fun e w' => e = .returned (.bool (pss s r.x.i)) ∧ SV w' B g v (pnx s r.x.i) ∧ Below B W w') := fun W hb => pass_any B g v s r.x.i W (s1.kept hb) hB (by omega) hr.2.2.2.2.1.1
  have CQ : Hid (∀ W, From W1 W → s.n ≤ r.x.i → Calls Tryd.prog 47 #[.pointer (some ⟨g, 0, none⟩), .int .i64 r.x.i] W fun e w' => e = .returned (.bool true) ∧ w' = W.setCell ⟨g, 1, none⟩ (.int .i64 (r.x.i + 1))) := fun W hb hp => passW_any B g v s r.x.i W (s1.kept hb) (by omega) hr.2.2.2.2.1.1 hp
  have HNE : Hid (w.heap.size ≠ g) := fun e => by omega
  have HBg : Hid (B ≤ g ∧ B ≤ W1.heap.size) := ⟨hB, Nat.le_trans hBw b1.size⟩
  obtain ⟨z, hz⟩ : ∃ z : Pa, z = { r.x with o := 0 } := ⟨_, rfl⟩
  have HZO : Hid z.ok := by unfold Hid; rw [hz]; exact ⟨hr.2.2.1, hr.2.2.2.1, hr.2.2.2.2.1, hr.2.2.2.2.2.1, i64_0⟩
  have BZ : Hid (Tryd.prog.built 58 [(0, .int .i64 r.x.i), (1, .string r.x.p), (2, .agg (u8c r.x.s)), (3, .int .i64 r.x.n)] = some z.cells.toArray) := by unfold Hid; rw [hz]; exact bP r.x.i r.x.n r.x.p r.x.s hr.2.2.1
  rw [← hz] at HM
  obtain ⟨va, vc, rfl, -, -, -⟩ := h.2.is.shape
  have HRO : Hid r.ok := hr
  have HLN : Hid (s.l.length ≤ 1000) := hl
  unfold Rc.val
  have hw1 := hW1.symm
  clear h hB hi hl b1 r1 g1 s1 hBw hlt hz hy hW1 hr
  generalize bgO s r = R at *
  generalize (fnd s.l r.x.p).isSome = fb at *
  obtain ⟨cs, hcs⟩ : ∃ cs, cs = r.cells := ⟨_, rfl⟩
  have HCS : Hid (cs = r.cells) := hcs
  rw [← hcs] at FR hw1 ⊢
  clear hcs
  obtain ⟨n, hn⟩ : ∃ n, n = s.l.length := ⟨_, rfl⟩
  have HN : Hid (n = s.l.length) := hn
  rw [← hn] at FS FK CF CP HM HLN
  clear hn
  unfold Pa.val at CF
  obtain ⟨ys, hys⟩ : ∃ ys, ys = y.cells.toArray := ⟨_, rfl⟩
  have HYI : Hid ((Tryd.prog.info? 58).map (·.size) = some ys.size) := by unfold Hid; rw [hys]; exact Pa.infoA y HY.out
  have HYE : Hid (pzc.size = ys.size) := by unfold Hid; rw [hys]; exact pzc_size.trans (Pa.size y HY.out).symm
  have HY1 : Hid (ys.all (·.oneCell') = true) := by unfold Hid; rw [hys]; exact Pa.ones y
  rw [← hys] at CF
  clear hys HY
  obtain ⟨pp, hpp⟩ : ∃ pp, pp = r.x.p := ⟨_, rfl⟩
  have HPP : Hid (pp = r.x.p) := hpp
  rw [← hpp] at FK CF BZ
  clear hpp
  obtain ⟨ii, hii⟩ : ∃ ii, ii = r.x.i := ⟨_, rfl⟩
  have HII : Hid (ii = r.x.i) := hii
  rw [← hii] at FK CP CQ HM BZ
  clear hii
  go_enter Tryd.func44, Tryd.ntmps44
  go_wp2_with fail
  clear hw1
  go_cut [6] (fun s6 wx => s6 = .bool fb ∧ From W1 wx)
  case first =>
    refine wp_region_held_drew (S := From W1) (by kernel_rfl) (Below.drew (Below.refl _ _)) (fun _ => ?_)
    refine wpAnyH_name (fun u0 hu0 => ?_)
    have bu0 : Below W1.heap.size W1 u0 := by rw [hu0.out]; exact Below.drew (Below.refl _ _)
    refine wpAnyH_take (i := 0) (oi := { dst := some 8, op := Op.move (Operand.tmp 0), type := 85, pos := "record.go:248", after := #[], guard := none }) (v := ?vr1) rfl (by kernel_rfl) (by kernel_rfl) (by kernel_rfl) (fun _ _ _ h => h) (Or.inl ⟨by rfl, ?yr1⟩) bu0 ?rr1
    case yr1 => (intro w hSw; go_simp; try with_reducible rfl)
    try simp only [Act.put, List.setIfInBounds_toArray, List.set_cons_zero, List.set_cons_succ]
    refine wpAnyH_take (i := 1) (oi := { dst := some 9, op := Op.nilCheck (Operand.tmp 8), type := 0, pos := "record.go:248", after := #[{ on := 0, ground := Ground.data }], guard := none }) (v := ?vr2) rfl (by kernel_rfl) (by kernel_rfl) (by kernel_rfl) (fun _ _ _ h => h) (Or.inl ⟨by rfl, ?yr2⟩) bu0 ?rr2
    case yr2 => (intro w hSw; go_simp; try with_reducible rfl)
    try simp only [Act.put, List.setIfInBounds_toArray, List.set_cons_zero, List.set_cons_succ]
    refine wpAnyH_take (i := 2) (oi := { dst := some 10, op := Op.load 43 (Operand.tmp 9), type := 43, pos := "record.go:248", after := #[{ on := 1, ground := Ground.data }], guard := none }) (v := ?vr3) rfl (by kernel_rfl) (by kernel_rfl) (by kernel_rfl) (fun _ _ _ h => h) (Or.inl ⟨by rfl, ?yr3⟩) bu0 ?rr3
    case yr3 => (intro w hSw; obtain ⟨t0, t1, t2, t3⟩ := FK.out w hSw; go_simp; try with_reducible rfl)
    try simp only [Act.put, List.setIfInBounds_toArray, List.set_cons_zero, List.set_cons_succ]
    refine wpAnyH_take (i := 3) (oi := { dst := some 11, op := Op.fieldAddr 33 (Operand.tmp 3) 2, type := 0, pos := "record.go:248", after := #[], guard := none }) (v := ?vr4) rfl (by kernel_rfl) (by kernel_rfl) (by kernel_rfl) (fun _ _ _ h => h) (Or.inl ⟨by rfl, ?yr4⟩) bu0 ?rr4
    case yr4 => (intro w hSw; go_simp; try with_reducible rfl)
    try simp only [Act.put, List.setIfInBounds_toArray, List.set_cons_zero, List.set_cons_succ]
    refine wpAnyH_take (i := 4) (oi := { dst := some 12, op := Op.load 9 (Operand.tmp 11), type := 9, pos := "record.go:248", after := #[{ on := 3, ground := Ground.data }], guard := none }) (v := ?vr5) rfl (by kernel_rfl) (by kernel_rfl) (by kernel_rfl) (fun _ _ _ h => h) (Or.inl ⟨by rfl, ?yr5⟩) bu0 ?rr5
    case yr5 => (intro w hSw; obtain ⟨t0, t1, t2, t3⟩ := FK.out w hSw; go_simp; try with_reducible rfl)
    try simp only [Act.put, List.setIfInBounds_toArray, List.set_cons_zero, List.set_cons_succ]
    refine wpAnyH_ready (rs := [5, 9]) (by kernel_rfl) (by simp) ?_
    refine AllReadyH.cons (o := { dst := some 13, op := Op.call { callee := Callee.value (Operand.func 16), args := #[Operand.tmp 10, Operand.tmp 12], argTypes := #[43, 9] }, type := 59, pos := "record.go:248", after := #[{ on := 2, ground := Ground.data }, { on := 4, ground := Ground.data }], guard := none }) rfl (fun KK hKK => ?_) ?_
    · go_simp
      refine (CF.out _ bu0).mono ?_
      rintro e u6' ⟨rfl, bu6'⟩
      (try go_wp2_with fail)
      refine hKK.out _ _ (bu0.trans (Below.mono (bu6') bu0.size)) (fun _ => ?_)
      clear hKK KK
      try simp only [Act.put, List.setIfInBounds_toArray, List.set_cons_zero, List.set_cons_succ]
      refine wpAnyH_name (fun u6 hu6 => ?_)
      have bu6 : Below W1.heap.size W1 u6 := by rw [hu6.out]; exact (bu0.trans (Below.mono (bu6') bu0.size))
      try have Gu6 := blk_kept Gu0 bu6' (blk_lt Gu0)
      try rw [← hu6.out] at Gu6
      refine wpAnyH_take (i := 6) (oi := { dst := some 7, op := Op.move (Operand.tmp 13), type := 59, pos := "record.go:248", after := #[{ on := 5, ground := Ground.data }], guard := none }) (v := ?vr7) rfl (by kernel_rfl) (by kernel_rfl) (by kernel_rfl) (fun _ _ _ h => h) (Or.inl ⟨by rfl, ?yr7⟩) bu6 ?rr7
      case yr7 => (intro w hSw; go_simp; try with_reducible rfl)
      try simp only [Act.put, List.setIfInBounds_toArray, List.set_cons_zero, List.set_cons_succ]
      refine wpAnyH_take (i := 7) (oi := { dst := some 14, op := Op.extract (Operand.tmp 7) 0, type := 58, pos := "record.go:248", after := #[{ on := 6, ground := Ground.data }], guard := none }) (v := ?vr8) rfl (by kernel_rfl) (by kernel_rfl) (by kernel_rfl) (fun _ _ _ h => h) (Or.inl ⟨by rfl, ?yr8⟩) bu6 ?rr8
      case yr8 => (intro w hSw; go_simp; try with_reducible rfl)
      try simp only [Act.put, List.setIfInBounds_toArray, List.set_cons_zero, List.set_cons_succ]
      refine wpAnyH_take (i := 8) (oi := { dst := some 15, op := Op.extract (Operand.tmp 7) 1, type := 4, pos := "record.go:248", after := #[{ on := 6, ground := Ground.data }, { on := 10, ground := Ground.gcOnly Departure.lateStores }], guard := none }) (v := ?vr9) rfl (by kernel_rfl) (by kernel_rfl) (by kernel_rfl) (fun _ _ _ h => h) (Or.inl ⟨by rfl, ?yr9⟩) bu6 ?rr9
      case yr9 => (intro w hSw; go_simp; try with_reducible rfl)
      try simp only [Act.put, List.setIfInBounds_toArray, List.set_cons_zero, List.set_cons_succ]
      refine wpAnyH_ready (rs := [9]) (by kernel_rfl) (by simp) ?_
      refine AllReadyH.cons (o := { dst := some 5, op := Op.alloc 58, type := 0, pos := "record.go:248", after := #[], guard := none }) rfl (fun KK hKK => ?_) ?_
      · go_simp
        refine hKK.out _ _ (bu6.trans ((al_below _ _).mono bu6.size)) (fun _ => ?_)
        clear hKK KK
        try simp only [Act.put, List.setIfInBounds_toArray, List.set_cons_zero, List.set_cons_succ]
        refine wpAnyH_name (fun u10 hu10 => ?_)
        have bu10 : Below W1.heap.size W1 u10 := by rw [hu10.out]; exact (bu6.trans ((al_below _ _).mono bu6.size))
        have Gu10 : u10.heap[u6.heap.size]? = some (.cells pzc 58 (0, 0)) := by rw [hu10.out]; exact new_pa u6
        refine wpAnyH_ready (rs := [10]) (by kernel_rfl) (by simp) ?_
        refine AllReadyH.cons (o := { dst := none, op := Op.store 58 (Operand.tmp 5) (Operand.tmp 14), type := 0, pos := "record.go:248", after := #[{ on := 9, ground := Ground.data }, { on := 7, ground := Ground.data }, { on := 5, ground := Ground.chain }, { on := 0, ground := Ground.phase }, { on := 1, ground := Ground.phase }, { on := 2, ground := Ground.phase }, { on := 3, ground := Ground.phase }, { on := 4, ground := Ground.phase }, { on := 5, ground := Ground.phase }, { on := 6, ground := Ground.phase }, { on := 7, ground := Ground.phase }, { on := 8, ground := Ground.textOnly Departure.lateStores }, { on := 9, ground := Ground.phase }], guard := none }) rfl (fun KK hKK => ?_) ?_
        · refine wp_store_row 58 _ _ rfl u6.heap.size ys rfl rfl 58 pzc Gu10 HYI.out HYE.out HY1.out ?_
          refine hKK.out _ _ (below_setRow bu10 bu6.size _) (fun _ => ?_)
          clear hKK KK
          try simp only [Act.put]
          refine wpAnyH_name (fun u11 hu11 => ?_)
          have bu11 : Below W1.heap.size W1 u11 := by rw [hu11.out]; exact (below_setRow bu10 bu6.size _)
          refine wpAnyH_take (i := 11) (oi := { dst := some 6, op := Op.assign (Operand.tmp 15), type := 4, pos := "record.go:248", after := #[{ on := 8, ground := Ground.data }, { on := 10, ground := Ground.chain }, { on := 0, ground := Ground.phase }, { on := 1, ground := Ground.phase }, { on := 2, ground := Ground.phase }, { on := 3, ground := Ground.phase }, { on := 4, ground := Ground.phase }, { on := 5, ground := Ground.phase }, { on := 6, ground := Ground.phase }, { on := 7, ground := Ground.phase }, { on := 8, ground := Ground.phase }, { on := 9, ground := Ground.phase }, { on := 10, ground := Ground.phase }], guard := none }) (v := ?vr12) rfl (by kernel_rfl) (by kernel_rfl) (by kernel_rfl) (fun _ _ _ h => h) (Or.inl ⟨by rfl, ?yr12⟩) bu11 ?rr12
          case yr12 => (intro w hSw; go_simp; try with_reducible rfl)
          try simp only [Act.put, List.setIfInBounds_toArray, List.set_cons_zero, List.set_cons_succ]
          refine wpAnyH_done (by kernel_rfl) ?_ _
          have FZZ : Hid (From W1 u11) := bu11
          go_wp2_with fail
          go_meet
          exact ⟨rfl, FZZ.out⟩
        exact AllReadyH.nil
      exact AllReadyH.nil
    refine AllReadyH.cons (o := { dst := some 5, op := Op.alloc 58, type := 0, pos := "record.go:248", after := #[], guard := none }) rfl (fun KK hKK => ?_) ?_
    · go_simp
      refine hKK.out _ _ (bu0.trans ((al_below _ _).mono bu0.size)) (fun _ => ?_)
      clear hKK KK
      try simp only [Act.put, List.setIfInBounds_toArray, List.set_cons_zero, List.set_cons_succ]
      refine wpAnyH_name (fun u13 hu13 => ?_)
      have bu13 : Below W1.heap.size W1 u13 := by rw [hu13.out]; exact (bu0.trans ((al_below _ _).mono bu0.size))
      have Gu13 : u13.heap[u0.heap.size]? = some (.cells pzc 58 (0, 0)) := by rw [hu13.out]; exact new_pa u0
      refine wpAnyH_ready (rs := [5]) (by kernel_rfl) (by simp) ?_
      refine AllReadyH.cons (o := { dst := some 13, op := Op.call { callee := Callee.value (Operand.func 16), args := #[Operand.tmp 10, Operand.tmp 12], argTypes := #[43, 9] }, type := 59, pos := "record.go:248", after := #[{ on := 2, ground := Ground.data }, { on := 4, ground := Ground.data }], guard := none }) rfl (fun KK hKK => ?_) ?_
      · go_simp
        refine (CF.out _ bu13).mono ?_
        rintro e u14' ⟨rfl, bu14'⟩
        (try go_wp2_with fail)
        refine hKK.out _ _ (bu13.trans (Below.mono (bu14') bu13.size)) (fun _ => ?_)
        clear hKK KK
        try simp only [Act.put, List.setIfInBounds_toArray, List.set_cons_zero, List.set_cons_succ]
        refine wpAnyH_name (fun u14 hu14 => ?_)
        have bu14 : Below W1.heap.size W1 u14 := by rw [hu14.out]; exact (bu13.trans (Below.mono (bu14') bu13.size))
        try have Gu14 := blk_kept Gu13 bu14' (blk_lt Gu13)
        try rw [← hu14.out] at Gu14
        refine wpAnyH_take (i := 6) (oi := { dst := some 7, op := Op.move (Operand.tmp 13), type := 59, pos := "record.go:248", after := #[{ on := 5, ground := Ground.data }], guard := none }) (v := ?vr15) rfl (by kernel_rfl) (by kernel_rfl) (by kernel_rfl) (fun _ _ _ h => h) (Or.inl ⟨by rfl, ?yr15⟩) bu14 ?rr15
        case yr15 => (intro w hSw; go_simp; try with_reducible rfl)
        try simp only [Act.put, List.setIfInBounds_toArray, List.set_cons_zero, List.set_cons_succ]
        refine wpAnyH_take (i := 7) (oi := { dst := some 14, op := Op.extract (Operand.tmp 7) 0, type := 58, pos := "record.go:248", after := #[{ on := 6, ground := Ground.data }], guard := none }) (v := ?vr16) rfl (by kernel_rfl) (by kernel_rfl) (by kernel_rfl) (fun _ _ _ h => h) (Or.inl ⟨by rfl, ?yr16⟩) bu14 ?rr16
        case yr16 => (intro w hSw; go_simp; try with_reducible rfl)
        try simp only [Act.put, List.setIfInBounds_toArray, List.set_cons_zero, List.set_cons_succ]
        refine wpAnyH_take (i := 8) (oi := { dst := some 15, op := Op.extract (Operand.tmp 7) 1, type := 4, pos := "record.go:248", after := #[{ on := 6, ground := Ground.data }, { on := 10, ground := Ground.gcOnly Departure.lateStores }], guard := none }) (v := ?vr17) rfl (by kernel_rfl) (by kernel_rfl) (by kernel_rfl) (fun _ _ _ h => h) (Or.inl ⟨by rfl, ?yr17⟩) bu14 ?rr17
        case yr17 => (intro w hSw; go_simp; try with_reducible rfl)
        try simp only [Act.put, List.setIfInBounds_toArray, List.set_cons_zero, List.set_cons_succ]
        refine wpAnyH_ready (rs := [10]) (by kernel_rfl) (by simp) ?_
        refine AllReadyH.cons (o := { dst := none, op := Op.store 58 (Operand.tmp 5) (Operand.tmp 14), type := 0, pos := "record.go:248", after := #[{ on := 9, ground := Ground.data }, { on := 7, ground := Ground.data }, { on := 5, ground := Ground.chain }, { on := 0, ground := Ground.phase }, { on := 1, ground := Ground.phase }, { on := 2, ground := Ground.phase }, { on := 3, ground := Ground.phase }, { on := 4, ground := Ground.phase }, { on := 5, ground := Ground.phase }, { on := 6, ground := Ground.phase }, { on := 7, ground := Ground.phase }, { on := 8, ground := Ground.textOnly Departure.lateStores }, { on := 9, ground := Ground.phase }], guard := none }) rfl (fun KK hKK => ?_) ?_
        · refine wp_store_row 58 _ _ rfl u0.heap.size ys rfl rfl 58 pzc Gu14 HYI.out HYE.out HY1.out ?_
          refine hKK.out _ _ (below_setRow bu14 bu0.size _) (fun _ => ?_)
          clear hKK KK
          try simp only [Act.put]
          refine wpAnyH_name (fun u18 hu18 => ?_)
          have bu18 : Below W1.heap.size W1 u18 := by rw [hu18.out]; exact (below_setRow bu14 bu0.size _)
          refine wpAnyH_take (i := 11) (oi := { dst := some 6, op := Op.assign (Operand.tmp 15), type := 4, pos := "record.go:248", after := #[{ on := 8, ground := Ground.data }, { on := 10, ground := Ground.chain }, { on := 0, ground := Ground.phase }, { on := 1, ground := Ground.phase }, { on := 2, ground := Ground.phase }, { on := 3, ground := Ground.phase }, { on := 4, ground := Ground.phase }, { on := 5, ground := Ground.phase }, { on := 6, ground := Ground.phase }, { on := 7, ground := Ground.phase }, { on := 8, ground := Ground.phase }, { on := 9, ground := Ground.phase }, { on := 10, ground := Ground.phase }], guard := none }) (v := ?vr19) rfl (by kernel_rfl) (by kernel_rfl) (by kernel_rfl) (fun _ _ _ h => h) (Or.inl ⟨by rfl, ?yr19⟩) bu18 ?rr19
          case yr19 => (intro w hSw; go_simp; try with_reducible rfl)
          try simp only [Act.put, List.setIfInBounds_toArray, List.set_cons_zero, List.set_cons_succ]
          refine wpAnyH_done (by kernel_rfl) ?_ _
          have FZZ : Hid (From W1 u18) := bu18
          go_wp2_with fail
          go_meet
          exact ⟨rfl, FZZ.out⟩
        exact AllReadyH.nil
      exact AllReadyH.nil
    exact AllReadyH.nil
  case rest =>
    obtain ⟨rfl, hf⟩ := hcut
    replace FS := on FS hf
    replace FK := on FK hf
    replace FR := on FR hf
    replace CP := on CP hf
    replace CQ := on CQ hf
    clear CF FF
    obtain ⟨k0, k1, k2, -⟩ := FK.out wc (Below.refl _ _)
    have HS : Hid (SV wc B g (.slice va n vc) s ∧ Below B w wc) := FS.out wc (Below.refl _ _)
    cases fb with
    | true =>
      have HR : Hid (R = none) := by unfold Hid; rw [HM.out, if_pos (.inl rfl)]
      clear HM k1 k2
      go_wp2
      go_ret
      exact ⟨by rw [HR.out]; rfl, by rw [HR.out]; exact ⟨_, HS.out.1⟩, HS.out.2⟩
    | false =>
      by_cases h64 : 64 ≤ n
      · have HR : Hid (R = none) := by unfold Hid; rw [HM.out, if_pos (.inr (.inl h64))]
        have d64 : decide ((64 : Int) ≤ (n : Int)) = true := by simp; omega
        clear HM k1 k2
        go_wp2
        go_ret
        exact ⟨by rw [HR.out]; rfl, by rw [HR.out]; exact ⟨_, HS.out.1⟩, HS.out.2⟩
      · have d64 : decide ((64 : Int) ≤ (n : Int)) = false := by simp; omega
        by_cases hni : ii < s.n
        · have HR : Hid (R = none) := by unfold Hid; rw [HM.out, if_pos (.inr (.inr hni))]
          have cp := CP.out wc (Below.refl _ _)
          have e1 : pss s ii = false := by unfold pss; simp; omega
          have e2 : pnx s ii = s := by unfold pnx; rw [if_neg (by omega)]
          rw [e1, e2] at cp
          clear HM k1 CP CQ e1 e2
          go_wp2_with fail
          refine cp.mono ?_
          rintro e w3 ⟨rfl, s3, b3⟩
          have HZ : Hid (SV w3 B g (.slice va n vc) s ∧ Below B w w3) := ⟨s3, HS.out.2.trans b3⟩
          clear cp s3 b3
          go_wp2
          go_ret
          exact ⟨by rw [HR.out]; rfl, by rw [HR.out]; exact ⟨_, HZ.out.1⟩, HZ.out.2⟩
        · have HR : Hid (R = some ⟨s.l ++ [z], ii + 1⟩) := by unfold Hid; rw [HM.out, if_neg (by simp; omega)]
          have cp := CQ.out wc (Below.refl _ _) (by omega)
          have SN : Hid (SV (wc.setCell ⟨g, 1, none⟩ (.int .i64 (ii + 1))) B g (.slice va n vc) ⟨s.l, ii + 1⟩ ∧ Below B w (wc.setCell ⟨g, 1, none⟩ (.int .i64 (ii + 1)))) := ⟨HS.out.1.next _, HS.out.2.trans (set_below HBg.out.1)⟩
          have RN : Hid ((wc.setCell ⟨g, 1, none⟩ (.int .i64 (ii + 1))).heap[w.heap.size]? = some (.cells cs.toArray 33 (0, 0))) := (heap_setCell_other _ _ _ _ HNE.out).trans (FR.out wc (Below.refl _ _))
          clear HM k1 CP CQ
          go_wp2_with fail
          refine cp.mono ?_
          rintro e w3 ⟨rfl, e3⟩
          rw [← e3] at SN RN
          clear cp k0 k2 HS FS FK FR e3
          have HSN : Hid (ii + 1 = r.x.i + 1) := by unfold Hid; rw [HII.out]
          go_wp2_with fail
          refine wp_region_held_drew (S := fun W : World => W.heap[w.heap.size]? = some (.cells cs.toArray 33 (0, 0))) (by kernel_rfl) (RN.out) (fun _ => ?_)
          refine wpAnyH_name (fun u0 hu0 => ?_)
          have su0 : (fun W : World => W.heap[w.heap.size]? = some (.cells cs.toArray 33 (0, 0))) u0 := by rw [hu0.out]; exact (RN.out)
          have Su0 : SV u0 B g (.slice va n vc) ⟨s.l, ii + 1⟩ ∧ Below B w u0 := by rw [hu0.out]; exact ⟨⟨SN.out.1.1, SN.out.1.2.below ((Below.refl _ _).drew)⟩, SN.out.2.drew⟩
          refine wpAnyH_take (i := 0) (oi := { dst := some 32, op := Op.move (Operand.tmp 0), type := 85, pos := "record.go:252", after := #[], guard := none }) (v := ?vq1) rfl (by kernel_rfl) (by kernel_rfl) (by kernel_rfl) (fun _ _ _ h => h) (Or.inl ⟨by rfl, ?yq1⟩) su0 ?rq1
          case yq1 => (intro w hSw; go_simp; try with_reducible rfl)
          try simp only [Act.put, List.setIfInBounds_toArray, List.set_cons_zero, List.set_cons_succ]
          refine wpAnyH_take (i := 1) (oi := { dst := some 33, op := Op.move (Operand.tmp 0), type := 85, pos := "record.go:252", after := #[], guard := none }) (v := ?vq2) rfl (by kernel_rfl) (by kernel_rfl) (by kernel_rfl) (fun _ _ _ h => h) (Or.inl ⟨by rfl, ?yq2⟩) su0 ?rq2
          case yq2 => (intro w hSw; go_simp; try with_reducible rfl)
          try simp only [Act.put, List.setIfInBounds_toArray, List.set_cons_zero, List.set_cons_succ]
          refine wpAnyH_take (i := 2) (oi := { dst := some 34, op := Op.nilCheck (Operand.tmp 33), type := 0, pos := "record.go:252", after := #[{ on := 1, ground := Ground.data }], guard := none }) (v := ?vq3) rfl (by kernel_rfl) (by kernel_rfl) (by kernel_rfl) (fun _ _ _ h => h) (Or.inl ⟨by rfl, ?yq3⟩) su0 ?rq3
          case yq3 => (intro w hSw; go_simp; try with_reducible rfl)
          try simp only [Act.put, List.setIfInBounds_toArray, List.set_cons_zero, List.set_cons_succ]
          refine wpAnyH_take (i := 3) (oi := { dst := some 35, op := Op.fieldAddr 43 (Operand.tmp 34) 0, type := 0, pos := "record.go:252", after := #[{ on := 2, ground := Ground.data }], guard := none }) (v := ?vq4) rfl (by kernel_rfl) (by kernel_rfl) (by kernel_rfl) (fun _ _ _ h => h) (Or.inl ⟨by rfl, ?yq4⟩) su0 ?rq4
          case yq4 => (intro w hSw; go_simp; try with_reducible rfl)
          try simp only [Act.put, List.setIfInBounds_toArray, List.set_cons_zero, List.set_cons_succ]
          refine wpAnyH_take (i := 5) (oi := { dst := some 37, op := Op.fieldAddr 33 (Operand.tmp 3) 1, type := 0, pos := "record.go:252", after := #[], guard := none }) (v := ?vq5) rfl (by kernel_rfl) (by kernel_rfl) (by kernel_rfl) (fun _ _ _ h => h) (Or.inl ⟨by rfl, ?yq5⟩) su0 ?rq5
          case yq5 => (intro w hSw; go_simp; try with_reducible rfl)
          try simp only [Act.put, List.setIfInBounds_toArray, List.set_cons_zero, List.set_cons_succ]
          refine wpAnyH_take (i := 6) (oi := { dst := some 38, op := Op.load 3 (Operand.tmp 37), type := 3, pos := "record.go:252", after := #[{ on := 5, ground := Ground.data }], guard := none }) (v := ?vq6) rfl (by kernel_rfl) (by kernel_rfl) (by kernel_rfl) (fun _ _ _ h => h) (Or.inl ⟨by rfl, ?yq6⟩) su0 ?rq6
          case yq6 => (intro w hSw; obtain ⟨q0, q1, q2, -, q4, -⟩ := rcC (blk_range (by have := hSw; rw [HCS.out] at this; exact this)) HRO.out; simp only [Nat.zero_add] at q0 q1 q2 q4; (try rw [← HII.out] at q1); (try rw [← HPP.out] at q2); go_simp; try with_reducible rfl)
          try simp only [Act.put, List.setIfInBounds_toArray, List.set_cons_zero, List.set_cons_succ]
          refine wpAnyH_take (i := 7) (oi := { dst := some 39, op := Op.fieldAddr 33 (Operand.tmp 3) 2, type := 0, pos := "record.go:252", after := #[], guard := none }) (v := ?vq7) rfl (by kernel_rfl) (by kernel_rfl) (by kernel_rfl) (fun _ _ _ h => h) (Or.inl ⟨by rfl, ?yq7⟩) su0 ?rq7
          case yq7 => (intro w hSw; go_simp; try with_reducible rfl)
          try simp only [Act.put, List.setIfInBounds_toArray, List.set_cons_zero, List.set_cons_succ]
          refine wpAnyH_take (i := 8) (oi := { dst := some 40, op := Op.load 9 (Operand.tmp 39), type := 9, pos := "record.go:252", after := #[{ on := 7, ground := Ground.data }], guard := none }) (v := ?vq8) rfl (by kernel_rfl) (by kernel_rfl) (by kernel_rfl) (fun _ _ _ h => h) (Or.inl ⟨by rfl, ?yq8⟩) su0 ?rq8
          case yq8 => (intro w hSw; obtain ⟨q0, q1, q2, -, q4, -⟩ := rcC (blk_range (by have := hSw; rw [HCS.out] at this; exact this)) HRO.out; simp only [Nat.zero_add] at q0 q1 q2 q4; (try rw [← HII.out] at q1); (try rw [← HPP.out] at q2); go_simp; try with_reducible rfl)
          try simp only [Act.put, List.setIfInBounds_toArray, List.set_cons_zero, List.set_cons_succ]
          refine wpAnyH_take (i := 9) (oi := { dst := some 41, op := Op.fieldAddr 33 (Operand.tmp 3) 3, type := 0, pos := "record.go:252", after := #[], guard := none }) (v := ?vq9) rfl (by kernel_rfl) (by kernel_rfl) (by kernel_rfl) (fun _ _ _ h => h) (Or.inl ⟨by rfl, ?yq9⟩) su0 ?rq9
          case yq9 => (intro w hSw; go_simp; try with_reducible rfl)
          try simp only [Act.put, List.setIfInBounds_toArray, List.set_cons_zero, List.set_cons_succ]
          refine wpAnyH_take (i := 10) (oi := { dst := some 42, op := Op.load 23 (Operand.tmp 41), type := 23, pos := "record.go:252", after := #[{ on := 9, ground := Ground.data }], guard := none }) (v := .agg (r.x.s.map (Value.int .u8)).toArray) rfl (by kernel_rfl) (by kernel_rfl) (by kernel_rfl) (fun _ _ _ h => h) (yieldsIf_load_mid (by rfl) 23 _ rfl w.heap.size 3 rfl (r.x.s.map (Value.int .u8)) _ (fun W hW => by have h9 := hW; rw [HCS.out] at h9; have := (rcC (blk_range h9) HRO.out).2.2.2.1; simpa using this) Tryd.underlying23 rfl (by rw [sizeHs]; simp [HRO.out.2.2.1])) su0 ?_
          try simp only [Act.put, List.setIfInBounds_toArray, List.set_cons_zero, List.set_cons_succ]
          refine wpAnyH_take (i := 11) (oi := { dst := some 43, op := Op.fieldAddr 33 (Operand.tmp 3) 4, type := 0, pos := "record.go:252", after := #[], guard := none }) (v := ?vq11) rfl (by kernel_rfl) (by kernel_rfl) (by kernel_rfl) (fun _ _ _ h => h) (Or.inl ⟨by rfl, ?yq11⟩) su0 ?rq11
          case yq11 => (intro w hSw; go_simp; try with_reducible rfl)
          try simp only [Act.put, List.setIfInBounds_toArray, List.set_cons_zero, List.set_cons_succ]
          refine wpAnyH_take (i := 12) (oi := { dst := some 44, op := Op.load 3 (Operand.tmp 43), type := 3, pos := "record.go:252", after := #[{ on := 11, ground := Ground.data }], guard := none }) (v := ?vq12) rfl (by kernel_rfl) (by kernel_rfl) (by kernel_rfl) (fun _ _ _ h => h) (Or.inl ⟨by rfl, ?yq12⟩) su0 ?rq12
          case yq12 => (intro w hSw; obtain ⟨q0, q1, q2, -, q4, -⟩ := rcC (blk_range (by have := hSw; rw [HCS.out] at this; exact this)) HRO.out; simp only [Nat.zero_add] at q0 q1 q2 q4; (try rw [← HII.out] at q1); (try rw [← HPP.out] at q2); go_simp; try with_reducible rfl)
          try simp only [Act.put, List.setIfInBounds_toArray, List.set_cons_zero, List.set_cons_succ]
          refine wpAnyH_take (i := 13) (oi := { dst := some 45, op := Op.build 58 #[(0, Operand.tmp 38), (1, Operand.tmp 40), (2, Operand.tmp 42), (3, Operand.tmp 44)], type := 58, pos := "record.go:252", after := #[{ on := 6, ground := Ground.data }, { on := 8, ground := Ground.data }, { on := 10, ground := Ground.data }, { on := 12, ground := Ground.data }], guard := none }) (v := .agg z.cells.toArray) rfl (by kernel_rfl) (by kernel_rfl) (by kernel_rfl) (fun _ _ _ h => h) (yields_built (by rfl) 58 [(0, _), (1, _), (2, _), (3, _)] rfl [(0, .int .i64 ii), (1, .string pp), (2, .agg (u8c r.x.s)), (3, .int .i64 r.x.n)] rfl z.cells.toArray BZ.out) su0 ?_
          try simp only [Act.put, List.setIfInBounds_toArray, List.set_cons_zero, List.set_cons_succ]
          refine wpAnyH_ready (rs := [4, 14]) (by kernel_rfl) (by simp) ?_
          refine AllReadyH.cons (o := { dst := some 36, op := Op.load 41 (Operand.tmp 35), type := 41, pos := "record.go:252", after := #[{ on := 3, ground := Ground.data }], guard := none }) rfl (fun KK hKK => ?_) ?_
          · have k4 := Su0.1.cells.1
            go_simp
            refine hKK.out _ _ (su0) (fun _ => ?_)
            clear hKK KK
            try simp only [Act.put, List.setIfInBounds_toArray, List.set_cons_zero, List.set_cons_succ]
            refine wpAnyH_name (fun u14 hu14 => ?_)
            have su14 : (fun W : World => W.heap[w.heap.size]? = some (.cells cs.toArray 33 (0, 0))) u14 := by rw [hu14.out]; exact (su0)
            have Su14 := Su0
            rw [← hu14.out] at Su14
            try have Ku14 := Ku0
            try rw [← hu14.out] at Ku14
            refine wpAnyH_ready (rs := [14]) (by kernel_rfl) (by simp) ?_
            refine AllReadyH.cons (o := { dst := some 46, op := Op.buildSlice 41 1 #[(0, Operand.tmp 45)], type := 41, pos := "record.go:252", after := #[{ on := 13, ground := Ground.data }], guard := none }) rfl (fun KK hKK => ?_) ?_
            · refine wp_bsP _ rfl z HZO.out rfl ?_
              refine hKK.out _ _ (blk_kept su14 (al_below _ _) (blk_lt su14)) (fun _ => ?_)
              clear hKK KK
              try simp only [Act.put, List.setIfInBounds_toArray, List.set_cons_zero, List.set_cons_succ]
              refine wpAnyH_name (fun u15 hu15 => ?_)
              have su15 : (fun W : World => W.heap[w.heap.size]? = some (.cells cs.toArray 33 (0, 0))) u15 := by rw [hu15.out]; exact (blk_kept su14 (al_below _ _) (blk_lt su14))
              have Su15 : SV u15 B g (.slice va n vc) ⟨s.l, ii + 1⟩ ∧ Below B w u15 := by rw [hu15.out]; exact ⟨Su14.1.kept (al_below _ _), Su14.2.trans ((al_below _ _).mono (Nat.le_trans HBg.out.1 (Nat.le_of_lt Su14.1.lt)))⟩
              have Ku15 : u15.rangeAt u14.heap.size 0 z.cells := by rw [hu15.out]; exact pa_new u14 z
              refine wpAnyH_ready (rs := [15]) (by kernel_rfl) (by simp) ?_
              refine AllReadyH.cons (o := { dst := some 47, op := Op.call { callee := Callee.builtin Builtin.append, args := #[Operand.tmp 36, Operand.tmp 46], argTypes := #[41, 41] }, type := 41, pos := "record.go:252", after := #[{ on := 4, ground := Ground.data }, { on := 14, ground := Ground.data }], guard := none }) rfl (fun KK hKK => ?_) ?_
              · refine wp_append_pa _ _ rfl B _ s.l rfl Su15.1.2 u14.heap.size z 1 HZO.out rfl Ku15 (by have := HLN.out; have := HN.out; omega) (Nat.le_trans HBg.out.1 (Nat.le_of_lt Su15.1.lt)) ?_
                intro v9 u16' r9 g9
                refine hKK.out _ _ ((g9.block _ (blk_lt su15) (fun e => own_ne Su15.1.2.1.1 su15 (by decide) e.symm)).trans su15) (fun _ => ?_)
                clear hKK KK
                try simp only [Act.put, List.setIfInBounds_toArray, List.set_cons_zero, List.set_cons_succ]
                refine wpAnyH_name (fun u16 hu16 => ?_)
                have su16 : (fun W : World => W.heap[w.heap.size]? = some (.cells cs.toArray 33 (0, 0))) u16 := by rw [hu16.out]; exact ((g9.block _ (blk_lt su15) (fun e => own_ne Su15.1.2.1.1 su15 (by decide) e.symm)).trans su15)
                have Pu16 := Su15.1.parts g9 r9
                rw [← hu16.out] at Pu16 r9 g9
                have xu16 : u16.heap[g]? = some (.cells #[.slice va n vc, .int .i64 (ii + 1)] 43 (0, 0)) := (g9.block g Su15.1.lt (fun e => own_ne Su15.1.2.1.1 Su15.1.1 (by decide) e.symm)).trans Su15.1.1
                have Qu16 : Below B w u16 := Su15.2.trans ((Below.refl B u15).grown g9 (Nat.le_trans HBg.out.1 (Nat.le_of_lt Su15.1.lt)) (own_base Su15.1.2.1.1))
                obtain ⟨a9, c9, rfl, -, -, -⟩ := r9.is.shape
                simp only [List.length_append, List.length_cons, List.length_nil, Nat.zero_add] at Pu16
                refine wpAnyH_take (i := 16) (oi := { dst := some 48, op := Op.nilCheck (Operand.tmp 32), type := 0, pos := "record.go:252", after := #[{ on := 0, ground := Ground.data }, { on := 0, ground := Ground.phase }, { on := 1, ground := Ground.phase }, { on := 2, ground := Ground.phase }, { on := 3, ground := Ground.phase }, { on := 4, ground := Ground.phase }, { on := 5, ground := Ground.phase }, { on := 6, ground := Ground.phase }, { on := 7, ground := Ground.phase }, { on := 8, ground := Ground.phase }, { on := 9, ground := Ground.phase }, { on := 10, ground := Ground.phase }, { on := 11, ground := Ground.phase }, { on := 12, ground := Ground.phase }, { on := 13, ground := Ground.phase }, { on := 14, ground := Ground.phase }, { on := 15, ground := Ground.phase }], guard := none }) (v := ?vq17) rfl (by kernel_rfl) (by kernel_rfl) (by kernel_rfl) (fun _ _ _ h => h) (Or.inl ⟨by rfl, ?yq17⟩) su16 ?rq17
                case yq17 => (intro w hSw; go_simp; try with_reducible rfl)
                try simp only [Act.put, List.setIfInBounds_toArray, List.set_cons_zero, List.set_cons_succ]
                refine wpAnyH_take (i := 17) (oi := { dst := some 49, op := Op.fieldAddr 43 (Operand.tmp 48) 0, type := 0, pos := "record.go:252", after := #[{ on := 16, ground := Ground.data }, { on := 0, ground := Ground.phase }, { on := 1, ground := Ground.phase }, { on := 2, ground := Ground.phase }, { on := 3, ground := Ground.phase }, { on := 4, ground := Ground.phase }, { on := 5, ground := Ground.phase }, { on := 6, ground := Ground.phase }, { on := 7, ground := Ground.phase }, { on := 8, ground := Ground.phase }, { on := 9, ground := Ground.phase }, { on := 10, ground := Ground.phase }, { on := 11, ground := Ground.phase }, { on := 12, ground := Ground.phase }, { on := 13, ground := Ground.phase }, { on := 14, ground := Ground.phase }, { on := 15, ground := Ground.phase }], guard := none }) (v := ?vq18) rfl (by kernel_rfl) (by kernel_rfl) (by kernel_rfl) (fun _ _ _ h => h) (Or.inl ⟨by rfl, ?yq18⟩) su16 ?rq18
                case yq18 => (intro w hSw; go_simp; try with_reducible rfl)
                try simp only [Act.put, List.setIfInBounds_toArray, List.set_cons_zero, List.set_cons_succ]
                refine wpAnyH_ready (rs := [18]) (by kernel_rfl) (by simp) ?_
                refine AllReadyH.cons (o := { dst := none, op := Op.store 41 (Operand.tmp 49) (Operand.tmp 47), type := 0, pos := "record.go:252", after := #[{ on := 17, ground := Ground.data }, { on := 15, ground := Ground.data }, { on := 15, ground := Ground.chain }, { on := 0, ground := Ground.phase }, { on := 1, ground := Ground.phase }, { on := 2, ground := Ground.phase }, { on := 3, ground := Ground.phase }, { on := 4, ground := Ground.phase }, { on := 5, ground := Ground.phase }, { on := 6, ground := Ground.phase }, { on := 7, ground := Ground.phase }, { on := 8, ground := Ground.phase }, { on := 9, ground := Ground.phase }, { on := 10, ground := Ground.phase }, { on := 11, ground := Ground.phase }, { on := 12, ground := Ground.phase }, { on := 13, ground := Ground.phase }, { on := 14, ground := Ground.phase }, { on := 15, ground := Ground.phase }], guard := none }) rfl (fun KK hKK => ?_) ?_
                · have k8 : u16.cell? ⟨g, 0, none⟩ = some (.slice va n vc) := by simp [World.cell?, xu16]
                  have f8 : u16.frozen? ⟨g, 0, none⟩ = false := by simp [World.frozen?, xu16]
                  go_simp
                  refine hKK.out _ _ ((heap_setCell_other _ _ _ _ HNE.out).trans su16) (fun _ => ?_)
                  clear hKK KK
                  try simp only [Act.put]
                  refine wpAnyH_name (fun u19 hu19 => ?_)
                  have su19 : (fun W : World => W.heap[w.heap.size]? = some (.cells cs.toArray 33 (0, 0))) u19 := by rw [hu19.out]; exact ((heap_setCell_other _ _ _ _ HNE.out).trans su16)
                  rw [← hu19.out] at Pu16
                  have B9 : Below B w u19 := by rw [hu19.out]; exact Qu16.trans (set_below HBg.out.1)
                  refine wpAnyH_done (by kernel_rfl) ?_ _
                  have HZ : Hid (SV u19 B g (.slice a9 (s.l.length + 1) c9) ⟨s.l ++ [z], ii + 1⟩ ∧ Below B w u19) := ⟨Pu16, B9⟩
                  go_wp2_with fail
                  go_ret
                  exact ⟨by rw [HR.out]; rfl, by rw [HR.out]; exact ⟨_, HZ.out.1⟩, HZ.out.2⟩
                exact AllReadyH.nil
              exact AllReadyH.nil
            exact AllReadyH.nil
          refine AllReadyH.cons (o := { dst := some 46, op := Op.buildSlice 41 1 #[(0, Operand.tmp 45)], type := 41, pos := "record.go:252", after := #[{ on := 13, ground := Ground.data }], guard := none }) rfl (fun KK hKK => ?_) ?_
          · refine wp_bsP _ rfl z HZO.out rfl ?_
            refine hKK.out _ _ (blk_kept su0 (al_below _ _) (blk_lt su0)) (fun _ => ?_)
            clear hKK KK
            try simp only [Act.put, List.setIfInBounds_toArray, List.set_cons_zero, List.set_cons_succ]
            refine wpAnyH_name (fun u20 hu20 => ?_)
            have su20 : (fun W : World => W.heap[w.heap.size]? = some (.cells cs.toArray 33 (0, 0))) u20 := by rw [hu20.out]; exact (blk_kept su0 (al_below _ _) (blk_lt su0))
            have Su20 : SV u20 B g (.slice va n vc) ⟨s.l, ii + 1⟩ ∧ Below B w u20 := by rw [hu20.out]; exact ⟨Su0.1.kept (al_below _ _), Su0.2.trans ((al_below _ _).mono (Nat.le_trans HBg.out.1 (Nat.le_of_lt Su0.1.lt)))⟩
            have Ku20 : u20.rangeAt u0.heap.size 0 z.cells := by rw [hu20.out]; exact pa_new u0 z
            refine wpAnyH_ready (rs := [4]) (by kernel_rfl) (by simp) ?_
            refine AllReadyH.cons (o := { dst := some 36, op := Op.load 41 (Operand.tmp 35), type := 41, pos := "record.go:252", after := #[{ on := 3, ground := Ground.data }], guard := none }) rfl (fun KK hKK => ?_) ?_
            · have k4 := Su20.1.cells.1
              go_simp
              refine hKK.out _ _ (su20) (fun _ => ?_)
              clear hKK KK
              try simp only [Act.put, List.setIfInBounds_toArray, List.set_cons_zero, List.set_cons_succ]
              refine wpAnyH_name (fun u21 hu21 => ?_)
              have su21 : (fun W : World => W.heap[w.heap.size]? = some (.cells cs.toArray 33 (0, 0))) u21 := by rw [hu21.out]; exact (su20)
              have Su21 := Su20
              rw [← hu21.out] at Su21
              try have Ku21 := Ku20
              try rw [← hu21.out] at Ku21
              refine wpAnyH_ready (rs := [15]) (by kernel_rfl) (by simp) ?_
              refine AllReadyH.cons (o := { dst := some 47, op := Op.call { callee := Callee.builtin Builtin.append, args := #[Operand.tmp 36, Operand.tmp 46], argTypes := #[41, 41] }, type := 41, pos := "record.go:252", after := #[{ on := 4, ground := Ground.data }, { on := 14, ground := Ground.data }], guard := none }) rfl (fun KK hKK => ?_) ?_
              · refine wp_append_pa _ _ rfl B _ s.l rfl Su21.1.2 u0.heap.size z 1 HZO.out rfl Ku21 (by have := HLN.out; have := HN.out; omega) (Nat.le_trans HBg.out.1 (Nat.le_of_lt Su21.1.lt)) ?_
                intro v9 u22' r9 g9
                refine hKK.out _ _ ((g9.block _ (blk_lt su21) (fun e => own_ne Su21.1.2.1.1 su21 (by decide) e.symm)).trans su21) (fun _ => ?_)
                clear hKK KK
                try simp only [Act.put, List.setIfInBounds_toArray, List.set_cons_zero, List.set_cons_succ]
                refine wpAnyH_name (fun u22 hu22 => ?_)
                have su22 : (fun W : World => W.heap[w.heap.size]? = some (.cells cs.toArray 33 (0, 0))) u22 := by rw [hu22.out]; exact ((g9.block _ (blk_lt su21) (fun e => own_ne Su21.1.2.1.1 su21 (by decide) e.symm)).trans su21)
                have Pu22 := Su21.1.parts g9 r9
                rw [← hu22.out] at Pu22 r9 g9
                have xu22 : u22.heap[g]? = some (.cells #[.slice va n vc, .int .i64 (ii + 1)] 43 (0, 0)) := (g9.block g Su21.1.lt (fun e => own_ne Su21.1.2.1.1 Su21.1.1 (by decide) e.symm)).trans Su21.1.1
                have Qu22 : Below B w u22 := Su21.2.trans ((Below.refl B u21).grown g9 (Nat.le_trans HBg.out.1 (Nat.le_of_lt Su21.1.lt)) (own_base Su21.1.2.1.1))
                obtain ⟨a9, c9, rfl, -, -, -⟩ := r9.is.shape
                simp only [List.length_append, List.length_cons, List.length_nil, Nat.zero_add] at Pu22
                refine wpAnyH_take (i := 16) (oi := { dst := some 48, op := Op.nilCheck (Operand.tmp 32), type := 0, pos := "record.go:252", after := #[{ on := 0, ground := Ground.data }, { on := 0, ground := Ground.phase }, { on := 1, ground := Ground.phase }, { on := 2, ground := Ground.phase }, { on := 3, ground := Ground.phase }, { on := 4, ground := Ground.phase }, { on := 5, ground := Ground.phase }, { on := 6, ground := Ground.phase }, { on := 7, ground := Ground.phase }, { on := 8, ground := Ground.phase }, { on := 9, ground := Ground.phase }, { on := 10, ground := Ground.phase }, { on := 11, ground := Ground.phase }, { on := 12, ground := Ground.phase }, { on := 13, ground := Ground.phase }, { on := 14, ground := Ground.phase }, { on := 15, ground := Ground.phase }], guard := none }) (v := ?vq23) rfl (by kernel_rfl) (by kernel_rfl) (by kernel_rfl) (fun _ _ _ h => h) (Or.inl ⟨by rfl, ?yq23⟩) su22 ?rq23
                case yq23 => (intro w hSw; go_simp; try with_reducible rfl)
                try simp only [Act.put, List.setIfInBounds_toArray, List.set_cons_zero, List.set_cons_succ]
                refine wpAnyH_take (i := 17) (oi := { dst := some 49, op := Op.fieldAddr 43 (Operand.tmp 48) 0, type := 0, pos := "record.go:252", after := #[{ on := 16, ground := Ground.data }, { on := 0, ground := Ground.phase }, { on := 1, ground := Ground.phase }, { on := 2, ground := Ground.phase }, { on := 3, ground := Ground.phase }, { on := 4, ground := Ground.phase }, { on := 5, ground := Ground.phase }, { on := 6, ground := Ground.phase }, { on := 7, ground := Ground.phase }, { on := 8, ground := Ground.phase }, { on := 9, ground := Ground.phase }, { on := 10, ground := Ground.phase }, { on := 11, ground := Ground.phase }, { on := 12, ground := Ground.phase }, { on := 13, ground := Ground.phase }, { on := 14, ground := Ground.phase }, { on := 15, ground := Ground.phase }], guard := none }) (v := ?vq24) rfl (by kernel_rfl) (by kernel_rfl) (by kernel_rfl) (fun _ _ _ h => h) (Or.inl ⟨by rfl, ?yq24⟩) su22 ?rq24
                case yq24 => (intro w hSw; go_simp; try with_reducible rfl)
                try simp only [Act.put, List.setIfInBounds_toArray, List.set_cons_zero, List.set_cons_succ]
                refine wpAnyH_ready (rs := [18]) (by kernel_rfl) (by simp) ?_
                refine AllReadyH.cons (o := { dst := none, op := Op.store 41 (Operand.tmp 49) (Operand.tmp 47), type := 0, pos := "record.go:252", after := #[{ on := 17, ground := Ground.data }, { on := 15, ground := Ground.data }, { on := 15, ground := Ground.chain }, { on := 0, ground := Ground.phase }, { on := 1, ground := Ground.phase }, { on := 2, ground := Ground.phase }, { on := 3, ground := Ground.phase }, { on := 4, ground := Ground.phase }, { on := 5, ground := Ground.phase }, { on := 6, ground := Ground.phase }, { on := 7, ground := Ground.phase }, { on := 8, ground := Ground.phase }, { on := 9, ground := Ground.phase }, { on := 10, ground := Ground.phase }, { on := 11, ground := Ground.phase }, { on := 12, ground := Ground.phase }, { on := 13, ground := Ground.phase }, { on := 14, ground := Ground.phase }, { on := 15, ground := Ground.phase }], guard := none }) rfl (fun KK hKK => ?_) ?_
                · have k8 : u22.cell? ⟨g, 0, none⟩ = some (.slice va n vc) := by simp [World.cell?, xu22]
                  have f8 : u22.frozen? ⟨g, 0, none⟩ = false := by simp [World.frozen?, xu22]
                  go_simp
                  refine hKK.out _ _ ((heap_setCell_other _ _ _ _ HNE.out).trans su22) (fun _ => ?_)
                  clear hKK KK
                  try simp only [Act.put]
                  refine wpAnyH_name (fun u25 hu25 => ?_)
                  have su25 : (fun W : World => W.heap[w.heap.size]? = some (.cells cs.toArray 33 (0, 0))) u25 := by rw [hu25.out]; exact ((heap_setCell_other _ _ _ _ HNE.out).trans su22)
                  rw [← hu25.out] at Pu22
                  have B9 : Below B w u25 := by rw [hu25.out]; exact Qu22.trans (set_below HBg.out.1)
                  refine wpAnyH_done (by kernel_rfl) ?_ _
                  have HZ : Hid (SV u25 B g (.slice a9 (s.l.length + 1) c9) ⟨s.l ++ [z], ii + 1⟩ ∧ Below B w u25) := ⟨Pu22, B9⟩
                  go_wp2_with fail
                  go_ret
                  exact ⟨by rw [HR.out]; rfl, by rw [HR.out]; exact ⟨_, HZ.out.1⟩, HZ.out.2⟩
                exact AllReadyH.nil
              exact AllReadyH.nil
            exact AllReadyH.nil
          exact AllReadyH.nil
end Go.Proofs.YtcenchnmibdebaaDoor
