/-
  TreeChecks: for all two lists of entries: which are a tree, how many bytes they have, which are visible, and whether they are the same, is told as the document says. No condition.
-/
import Derived.Test.YtdomknajkipmnaaDoorAw
import Derived.Test.YtdomknajkipmnaaDoorFr
import Derived.Test.YtdomknajkipmnaaDoorVs
import Derived.Test.YtdomknajkipmnaaDoorRvs
import Derived.Test.YtdomknajkipmnaaDoorR1
import Derived.Test.YtdomknajkipmnaaDoorRg
import Derived.Test.YtdomknajkipmnaaDoorSz
namespace Go.Proofs.YtdomknajkipmnaaDoor.treeChecks
open Go.ChangeShapes Go.WideShapes Go.ChangeAt Go.RowKit Go.Deep Go.ChangeMaps

set_option maxHeartbeats 4000000 in
set_option maxRecDepth 100000 in
theorem walk (v : Value) (l : List En) (u : Value) (m : List En) (w : World) (hw : Mx w) (hes : ES w v l) (hem : ES w u m) :
    Calls Tryd.prog 3 #[v, u] w fun e w' => e = .returned (.bool true) ∧ Below w.heap.size w w' := by
  obtain ⟨a, c, rfl, g2, g3, _⟩ := hes.shape
  obtain ⟨a', c', rfl, g2', g3', _⟩ := hem.shape
  have HM : Hid (Mx w) := hw
  have HS : Hid (ES w (.slice a l.length c) l) := hes
  have HS' : Hid (ES w (.slice a' m.length c') m) := hem
  have CL := light_any _ l 70 70000 w HS.out (by omega) (by omega) (by unfold maxLen at g3; omega)
  have CL' := light_any _ m 70 70000 w HS'.out (by omega) (by omega) (by unfold maxLen at g3'; omega)
  have HG1 : Hid ((l.length ≤ 70 ∧ ∀ x ∈ l, x.p.size ≤ 1000 ∧ x.z.length ≤ 70000) → Lt l) := fun h => ⟨by omega, fun y hy => by have := h.2 y hy; omega⟩
  have HG2 : Hid ((m.length ≤ 70 ∧ ∀ x ∈ m, x.p.size ≤ 1000 ∧ x.z.length ≤ 70000) → Lt m) := fun h => ⟨by omega, fun y hy => by have := h.2 y hy; omega⟩
  generalize (l.length ≤ 70 ∧ ∀ x ∈ l, x.p.size ≤ 1000 ∧ x.z.length ≤ 70000) = G1 at *
  generalize (m.length ≤ 70 ∧ ∀ x ∈ m, x.p.size ≤ 1000 ∧ x.z.length ≤ 70000) = G2 at *
  obtain ⟨n, hn'⟩ : ∃ n, n = l.length := ⟨_, rfl⟩
  have HN : Hid (n = l.length) := hn'
  obtain ⟨k, hk'⟩ : ∃ k, k = m.length := ⟨_, rfl⟩
  have HK : Hid (k = m.length) := hk'
  rw [← hn'] at HS CL g2 ⊢
  rw [← hk'] at HS' CL' g2' ⊢
  clear hw hes hem g3 g3' hn' hk'
  have aw0 := awake_any w HM.out
  go_enter Tryd.func3, Tryd.ntmps3
  go_wp2_with fail
  refine CL.mono ?_
  rintro e wq ⟨r, rfl, hq, hr⟩
  replace hq := hq.symm
  subst hq
  have HR : Hid (r = true → G1) := hr
  clear hr CL
  cases r with
  | false =>
    go_wp2_with (go_at_call 9; refine aw0.mono ?_; rintro e w2 ⟨rfl, b2⟩)
    go_ret
    exact ⟨rfl, b2⟩
  | true =>
    have LL : Hid (Lt l) := HG1.out (HR.out rfl)
    clear HR HG1
    go_wp2_with fail
    refine CL'.mono ?_
    rintro e wq ⟨r, rfl, hq, hr⟩
    replace hq := hq.symm
    subst hq
    have HR : Hid (r = true → G2) := hr
    clear hr CL'
    cases r with
    | false =>
      go_wp2_with (go_at_call 9; refine aw0.mono ?_; rintro e w2 ⟨rfl, b2⟩)
      go_ret
      exact ⟨rfl, b2⟩
    | true =>
      have LM : Hid (Lt m) := HG2.out (HR.out rfl)
      clear HR HG2 aw0
      have hl5 : l.length ≤ 100000 := by have := LL.out.1; omega
      have hm5 : m.length ≤ 100000 := by have := LM.out.1; omega
      have hv5 : (vis l).length ≤ 100000 := by
        have h1 : (vis l).length ≤ l.length := List.length_filter_le _ _
        omega
      have HVV : Hid (sam (vis l) (vis l) = true) := (sam_iff _ _).2 rfl
      have HLL : Hid (sam l l = true) := (sam_iff _ _).2 rfl
      have C1 := checkT_any _ l w HS.out LL.out HM.out
      have C2 : Hid (∀ W, Below w.heap.size w W → Calls Tryd.prog 11 #[.slice a n c] W fun e w' => e = .returned (.int .i64 (ckT l)) ∧ Below W.heap.size W w') := fun W hb => rcheckT_any _ l W (HS.out.kept hb) LL.out
      have C3 : Hid (∀ W, Below w.heap.size w W → Calls Tryd.prog 12 #[.slice a n c] W fun e w' => e = .returned (.int .i64 (siz l)) ∧ Below W.heap.size W w') := fun W hb => size_any _ l W (HS.out.kept hb) LL.out
      have C4 : Hid (∀ W, Below w.heap.size w W → Calls Tryd.prog 13 #[.slice a n c] W fun e w' => e = .returned (.int .i64 (siz l)) ∧ w' = W) := fun W hb => rsize_any _ l W (HS.out.kept hb) LL.out
      have C5 : Hid (∀ W, Below w.heap.size w W → Calls Tryd.prog 14 #[.slice a n c, .slice a' k c'] W fun e w' => e = .returned (.bool (sam l m)) ∧ Below W.heap.size W w') := fun W hb => same_any _ _ l m W (HS.out.kept hb) (HS'.out.kept hb) hl5 hm5
      have C6 : Hid (∀ W, Below w.heap.size w W → Calls Tryd.prog 15 #[.slice a n c, .slice a' k c'] W fun e w' => e = .returned (.bool (sam l m)) ∧ Below W.heap.size W w') := fun W hb => rsame_any _ _ l m W (HS.out.kept hb) (HS'.out.kept hb) hl5 hm5
      have C7 : Hid (∀ W, Below w.heap.size w W → Calls Tryd.prog 16 #[.slice a n c] W fun e w' => ∃ v', e = .returned v' ∧ OE w' W.heap.size v' (vis l) ∧ Below W.heap.size W w') := fun W hb => visible_any _ l W (HS.out.kept hb) LL.out
      have C8 : Hid (∀ W, Below w.heap.size w W → Calls Tryd.prog 17 #[.slice a n c] W fun e w' => ∃ v', e = .returned v' ∧ ES w' v' (vis l) ∧ Below W.heap.size W w') := fun W hb => rvisible_any _ l W (HS.out.kept hb) LL.out
      have C9 : Hid (∀ W x y, ES W x (vis l) → ES W y (vis l) → Calls Tryd.prog 15 #[x, y] W fun e w' => e = .returned (.bool true) ∧ Below W.heap.size W w') := fun W x y hx hy => by
        have := rsame_any x y _ _ W hx hy hv5 hv5
        rwa [HVV.out] at this
      have C10 : Hid (∀ W, Below w.heap.size w W → Calls Tryd.prog 18 #[.slice a n c] W fun e w' => ∃ v', e = .returned v' ∧ OE w' W.heap.size v' l ∧ Below W.heap.size W w') := fun W hb => copy_any _ l W (HS.out.kept hb) LL.out
      have C11 : Hid (∀ W x, Below w.heap.size w W → ES W x l → Calls Tryd.prog 15 #[x, .slice a n c] W fun e w' => e = .returned (.bool true) ∧ Below W.heap.size W w') := fun W x hb hx => by
        have := rsame_any x _ l l W hx (HS.out.kept hb) hl5 hl5
        rwa [HLL.out] at this
      generalize ckT l = e1 at *
      generalize siz l = s1 at *
      generalize sam l m = t1 at *
      clear hl5 hm5 hv5 HVV HLL
      go_wp2_with fail
      refine C1.mono ?_
      rintro e w1 ⟨rfl, b1⟩
      have B1 : Hid (Below w.heap.size w w1) := b1
      clear b1 C1
      go_wp2_with fail
      refine (C2.out w1 B1.out).mono ?_
      rintro e w2 ⟨rfl, b2⟩
      have B2 : Hid (Below w.heap.size w w2) := B1.out.trans (b2.mono B1.out.size)
      clear b2
      go_wp2_with fail
      refine (C3.out w2 B2.out).mono ?_
      rintro e w3 ⟨rfl, b3⟩
      have B3 : Hid (Below w.heap.size w w3) := B2.out.trans (b3.mono B2.out.size)
      clear b3
      go_wp2_with fail
      refine (C4.out w3 B3.out).mono ?_
      rintro e wq ⟨rfl, hq⟩
      replace hq := hq.symm
      subst hq
      go_wp2_with fail
      refine (C5.out w3 B3.out).mono ?_
      rintro e w4 ⟨rfl, b4⟩
      have B4 : Hid (Below w.heap.size w w4) := B3.out.trans (b4.mono B3.out.size)
      clear b4
      go_wp2_with fail
      refine (C6.out w4 B4.out).mono ?_
      rintro e w5 ⟨rfl, b5⟩
      have B5 : Hid (Below w.heap.size w w5) := B4.out.trans (b5.mono B4.out.size)
      clear b5
      go_wp2_with fail
      refine (C7.out w5 B5.out).mono ?_
      rintro e w6 ⟨v6, rfl, o6, b6⟩
      have B6 : Hid (Below w.heap.size w w6) := B5.out.trans (b6.mono B5.out.size)
      have E6 : Hid (ES w6 v6 (vis l)) := o6.es
      obtain ⟨a6, c6, rfl, -⟩ := o6.es.shape
      clear b6 o6
      generalize (vis l).length = nv at *
      go_wp2_with fail
      refine (C8.out w6 B6.out).mono ?_
      rintro e w7 ⟨v7, rfl, e7, b7⟩
      have B7 : Hid (Below w.heap.size w w7) := B6.out.trans (b7.mono B6.out.size)
      have c9 := C9.out w7 _ v7 (E6.out.kept b7) e7
      obtain ⟨a7, c7, rfl, -⟩ := e7.shape
      clear b7 e7
      generalize (vis l).length = nv2 at *
      go_wp2_with fail
      refine c9.mono ?_
      rintro e w8 ⟨rfl, b8⟩
      have B8 : Hid (Below w.heap.size w w8) := B7.out.trans (b8.mono B7.out.size)
      clear b8 c9
      go_wp2_with fail
      refine (C10.out w8 B8.out).mono ?_
      rintro e w9 ⟨v9, rfl, o9, b9⟩
      have B9 : Hid (Below w.heap.size w w9) := B8.out.trans (b9.mono B8.out.size)
      have c11 := C11.out w9 v9 B9.out o9.es
      obtain ⟨a9, c9, rfl, -⟩ := o9.es.shape
      clear b9 o9
      go_wp2_with fail
      refine c11.mono ?_
      rintro e w10 ⟨rfl, b10⟩
      have B10 : Hid (Below w.heap.size w w10) := B9.out.trans (b10.mono B9.out.size)
      have aw := awake_any w10 (HM.out.kept B10.out)
      clear b10 c11
      go_wp2_with fail
      refine aw.mono ?_
      rintro e w11 ⟨rfl, b11⟩
      have B11 : Hid (Below w.heap.size w w11) := B10.out.trans (b11.mono B10.out.size)
      clear b11 aw
      go_wp2
      go_ret
      exact ⟨rfl, B11.out⟩

theorem contract (H : Type) (enc : TypeId × Value → H) (W : World) (base : Nat) (args : Array Value) (ds gs : List (DataW H)) (before : List MemPlace)
    (hval : ∀ (j : Nat) t v, Tryd.f3.params[j]? = some t → args[j]? = some v → Value.okWide Tryd.prog W .any base t v)
    (hW : DataW.Whole enc Tryd.prog Tryd.f3.params.toList Rows.treeChecksSpec.vars false W args.toList ds gs before) (_hL : laidMetH Tryd.prog Rows.treeChecksRow.laid W) (hsh : W.ShapedOpen Tryd.prog)
    (hsz0 : (DataW.weightsEach Tryd.prog (Tryd.f3.params.toList ++ Rows.treeChecksSpec.plain.varTypes Tryd.prog) (ds ++ gs)).all (· ≤ reachBytes) = true) :
    Calls Tryd.prog 3 args W fun e W' => ∃ v, e = .returned v ∧ Rows.treeChecksSpec.post enc Tryd.prog Tryd.f3 false true false false W args v W' := by
  have hW' := hW
  obtain ⟨p, q, hA0, hV, rfl, hfz, hnd⟩ := hW
  have hA : DataW.TrodAll enc Tryd.prog W 0 (fun _ => true) true Tryd.f3.params.toList args.toList ds p := hA0
  rw [Tryd.params3] at hA hval hsz0
  obtain ⟨v0, vs0, d0, ds0, p0, q0, hargs, rfl, rfl, h0, r0⟩ := trodAll_cons hA
  obtain ⟨v1, vs1, d1, ds1, p1, q1, rfl, rfl, rfl, h1, r1⟩ := trodAll_cons r0
  obtain ⟨rfl, rfl, rfl⟩ := trodAll_nil r1
  obtain rfl : args = #[v0, v1] := by cases args; simp_all
  obtain ⟨rfl, rfl⟩ := trodVars_none hV
  have k0 := h0
  have lt0 : ∀ x ∈ p0, x.block < W.heap.size := by obtain ⟨m, hm⟩ := k0; exact DataW.trod_lt m _ _ _ hm
  obtain ⟨L0, w0⟩ := ents_in (hval 0 22 v0 rfl rfl) h0
  have k1 := h1
  have lt1 : ∀ x ∈ p1, x.block < W.heap.size := by obtain ⟨m, hm⟩ := k1; exact DataW.trod_lt m _ _ _ hm
  obtain ⟨L1, w1⟩ := ents_in (hval 1 22 v1 rfl rfl) h1
  clear hA0
  refine (walk v0 L0 v1 L1 W (mx_of hsh) w0 w1).mono fun e W' ⟨he, bel⟩ => ?_
  subst he
  exact ⟨_, rfl, _, _, _, [], _, [], hW', trodAll_mk1 (shut_bool Tryd.underlying4 _), (trodAll_cons_mk (Below.trod laidOut (by kernel_rfl) (of_decide_eq_true (by kernel_rfl)) k0 bel lt0) (trodAll_cons_mk (Below.trod laidOut (by kernel_rfl) (of_decide_eq_true (by kernel_rfl)) k1 bel lt1) trodAll_mk0)), rfl, bel.frame _, fun h => by cases h⟩

theorem laid_met (os : Os) : laidMet Tryd.prog Rows.treeChecksRow.laid (({ World.holding Tryd.prog os ⟨#[], #[], []⟩ with heap := ((((World.holding Tryd.prog os ⟨#[], #[], []⟩).heap.modify 0 (fun
      | .cells _ t frozen => .cells #[.int .i64 0] t frozen
      | o => o)).modify 1 (fun
      | .cells _ t frozen => .cells firstCells t frozen
      | o => o)).modify 2 (fun
      | .cells _ t frozen => .cells rangeCells t frozen
      | o => o)) } : World).forCall (fun _ _ => 0) ⟨#[], #[.slice none 0 0, .slice none 0 0], []⟩).memory :=
  laidMet_of_run' 8 (by kernel_rfl) (by kernel_rfl)
theorem reads (os : Os) {H : Type} (enc : TypeId × Value → H) : ∃ places, DataW.whole enc Tryd.prog (({ World.holding Tryd.prog os ⟨#[], #[], []⟩ with heap := ((((World.holding Tryd.prog os ⟨#[], #[], []⟩).heap.modify 0 (fun
      | .cells _ t frozen => .cells #[.int .i64 0] t frozen
      | o => o)).modify 1 (fun
      | .cells _ t frozen => .cells firstCells t frozen
      | o => o)).modify 2 (fun
      | .cells _ t frozen => .cells rangeCells t frozen
      | o => o)) } : World).forCall (fun _ _ => 0) ⟨#[], #[.slice none 0 0, .slice none 0 0], []⟩).memory Tryd.f3.params.toList Rows.treeChecksSpec.vars false #[Value.slice none 0 0, .slice none 0 0].toList 8 = some ([.nil, .nil], [], places) :=
  ⟨[], by kernel_rfl⟩

set_option maxRecDepth 100000 in
theorem lifted (os : Os) (started : os.Started) (H : Type) (enc : TypeId × Value → H) (F : Stop.Interp) :
    ReturnsInHanded {} Tryd.checked os 3 .any ((OpenSpec.ofChange Rows.treeChecksSpec).preRow enc Tryd.prog Tryd.f3 Rows.treeChecksRow.domain false Rows.treeChecksRow.laid) (((OpenSpec.ofChange Rows.treeChecksSpec).at F).post enc Tryd.prog Tryd.f3 false true false false) := by
  obtain ⟨places, hx⟩ := reads os enc
  refine returnsInHanded_of_row (C := Tryd.checked) (s := OpenSpec.ofChange Rows.treeChecksSpec) own started (by kernel_rfl) Tryd.func3
    (witness_row_at (enc := enc) (C := Tryd.checked) false ({ World.holding Tryd.prog os ⟨#[], #[], []⟩ with heap := ((((World.holding Tryd.prog os ⟨#[], #[], []⟩).heap.modify 0 (fun
      | .cells _ t frozen => .cells #[.int .i64 0] t frozen
      | o => o)).modify 1 (fun
      | .cells _ t frozen => .cells firstCells t frozen
      | o => o)).modify 2 (fun
      | .cells _ t frozen => .cells rangeCells t frozen
      | o => o)) } : World) #[.slice none 0 0, .slice none 0 0] rfl (by kernel_rfl) (by kernel_rfl) (by kernel_rfl)
      (OpenSpec.preRow_of_cond 8 hx (by kernel_rfl) (fun k hk => by cases hk) (by kernel_rfl) (laid_met os))) ?_
  intro W base args ds gs before hval hW _ _ hsz hL hsh _
  exact contract H enc W base args ds gs before hval hW hL hsh hsz

theorem said : Rows.TreeChecksSaid :=
  OpenClaim.holds_of_cond 3 Tryd.f3 rfl rfl rfl rfl rfl rfl rfl ⟨rfl, rfl, rfl, rfl, rfl⟩ rfl rfl rfl rfl rfl (by kernel_rfl) Tryd.func3 (by kernel_rfl)
    (of_decide_eq_true (by kernel_rfl)) (by unfold Func.isWrapper; first | (rw [if_pos (by decide +kernel)]; kernel_rfl) | (rw [if_neg (by decide +kernel)]; exact ⟨rfl, rfl⟩))
    (fun os started H enc _ F => by rw [OpenClaim.pre_eq_preRow]; exact lifted os started H enc F)

theorem plain (f : FuncId) (fn : Func) (hf : Tryd.pinned.checked.prog.funcNamed "sumpter/sumpterlaw08.TreeChecks" = some f) (hfn : Tryd.pinned.checked.prog.funcs[f]? = some fn) :
    false = Tryd.pinned.checked.prog.looks [] ∧ ∀ (j : Nat) t, fn.params[j]? = some t → Tryd.pinned.checked.prog.wantsStandIn t = false := by
  obtain rfl : f = 3 := Option.some.inj ((show Tryd.prog.funcNamed "sumpter/sumpterlaw08.TreeChecks" = some 3 by kernel_rfl).symm.trans hf) |>.symm
  obtain rfl : fn = Tryd.f3 := (Option.some.inj (Tryd.func3.symm.trans hfn)).symm
  refine ⟨by kernel_rfl, fun j t ht => ?_⟩
  rw [Tryd.params3] at ht
  have hm : t ∈ [22, 22] := by simpa using Array.mem_of_getElem? ht
  have hall : ([22, 22].all fun u => !Tryd.prog.wantsStandIn u) = true := by kernel_rfl
  exact (show Tryd.prog.wantsStandIn t = false by simpa using List.all_eq_true.1 hall t hm)
end Go.Proofs.YtdomknajkipmnaaDoor.treeChecks

namespace Go.Proofs.YtdomknajkipmnaaDoor
/-- The card of TreeChecks. -/
theorem treeChecks_card : Rows.TreeChecksCardSaid :=
  Claim7.holds_tied_plain_at .later [] _ _ _ _ treeChecks.said (fun _ h => by cases h) (by kernel_rfl) (fun _ h => by cases h) treeChecks_row_tie rfl ⟨rfl, rfl⟩ (by kernel_rfl) rfl treeChecks.plain (by kernel_rfl)
#print axioms treeChecks_card
end Go.Proofs.YtdomknajkipmnaaDoor
