/-
  TreeGets: for every list of entries and every path: which entry it is, and what is in it, is told as the document says. No condition.
-/
import Derived.Test.YtdomknajkipmnaaDoorAw
import Derived.Test.YtdomknajkipmnaaDoorFr
import Derived.Test.YtdomknajkipmnaaDoorChn
import Derived.Test.YtdomknajkipmnaaDoorRch
import Derived.Test.YtdomknajkipmnaaDoorRg
namespace Go.Proofs.YtdomknajkipmnaaDoor.treeGets
open Go.ChangeShapes Go.WideShapes Go.ChangeAt Go.RowKit Go.Deep Go.ChangeMaps

set_option maxHeartbeats 4000000 in
set_option maxRecDepth 100000 in
theorem walk (v : Value) (l : List En) (p : ByteArray) (w : World) (hw : Mx w) (hes : ES w v l) (_wp : p.size ≤ maxLen) :
    Calls Tryd.prog 4 #[v, .string p] w fun e w' => e = .returned (.bool true) ∧ Below w.heap.size w w' := by
  obtain ⟨a, c, rfl, g2, g3, _⟩ := hes.shape
  have HM : Hid (Mx w) := hw
  have HS : Hid (ES w (.slice a l.length c) l) := hes
  have CL := light_any _ l 70 70000 w HS.out (by omega) (by omega) (by unfold maxLen at g3; omega)
  have HG1 : Hid ((l.length ≤ 70 ∧ ∀ x ∈ l, x.p.size ≤ 1000 ∧ x.z.length ≤ 70000) → Lt l) := fun h => ⟨by omega, fun y hy => by have := h.2 y hy; omega⟩
  generalize (l.length ≤ 70 ∧ ∀ x ∈ l, x.p.size ≤ 1000 ∧ x.z.length ≤ 70000) = G1 at *
  obtain ⟨n, hn'⟩ : ∃ n, n = l.length := ⟨_, rfl⟩
  have HN : Hid (n = l.length) := hn'
  rw [← hn'] at HS CL g2 ⊢
  clear hw hes g3 hn' _wp
  have aw0 := awake_any w HM.out
  go_enter Tryd.func4, Tryd.ntmps4
  go_wp2_with fail
  refine CL.mono ?_
  rintro e wq ⟨r, rfl, hq, hr⟩
  replace hq := hq.symm
  subst hq
  have HR : Hid (r = true → G1) := hr
  clear hr CL
  cases r with
  | false =>
    go_wp2_with (go_at_call 9; refine aw0.mono ?_; rintro e w2 ⟨rfl, b2⟩)
    go_ret
    exact ⟨rfl, b2⟩
  | true =>
    have LL : Hid (Lt l) := HG1.out (HR.out rfl)
    clear HR HG1
    by_cases hps : 1000 < p.size
    · have hps2 : 1000 < (p.size : Int) := by omega
      go_wp2_with (go_at_call 9; refine aw0.mono ?_; rintro e w2 ⟨rfl, b2⟩)
      go_ret
      exact ⟨rfl, b2⟩
    have hps2 : ¬ 1000 < (p.size : Int) := by omega
    clear aw0
    have C1 := get_any _ l p w HS.out LL.out
    have C2 : Hid (∀ W, Below w.heap.size w W → Calls Tryd.prog 20 #[.slice a n c, .string p] W fun e w' => ∃ u, e = .returned (.tuple #[u, .bool (gotB l (dl p))]) ∧ EV w' u (got l (dl p)) ∧ Below W.heap.size W w') := fun W hb => rget_any _ l p W (HS.out.kept hb) LL.out
    have C3 : Hid (∀ W, Below w.heap.size w W → Calls Tryd.prog 21 #[.slice a n c, .string p] W fun e w' => ∃ v', e = .returned v' ∧ SS w' v' (chi l (dl p)) ∧ Below W.heap.size W w') := fun W hb => children_any _ l p W (HS.out.kept hb) LL.out
    have C4 : Hid (∀ W, Below w.heap.size w W → Calls Tryd.prog 22 #[.slice a n c, .string p] W fun e w' => ∃ v', e = .returned v' ∧ SS w' v' (chi l (dl p)) ∧ Below W.heap.size W w') := fun W hb => rchildren_any _ l p W (HS.out.kept hb) LL.out
    have hkl : (chi l (dl p)).length ≤ 100 := by
      have := chi_len l (dl p) l.length
      rw [List.take_length] at this
      exact Nat.le_trans this LL.out.1
    generalize gotB l (dl p) = gb at *
    generalize got l (dl p) = ge at *
    generalize chi l (dl p) = K at *
    go_wp2_with fail
    refine C1.mono ?_
    rintro e w1 ⟨u1, rfl, ⟨ya, yn, yc, rfl, y1⟩, b1⟩
    obtain ⟨W1, hW1⟩ : ∃ W1, W1 = w1.alloc (.cells #[.string ge.p, .bool ge.d, .slice ya yn yc] 32) := ⟨_, rfl⟩
    have n1 : Below w1.heap.size w1 W1 := by rw [hW1]; exact (Below.refl _ _).alloc (Nat.le_refl _) _
    have k1 : W1.heap[w1.heap.size]? = some (.cells #[.string ge.p, .bool ge.d, .slice ya yn yc] 32 (0, 0)) := by rw [hW1]; exact heap_alloc_new _ _
    have HX : Hid (∀ W, Below W1.heap.size W1 W → W.heap[w1.heap.size]? = some (.cells #[.string ge.p, .bool ge.d, .slice ya yn yc] 32 (0, 0)) ∧ EV W (.agg #[.string ge.p, .bool ge.d, .slice ya yn yc]) ge) := fun W hb => ⟨(hb.block _ (lt_of_block k1)).trans k1, ⟨ya, yn, yc, rfl, y1.kept (n1.trans (hb.mono n1.size))⟩⟩
    have B1 : Hid (Below w.heap.size w W1) := b1.trans (n1.mono b1.size)
    have c2 := C2.out W1 B1.out
    clear n1 k1 b1 y1 C1
    go_wp2_with fail
    rw [← hW1]
    clear hW1
    refine c2.mono ?_
    rintro e w2 ⟨u2, rfl, ⟨za, zn, zc, rfl, y2⟩, b2⟩
    obtain ⟨W2, hW2⟩ : ∃ W2, W2 = w2.alloc (.cells #[.string ge.p, .bool ge.d, .slice za zn zc] 32) := ⟨_, rfl⟩
    have n2 : Below w2.heap.size w2 W2 := by rw [hW2]; exact (Below.refl _ _).alloc (Nat.le_refl _) _
    have k2 : W2.heap[w2.heap.size]? = some (.cells #[.string ge.p, .bool ge.d, .slice za zn zc] 32 (0, 0)) := by rw [hW2]; exact heap_alloc_new _ _
    have HY : Hid (∀ W, Below W2.heap.size W2 W → W.heap[w2.heap.size]? = some (.cells #[.string ge.p, .bool ge.d, .slice za zn zc] 32 (0, 0)) ∧ EV W (.agg #[.string ge.p, .bool ge.d, .slice za zn zc]) ge) := fun W hb => ⟨(hb.block _ (lt_of_block k2)).trans k2, ⟨za, zn, zc, rfl, y2.kept (n2.trans (hb.mono n2.size))⟩⟩
    have X2 : Hid (Below W1.heap.size W1 W2) := b2.trans (n2.mono b2.size)
    have B2 : Hid (Below w.heap.size w W2) := B1.out.trans (X2.out.mono B1.out.size)
    have c3 := C3.out W2 B2.out
    clear n2 k2 b2 y2 c2
    go_wp2_with fail
    rw [← hW2]
    clear hW2
    refine c3.mono ?_
    rintro e w3 ⟨v3, rfl, s3, b3⟩
    have Y3 : Hid (Below W2.heap.size W2 w3) := b3
    have B3 : Hid (Below w.heap.size w w3) := B2.out.trans (b3.mono B2.out.size)
    have c4 := C4.out w3 B3.out
    have S3 : Hid (SS w3 v3 K) := s3
    obtain ⟨a3, d3, rfl, hd3⟩ := s3.shape
    obtain ⟨nk, hnk⟩ : ∃ nk, nk = K.length := ⟨_, rfl⟩
    have HNK : Hid (nk = K.length) := hnk
    rw [← hnk] at S3 hd3 hkl ⊢
    clear b3 s3 c3 hnk
    go_wp2_with fail
    refine c4.mono ?_
    rintro e w4 ⟨v4, rfl, s4, b4⟩
    have Y4 : Hid (Below W2.heap.size W2 w4) := Y3.out.trans (b4.mono Y3.out.size)
    have B4 : Hid (Below w.heap.size w w4) := B3.out.trans (b4.mono B3.out.size)
    have S3' : Hid (SS w4 (.slice a3 nk d3) K) := S3.out.kept b4
    have S4 : Hid (SS w4 v4 K) := s4
    obtain ⟨a4, d4, rfl, hd4⟩ := s4.shape
    rw [← HNK.out] at S4 hd4 ⊢
    clear b4 s4 c4 S3
    go_wp2_with fail
    go_loopw [11] (fun q wr => ∃ j : Nat, j ≤ nk ∧ q = .int .i64 j ∧ Below w4.heap.size w4 wr) (fun q _ => nk - (intOf q).toNat)
    case atStart => exact ⟨0, by omega, rfl, Below.refl _ _⟩
    case round =>
      obtain ⟨j, hj, rfl, bel⟩ := hrel
      have HB : Hid (Below w4.heap.size w4 wr) := bel
      clear bel
      by_cases hlt : j < nk
      · have lt2 : (j : Int) < (nk : Int) := by omega
        have g0 : (0 : Int) ≤ (j : Int) := by omega
        obtain ⟨b, off, rfl, c1⟩ := (S3'.out.kept HB.out).at j (by rw [← HNK.out]; exact hlt)
        obtain ⟨b', off', rfl, c2⟩ := (S4.out.kept HB.out).at j (by rw [← HNK.out]; exact hlt)
        have q1 : IntKind.i64.wrap ((j : Int) + 1) = ((j + 1 : Nat) : Int) := by simp [IntKind.wrap, IntKind.bits, IntKind.signed]; omega
        generalize K.getD j ⟨#[]⟩ = s at *
        have ts : (s.toList == s.toList) = true := by simp
        go_wp2_with fail
        go_quiet (fail)
        have bq : Below wr.heap.size wr (wr.drewN nq) := ⟨rfl, rfl, rfl, Nat.le_refl _, fun _ _ => rfl⟩
        have BQ : Hid (Below w4.heap.size w4 (wr.drewN nq)) := HB.out.trans (bq.mono HB.out.size)
        clear bq
        go_wp2
        go_roundw
        case rel => exact ⟨j + 1, by omega, by go_num, BQ.out⟩
        case measure => simp [intOf]; omega
      · obtain rfl : j = nk := by omega
        have Y5 : Hid (Below W2.heap.size W2 wr) := Y4.out.trans (HB.out.mono Y4.out.size)
        have X5 : Hid (Below W1.heap.size W1 wr) := X2.out.trans (Y5.out.mono X2.out.size)
        have B5 : Hid (Below w.heap.size w wr) := B4.out.trans (HB.out.mono B4.out.size)
        obtain ⟨i0, i1, i2, -, -, -⟩ := trio (HX.out wr X5.out).1
        obtain ⟨j0, j1, j2, -, -, -⟩ := trio (HY.out wr Y5.out).1
        have cs := rsameEntry_any _ _ _ _ wr (HX.out wr X5.out).2 (HY.out wr Y5.out).2
        rw [(samE_iff _ _).2 rfl] at cs
        go_wp2_with fail
        refine cs.mono ?_
        rintro e w6 ⟨rfl, b6⟩
        have B6 : Hid (Below w.heap.size w w6) := B5.out.trans (b6.mono B5.out.size)
        have aw := awake_any w6 (HM.out.kept B6.out)
        clear b6 cs i0 i1 i2 j0 j1 j2
        go_wp2_with fail
        refine aw.mono ?_
        rintro e w7 ⟨rfl, b7⟩
        have B7 : Hid (Below w.heap.size w w7) := B6.out.trans (b7.mono B6.out.size)
        clear b7 aw
        go_wp2
        go_ret
        exact ⟨rfl, B7.out⟩

theorem contract (H : Type) (enc : TypeId × Value → H) (W : World) (base : Nat) (args : Array Value) (ds gs : List (DataW H)) (before : List MemPlace)
    (hval : ∀ (j : Nat) t v, Tryd.f4.params[j]? = some t → args[j]? = some v → Value.okWide Tryd.prog W .any base t v)
    (hW : DataW.Whole enc Tryd.prog Tryd.f4.params.toList Rows.treeGetsSpec.vars false W args.toList ds gs before) (_hL : laidMetH Tryd.prog Rows.treeGetsRow.laid W) (hsh : W.ShapedOpen Tryd.prog)
    (hsz0 : (DataW.weightsEach Tryd.prog (Tryd.f4.params.toList ++ Rows.treeGetsSpec.plain.varTypes Tryd.prog) (ds ++ gs)).all (· ≤ reachBytes) = true) :
    Calls Tryd.prog 4 args W fun e W' => ∃ v, e = .returned v ∧ Rows.treeGetsSpec.post enc Tryd.prog Tryd.f4 false true false false W args v W' := by
  have hW' := hW
  obtain ⟨p, q, hA0, hV, rfl, hfz, hnd⟩ := hW
  have hA : DataW.TrodAll enc Tryd.prog W 0 (fun _ => true) true Tryd.f4.params.toList args.toList ds p := hA0
  rw [Tryd.params4] at hA hval hsz0
  obtain ⟨v0, vs0, d0, ds0, p0, q0, hargs, rfl, rfl, h0, r0⟩ := trodAll_cons hA
  obtain ⟨v1, vs1, d1, ds1, p1, q1, rfl, rfl, rfl, h1, r1⟩ := trodAll_cons r0
  obtain ⟨rfl, rfl, rfl⟩ := trodAll_nil r1
  obtain rfl : args = #[v0, v1] := by cases args; simp_all
  obtain ⟨rfl, rfl⟩ := trodVars_none hV
  have k0 := h0
  have lt0 : ∀ x ∈ p0, x.block < W.heap.size := by obtain ⟨m, hm⟩ := k0; exact DataW.trod_lt m _ _ _ hm
  obtain ⟨L0, w0⟩ := ents_in (hval 0 22 v0 rfl rfl) h0
  obtain ⟨a1, rfl, rfl, rfl, w1⟩ := open_string Tryd.underlying9 (hval 1 9 v1 rfl rfl) h1
  clear hA0
  refine (walk v0 L0 a1 W (mx_of hsh) w0 w1).mono fun e W' ⟨he, bel⟩ => ?_
  subst he
  exact ⟨_, rfl, _, _, _, [], _, [], hW', trodAll_mk1 (shut_bool Tryd.underlying4 _), (trodAll_cons_mk (Below.trod laidOut (by kernel_rfl) (of_decide_eq_true (by kernel_rfl)) k0 bel lt0) (trodAll_cons_mk (shut_string Tryd.underlying9 w1) trodAll_mk0)), rfl, bel.frame _, fun h => by cases h⟩

theorem laid_met (os : Os) : laidMet Tryd.prog Rows.treeGetsRow.laid (({ World.holding Tryd.prog os ⟨#[], #[], []⟩ with heap := ((((World.holding Tryd.prog os ⟨#[], #[], []⟩).heap.modify 0 (fun
      | .cells _ t frozen => .cells #[.int .i64 0] t frozen
      | o => o)).modify 1 (fun
      | .cells _ t frozen => .cells firstCells t frozen
      | o => o)).modify 2 (fun
      | .cells _ t frozen => .cells rangeCells t frozen
      | o => o)) } : World).forCall (fun _ _ => 0) ⟨#[], #[.slice none 0 0, .string ⟨#[]⟩], []⟩).memory :=
  laidMet_of_run' 8 (by kernel_rfl) (by kernel_rfl)
theorem reads (os : Os) {H : Type} (enc : TypeId × Value → H) : ∃ places, DataW.whole enc Tryd.prog (({ World.holding Tryd.prog os ⟨#[], #[], []⟩ with heap := ((((World.holding Tryd.prog os ⟨#[], #[], []⟩).heap.modify 0 (fun
      | .cells _ t frozen => .cells #[.int .i64 0] t frozen
      | o => o)).modify 1 (fun
      | .cells _ t frozen => .cells firstCells t frozen
      | o => o)).modify 2 (fun
      | .cells _ t frozen => .cells rangeCells t frozen
      | o => o)) } : World).forCall (fun _ _ => 0) ⟨#[], #[.slice none 0 0, .string ⟨#[]⟩], []⟩).memory Tryd.f4.params.toList Rows.treeGetsSpec.vars false #[Value.slice none 0 0, .string ⟨#[]⟩].toList 8 = some ([.nil, .lit (.string [])], [], places) :=
  ⟨[], by kernel_rfl⟩

set_option maxRecDepth 100000 in
theorem lifted (os : Os) (started : os.Started) (H : Type) (enc : TypeId × Value → H) (F : Stop.Interp) :
    ReturnsInHanded {} Tryd.checked os 4 .any ((OpenSpec.ofChange Rows.treeGetsSpec).preRow enc Tryd.prog Tryd.f4 Rows.treeGetsRow.domain false Rows.treeGetsRow.laid) (((OpenSpec.ofChange Rows.treeGetsSpec).at F).post enc Tryd.prog Tryd.f4 false true false false) := by
  obtain ⟨places, hx⟩ := reads os enc
  refine returnsInHanded_of_row (C := Tryd.checked) (s := OpenSpec.ofChange Rows.treeGetsSpec) own started (by kernel_rfl) Tryd.func4
    (witness_row_at (enc := enc) (C := Tryd.checked) false ({ World.holding Tryd.prog os ⟨#[], #[], []⟩ with heap := ((((World.holding Tryd.prog os ⟨#[], #[], []⟩).heap.modify 0 (fun
      | .cells _ t frozen => .cells #[.int .i64 0] t frozen
      | o => o)).modify 1 (fun
      | .cells _ t frozen => .cells firstCells t frozen
      | o => o)).modify 2 (fun
      | .cells _ t frozen => .cells rangeCells t frozen
      | o => o)) } : World) #[.slice none 0 0, .string ⟨#[]⟩] rfl (by kernel_rfl) (by kernel_rfl) (by kernel_rfl)
      (OpenSpec.preRow_of_cond 8 hx (by kernel_rfl) (fun k hk => by cases hk) (by kernel_rfl) (laid_met os))) ?_
  intro W base args ds gs before hval hW _ _ hsz hL hsh _
  exact contract H enc W base args ds gs before hval hW hL hsh hsz

theorem said : Rows.TreeGetsSaid :=
  OpenClaim.holds_of_cond 4 Tryd.f4 rfl rfl rfl rfl rfl rfl rfl ⟨rfl, rfl, rfl, rfl, rfl⟩ rfl rfl rfl rfl rfl (by kernel_rfl) Tryd.func4 (by kernel_rfl)
    (of_decide_eq_true (by kernel_rfl)) (by unfold Func.isWrapper; first | (rw [if_pos (by decide +kernel)]; kernel_rfl) | (rw [if_neg (by decide +kernel)]; exact ⟨rfl, rfl⟩))
    (fun os started H enc _ F => by rw [OpenClaim.pre_eq_preRow]; exact lifted os started H enc F)

theorem plain (f : FuncId) (fn : Func) (hf : Tryd.pinned.checked.prog.funcNamed "sumpter/sumpterlaw08.TreeGets" = some f) (hfn : Tryd.pinned.checked.prog.funcs[f]? = some fn) :
    false = Tryd.pinned.checked.prog.looks [] ∧ ∀ (j : Nat) t, fn.params[j]? = some t → Tryd.pinned.checked.prog.wantsStandIn t = false := by
  obtain rfl : f = 4 := Option.some.inj ((show Tryd.prog.funcNamed "sumpter/sumpterlaw08.TreeGets" = some 4 by kernel_rfl).symm.trans hf) |>.symm
  obtain rfl : fn = Tryd.f4 := (Option.some.inj (Tryd.func4.symm.trans hfn)).symm
  refine ⟨by kernel_rfl, fun j t ht => ?_⟩
  rw [Tryd.params4] at ht
  have hm : t ∈ [22, 9] := by simpa using Array.mem_of_getElem? ht
  have hall : ([22, 9].all fun u => !Tryd.prog.wantsStandIn u) = true := by kernel_rfl
  exact (show Tryd.prog.wantsStandIn t = false by simpa using List.all_eq_true.1 hall t hm)
end Go.Proofs.YtdomknajkipmnaaDoor.treeGets

namespace Go.Proofs.YtdomknajkipmnaaDoor
/-- The card of TreeGets. -/
theorem treeGets_card : Rows.TreeGetsCardSaid :=
  Claim7.holds_tied_plain_at .later [] _ _ _ _ treeGets.said (fun _ h => by cases h) (by kernel_rfl) (fun _ h => by cases h) treeGets_row_tie rfl ⟨rfl, rfl⟩ (by kernel_rfl) rfl treeGets.plain (by kernel_rfl)
#print axioms treeGets_card
end Go.Proofs.YtdomknajkipmnaaDoor
