/-
  Any tree has the items that the document says, or it is told why not: for every list of entries; nothing that came in is changed.
-/
import Derived.Test.YtdnbiibijoggoaaGreatDoorFr
import Derived.Test.YtdnbiibijoggoaaGreatDoorLi
import Derived.Test.YtdnbiibijoggoaaGreatDoorRmk
import Derived.Test.YtdnbiibijoggoaaGreatDoorRa
namespace Go.Proofs.YtdnbiibijoggoaaGreatDoor.manifestMakes
open Go.ChangeShapes Go.WideShapes Go.ChangeAt Go.RowKit Go.Deep Go.ChangeMaps
set_option maxRecDepth 100000

set_option maxHeartbeats 8000000 in
theorem walk (v0 : Value) (l : List En) (w : World) (hw : Wd w) (h0 : ES w v0 l) :
    Calls Tryz.prog 3 #[v0] w fun e w' => e = .returned (.bool true) ∧ Below w.heap.size w w' := by
  have CL := light_any v0 l 66 3000 w h0 (by omega) (by omega) (by obtain ⟨a, c, rfl, h2, h3, _⟩ := h0.shape; unfold maxLen at h3; omega)
  have CA : Hid (∀ W, Below w.heap.size w W → Calls Tryz.prog 7 #[] W fun e w' => e = .returned (.bool true) ∧ Below W.heap.size W w') := fun W hb => awake_any W (hw.kept hb)
  have HW : Hid (Wd w) := hw
  have H0 : Hid (ES w v0 l) := h0
  obtain ⟨a0, c0, rfl, _, _, _⟩ := h0.shape
  obtain ⟨n0, hn0⟩ : ∃ n0, n0 = l.length := ⟨_, rfl⟩
  have HN0 : Hid (n0 = l.length) := hn0
  rw [← hn0] at CL H0 ⊢
  clear h0 hw hn0
  go_enter Tryz.func3, Tryz.ntmps3
  go_wp2_with fail
  refine CL.mono ?_
  rintro e w' ⟨r, rfl, hww, hr⟩
  replace hww := hww.symm
  subst hww
  clear CL
  have HR : Hid (r = true → n0 ≤ 66 ∧ ∀ x ∈ l, x.p.size ≤ 1000 ∧ x.z.length ≤ 3000) := hr
  clear hr
  cases r
  · clear HR
    go_wp2_with fail
    refine (CA.out w (Below.refl w.heap.size w)).mono ?_
    rintro e z1 ⟨rfl, bz⟩
    have BZ : Hid (Below w.heap.size w z1) := Below.trans (Below.refl w.heap.size w) (bz.mono (Below.size (Below.refl w.heap.size w)))
    clear bz
    go_wp2
    go_ret
    exact ⟨rfl, BZ.out⟩
  have HLA : Hid (n0 ≤ 66 ∧ ∀ x ∈ l, x.p.size ≤ 1000 ∧ x.z.length ≤ 3000) := HR.out rfl
  have LA : Hid (Lt l) := ⟨by have := HLA.out.1; have := HN0.out; omega, fun x hx => ⟨(HLA.out.2 x hx).1, by have := (HLA.out.2 x hx).2; omega⟩⟩
  have HLM : Hid ((mak l).1.length ≤ 100000) := by
    unfold Hid mak
    have := LA.out.1
    split
    · simp
    · show (l.map itm).length ≤ 100000
      rw [List.length_map]; omega
  clear HR HLA
  have c1 := make_any _ l w H0.out LA.out HW.out
  go_wp2_with fail
  refine c1.mono ?_
  rintro e w2 ⟨v2, rfl, o2, b2⟩
  clear c1
  have B2 : Hid (Below w.heap.size w w2) := b2
  have I2 : Hid (IS w2 v2 (mak l).1) := o2.is
  have c2 := rmake_any _ l w2 (H0.out.kept b2) LA.out
  obtain ⟨a2, cc2, rfl, _, _, _⟩ := o2.is.shape
  clear o2 b2
  go_wp2_with fail
  refine c2.mono ?_
  rintro e w3 ⟨v3, rfl, o3, b3⟩
  clear c2
  have B3 : Hid (Below w.heap.size w w3) := B2.out.trans (b3.mono B2.out.size)
  have c3 := rsameI_any _ _ (mak l).1 (mak l).1 w3 (I2.out.kept b3) o3.is HLM.out HLM.out
  rw [show saI (mak l).1 (mak l).1 = true from (saI_iff _ _).2 rfl] at c3
  obtain ⟨a3, cc3, rfl, _, _, _⟩ := o3.is.shape
  clear o3 b3 B2 I2 HLM
  generalize (mak l).1.length = nn at *
  generalize (mak l).2 = ee at *
  go_wp2_with fail
  refine c3.mono ?_
  rintro e w4 ⟨rfl, b4⟩
  clear c3
  have B4 : Hid (Below w.heap.size w w4) := B3.out.trans (b4.mono B3.out.size)
  clear b4 B3
  have t0 : (ee == ee) = true := by simp
  go_wp2_with fail
  refine (CA.out w4 (B4.out)).mono ?_
  rintro e z1 ⟨rfl, bz⟩
  have BZ : Hid (Below w.heap.size w z1) := Below.trans (B4.out) (bz.mono (Below.size (B4.out)))
  clear bz
  go_wp2
  go_ret
  exact ⟨rfl, BZ.out⟩

theorem contract (H : Type) (enc : TypeId × Value → H) (W : World) (base : Nat) (args : Array Value) (ds gs : List (DataW H)) (before : List MemPlace)
    (hval : ∀ (j : Nat) t v, Tryz.f3.params[j]? = some t → args[j]? = some v → Value.okWide Tryz.prog W .any base t v)
    (hW : DataW.Whole enc Tryz.prog Tryz.f3.params.toList Rows.manifestMakesSpec.vars false W args.toList ds gs before) (hL : laidMetH Tryz.prog Rows.manifestMakesRow.laid W) (hsh : W.ShapedOpen Tryz.prog)
    (hsz0 : (DataW.weightsEach Tryz.prog (Tryz.f3.params.toList ++ Rows.manifestMakesSpec.plain.varTypes Tryz.prog) (ds ++ gs)).all (· ≤ reachBytes) = true) :
    Calls Tryz.prog 3 args W fun e W' => ∃ v, e = .returned v ∧ Rows.manifestMakesSpec.post enc Tryz.prog Tryz.f3 false true false false W args v W' := by
  have hW' := hW
  obtain ⟨p, q, hA0, hV, rfl, hfz, hnd⟩ := hW
  have hA : DataW.TrodAll enc Tryz.prog W 0 (fun _ => true) true Tryz.f3.params.toList args.toList ds p := hA0
  rw [Tryz.params3] at hA hval hsz0
  obtain ⟨v0, vs0, d0, ds0, p0, q0, hargs, rfl, rfl, h0, r0⟩ := trodAll_cons hA
  obtain ⟨rfl, rfl, rfl⟩ := trodAll_nil r0
  obtain rfl : args = #[v0] := by cases args; simp_all
  obtain ⟨rfl, rfl⟩ := trodVars_none hV
  have k0 := h0
  have lt0 : ∀ x ∈ p0, x.block < W.heap.size := by obtain ⟨m, hm⟩ := k0; exact DataW.trod_lt m _ _ _ hm
  obtain ⟨L0, w0⟩ := ents_in (hval 0 22 v0 rfl rfl) h0
  clear hA0
  refine (walk v0 L0 W (wd_of hL hsh) w0).mono fun e W' ⟨he, bel⟩ => ?_
  subst he
  exact ⟨_, rfl, _, _, _, [], _, [], hW', trodAll_mk1 (shut_bool Tryz.underlying4 _), (trodAll_cons_mk (Below.trod laidOut (by kernel_rfl) (of_decide_eq_true (by kernel_rfl)) k0 bel lt0) trodAll_mk0), rfl, bel.frame _, fun h => by cases h⟩

theorem laid_met (os : Os) : laidMet Tryz.prog Rows.manifestMakesRow.laid (({ World.holding Tryz.prog os ⟨#[], #[], []⟩ with heap := (((((((World.holding Tryz.prog os ⟨#[], #[], []⟩).heap.modify 0 (fun
      | .cells _ t frozen => .cells shaFirst t frozen
      | o => o)).modify 1 (fun
      | .cells _ t frozen => .cells #[.int .i64 1, .int .i64 2, .int .i64 4, .int .i64 8] t frozen
      | o => o)).modify 2 (fun
      | .cells _ t frozen => .cells shaRounds t frozen
      | o => o)).modify 3 (fun
      | .cells _ t frozen => .cells #[.int .i64 0] t frozen
      | o => o)).modify 4 (fun
      | .cells _ t frozen => .cells firstCells t frozen
      | o => o)).modify 5 (fun
      | .cells _ t frozen => .cells rangeCells t frozen
      | o => o)) } : World).forCall (fun _ _ => 0) ⟨#[], #[.slice none 0 0], []⟩).memory :=
  laidMet_of_run' 8 (by kernel_rfl) (by kernel_rfl)
theorem reads (os : Os) {H : Type} (enc : TypeId × Value → H) : ∃ places, DataW.whole enc Tryz.prog (({ World.holding Tryz.prog os ⟨#[], #[], []⟩ with heap := (((((((World.holding Tryz.prog os ⟨#[], #[], []⟩).heap.modify 0 (fun
      | .cells _ t frozen => .cells shaFirst t frozen
      | o => o)).modify 1 (fun
      | .cells _ t frozen => .cells #[.int .i64 1, .int .i64 2, .int .i64 4, .int .i64 8] t frozen
      | o => o)).modify 2 (fun
      | .cells _ t frozen => .cells shaRounds t frozen
      | o => o)).modify 3 (fun
      | .cells _ t frozen => .cells #[.int .i64 0] t frozen
      | o => o)).modify 4 (fun
      | .cells _ t frozen => .cells firstCells t frozen
      | o => o)).modify 5 (fun
      | .cells _ t frozen => .cells rangeCells t frozen
      | o => o)) } : World).forCall (fun _ _ => 0) ⟨#[], #[.slice none 0 0], []⟩).memory Tryz.f3.params.toList Rows.manifestMakesSpec.vars false #[Value.slice none 0 0].toList 8 = some ([.nil], [], places) :=
  ⟨[], by kernel_rfl⟩

set_option maxRecDepth 100000 in
theorem lifted (os : Os) (started : os.Started) (H : Type) (enc : TypeId × Value → H) (F : Stop.Interp) :
    ReturnsInHanded {} Tryz.checked os 3 .any ((OpenSpec.ofChange Rows.manifestMakesSpec).preRow enc Tryz.prog Tryz.f3 Rows.manifestMakesRow.domain false Rows.manifestMakesRow.laid) (((OpenSpec.ofChange Rows.manifestMakesSpec).at F).post enc Tryz.prog Tryz.f3 false true false false) := by
  obtain ⟨places, hx⟩ := reads os enc
  refine returnsInHanded_of_row (C := Tryz.checked) (s := OpenSpec.ofChange Rows.manifestMakesSpec) own started (by kernel_rfl) Tryz.func3
    (witness_row_at (enc := enc) (C := Tryz.checked) false ({ World.holding Tryz.prog os ⟨#[], #[], []⟩ with heap := (((((((World.holding Tryz.prog os ⟨#[], #[], []⟩).heap.modify 0 (fun
      | .cells _ t frozen => .cells shaFirst t frozen
      | o => o)).modify 1 (fun
      | .cells _ t frozen => .cells #[.int .i64 1, .int .i64 2, .int .i64 4, .int .i64 8] t frozen
      | o => o)).modify 2 (fun
      | .cells _ t frozen => .cells shaRounds t frozen
      | o => o)).modify 3 (fun
      | .cells _ t frozen => .cells #[.int .i64 0] t frozen
      | o => o)).modify 4 (fun
      | .cells _ t frozen => .cells firstCells t frozen
      | o => o)).modify 5 (fun
      | .cells _ t frozen => .cells rangeCells t frozen
      | o => o)) } : World) #[.slice none 0 0] rfl (by kernel_rfl) (by kernel_rfl) (by kernel_rfl)
      (OpenSpec.preRow_of_cond 8 hx (by kernel_rfl) (fun k hk => by cases hk) (by kernel_rfl) (laid_met os))) ?_
  intro W base args ds gs before hval hW _ _ hsz hL hsh _
  exact contract H enc W base args ds gs before hval hW hL hsh hsz

theorem said : Rows.ManifestMakesSaid :=
  OpenClaim.holds_of_cond 3 Tryz.f3 rfl rfl rfl rfl rfl rfl rfl ⟨rfl, rfl, rfl, rfl, rfl⟩ rfl rfl rfl rfl rfl (by kernel_rfl) Tryz.func3 (by kernel_rfl)
    (of_decide_eq_true (by kernel_rfl)) (by unfold Func.isWrapper; first | (rw [if_pos (by decide +kernel)]; kernel_rfl) | (rw [if_neg (by decide +kernel)]; exact ⟨rfl, rfl⟩))
    (fun os started H enc _ F => by rw [OpenClaim.pre_eq_preRow]; exact lifted os started H enc F)

theorem plain (f : FuncId) (fn : Func) (hf : Tryz.pinned.checked.prog.funcNamed "sumpter/sumpterlaw10.ManifestMakes" = some f) (hfn : Tryz.pinned.checked.prog.funcs[f]? = some fn) :
    false = Tryz.pinned.checked.prog.looks [] ∧ ∀ (j : Nat) t, fn.params[j]? = some t → Tryz.pinned.checked.prog.wantsStandIn t = false := by
  obtain rfl : f = 3 := Option.some.inj ((show Tryz.prog.funcNamed "sumpter/sumpterlaw10.ManifestMakes" = some 3 by kernel_rfl).symm.trans hf) |>.symm
  obtain rfl : fn = Tryz.f3 := (Option.some.inj (Tryz.func3.symm.trans hfn)).symm
  refine ⟨by kernel_rfl, fun j t ht => ?_⟩
  rw [Tryz.params3] at ht
  have hm : t ∈ [22] := by simpa using Array.mem_of_getElem? ht
  have hall : ([22].all fun u => !Tryz.prog.wantsStandIn u) = true := by kernel_rfl
  exact (show Tryz.prog.wantsStandIn t = false by simpa using List.all_eq_true.1 hall t hm)
end Go.Proofs.YtdnbiibijoggoaaGreatDoor.manifestMakes

namespace Go.Proofs.YtdnbiibijoggoaaGreatDoor
/-- The card of ManifestMakes. -/
theorem manifestMakes_card : Rows.ManifestMakesCardSaid :=
  Claim7.holds_tied_plain_at .later [] _ _ _ _ manifestMakes.said (fun _ h => by cases h) (by kernel_rfl) (fun _ h => by cases h) manifestMakes_row_tie rfl ⟨rfl, rfl⟩ (by kernel_rfl) rfl manifestMakes.plain (by kernel_rfl)
#print axioms manifestMakes_card
end Go.Proofs.YtdnbiibijoggoaaGreatDoor
