/-
  Any bytes are the items that the document says, or none: for every bytes; nothing that came in is changed.
-/
import Derived.Test.YtdnbiibijoggoaaGreatDoorFr
import Derived.Test.YtdnbiibijoggoaaGreatDoorLi
import Derived.Test.YtdnbiibijoggoaaGreatDoorRge
import Derived.Test.YtdnbiibijoggoaaGreatDoorRa
namespace Go.Proofs.YtdnbiibijoggoaaGreatDoor.manifestGets
open Go.ChangeShapes Go.WideShapes Go.ChangeAt Go.RowKit Go.Deep Go.ChangeMaps
set_option maxRecDepth 100000

set_option maxHeartbeats 8000000 in
theorem walk (v0 : Value) (b : List Int) (w : World) (hw : Wd w) (h0x : SlX w v0 b) :
    Calls Tryz.prog 5 #[v0] w fun e w' => e = .returned (.bool true) ∧ Below w.heap.size w w' := by
  have CA : Hid (∀ W, Below w.heap.size w W → Calls Tryz.prog 7 #[] W fun e w' => e = .returned (.bool true) ∧ Below W.heap.size W w') := fun W hb => awake_any W (hw.kept hb)
  have HW : Hid (Wd w) := hw
  have h0 := h0x.1
  have H0 : Hid (Sl w v0 b) := h0
  have HSP : Hid (∀ x n c, v0 = .slice (some x) n c → 0 < c → x.spot = none) := h0x.2
  obtain ⟨a0, c0, rfl, _, h1m, _⟩ := id h0
  obtain ⟨n0, hn0⟩ : ∃ n0, n0 = b.length := ⟨_, rfl⟩
  have HN0 : Hid (n0 = b.length) := hn0
  rw [← hn0] at H0 HSP ⊢
  have h9 : (n0 : Int) ≤ 9223372036854775807 := by unfold maxLen at h1m; omega
  clear h0 h0x hw hn0 h1m
  go_enter Tryz.func5, Tryz.ntmps5
  by_cases hlong : 5000 < n0
  · have hl2 : (5000 : Int) < (n0 : Int) := by omega
    go_wp2_with fail
    refine (CA.out w (Below.refl w.heap.size w)).mono ?_
    rintro e z1 ⟨rfl, bz⟩
    have BZ : Hid (Below w.heap.size w z1) := Below.trans (Below.refl w.heap.size w) (bz.mono (Below.size (Below.refl w.heap.size w)))
    clear bz
    go_wp2
    go_ret
    exact ⟨rfl, BZ.out⟩
  have hl2 : ¬ (5000 : Int) < (n0 : Int) := by omega
  have HLM : Hid ((mget b).1.length ≤ 100000) := by
    unfold Hid
    rcases mget_cases b with ⟨hg, _⟩ | hg
    · rw [hg]; have := rdA_len b H0.out.bytes; show (rdA b).length ≤ _; omega
    · rw [hg]; simp
  have c1 := get_any _ b w H0.out (by rw [← HN0.out]; omega) HW.out
  go_wp2_with fail
  refine c1.mono ?_
  rintro e w2 ⟨v2, rfl, o2, b2⟩
  clear c1
  have B2 : Hid (Below w.heap.size w w2) := b2
  have I2 : Hid (IS w2 v2 (mget b).1) := o2.is
  have c2 := rgetM_any _ b w2 (H0.out.kept b2) HSP.out
  obtain ⟨a2, cc2, rfl, _, _, _⟩ := o2.is.shape
  clear o2 b2
  go_wp2_with fail
  refine c2.mono ?_
  rintro e w3 ⟨v3, rfl, o3, b3⟩
  clear c2
  have B3 : Hid (Below w.heap.size w w3) := B2.out.trans (b3.mono B2.out.size)
  have c3 := rsameI_any _ _ (mget b).1 (mget b).1 w3 (I2.out.kept b3) o3.is HLM.out HLM.out
  rw [show saI (mget b).1 (mget b).1 = true from (saI_iff _ _).2 rfl] at c3
  obtain ⟨a3, cc3, rfl, _, _, _⟩ := o3.is.shape
  clear o3 b3 B2 I2 HLM
  generalize (mget b).1.length = nn at *
  generalize (mget b).2 = ee at *
  go_wp2_with fail
  refine c3.mono ?_
  rintro e w4 ⟨rfl, b4⟩
  clear c3
  have B4 : Hid (Below w.heap.size w w4) := B3.out.trans (b4.mono B3.out.size)
  clear b4 B3
  have t0 : (ee == ee) = true := by simp
  go_wp2_with fail
  refine (CA.out w4 (B4.out)).mono ?_
  rintro e z1 ⟨rfl, bz⟩
  have BZ : Hid (Below w.heap.size w z1) := Below.trans (B4.out) (bz.mono (Below.size (B4.out)))
  clear bz
  go_wp2
  go_ret
  exact ⟨rfl, BZ.out⟩

theorem contract (H : Type) (enc : TypeId × Value → H) (W : World) (base : Nat) (args : Array Value) (ds gs : List (DataW H)) (before : List MemPlace)
    (hval : ∀ (j : Nat) t v, Tryz.f5.params[j]? = some t → args[j]? = some v → Value.okWide Tryz.prog W .any base t v)
    (hW : DataW.Whole enc Tryz.prog Tryz.f5.params.toList Rows.manifestGetsSpec.vars false W args.toList ds gs before) (hL : laidMetH Tryz.prog Rows.manifestGetsRow.laid W) (hsh : W.ShapedOpen Tryz.prog)
    (hsz0 : (DataW.weightsEach Tryz.prog (Tryz.f5.params.toList ++ Rows.manifestGetsSpec.plain.varTypes Tryz.prog) (ds ++ gs)).all (· ≤ reachBytes) = true) :
    Calls Tryz.prog 5 args W fun e W' => ∃ v, e = .returned v ∧ Rows.manifestGetsSpec.post enc Tryz.prog Tryz.f5 false true false false W args v W' := by
  have hW' := hW
  obtain ⟨p, q, hA0, hV, rfl, hfz, hnd⟩ := hW
  have hA : DataW.TrodAll enc Tryz.prog W 0 (fun _ => true) true Tryz.f5.params.toList args.toList ds p := hA0
  rw [Tryz.params5] at hA hval hsz0
  obtain ⟨v0, vs0, d0, ds0, p0, q0, hargs, rfl, rfl, h0, r0⟩ := trodAll_cons hA
  obtain ⟨rfl, rfl, rfl⟩ := trodAll_nil r0
  obtain rfl : args = #[v0] := by cases args; simp_all
  obtain ⟨rfl, rfl⟩ := trodVars_none hV
  have k0 := h0
  have lt0 : ∀ x ∈ p0, x.block < W.heap.size := by obtain ⟨m, hm⟩ := k0; exact DataW.trod_lt m _ _ _ hm
  obtain ⟨L0, w0⟩ := slx_in (hval 0 34 v0 rfl rfl) h0
  clear hA0
  refine (walk v0 L0 W (wd_of hL hsh) w0).mono fun e W' ⟨he, bel⟩ => ?_
  subst he
  exact ⟨_, rfl, _, _, _, [], _, [], hW', trodAll_mk1 (shut_bool Tryz.underlying4 _), (trodAll_cons_mk (Below.trod laidOut (by kernel_rfl) (of_decide_eq_true (by kernel_rfl)) k0 bel lt0) trodAll_mk0), rfl, bel.frame _, fun h => by cases h⟩

theorem laid_met (os : Os) : laidMet Tryz.prog Rows.manifestGetsRow.laid (({ World.holding Tryz.prog os ⟨#[], #[], []⟩ with heap := (((((((World.holding Tryz.prog os ⟨#[], #[], []⟩).heap.modify 0 (fun
      | .cells _ t frozen => .cells shaFirst t frozen
      | o => o)).modify 1 (fun
      | .cells _ t frozen => .cells #[.int .i64 1, .int .i64 2, .int .i64 4, .int .i64 8] t frozen
      | o => o)).modify 2 (fun
      | .cells _ t frozen => .cells shaRounds t frozen
      | o => o)).modify 3 (fun
      | .cells _ t frozen => .cells #[.int .i64 0] t frozen
      | o => o)).modify 4 (fun
      | .cells _ t frozen => .cells firstCells t frozen
      | o => o)).modify 5 (fun
      | .cells _ t frozen => .cells rangeCells t frozen
      | o => o)) } : World).forCall (fun _ _ => 0) ⟨#[], #[.slice none 0 0], []⟩).memory :=
  laidMet_of_run' 8 (by kernel_rfl) (by kernel_rfl)
theorem reads (os : Os) {H : Type} (enc : TypeId × Value → H) : ∃ places, DataW.whole enc Tryz.prog (({ World.holding Tryz.prog os ⟨#[], #[], []⟩ with heap := (((((((World.holding Tryz.prog os ⟨#[], #[], []⟩).heap.modify 0 (fun
      | .cells _ t frozen => .cells shaFirst t frozen
      | o => o)).modify 1 (fun
      | .cells _ t frozen => .cells #[.int .i64 1, .int .i64 2, .int .i64 4, .int .i64 8] t frozen
      | o => o)).modify 2 (fun
      | .cells _ t frozen => .cells shaRounds t frozen
      | o => o)).modify 3 (fun
      | .cells _ t frozen => .cells #[.int .i64 0] t frozen
      | o => o)).modify 4 (fun
      | .cells _ t frozen => .cells firstCells t frozen
      | o => o)).modify 5 (fun
      | .cells _ t frozen => .cells rangeCells t frozen
      | o => o)) } : World).forCall (fun _ _ => 0) ⟨#[], #[.slice none 0 0], []⟩).memory Tryz.f5.params.toList Rows.manifestGetsSpec.vars false #[Value.slice none 0 0].toList 8 = some ([.nil], [], places) :=
  ⟨[], by kernel_rfl⟩

set_option maxRecDepth 100000 in
theorem lifted (os : Os) (started : os.Started) (H : Type) (enc : TypeId × Value → H) (F : Stop.Interp) :
    ReturnsInHanded {} Tryz.checked os 5 .any ((OpenSpec.ofChange Rows.manifestGetsSpec).preRow enc Tryz.prog Tryz.f5 Rows.manifestGetsRow.domain false Rows.manifestGetsRow.laid) (((OpenSpec.ofChange Rows.manifestGetsSpec).at F).post enc Tryz.prog Tryz.f5 false true false false) := by
  obtain ⟨places, hx⟩ := reads os enc
  refine returnsInHanded_of_row (C := Tryz.checked) (s := OpenSpec.ofChange Rows.manifestGetsSpec) own started (by kernel_rfl) Tryz.func5
    (witness_row_at (enc := enc) (C := Tryz.checked) false ({ World.holding Tryz.prog os ⟨#[], #[], []⟩ with heap := (((((((World.holding Tryz.prog os ⟨#[], #[], []⟩).heap.modify 0 (fun
      | .cells _ t frozen => .cells shaFirst t frozen
      | o => o)).modify 1 (fun
      | .cells _ t frozen => .cells #[.int .i64 1, .int .i64 2, .int .i64 4, .int .i64 8] t frozen
      | o => o)).modify 2 (fun
      | .cells _ t frozen => .cells shaRounds t frozen
      | o => o)).modify 3 (fun
      | .cells _ t frozen => .cells #[.int .i64 0] t frozen
      | o => o)).modify 4 (fun
      | .cells _ t frozen => .cells firstCells t frozen
      | o => o)).modify 5 (fun
      | .cells _ t frozen => .cells rangeCells t frozen
      | o => o)) } : World) #[.slice none 0 0] rfl (by kernel_rfl) (by kernel_rfl) (by kernel_rfl)
      (OpenSpec.preRow_of_cond 8 hx (by kernel_rfl) (fun k hk => by cases hk) (by kernel_rfl) (laid_met os))) ?_
  intro W base args ds gs before hval hW _ _ hsz hL hsh _
  exact contract H enc W base args ds gs before hval hW hL hsh hsz

theorem said : Rows.ManifestGetsSaid :=
  OpenClaim.holds_of_cond 5 Tryz.f5 rfl rfl rfl rfl rfl rfl rfl ⟨rfl, rfl, rfl, rfl, rfl⟩ rfl rfl rfl rfl rfl (by kernel_rfl) Tryz.func5 (by kernel_rfl)
    (of_decide_eq_true (by kernel_rfl)) (by unfold Func.isWrapper; first | (rw [if_pos (by decide +kernel)]; kernel_rfl) | (rw [if_neg (by decide +kernel)]; exact ⟨rfl, rfl⟩))
    (fun os started H enc _ F => by rw [OpenClaim.pre_eq_preRow]; exact lifted os started H enc F)

theorem plain (f : FuncId) (fn : Func) (hf : Tryz.pinned.checked.prog.funcNamed "sumpter/sumpterlaw10.ManifestGets" = some f) (hfn : Tryz.pinned.checked.prog.funcs[f]? = some fn) :
    false = Tryz.pinned.checked.prog.looks [] ∧ ∀ (j : Nat) t, fn.params[j]? = some t → Tryz.pinned.checked.prog.wantsStandIn t = false := by
  obtain rfl : f = 5 := Option.some.inj ((show Tryz.prog.funcNamed "sumpter/sumpterlaw10.ManifestGets" = some 5 by kernel_rfl).symm.trans hf) |>.symm
  obtain rfl : fn = Tryz.f5 := (Option.some.inj (Tryz.func5.symm.trans hfn)).symm
  refine ⟨by kernel_rfl, fun j t ht => ?_⟩
  rw [Tryz.params5] at ht
  have hm : t ∈ [34] := by simpa using Array.mem_of_getElem? ht
  have hall : ([34].all fun u => !Tryz.prog.wantsStandIn u) = true := by kernel_rfl
  exact (show Tryz.prog.wantsStandIn t = false by simpa using List.all_eq_true.1 hall t hm)
end Go.Proofs.YtdnbiibijoggoaaGreatDoor.manifestGets

namespace Go.Proofs.YtdnbiibijoggoaaGreatDoor
/-- The card of ManifestGets. -/
theorem manifestGets_card : Rows.ManifestGetsCardSaid :=
  Claim7.holds_tied_plain_at .later [] _ _ _ _ manifestGets.said (fun _ h => by cases h) (by kernel_rfl) (fun _ h => by cases h) manifestGets_row_tie rfl ⟨rfl, rfl⟩ (by kernel_rfl) rfl manifestGets.plain (by kernel_rfl)
#print axioms manifestGets_card
end Go.Proofs.YtdnbiibijoggoaaGreatDoor
