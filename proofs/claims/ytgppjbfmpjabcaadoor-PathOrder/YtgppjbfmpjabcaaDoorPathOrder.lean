/-
  Of two unlike paths one stands ahead, and not the other; what stands ahead of something that stands ahead of a third one stands ahead of that: for every three texts, no condition.
-/
import Derived.Test.YtgppjbfmpjabcaaDoorFr
namespace Go.Proofs.YtgppjbfmpjabcaaDoor.pathOrder
open Go.ChangeShapes Go.WideShapes Go.ChangeAt Go.RowKit Go.Deep Go.ChangeMaps

theorem chk_small {l : List UInt8} (h : chk l = 0) : l.length ≤ 128 := by
  rcases Nat.lt_or_ge 128 l.length with h' | h'
  · rw [chk_long l h'] at h; cases h
  · exact h'
theorem les_cases (a b c : ByteArray) : (a = b ∧ les (dl a) (dl b) = false ∧ les (dl b) (dl a) = false) ∨
    (a ≠ b ∧ les (dl a) (dl b) = true ∧ les (dl b) (dl a) = false ∧ (les (dl b) (dl c) = true → les (dl a) (dl c) = true)) ∨
    (a ≠ b ∧ les (dl a) (dl b) = false ∧ les (dl b) (dl a) = true) := by
  by_cases h : a = b
  · subst h
    exact .inl ⟨rfl, ltL_irr _, ltL_irr _⟩
  · have hn : spl (dl a) ≠ spl (dl b) := fun e => h (dl_inj (spl_inj e))
    have ht := ltL_tri _ _ hn
    unfold les
    cases hb : ltL (spl (dl a)) (spl (dl b)) with
    | true =>
      rw [hb] at ht
      exact .inr (.inl ⟨h, rfl, by simpa using ht, fun hc => ltL_tra _ _ _ hb hc⟩)
    | false =>
      rw [hb] at ht
      exact .inr (.inr ⟨h, rfl, by simpa using ht⟩)

set_option maxHeartbeats 2000000 in
theorem walk (a b c : ByteArray) (w : World) (hw : Mx w) (wa : a.size ≤ maxLen) (wb : b.size ≤ maxLen) (wc : c.size ≤ maxLen) :
    Calls Tryd.prog 7 #[.string a, .string b, .string c] w fun e w' => e = .returned (.bool true) ∧ Below w.heap.size w w' := by
  have M0 : Hid (Mx w) := hw
  have B0 : Hid (Below w.heap.size w w) := Below.refl _ _
  have CA : Hid (∀ w, Mx w → Calls Tryd.prog 12 #[.string a] w fun e w' => e = .returned (.int .i64 (chk (dl a))) ∧ Below w.heap.size w w') := fun w hm => check_any a w hm wa
  have CB : Hid (∀ w, Mx w → Calls Tryd.prog 12 #[.string b] w fun e w' => e = .returned (.int .i64 (chk (dl b))) ∧ Below w.heap.size w w') := fun w hm => check_any b w hm wb
  have CC : Hid (∀ w, Mx w → Calls Tryd.prog 12 #[.string c] w fun e w' => e = .returned (.int .i64 (chk (dl c))) ∧ Below w.heap.size w w') := fun w hm => check_any c w hm wc
  have SA : Hid (chk (dl a) = 0 → a.size ≤ 128) := fun h => chk_small h
  have SB : Hid (chk (dl b) = 0 → b.size ≤ 128) := fun h => chk_small h
  have SC : Hid (chk (dl c) = 0 → c.size ≤ 128) := fun h => chk_small h
  generalize chk (dl a) = ka at *
  generalize chk (dl b) = kb at *
  generalize chk (dl c) = kc at *
  clear hw
  by_cases ha : ka ≠ 0
  · have ta : (ka == 0) = false := by simp [ha]
    go_enter Tryd.func7, Tryd.ntmps7
    go_wp2_with fail
    refine (CA.out w M0.out).mono ?_
    rintro e w1 ⟨rfl, b⟩
    have M1 : Hid (Mx w1) := M0.out.kept b
    have B1 : Hid (Below w.heap.size w w1) := B0.out.trans (b.mono B0.out.size)
    clear b
    go_wp2_with fail
    refine (awake_any w1 M1.out).mono ?_
    rintro e w2 ⟨rfl, b⟩
    have M2 : Hid (Mx w2) := M1.out.kept b
    have B2 : Hid (Below w.heap.size w w2) := B1.out.trans (b.mono B1.out.size)
    clear b
    go_wp2
    go_ret
    exact ⟨rfl, B2.out⟩
  obtain rfl : ka = 0 := Decidable.not_not.1 ha
  clear ha
  by_cases hb : kb ≠ 0
  · have tb : (kb == 0) = false := by simp [hb]
    go_enter Tryd.func7, Tryd.ntmps7
    go_wp2_with fail
    refine (CA.out w M0.out).mono ?_
    rintro e w1 ⟨rfl, b⟩
    have M1 : Hid (Mx w1) := M0.out.kept b
    have B1 : Hid (Below w.heap.size w w1) := B0.out.trans (b.mono B0.out.size)
    clear b
    go_wp2_with fail
    refine (CB.out w1 M1.out).mono ?_
    rintro e w2 ⟨rfl, b⟩
    have M2 : Hid (Mx w2) := M1.out.kept b
    have B2 : Hid (Below w.heap.size w w2) := B1.out.trans (b.mono B1.out.size)
    clear b
    go_wp2_with fail
    refine (awake_any w2 M2.out).mono ?_
    rintro e w3 ⟨rfl, b⟩
    have M3 : Hid (Mx w3) := M2.out.kept b
    have B3 : Hid (Below w.heap.size w w3) := B2.out.trans (b.mono B2.out.size)
    clear b
    go_wp2
    go_ret
    exact ⟨rfl, B3.out⟩
  obtain rfl : kb = 0 := Decidable.not_not.1 hb
  clear hb
  by_cases hc : kc ≠ 0
  · have tc : (kc == 0) = false := by simp [hc]
    go_enter Tryd.func7, Tryd.ntmps7
    go_wp2_with fail
    refine (CA.out w M0.out).mono ?_
    rintro e w1 ⟨rfl, b⟩
    have M1 : Hid (Mx w1) := M0.out.kept b
    have B1 : Hid (Below w.heap.size w w1) := B0.out.trans (b.mono B0.out.size)
    clear b
    go_wp2_with fail
    refine (CB.out w1 M1.out).mono ?_
    rintro e w2 ⟨rfl, b⟩
    have M2 : Hid (Mx w2) := M1.out.kept b
    have B2 : Hid (Below w.heap.size w w2) := B1.out.trans (b.mono B1.out.size)
    clear b
    go_wp2_with fail
    refine (CC.out w2 M2.out).mono ?_
    rintro e w3 ⟨rfl, b⟩
    have M3 : Hid (Mx w3) := M2.out.kept b
    have B3 : Hid (Below w.heap.size w w3) := B2.out.trans (b.mono B2.out.size)
    clear b
    go_wp2_with fail
    refine (awake_any w3 M3.out).mono ?_
    rintro e w4 ⟨rfl, b⟩
    have M4 : Hid (Mx w4) := M3.out.kept b
    have B4 : Hid (Below w.heap.size w w4) := B3.out.trans (b.mono B3.out.size)
    clear b
    go_wp2
    go_ret
    exact ⟨rfl, B4.out⟩
  obtain rfl : kc = 0 := Decidable.not_not.1 hc
  clear hc
  have la := SA.out rfl
  have lb := SB.out rfl
  have lc := SC.out rfl
  have LAB : Hid (∀ w, Mx w → Calls Tryd.prog 28 #[.string a, .string b] w fun e w' => e = .returned (.bool (les (dl a) (dl b))) ∧ Below w.heap.size w w') := fun w hm => less_any a b w hm (by omega) (by omega)
  have LBA : Hid (∀ w, Mx w → Calls Tryd.prog 28 #[.string b, .string a] w fun e w' => e = .returned (.bool (les (dl b) (dl a))) ∧ Below w.heap.size w w') := fun w hm => less_any b a w hm (by omega) (by omega)
  have LBC : Hid (∀ w, Mx w → Calls Tryd.prog 28 #[.string b, .string c] w fun e w' => e = .returned (.bool (les (dl b) (dl c))) ∧ Below w.heap.size w w') := fun w hm => less_any b c w hm (by omega) (by omega)
  have LAC : Hid (∀ w, Mx w → Calls Tryd.prog 28 #[.string a, .string c] w fun e w' => e = .returned (.bool (les (dl a) (dl c))) ∧ Below w.heap.size w w') := fun w hm => less_any a c w hm (by omega) (by omega)
  have HC : Hid ((a = b ∧ les (dl a) (dl b) = false ∧ les (dl b) (dl a) = false) ∨ (a ≠ b ∧ les (dl a) (dl b) = true ∧ les (dl b) (dl a) = false ∧ (les (dl b) (dl c) = true → les (dl a) (dl c) = true)) ∨ (a ≠ b ∧ les (dl a) (dl b) = false ∧ les (dl b) (dl a) = true)) := les_cases a b c
  generalize les (dl a) (dl b) = ab at *
  generalize les (dl b) (dl a) = ba at *
  generalize les (dl b) (dl c) = bc at *
  generalize les (dl a) (dl c) = ac at *
  clear SA SB SC wa wb wc la lb lc
  go_enter Tryd.func7, Tryd.ntmps7
  go_wp2_with fail
  refine (CA.out w M0.out).mono ?_
  rintro e w1 ⟨rfl, b⟩
  have M1 : Hid (Mx w1) := M0.out.kept b
  have B1 : Hid (Below w.heap.size w w1) := B0.out.trans (b.mono B0.out.size)
  clear b
  go_wp2_with fail
  refine (CB.out w1 M1.out).mono ?_
  rintro e w2 ⟨rfl, b⟩
  have M2 : Hid (Mx w2) := M1.out.kept b
  have B2 : Hid (Below w.heap.size w w2) := B1.out.trans (b.mono B1.out.size)
  clear b
  go_wp2_with fail
  refine (CC.out w2 M2.out).mono ?_
  rintro e w3 ⟨rfl, b⟩
  have M3 : Hid (Mx w3) := M2.out.kept b
  have B3 : Hid (Below w.heap.size w w3) := B2.out.trans (b.mono B2.out.size)
  clear b
  go_wp2_with fail
  refine (LAB.out w3 M3.out).mono ?_
  rintro e w4 ⟨rfl, b⟩
  have M4 : Hid (Mx w4) := M3.out.kept b
  have B4 : Hid (Below w.heap.size w w4) := B3.out.trans (b.mono B3.out.size)
  clear b
  go_wp2_with fail
  refine (LBA.out w4 M4.out).mono ?_
  rintro e w5 ⟨rfl, b⟩
  have M5 : Hid (Mx w5) := M4.out.kept b
  have B5 : Hid (Below w.heap.size w w5) := B4.out.trans (b.mono B4.out.size)
  clear b
  go_wp2_with fail
  refine (LBC.out w5 M5.out).mono ?_
  rintro e w6 ⟨rfl, b⟩
  have M6 : Hid (Mx w6) := M5.out.kept b
  have B6 : Hid (Below w.heap.size w w6) := B5.out.trans (b.mono B5.out.size)
  clear b
  clear CA CB CC LAB LBA LBC
  rcases HC.out with ⟨rfl, rfl, rfl⟩ | ⟨hne, rfl, rfl, hac⟩ | ⟨hne, rfl, rfl⟩
  · cases bc
    · clear HC LAC
      go_wp2_with fail
      refine (awake_any w6 M6.out).mono ?_
      rintro e w7 ⟨rfl, b⟩
      have M7 : Hid (Mx w7) := M6.out.kept b
      have B7 : Hid (Below w.heap.size w w7) := B6.out.trans (b.mono B6.out.size)
      clear b
      go_wp2
      go_ret
      exact ⟨rfl, B7.out⟩
    · clear HC LAC
      go_wp2_with fail
      refine (awake_any w6 M6.out).mono ?_
      rintro e w7 ⟨rfl, b⟩
      have M7 : Hid (Mx w7) := M6.out.kept b
      have B7 : Hid (Below w.heap.size w w7) := B6.out.trans (b.mono B6.out.size)
      clear b
      go_wp2
      go_ret
      exact ⟨rfl, B7.out⟩
  · have te : (a.toList == b.toList) = false := by rw [tl_beq]; simp [hne]
    clear HC hne
    cases bc
    · clear hac LAC
      go_wp2_with fail
      refine (awake_any w6 M6.out).mono ?_
      rintro e w7 ⟨rfl, b⟩
      have M7 : Hid (Mx w7) := M6.out.kept b
      have B7 : Hid (Below w.heap.size w w7) := B6.out.trans (b.mono B6.out.size)
      clear b
      go_wp2
      go_ret
      exact ⟨rfl, B7.out⟩
    · obtain rfl : ac = true := hac rfl
      clear hac
      go_wp2_with fail
      refine (LAC.out w6 M6.out).mono ?_
      rintro e w7 ⟨rfl, b⟩
      have M7 : Hid (Mx w7) := M6.out.kept b
      have B7 : Hid (Below w.heap.size w w7) := B6.out.trans (b.mono B6.out.size)
      clear b
      go_wp2_with fail
      refine (awake_any w7 M7.out).mono ?_
      rintro e w8 ⟨rfl, b⟩
      have M8 : Hid (Mx w8) := M7.out.kept b
      have B8 : Hid (Below w.heap.size w w8) := B7.out.trans (b.mono B7.out.size)
      clear b
      go_wp2
      go_ret
      exact ⟨rfl, B8.out⟩
  · have te : (a.toList == b.toList) = false := by rw [tl_beq]; simp [hne]
    clear HC hne LAC
    cases bc
    ·
      go_wp2_with fail
      refine (awake_any w6 M6.out).mono ?_
      rintro e w7 ⟨rfl, b⟩
      have M7 : Hid (Mx w7) := M6.out.kept b
      have B7 : Hid (Below w.heap.size w w7) := B6.out.trans (b.mono B6.out.size)
      clear b
      go_wp2
      go_ret
      exact ⟨rfl, B7.out⟩
    ·
      go_wp2_with fail
      refine (awake_any w6 M6.out).mono ?_
      rintro e w7 ⟨rfl, b⟩
      have M7 : Hid (Mx w7) := M6.out.kept b
      have B7 : Hid (Below w.heap.size w w7) := B6.out.trans (b.mono B6.out.size)
      clear b
      go_wp2
      go_ret
      exact ⟨rfl, B7.out⟩

theorem contract (H : Type) (enc : TypeId × Value → H) (W : World) (base : Nat) (args : Array Value) (ds gs : List (DataW H)) (before : List MemPlace)
    (hval : ∀ (j : Nat) t v, Tryd.f7.params[j]? = some t → args[j]? = some v → Value.okWide Tryd.prog W .any base t v)
    (hW : DataW.Whole enc Tryd.prog Tryd.f7.params.toList Rows.pathOrderSpec.vars false W args.toList ds gs before) (_hL : laidMetH Tryd.prog Rows.pathOrderRow.laid W) (hsh : W.ShapedOpen Tryd.prog)
    (hsz0 : (DataW.weightsEach Tryd.prog (Tryd.f7.params.toList ++ Rows.pathOrderSpec.plain.varTypes Tryd.prog) (ds ++ gs)).all (· ≤ reachBytes) = true) :
    Calls Tryd.prog 7 args W fun e W' => ∃ v, e = .returned v ∧ Rows.pathOrderSpec.post enc Tryd.prog Tryd.f7 false true false false W args v W' := by
  have hW' := hW
  obtain ⟨p, q, hA0, hV, rfl, hfz, hnd⟩ := hW
  have hA : DataW.TrodAll enc Tryd.prog W 0 (fun _ => true) true Tryd.f7.params.toList args.toList ds p := hA0
  rw [Tryd.params7] at hA hval hsz0
  obtain ⟨v0, vs0, d0, ds0, p0, q0, hargs, rfl, rfl, h0, r0⟩ := trodAll_cons hA
  obtain ⟨v1, vs1, d1, ds1, p1, q1, rfl, rfl, rfl, h1, r1⟩ := trodAll_cons r0
  obtain ⟨v2, vs2, d2, ds2, p2, q2, rfl, rfl, rfl, h2, r2⟩ := trodAll_cons r1
  obtain ⟨rfl, rfl, rfl⟩ := trodAll_nil r2
  obtain rfl : args = #[v0, v1, v2] := by cases args; simp_all
  obtain ⟨rfl, rfl⟩ := trodVars_none hV
  obtain ⟨a0, rfl, rfl, rfl, w0⟩ := open_string Tryd.underlying9 (hval 0 9 v0 rfl rfl) h0
  obtain ⟨a1, rfl, rfl, rfl, w1⟩ := open_string Tryd.underlying9 (hval 1 9 v1 rfl rfl) h1
  obtain ⟨a2, rfl, rfl, rfl, w2⟩ := open_string Tryd.underlying9 (hval 2 9 v2 rfl rfl) h2
  clear hA0
  refine (walk a0 a1 a2 W (mx_of hsh) w0 w1 w2).mono fun e W' ⟨he, bel⟩ => ?_
  subst he
  exact ⟨_, rfl, _, _, _, [], _, [], hW', trodAll_mk1 (shut_bool Tryd.underlying4 _), (trodAll_cons_mk (shut_string Tryd.underlying9 w0) (trodAll_cons_mk (shut_string Tryd.underlying9 w1) (trodAll_cons_mk (shut_string Tryd.underlying9 w2) trodAll_mk0))), rfl, bel.frame _, fun h => by cases h⟩

theorem laid_met (os : Os) : laidMet Tryd.prog Rows.pathOrderRow.laid (({ World.holding Tryd.prog os ⟨#[], #[], []⟩ with heap := ((((World.holding Tryd.prog os ⟨#[], #[], []⟩).heap.modify 0 (fun
      | .cells _ t frozen => .cells #[.int .i64 0] t frozen
      | o => o)).modify 1 (fun
      | .cells _ t frozen => .cells firstCells t frozen
      | o => o)).modify 2 (fun
      | .cells _ t frozen => .cells rangeCells t frozen
      | o => o)) } : World).forCall (fun _ _ => 0) ⟨#[], #[.string ⟨#[]⟩, .string ⟨#[]⟩, .string ⟨#[]⟩], []⟩).memory :=
  laidMet_of_run' 8 (by kernel_rfl) (by kernel_rfl)
theorem reads (os : Os) {H : Type} (enc : TypeId × Value → H) : ∃ places, DataW.whole enc Tryd.prog (({ World.holding Tryd.prog os ⟨#[], #[], []⟩ with heap := ((((World.holding Tryd.prog os ⟨#[], #[], []⟩).heap.modify 0 (fun
      | .cells _ t frozen => .cells #[.int .i64 0] t frozen
      | o => o)).modify 1 (fun
      | .cells _ t frozen => .cells firstCells t frozen
      | o => o)).modify 2 (fun
      | .cells _ t frozen => .cells rangeCells t frozen
      | o => o)) } : World).forCall (fun _ _ => 0) ⟨#[], #[.string ⟨#[]⟩, .string ⟨#[]⟩, .string ⟨#[]⟩], []⟩).memory Tryd.f7.params.toList Rows.pathOrderSpec.vars false #[Value.string ⟨#[]⟩, .string ⟨#[]⟩, .string ⟨#[]⟩].toList 8 = some ([.lit (.string []), .lit (.string []), .lit (.string [])], [], places) :=
  ⟨[], by kernel_rfl⟩

set_option maxRecDepth 100000 in
theorem lifted (os : Os) (started : os.Started) (H : Type) (enc : TypeId × Value → H) (F : Stop.Interp) :
    ReturnsInHanded {} Tryd.checked os 7 .any ((OpenSpec.ofChange Rows.pathOrderSpec).preRow enc Tryd.prog Tryd.f7 Rows.pathOrderRow.domain false Rows.pathOrderRow.laid) (((OpenSpec.ofChange Rows.pathOrderSpec).at F).post enc Tryd.prog Tryd.f7 false true false false) := by
  obtain ⟨places, hx⟩ := reads os enc
  refine returnsInHanded_of_row (C := Tryd.checked) (s := OpenSpec.ofChange Rows.pathOrderSpec) own started (by kernel_rfl) Tryd.func7
    (witness_row_at (enc := enc) (C := Tryd.checked) false ({ World.holding Tryd.prog os ⟨#[], #[], []⟩ with heap := ((((World.holding Tryd.prog os ⟨#[], #[], []⟩).heap.modify 0 (fun
      | .cells _ t frozen => .cells #[.int .i64 0] t frozen
      | o => o)).modify 1 (fun
      | .cells _ t frozen => .cells firstCells t frozen
      | o => o)).modify 2 (fun
      | .cells _ t frozen => .cells rangeCells t frozen
      | o => o)) } : World) #[.string ⟨#[]⟩, .string ⟨#[]⟩, .string ⟨#[]⟩] rfl (by kernel_rfl) (by kernel_rfl) (by kernel_rfl)
      (OpenSpec.preRow_of_cond 8 hx (by kernel_rfl) (fun k hk => by cases hk) (by kernel_rfl) (laid_met os))) ?_
  intro W base args ds gs before hval hW _ _ hsz hL hsh _
  exact contract H enc W base args ds gs before hval hW hL hsh hsz

theorem said : Rows.PathOrderSaid :=
  OpenClaim.holds_of_cond 7 Tryd.f7 rfl rfl rfl rfl rfl rfl rfl ⟨rfl, rfl, rfl, rfl, rfl⟩ rfl rfl rfl rfl rfl (by kernel_rfl) Tryd.func7 (by kernel_rfl)
    (of_decide_eq_true (by kernel_rfl)) (by unfold Func.isWrapper; first | (rw [if_pos (by decide +kernel)]; kernel_rfl) | (rw [if_neg (by decide +kernel)]; exact ⟨rfl, rfl⟩))
    (fun os started H enc _ F => by rw [OpenClaim.pre_eq_preRow]; exact lifted os started H enc F)

theorem plain (f : FuncId) (fn : Func) (hf : Tryd.pinned.checked.prog.funcNamed "sumpter/sumpterlaw07.PathOrder" = some f) (hfn : Tryd.pinned.checked.prog.funcs[f]? = some fn) :
    false = Tryd.pinned.checked.prog.looks [] ∧ ∀ (j : Nat) t, fn.params[j]? = some t → Tryd.pinned.checked.prog.wantsStandIn t = false := by
  obtain rfl : f = 7 := Option.some.inj ((show Tryd.prog.funcNamed "sumpter/sumpterlaw07.PathOrder" = some 7 by kernel_rfl).symm.trans hf) |>.symm
  obtain rfl : fn = Tryd.f7 := (Option.some.inj (Tryd.func7.symm.trans hfn)).symm
  refine ⟨by kernel_rfl, fun j t ht => ?_⟩
  rw [Tryd.params7] at ht
  have hm : t ∈ [9, 9, 9] := by simpa using Array.mem_of_getElem? ht
  have hall : ([9, 9, 9].all fun u => !Tryd.prog.wantsStandIn u) = true := by kernel_rfl
  exact (show Tryd.prog.wantsStandIn t = false by simpa using List.all_eq_true.1 hall t hm)
end Go.Proofs.YtgppjbfmpjabcaaDoor.pathOrder

namespace Go.Proofs.YtgppjbfmpjabcaaDoor
/-- The card of PathOrder. -/
theorem pathOrder_card : Rows.PathOrderCardSaid :=
  Claim7.holds_tied_plain_at .later [] _ _ _ _ pathOrder.said (fun _ h => by cases h) (by kernel_rfl) (fun _ h => by cases h) pathOrder_row_tie rfl ⟨rfl, rfl⟩ (by kernel_rfl) rfl pathOrder.plain (by kernel_rfl)
#print axioms pathOrder_card
end Go.Proofs.YtgppjbfmpjabcaaDoor
