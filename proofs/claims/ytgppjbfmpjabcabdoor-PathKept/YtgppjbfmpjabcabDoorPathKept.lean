/-
  Where a file's old bytes are kept is a path beside it, of no two files the same; nothing is kept of what was kept: for every two texts, no condition.
-/
import Derived.Test.YtgppjbfmpjabcabDoorFr
namespace Go.Proofs.YtgppjbfmpjabcabDoor.pathKept
open Go.ChangeShapes Go.WideShapes Go.ChangeAt Go.RowKit Go.Deep Go.ChangeMaps

theorem chk_small {l : List UInt8} (h : chk l = 0) : l.length ≤ 128 := by
  rcases Nat.lt_or_ge 128 l.length with h' | h'
  · rw [chk_long l h'] at h; cases h
  · exact h'
theorem kep_cases (l : List UInt8) : kep l = [] ∨ (kep l = l ++ [126] ∧ chk (l ++ [126]) = 0 ∧ l ≠ []) := by
  unfold kep
  split
  · exact .inl rfl
  · rename_i h
    refine .inr ⟨rfl, ?_, fun e => h (.inl e)⟩
    by_cases hc : chk (l ++ [126]) = 0
    · exact hc
    · exact absurd (.inr (.inr hc)) h
theorem kep_kep (l : List UInt8) : kep (l ++ [126]) = [] := by
  unfold kep
  rw [if_pos]
  refine .inr (.inl ?_)
  rw [List.isSuffixOf_iff_suffix]
  exact ⟨l, rfl⟩
theorem par_kep (l : List UInt8) : par (l ++ [126]) = par l := by
  rcases par_bas l with ⟨h1, h2, h3, h4⟩ | ⟨h1, h2, h3⟩
  · rw [h3]
    rcases par_bas (l ++ [126]) with ⟨_, _, k3, _⟩ | ⟨_, k2, _⟩
    · exact k3
    · exfalso
      have hm : (47 : UInt8) ∈ l ++ [126] := by rw [k2]; simp
      rcases List.mem_append.1 hm with h | h
      · exact h2 47 h rfl
      · simp at h
  · rcases par_bas (l ++ [126]) with ⟨_, k2, _, _⟩ | ⟨_, k2, k3⟩
    · exfalso
      exact k2 47 (by rw [h2]; simp) rfl
    · have e : par l ++ 47 :: (bas l ++ [126]) = par (l ++ [126]) ++ 47 :: bas (l ++ [126]) := by
        rw [← k2]
        conv => rhs; rw [h2]
        simp
      have hb : ∀ c ∈ bas l ++ [126], c ≠ 47 := by
        intro c hc
        rcases List.mem_append.1 hc with h | h
        · exact h3 c h
        · simp only [List.mem_singleton] at h; subst h; decide
      have u1 : parts (par l ++ 47 :: (bas l ++ [126])) = parts (par l) ++ [bas l ++ [126]] := by rw [parts_app, parts_none _ hb]
      have u2 : parts (par (l ++ [126]) ++ 47 :: bas (l ++ [126])) = parts (par (l ++ [126])) ++ [bas (l ++ [126])] := by rw [parts_app, parts_none _ k3]
      rw [e, u2] at u1
      have u3 := List.append_inj_left' u1 rfl
      rw [← joi_parts (par (l ++ [126])), u3, joi_parts]
theorem res_kep (l : List UInt8) : res (l ++ [126]) = res l := by
  unfold res
  cases h : ownP.isPrefixOf l with
  | true =>
    rw [List.isPrefixOf_iff_prefix] at h ⊢
    obtain ⟨t, rfl⟩ := h
    exact ⟨t ++ [126], by simp⟩
  | false =>
    cases h2 : ownP.isPrefixOf (l ++ [126]) with
    | false => rfl
    | true =>
      exfalso
      rw [List.isPrefixOf_iff_prefix] at h2
      obtain ⟨t, ht⟩ := h2
      rcases List.eq_nil_or_concat t with rfl | ⟨t', x, rfl⟩
      · have e : ownP = [46, 115, 117, 109, 112, 116, 101] ++ [114] := rfl
        rw [List.append_nil, e] at ht
        have := List.append_inj_right' ht rfl
        simp at this
      · rw [List.concat_eq_append, ← List.append_assoc] at ht
        have h3 := List.append_inj_left' ht rfl
        have : ownP.isPrefixOf l = true := by
          rw [List.isPrefixOf_iff_prefix]
          exact ⟨t', h3⟩
        rw [h] at this
        cases this
theorem mk_ne {l : List UInt8} (h : l ≠ []) : ((mk l).toList).isEmpty = false := by
  rw [tol, dl_mk]
  simpa using h

set_option maxHeartbeats 4000000 in
theorem walk (p q : ByteArray) (w : World) (hw : Mx w) (wp : p.size ≤ maxLen) (wq : q.size ≤ maxLen) :
    Calls Tryd.prog 3 #[.string p, .string q] w fun e w' => e = .returned (.bool true) ∧ Below w.heap.size w w' := by
  have M0 : Hid (Mx w) := hw
  have B0 : Hid (Below w.heap.size w w) := Below.refl _ _
  have CP : Hid (∀ w, Mx w → Calls Tryd.prog 4 #[.string p] w fun e w' => e = .returned (.int .i64 (chk (dl p))) ∧ Below w.heap.size w w') := fun w hm => check_any p w hm wp
  have CQ : Hid (∀ w, Mx w → Calls Tryd.prog 4 #[.string q] w fun e w' => e = .returned (.int .i64 (chk (dl q))) ∧ Below w.heap.size w w') := fun w hm => check_any q w hm wq
  have SP : Hid (chk (dl p) = 0 → p.size ≤ 128) := fun h => chk_small h
  have SQ : Hid (chk (dl q) = 0 → q.size ≤ 128) := fun h => chk_small h
  generalize chk (dl p) = kp at *
  generalize chk (dl q) = kq at *
  clear hw
  by_cases hp : kp ≠ 0
  · have tp : (kp == 0) = false := by simp [hp]
    go_enter Tryd.func3, Tryd.ntmps3
    go_wp2_with fail
    refine (CP.out w M0.out).mono ?_
    rintro e w1 ⟨rfl, b⟩
    have M1 : Hid (Mx w1) := M0.out.kept b
    have B1 : Hid (Below w.heap.size w w1) := B0.out.trans (b.mono B0.out.size)
    clear b
    go_wp2_with fail
    refine (awake_any w1 M1.out).mono ?_
    rintro e w2 ⟨rfl, b⟩
    have M2 : Hid (Mx w2) := M1.out.kept b
    have B2 : Hid (Below w.heap.size w w2) := B1.out.trans (b.mono B1.out.size)
    clear b
    go_wp2
    go_ret
    exact ⟨rfl, B2.out⟩
  obtain rfl : kp = 0 := Decidable.not_not.1 hp
  clear hp
  by_cases hq : kq ≠ 0
  · have tq : (kq == 0) = false := by simp [hq]
    go_enter Tryd.func3, Tryd.ntmps3
    go_wp2_with fail
    refine (CP.out w M0.out).mono ?_
    rintro e w1 ⟨rfl, b⟩
    have M1 : Hid (Mx w1) := M0.out.kept b
    have B1 : Hid (Below w.heap.size w w1) := B0.out.trans (b.mono B0.out.size)
    clear b
    go_wp2_with fail
    refine (CQ.out w1 M1.out).mono ?_
    rintro e w2 ⟨rfl, b⟩
    have M2 : Hid (Mx w2) := M1.out.kept b
    have B2 : Hid (Below w.heap.size w w2) := B1.out.trans (b.mono B1.out.size)
    clear b
    go_wp2_with fail
    refine (awake_any w2 M2.out).mono ?_
    rintro e w3 ⟨rfl, b⟩
    have M3 : Hid (Mx w3) := M2.out.kept b
    have B3 : Hid (Below w.heap.size w w3) := B2.out.trans (b.mono B2.out.size)
    clear b
    go_wp2
    go_ret
    exact ⟨rfl, B3.out⟩
  obtain rfl : kq = 0 := Decidable.not_not.1 hq
  clear hq
  have lp := SP.out rfl
  have lq := SQ.out rfl
  have KP : Hid (∀ w, Mx w → Calls Tryd.prog 6 #[.string p] w fun e w' => e = .returned (.string (mk (kep (dl p)))) ∧ Below w.heap.size w w') := fun w hm => kept_any p w hm (by omega)
  have KQ : Hid (∀ w, Mx w → Calls Tryd.prog 6 #[.string q] w fun e w' => e = .returned (.string (mk (kep (dl q)))) ∧ Below w.heap.size w w') := fun w hm => kept_any q w hm (by omega)
  have PP : Hid (∀ w, Calls Tryd.prog 7 #[.string p] w fun e w' => e = .returned (.string (mk (par (dl p)))) ∧ w' = w) := fun w => parent_any p w (by omega)
  have RP : Hid (∀ w, Calls Tryd.prog 8 #[.string p] w fun e w' => e = .returned (.bool (res (dl p))) ∧ w' = w) := fun w => reserved_any p w
  rcases kep_cases (dl p) with hk | ⟨hk, hc, hne⟩
  ·
    rw [hk, mk_nil] at KP
    clear hk PP RP SP SQ lp lq wp wq
    generalize mk (kep (dl q)) = l at *
    go_enter Tryd.func3, Tryd.ntmps3
    go_wp2_with fail
    refine (CP.out w M0.out).mono ?_
    rintro e w1 ⟨rfl, b⟩
    have M1 : Hid (Mx w1) := M0.out.kept b
    have B1 : Hid (Below w.heap.size w w1) := B0.out.trans (b.mono B0.out.size)
    clear b
    go_wp2_with fail
    refine (CQ.out w1 M1.out).mono ?_
    rintro e w2 ⟨rfl, b⟩
    have M2 : Hid (Mx w2) := M1.out.kept b
    have B2 : Hid (Below w.heap.size w w2) := B1.out.trans (b.mono B1.out.size)
    clear b
    go_wp2_with fail
    refine (KP.out w2 M2.out).mono ?_
    rintro e w3 ⟨rfl, b⟩
    have M3 : Hid (Mx w3) := M2.out.kept b
    have B3 : Hid (Below w.heap.size w w3) := B2.out.trans (b.mono B2.out.size)
    clear b
    go_wp2_with fail
    refine (KQ.out w3 M3.out).mono ?_
    rintro e w4 ⟨rfl, b⟩
    have M4 : Hid (Mx w4) := M3.out.kept b
    have B4 : Hid (Below w.heap.size w w4) := B3.out.trans (b.mono B3.out.size)
    clear b
    go_wp2_with fail
    refine (awake_any w4 M4.out).mono ?_
    rintro e w5 ⟨rfl, b⟩
    have M5 : Hid (Mx w5) := M4.out.kept b
    have B5 : Hid (Below w.heap.size w w5) := B4.out.trans (b.mono B4.out.size)
    clear b
    go_wp2
    go_ret
    exact ⟨rfl, B5.out⟩
  · have hl : (mk (dl p ++ [126])).size ≤ 129 := by rw [mk_size, List.length_append, dl_len]; simp; omega
    have CK : Hid (∀ w, Mx w → Calls Tryd.prog 4 #[.string (mk (dl p ++ [126]))] w fun e w' => e = .returned (.int .i64 0) ∧ Below w.heap.size w w') := fun w hm => by
      have := check_any (mk (dl p ++ [126])) w hm (by unfold maxLen; omega)
      rwa [dl_mk, hc] at this
    have PK : Hid (∀ w, Calls Tryd.prog 7 #[.string (mk (dl p ++ [126]))] w fun e w' => e = .returned (.string (mk (par (dl p)))) ∧ w' = w) := fun w => by
      have := parent_any (mk (dl p ++ [126])) w (by omega)
      rwa [dl_mk, par_kep] at this
    have KK : Hid (∀ w, Mx w → Calls Tryd.prog 6 #[.string (mk (dl p ++ [126]))] w fun e w' => e = .returned (.string ⟨#[]⟩) ∧ Below w.heap.size w w') := fun w hm => by
      have := kept_any (mk (dl p ++ [126])) w hm (by omega)
      rwa [dl_mk, kep_kep, mk_nil] at this
    have RK : Hid (∀ w, Calls Tryd.prog 8 #[.string (mk (dl p ++ [126]))] w fun e w' => e = .returned (.bool (res (dl p))) ∧ w' = w) := fun w => by
      have := reserved_any (mk (dl p ++ [126])) w
      rwa [dl_mk, res_kep] at this
    have HE : ((mk (dl p ++ [126])).toList == (mk (kep (dl q))).toList) = (p.toList == q.toList) := by
      rw [tl_beq, tl_beq]
      by_cases h : p = q
      · subst h
        rw [hk]
        simp
      · have h2 : ¬ mk (dl p ++ [126]) = mk (kep (dl q)) := fun e => by
          have e2 := mk_inj e
          rcases kep_cases (dl q) with h3 | ⟨h3, _, _⟩
          · rw [h3] at e2; simp at e2
          · rw [h3] at e2
            exact h (dl_inj (List.append_inj_left' e2 rfl))
        simp [h, h2]
    have t0 : (mk (dl p ++ [126])).toList.isEmpty = false := mk_ne (by simp)
    rw [hk] at KP
    clear hk hc hne SP SQ lp lq wp wq hl
    generalize mk (kep (dl q)) = l at *
    generalize mk (dl p ++ [126]) = k at *
    generalize mk (par (dl p)) = pp at *
    generalize res (dl p) = rp at *
    go_enter Tryd.func3, Tryd.ntmps3
    go_wp2_with fail
    refine (CP.out w M0.out).mono ?_
    rintro e w1 ⟨rfl, b⟩
    have M1 : Hid (Mx w1) := M0.out.kept b
    have B1 : Hid (Below w.heap.size w w1) := B0.out.trans (b.mono B0.out.size)
    clear b
    go_wp2_with fail
    refine (CQ.out w1 M1.out).mono ?_
    rintro e w2 ⟨rfl, b⟩
    have M2 : Hid (Mx w2) := M1.out.kept b
    have B2 : Hid (Below w.heap.size w w2) := B1.out.trans (b.mono B1.out.size)
    clear b
    go_wp2_with fail
    refine (KP.out w2 M2.out).mono ?_
    rintro e w3 ⟨rfl, b⟩
    have M3 : Hid (Mx w3) := M2.out.kept b
    have B3 : Hid (Below w.heap.size w w3) := B2.out.trans (b.mono B2.out.size)
    clear b
    go_wp2_with fail
    refine (KQ.out w3 M3.out).mono ?_
    rintro e w4 ⟨rfl, b⟩
    have M4 : Hid (Mx w4) := M3.out.kept b
    have B4 : Hid (Below w.heap.size w w4) := B3.out.trans (b.mono B3.out.size)
    clear b
    go_wp2_with fail
    refine (CK.out w4 M4.out).mono ?_
    rintro e w5 ⟨rfl, b⟩
    have M5 : Hid (Mx w5) := M4.out.kept b
    have B5 : Hid (Below w.heap.size w w5) := B4.out.trans (b.mono B4.out.size)
    clear b
    go_wp2_with fail
    refine (PK.out w5).mono ?_
    rintro e wq ⟨rfl, hq⟩
    replace hq := hq.symm
    subst hq
    go_wp2_with fail
    refine (PP.out w5).mono ?_
    rintro e wq ⟨rfl, hq⟩
    replace hq := hq.symm
    subst hq
    go_wp2_with fail
    refine (KK.out w5 M5.out).mono ?_
    rintro e w6 ⟨rfl, b⟩
    have M6 : Hid (Mx w6) := M5.out.kept b
    have B6 : Hid (Below w.heap.size w w6) := B5.out.trans (b.mono B5.out.size)
    clear b
    go_wp2_with fail
    refine (RK.out w6).mono ?_
    rintro e wq ⟨rfl, hq⟩
    replace hq := hq.symm
    subst hq
    go_wp2_with fail
    refine (RP.out w6).mono ?_
    rintro e wq ⟨rfl, hq⟩
    replace hq := hq.symm
    subst hq
    go_wp2_with fail
    refine (awake_any w6 M6.out).mono ?_
    rintro e w7 ⟨rfl, b⟩
    have M7 : Hid (Mx w7) := M6.out.kept b
    have B7 : Hid (Below w.heap.size w w7) := B6.out.trans (b.mono B6.out.size)
    clear b
    go_wp2
    go_ret
    exact ⟨rfl, B7.out⟩

theorem contract (H : Type) (enc : TypeId × Value → H) (W : World) (base : Nat) (args : Array Value) (ds gs : List (DataW H)) (before : List MemPlace)
    (hval : ∀ (j : Nat) t v, Tryd.f3.params[j]? = some t → args[j]? = some v → Value.okWide Tryd.prog W .any base t v)
    (hW : DataW.Whole enc Tryd.prog Tryd.f3.params.toList Rows.pathKeptSpec.vars false W args.toList ds gs before) (_hL : laidMetH Tryd.prog Rows.pathKeptRow.laid W) (hsh : W.ShapedOpen Tryd.prog)
    (hsz0 : (DataW.weightsEach Tryd.prog (Tryd.f3.params.toList ++ Rows.pathKeptSpec.plain.varTypes Tryd.prog) (ds ++ gs)).all (· ≤ reachBytes) = true) :
    Calls Tryd.prog 3 args W fun e W' => ∃ v, e = .returned v ∧ Rows.pathKeptSpec.post enc Tryd.prog Tryd.f3 false true false false W args v W' := by
  have hW' := hW
  obtain ⟨p, q, hA0, hV, rfl, hfz, hnd⟩ := hW
  have hA : DataW.TrodAll enc Tryd.prog W 0 (fun _ => true) true Tryd.f3.params.toList args.toList ds p := hA0
  rw [Tryd.params3] at hA hval hsz0
  obtain ⟨v0, vs0, d0, ds0, p0, q0, hargs, rfl, rfl, h0, r0⟩ := trodAll_cons hA
  obtain ⟨v1, vs1, d1, ds1, p1, q1, rfl, rfl, rfl, h1, r1⟩ := trodAll_cons r0
  obtain ⟨rfl, rfl, rfl⟩ := trodAll_nil r1
  obtain rfl : args = #[v0, v1] := by cases args; simp_all
  obtain ⟨rfl, rfl⟩ := trodVars_none hV
  obtain ⟨a0, rfl, rfl, rfl, w0⟩ := open_string Tryd.underlying9 (hval 0 9 v0 rfl rfl) h0
  obtain ⟨a1, rfl, rfl, rfl, w1⟩ := open_string Tryd.underlying9 (hval 1 9 v1 rfl rfl) h1
  clear hA0
  refine (walk a0 a1 W (mx_of hsh) w0 w1).mono fun e W' ⟨he, bel⟩ => ?_
  subst he
  exact ⟨_, rfl, _, _, _, [], _, [], hW', trodAll_mk1 (shut_bool Tryd.underlying4 _), (trodAll_cons_mk (shut_string Tryd.underlying9 w0) (trodAll_cons_mk (shut_string Tryd.underlying9 w1) trodAll_mk0)), rfl, bel.frame _, fun h => by cases h⟩

theorem laid_met (os : Os) : laidMet Tryd.prog Rows.pathKeptRow.laid (({ World.holding Tryd.prog os ⟨#[], #[], []⟩ with heap := ((((World.holding Tryd.prog os ⟨#[], #[], []⟩).heap.modify 0 (fun
      | .cells _ t frozen => .cells #[.int .i64 0] t frozen
      | o => o)).modify 1 (fun
      | .cells _ t frozen => .cells firstCells t frozen
      | o => o)).modify 2 (fun
      | .cells _ t frozen => .cells rangeCells t frozen
      | o => o)) } : World).forCall (fun _ _ => 0) ⟨#[], #[.string ⟨#[]⟩, .string ⟨#[]⟩], []⟩).memory :=
  laidMet_of_run' 8 (by kernel_rfl) (by kernel_rfl)
theorem reads (os : Os) {H : Type} (enc : TypeId × Value → H) : ∃ places, DataW.whole enc Tryd.prog (({ World.holding Tryd.prog os ⟨#[], #[], []⟩ with heap := ((((World.holding Tryd.prog os ⟨#[], #[], []⟩).heap.modify 0 (fun
      | .cells _ t frozen => .cells #[.int .i64 0] t frozen
      | o => o)).modify 1 (fun
      | .cells _ t frozen => .cells firstCells t frozen
      | o => o)).modify 2 (fun
      | .cells _ t frozen => .cells rangeCells t frozen
      | o => o)) } : World).forCall (fun _ _ => 0) ⟨#[], #[.string ⟨#[]⟩, .string ⟨#[]⟩], []⟩).memory Tryd.f3.params.toList Rows.pathKeptSpec.vars false #[Value.string ⟨#[]⟩, .string ⟨#[]⟩].toList 8 = some ([.lit (.string []), .lit (.string [])], [], places) :=
  ⟨[], by kernel_rfl⟩

set_option maxRecDepth 100000 in
theorem lifted (os : Os) (started : os.Started) (H : Type) (enc : TypeId × Value → H) (F : Stop.Interp) :
    ReturnsInHanded {} Tryd.checked os 3 .any ((OpenSpec.ofChange Rows.pathKeptSpec).preRow enc Tryd.prog Tryd.f3 Rows.pathKeptRow.domain false Rows.pathKeptRow.laid) (((OpenSpec.ofChange Rows.pathKeptSpec).at F).post enc Tryd.prog Tryd.f3 false true false false) := by
  obtain ⟨places, hx⟩ := reads os enc
  refine returnsInHanded_of_row (C := Tryd.checked) (s := OpenSpec.ofChange Rows.pathKeptSpec) own started (by kernel_rfl) Tryd.func3
    (witness_row_at (enc := enc) (C := Tryd.checked) false ({ World.holding Tryd.prog os ⟨#[], #[], []⟩ with heap := ((((World.holding Tryd.prog os ⟨#[], #[], []⟩).heap.modify 0 (fun
      | .cells _ t frozen => .cells #[.int .i64 0] t frozen
      | o => o)).modify 1 (fun
      | .cells _ t frozen => .cells firstCells t frozen
      | o => o)).modify 2 (fun
      | .cells _ t frozen => .cells rangeCells t frozen
      | o => o)) } : World) #[.string ⟨#[]⟩, .string ⟨#[]⟩] rfl (by kernel_rfl) (by kernel_rfl) (by kernel_rfl)
      (OpenSpec.preRow_of_cond 8 hx (by kernel_rfl) (fun k hk => by cases hk) (by kernel_rfl) (laid_met os))) ?_
  intro W base args ds gs before hval hW _ _ hsz hL hsh _
  exact contract H enc W base args ds gs before hval hW hL hsh hsz

theorem said : Rows.PathKeptSaid :=
  OpenClaim.holds_of_cond 3 Tryd.f3 rfl rfl rfl rfl rfl rfl rfl ⟨rfl, rfl, rfl, rfl, rfl⟩ rfl rfl rfl rfl rfl (by kernel_rfl) Tryd.func3 (by kernel_rfl)
    (of_decide_eq_true (by kernel_rfl)) (by unfold Func.isWrapper; first | (rw [if_pos (by decide +kernel)]; kernel_rfl) | (rw [if_neg (by decide +kernel)]; exact ⟨rfl, rfl⟩))
    (fun os started H enc _ F => by rw [OpenClaim.pre_eq_preRow]; exact lifted os started H enc F)

theorem plain (f : FuncId) (fn : Func) (hf : Tryd.pinned.checked.prog.funcNamed "sumpter/sumpterlaw07.PathKept" = some f) (hfn : Tryd.pinned.checked.prog.funcs[f]? = some fn) :
    false = Tryd.pinned.checked.prog.looks [] ∧ ∀ (j : Nat) t, fn.params[j]? = some t → Tryd.pinned.checked.prog.wantsStandIn t = false := by
  obtain rfl : f = 3 := Option.some.inj ((show Tryd.prog.funcNamed "sumpter/sumpterlaw07.PathKept" = some 3 by kernel_rfl).symm.trans hf) |>.symm
  obtain rfl : fn = Tryd.f3 := (Option.some.inj (Tryd.func3.symm.trans hfn)).symm
  refine ⟨by kernel_rfl, fun j t ht => ?_⟩
  rw [Tryd.params3] at ht
  have hm : t ∈ [9, 9] := by simpa using Array.mem_of_getElem? ht
  have hall : ([9, 9].all fun u => !Tryd.prog.wantsStandIn u) = true := by kernel_rfl
  exact (show Tryd.prog.wantsStandIn t = false by simpa using List.all_eq_true.1 hall t hm)
end Go.Proofs.YtgppjbfmpjabcabDoor.pathKept

namespace Go.Proofs.YtgppjbfmpjabcabDoor
/-- The card of PathKept. -/
theorem pathKept_card : Rows.PathKeptCardSaid :=
  Claim7.holds_tied_plain_at .later [] _ _ _ _ pathKept.said (fun _ h => by cases h) (by kernel_rfl) (fun _ h => by cases h) pathKept_row_tie rfl ⟨rfl, rfl⟩ (by kernel_rfl) rfl pathKept.plain (by kernel_rfl)
#print axioms pathKept_card
end Go.Proofs.YtgppjbfmpjabcabDoor
