/-
  A path's names, joined, are the path; it is its parent's and its last name; each name of it is a name: for every text, no condition.
-/
import Derived.Test.YtgppjbfmpjabcaaDoorFr
import Derived.Test.YtgppjbfmpjabcaaDoorJn
import Derived.Deep.RegionHeld3
namespace Go.Proofs.YtgppjbfmpjabcaaDoor.pathBack
open Go.ChangeShapes Go.WideShapes Go.ChangeAt Go.RowKit Go.Deep Go.ChangeMaps

theorem chk_small {l : List UInt8} (h : chk l = 0) : l.length ≤ 128 := by
  rcases Nat.lt_or_ge 128 l.length with h' | h'
  · rw [chk_long l h'] at h; cases h
  · exact h'
theorem chk_names {l : List UInt8} (h : chk l = 0) : l ≠ [] ∧ ∀ x ∈ spl l, nameB x = true := by
  refine ⟨fun e => ?_, ?_⟩
  · subst e
    rw [chk_nil] at h
    cases h
  · unfold chk at h
    split at h
    · cases h
    · split at h
      · cases h
      · split at h
        · cases h
        · rename_i _ _ h3
          have h4 : (spl l).all nameB = true := by
            cases hb : (spl l).all nameB with
            | true => rfl
            | false => exact absurd hb h3
          exact List.all_eq_true.1 h4
/-- A path is its parent's names and its last one. -/
theorem spl_last (l : List UInt8) (h : l ≠ []) : spl l = parts l ∧ ((parts l).getD ((parts l).length - 1) [] = bas l ∧ joi ((parts l).take ((parts l).length - 1)) = par l) := by
  refine ⟨by unfold spl; rw [if_neg h], ?_⟩
  rcases par_bas l with ⟨_, h2, h3, h4⟩ | ⟨_, h2, h3⟩
  · rw [parts_none l h2, h3, h4]
    exact ⟨rfl, rfl⟩
  · have e : parts l = parts (par l) ++ [bas l] := by
      conv => lhs; rw [h2]
      rw [parts_app, parts_none _ h3]
    have hl : (parts l).length - 1 = (parts (par l)).length := by rw [e]; simp
    rw [hl, e]
    refine ⟨by simp [List.getD], ?_⟩
    rw [List.take_left', joi_parts]
    rfl
theorem und_par (l : List UInt8) (h : l ≠ []) : und l (par l) = true := by
  unfold und
  rcases par_bas l with ⟨_, _, h3, _⟩ | ⟨_, h2, _⟩
  · rw [if_pos h3]
    simp [h]
  · split
    · simp [h]
    · rw [List.isPrefixOf_iff_prefix]
      refine ⟨bas l, ?_⟩
      conv => rhs; rw [h2]
      simp
theorem ss_take {w : World} {a : Option Addr} {n c : Nat} {xs : List ByteArray} (h : SS w (.slice a n c) xs) (m : Nat) (hm : m ≤ n) : SS w (.slice a m c) (xs.take m) := by
  obtain ⟨a', c', h1, h2, h3⟩ := h
  cases h1
  have hl : (xs.take m).length = m := by rw [List.length_take]; omega
  refine ⟨a, c, by rw [hl], by omega, ?_⟩
  rcases h3 with h3 | ⟨b, off, h4, h5⟩
  · subst h3; exact .inl (by simp)
  · refine .inr ⟨b, off, h4, fun i x hx => h5 i x ?_⟩
    rw [List.getElem?_take] at hx
    split at hx
    · exact hx
    · cases hx

set_option maxHeartbeats 4000000 in
theorem walk (p : ByteArray) (w : World) (hw : Mx w) (wp : p.size ≤ maxLen) :
    Calls Tryd.prog 6 #[.string p] w fun e w' => e = .returned (.bool true) ∧ Below w.heap.size w w' := by
  have M0 : Hid (Mx w) := hw
  have B0 : Hid (Below w.heap.size w w) := Below.refl _ _
  have CP : Hid (∀ w, Mx w → Calls Tryd.prog 12 #[.string p] w fun e w' => e = .returned (.int .i64 (chk (dl p))) ∧ Below w.heap.size w w') := fun w hm => check_any p w hm wp
  have SP : Hid (chk (dl p) = 0 → p.size ≤ 128 ∧ dl p ≠ [] ∧ ∀ x ∈ spl (dl p), nameB x = true) := fun h => ⟨chk_small h, chk_names h⟩
  generalize chk (dl p) = kp at *
  clear hw
  by_cases hp : kp ≠ 0
  · have tp : (kp == 0) = false := by simp [hp]
    go_enter Tryd.func6, Tryd.ntmps6
    go_wp2_with fail
    refine (CP.out w M0.out).mono ?_
    rintro e w1 ⟨rfl, b⟩
    have M1 : Hid (Mx w1) := M0.out.kept b
    have B1 : Hid (Below w.heap.size w w1) := B0.out.trans (b.mono B0.out.size)
    clear b
    go_wp2_with fail
    refine (awake_any w1 M1.out).mono ?_
    rintro e w2 ⟨rfl, b⟩
    have M2 : Hid (Mx w2) := M1.out.kept b
    have B2 : Hid (Below w.heap.size w w2) := B1.out.trans (b.mono B1.out.size)
    clear b
    go_wp2
    go_ret
    exact ⟨rfl, B2.out⟩
  obtain rfl : kp = 0 := Decidable.not_not.1 hp
  clear hp
  obtain ⟨hsz, hne, hnm⟩ := SP.out rfl
  have C1 : Hid (∀ w, Mx w → Calls Tryd.prog 18 #[.string p] w fun e w' => ∃ v, e = .returned v ∧ SS w' v (sps p) ∧ Below w.heap.size w w') := fun w hm => split_any p w hm (by omega)
  have P1 : Hid (∀ w, Calls Tryd.prog 22 #[.string p] w fun e w' => e = .returned (.string (mk (par (dl p)))) ∧ w' = w) := fun w => parent_any p w (by omega)
  have Q1 : Hid (∀ w, Calls Tryd.prog 24 #[.string p] w fun e w' => e = .returned (.string (mk (bas (dl p)))) ∧ w' = w) := fun w => base_any p w (by omega)
  have U1 : Hid (∀ w, Calls Tryd.prog 26 #[.string p, .string (mk (par (dl p)))] w fun e w' => e = .returned (.bool true) ∧ w' = w) := fun w => by
    have hl : (par (dl p)).length ≤ p.size := by
      rcases par_bas (dl p) with ⟨_, _, h3, _⟩ | ⟨_, h2, _⟩
      · rw [h3]; simp
      · rw [← dl_len]
        conv => rhs; rw [h2]
        rw [List.length_append]
        omega
    have := under_any p (mk (par (dl p))) w (by rw [mk_size]; omega)
    rwa [dl_mk, und_par _ hne] at this
  have hln : (sps p).length = (parts (dl p)).length := by rw [sps_len, (spl_last _ hne).1]
  obtain ⟨n, hn⟩ : ∃ n, n = (sps p).length := ⟨_, rfl⟩
  have hn0 : 0 < n := by
    rw [hn, hln]
    exact List.length_pos_iff.2 (parts_ne _)
  have hn1 : n ≤ 129 := by
    have := spl_len (dl p)
    rw [dl_len] at this
    rw [hn, sps_len]
    omega
  obtain ⟨m, hm⟩ : ∃ m, m = n - 1 := ⟨_, rfl⟩
  have HLAST : Hid ((sps p).getD m ⟨#[]⟩ = mk (bas (dl p))) := by
    unfold Hid
    apply dl_inj
    rw [sps_get, dl_mk, hm, hn, hln, (spl_last _ hne).1]
    exact (spl_last _ hne).2.1
  have J1 : Hid (∀ w v, SS w v (sps p) → Calls Tryd.prog 20 #[v] w fun e w' => e = .returned (.string p) ∧ Below w.heap.size w w') := fun w v hs => by
    have h1 : joi ((sps p).map dl) = dl p := by rw [sps_dl, joi_spl]
    have := join_any v (sps p) w hs (by omega) (by rw [h1, dl_len]; omega)
    rwa [h1, mk_dl] at this
  have J2 : Hid (∀ w v, SS w v ((sps p).take m) → Calls Tryd.prog 20 #[v] w fun e w' => e = .returned (.string (mk (par (dl p)))) ∧ Below w.heap.size w w') := fun w v hs => by
    have h1 : joi (((sps p).take m).map dl) = par (dl p) := by
      rw [List.map_take, sps_dl, hm, hn, hln, (spl_last _ hne).1]
      exact (spl_last _ hne).2.2
    have hl : (par (dl p)).length ≤ p.size := by
      rcases par_bas (dl p) with ⟨_, _, h3, _⟩ | ⟨_, h2, _⟩
      · rw [h3]; simp
      · rw [← dl_len]
        conv => rhs; rw [h2]
        rw [List.length_append]
        omega
    have := join_any v ((sps p).take m) w hs (by rw [List.length_take]; omega) (by rw [h1]; omega)
    rwa [h1] at this
  have HNM : Hid (∀ (w : World) (j : Nat), j < n → Calls Tryd.prog 10 #[.string ((sps p).getD j ⟨#[]⟩)] w fun e w' => e = .returned (.bool true) ∧ w' = w) := fun w j hj => by
    have := name_any ((sps p).getD j ⟨#[]⟩) w (by have := sps_size p j; omega)
    have h2 : nameB ((spl (dl p)).getD j []) = true := by
      have hj2 : j < (spl (dl p)).length := by rw [← sps_len, ← hn]; exact hj
      have := hnm _ (List.getElem_mem hj2)
      simpa [List.getD, hj2] using this
    rwa [sps_get, h2] at this
  have HN : Hid (n = (sps p).length) := hn
  have q1 : IntKind.i64.wrap ((n : Int) - 1) = (m : Int) := by simp [IntKind.wrap, IntKind.bits, IntKind.signed]; omega
  have hmn : m < n := by omega
  have h0' : ((n : Int) == 0) = false := by simp; omega
  have g0 : (0 : Int) ≤ (m : Int) := by omega
  have te : (p.toList == p.toList) = true := by simp
  generalize mk (par (dl p)) = pp at *
  generalize mk (bas (dl p)) = bb at *
  generalize sps p = ps at *
  clear SP hne hnm hln hn hm
  go_enter Tryd.func6, Tryd.ntmps6
  go_wp2_with fail
  refine (CP.out w M0.out).mono ?_
  rintro e w1 ⟨rfl, b⟩
  have M1 : Hid (Mx w1) := M0.out.kept b
  have B1 : Hid (Below w.heap.size w w1) := B0.out.trans (b.mono B0.out.size)
  clear b
  go_wp2_with fail
  refine (C1.out w1 M1.out).mono ?_
  rintro e w2 ⟨v, rfl, s2, b2⟩
  have M2 : Hid (Mx w2) := M1.out.kept b2
  have B2 : Hid (Below w.heap.size w w2) := B1.out.trans (b2.mono B1.out.size)
  have S2 : Hid (SS w2 v ps) := s2
  obtain ⟨a, c, rfl, hc⟩ := s2.shape
  rw [← HN.out] at S2 hc ⊢
  clear s2 b2
  have g1 : (m : Int) ≤ (c : Int) := by omega
  obtain ⟨b, off, rfl, kc⟩ := S2.out.at m (by rw [← HN.out]; exact hmn)
  rw [HLAST.out] at kc
  have HK : Hid (∀ W, Below w2.heap.size w2 W → W.cell? ⟨b, off + m, none⟩ = some (.string bb)) := fun W hW => (hW.cell (World.block_lt_of_cell? _ _ kc)).trans kc
  have JA : Hid (∀ W, Below w2.heap.size w2 W → Calls Tryd.prog 20 #[.slice (some ⟨b, off, none⟩) n c] W fun e w' => e = .returned (.string p) ∧ Below W.heap.size W w') := fun W hW => J1.out W _ (S2.out.kept hW)
  have JB : Hid (∀ W, Below w2.heap.size w2 W → Calls Tryd.prog 20 #[.slice (some ⟨b, off, none⟩) m c] W fun e w' => e = .returned (.string pp) ∧ Below W.heap.size W w') := fun W hW => J2.out W _ (ss_take (S2.out.kept hW) m (by omega))
  have k0 := HK.out w2 (Below.refl _ _)
  have kd := HK.out w2.drew (Below.refl _ _).drew
  have tb : (bb.toList == bb.toList) = true := by simp
  have tp : (pp.toList == pp.toList) = true := by simp
  clear J1 J2 kc C1 CP
  go_wp2_with fail
  go_region_held3 (fun W => W.cell? ⟨b, off + m, none⟩ = some (.string bb)) (first | exact k0 | exact kd | exact k5 | exact k6) (first
    | (go_at_call_of 20 (Value.slice (some ⟨b, off, none⟩) n c); refine (JA.out _ (Below.refl _ _).drew).mono ?_; rintro e w5 ⟨rfl, b5⟩; have d5 : Below w2.heap.size w2 w5 := (Below.refl w2.heap.size w2).drew.trans b5; have k5 := HK.out w5 d5)
    | (go_at_call 24; refine (Q1.out _).mono ?_; rintro e wq ⟨rfl, hq⟩; replace hq := hq.symm; subst hq)
    | (go_at_call_of 20 (Value.slice (some ⟨b, off, none⟩) m c); refine (JB.out _ d5).mono ?_; rintro e w6 ⟨rfl, b6⟩; have d6 : Below w2.heap.size w2 w6 := d5.trans (b6.mono d5.size); have k6 := HK.out w6 d6)
    | (go_at_call 22; refine (P1.out _).mono ?_; rintro e wq ⟨rfl, hq⟩; replace hq := hq.symm; subst hq))
  have M6 : Hid (Mx w6) := M2.out.kept d6
  have B6 : Hid (Below w.heap.size w w6) := B2.out.trans (d6.mono B2.out.size)
  have S6 : Hid (SS w6 (.slice (some ⟨b, off, none⟩) n c) ps) := S2.out.kept d6
  clear JA JB HK k0 kd k5 k6 b5 b6 d5 d6 S2 M1 M2 B1 B2 HLAST
  go_wp2_with fail
  go_loop [4] (fun q => ∃ j : Nat, j ≤ n ∧ q = .int .i64 j) (fun q => n - (intOf q).toNat)
  case atStart => exact ⟨0, by omega, rfl⟩
  case round =>
    obtain ⟨j, hj, rfl⟩ := hrel
    by_cases hlt : j < n
    · have lt2 : (j : Int) < (n : Int) := by omega
      obtain ⟨b', off', ha, hc'⟩ := S6.out.at j (by rw [← HN.out]; exact hlt)
      cases ha
      have cn := HNM.out w6 j hlt
      have q2 : IntKind.i64.wrap ((j : Int) + 1) = ((j + 1 : Nat) : Int) := by simp [IntKind.wrap, IntKind.bits, IntKind.signed]; omega
      generalize ps.getD j ⟨#[]⟩ = x at *
      go_wp2_with (go_at_call 10; refine cn.mono ?_; rintro e w' ⟨rfl, rfl⟩)
      exact ⟨⟨j + 1, by omega, by go_num⟩, by simp [intOf]; omega⟩
    · obtain rfl : j = n := by omega
      clear HNM S6
      go_wp2_with fail
      refine (P1.out w6).mono ?_
      rintro e wq ⟨rfl, hq⟩
      replace hq := hq.symm
      subst hq
      go_wp2_with fail
      refine (U1.out w6).mono ?_
      rintro e wq ⟨rfl, hq⟩
      replace hq := hq.symm
      subst hq
      go_wp2_with fail
      refine (awake_any w6 M6.out).mono ?_
      rintro e w7 ⟨rfl, b⟩
      have M7 : Hid (Mx w7) := M6.out.kept b
      have B7 : Hid (Below w.heap.size w w7) := B6.out.trans (b.mono B6.out.size)
      clear b
      go_wp2
      go_ret
      exact ⟨rfl, B7.out⟩

theorem contract (H : Type) (enc : TypeId × Value → H) (W : World) (base : Nat) (args : Array Value) (ds gs : List (DataW H)) (before : List MemPlace)
    (hval : ∀ (j : Nat) t v, Tryd.f6.params[j]? = some t → args[j]? = some v → Value.okWide Tryd.prog W .any base t v)
    (hW : DataW.Whole enc Tryd.prog Tryd.f6.params.toList Rows.pathBackSpec.vars false W args.toList ds gs before) (_hL : laidMetH Tryd.prog Rows.pathBackRow.laid W) (hsh : W.ShapedOpen Tryd.prog)
    (hsz0 : (DataW.weightsEach Tryd.prog (Tryd.f6.params.toList ++ Rows.pathBackSpec.plain.varTypes Tryd.prog) (ds ++ gs)).all (· ≤ reachBytes) = true) :
    Calls Tryd.prog 6 args W fun e W' => ∃ v, e = .returned v ∧ Rows.pathBackSpec.post enc Tryd.prog Tryd.f6 false true false false W args v W' := by
  have hW' := hW
  obtain ⟨p, q, hA0, hV, rfl, hfz, hnd⟩ := hW
  have hA : DataW.TrodAll enc Tryd.prog W 0 (fun _ => true) true Tryd.f6.params.toList args.toList ds p := hA0
  rw [Tryd.params6] at hA hval hsz0
  obtain ⟨v0, vs0, d0, ds0, p0, q0, hargs, rfl, rfl, h0, r0⟩ := trodAll_cons hA
  obtain ⟨rfl, rfl, rfl⟩ := trodAll_nil r0
  obtain rfl : args = #[v0] := by cases args; simp_all
  obtain ⟨rfl, rfl⟩ := trodVars_none hV
  obtain ⟨a0, rfl, rfl, rfl, w0⟩ := open_string Tryd.underlying9 (hval 0 9 v0 rfl rfl) h0
  clear hA0
  refine (walk a0 W (mx_of hsh) w0).mono fun e W' ⟨he, bel⟩ => ?_
  subst he
  exact ⟨_, rfl, _, _, _, [], _, [], hW', trodAll_mk1 (shut_bool Tryd.underlying4 _), (trodAll_cons_mk (shut_string Tryd.underlying9 w0) trodAll_mk0), rfl, bel.frame _, fun h => by cases h⟩

theorem laid_met (os : Os) : laidMet Tryd.prog Rows.pathBackRow.laid (({ World.holding Tryd.prog os ⟨#[], #[], []⟩ with heap := ((((World.holding Tryd.prog os ⟨#[], #[], []⟩).heap.modify 0 (fun
      | .cells _ t frozen => .cells #[.int .i64 0] t frozen
      | o => o)).modify 1 (fun
      | .cells _ t frozen => .cells firstCells t frozen
      | o => o)).modify 2 (fun
      | .cells _ t frozen => .cells rangeCells t frozen
      | o => o)) } : World).forCall (fun _ _ => 0) ⟨#[], #[.string ⟨#[]⟩], []⟩).memory :=
  laidMet_of_run' 8 (by kernel_rfl) (by kernel_rfl)
theorem reads (os : Os) {H : Type} (enc : TypeId × Value → H) : ∃ places, DataW.whole enc Tryd.prog (({ World.holding Tryd.prog os ⟨#[], #[], []⟩ with heap := ((((World.holding Tryd.prog os ⟨#[], #[], []⟩).heap.modify 0 (fun
      | .cells _ t frozen => .cells #[.int .i64 0] t frozen
      | o => o)).modify 1 (fun
      | .cells _ t frozen => .cells firstCells t frozen
      | o => o)).modify 2 (fun
      | .cells _ t frozen => .cells rangeCells t frozen
      | o => o)) } : World).forCall (fun _ _ => 0) ⟨#[], #[.string ⟨#[]⟩], []⟩).memory Tryd.f6.params.toList Rows.pathBackSpec.vars false #[Value.string ⟨#[]⟩].toList 8 = some ([.lit (.string [])], [], places) :=
  ⟨[], by kernel_rfl⟩

set_option maxRecDepth 100000 in
theorem lifted (os : Os) (started : os.Started) (H : Type) (enc : TypeId × Value → H) (F : Stop.Interp) :
    ReturnsInHanded {} Tryd.checked os 6 .any ((OpenSpec.ofChange Rows.pathBackSpec).preRow enc Tryd.prog Tryd.f6 Rows.pathBackRow.domain false Rows.pathBackRow.laid) (((OpenSpec.ofChange Rows.pathBackSpec).at F).post enc Tryd.prog Tryd.f6 false true false false) := by
  obtain ⟨places, hx⟩ := reads os enc
  refine returnsInHanded_of_row (C := Tryd.checked) (s := OpenSpec.ofChange Rows.pathBackSpec) own started (by kernel_rfl) Tryd.func6
    (witness_row_at (enc := enc) (C := Tryd.checked) false ({ World.holding Tryd.prog os ⟨#[], #[], []⟩ with heap := ((((World.holding Tryd.prog os ⟨#[], #[], []⟩).heap.modify 0 (fun
      | .cells _ t frozen => .cells #[.int .i64 0] t frozen
      | o => o)).modify 1 (fun
      | .cells _ t frozen => .cells firstCells t frozen
      | o => o)).modify 2 (fun
      | .cells _ t frozen => .cells rangeCells t frozen
      | o => o)) } : World) #[.string ⟨#[]⟩] rfl (by kernel_rfl) (by kernel_rfl) (by kernel_rfl)
      (OpenSpec.preRow_of_cond 8 hx (by kernel_rfl) (fun k hk => by cases hk) (by kernel_rfl) (laid_met os))) ?_
  intro W base args ds gs before hval hW _ _ hsz hL hsh _
  exact contract H enc W base args ds gs before hval hW hL hsh hsz

theorem said : Rows.PathBackSaid :=
  OpenClaim.holds_of_cond 6 Tryd.f6 rfl rfl rfl rfl rfl rfl rfl ⟨rfl, rfl, rfl, rfl, rfl⟩ rfl rfl rfl rfl rfl (by kernel_rfl) Tryd.func6 (by kernel_rfl)
    (of_decide_eq_true (by kernel_rfl)) (by unfold Func.isWrapper; first | (rw [if_pos (by decide +kernel)]; kernel_rfl) | (rw [if_neg (by decide +kernel)]; exact ⟨rfl, rfl⟩))
    (fun os started H enc _ F => by rw [OpenClaim.pre_eq_preRow]; exact lifted os started H enc F)

theorem plain (f : FuncId) (fn : Func) (hf : Tryd.pinned.checked.prog.funcNamed "sumpter/sumpterlaw07.PathBack" = some f) (hfn : Tryd.pinned.checked.prog.funcs[f]? = some fn) :
    false = Tryd.pinned.checked.prog.looks [] ∧ ∀ (j : Nat) t, fn.params[j]? = some t → Tryd.pinned.checked.prog.wantsStandIn t = false := by
  obtain rfl : f = 6 := Option.some.inj ((show Tryd.prog.funcNamed "sumpter/sumpterlaw07.PathBack" = some 6 by kernel_rfl).symm.trans hf) |>.symm
  obtain rfl : fn = Tryd.f6 := (Option.some.inj (Tryd.func6.symm.trans hfn)).symm
  refine ⟨by kernel_rfl, fun j t ht => ?_⟩
  rw [Tryd.params6] at ht
  have hm : t ∈ [9] := by simpa using Array.mem_of_getElem? ht
  have hall : ([9].all fun u => !Tryd.prog.wantsStandIn u) = true := by kernel_rfl
  exact (show Tryd.prog.wantsStandIn t = false by simpa using List.all_eq_true.1 hall t hm)
end Go.Proofs.YtgppjbfmpjabcaaDoor.pathBack

namespace Go.Proofs.YtgppjbfmpjabcaaDoor
/-- The card of PathBack. -/
theorem pathBack_card : Rows.PathBackCardSaid :=
  Claim7.holds_tied_plain_at .later [] _ _ _ _ pathBack.said (fun _ h => by cases h) (by kernel_rfl) (fun _ h => by cases h) pathBack_row_tie rfl ⟨rfl, rfl⟩ (by kernel_rfl) rfl pathBack.plain (by kernel_rfl)
#print axioms pathBack_card
end Go.Proofs.YtgppjbfmpjabcaaDoor
