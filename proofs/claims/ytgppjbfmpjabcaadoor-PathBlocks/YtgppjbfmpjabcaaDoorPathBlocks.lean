/-
  What stands between a directory and something under it is under it, too: for every three texts, no condition.
-/
import Derived.Test.YtgppjbfmpjabcaaDoorFr
namespace Go.Proofs.YtgppjbfmpjabcaaDoor.pathBlocks
open Go.ChangeShapes Go.WideShapes Go.ChangeAt Go.RowKit Go.Deep Go.ChangeMaps

theorem chk_small {l : List UInt8} (h : chk l = 0) : l.length ≤ 128 := by
  rcases Nat.lt_or_ge 128 l.length with h' | h'
  · rw [chk_long l h'] at h; cases h
  · exact h'
theorem chk_some {l : List UInt8} (h : chk l = 0) : l ≠ [] := by
  rintro rfl
  rw [chk_nil] at h
  cases h
theorem und_parts {q d : List UInt8} (hd : d ≠ []) (h : und q d = true) : ∃ e, e ≠ [] ∧ spl q = spl d ++ e := by
  unfold und at h
  rw [if_neg hd, List.isPrefixOf_iff_prefix] at h
  obtain ⟨r, hr⟩ := h
  have e1 : q = d ++ 47 :: r := by rw [← hr]; simp
  refine ⟨parts r, parts_ne r, ?_⟩
  unfold spl
  rw [if_neg hd, if_neg (by rw [e1]; simp), e1, parts_app]
theorem parts_und {p d : List UInt8} (hd : d ≠ []) {t : List (List UInt8)} (ht : t ≠ []) (h : spl p = spl d ++ t) : und p d = true := by
  have hsd : spl d ≠ [] := fun e => hd ((spl_nil_iff d).1 e)
  have e1 : p = d ++ 47 :: joi t := by
    rw [← joi_spl p, h, joi_app _ _ hsd ht, joi_spl]
  unfold und
  rw [if_neg hd, List.isPrefixOf_iff_prefix]
  exact ⟨joi t, by rw [e1]; simp⟩
theorem blocks (d p q : List UInt8) (hd : d ≠ []) (h : und q d = true) : les d q = true ∧ (les d p = true → les p q = true → und p d = true) := by
  obtain ⟨e, he, hq⟩ := und_parts hd h
  unfold les
  rw [hq]
  refine ⟨ltL_app _ _ he, fun h1 h2 => ?_⟩
  obtain ⟨t, ht, hp⟩ := ltL_between _ _ _ h1 h2
  exact parts_und hd ht hp

set_option maxHeartbeats 2000000 in
theorem walk (d p q : ByteArray) (w : World) (hw : Mx w) (wd : d.size ≤ maxLen) (wp : p.size ≤ maxLen) (wq : q.size ≤ maxLen) :
    Calls Tryd.prog 8 #[.string d, .string p, .string q] w fun e w' => e = .returned (.bool true) ∧ Below w.heap.size w w' := by
  have M0 : Hid (Mx w) := hw
  have B0 : Hid (Below w.heap.size w w) := Below.refl _ _
  have CD : Hid (∀ w, Mx w → Calls Tryd.prog 12 #[.string d] w fun e w' => e = .returned (.int .i64 (chk (dl d))) ∧ Below w.heap.size w w') := fun w hm => check_any d w hm wd
  have CP : Hid (∀ w, Mx w → Calls Tryd.prog 12 #[.string p] w fun e w' => e = .returned (.int .i64 (chk (dl p))) ∧ Below w.heap.size w w') := fun w hm => check_any p w hm wp
  have CQ : Hid (∀ w, Mx w → Calls Tryd.prog 12 #[.string q] w fun e w' => e = .returned (.int .i64 (chk (dl q))) ∧ Below w.heap.size w w') := fun w hm => check_any q w hm wq
  have SD : Hid (chk (dl d) = 0 → d.size ≤ 128 ∧ dl d ≠ []) := fun h => ⟨chk_small h, chk_some h⟩
  have SP : Hid (chk (dl p) = 0 → p.size ≤ 128) := fun h => chk_small h
  have SQ : Hid (chk (dl q) = 0 → q.size ≤ 128) := fun h => chk_small h
  generalize chk (dl d) = kd at *
  generalize chk (dl p) = kp at *
  generalize chk (dl q) = kq at *
  clear hw
  by_cases hd : kd ≠ 0
  · have td : (kd == 0) = false := by simp [hd]
    go_enter Tryd.func8, Tryd.ntmps8
    go_wp2_with fail
    refine (CD.out w M0.out).mono ?_
    rintro e w1 ⟨rfl, b⟩
    have M1 : Hid (Mx w1) := M0.out.kept b
    have B1 : Hid (Below w.heap.size w w1) := B0.out.trans (b.mono B0.out.size)
    clear b
    go_wp2_with fail
    refine (awake_any w1 M1.out).mono ?_
    rintro e w2 ⟨rfl, b⟩
    have M2 : Hid (Mx w2) := M1.out.kept b
    have B2 : Hid (Below w.heap.size w w2) := B1.out.trans (b.mono B1.out.size)
    clear b
    go_wp2
    go_ret
    exact ⟨rfl, B2.out⟩
  obtain rfl : kd = 0 := Decidable.not_not.1 hd
  clear hd
  by_cases hp : kp ≠ 0
  · have tp : (kp == 0) = false := by simp [hp]
    go_enter Tryd.func8, Tryd.ntmps8
    go_wp2_with fail
    refine (CD.out w M0.out).mono ?_
    rintro e w1 ⟨rfl, b⟩
    have M1 : Hid (Mx w1) := M0.out.kept b
    have B1 : Hid (Below w.heap.size w w1) := B0.out.trans (b.mono B0.out.size)
    clear b
    go_wp2_with fail
    refine (CP.out w1 M1.out).mono ?_
    rintro e w2 ⟨rfl, b⟩
    have M2 : Hid (Mx w2) := M1.out.kept b
    have B2 : Hid (Below w.heap.size w w2) := B1.out.trans (b.mono B1.out.size)
    clear b
    go_wp2_with fail
    refine (awake_any w2 M2.out).mono ?_
    rintro e w3 ⟨rfl, b⟩
    have M3 : Hid (Mx w3) := M2.out.kept b
    have B3 : Hid (Below w.heap.size w w3) := B2.out.trans (b.mono B2.out.size)
    clear b
    go_wp2
    go_ret
    exact ⟨rfl, B3.out⟩
  obtain rfl : kp = 0 := Decidable.not_not.1 hp
  clear hp
  by_cases hq : kq ≠ 0
  · have tq : (kq == 0) = false := by simp [hq]
    go_enter Tryd.func8, Tryd.ntmps8
    go_wp2_with fail
    refine (CD.out w M0.out).mono ?_
    rintro e w1 ⟨rfl, b⟩
    have M1 : Hid (Mx w1) := M0.out.kept b
    have B1 : Hid (Below w.heap.size w w1) := B0.out.trans (b.mono B0.out.size)
    clear b
    go_wp2_with fail
    refine (CP.out w1 M1.out).mono ?_
    rintro e w2 ⟨rfl, b⟩
    have M2 : Hid (Mx w2) := M1.out.kept b
    have B2 : Hid (Below w.heap.size w w2) := B1.out.trans (b.mono B1.out.size)
    clear b
    go_wp2_with fail
    refine (CQ.out w2 M2.out).mono ?_
    rintro e w3 ⟨rfl, b⟩
    have M3 : Hid (Mx w3) := M2.out.kept b
    have B3 : Hid (Below w.heap.size w w3) := B2.out.trans (b.mono B2.out.size)
    clear b
    go_wp2_with fail
    refine (awake_any w3 M3.out).mono ?_
    rintro e w4 ⟨rfl, b⟩
    have M4 : Hid (Mx w4) := M3.out.kept b
    have B4 : Hid (Below w.heap.size w w4) := B3.out.trans (b.mono B3.out.size)
    clear b
    go_wp2
    go_ret
    exact ⟨rfl, B4.out⟩
  obtain rfl : kq = 0 := Decidable.not_not.1 hq
  clear hq
  obtain ⟨ld, hd⟩ := SD.out rfl
  have lp := SP.out rfl
  have lq := SQ.out rfl
  have UQ : Hid (∀ w, Calls Tryd.prog 26 #[.string q, .string d] w fun e w' => e = .returned (.bool (und (dl q) (dl d))) ∧ w' = w) := fun w => under_any q d w (by omega)
  have UP : Hid (∀ w, Calls Tryd.prog 26 #[.string p, .string d] w fun e w' => e = .returned (.bool (und (dl p) (dl d))) ∧ w' = w) := fun w => under_any p d w (by omega)
  have LDP : Hid (∀ w, Mx w → Calls Tryd.prog 28 #[.string d, .string p] w fun e w' => e = .returned (.bool (les (dl d) (dl p))) ∧ Below w.heap.size w w') := fun w hm => less_any d p w hm (by omega) (by omega)
  have LPQ : Hid (∀ w, Mx w → Calls Tryd.prog 28 #[.string p, .string q] w fun e w' => e = .returned (.bool (les (dl p) (dl q))) ∧ Below w.heap.size w w') := fun w hm => less_any p q w hm (by omega) (by omega)
  have LDQ : Hid (∀ w, Mx w → Calls Tryd.prog 28 #[.string d, .string q] w fun e w' => e = .returned (.bool (les (dl d) (dl q))) ∧ Below w.heap.size w w') := fun w hm => less_any d q w hm (by omega) (by omega)
  have HC : Hid (und (dl q) (dl d) = true → les (dl d) (dl q) = true ∧ (les (dl d) (dl p) = true → les (dl p) (dl q) = true → und (dl p) (dl d) = true)) := blocks _ _ _ hd
  generalize les (dl d) (dl p) = dp at *
  generalize les (dl p) (dl q) = pq at *
  generalize les (dl d) (dl q) = dq at *
  generalize und (dl q) (dl d) = uq at *
  generalize und (dl p) (dl d) = up at *
  clear SD SP SQ wd wp wq ld lp lq hd
  cases uq
  ·
    clear HC
    go_enter Tryd.func8, Tryd.ntmps8
    go_wp2_with fail
    refine (CD.out w M0.out).mono ?_
    rintro e w1 ⟨rfl, b⟩
    have M1 : Hid (Mx w1) := M0.out.kept b
    have B1 : Hid (Below w.heap.size w w1) := B0.out.trans (b.mono B0.out.size)
    clear b
    go_wp2_with fail
    refine (CP.out w1 M1.out).mono ?_
    rintro e w2 ⟨rfl, b⟩
    have M2 : Hid (Mx w2) := M1.out.kept b
    have B2 : Hid (Below w.heap.size w w2) := B1.out.trans (b.mono B1.out.size)
    clear b
    go_wp2_with fail
    refine (CQ.out w2 M2.out).mono ?_
    rintro e w3 ⟨rfl, b⟩
    have M3 : Hid (Mx w3) := M2.out.kept b
    have B3 : Hid (Below w.heap.size w w3) := B2.out.trans (b.mono B2.out.size)
    clear b
    go_wp2_with fail
    refine (UQ.out w3).mono ?_
    rintro e wq ⟨rfl, hq⟩
    replace hq := hq.symm
    subst hq
    go_wp2_with fail
    refine (awake_any w3 M3.out).mono ?_
    rintro e w4 ⟨rfl, b⟩
    have M4 : Hid (Mx w4) := M3.out.kept b
    have B4 : Hid (Below w.heap.size w w4) := B3.out.trans (b.mono B3.out.size)
    clear b
    go_wp2
    go_ret
    exact ⟨rfl, B4.out⟩
  · obtain ⟨rfl, hb⟩ := HC.out rfl
    have HB : Hid (dp = true → pq = true → up = true) := hb
    clear HC hb
    cases dp
    ·
      clear HB
      go_enter Tryd.func8, Tryd.ntmps8
      go_wp2_with fail
      refine (CD.out w M0.out).mono ?_
      rintro e w1 ⟨rfl, b⟩
      have M1 : Hid (Mx w1) := M0.out.kept b
      have B1 : Hid (Below w.heap.size w w1) := B0.out.trans (b.mono B0.out.size)
      clear b
      go_wp2_with fail
      refine (CP.out w1 M1.out).mono ?_
      rintro e w2 ⟨rfl, b⟩
      have M2 : Hid (Mx w2) := M1.out.kept b
      have B2 : Hid (Below w.heap.size w w2) := B1.out.trans (b.mono B1.out.size)
      clear b
      go_wp2_with fail
      refine (CQ.out w2 M2.out).mono ?_
      rintro e w3 ⟨rfl, b⟩
      have M3 : Hid (Mx w3) := M2.out.kept b
      have B3 : Hid (Below w.heap.size w w3) := B2.out.trans (b.mono B2.out.size)
      clear b
      go_wp2_with fail
      refine (UQ.out w3).mono ?_
      rintro e wq ⟨rfl, hq⟩
      replace hq := hq.symm
      subst hq
      go_wp2_with fail
      refine (LDP.out w3 M3.out).mono ?_
      rintro e w4 ⟨rfl, b⟩
      have M4 : Hid (Mx w4) := M3.out.kept b
      have B4 : Hid (Below w.heap.size w w4) := B3.out.trans (b.mono B3.out.size)
      clear b
      go_wp2_with fail
      refine (LDQ.out w4 M4.out).mono ?_
      rintro e w5 ⟨rfl, b⟩
      have M5 : Hid (Mx w5) := M4.out.kept b
      have B5 : Hid (Below w.heap.size w w5) := B4.out.trans (b.mono B4.out.size)
      clear b
      go_wp2_with fail
      refine (awake_any w5 M5.out).mono ?_
      rintro e w6 ⟨rfl, b⟩
      have M6 : Hid (Mx w6) := M5.out.kept b
      have B6 : Hid (Below w.heap.size w w6) := B5.out.trans (b.mono B5.out.size)
      clear b
      go_wp2
      go_ret
      exact ⟨rfl, B6.out⟩
    · cases pq
      ·
        clear HB
        go_enter Tryd.func8, Tryd.ntmps8
        go_wp2_with fail
        refine (CD.out w M0.out).mono ?_
        rintro e w1 ⟨rfl, b⟩
        have M1 : Hid (Mx w1) := M0.out.kept b
        have B1 : Hid (Below w.heap.size w w1) := B0.out.trans (b.mono B0.out.size)
        clear b
        go_wp2_with fail
        refine (CP.out w1 M1.out).mono ?_
        rintro e w2 ⟨rfl, b⟩
        have M2 : Hid (Mx w2) := M1.out.kept b
        have B2 : Hid (Below w.heap.size w w2) := B1.out.trans (b.mono B1.out.size)
        clear b
        go_wp2_with fail
        refine (CQ.out w2 M2.out).mono ?_
        rintro e w3 ⟨rfl, b⟩
        have M3 : Hid (Mx w3) := M2.out.kept b
        have B3 : Hid (Below w.heap.size w w3) := B2.out.trans (b.mono B2.out.size)
        clear b
        go_wp2_with fail
        refine (UQ.out w3).mono ?_
        rintro e wq ⟨rfl, hq⟩
        replace hq := hq.symm
        subst hq
        go_wp2_with fail
        refine (LDP.out w3 M3.out).mono ?_
        rintro e w4 ⟨rfl, b⟩
        have M4 : Hid (Mx w4) := M3.out.kept b
        have B4 : Hid (Below w.heap.size w w4) := B3.out.trans (b.mono B3.out.size)
        clear b
        go_wp2_with fail
        refine (LPQ.out w4 M4.out).mono ?_
        rintro e w5 ⟨rfl, b⟩
        have M5 : Hid (Mx w5) := M4.out.kept b
        have B5 : Hid (Below w.heap.size w w5) := B4.out.trans (b.mono B4.out.size)
        clear b
        go_wp2_with fail
        refine (LDQ.out w5 M5.out).mono ?_
        rintro e w6 ⟨rfl, b⟩
        have M6 : Hid (Mx w6) := M5.out.kept b
        have B6 : Hid (Below w.heap.size w w6) := B5.out.trans (b.mono B5.out.size)
        clear b
        go_wp2_with fail
        refine (awake_any w6 M6.out).mono ?_
        rintro e w7 ⟨rfl, b⟩
        have M7 : Hid (Mx w7) := M6.out.kept b
        have B7 : Hid (Below w.heap.size w w7) := B6.out.trans (b.mono B6.out.size)
        clear b
        go_wp2
        go_ret
        exact ⟨rfl, B7.out⟩
      ·
        obtain rfl : up = true := HB.out rfl rfl
        clear HB
        go_enter Tryd.func8, Tryd.ntmps8
        go_wp2_with fail
        refine (CD.out w M0.out).mono ?_
        rintro e w1 ⟨rfl, b⟩
        have M1 : Hid (Mx w1) := M0.out.kept b
        have B1 : Hid (Below w.heap.size w w1) := B0.out.trans (b.mono B0.out.size)
        clear b
        go_wp2_with fail
        refine (CP.out w1 M1.out).mono ?_
        rintro e w2 ⟨rfl, b⟩
        have M2 : Hid (Mx w2) := M1.out.kept b
        have B2 : Hid (Below w.heap.size w w2) := B1.out.trans (b.mono B1.out.size)
        clear b
        go_wp2_with fail
        refine (CQ.out w2 M2.out).mono ?_
        rintro e w3 ⟨rfl, b⟩
        have M3 : Hid (Mx w3) := M2.out.kept b
        have B3 : Hid (Below w.heap.size w w3) := B2.out.trans (b.mono B2.out.size)
        clear b
        go_wp2_with fail
        refine (UQ.out w3).mono ?_
        rintro e wq ⟨rfl, hq⟩
        replace hq := hq.symm
        subst hq
        go_wp2_with fail
        refine (LDP.out w3 M3.out).mono ?_
        rintro e w4 ⟨rfl, b⟩
        have M4 : Hid (Mx w4) := M3.out.kept b
        have B4 : Hid (Below w.heap.size w w4) := B3.out.trans (b.mono B3.out.size)
        clear b
        go_wp2_with fail
        refine (LPQ.out w4 M4.out).mono ?_
        rintro e w5 ⟨rfl, b⟩
        have M5 : Hid (Mx w5) := M4.out.kept b
        have B5 : Hid (Below w.heap.size w w5) := B4.out.trans (b.mono B4.out.size)
        clear b
        go_wp2_with fail
        refine (LDQ.out w5 M5.out).mono ?_
        rintro e w6 ⟨rfl, b⟩
        have M6 : Hid (Mx w6) := M5.out.kept b
        have B6 : Hid (Below w.heap.size w w6) := B5.out.trans (b.mono B5.out.size)
        clear b
        go_wp2_with fail
        refine (UP.out w6).mono ?_
        rintro e wq ⟨rfl, hq⟩
        replace hq := hq.symm
        subst hq
        go_wp2_with fail
        refine (awake_any w6 M6.out).mono ?_
        rintro e w7 ⟨rfl, b⟩
        have M7 : Hid (Mx w7) := M6.out.kept b
        have B7 : Hid (Below w.heap.size w w7) := B6.out.trans (b.mono B6.out.size)
        clear b
        go_wp2
        go_ret
        exact ⟨rfl, B7.out⟩

theorem contract (H : Type) (enc : TypeId × Value → H) (W : World) (base : Nat) (args : Array Value) (ds gs : List (DataW H)) (before : List MemPlace)
    (hval : ∀ (j : Nat) t v, Tryd.f8.params[j]? = some t → args[j]? = some v → Value.okWide Tryd.prog W .any base t v)
    (hW : DataW.Whole enc Tryd.prog Tryd.f8.params.toList Rows.pathBlocksSpec.vars false W args.toList ds gs before) (_hL : laidMetH Tryd.prog Rows.pathBlocksRow.laid W) (hsh : W.ShapedOpen Tryd.prog)
    (hsz0 : (DataW.weightsEach Tryd.prog (Tryd.f8.params.toList ++ Rows.pathBlocksSpec.plain.varTypes Tryd.prog) (ds ++ gs)).all (· ≤ reachBytes) = true) :
    Calls Tryd.prog 8 args W fun e W' => ∃ v, e = .returned v ∧ Rows.pathBlocksSpec.post enc Tryd.prog Tryd.f8 false true false false W args v W' := by
  have hW' := hW
  obtain ⟨p, q, hA0, hV, rfl, hfz, hnd⟩ := hW
  have hA : DataW.TrodAll enc Tryd.prog W 0 (fun _ => true) true Tryd.f8.params.toList args.toList ds p := hA0
  rw [Tryd.params8] at hA hval hsz0
  obtain ⟨v0, vs0, d0, ds0, p0, q0, hargs, rfl, rfl, h0, r0⟩ := trodAll_cons hA
  obtain ⟨v1, vs1, d1, ds1, p1, q1, rfl, rfl, rfl, h1, r1⟩ := trodAll_cons r0
  obtain ⟨v2, vs2, d2, ds2, p2, q2, rfl, rfl, rfl, h2, r2⟩ := trodAll_cons r1
  obtain ⟨rfl, rfl, rfl⟩ := trodAll_nil r2
  obtain rfl : args = #[v0, v1, v2] := by cases args; simp_all
  obtain ⟨rfl, rfl⟩ := trodVars_none hV
  obtain ⟨a0, rfl, rfl, rfl, w0⟩ := open_string Tryd.underlying9 (hval 0 9 v0 rfl rfl) h0
  obtain ⟨a1, rfl, rfl, rfl, w1⟩ := open_string Tryd.underlying9 (hval 1 9 v1 rfl rfl) h1
  obtain ⟨a2, rfl, rfl, rfl, w2⟩ := open_string Tryd.underlying9 (hval 2 9 v2 rfl rfl) h2
  clear hA0
  refine (walk a0 a1 a2 W (mx_of hsh) w0 w1 w2).mono fun e W' ⟨he, bel⟩ => ?_
  subst he
  exact ⟨_, rfl, _, _, _, [], _, [], hW', trodAll_mk1 (shut_bool Tryd.underlying4 _), (trodAll_cons_mk (shut_string Tryd.underlying9 w0) (trodAll_cons_mk (shut_string Tryd.underlying9 w1) (trodAll_cons_mk (shut_string Tryd.underlying9 w2) trodAll_mk0))), rfl, bel.frame _, fun h => by cases h⟩

theorem laid_met (os : Os) : laidMet Tryd.prog Rows.pathBlocksRow.laid (({ World.holding Tryd.prog os ⟨#[], #[], []⟩ with heap := ((((World.holding Tryd.prog os ⟨#[], #[], []⟩).heap.modify 0 (fun
      | .cells _ t frozen => .cells #[.int .i64 0] t frozen
      | o => o)).modify 1 (fun
      | .cells _ t frozen => .cells firstCells t frozen
      | o => o)).modify 2 (fun
      | .cells _ t frozen => .cells rangeCells t frozen
      | o => o)) } : World).forCall (fun _ _ => 0) ⟨#[], #[.string ⟨#[]⟩, .string ⟨#[]⟩, .string ⟨#[]⟩], []⟩).memory :=
  laidMet_of_run' 8 (by kernel_rfl) (by kernel_rfl)
theorem reads (os : Os) {H : Type} (enc : TypeId × Value → H) : ∃ places, DataW.whole enc Tryd.prog (({ World.holding Tryd.prog os ⟨#[], #[], []⟩ with heap := ((((World.holding Tryd.prog os ⟨#[], #[], []⟩).heap.modify 0 (fun
      | .cells _ t frozen => .cells #[.int .i64 0] t frozen
      | o => o)).modify 1 (fun
      | .cells _ t frozen => .cells firstCells t frozen
      | o => o)).modify 2 (fun
      | .cells _ t frozen => .cells rangeCells t frozen
      | o => o)) } : World).forCall (fun _ _ => 0) ⟨#[], #[.string ⟨#[]⟩, .string ⟨#[]⟩, .string ⟨#[]⟩], []⟩).memory Tryd.f8.params.toList Rows.pathBlocksSpec.vars false #[Value.string ⟨#[]⟩, .string ⟨#[]⟩, .string ⟨#[]⟩].toList 8 = some ([.lit (.string []), .lit (.string []), .lit (.string [])], [], places) :=
  ⟨[], by kernel_rfl⟩

set_option maxRecDepth 100000 in
theorem lifted (os : Os) (started : os.Started) (H : Type) (enc : TypeId × Value → H) (F : Stop.Interp) :
    ReturnsInHanded {} Tryd.checked os 8 .any ((OpenSpec.ofChange Rows.pathBlocksSpec).preRow enc Tryd.prog Tryd.f8 Rows.pathBlocksRow.domain false Rows.pathBlocksRow.laid) (((OpenSpec.ofChange Rows.pathBlocksSpec).at F).post enc Tryd.prog Tryd.f8 false true false false) := by
  obtain ⟨places, hx⟩ := reads os enc
  refine returnsInHanded_of_row (C := Tryd.checked) (s := OpenSpec.ofChange Rows.pathBlocksSpec) own started (by kernel_rfl) Tryd.func8
    (witness_row_at (enc := enc) (C := Tryd.checked) false ({ World.holding Tryd.prog os ⟨#[], #[], []⟩ with heap := ((((World.holding Tryd.prog os ⟨#[], #[], []⟩).heap.modify 0 (fun
      | .cells _ t frozen => .cells #[.int .i64 0] t frozen
      | o => o)).modify 1 (fun
      | .cells _ t frozen => .cells firstCells t frozen
      | o => o)).modify 2 (fun
      | .cells _ t frozen => .cells rangeCells t frozen
      | o => o)) } : World) #[.string ⟨#[]⟩, .string ⟨#[]⟩, .string ⟨#[]⟩] rfl (by kernel_rfl) (by kernel_rfl) (by kernel_rfl)
      (OpenSpec.preRow_of_cond 8 hx (by kernel_rfl) (fun k hk => by cases hk) (by kernel_rfl) (laid_met os))) ?_
  intro W base args ds gs before hval hW _ _ hsz hL hsh _
  exact contract H enc W base args ds gs before hval hW hL hsh hsz

theorem said : Rows.PathBlocksSaid :=
  OpenClaim.holds_of_cond 8 Tryd.f8 rfl rfl rfl rfl rfl rfl rfl ⟨rfl, rfl, rfl, rfl, rfl⟩ rfl rfl rfl rfl rfl (by kernel_rfl) Tryd.func8 (by kernel_rfl)
    (of_decide_eq_true (by kernel_rfl)) (by unfold Func.isWrapper; first | (rw [if_pos (by decide +kernel)]; kernel_rfl) | (rw [if_neg (by decide +kernel)]; exact ⟨rfl, rfl⟩))
    (fun os started H enc _ F => by rw [OpenClaim.pre_eq_preRow]; exact lifted os started H enc F)

theorem plain (f : FuncId) (fn : Func) (hf : Tryd.pinned.checked.prog.funcNamed "sumpter/sumpterlaw07.PathBlocks" = some f) (hfn : Tryd.pinned.checked.prog.funcs[f]? = some fn) :
    false = Tryd.pinned.checked.prog.looks [] ∧ ∀ (j : Nat) t, fn.params[j]? = some t → Tryd.pinned.checked.prog.wantsStandIn t = false := by
  obtain rfl : f = 8 := Option.some.inj ((show Tryd.prog.funcNamed "sumpter/sumpterlaw07.PathBlocks" = some 8 by kernel_rfl).symm.trans hf) |>.symm
  obtain rfl : fn = Tryd.f8 := (Option.some.inj (Tryd.func8.symm.trans hfn)).symm
  refine ⟨by kernel_rfl, fun j t ht => ?_⟩
  rw [Tryd.params8] at ht
  have hm : t ∈ [9, 9, 9] := by simpa using Array.mem_of_getElem? ht
  have hall : ([9, 9, 9].all fun u => !Tryd.prog.wantsStandIn u) = true := by kernel_rfl
  exact (show Tryd.prog.wantsStandIn t = false by simpa using List.all_eq_true.1 hall t hm)
end Go.Proofs.YtgppjbfmpjabcaaDoor.pathBlocks

namespace Go.Proofs.YtgppjbfmpjabcaaDoor
/-- The card of PathBlocks. -/
theorem pathBlocks_card : Rows.PathBlocksCardSaid :=
  Claim7.holds_tied_plain_at .later [] _ _ _ _ pathBlocks.said (fun _ h => by cases h) (by kernel_rfl) (fun _ h => by cases h) pathBlocks_row_tie rfl ⟨rfl, rfl⟩ (by kernel_rfl) rfl pathBlocks.plain (by kernel_rfl)
#print axioms pathBlocks_card
end Go.Proofs.YtgppjbfmpjabcaaDoor
