/-
  behind any samples a state may be; Min is the least of them, Latest the last one, Smooth lies between the least one less the greatest delay and the greatest one. No conditions but the given statement's own.
-/
import Derived.Test.YtbomkapnkpjjbaaMk
namespace Go.Proofs.Ytbomkapnkpjjbaa.rttMakes
open Go.ChangeShapes Go.WideShapes Go.ChangeAt Go.RowKit Go.Deep Go.ChangeMaps
set_option maxRecDepth 100000

set_option maxHeartbeats 8000000 in
theorem walk (v0 : Value) (L : List (Int × Int)) (w : World) (h0 : PQ w v0 L) :
    Calls Try.prog 5 #[v0] w fun e w' => e = .returned (.bool true) ∧ Below w.heap.size w w' := by
  obtain ⟨a, c, rfl⟩ := h0.shape
  by_cases h60 : 60 < L.length
  · have d0 : (60 : Int) < (L.length : Int) := by omega
    have ca := awake_any w
    clear h0
    generalize L.length = n at *
    go_enter Try.func5, Try.ntmps5
    go_wp2_with fail
    refine ca.mono ?_
    rintro e wz ⟨rfl, bz⟩
    have HZ : Hid (Below w.heap.size w wz) := bz
    clear ca bz
    go_wp2
    go_ret
    exact ⟨rfl, HZ.out⟩
  have d0 : ¬ (60 : Int) < (L.length : Int) := by omega
  have HQ : Hid (∀ W, Below w.heap.size w W → PQ W (.slice a L.length c) L) := fun W hb => h0.kept hb
  obtain ⟨n, hn'⟩ : ∃ n, n = L.length := ⟨_, rfl⟩
  have HN : Hid (n = L.length) := hn'
  rw [← hn'] at d0 HQ ⊢
  obtain ⟨W1, hW1⟩ : ∃ W1, W1 = w.alloc (.cells #[.bool false, .int .i64 0, .int .i64 0, .int .i64 0, .int .i64 0] 24) := ⟨_, rfl⟩
  have HB1 : Hid (Below w.heap.size w W1) := by unfold Hid; rw [hW1]; exact al_below _ _
  have HS1 : Hid (SB W1 w.heap.size 24 Sta.z) := by unfold Hid; rw [hW1]; exact heap_new _ _
  clear h0 hn' h60
  go_enter Try.func5, Try.ntmps5
  go_upto_region 4 with fail
  rw [← hW1]
  clear hW1
  go_wp2_with fail
  go_loopw [4, 5, 6, 7] (fun s4 s5 s6 z wr => ∃ (j : Nat) (x : Sta) (le mo de : Int), j ≤ n ∧ z = .int .i64 j ∧ s4 = .int .i64 le ∧ s5 = .int .i64 mo ∧ s6 = .int .i64 de ∧ MI j x le mo de ∧ SB wr w.heap.size 24 x ∧ Below w.heap.size w wr) (fun _ _ _ z _ => n - (intOf z).toNat)
  case atStart => exact ⟨0, _, 0, 0, 0, by omega, rfl, rfl, rfl, rfl, MI.start, HS1.out, HB1.out⟩
  case round =>
    obtain ⟨j, x, le, mo, de, hj, rfl, rfl, rfl, rfl, mi, sb, bl⟩ := hrel
    have HB : Hid (Below w.heap.size w wr) := bl
    have HS : Hid (SB wr w.heap.size 24 x) := sb
    clear sb bl HS1 HB1
    by_cases hlt : j < n
    · have lt2 : (j : Int) < (n : Int) := by omega
      have lt3 : (0 : Int) ≤ (j : Int) := by omega
      have hjl : j < L.length := by rw [← HN.out]; exact hlt
      obtain ⟨b, off, rfl, k1, k2⟩ := (HQ.out wr HB.out).at j hjl
      have hok : okP (atQ L j) := (HQ.out wr HB.out).ok _ (by rw [atQ_eq L j hjl]; exact List.getElem_mem hjl)
      obtain ⟨⟨N, D⟩, hp⟩ : ∃ p, p = atQ L j := ⟨_, rfl⟩
      rw [← hp] at k1 k2 hok
      unfold okP at hok
      simp only at k1 k2 hok
      obtain ⟨hN, hD⟩ := hok
      obtain ⟨S, V, hsm, hmi, hck, hln⟩ := mi.next hN hD
      obtain ⟨a0, a1, a2, a3, a4⟩ := x
      have cs : ∀ W, Calls Try.prog 8 #[.agg #[.bool a0, .int .i64 a1, .int .i64 a2, .int .i64 a3, .int .i64 a4], .int .i64 N, .int .i64 D] W fun e w' => e = .returned (.agg #[.bool true, .int .i64 N, .int .i64 (leN j le N), .int .i64 S, .int .i64 V]) ∧ Below W.heap.size W w' := fun W => by
        have := sample_any a0 a1 a2 a3 a4 N D W
        rw [hsm] at this
        exact this
      have HLE : Hid (j = 0 ∧ leN j le N = N ∨ ¬ j = 0 ∧ N < le ∧ leN j le N = N ∨ ¬ j = 0 ∧ ¬ N < le ∧ leN j le N = le) := by
        unfold Hid leN
        by_cases h1 : j = 0
        · exact .inl ⟨h1, by rw [if_pos (.inl h1)]⟩
        · by_cases h2 : N < le
          · exact .inr (.inl ⟨h1, h2, by rw [if_pos (.inr h2)]⟩)
          · exact .inr (.inr ⟨h1, h2, by rw [if_neg (fun q => q.elim h1 h2)]⟩)
      have HMI : Hid (MI (j + 1) ⟨true, N, leN j le N, S, V⟩ (leN j le N) (max mo N) (max de D)) := hmi
      have HCK : Hid (chk ⟨true, N, leN j le N, S, V⟩ = true) := hck
      obtain ⟨⟨q1, q2, q3⟩, q4, q5⟩ := hmi.b
      obtain ⟨-, -, -, ⟨q6, q7, q8⟩, q9, q10⟩ := hmi.s (Nat.succ_pos j)
      simp only at q6 q7 q8 q9 q10
      obtain ⟨LE, hLE⟩ : ∃ LE, LE = leN j le N := ⟨_, rfl⟩
      obtain ⟨MO, hMO⟩ : ∃ MO, MO = max mo N := ⟨_, rfl⟩
      obtain ⟨DE, hDE⟩ : ∃ DE, DE = max de D := ⟨_, rfl⟩
      rw [← hLE] at cs HLE HMI HCK q1 q2 q7 hln
      rw [← hMO] at HMI q2 q3 q8 q10
      rw [← hDE] at HMI q4 q5 q7 q10
      have HMO : Hid (max mo N = MO) := hMO.symm
      have HDE : Hid (max de D = DE) := hDE.symm
      have w1 := wrS (x := N) (by omega) (by omega)
      have w2' := wrS (x := D) (by omega) (by omega)
      have HW3 : Hid (IntKind.i64.wrap (LE - DE) = LE - DE) := wrS (by omega) (by omega)
      have HW4 : Hid (IntKind.i64.wrap (MO + DE) = MO + DE) := wrS (by omega) (by omega)
      have HQ1 : Hid (¬ S < LE - DE ∧ ¬ MO < S ∧ ¬ S < 0 ∧ ¬ V < 0 ∧ ¬ MO + DE < V) := by unfold Hid; omega
      clear mi hmi hck hsm hp hLE hMO hDE q1 q2 q3 q4 q5 q6 q7 q8 q9 q10 hN hD hln hjl
      go_wp2_with fail
      go_quiet (fail)
      have BD : Below wr.heap.size wr (wr.drewN nq) := drn wr nq
      have HBD : Hid (Below w.heap.size w (wr.drewN nq)) := HB.out.trans (BD.mono HB.out.size)
      have HSD : Hid (SB (wr.drewN nq) w.heap.size 24 ⟨a0, a1, a2, a3, a4⟩) := HS.out.kept BD
      generalize wr.drewN nq = DW at *
      have cc := cs DW
      clear BD HS HB k1 k2 w1 w2' cs
      go_wp2_with (refine wpList_load_row rfl 24 _ rfl w.heap.size rfl 24 #[.bool a0, .int .i64 a1, .int .i64 a2, .int .i64 a3, .int .i64 a4] (0, 0) _ HSD.out Try.underlying24 rfl infoS ?_)
      refine cc.mono ?_
      rintro e w2 ⟨rfl, b2⟩
      have hs3 := HSD.out.kept b2
      have hb3 := HBD.out.trans (b2.mono HBD.out.size)
      obtain ⟨W3, hW3⟩ : ∃ W3, W3 = w2.setRow w.heap.size #[.bool true, .int .i64 N, .int .i64 LE, .int .i64 S, .int .i64 V] := ⟨_, rfl⟩
      have HS3 : Hid (SB W3 w.heap.size 24 ⟨true, N, LE, S, V⟩) := by unfold Hid; rw [hW3]; exact hs3.set ⟨true, N, LE, S, V⟩
      have HB3 : Hid (Below w.heap.size w W3) := by unfold Hid; rw [hW3]; exact below_setRow hb3 (Nat.le_refl _) _
      have HO3 : Hid (SB w2 w.heap.size 24 ⟨a0, a1, a2, a3, a4⟩) := hs3
      have ck := check_any true N LE S V W3
      rw [HCK.out] at ck
      clear cc b2 hs3 hb3 HSD HBD
      rcases HLE.out with ⟨l1, l2⟩ | ⟨l1, l2, l3⟩ | ⟨l1, l2, l3⟩
      · have z0 : ((j : Int) == 0) = true := by simp; omega
        have z1 : (j : Int) = 0 := by omega
        subst l2
        go_wp2_with (refine wpList_store_row rfl 24 _ _ rfl w.heap.size #[.bool true, .int .i64 LE, .int .i64 LE, .int .i64 S, .int .i64 V] rfl rfl 24 _ HO3.out infoS rfl (st5_one _ _ _ _ _) (Hid.out ?_))
        unfold Hid
        rw [← hW3]
        clear hW3 HO3
        obtain ⟨c0, c1, c2, c3, c4⟩ := HS3.out.sc
        go_upto_region 12 with fail
        have hmo := HMO.out
        have hde := HDE.out
        go_upto_region 13 with fail
        clear hmo hde
        go_wp2_with (refine wpList_load_row rfl 24 _ rfl w.heap.size rfl 24 #[.bool true, .int .i64 LE, .int .i64 LE, .int .i64 S, .int .i64 V] (0, 0) _ HS3.out Try.underlying24 rfl infoS ?_)
        refine ck.mono ?_
        rintro e w4 ⟨rfl, b4⟩
        have HS4 : Hid (SB w4 w.heap.size 24 ⟨true, LE, LE, S, V⟩) := HS3.out.kept b4
        have HB4 : Hid (Below w.heap.size w w4) := HB3.out.trans (b4.mono HB3.out.size)
        clear ck b4 c0 c1 c2 c3 c4 HS3 HB3
        obtain ⟨c0, c1, c2, c3, c4⟩ := HS4.out.sc
        have w3 := HW3.out
        have w4' := HW4.out
        obtain ⟨p1, p2, p3, p4, p5⟩ := HQ1.out
        go_wp2
        go_roundw
        case rel => exact ⟨j + 1, ⟨true, LE, LE, S, V⟩, LE, MO, DE, by omega, by go_num, rfl, rfl, rfl, HMI.out, HS4.out, HB4.out⟩
        case measure => simp [intOf]; omega
      · have z0 : ((j : Int) == 0) = false := by simp; omega
        have z1 : ¬ (j : Int) = 0 := by omega
        subst l3
        go_wp2_with (refine wpList_store_row rfl 24 _ _ rfl w.heap.size #[.bool true, .int .i64 LE, .int .i64 LE, .int .i64 S, .int .i64 V] rfl rfl 24 _ HO3.out infoS rfl (st5_one _ _ _ _ _) (Hid.out ?_))
        unfold Hid
        rw [← hW3]
        clear hW3 HO3
        obtain ⟨c0, c1, c2, c3, c4⟩ := HS3.out.sc
        go_upto_region 12 with fail
        have hmo := HMO.out
        have hde := HDE.out
        go_upto_region 13 with fail
        clear hmo hde
        go_wp2_with (refine wpList_load_row rfl 24 _ rfl w.heap.size rfl 24 #[.bool true, .int .i64 LE, .int .i64 LE, .int .i64 S, .int .i64 V] (0, 0) _ HS3.out Try.underlying24 rfl infoS ?_)
        refine ck.mono ?_
        rintro e w4 ⟨rfl, b4⟩
        have HS4 : Hid (SB w4 w.heap.size 24 ⟨true, LE, LE, S, V⟩) := HS3.out.kept b4
        have HB4 : Hid (Below w.heap.size w w4) := HB3.out.trans (b4.mono HB3.out.size)
        clear ck b4 c0 c1 c2 c3 c4 HS3 HB3
        obtain ⟨c0, c1, c2, c3, c4⟩ := HS4.out.sc
        have w3 := HW3.out
        have w4' := HW4.out
        obtain ⟨p1, p2, p3, p4, p5⟩ := HQ1.out
        go_wp2
        go_roundw
        case rel => exact ⟨j + 1, ⟨true, LE, LE, S, V⟩, LE, MO, DE, by omega, by go_num, rfl, rfl, rfl, HMI.out, HS4.out, HB4.out⟩
        case measure => simp [intOf]; omega
      · have z0 : ((j : Int) == 0) = false := by simp; omega
        have z1 : ¬ (j : Int) = 0 := by omega
        subst l3
        go_wp2_with (refine wpList_store_row rfl 24 _ _ rfl w.heap.size #[.bool true, .int .i64 N, .int .i64 LE, .int .i64 S, .int .i64 V] rfl rfl 24 _ HO3.out infoS rfl (st5_one _ _ _ _ _) (Hid.out ?_))
        unfold Hid
        rw [← hW3]
        clear hW3 HO3
        obtain ⟨c0, c1, c2, c3, c4⟩ := HS3.out.sc
        go_upto_region 12 with fail
        have hmo := HMO.out
        have hde := HDE.out
        go_upto_region 13 with fail
        clear hmo hde
        go_wp2_with (refine wpList_load_row rfl 24 _ rfl w.heap.size rfl 24 #[.bool true, .int .i64 N, .int .i64 LE, .int .i64 S, .int .i64 V] (0, 0) _ HS3.out Try.underlying24 rfl infoS ?_)
        refine ck.mono ?_
        rintro e w4 ⟨rfl, b4⟩
        have HS4 : Hid (SB w4 w.heap.size 24 ⟨true, N, LE, S, V⟩) := HS3.out.kept b4
        have HB4 : Hid (Below w.heap.size w w4) := HB3.out.trans (b4.mono HB3.out.size)
        clear ck b4 c0 c1 c2 c3 c4 HS3 HB3
        obtain ⟨c0, c1, c2, c3, c4⟩ := HS4.out.sc
        have w3 := HW3.out
        have w4' := HW4.out
        obtain ⟨p1, p2, p3, p4, p5⟩ := HQ1.out
        go_wp2
        go_roundw
        case rel => exact ⟨j + 1, ⟨true, N, LE, S, V⟩, LE, MO, DE, by omega, by go_num, rfl, rfl, rfl, HMI.out, HS4.out, HB4.out⟩
        case measure => simp [intOf]; omega
    · obtain rfl : j = n := by omega
      have ca := awake_any wr
      clear mi
      go_wp2_with fail
      refine ca.mono ?_
      rintro e wz ⟨rfl, bz⟩
      have HZ : Hid (Below w.heap.size w wz) := HB.out.trans (bz.mono HB.out.size)
      clear ca bz
      go_wp2
      go_ret
      exact ⟨rfl, HZ.out⟩

theorem contract (H : Type) (enc : TypeId × Value → H) (W : World) (base : Nat) (args : Array Value) (ds gs : List (DataW H)) (before : List MemPlace)
    (hval : ∀ (j : Nat) t v, Try.f5.params[j]? = some t → args[j]? = some v → Value.okWide Try.prog W .any base t v)
    (hW : DataW.Whole enc Try.prog Try.f5.params.toList Rows.rttMakesSpec.vars false W args.toList ds gs before) (_hL : laidMetH Try.prog Rows.rttMakesRow.laid W)
    (hsz0 : (DataW.weightsEach Try.prog (Try.f5.params.toList ++ Rows.rttMakesSpec.plain.varTypes Try.prog) (ds ++ gs)).all (· ≤ reachBytes) = true) :
    Calls Try.prog 5 args W fun e W' => ∃ v, e = .returned v ∧ Rows.rttMakesSpec.post enc Try.prog Try.f5 false true false false W args v W' := by
  have hW' := hW
  obtain ⟨p, q, hA0, hV, rfl, hfz, hnd⟩ := hW
  have hA : DataW.TrodAll enc Try.prog W 0 (fun _ => true) true Try.f5.params.toList args.toList ds p := hA0
  rw [Try.params5] at hA hval hsz0
  obtain ⟨v0, vs0, d0, ds0, p0, q0, hargs, rfl, rfl, h0, r0⟩ := trodAll_cons hA
  obtain ⟨rfl, rfl, rfl⟩ := trodAll_nil r0
  obtain rfl : args = #[v0] := by cases args; simp_all
  obtain ⟨rfl, rfl⟩ := trodVars_none hV
  have k0 := h0
  have lt0 : ∀ x ∈ p0, x.block < W.heap.size := by obtain ⟨m, hm⟩ := k0; exact DataW.trod_lt m _ _ _ hm
  obtain ⟨L0, w0⟩ := prs_in (hval 0 36 v0 rfl rfl) h0
  clear hA0
  refine (walk v0 L0 W w0).mono fun e W' ⟨he, bel⟩ => ?_
  subst he
  exact ⟨_, rfl, _, _, _, [], _, [], hW', trodAll_mk1 (shut_bool Try.underlying4 _), (trodAll_cons_mk (Below.trod laidOut (by kernel_rfl) (of_decide_eq_true (by kernel_rfl)) k0 bel lt0) trodAll_mk0), rfl, bel.frame _, fun h => by cases h⟩

theorem laid_met (os : Os) : laidMet Try.prog Rows.rttMakesRow.laid ((World.holding Try.prog os ⟨#[], #[], []⟩).forCall (fun _ _ => 0) ⟨#[], #[.slice none 0 0], []⟩).memory :=
  laidMet_of_run' 8 (by kernel_rfl) (by kernel_rfl)
theorem reads (os : Os) {H : Type} (enc : TypeId × Value → H) : ∃ places, DataW.whole enc Try.prog ((World.holding Try.prog os ⟨#[], #[], []⟩).forCall (fun _ _ => 0) ⟨#[], #[.slice none 0 0], []⟩).memory Try.f5.params.toList Rows.rttMakesSpec.vars false #[Value.slice none 0 0].toList 8 = some ([.nil], [], places) :=
  ⟨[], by kernel_rfl⟩

set_option maxRecDepth 100000 in
theorem lifted (os : Os) (started : os.Started) (H : Type) (enc : TypeId × Value → H) (F : Stop.Interp) :
    ReturnsInHanded {} Try.checked os 5 .any ((OpenSpec.ofChange Rows.rttMakesSpec).preRow enc Try.prog Try.f5 Rows.rttMakesRow.domain false Rows.rttMakesRow.laid) (((OpenSpec.ofChange Rows.rttMakesSpec).at F).post enc Try.prog Try.f5 false true false false) := by
  obtain ⟨places, hx⟩ := reads os enc
  refine returnsInHanded_of_row (C := Try.checked) (s := OpenSpec.ofChange Rows.rttMakesSpec) own started (by kernel_rfl) Try.func5
    (witness_row_at (enc := enc) (C := Try.checked) false (World.holding Try.prog os ⟨#[], #[], []⟩) #[.slice none 0 0] rfl (by kernel_rfl) (by kernel_rfl) (by kernel_rfl)
      (OpenSpec.preRow_of_cond 8 hx (by kernel_rfl) (fun k hk => by cases hk) (by kernel_rfl) (laid_met os))) ?_
  intro W base args ds gs before hval hW _ _ hsz hL _ _
  exact contract H enc W base args ds gs before hval hW hL hsz

theorem said : Rows.RttMakesSaid :=
  OpenClaim.holds_of_cond 5 Try.f5 rfl rfl rfl rfl rfl rfl rfl ⟨rfl, rfl, rfl, rfl, rfl⟩ rfl rfl rfl rfl rfl (by kernel_rfl) Try.func5 (by kernel_rfl)
    (of_decide_eq_true (by kernel_rfl)) (by unfold Func.isWrapper; first | (rw [if_pos (by decide +kernel)]; kernel_rfl) | (rw [if_neg (by decide +kernel)]; exact ⟨rfl, rfl⟩))
    (fun os started H enc _ F => by rw [OpenClaim.pre_eq_preRow]; exact lifted os started H enc F)

end Go.Proofs.Ytbomkapnkpjjbaa.rttMakes

namespace Go.Proofs.Ytbomkapnkpjjbaa
/-- RttMakes. -/
theorem rttMakes_holds : Rows.RttMakesSaid := rttMakes.said
#print axioms rttMakes_holds
end Go.Proofs.Ytbomkapnkpjjbaa
