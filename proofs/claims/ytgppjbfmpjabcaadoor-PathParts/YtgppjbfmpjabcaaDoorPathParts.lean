/-
  Any text is split, any names are joined, and parents and last names are, as the document says: for every text and every list of texts, no condition.
-/
import Derived.Test.YtgppjbfmpjabcaaDoorFr
import Derived.Test.YtgppjbfmpjabcaaDoorRl
import Derived.Test.YtgppjbfmpjabcaaDoorJn
namespace Go.Proofs.YtgppjbfmpjabcaaDoor.pathParts
open Go.ChangeShapes Go.WideShapes Go.ChangeAt Go.RowKit Go.Deep Go.ChangeMaps

set_option maxHeartbeats 4000000 in
theorem walk (p : ByteArray) (a : Option Addr) (len cap : Nat) (Sx : Nat → ByteArray) (w : World) (hw : Mx w) (_wp : p.size ≤ maxLen) (hS : Strs w a len cap Sx) :
    Calls Tryd.prog 4 #[.string p, .slice a len cap] w fun e w' => e = .returned (.bool true) ∧ Below w.heap.size w w' := by
  have M0 : Hid (Mx w) := hw
  have B0 : Hid (Below w.heap.size w w) := Below.refl _ _
  have S0 : Hid (SS w (.slice a len cap) ((List.range len).map Sx)) := hS.ss
  have hcap := hS.1
  have HL : Hid (((List.range len).map Sx).length = len) := by unfold Hid; simp
  generalize (List.range len).map Sx = xs at *
  clear hw hS
  by_cases hp : 1000 < p.size
  · have hp' : 1000 < (p.size : Int) := by omega
    go_enter Tryd.func4, Tryd.ntmps4
    go_wp2_with fail
    refine (awake_any w M0.out).mono ?_
    rintro e w1 ⟨rfl, b⟩
    have M1 : Hid (Mx w1) := M0.out.kept b
    have B1 : Hid (Below w.heap.size w w1) := B0.out.trans (b.mono B0.out.size)
    clear b
    go_wp2
    go_ret
    exact ⟨rfl, B1.out⟩
  have hp' : ¬ 1000 < (p.size : Int) := by omega
  by_cases hn : 40 < len
  · have hn' : 40 < (len : Int) := by omega
    go_enter Tryd.func4, Tryd.ntmps4
    go_wp2_with fail
    refine (awake_any w M0.out).mono ?_
    rintro e w1 ⟨rfl, b⟩
    have M1 : Hid (Mx w1) := M0.out.kept b
    have B1 : Hid (Below w.heap.size w w1) := B0.out.trans (b.mono B0.out.size)
    clear b
    go_wp2
    go_ret
    exact ⟨rfl, B1.out⟩
  have hn' : ¬ 40 < (len : Int) := by omega
  have C1 : Hid (∀ w, Mx w → Calls Tryd.prog 18 #[.string p] w fun e w' => ∃ v, e = .returned v ∧ SS w' v (sps p) ∧ Below w.heap.size w w') := fun w hm => split_any p w hm (by omega)
  have C2 : Hid (∀ w, Calls Tryd.prog 19 #[.string p] w fun e w' => ∃ v, e = .returned v ∧ SS w' v (sps p) ∧ Below w.heap.size w w') := fun w => rsplit_any p w (by omega)
  have PL : Hid ((sps p).length ≤ 1001) := by unfold Hid; have := spl_len (dl p); rw [sps_len]; rw [dl_len] at this; omega
  have P1 : Hid (∀ w, Calls Tryd.prog 22 #[.string p] w fun e w' => e = .returned (.string (mk (par (dl p)))) ∧ w' = w) := fun w => parent_any p w (by omega)
  have P2 : Hid (∀ w, Calls Tryd.prog 23 #[.string p] w fun e w' => e = .returned (.string (mk (par (dl p)))) ∧ w' = w) := fun w => rparent_any p w (by omega)
  have Q1 : Hid (∀ w, Calls Tryd.prog 24 #[.string p] w fun e w' => e = .returned (.string (mk (bas (dl p)))) ∧ w' = w) := fun w => base_any p w (by omega)
  have Q2 : Hid (∀ w, Calls Tryd.prog 25 #[.string p] w fun e w' => e = .returned (.string (mk (bas (dl p)))) ∧ w' = w) := fun w => rbase_any p w (by omega)
  have HJ : Hid ((∀ k, k < len → (xs.getD k ⟨#[]⟩).size ≤ 1000) → ∀ w, SS w (.slice a len cap) xs → (Calls Tryd.prog 20 #[.slice a len cap] w fun e w' => e = .returned (.string (mk (joi (xs.map dl)))) ∧ Below w.heap.size w w') ∧ (Calls Tryd.prog 21 #[.slice a len cap] w fun e w' => e = .returned (.string (mk (joi (xs.map dl)))) ∧ w' = w)) := fun hk w hs => by
    have hall : ∀ j, (xs.getD j ⟨#[]⟩).size ≤ 1000 := fun j => by
      rcases Nat.lt_or_ge j len with h | h
      · exact hk j h
      · have e : xs.getD j ⟨#[]⟩ = ⟨#[]⟩ := by rw [List.getD, List.getElem?_eq_none (by rw [HL.out]; exact h)]; rfl
        rw [e]
        exact Nat.zero_le _
    have hlen := HL.out
    refine ⟨join_any _ xs w hs (by omega) ?_, rjoin_any _ xs w hs (by omega) hall⟩
    have h1 := joi_le (xs.map dl) 1000 (fun x hm => by
      obtain ⟨i, hi, rfl⟩ := List.getElem_of_mem hm
      have h2 := hall i
      rw [← dl_len, ← dl_getD] at h2
      have h3 : (xs.map dl).getD i [] = (xs.map dl)[i] := by rw [List.getD, List.getElem?_eq_getElem hi]; rfl
      rw [h3] at h2
      exact h2)
    rw [List.length_map, hlen] at h1
    have h3 : len * (1000 + 1) ≤ 40 * (1000 + 1) := Nat.mul_le_mul_right _ (by omega)
    omega
  generalize mk (par (dl p)) = pp at *
  generalize mk (bas (dl p)) = bb at *
  generalize mk (joi (xs.map dl)) = jj at *
  generalize sps p = ps at *
  clear hp hn
  go_enter Tryd.func4, Tryd.ntmps4
  go_wp2
  go_loop [5] (fun q => ∃ j : Nat, j ≤ len ∧ q = .int .i64 j ∧ ∀ k, k < j → (xs.getD k ⟨#[]⟩).size ≤ 1000) (fun q => len - (intOf q).toNat)
  case atStart => exact ⟨0, by omega, rfl, fun k hk => by omega⟩
  case round =>
    obtain ⟨j, hj, rfl, ok⟩ := hrel
    have OK : Hid (∀ k, k < j → (xs.getD k ⟨#[]⟩).size ≤ 1000) := ok
    clear ok
    by_cases hlt : j < len
    · have lt2 : (j : Int) < (len : Int) := by omega
      obtain ⟨b, off, rfl, hc⟩ := S0.out.at j (by rw [HL.out]; exact hlt)
      have q1 : IntKind.i64.wrap ((j : Int) + 1) = ((j + 1 : Nat) : Int) := by simp [IntKind.wrap, IntKind.bits, IntKind.signed]; omega
      have NK : Hid ((xs.getD j ⟨#[]⟩).size ≤ 1000 → ∀ k, k < j + 1 → (xs.getD k ⟨#[]⟩).size ≤ 1000) := fun h k hk => by
        rcases Nat.lt_or_ge k j with h' | h'
        · exact OK.out k h'
        · rw [show k = j by omega]; exact h
      clear OK HJ
      generalize xs.getD j ⟨#[]⟩ = x at *
      by_cases hx : 1000 < x.size
      · have hx' : 1000 < (x.size : Int) := by omega
        clear NK
        go_wp2_with fail
        refine (awake_any w M0.out).mono ?_
        rintro e w1 ⟨rfl, b⟩
        have M1 : Hid (Mx w1) := M0.out.kept b
        have B1 : Hid (Below w.heap.size w w1) := B0.out.trans (b.mono B0.out.size)
        clear b
        go_wp2
        go_ret
        exact ⟨rfl, B1.out⟩
      · have hx' : ¬ 1000 < (x.size : Int) := by omega
        have NK2 := NK.out (by omega)
        have NK3 : Hid (∀ k, k < j + 1 → (xs.getD k ⟨#[]⟩).size ≤ 1000) := NK2
        clear NK NK2
        go_wp2
        exact ⟨⟨j + 1, by omega, by go_num, NK3.out⟩, by simp [intOf]; omega⟩
    · obtain rfl : j = len := by omega
      have HJ2 := HJ.out OK.out
      have HJ3 : Hid (∀ w, SS w (.slice a j cap) xs → (Calls Tryd.prog 20 #[.slice a j cap] w fun e w' => e = .returned (.string jj) ∧ Below w.heap.size w w') ∧ (Calls Tryd.prog 21 #[.slice a j cap] w fun e w' => e = .returned (.string jj) ∧ w' = w)) := HJ2
      clear HJ HJ2 OK
      go_wp2_with fail
      refine (C1.out w M0.out).mono ?_
      rintro e w1 ⟨v1, rfl, s1, b1⟩
      have M1 : Hid (Mx w1) := M0.out.kept b1
      have B1 : Hid (Below w.heap.size w w1) := b1
      have S1 : Hid (SS w1 v1 ps) := s1
      obtain ⟨a1, k1, rfl, kk1⟩ := s1.shape
      clear s1 b1
      obtain ⟨n, hn⟩ : ∃ n, n = ps.length := ⟨_, rfl⟩
      have HN : Hid (n = ps.length) := hn
      rw [← hn] at S1 kk1 PL ⊢
      clear hn
      go_wp2_with fail
      refine (C2.out w1).mono ?_
      rintro e w2 ⟨v2, rfl, s2, b2⟩
      have M2 : Hid (Mx w2) := M1.out.kept b2
      have B2 : Hid (Below w.heap.size w w2) := B1.out.trans (b2.mono B1.out.size)
      have S1 : Hid (SS w2 (.slice a1 n k1) ps) := S1.out.kept b2
      have S2 : Hid (SS w2 v2 ps) := s2
      obtain ⟨a2, k2, rfl, kk2⟩ := s2.shape
      clear s2 b2
      rw [← HN.out] at S2 kk2 ⊢
      have pl := PL.out
      go_wp2_with fail
      go_loopw [8] (fun q wr => ∃ i : Nat, i ≤ n ∧ q = .int .i64 i ∧ Below w2.heap.size w2 wr) (fun q _ => n - (intOf q).toNat)
      case atStart => exact ⟨0, by omega, rfl, Below.refl _ _⟩
      case round =>
        obtain ⟨i, hi, rfl, bel⟩ := hrel
        have BE : Hid (Below w2.heap.size w2 wr) := bel
        clear bel
        by_cases hlti : i < n
        · have lt2 : (i : Int) < (n : Int) := by omega
          obtain ⟨b1, o1, rfl, hc1⟩ := (S1.out.kept BE.out).at i (by rw [← HN.out]; exact hlti)
          obtain ⟨b2, o2, rfl, hc2⟩ := (S2.out.kept BE.out).at i (by rw [← HN.out]; exact hlti)
          have q1 : IntKind.i64.wrap ((i : Int) + 1) = ((i + 1 : Nat) : Int) := by simp [IntKind.wrap, IntKind.bits, IntKind.signed]; omega
          generalize ps.getD i ⟨#[]⟩ = x at *
          go_wp2_with fail
          go_region
          go_wp2
          go_roundw
          case rel => exact ⟨i + 1, by omega, by go_num, BE.out.drew⟩
          case measure => simp [intOf]; omega
        · obtain rfl : i = n := by omega
          have M3 : Hid (Mx wr) := M2.out.kept BE.out
          have B3 : Hid (Below w.heap.size w wr) := B2.out.trans (BE.out.mono B2.out.size)
          have S3 : Hid (SS wr (.slice a j cap) xs) := S0.out.kept (B3.out)
          obtain ⟨w3, hw3⟩ : ∃ w3, w3 = wr := ⟨_, rfl⟩
          subst hw3
          have cj1 := (HJ3.out w3 S3.out).1
          clear C1 C2 S1 S2 BE
          go_wp2_with fail
          refine (cj1).mono ?_
          rintro e w4 ⟨rfl, b⟩
          have M4 : Hid (Mx w4) := M3.out.kept b
          have B4 : Hid (Below w.heap.size w w4) := B3.out.trans (b.mono B3.out.size)
          clear b
          have S4 : Hid (SS w4 (.slice a j cap) xs) := S0.out.kept (B4.out)
          have cj2 := (HJ3.out w4 S4.out).2
          clear cj1
          go_wp2_with fail
          refine (cj2).mono ?_
          rintro e wq ⟨rfl, hq⟩
          replace hq := hq.symm
          subst hq
          go_wp2_with fail
          refine (P1.out w4).mono ?_
          rintro e wq ⟨rfl, hq⟩
          replace hq := hq.symm
          subst hq
          go_wp2_with fail
          refine (P2.out w4).mono ?_
          rintro e wq ⟨rfl, hq⟩
          replace hq := hq.symm
          subst hq
          go_wp2_with fail
          refine (Q1.out w4).mono ?_
          rintro e wq ⟨rfl, hq⟩
          replace hq := hq.symm
          subst hq
          go_wp2_with fail
          refine (Q2.out w4).mono ?_
          rintro e wq ⟨rfl, hq⟩
          replace hq := hq.symm
          subst hq
          go_wp2_with fail
          refine (awake_any w4 M4.out).mono ?_
          rintro e w5 ⟨rfl, b⟩
          have M5 : Hid (Mx w5) := M4.out.kept b
          have B5 : Hid (Below w.heap.size w w5) := B4.out.trans (b.mono B4.out.size)
          clear b
          go_wp2
          go_ret
          exact ⟨rfl, B5.out⟩

theorem contract (H : Type) (enc : TypeId × Value → H) (W : World) (base : Nat) (args : Array Value) (ds gs : List (DataW H)) (before : List MemPlace)
    (hval : ∀ (j : Nat) t v, Tryd.f4.params[j]? = some t → args[j]? = some v → Value.okWide Tryd.prog W .any base t v)
    (hW : DataW.Whole enc Tryd.prog Tryd.f4.params.toList Rows.pathPartsSpec.vars false W args.toList ds gs before) (_hL : laidMetH Tryd.prog Rows.pathPartsRow.laid W) (hsh : W.ShapedOpen Tryd.prog)
    (hsz0 : (DataW.weightsEach Tryd.prog (Tryd.f4.params.toList ++ Rows.pathPartsSpec.plain.varTypes Tryd.prog) (ds ++ gs)).all (· ≤ reachBytes) = true) :
    Calls Tryd.prog 4 args W fun e W' => ∃ v, e = .returned v ∧ Rows.pathPartsSpec.post enc Tryd.prog Tryd.f4 false true false false W args v W' := by
  have hW' := hW
  obtain ⟨p, q, hA0, hV, rfl, hfz, hnd⟩ := hW
  have hA : DataW.TrodAll enc Tryd.prog W 0 (fun _ => true) true Tryd.f4.params.toList args.toList ds p := hA0
  rw [Tryd.params4] at hA hval hsz0
  obtain ⟨v0, vs0, d0, ds0, p0, q0, hargs, rfl, rfl, h0, r0⟩ := trodAll_cons hA
  obtain ⟨v1, vs1, d1, ds1, p1, q1, rfl, rfl, rfl, h1, r1⟩ := trodAll_cons r0
  obtain ⟨rfl, rfl, rfl⟩ := trodAll_nil r1
  obtain rfl : args = #[v0, v1] := by cases args; simp_all
  obtain ⟨rfl, rfl⟩ := trodVars_none hV
  obtain ⟨a0, rfl, rfl, rfl, w0⟩ := open_string Tryd.underlying9 (hval 0 9 v0 rfl rfl) h0
  have k1 := h1
  have lt1 : ∀ x ∈ p1, x.block < W.heap.size := by obtain ⟨m, hm⟩ := k1; exact DataW.trod_lt m _ _ _ hm
  obtain ⟨a1, len1, cap1, Sx1, rfl, w1⟩ := strs_open (hval 1 28 v1 rfl rfl) h1
  clear hA0
  refine (walk a0 a1 len1 cap1 Sx1 W (mx_of hsh) w0 w1).mono fun e W' ⟨he, bel⟩ => ?_
  subst he
  exact ⟨_, rfl, _, _, _, [], _, [], hW', trodAll_mk1 (shut_bool Tryd.underlying4 _), (trodAll_cons_mk (shut_string Tryd.underlying9 w0) (trodAll_cons_mk (Below.trod laidOut (by kernel_rfl) (of_decide_eq_true (by kernel_rfl)) k1 bel lt1) trodAll_mk0)), rfl, bel.frame _, fun h => by cases h⟩

theorem laid_met (os : Os) : laidMet Tryd.prog Rows.pathPartsRow.laid (({ World.holding Tryd.prog os ⟨#[], #[], []⟩ with heap := ((((World.holding Tryd.prog os ⟨#[], #[], []⟩).heap.modify 0 (fun
      | .cells _ t frozen => .cells #[.int .i64 0] t frozen
      | o => o)).modify 1 (fun
      | .cells _ t frozen => .cells firstCells t frozen
      | o => o)).modify 2 (fun
      | .cells _ t frozen => .cells rangeCells t frozen
      | o => o)) } : World).forCall (fun _ _ => 0) ⟨#[], #[.string ⟨#[]⟩, .slice none 0 0], []⟩).memory :=
  laidMet_of_run' 8 (by kernel_rfl) (by kernel_rfl)
theorem reads (os : Os) {H : Type} (enc : TypeId × Value → H) : ∃ places, DataW.whole enc Tryd.prog (({ World.holding Tryd.prog os ⟨#[], #[], []⟩ with heap := ((((World.holding Tryd.prog os ⟨#[], #[], []⟩).heap.modify 0 (fun
      | .cells _ t frozen => .cells #[.int .i64 0] t frozen
      | o => o)).modify 1 (fun
      | .cells _ t frozen => .cells firstCells t frozen
      | o => o)).modify 2 (fun
      | .cells _ t frozen => .cells rangeCells t frozen
      | o => o)) } : World).forCall (fun _ _ => 0) ⟨#[], #[.string ⟨#[]⟩, .slice none 0 0], []⟩).memory Tryd.f4.params.toList Rows.pathPartsSpec.vars false #[Value.string ⟨#[]⟩, .slice none 0 0].toList 8 = some ([.lit (.string []), .nil], [], places) :=
  ⟨[], by kernel_rfl⟩

set_option maxRecDepth 100000 in
theorem lifted (os : Os) (started : os.Started) (H : Type) (enc : TypeId × Value → H) (F : Stop.Interp) :
    ReturnsInHanded {} Tryd.checked os 4 .any ((OpenSpec.ofChange Rows.pathPartsSpec).preRow enc Tryd.prog Tryd.f4 Rows.pathPartsRow.domain false Rows.pathPartsRow.laid) (((OpenSpec.ofChange Rows.pathPartsSpec).at F).post enc Tryd.prog Tryd.f4 false true false false) := by
  obtain ⟨places, hx⟩ := reads os enc
  refine returnsInHanded_of_row (C := Tryd.checked) (s := OpenSpec.ofChange Rows.pathPartsSpec) own started (by kernel_rfl) Tryd.func4
    (witness_row_at (enc := enc) (C := Tryd.checked) false ({ World.holding Tryd.prog os ⟨#[], #[], []⟩ with heap := ((((World.holding Tryd.prog os ⟨#[], #[], []⟩).heap.modify 0 (fun
      | .cells _ t frozen => .cells #[.int .i64 0] t frozen
      | o => o)).modify 1 (fun
      | .cells _ t frozen => .cells firstCells t frozen
      | o => o)).modify 2 (fun
      | .cells _ t frozen => .cells rangeCells t frozen
      | o => o)) } : World) #[.string ⟨#[]⟩, .slice none 0 0] rfl (by kernel_rfl) (by kernel_rfl) (by kernel_rfl)
      (OpenSpec.preRow_of_cond 8 hx (by kernel_rfl) (fun k hk => by cases hk) (by kernel_rfl) (laid_met os))) ?_
  intro W base args ds gs before hval hW _ _ hsz hL hsh _
  exact contract H enc W base args ds gs before hval hW hL hsh hsz

theorem said : Rows.PathPartsSaid :=
  OpenClaim.holds_of_cond 4 Tryd.f4 rfl rfl rfl rfl rfl rfl rfl ⟨rfl, rfl, rfl, rfl, rfl⟩ rfl rfl rfl rfl rfl (by kernel_rfl) Tryd.func4 (by kernel_rfl)
    (of_decide_eq_true (by kernel_rfl)) (by unfold Func.isWrapper; first | (rw [if_pos (by decide +kernel)]; kernel_rfl) | (rw [if_neg (by decide +kernel)]; exact ⟨rfl, rfl⟩))
    (fun os started H enc _ F => by rw [OpenClaim.pre_eq_preRow]; exact lifted os started H enc F)

theorem plain (f : FuncId) (fn : Func) (hf : Tryd.pinned.checked.prog.funcNamed "sumpter/sumpterlaw07.PathParts" = some f) (hfn : Tryd.pinned.checked.prog.funcs[f]? = some fn) :
    false = Tryd.pinned.checked.prog.looks [] ∧ ∀ (j : Nat) t, fn.params[j]? = some t → Tryd.pinned.checked.prog.wantsStandIn t = false := by
  obtain rfl : f = 4 := Option.some.inj ((show Tryd.prog.funcNamed "sumpter/sumpterlaw07.PathParts" = some 4 by kernel_rfl).symm.trans hf) |>.symm
  obtain rfl : fn = Tryd.f4 := (Option.some.inj (Tryd.func4.symm.trans hfn)).symm
  refine ⟨by kernel_rfl, fun j t ht => ?_⟩
  rw [Tryd.params4] at ht
  have hm : t ∈ [9, 28] := by simpa using Array.mem_of_getElem? ht
  have hall : ([9, 28].all fun u => !Tryd.prog.wantsStandIn u) = true := by kernel_rfl
  exact (show Tryd.prog.wantsStandIn t = false by simpa using List.all_eq_true.1 hall t hm)
end Go.Proofs.YtgppjbfmpjabcaaDoor.pathParts

namespace Go.Proofs.YtgppjbfmpjabcaaDoor
/-- The card of PathParts. -/
theorem pathParts_card : Rows.PathPartsCardSaid :=
  Claim7.holds_tied_plain_at .later [] _ _ _ _ pathParts.said (fun _ h => by cases h) (by kernel_rfl) (fun _ h => by cases h) pathParts_row_tie rfl ⟨rfl, rfl⟩ (by kernel_rfl) rfl pathParts.plain (by kernel_rfl)
#print axioms pathParts_card
end Go.Proofs.YtgppjbfmpjabcaaDoor
