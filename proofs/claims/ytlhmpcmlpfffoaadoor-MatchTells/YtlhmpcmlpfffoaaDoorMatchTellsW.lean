/-
  The walk of MatchTells.
-/
import Derived.Test.YtlhmpcmlpfffoaaDoorFr
import Derived.Test.YtlhmpcmlpfffoaaDoorXt
namespace Go.Proofs.YtlhmpcmlpfffoaaDoor.matchTells
open Go.ChangeShapes Go.WideShapes Go.ChangeAt Go.RowKit Go.Deep Go.ChangeMaps
set_option maxRecDepth 100000
theorem cpd_nonneg : ∀ l : List Xp, (∀ x ∈ l, 0 ≤ x.n) → 0 ≤ cpd l
  | [], _ => by simp [cpd]
  | x :: l, h => by
    have ih := cpd_nonneg l fun y hy => h y (by simp [hy])
    have hx := h x (by simp)
    have e : cpd (x :: l) = (if x.c = true then x.n else 0) + cpd l := by simp [cpd]
    rw [e]
    split <;> omega
theorem guardH : Tryd.prog.eqGuardType Tryd.prog.depth 48 = false := by kernel_rfl
theorem neqH_run (A B : List Int) (hA : A.length = 32) (hB : B.length = 32) (w : World) : (binOp .neq 48 (.agg (u8c A)) (.agg (u8c B))).run Tryd.prog w = .ok (.bool (!(A == B))) w := by
  have h' : (Op.equal 48 (.agg (u8c A)) (.agg (u8c B))).run Tryd.prog w = .ok (A == B) w := eq_u8c 9998 A B hA hB w
  show (do pure (.bool (!(← Op.equal 48 (.agg (u8c A)) (.agg (u8c B))))) : Sem Value).run Tryd.prog w = _
  rw [Sem.run_bind, h']
  rfl
theorem wp_neqH {w : World} {o : Oper} {a : Act} {K : Act → World → Prop} {Q : Exit → Act → World → Prop} (x y : Operand) (t : TypeId) (ho : o.op = .binOp .neq 48 x y t)
    (A B : List Int) (hA : A.length = 32) (hB : B.length = 32) (hx : a.eval x = .agg (u8c A)) (hy : a.eval y = .agg (u8c B)) (h : K (a.put o.dst (.bool (!(A == B)))) w) : o.wp Tryd.prog a w K Q := by
  unfold Oper.wp
  simp only [execOp, ho, hx, hy, Sem.run_bind, run_eqGuard_agg _ _ _ _ _ _ _ guardH, neqH_run A B hA hB, Result.andThen_ok, Sem.run_pure, Oper.upon]
  exact h
set_option maxHeartbeats 16000000 in
theorem walk (v0 : Value) (o : List Int) (v1 : Value) (b : List Int) (s : Int) (w : World) (hw : Ta w) (h0 : SlX w v0 o) (h1 : SlX w v1 b) (hs : (Lit.int .u8 s).wf = true) :
    Calls Tryd.prog 6 #[v0, v1, .int .u8 s] w fun e w' => e = .returned (.bool true) ∧ Below w.heap.size w w' := by
  have s1 := bounds_u8 hs
  obtain ⟨k, hk⟩ : ∃ k : Nat, (1 : Int) + s % 64 = k := ⟨(1 + s % 64).toNat, by omega⟩
  have k1 : 1 ≤ k := by omega
  have k2 : k ≤ 64 := by omega
  have ht : Int.tmod s 64 = s % 64 := Int.tmod_eq_emod_of_nonneg s1.1
  have CA : Hid (∀ W, Below w.heap.size w W → Calls Tryd.prog 9 #[] W fun e w' => e = .returned (.bool true) ∧ Below W.heap.size W w') := fun W hb => awake_any W (hw.kept hb)
  obtain ⟨a0, c0, rfl, hc0, hm0, hn0, -⟩ := id h0.1
  have H0 : Hid (SlX w (.slice a0 o.length c0) o) := h0
  obtain ⟨LO, hLO⟩ : ∃ LO, LO = o.length := ⟨_, rfl⟩
  have HLO : Hid (LO = o.length) := hLO
  rw [← hLO] at H0 hc0 ⊢
  have bLO : (LO : Int) ≤ 9223372036854775807 := by unfold maxLen at hm0; omega
  obtain ⟨a1, c1, rfl, hc1, hm1, hn1, -⟩ := id h1.1
  have H1 : Hid (SlX w (.slice a1 b.length c1) b) := h1
  obtain ⟨LB, hLB⟩ : ∃ LB, LB = b.length := ⟨_, rfl⟩
  have HLB : Hid (LB = b.length) := hLB
  rw [← hLB] at H1 hc1 ⊢
  have bLB : (LB : Int) ≤ 9223372036854775807 := by unfold maxLen at hm1; omega
  have HW : Hid (Ta w) := hw
  clear h0 h1 hs hw hLO hLB hm0 hm1 hn0 hn1
  by_cases h4 : 400 < LO
  · have h5 : 400 < (LO : Int) := by omega
    go_enter Tryd.func6, Tryd.ntmps6
    have ca := CA.out w (Below.refl w.heap.size w)
    go_wp2_with fail
    refine ca.mono ?_
    rintro e wz ⟨rfl, bz⟩
    have BZ : Hid (Below w.heap.size w wz) := ((Below.refl w.heap.size w)).trans (bz.mono ((Below.refl w.heap.size w)).size)
    clear ca bz
    go_wp2
    go_ret
    exact ⟨rfl, BZ.out⟩
  · have h5 : ¬ 400 < (LO : Int) := by omega
    by_cases h6 : 400 < LB
    · have h7 : 400 < (LB : Int) := by omega
      go_enter Tryd.func6, Tryd.ntmps6
      have ca := CA.out w (Below.refl w.heap.size w)
      go_wp2_with fail
      refine ca.mono ?_
      rintro e wz ⟨rfl, bz⟩
      have BZ : Hid (Below w.heap.size w wz) := ((Below.refl w.heap.size w)).trans (bz.mono ((Below.refl w.heap.size w)).size)
      clear ca bz
      go_wp2
      go_ret
      exact ⟨rfl, BZ.out⟩
    · have h7 : ¬ 400 < (LB : Int) := by omega
      have B0 : Hid (Below w.heap.size w w) := Below.refl _ _
      have C1 := index_any _ o k w H0.out.1 HW.out (by omega) (by omega) (by rw [← HLO.out]; omega)
      have HSN : Hid ((sums o k).length ≤ 4096) := by unfold Hid; rw [sums_len, ← HLO.out]; have := Nat.div_le_self LO k; omega
      have HTE := srch_tells o b k (by omega)
      have HNB : Hid (Nb (srch (bfnd (sums o k) k) k b 0 0 [])) := srch_nb (sums o k) k b (by omega) (by omega) HSN.out (by rw [← HLB.out]; omega)
      have HLIT : Hid (lit (srch (bfnd (sums o k) k) k b 0 0 []) ≤ 1000000) := by
        have h1 := cpd_nonneg _ fun x hx => ((srch_bd (sums o k) k b (by omega) (by omega) HSN.out).2 x hx).2.2.1
        have h2 := HTE.2
        unfold Hid
        rw [← HLB.out] at h2
        omega
      have HRN : Hid ((srch (bfnd (sums o k) k) k b 0 0 []).length ≤ LB) := by
        unfold Hid
        have := srch_len (bfnd (sums o k) k) k b (by omega)
        rwa [← HLB.out] at this
      rw [← HLB.out] at HTE
      go_enter Tryd.func6, Tryd.ntmps6
      go_wp2_with fail
      refine C1.mono ?_
      rintro e w1 ⟨B, g, m, N, rfl, ix, b1⟩
      clear C1
      have B1 : Hid (Below w.heap.size w w1) := B0.out.trans (b1.mono B0.out.size)
      have C2 := search_any w1 B g m k N (sums o k) ix _ b (H1.out.kept B1.out) (HW.out.kept B1.out) (by omega) (by omega) HSN.out (by rw [← HLB.out]; omega)
      clear ix b1
      go_wp2_with fail
      refine C2.mono ?_
      rintro e w2 ⟨v2, rfl, o2, b2⟩
      clear C2
      have B2 : Hid (Below w.heap.size w w2) := B1.out.trans (b2.mono B1.out.size)
      have O2 : Hid (∀ x, Below w2.heap.size w2 x → XS x v2 (srch (bfnd (sums o k) k) k b 0 0 [])) := fun x hx => (o2.below hx).xs
      obtain ⟨ra, rc, rfl, -⟩ := o2.shape
      clear o2 b2 HSN
      generalize srch (bfnd (sums o k) k) k b 0 0 [] = R at *
      obtain ⟨⟨htot, hok⟩, hct⟩ := HTE
      have HTOT : Hid (tot R = LB) := htot
      have HOK : Hid (∀ i, i < R.length → okAt o b k (tot (R.take i)) (atX R i)) := hok
      have HCT : Hid (cpd R + (lit R : Int) = (LB : Int)) := hct
      have HTS : Hid (∀ j, j < R.length → tot (R.take (j + 1)) = tot (R.take j) + xl (atX R j)) := tot_succ R
      have HTL : Hid (R.take R.length = R) := List.take_length
      obtain ⟨RL, hRL⟩ : ∃ RL, RL = R.length := ⟨_, rfl⟩
      have HRL : Hid (RL = R.length) := hRL
      rw [← hRL] at HOK HTS HTL O2 HRN ⊢
      have hrn := HRN.out
      clear htot hok hct hRL HRN
      go_wp2_with fail
      go_loopw [11, 12] (fun p q wr => ∃ j : Nat, j ≤ RL ∧ q = .int .i64 j ∧ p = .int .i64 (tot (R.take j)) ∧ Below w2.heap.size w2 wr) (fun _ q _ => RL - (intOf q).toNat)
      case atStart => exact ⟨0, by omega, rfl, rfl, Below.refl _ _⟩
      case round =>
        obtain ⟨j, hj, rfl, rfl, bel⟩ := hrel
        have HB : Hid (Below w2.heap.size w2 wr) := bel
        have BWR : Hid (Below w.heap.size w wr) := B2.out.trans (bel.mono B2.out.size)
        clear bel
        by_cases hlt : j < RL
        · have lt2 : (j : Int) < (RL : Int) := by omega
          have lt3 : (0 : Int) ≤ (j : Int) := by omega
          obtain ⟨bb, off, ua, un, uc, rfl, k0, k1', k2', k3, hun, s1'⟩ := (O2.out wr HB.out).at j (by rw [← HRL.out]; exact hlt)
          have hts := HTS.out j hlt
          have hok := HOK.out j hlt
          have HP : Hid (tot (R.take j) = tot (R.take j)) := rfl
          generalize tot (R.take j) = P at *
          unfold xl at hts
          rcases hok with ⟨q1, q2, q3, q4⟩ | ⟨q1, A, K, q2, q3, q4, q5, q6, q7⟩
          · as_aux_lemma =>
              rw [q1] at k0 hts
              rw [if_neg (by decide)] at hts
              rw [← hun] at q3 q4 hts
              have hp : 0 < un := by rw [hun]; exact List.length_pos_iff.2 q2
              have FT : Hid (∀ x, From wr x → x.cell? ⟨bb, off + j * 4 + 3, none⟩ = some (.slice ua un uc)) := fun x hx => (Below.cell hx (World.block_lt_of_cell? _ _ k3)).trans k3
              have FC1 : Hid (∀ x, From wr x → (convert 22 9 (.slice ua un uc)).run Tryd.prog x = .ok (.string (strB (cut b P un))) x) := fun x hx => by
                have := (s1'.kept hx).conv
                rwa [q4] at this
              obtain ⟨xb, xo, rfl⟩ : ∃ xb xo, a1 = some ⟨xb, xo, none⟩ := by
                obtain ⟨a', c', e', _, _, _, g4⟩ := H1.out.1
                cases e'
                rcases g4 with g4 | ⟨_, b', off', e, _⟩
                · have := HLB.out; omega
                · exact ⟨_, _, e⟩
              have FC2 : Hid (∀ x, From wr x → (convert 22 9 (.slice (some ⟨xb, xo + P, none⟩) un (c1 - P))).run Tryd.prog x = .ok (.string (strB (cut b P un))) x) := fun x hx =>
                (((H1.out.1.kept (BWR.out.trans (Below.mono hx BWR.out.size))).drop P (by rw [← HLB.out] at q3; omega)).take un (by rw [← HLB.out] at q3; omega)).conv
              have FB : Hid (∀ x, From wr x → Below w2.heap.size w2 x) := fun x hx => HB.out.trans (Below.mono hx HB.out.size)
              rw [← HLB.out] at q3
              have e1 : ((un : Int) == 0) = false := by
                have : ¬ (un : Int) = 0 := by omega
                simpa using this
              have e2 : ¬ (LB : Int) < (P : Int) + (un : Int) := by omega
              have e2' : decide ((LB : Int) < (P : Int) + (un : Int)) = false := decide_eq_false e2
              have e3 : (0 : Int) ≤ (P : Int) := by omega
              have e4 : (P : Int) ≤ (P : Int) + (un : Int) := by omega
              have e5 : (P : Int) + (un : Int) ≤ (c1 : Int) := by omega
              have e6 : P + un - P = un := by omega
              have e7 : ¬ c1 = P := by omega
              have e10 : IntKind.i64.wrap ((P : Int) + (un : Int)) = (P : Int) + (un : Int) := by simp [IntKind.wrap, IntKind.bits, IntKind.signed]; omega
              have e11 : ((P : Int) + (un : Int)).toNat - P = un := by omega
              have HTN : Hid (tot (R.take (j + 1)) = P + un) := hts
              clear hts hun s1' q1 q2 q4 k1' k2'
              generalize strB (cut b P un) = S at *
              have e8 : (S.toList != S.toList) = false := by simp
              go_wp2_with fail
              refine wp_region_held_drew (S := From wr) (by kernel_rfl) ((Below.refl _ _).drew) (fun _ => ?_)
              refine wpAnyH_on ((Below.refl _ _).drew) (fun u0 hu0 bu0 => ?_)
              replace FT := on FT bu0
              replace FC1 := on FC1 bu0
              replace FC2 := on FC2 bu0
              replace FB := on FB bu0
              refine wpAnyH_take (i := 0) (oi := { dst := some 52, op := Op.move (Operand.tmp 10), type := 31, pos := "own.go:22", after := #[], guard := none }) (v := ?vd1) rfl (by kernel_rfl) (by kernel_rfl) (by kernel_rfl) (fun _ _ _ h => h) (Or.inl ⟨by rfl, ?yd1⟩) (Below.refl _ _) ?rd1
              case yd1 => (intro w hSw; go_simp; try with_reducible rfl)
              try simp only [Act.put, List.setIfInBounds_toArray, List.set_cons_zero, List.set_cons_succ]
              refine wpAnyH_take (i := 1) (oi := { dst := some 53, op := Op.move (Operand.tmp 12), type := 3, pos := "own.go:22", after := #[], guard := none }) (v := ?vd2) rfl (by kernel_rfl) (by kernel_rfl) (by kernel_rfl) (fun _ _ _ h => h) (Or.inl ⟨by rfl, ?yd2⟩) (Below.refl _ _) ?rd2
              case yd2 => (intro w hSw; go_simp; try with_reducible rfl)
              try simp only [Act.put, List.setIfInBounds_toArray, List.set_cons_zero, List.set_cons_succ]
              refine wpAnyH_take (i := 2) (oi := { dst := some 54, op := Op.indexAddr 31 (Operand.tmp 52) (Operand.tmp 53), type := 0, pos := "own.go:22", after := #[{ on := 0, ground := Ground.data }, { on := 1, ground := Ground.data }], guard := none }) (v := ?vd3) rfl (by kernel_rfl) (by kernel_rfl) (by kernel_rfl) (fun _ _ _ h => h) (Or.inl ⟨by rfl, ?yd3⟩) (Below.refl _ _) ?rd3
              case yd3 => (intro w hSw; go_simp; try with_reducible rfl)
              try simp only [Act.put, List.setIfInBounds_toArray, List.set_cons_zero, List.set_cons_succ]
              refine wpAnyH_take (i := 3) (oi := { dst := some 55, op := Op.fieldAddr 45 (Operand.tmp 54) 3, type := 0, pos := "own.go:22", after := #[{ on := 2, ground := Ground.data }], guard := none }) (v := ?vd4) rfl (by kernel_rfl) (by kernel_rfl) (by kernel_rfl) (fun _ _ _ h => h) (Or.inl ⟨by rfl, ?yd4⟩) (Below.refl _ _) ?rd4
              case yd4 => (intro w hSw; go_simp; try with_reducible rfl)
              try simp only [Act.put, List.setIfInBounds_toArray, List.set_cons_zero, List.set_cons_succ]
              refine wpAnyH_take (i := 4) (oi := { dst := some 56, op := Op.load 22 (Operand.tmp 55), type := 22, pos := "own.go:22", after := #[{ on := 3, ground := Ground.data }], guard := none }) (v := ?vd5) rfl (by kernel_rfl) (by kernel_rfl) (by kernel_rfl) (fun _ _ _ h => h) (Or.inl ⟨by rfl, ?yd5⟩) (Below.refl _ _) ?rd5
              case yd5 => (intro w hSw; have t0 := FT.out w hSw; go_simp; try with_reducible rfl)
              try simp only [Act.put, List.setIfInBounds_toArray, List.set_cons_zero, List.set_cons_succ]
              refine wpAnyH_take (i := 5) (oi := { dst := some 57, op := Op.call { callee := Callee.builtin Builtin.len, args := #[Operand.tmp 56], argTypes := #[22] }, type := 3, pos := "own.go:22", after := #[{ on := 4, ground := Ground.data }], guard := none }) (v := ?vd6) rfl (by kernel_rfl) (by kernel_rfl) (by kernel_rfl) (fun _ _ _ h => h) (Or.inl ⟨by rfl, ?yd6⟩) (Below.refl _ _) ?rd6
              case yd6 => (intro w hSw; go_simp; try with_reducible rfl)
              try simp only [Act.put, List.setIfInBounds_toArray, List.set_cons_zero, List.set_cons_succ]
              refine wpAnyH_take (i := 6) (oi := { dst := some 58, op := Op.binOp BinOp.eql 3 (Operand.tmp 57) (Operand.const (Value.int IntKind.i64 0)) 3, type := 4, pos := "own.go:22", after := #[{ on := 5, ground := Ground.data }], guard := none }) (v := ?vd7) rfl (by kernel_rfl) (by kernel_rfl) (by kernel_rfl) (fun _ _ _ h => h) (Or.inl ⟨by rfl, ?yd7⟩) (Below.refl _ _) ?rd7
              case yd7 => (intro w hSw; go_simp; try with_reducible rfl)
              try simp only [Act.put, List.setIfInBounds_toArray, List.set_cons_zero, List.set_cons_succ]
              refine wpAnyH_take (i := 7) (oi := { dst := some 59, op := Op.move (Operand.tmp 58), type := 4, pos := "own.go:22", after := #[{ on := 6, ground := Ground.data }], guard := none }) (v := ?vd8) rfl (by kernel_rfl) (by kernel_rfl) (by kernel_rfl) (fun _ _ _ h => h) (Or.inl ⟨by rfl, ?yd8⟩) (Below.refl _ _) ?rd8
              case yd8 => (intro w hSw; go_simp; try with_reducible rfl)
              try simp only [Act.put, List.setIfInBounds_toArray, List.set_cons_zero, List.set_cons_succ]
              refine wpAnyH_take (i := 8) (oi := { dst := some 60, op := Op.move (Operand.tmp 11), type := 3, pos := "own.go:22", after := #[{ on := 7, ground := Ground.guard }], guard := some (7, false) }) (v := ?vd9) rfl (by kernel_rfl) (by kernel_rfl) (by kernel_rfl) (fun _ _ _ h => h) (Or.inl ⟨by rfl, ?yd9⟩) (Below.refl _ _) ?rd9
              case yd9 => (intro w hSw; go_simp; try with_reducible rfl)
              try simp only [Act.put, List.setIfInBounds_toArray, List.set_cons_zero, List.set_cons_succ]
              refine wpAnyH_take (i := 9) (oi := { dst := some 61, op := Op.move (Operand.tmp 10), type := 31, pos := "own.go:22", after := #[{ on := 7, ground := Ground.guard }], guard := some (7, false) }) (v := ?vd10) rfl (by kernel_rfl) (by kernel_rfl) (by kernel_rfl) (fun _ _ _ h => h) (Or.inl ⟨by rfl, ?yd10⟩) (Below.refl _ _) ?rd10
              case yd10 => (intro w hSw; go_simp; try with_reducible rfl)
              try simp only [Act.put, List.setIfInBounds_toArray, List.set_cons_zero, List.set_cons_succ]
              refine wpAnyH_take (i := 10) (oi := { dst := some 62, op := Op.move (Operand.tmp 12), type := 3, pos := "own.go:22", after := #[{ on := 7, ground := Ground.guard }], guard := some (7, false) }) (v := ?vd11) rfl (by kernel_rfl) (by kernel_rfl) (by kernel_rfl) (fun _ _ _ h => h) (Or.inl ⟨by rfl, ?yd11⟩) (Below.refl _ _) ?rd11
              case yd11 => (intro w hSw; go_simp; try with_reducible rfl)
              try simp only [Act.put, List.setIfInBounds_toArray, List.set_cons_zero, List.set_cons_succ]
              refine wpAnyH_take (i := 11) (oi := { dst := some 63, op := Op.indexAddr 31 (Operand.tmp 61) (Operand.tmp 62), type := 0, pos := "own.go:22", after := #[{ on := 9, ground := Ground.data }, { on := 10, ground := Ground.data }, { on := 7, ground := Ground.guard }], guard := some (7, false) }) (v := ?vd12) rfl (by kernel_rfl) (by kernel_rfl) (by kernel_rfl) (fun _ _ _ h => h) (Or.inl ⟨by rfl, ?yd12⟩) (Below.refl _ _) ?rd12
              case yd12 => (intro w hSw; go_simp; try with_reducible rfl)
              try simp only [Act.put, List.setIfInBounds_toArray, List.set_cons_zero, List.set_cons_succ]
              refine wpAnyH_take (i := 12) (oi := { dst := some 64, op := Op.fieldAddr 45 (Operand.tmp 63) 3, type := 0, pos := "own.go:22", after := #[{ on := 11, ground := Ground.data }, { on := 7, ground := Ground.guard }], guard := some (7, false) }) (v := ?vd13) rfl (by kernel_rfl) (by kernel_rfl) (by kernel_rfl) (fun _ _ _ h => h) (Or.inl ⟨by rfl, ?yd13⟩) (Below.refl _ _) ?rd13
              case yd13 => (intro w hSw; go_simp; try with_reducible rfl)
              try simp only [Act.put, List.setIfInBounds_toArray, List.set_cons_zero, List.set_cons_succ]
              refine wpAnyH_take (i := 13) (oi := { dst := some 65, op := Op.load 22 (Operand.tmp 64), type := 22, pos := "own.go:22", after := #[{ on := 12, ground := Ground.data }, { on := 7, ground := Ground.guard }], guard := some (7, false) }) (v := ?vd14) rfl (by kernel_rfl) (by kernel_rfl) (by kernel_rfl) (fun _ _ _ h => h) (Or.inl ⟨by rfl, ?yd14⟩) (Below.refl _ _) ?rd14
              case yd14 => (intro w hSw; have t0 := FT.out w hSw; go_simp; try with_reducible rfl)
              try simp only [Act.put, List.setIfInBounds_toArray, List.set_cons_zero, List.set_cons_succ]
              refine wpAnyH_take (i := 14) (oi := { dst := some 66, op := Op.call { callee := Callee.builtin Builtin.len, args := #[Operand.tmp 65], argTypes := #[22] }, type := 3, pos := "own.go:22", after := #[{ on := 13, ground := Ground.data }, { on := 7, ground := Ground.guard }], guard := some (7, false) }) (v := ?vd15) rfl (by kernel_rfl) (by kernel_rfl) (by kernel_rfl) (fun _ _ _ h => h) (Or.inl ⟨by rfl, ?yd15⟩) (Below.refl _ _) ?rd15
              case yd15 => (intro w hSw; go_simp; try with_reducible rfl)
              try simp only [Act.put, List.setIfInBounds_toArray, List.set_cons_zero, List.set_cons_succ]
              refine wpAnyH_take (i := 15) (oi := { dst := some 67, op := Op.binOp BinOp.add 3 (Operand.tmp 60) (Operand.tmp 66) 3, type := 3, pos := "own.go:22", after := #[{ on := 8, ground := Ground.data }, { on := 14, ground := Ground.data }, { on := 7, ground := Ground.guard }], guard := some (7, false) }) (v := .int .i64 ((P : Int) + (un : Int))) rfl (by kernel_rfl) (by kernel_rfl) (by kernel_rfl) (fun _ _ _ h => h) (Or.inl ⟨by rfl, ?yd16⟩) (Below.refl _ _) ?rd16
              case yd16 => (intro w hSw; go_simp; try with_reducible rfl)
              try simp only [Act.put, List.setIfInBounds_toArray, List.set_cons_zero, List.set_cons_succ]
              refine wpAnyH_take (i := 16) (oi := { dst := some 68, op := Op.move (Operand.tmp 1), type := 22, pos := "own.go:22", after := #[{ on := 7, ground := Ground.guard }], guard := some (7, false) }) (v := ?vd17) rfl (by kernel_rfl) (by kernel_rfl) (by kernel_rfl) (fun _ _ _ h => h) (Or.inl ⟨by rfl, ?yd17⟩) (Below.refl _ _) ?rd17
              case yd17 => (intro w hSw; go_simp; try with_reducible rfl)
              try simp only [Act.put, List.setIfInBounds_toArray, List.set_cons_zero, List.set_cons_succ]
              refine wpAnyH_take (i := 17) (oi := { dst := some 69, op := Op.call { callee := Callee.builtin Builtin.len, args := #[Operand.tmp 68], argTypes := #[22] }, type := 3, pos := "own.go:22", after := #[{ on := 16, ground := Ground.data }, { on := 7, ground := Ground.guard }], guard := some (7, false) }) (v := ?vd18) rfl (by kernel_rfl) (by kernel_rfl) (by kernel_rfl) (fun _ _ _ h => h) (Or.inl ⟨by rfl, ?yd18⟩) (Below.refl _ _) ?rd18
              case yd18 => (intro w hSw; go_simp; try with_reducible rfl)
              try simp only [Act.put, List.setIfInBounds_toArray, List.set_cons_zero, List.set_cons_succ]
              refine wpAnyH_take (i := 18) (oi := { dst := some 70, op := Op.binOp BinOp.gtr 3 (Operand.tmp 67) (Operand.tmp 69) 3, type := 4, pos := "own.go:22", after := #[{ on := 15, ground := Ground.data }, { on := 17, ground := Ground.data }, { on := 7, ground := Ground.guard }], guard := some (7, false) }) (v := .bool false) rfl (by kernel_rfl) (by kernel_rfl) (by kernel_rfl) (fun _ _ _ h => h) (Or.inl ⟨by rfl, ?yd19⟩) (Below.refl _ _) ?rd19
              case yd19 => (intro w hSw; go_simp; try with_reducible rfl)
              try simp only [Act.put, List.setIfInBounds_toArray, List.set_cons_zero, List.set_cons_succ]
              refine wpAnyH_take (i := 19) (oi := { dst := some 71, op := Op.pick (Operand.tmp 59) (Operand.const (Value.bool true)) (Operand.tmp 70), type := 4, pos := "own.go:22", after := #[{ on := 7, ground := Ground.data }, { on := 18, ground := Ground.data }], guard := none }) (v := .bool false) rfl (by kernel_rfl) (by kernel_rfl) (by kernel_rfl) (fun _ _ _ h => h) (Or.inl ⟨by rfl, ?yd20⟩) (Below.refl _ _) ?rd20
              case yd20 => (intro w hSw; go_simp; try with_reducible rfl)
              try simp only [Act.put, List.setIfInBounds_toArray, List.set_cons_zero, List.set_cons_succ]
              refine wpAnyH_take (i := 20) (oi := { dst := some 72, op := Op.move (Operand.tmp 71), type := 4, pos := "own.go:22", after := #[{ on := 19, ground := Ground.data }, { on := 7, ground := Ground.chain }], guard := none }) (v := .bool false) rfl (by kernel_rfl) (by kernel_rfl) (by kernel_rfl) (fun _ _ _ h => h) (Or.inl ⟨by rfl, ?yd21⟩) (Below.refl _ _) ?rd21
              case yd21 => (intro w hSw; go_simp; try with_reducible rfl)
              try simp only [Act.put, List.setIfInBounds_toArray, List.set_cons_zero, List.set_cons_succ]
              refine wpAnyH_take (i := 21) (oi := { dst := some 73, op := Op.move (Operand.tmp 10), type := 31, pos := "own.go:22", after := #[{ on := 20, ground := Ground.guard }], guard := some (20, false) }) (v := ?vd22) rfl (by kernel_rfl) (by kernel_rfl) (by kernel_rfl) (fun _ _ _ h => h) (Or.inl ⟨by rfl, ?yd22⟩) (Below.refl _ _) ?rd22
              case yd22 => (intro w hSw; go_simp; try with_reducible rfl)
              try simp only [Act.put, List.setIfInBounds_toArray, List.set_cons_zero, List.set_cons_succ]
              refine wpAnyH_take (i := 22) (oi := { dst := some 74, op := Op.move (Operand.tmp 12), type := 3, pos := "own.go:22", after := #[{ on := 20, ground := Ground.guard }], guard := some (20, false) }) (v := ?vd23) rfl (by kernel_rfl) (by kernel_rfl) (by kernel_rfl) (fun _ _ _ h => h) (Or.inl ⟨by rfl, ?yd23⟩) (Below.refl _ _) ?rd23
              case yd23 => (intro w hSw; go_simp; try with_reducible rfl)
              try simp only [Act.put, List.setIfInBounds_toArray, List.set_cons_zero, List.set_cons_succ]
              refine wpAnyH_take (i := 23) (oi := { dst := some 75, op := Op.indexAddr 31 (Operand.tmp 73) (Operand.tmp 74), type := 0, pos := "own.go:22", after := #[{ on := 21, ground := Ground.data }, { on := 22, ground := Ground.data }, { on := 20, ground := Ground.guard }], guard := some (20, false) }) (v := ?vd24) rfl (by kernel_rfl) (by kernel_rfl) (by kernel_rfl) (fun _ _ _ h => h) (Or.inl ⟨by rfl, ?yd24⟩) (Below.refl _ _) ?rd24
              case yd24 => (intro w hSw; go_simp; try with_reducible rfl)
              try simp only [Act.put, List.setIfInBounds_toArray, List.set_cons_zero, List.set_cons_succ]
              refine wpAnyH_take (i := 24) (oi := { dst := some 76, op := Op.fieldAddr 45 (Operand.tmp 75) 3, type := 0, pos := "own.go:22", after := #[{ on := 23, ground := Ground.data }, { on := 20, ground := Ground.guard }], guard := some (20, false) }) (v := ?vd25) rfl (by kernel_rfl) (by kernel_rfl) (by kernel_rfl) (fun _ _ _ h => h) (Or.inl ⟨by rfl, ?yd25⟩) (Below.refl _ _) ?rd25
              case yd25 => (intro w hSw; go_simp; try with_reducible rfl)
              try simp only [Act.put, List.setIfInBounds_toArray, List.set_cons_zero, List.set_cons_succ]
              refine wpAnyH_take (i := 25) (oi := { dst := some 77, op := Op.load 22 (Operand.tmp 76), type := 22, pos := "own.go:22", after := #[{ on := 24, ground := Ground.data }, { on := 20, ground := Ground.guard }], guard := some (20, false) }) (v := ?vd26) rfl (by kernel_rfl) (by kernel_rfl) (by kernel_rfl) (fun _ _ _ h => h) (Or.inl ⟨by rfl, ?yd26⟩) (Below.refl _ _) ?rd26
              case yd26 => (intro w hSw; have t0 := FT.out w hSw; go_simp; try with_reducible rfl)
              try simp only [Act.put, List.setIfInBounds_toArray, List.set_cons_zero, List.set_cons_succ]
              refine wpAnyH_take (i := 26) (oi := { dst := some 78, op := Op.convert 22 9 (Operand.tmp 77), type := 9, pos := "own.go:22", after := #[{ on := 25, ground := Ground.data }, { on := 20, ground := Ground.guard }], guard := some (20, false) }) (v := .string S) rfl (by kernel_rfl) (by kernel_rfl) (by kernel_rfl) (fun _ _ _ h => h) (Or.inl ⟨by rfl, ?yd27⟩) (Below.refl _ _) ?rd27
              case yd27 => (intro w hSw; have t0 := FC1.out w hSw; go_simp; try with_reducible rfl)
              try simp only [Act.put, List.setIfInBounds_toArray, List.set_cons_zero, List.set_cons_succ]
              refine wpAnyH_take (i := 27) (oi := { dst := some 79, op := Op.move (Operand.tmp 1), type := 22, pos := "own.go:22", after := #[{ on := 20, ground := Ground.guard }], guard := some (20, false) }) (v := ?vd28) rfl (by kernel_rfl) (by kernel_rfl) (by kernel_rfl) (fun _ _ _ h => h) (Or.inl ⟨by rfl, ?yd28⟩) (Below.refl _ _) ?rd28
              case yd28 => (intro w hSw; go_simp; try with_reducible rfl)
              try simp only [Act.put, List.setIfInBounds_toArray, List.set_cons_zero, List.set_cons_succ]
              refine wpAnyH_take (i := 28) (oi := { dst := some 80, op := Op.move (Operand.tmp 11), type := 3, pos := "own.go:22", after := #[{ on := 20, ground := Ground.guard }], guard := some (20, false) }) (v := ?vd29) rfl (by kernel_rfl) (by kernel_rfl) (by kernel_rfl) (fun _ _ _ h => h) (Or.inl ⟨by rfl, ?yd29⟩) (Below.refl _ _) ?rd29
              case yd29 => (intro w hSw; go_simp; try with_reducible rfl)
              try simp only [Act.put, List.setIfInBounds_toArray, List.set_cons_zero, List.set_cons_succ]
              refine wpAnyH_take (i := 29) (oi := { dst := some 81, op := Op.move (Operand.tmp 11), type := 3, pos := "own.go:22", after := #[{ on := 20, ground := Ground.guard }], guard := some (20, false) }) (v := ?vd30) rfl (by kernel_rfl) (by kernel_rfl) (by kernel_rfl) (fun _ _ _ h => h) (Or.inl ⟨by rfl, ?yd30⟩) (Below.refl _ _) ?rd30
              case yd30 => (intro w hSw; go_simp; try with_reducible rfl)
              try simp only [Act.put, List.setIfInBounds_toArray, List.set_cons_zero, List.set_cons_succ]
              refine wpAnyH_take (i := 30) (oi := { dst := some 82, op := Op.move (Operand.tmp 10), type := 31, pos := "own.go:22", after := #[{ on := 20, ground := Ground.guard }], guard := some (20, false) }) (v := ?vd31) rfl (by kernel_rfl) (by kernel_rfl) (by kernel_rfl) (fun _ _ _ h => h) (Or.inl ⟨by rfl, ?yd31⟩) (Below.refl _ _) ?rd31
              case yd31 => (intro w hSw; go_simp; try with_reducible rfl)
              try simp only [Act.put, List.setIfInBounds_toArray, List.set_cons_zero, List.set_cons_succ]
              refine wpAnyH_take (i := 31) (oi := { dst := some 83, op := Op.move (Operand.tmp 12), type := 3, pos := "own.go:22", after := #[{ on := 20, ground := Ground.guard }], guard := some (20, false) }) (v := ?vd32) rfl (by kernel_rfl) (by kernel_rfl) (by kernel_rfl) (fun _ _ _ h => h) (Or.inl ⟨by rfl, ?yd32⟩) (Below.refl _ _) ?rd32
              case yd32 => (intro w hSw; go_simp; try with_reducible rfl)
              try simp only [Act.put, List.setIfInBounds_toArray, List.set_cons_zero, List.set_cons_succ]
              refine wpAnyH_take (i := 32) (oi := { dst := some 84, op := Op.indexAddr 31 (Operand.tmp 82) (Operand.tmp 83), type := 0, pos := "own.go:22", after := #[{ on := 30, ground := Ground.data }, { on := 31, ground := Ground.data }, { on := 20, ground := Ground.guard }], guard := some (20, false) }) (v := ?vd33) rfl (by kernel_rfl) (by kernel_rfl) (by kernel_rfl) (fun _ _ _ h => h) (Or.inl ⟨by rfl, ?yd33⟩) (Below.refl _ _) ?rd33
              case yd33 => (intro w hSw; go_simp; try with_reducible rfl)
              try simp only [Act.put, List.setIfInBounds_toArray, List.set_cons_zero, List.set_cons_succ]
              refine wpAnyH_take (i := 33) (oi := { dst := some 85, op := Op.fieldAddr 45 (Operand.tmp 84) 3, type := 0, pos := "own.go:22", after := #[{ on := 32, ground := Ground.data }, { on := 20, ground := Ground.guard }], guard := some (20, false) }) (v := ?vd34) rfl (by kernel_rfl) (by kernel_rfl) (by kernel_rfl) (fun _ _ _ h => h) (Or.inl ⟨by rfl, ?yd34⟩) (Below.refl _ _) ?rd34
              case yd34 => (intro w hSw; go_simp; try with_reducible rfl)
              try simp only [Act.put, List.setIfInBounds_toArray, List.set_cons_zero, List.set_cons_succ]
              refine wpAnyH_take (i := 34) (oi := { dst := some 86, op := Op.load 22 (Operand.tmp 85), type := 22, pos := "own.go:22", after := #[{ on := 33, ground := Ground.data }, { on := 20, ground := Ground.guard }], guard := some (20, false) }) (v := ?vd35) rfl (by kernel_rfl) (by kernel_rfl) (by kernel_rfl) (fun _ _ _ h => h) (Or.inl ⟨by rfl, ?yd35⟩) (Below.refl _ _) ?rd35
              case yd35 => (intro w hSw; have t0 := FT.out w hSw; go_simp; try with_reducible rfl)
              try simp only [Act.put, List.setIfInBounds_toArray, List.set_cons_zero, List.set_cons_succ]
              refine wpAnyH_take (i := 35) (oi := { dst := some 87, op := Op.call { callee := Callee.builtin Builtin.len, args := #[Operand.tmp 86], argTypes := #[22] }, type := 3, pos := "own.go:22", after := #[{ on := 34, ground := Ground.data }, { on := 20, ground := Ground.guard }], guard := some (20, false) }) (v := ?vd36) rfl (by kernel_rfl) (by kernel_rfl) (by kernel_rfl) (fun _ _ _ h => h) (Or.inl ⟨by rfl, ?yd36⟩) (Below.refl _ _) ?rd36
              case yd36 => (intro w hSw; go_simp; try with_reducible rfl)
              try simp only [Act.put, List.setIfInBounds_toArray, List.set_cons_zero, List.set_cons_succ]
              refine wpAnyH_take (i := 36) (oi := { dst := some 88, op := Op.binOp BinOp.add 3 (Operand.tmp 81) (Operand.tmp 87) 3, type := 3, pos := "own.go:22", after := #[{ on := 29, ground := Ground.data }, { on := 35, ground := Ground.data }, { on := 20, ground := Ground.guard }], guard := some (20, false) }) (v := .int .i64 ((P : Int) + (un : Int))) rfl (by kernel_rfl) (by kernel_rfl) (by kernel_rfl) (fun _ _ _ h => h) (Or.inl ⟨by rfl, ?yd37⟩) (Below.refl _ _) ?rd37
              case yd37 => (intro w hSw; go_simp; try with_reducible rfl)
              try simp only [Act.put, List.setIfInBounds_toArray, List.set_cons_zero, List.set_cons_succ]
              refine wpAnyH_take (i := 37) (oi := { dst := some 89, op := Op.slice 22 (Operand.tmp 79) (some (Operand.tmp 80)) (some (Operand.tmp 88)) none, type := 22, pos := "own.go:22", after := #[{ on := 27, ground := Ground.data }, { on := 28, ground := Ground.data }, { on := 36, ground := Ground.data }, { on := 20, ground := Ground.guard }], guard := some (20, false) }) (v := .slice (some ⟨xb, xo + P, none⟩) un (c1 - P)) rfl (by kernel_rfl) (by kernel_rfl) (by kernel_rfl) (fun _ _ _ h => h) (Or.inl ⟨by rfl, ?yd38⟩) (Below.refl _ _) ?rd38
              case yd38 => (intro w hSw; go_simp; try with_reducible rfl)
              try simp only [Act.put, List.setIfInBounds_toArray, List.set_cons_zero, List.set_cons_succ]
              refine wpAnyH_take (i := 38) (oi := { dst := some 90, op := Op.convert 22 9 (Operand.tmp 89), type := 9, pos := "own.go:22", after := #[{ on := 37, ground := Ground.data }, { on := 20, ground := Ground.guard }], guard := some (20, false) }) (v := .string S) rfl (by kernel_rfl) (by kernel_rfl) (by kernel_rfl) (fun _ _ _ h => h) (Or.inl ⟨by rfl, ?yd39⟩) (Below.refl _ _) ?rd39
              case yd39 => (intro w hSw; have t0 := FC2.out w hSw; go_simp; try with_reducible rfl)
              try simp only [Act.put, List.setIfInBounds_toArray, List.set_cons_zero, List.set_cons_succ]
              refine wpAnyH_take (i := 39) (oi := { dst := some 91, op := Op.binOp BinOp.neq 9 (Operand.tmp 78) (Operand.tmp 90) 9, type := 4, pos := "own.go:22", after := #[{ on := 26, ground := Ground.data }, { on := 38, ground := Ground.data }, { on := 20, ground := Ground.guard }], guard := some (20, false) }) (v := .bool false) rfl (by kernel_rfl) (by kernel_rfl) (by kernel_rfl) (fun _ _ _ h => h) (Or.inl ⟨by rfl, ?yd40⟩) (Below.refl _ _) ?rd40
              case yd40 => (intro w hSw; go_simp; try with_reducible rfl)
              try simp only [Act.put, List.setIfInBounds_toArray, List.set_cons_zero, List.set_cons_succ]
              refine wpAnyH_take (i := 40) (oi := { dst := some 92, op := Op.pick (Operand.tmp 72) (Operand.const (Value.bool true)) (Operand.tmp 91), type := 4, pos := "own.go:22", after := #[{ on := 20, ground := Ground.data }, { on := 39, ground := Ground.data }], guard := none }) (v := .bool false) rfl (by kernel_rfl) (by kernel_rfl) (by kernel_rfl) (fun _ _ _ h => h) (Or.inl ⟨by rfl, ?yd41⟩) (Below.refl _ _) ?rd41
              case yd41 => (intro w hSw; go_simp; try with_reducible rfl)
              try simp only [Act.put, List.setIfInBounds_toArray, List.set_cons_zero, List.set_cons_succ]
              refine wpAnyH_done (by kernel_rfl) ?_ _
              have B9 : Hid (Below w2.heap.size w2 u0) := FB.out _ (Below.refl _ _)
              have k9 := FT.out _ (Below.refl _ _)
              clear FT FC1 FC2 FB
              go_wp2
              go_roundw
              case rel => exact ⟨j + 1, by omega, by go_num, by rw [HTN.out]; go_num, B9.out⟩
              case measure => simp [intOf]; omega
          · as_aux_lemma =>
              rw [q1] at k0 hts
              rw [if_pos rfl, q3, Int.toNat_natCast] at hts
              obtain ⟨NN, hNN⟩ : ∃ NN, NN = K * k := ⟨_, rfl⟩
              obtain ⟨AA, hAA⟩ : ∃ AA, AA = A * k := ⟨_, rfl⟩
              have q5' : AA + NN ≤ LO := by rw [Nat.add_mul, ← hNN, ← hAA, ← HLO.out] at q5; exact q5
              rw [← hNN, ← HLB.out] at q6
              rw [← hNN] at hts
              have hkN : k ≤ NN := by rw [hNN]; exact Nat.le_mul_of_pos_left k q4
              have HX : Hid (∀ x, Below w2.heap.size w2 x → x.cell? ⟨bb, off + j * 4, none⟩ = some (.bool true) ∧ x.cell? ⟨bb, off + j * 4 + 1, none⟩ = some (.int .i64 (AA : Int)) ∧ x.cell? ⟨bb, off + j * 4 + 2, none⟩ = some (.int .i64 (NN : Int))) := fun x hx => by
                obtain ⟨b3', off3, ua3, un3, uc3, e, m0, m1, m2, -⟩ := (O2.out x hx).at j (by rw [← HRL.out]; exact hlt)
                cases e
                rw [q1] at m0
                rw [q2, ← hAA] at m1
                rw [q3, ← hNN] at m2
                exact ⟨m0, m1, m2⟩
              have HQ7 : Hid (∀ t, t < K → Sh.Pl.sha (blk o k (A + t)) = Sh.Pl.sha (cut b (P + t * k) k)) := q7
              have HNN : Hid (NN = K * k) := hNN
              have HAA : Hid (AA = A * k) := hAA
              have HTN : Hid (tot (R.take (j + 1)) = P + NN) := hts
              obtain ⟨xb, xo, rfl⟩ : ∃ xb xo, a1 = some ⟨xb, xo, none⟩ := by
                obtain ⟨a', c', e', _, _, _, g4⟩ := H1.out.1
                cases e'
                rcases g4 with g4 | ⟨_, b', off', e, _⟩
                · have := HLB.out; omega
                · exact ⟨_, _, e⟩
              obtain ⟨yb, yo, rfl⟩ : ∃ yb yo, a0 = some ⟨yb, yo, none⟩ := by
                obtain ⟨a', c', e', _, _, _, g4⟩ := H0.out.1
                cases e'
                rcases g4 with g4 | ⟨_, b', off', e, _⟩
                · have := HLO.out; omega
                · exact ⟨_, _, e⟩
              have f1 : ¬ (NN : Int) < (k : Int) := by omega
              have f2 : Int.tmod (NN : Int) (k : Int) = 0 := by rw [← Int.ofNat_tmod, hNN, Nat.mul_mod_left]; rfl
              have f2' : (NN : Int) % (k : Int) = 0 := by rw [← Int.natCast_emod, hNN, Nat.mul_mod_left]; rfl
              have f3 : ¬ (AA : Int) < 0 := by omega
              have f4 : Int.tmod (AA : Int) (k : Int) = 0 := by rw [← Int.ofNat_tmod, hAA, Nat.mul_mod_left]; rfl
              have f4' : (AA : Int) % (k : Int) = 0 := by rw [← Int.natCast_emod, hAA, Nat.mul_mod_left]; rfl
              have f5 : ¬ (LO : Int) < (NN : Int) := by omega
              have f6 : ¬ (LO : Int) - (NN : Int) < (AA : Int) := by omega
              have f7 : ¬ (LB : Int) - (P : Int) < (NN : Int) := by omega
              have f1' : decide ((NN : Int) < (k : Int)) = false := decide_eq_false f1
              have f1n : ¬ NN < k := by omega
              have f1d : decide (NN < k) = false := decide_eq_false f1n
              have f3' : decide ((AA : Int) < 0) = false := decide_eq_false f3
              have f5' : decide ((LO : Int) < (NN : Int)) = false := decide_eq_false f5
              have f5n : ¬ LO < NN := by omega
              have f5d : decide (LO < NN) = false := decide_eq_false f5n
              have f6' : decide ((LO : Int) - (NN : Int) < (AA : Int)) = false := decide_eq_false f6
              have f7' : decide ((LB : Int) - (P : Int) < (NN : Int)) = false := decide_eq_false f7
              have f8 : wrap64 ((LO : Int) - (NN : Int)) = (LO : Int) - (NN : Int) := by unfold wrap64; omega
              have f9 : wrap64 ((LB : Int) - (P : Int)) = (LB : Int) - (P : Int) := by unfold wrap64; omega
              have f8w : IntKind.i64.wrap ((LO : Int) - (NN : Int)) = (LO : Int) - (NN : Int) := by simp [IntKind.wrap, IntKind.bits, IntKind.signed]; omega
              have f9w : IntKind.i64.wrap ((LB : Int) - (P : Int)) = (LB : Int) - (P : Int) := by simp [IntKind.wrap, IntKind.bits, IntKind.signed]; omega
              have g3 : ¬ (k : Int) = 0 := by omega
              have g3' : ((k : Int) == 0) = false := by simpa using g3
              have g3n : k ≠ 0 := by omega
              obtain ⟨c0k, c1k, c2k⟩ := HX.out wr HB.out
              clear hts hun s1' q1 q2 q3 q7 k0 k1' k2' k3 hNN hAA q5
              go_wp2_with fail
              go_quiet (fail)
              have HB0 : Hid (Below w2.heap.size w2 (wr.drewN nq)) := HB.out.trans ((drew_below wr nq).mono HB.out.size)
              generalize wr.drewN nq = WD at *
              clear f1 f2 f2' f3 f4 f4' f5 f6 f7 f1' f1n f1d f3' f5' f5n f5d f6' f7' f8 f9 f8w f9w c0k c1k c2k
              go_wp2_with fail
              go_loopw [13] (fun q wr => ∃ t T : Nat, t ≤ K ∧ T = t * k ∧ q = .int .i64 (T : Int) ∧ Below w2.heap.size w2 wr) (fun q _ => NN - (intOf q).toNat)
              case atStart => exact ⟨0, 0, by omega, by rw [Nat.zero_mul], rfl, HB0.out⟩
              case round =>
                obtain ⟨t, T, ht, hT, rfl, bel⟩ := hrel
                have HB3 : Hid (Below w2.heap.size w2 wr) := bel
                have BW3 : Hid (Below w.heap.size w wr) := B2.out.trans (bel.mono B2.out.size)
                obtain ⟨c0k, c1k, c2k⟩ := HX.out wr bel
                clear bel HB BWR HB0
                by_cases htk : t < K
                · have hT1 : T + k ≤ NN := by
                    have := Nat.mul_le_mul_right k (show t + 1 ≤ K from htk)
                    rw [Nat.add_mul, Nat.one_mul, ← hT, ← HNN.out] at this
                    exact this
                  obtain ⟨U, hU⟩ : ∃ U, U = AA + T := ⟨_, rfl⟩
                  obtain ⟨V, hV⟩ : ∃ V, V = P + T := ⟨_, rfl⟩
                  have hsha : Sh.Pl.sha (cut o U k) = Sh.Pl.sha (cut b V k) := by
                    have := HQ7.out t htk
                    rw [← hT, ← hV] at this
                    have e : blk o k (A + t) = cut o U k := by unfold blk cut; rw [Nat.add_mul, ← HAA.out, ← hT, ← hU]
                    rwa [e] at this
                  have HSH : Hid (Sh.Pl.sha (cut o U k) = Sh.Pl.sha (cut b V k)) := hsha
                  have hUL : U + k ≤ LO := by omega
                  have hVL : V + k ≤ LB := by omega
                  have SLO : Hid (∀ x, Below w.heap.size w x → Sl x (.slice (some ⟨yb, yo + U, none⟩) k (c0 - U)) (cut o U k)) := fun x hx => ((H0.out.1.kept hx).drop U (by omega)).take k (by omega)
                  have SLB : Hid (∀ x, Below w.heap.size w x → Sl x (.slice (some ⟨xb, xo + V, none⟩) k (c1 - V)) (cut b V k)) := fun x hx => ((H1.out.1.kept hx).drop V (by omega)).take k (by omega)
                  have HT : Hid (T = t * k) := hT
                  have hTN : (T : Int) < (NN : Int) := by omega
                  have r1 : (AA : Int) + (T : Int) = (U : Int) := by omega
                  have r3 : (P : Int) + (T : Int) = (V : Int) := by omega
                  have u0 : (0 : Int) ≤ (U : Int) := by omega
                  have u1 : (U : Int) ≤ (U : Int) + (k : Int) := by omega
                  have u2 : (U : Int) + (k : Int) ≤ (c0 : Int) := by omega
                  have u3 : ((U : Int) + (k : Int)).toNat - U = k := by omega
                  have u3' : U + k - U = k := by omega
                  have u4 : ¬ c0 = U := by omega
                  have v0 : (0 : Int) ≤ (V : Int) := by omega
                  have v1 : (V : Int) ≤ (V : Int) + (k : Int) := by omega
                  have v2 : (V : Int) + (k : Int) ≤ (c1 : Int) := by omega
                  have v3 : ((V : Int) + (k : Int)).toNat - V = k := by omega
                  have v3' : V + k - V = k := by omega
                  have v4 : ¬ c1 = V := by omega
                  have HTK : Hid (T + k = (t + 1) * k) := by unfold Hid; rw [Nat.add_mul, Nat.one_mul, ← hT]
                  clear hU hV hsha hT
                  go_wp2_with fail
                  go_quiet (fail)
                  have BD : Hid (Below w2.heap.size w2 (wr.drewN nq)) := HB3.out.trans ((drew_below wr nq).mono HB3.out.size)
                  generalize wr.drewN nq = W at *
                  have BWD : Hid (Below w.heap.size w W) := B2.out.trans (BD.out.mono B2.out.size)
                  have cv1 := (SLO.out W BWD.out).conv
                  have cv2 := (SLB.out W BWD.out).conv
                  have hbe := strB_beq (SLO.out W BWD.out).bytes (SLB.out W BWD.out).bytes
                  clear r1 r3 u0 u1 u2 u3 u3' u4 v0 v1 v2 v3 v3' v4 c0k c1k c2k hTN
                  by_cases hX : cut o U k = cut b V k
                  · as_aux_lemma =>
                      rw [hX] at cv1
                      clear hbe hX SLO SLB HSH
                      generalize strB (cut b V k) = S at *
                      have e8 : (S.toList != S.toList) = false := by simp
                      go_wp2
                      go_roundw
                      case rel => exact ⟨t + 1, T + k, by omega, HTK.out, by go_num, BD.out⟩
                      case measure => simp [intOf]; omega
                  · as_aux_lemma =>
                      rw [decide_eq_false hX] at hbe
                      have hl1 : (cut o U k).length = k := cut_len o U k (by rw [← HLO.out]; exact hUL)
                      have hl2 : (cut b V k).length = k := cut_len b V k (by rw [← HLB.out]; exact hVL)
                      obtain ⟨W1, hW1⟩ : ∃ W1, W1 = W.alloc (.cells #[.slice (some ⟨yb, yo + U, none⟩) k (c0 - U)] 22) := ⟨_, rfl⟩
                      have bW1 : Below W.heap.size W W1 := by rw [hW1]; exact al_below _ _
                      have BW1 : Hid (Below w.heap.size w W1) := BWD.out.trans (bW1.mono BWD.out.size)
                      have D1 : Hid (Below w2.heap.size w2 W1) := BD.out.trans (bW1.mono BD.out.size)
                      have CO1 := of1 (cut o U k) W1 W.heap.size (HW.out.kept BW1.out) (by rw [hW1]; exact parts1 (SLO.out W BWD.out)) (by omega)
                      have CO2 : Hid (∀ x, Below w.heap.size w x → Calls Tryd.prog 23 #[.slice (some ⟨x.heap.size, 0, none⟩) 1 1] (x.alloc (.cells #[.slice (some ⟨xb, xo + V, none⟩) k (c1 - V)] 22)) fun e w' => e = .returned (.agg (u8c (Sh.Pl.sha (cut b V k)))) ∧ Below (x.alloc (.cells #[.slice (some ⟨xb, xo + V, none⟩) k (c1 - V)] 22)).heap.size (x.alloc (.cells #[.slice (some ⟨xb, xo + V, none⟩) k (c1 - V)] 22)) w') := fun x hx =>
                        of1 (cut b V k) _ x.heap.size ((HW.out.kept hx).kept (al_below _ _)) (parts1 (SLB.out x hx)) (by omega)
                      rw [HSH.out] at CO1
                      have HSL : Hid ((Sh.Pl.sha (cut b V k)).length = 32) := Sh.sha_len _
                      have hw1 := hW1.symm
                      clear hW1 bW1 hX SLO SLB HSH hl1 hl2
                      generalize Sh.Pl.sha (cut b V k) = D at *
                      generalize strB (cut o U k) = S1 at *
                      generalize strB (cut b V k) = S2 at *
                      have e8 : (S1.toList != S2.toList) = true := by simp [bne, hbe]
                      go_wp2_with fail
                      refine CO1.mono ?_
                      rintro e w5 ⟨rfl, b5⟩
                      clear CO1 hw1 cv1 cv2 hbe e8
                      have B5 : Hid (Below w.heap.size w w5) := BW1.out.trans (b5.mono BW1.out.size)
                      have D5 : Hid (Below w2.heap.size w2 w5) := D1.out.trans (b5.mono D1.out.size)
                      have co := CO2.out w5 B5.out
                      obtain ⟨W6, hW6⟩ : ∃ W6, W6 = w5.alloc (.cells #[.slice (some ⟨xb, xo + V, none⟩) k (c1 - V)] 22) := ⟨_, rfl⟩
                      have bW6 : Below w5.heap.size w5 W6 := by rw [hW6]; exact al_below _ _
                      have D6 : Hid (Below w2.heap.size w2 W6) := D5.out.trans (bW6.mono D5.out.size)
                      have hw6 := hW6.symm
                      rw [← hW6] at co
                      clear b5 CO2 hW6 bW6
                      go_wp2_with fail
                      refine co.mono ?_
                      rintro e w7 ⟨rfl, b7⟩
                      clear co hw6
                      have D7 : Hid (Below w2.heap.size w2 w7) := D6.out.trans (b7.mono D6.out.size)
                      have e9 : (!(D == D)) = false := by simp
                      clear b7
                      go_wp2_with (refine BigFrame.wpList_want (by rfl) fun KK hKK => wp_neqH _ _ _ rfl D D HSL.out HSL.out rfl rfl (hKK _ _ (Hid.out ?_)))
                      unfold Hid
                      go_wp2
                      go_roundw
                      case rel => exact ⟨t + 1, T + k, by omega, HTK.out, by go_num, D7.out⟩
                      case measure => simp [intOf]; omega
                · as_aux_lemma =>
                    have htK : t = K := by omega
                    have hTN : ¬ (T : Int) < (NN : Int) := by
                      have := HNN.out
                      rw [htK, ← this] at hT
                      omega
                    have hTT : Hid (T = t * k) := hT
                    have HB9 : Hid (Below w2.heap.size w2 wr) := HB3.out
                    clear hT
                    go_wp2
                    go_roundw
                    case rel => exact ⟨j + 1, by omega, by go_num, by rw [HTN.out]; go_num, HB9.out⟩
                    case measure => simp [intOf]; omega
        · as_aux_lemma =>
            have lt2 : ¬ (j : Int) < (RL : Int) := by omega
            have hjr : j = RL := by omega
            have HPL : tot (R.take j) = LB := by rw [hjr, HTL.out, HTOT.out]
            have CC := copied_any _ R wr (O2.out wr HB.out) (by rw [← HRL.out]; omega) HNB.out
            have CL : Hid (∀ x, Below wr.heap.size wr x → Calls Tryd.prog 20 #[.slice ra RL rc] x fun e w' => e = .returned (.int .i64 (lit R)) ∧ Below x.heap.size x w') := fun x hx => by
              have := literal_any _ R x (O2.out x (HB.out.trans (hx.mono HB.out.size))) (by rw [← HRL.out]; omega) HLIT.out
              exact this
            have hct := HCT.out
            clear hjr HTL HTOT HOK HTS HLIT HNB HCT O2
            generalize tot (R.take j) = P at *
            subst HPL
            generalize cpd R = x1 at *
            generalize lit R = x2 at *
            have t1 : ((P : Int) == (P : Int)) = true := by simp
            go_wp2_with fail
            refine CC.mono ?_
            rintro e w3 ⟨rfl, b3⟩
            clear CC
            have cl := CL.out w3 b3
            have B3 : Hid (Below w.heap.size w w3) := BWR.out.trans (b3.mono BWR.out.size)
            clear CL b3
            go_wp2_with fail
            refine cl.mono ?_
            rintro e w4 ⟨rfl, b4⟩
            clear cl
            have B4 : Hid (Below w.heap.size w w4) := B3.out.trans (b4.mono B3.out.size)
            clear b4
            have ca := CA.out w4 B4.out
            go_wp2_with fail
            refine ca.mono ?_
            rintro e wz ⟨rfl, bz⟩
            have BZ : Hid (Below w.heap.size w wz) := (B4.out).trans (bz.mono (B4.out).size)
            clear ca bz
            go_wp2
            go_ret
            exact ⟨rfl, BZ.out⟩
end Go.Proofs.YtlhmpcmlpfffoaaDoor.matchTells
