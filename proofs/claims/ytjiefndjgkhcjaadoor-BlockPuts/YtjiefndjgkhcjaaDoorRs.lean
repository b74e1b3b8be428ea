/-
  What the document's Same answers of sums that are the same.
-/
import Derived.Test.YtjiefndjgkhcjaaDoorSc
namespace Go.Proofs.YtjiefndjgkhcjaaDoor
open Go.RowKit
set_option maxRecDepth 100000

set_option maxHeartbeats 2000000 in
theorem rsame_eq (v u : Value) (l : List Sg) (w : World) (h1 : GS w v l) (h2 : GS w u l) (hl : l.length ≤ 100000) :
    Calls Tryd.prog 14 #[v, u] w fun e w' => e = .returned (.bool true) ∧ Below w.heap.size w w' := by
  obtain ⟨a, c, rfl, _, _, _⟩ := h1.shape
  obtain ⟨a', c', rfl, _, _, _⟩ := h2.shape
  have H1 : Hid (GS w (.slice a l.length c) l) := h1
  have H2 : Hid (GS w (.slice a' l.length c') l) := h2
  have K1 : Hid (∀ x ∈ l, x.ok) := h1.ok
  obtain ⟨n, hn'⟩ : ∃ n, n = l.length := ⟨_, rfl⟩
  have HN : Hid (n = l.length) := hn'
  rw [← hn'] at H1 H2 hl ⊢
  clear h1 h2 hn'
  have t0 : ((n : Int) != (n : Int)) = false := by simp
  go_enter Tryd.func14, Tryd.ntmps14
  go_wp2
  go_loopw [5] (fun q wr => ∃ j : Nat, j ≤ n ∧ q = .int .i64 j ∧ Below w.heap.size w wr) (fun q _ => n - (intOf q).toNat)
  case atStart => exact ⟨0, by omega, rfl, Below.refl _ _⟩
  case round =>
    obtain ⟨j, hj, rfl, bel⟩ := hrel
    have HB : Hid (Below w.heap.size w wr) := bel
    by_cases hlt : j < n
    · have lt2 : (j : Int) < (n : Int) := by omega
      have lt3 : (0 : Int) ≤ (j : Int) := by omega
      obtain ⟨b, off, rfl, r1⟩ := (H1.out.kept HB.out).at j (by rw [← HN.out]; exact hlt)
      obtain ⟨b', off', rfl, r2⟩ := (H2.out.kept HB.out).at j (by rw [← HN.out]; exact hlt)
      have hx := Sg.at l K1.out j
      generalize atI l j = x at *
      have FX : Hid (∀ W, From wr W → W.rangeAt b (off + j * 33) x.cells) := fun W h => range_kept r1 h
      have FY : Hid (∀ W, From wr W → W.rangeAt b' (off' + j * 33) x.cells) := fun W h => range_kept r2 h
      have FB : Hid (∀ W, From wr W → Below w.heap.size w W) := fun W h => bel.trans (Below.mono h bel.size)
      have ZX : Hid ((Tryd.prog.info? 57).map (·.size) = some x.cells.length) := sizeI.trans (by rw [Sg.len hx])
      have E1 : Hid (∀ W, (binOp .neq 57 (.agg x.cells.toArray) (.agg x.cells.toArray)).run Tryd.prog W = .ok (.bool false) W) := fun W => by
        have := neq_run x x hx hx W
        rwa [(sIt_iff x x).2 rfl] at this
      have E2 : Hid (∀ (a b : Operand) W, (eqGuard .neq 57 a b (.agg x.cells.toArray) (.agg x.cells.toArray)).run Tryd.prog W = .ok () W) := fun a b W => eqg_run .neq x x a b W
      clear bel r1 r2 hx
      generalize x.cells = cs at *
      go_wp2_with fail
      refine wp_region_held_drew (S := From wr) (by kernel_rfl) ((Below.refl _ _).drew) (fun _ => ?_)
      refine wpAnyH_on ((Below.refl _ _).drew) (fun u0 hu0 bu0 => ?_)
      replace FX := on FX bu0
      replace FY := on FY bu0
      replace FB := on FB bu0
      refine wpAnyH_take (i := 0) (oi := { dst := some 17, op := Op.move (Operand.tmp 0), type := 24, pos := "ref.go:117", after := #[], guard := none }) (v := ?vr1) rfl (by kernel_rfl) (by kernel_rfl) (by kernel_rfl) (fun _ _ _ h => h) (Or.inl ⟨by rfl, ?yr1⟩) (Below.refl _ _) ?rr1
      case yr1 => (intro w hSw; go_simp; try with_reducible rfl)
      try simp only [Act.put, List.setIfInBounds_toArray, List.set_cons_zero, List.set_cons_succ]
      refine wpAnyH_take (i := 1) (oi := { dst := some 18, op := Op.move (Operand.tmp 5), type := 3, pos := "ref.go:117", after := #[], guard := none }) (v := ?vr2) rfl (by kernel_rfl) (by kernel_rfl) (by kernel_rfl) (fun _ _ _ h => h) (Or.inl ⟨by rfl, ?yr2⟩) (Below.refl _ _) ?rr2
      case yr2 => (intro w hSw; go_simp; try with_reducible rfl)
      try simp only [Act.put, List.setIfInBounds_toArray, List.set_cons_zero, List.set_cons_succ]
      refine wpAnyH_take (i := 2) (oi := { dst := some 19, op := Op.indexAddr 24 (Operand.tmp 17) (Operand.tmp 18), type := 0, pos := "ref.go:117", after := #[{ on := 0, ground := Ground.data }, { on := 1, ground := Ground.data }], guard := none }) (v := ?vr3) rfl (by kernel_rfl) (by kernel_rfl) (by kernel_rfl) (fun _ _ _ h => h) (Or.inl ⟨by rfl, ?yr3⟩) (Below.refl _ _) ?rr3
      case yr3 => (intro w hSw; go_simp; try with_reducible rfl)
      try simp only [Act.put, List.setIfInBounds_toArray, List.set_cons_zero, List.set_cons_succ]
      refine wpAnyH_take (i := 3) (oi := { dst := some 20, op := Op.load 57 (Operand.tmp 19), type := 57, pos := "ref.go:117", after := #[{ on := 2, ground := Ground.data }], guard := none }) (v := .agg cs.toArray) rfl (by kernel_rfl) (by kernel_rfl) (by kernel_rfl) (fun _ _ _ h => h) (yieldsIf_load_mid (by rfl) 57 _ rfl b (off + j * 33) rfl cs _ (fun w hw => FX.out w hw) Tryd.underlying57 rfl ZX.out) (Below.refl _ _) ?_
      try simp only [Act.put, List.setIfInBounds_toArray, List.set_cons_zero, List.set_cons_succ]
      refine wpAnyH_take (i := 4) (oi := { dst := some 21, op := Op.move (Operand.tmp 1), type := 24, pos := "ref.go:117", after := #[], guard := none }) (v := ?vr5) rfl (by kernel_rfl) (by kernel_rfl) (by kernel_rfl) (fun _ _ _ h => h) (Or.inl ⟨by rfl, ?yr5⟩) (Below.refl _ _) ?rr5
      case yr5 => (intro w hSw; go_simp; try with_reducible rfl)
      try simp only [Act.put, List.setIfInBounds_toArray, List.set_cons_zero, List.set_cons_succ]
      refine wpAnyH_take (i := 5) (oi := { dst := some 22, op := Op.move (Operand.tmp 5), type := 3, pos := "ref.go:117", after := #[], guard := none }) (v := ?vr6) rfl (by kernel_rfl) (by kernel_rfl) (by kernel_rfl) (fun _ _ _ h => h) (Or.inl ⟨by rfl, ?yr6⟩) (Below.refl _ _) ?rr6
      case yr6 => (intro w hSw; go_simp; try with_reducible rfl)
      try simp only [Act.put, List.setIfInBounds_toArray, List.set_cons_zero, List.set_cons_succ]
      refine wpAnyH_take (i := 6) (oi := { dst := some 23, op := Op.indexAddr 24 (Operand.tmp 21) (Operand.tmp 22), type := 0, pos := "ref.go:117", after := #[{ on := 4, ground := Ground.data }, { on := 5, ground := Ground.data }], guard := none }) (v := ?vr7) rfl (by kernel_rfl) (by kernel_rfl) (by kernel_rfl) (fun _ _ _ h => h) (Or.inl ⟨by rfl, ?yr7⟩) (Below.refl _ _) ?rr7
      case yr7 => (intro w hSw; go_simp; try with_reducible rfl)
      try simp only [Act.put, List.setIfInBounds_toArray, List.set_cons_zero, List.set_cons_succ]
      refine wpAnyH_take (i := 7) (oi := { dst := some 24, op := Op.load 57 (Operand.tmp 23), type := 57, pos := "ref.go:117", after := #[{ on := 6, ground := Ground.data }], guard := none }) (v := .agg cs.toArray) rfl (by kernel_rfl) (by kernel_rfl) (by kernel_rfl) (fun _ _ _ h => h) (yieldsIf_load_mid (by rfl) 57 _ rfl b' (off' + j * 33) rfl cs _ (fun w hw => FY.out w hw) Tryd.underlying57 rfl ZX.out) (Below.refl _ _) ?_
      try simp only [Act.put, List.setIfInBounds_toArray, List.set_cons_zero, List.set_cons_succ]
      refine wpAnyH_take (i := 8) (oi := { dst := some 25, op := Op.binOp BinOp.neq 57 (Operand.tmp 20) (Operand.tmp 24) 57, type := 4, pos := "ref.go:117", after := #[{ on := 3, ground := Ground.data }, { on := 7, ground := Ground.data }], guard := none }) (v := .bool false) rfl (by kernel_rfl) (by kernel_rfl) (by kernel_rfl) (fun _ _ _ h => h) (yields_eqi (by rfl) .neq _ _ _ rfl (.agg cs.toArray) (.agg cs.toArray) false rfl rfl (fun w => E2.out _ _ w) (fun w => E1.out w)) (Below.refl _ _) ?_
      try simp only [Act.put, List.setIfInBounds_toArray, List.set_cons_zero, List.set_cons_succ]
      refine wpAnyH_done (by kernel_rfl) ?_ _
      have BZ : Hid (Below w.heap.size w u0) := FB.out _ (Below.refl _ _)
      clear FX FY FB E1 E2 ZX
      go_wp2
      go_roundw
      case rel => exact ⟨j + 1, by omega, by go_num, BZ.out⟩
      case measure => simp [intOf]; omega
    · obtain rfl : j = n := by omega
      go_wp2
      go_ret
      exact ⟨rfl, HB.out⟩
end Go.Proofs.YtjiefndjgkhcjaaDoor
