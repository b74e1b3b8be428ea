/-
  The document's May, Same, Count, Has.
-/
import Derived.Test.YtjjjomikgpnahaaDoorAe
namespace Go.Proofs.YtjjjomikgpnahaaDoor
open Go.RowKit Go.Shelf
set_option maxRecDepth 100000

theorem part_one {P : Program} {t : TypeId} {cs : Array Value} {o : Nat} {v : Value} {w : World} (h : (isAgg t).run P w = .ok false w) (hc : cs[o]? = some v) : (part t cs o).run P w = .ok v w := by
  simp [part, Sem.run_bind, h, hc]
theorem eqf_cons {P : Program} {d : Nat} {xs ys : Array Value} {f : Field} {fs : List Field} {u v : Value} {r : Bool} {w : World} {t : TypeId} {o : Nat} (hn : f.name ≠ "_") (ht : f.type = t) (ho : f.offset = o) (ha : (part t xs o).run P w = .ok u w) (hb : (part t ys o).run P w = .ok v w) (he : (Op.equalIn d t u v).run P w = .ok r w) :
    (Op.eqFields d xs ys (f :: fs)).run P w = if r = true then (Op.eqFields d xs ys fs).run P w else .ok false w := by
  subst ht ho
  rw [Op.eqFields, if_pos hn]
  simp only [Sem.run_bind, ha, hb, he, Result.andThen_ok]
  cases r
  · simp
  · simp
theorem bed {α : Type} [BEq α] [LawfulBEq α] [DecidableEq α] (a b : α) : (a == b) = decide (a = b) := by by_cases h : a = b <;> simp [h]
theorem eqf_nil {P : Program} {d : Nat} {xs ys : Array Value} {w : World} : (Op.eqFields d xs ys []).run P w = .ok true w := by
  rw [Op.eqFields, Sem.run_pure]
theorem two {w : World} {a b : Bool} : (if a = true then (if b = true then Result.ok true w else .ok false w) else (.ok false w : Result Bool)) = .ok (a && b) w := by
  cases a <;> cases b <;> rfl
theorem fieldsS : (Tryd.prog.fieldsOf 109).toList.map (fun f => (decide (f.name ≠ "_"), f.type, f.offset)) = [(true, 3, 0), (true, 3, 1)] := by kernel_rfl
theorem structS : Tryd.prog.underlying 109 = some (.struct (Tryd.prog.fieldsOf 109)) := by kernel_rfl
theorem standsS : Tryd.prog.stoodInHeld 109 = false := by kernel_rfl
theorem guardS : Tryd.prog.eqGuardType Tryd.prog.depth 109 = false := by kernel_rfl
def spv (x : Sp) : Value := .agg #[.int .i64 x.1, .int .i64 x.2]
def sSp (x y : Sp) : Bool := decide (x.1 = y.1) && decide (x.2 = y.2)
theorem sSp_iff (x y : Sp) : sSp x y = true ↔ x = y := by
  obtain ⟨a, b⟩ := x
  obtain ⟨c, d⟩ := y
  simp [sSp]
theorem eq_sp (x y : Sp) (w : World) : (Op.equalIn 10000 109 (spv x) (spv y)).run Tryd.prog w = .ok (sSp x y) w := by
  unfold spv
  rw [run_equalIn_struct w 9999 109 _ _ structS standsS]
  have hf := fieldsS
  generalize (Tryd.prog.fieldsOf 109).toList = fs at hf
  have hlen : fs.length = 2 := by have := congrArg List.length hf; simpa using this
  match fs, hlen, hf with
  | [f0, f1], _, hf =>
    simp only [List.map_cons, List.map_nil, List.cons.injEq, Prod.mk.injEq, and_true, decide_eq_true_eq] at hf
    obtain ⟨⟨n0, t0, o0⟩, n3, t3, o3⟩ := hf
    have aU : (isAgg 3).run Tryd.prog w = .ok false w := by simp [isAgg, run_underlying Tryd.underlying3]
    have p0 : ∀ z : Sp, (part 3 #[.int .i64 z.1, .int .i64 z.2] 0).run Tryd.prog w = .ok (.int .i64 z.1) w := fun z => part_one aU rfl
    have p1 : ∀ z : Sp, (part 3 #[.int .i64 z.1, .int .i64 z.2] 1).run Tryd.prog w = .ok (.int .i64 z.2) w := fun z => part_one aU rfl
    have e1 : (Op.equalIn 9999 3 (.int .i64 x.1) (.int .i64 y.1)).run Tryd.prog w = .ok (x.1 == y.1) w := run_equalIn_int w 9998 3 .i64 .i64 _ _ Tryd.underlying3
    have e2 : (Op.equalIn 9999 3 (.int .i64 x.2) (.int .i64 y.2)).run Tryd.prog w = .ok (x.2 == y.2) w := run_equalIn_int w 9998 3 .i64 .i64 _ _ Tryd.underlying3
    rw [eqf_cons n0 t0 o0 (p0 x) (p0 y) e1, eqf_cons n3 t3 o3 (p1 x) (p1 y) e2, eqf_nil, two]
    unfold sSp
    rw [bed x.1, bed x.2]
theorem neq_sp (x y : Sp) (w : World) : (binOp .neq 109 (spv x) (spv y)).run Tryd.prog w = .ok (.bool (!sSp x y)) w := by
  have hE := eq_sp x y w
  unfold spv at hE ⊢
  simp only [run_neq_struct, hE, Result.andThen_ok]
theorem eqg_sp (o : BinOp) (x y : Sp) (a b : Operand) (w : World) : (eqGuard o 109 a b (spv x) (spv y)).run Tryd.prog w = .ok () w := run_eqGuard_agg _ _ _ _ _ _ _ guardS
def samS : List Sp → List Sp → Bool
  | [], [] => true
  | x :: l, y :: m => sSp x y && samS l m
  | _, _ => false
theorem samS_iff : ∀ l m : List Sp, samS l m = true ↔ l = m
  | [], [] => by simp [samS]
  | [], y :: m => by simp [samS]
  | x :: l, [] => by simp [samS]
  | x :: l, y :: m => by simp [samS, sSp_iff, samS_iff l m]
set_option maxHeartbeats 2000000 in
theorem rsame_any (w : World) (u v : Value) (l m : List Sp) (hu : SSp w u l) (hv : SSp w v m) (hl : l.length ≤ 100000) :
    Calls Tryd.prog 35 #[u, v] w fun e w' => e = .returned (.bool (decide (l = m))) ∧ Below w.heap.size w w' := by
  obtain ⟨a, c, rfl, h2, h3, h4⟩ := hu.shape
  obtain ⟨a', c', rfl, h2', h3', h4'⟩ := hv.shape
  by_cases hnk : l.length = m.length
  · have HAT : Hid (∀ j, j < l.length → ∀ W, Below w.heap.size w W → ∃ b off b' off', a = some ⟨b, off, none⟩ ∧ a' = some ⟨b', off', none⟩ ∧ W.cell? ⟨b, off + j * 2, none⟩ = some (.int .i64 (atS l j).1) ∧ W.cell? ⟨b, off + j * 2 + 1, none⟩ = some (.int .i64 (atS l j).2) ∧ W.cell? ⟨b', off' + j * 2, none⟩ = some (.int .i64 (atS m j).1) ∧ W.cell? ⟨b', off' + j * 2 + 1, none⟩ = some (.int .i64 (atS m j).2)) := fun j hj W hb => by
      obtain ⟨b, off, e, q⟩ := (hu.kept hb).at j hj
      obtain ⟨b', off', e', q'⟩ := (hv.kept hb).at j (by omega)
      exact ⟨b, off, b', off', e, e', (spC q).1, (spC q).2, (spC q').1, (spC q').2⟩
    have HYES : Hid ((∀ k, k < l.length → atS l k = atS m k) → decide (l = m) = true) := fun h => by
      rw [decide_eq_true_eq]
      refine List.ext_getElem hnk fun k h1 h2 => ?_
      have := h k h1
      rwa [atS_eq l k h1, atS_eq m k h2] at this
    have HNO : Hid (∀ k, k < l.length → atS l k ≠ atS m k → decide (l = m) = false) := fun k hk h => by
      rw [decide_eq_false_iff_not]
      exact fun e => h (by rw [e])
    obtain ⟨r, hr⟩ : ∃ r, r = decide (l = m) := ⟨_, rfl⟩
    rw [← hr] at HYES HNO ⊢
    rw [← hnk]
    clear hu hv hr hnk h2 h3 h4 h2' h3' h4'
    obtain ⟨n, hn⟩ : ∃ n, n = l.length := ⟨_, rfl⟩
    rw [← hn] at HAT HYES HNO hl ⊢
    clear hn
    have t0 : ((n : Int) != (n : Int)) = false := by simp
    go_enter Tryd.func35, Tryd.ntmps35
    go_wp2
    go_loopw [5] (fun u wr => ∃ j : Nat, j ≤ n ∧ u = .int .i64 j ∧ (∀ k, k < j → atS l k = atS m k) ∧ Below w.heap.size w wr) (fun u _ => n - (intOf u).toNat)
    case atStart => exact ⟨0, by omega, rfl, fun k hk => by omega, Below.refl _ _⟩
    case round =>
      obtain ⟨j, hj, rfl, ok, bel⟩ := hrel
      have OK : Hid (∀ k, k < j → atS l k = atS m k) := ok
      have HB : Hid (Below w.heap.size w wr) := bel
      clear ok bel
      by_cases hjn : j < n
      · have lt2 : (j : Int) < (n : Int) := by omega
        obtain ⟨b, off, b', off', rfl, rfl, k1, k2, k3, k4⟩ := HAT.out j hjn wr HB.out
        have HNX : Hid (atS l j = atS m j → ∀ k, k < j + 1 → atS l k = atS m k) := fun h k hk => by
          rcases Nat.lt_or_ge k j with h' | h'
          · exact OK.out k h'
          · rw [show k = j by omega]; exact h
        have HN : Hid (atS l j ≠ atS m j → r = false) := fun h => HNO.out j hjn h
        have E1 := neq_sp (atS l j) (atS m j)
        have E2 := fun (a b : Operand) => eqg_sp .neq (atS l j) (atS m j) a b
        have HE : Hid (sSp (atS l j) (atS m j) = true ↔ atS l j = atS m j) := sSp_iff _ _
        unfold spv at E1 E2
        generalize atS l j = x at *
        generalize atS m j = y at *
        obtain ⟨B, hB⟩ : ∃ B, B = sSp x y := ⟨_, rfl⟩
        rw [← hB] at E1 HE
        clear hB
        cases B with
        | true =>
          have hxy := HE.out.1 rfl
          have NX := HNX.out hxy
          have HN1 : Hid (∀ k, k < j + 1 → atS l k = atS m k) := NX
          clear HNX HN HE hxy NX
          rw [Bool.not_true] at E1
          go_wp2_with fail
          go_quiet (fail)
          have BD : Hid (Below w.heap.size w (wr.drewN nq)) := HB.out.trans ((drn wr nq).mono HB.out.size)
          generalize wr.drewN nq = DW at *
          go_wp2
          go_roundw
          case rel => exact ⟨j + 1, by omega, by go_num, HN1.out, BD.out⟩
          case measure => simp [intOf]; omega
        | false =>
          have hxy : x ≠ y := fun e => by have := HE.out.2 e; cases this
          have HR : Hid (r = false) := HN.out hxy
          clear HNX HN HE hxy
          rw [Bool.not_false] at E1
          go_wp2_with fail
          go_quiet (fail)
          have BD : Hid (Below w.heap.size w (wr.drewN nq)) := HB.out.trans ((drn wr nq).mono HB.out.size)
          generalize wr.drewN nq = DW at *
          go_wp2
          go_ret
          exact ⟨by rw [HR.out]; rfl, BD.out⟩
      · obtain rfl : j = n := by omega
        have HR : Hid (r = true) := HYES.out OK.out
        have lt2 : ¬ (j : Int) < (j : Int) := by omega
        clear HYES HNO OK HAT
        go_wp2
        go_ret
        exact ⟨by rw [HR.out]; rfl, HB.out⟩
  · have e : decide (l = m) = false := by rw [decide_eq_false_iff_not]; exact fun e => hnk (by rw [e])
    rw [e]
    have HB : Hid (Below w.heap.size w w) := Below.refl _ _
    have t0 : ((l.length : Int) != (m.length : Int)) = true := by simp; omega
    clear hu hv e hnk
    generalize l.length = n at *
    generalize m.length = k at *
    go_enter Tryd.func35, Tryd.ntmps35
    go_wp2
    go_ret
    exact ⟨rfl, HB.out⟩
end Go.Proofs.YtjjjomikgpnahaaDoor
