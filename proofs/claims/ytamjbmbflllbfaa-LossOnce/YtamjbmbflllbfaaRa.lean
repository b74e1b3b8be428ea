/-
  The document's May, Same, Count, Has.
-/
import Derived.Test.YtamjbmbflllbfaaAe
namespace Go.Proofs.Ytamjbmbflllbfaa
open Go.RowKit Go.Shelf
set_option maxRecDepth 100000

set_option maxHeartbeats 1000000 in
theorem rmay_any (f t : Int) (w : World) : Calls Try.prog 49 #[.int .i64 f, .int .i64 t] w fun e w' => e = .returned (.bool (may f t)) ∧ w' = w := by
  have HM : Hid (may f t = (decide (0 ≤ f) && decide (f ≤ t) && decide (t ≤ 1099511627776))) := rfl
  generalize may f t = R at *
  by_cases h1 : 0 ≤ f
  · have d1 : decide (0 ≤ f) = true := by simpa using h1
    by_cases h2 : f ≤ t
    · have d2 : decide (f ≤ t) = true := by simpa using h2
      by_cases h3 : t ≤ 1099511627776
      · have d3 : decide (t ≤ 1099511627776) = true := by simpa using h3
        have HR : Hid (R = true) := by unfold Hid; rw [HM.out, d1, d2, d3]; rfl
        clear HM
        go_enter Try.func49, Try.ntmps49
        go_wp2
        go_ret
        exact ⟨by rw [HR.out]; rfl, rfl⟩
      · have d3 : decide (t ≤ 1099511627776) = false := by simpa using h3
        have HR : Hid (R = false) := by unfold Hid; rw [HM.out, d3, Bool.and_false]
        clear HM
        go_enter Try.func49, Try.ntmps49
        go_wp2
        go_ret
        exact ⟨by rw [HR.out]; rfl, rfl⟩
    · have d2 : decide (f ≤ t) = false := by simpa using h2
      have HR : Hid (R = false) := by unfold Hid; rw [HM.out, d2, Bool.and_false, Bool.false_and]
      clear HM
      go_enter Try.func49, Try.ntmps49
      go_wp2
      go_ret
      exact ⟨by rw [HR.out]; rfl, rfl⟩
  · have d1 : decide (0 ≤ f) = false := by simpa using h1
    have HR : Hid (R = false) := by unfold Hid; rw [HM.out, d1]; rfl
    clear HM
    go_enter Try.func49, Try.ntmps49
    go_wp2
    go_ret
    exact ⟨by rw [HR.out]; rfl, rfl⟩
theorem part_one {P : Program} {t : TypeId} {cs : Array Value} {o : Nat} {v : Value} {w : World} (h : (isAgg t).run P w = .ok false w) (hc : cs[o]? = some v) : (part t cs o).run P w = .ok v w := by
  simp [part, Sem.run_bind, h, hc]
theorem eqf_cons {P : Program} {d : Nat} {xs ys : Array Value} {f : Field} {fs : List Field} {u v : Value} {r : Bool} {w : World} {t : TypeId} {o : Nat} (hn : f.name ≠ "_") (ht : f.type = t) (ho : f.offset = o) (ha : (part t xs o).run P w = .ok u w) (hb : (part t ys o).run P w = .ok v w) (he : (Op.equalIn d t u v).run P w = .ok r w) :
    (Op.eqFields d xs ys (f :: fs)).run P w = if r = true then (Op.eqFields d xs ys fs).run P w else .ok false w := by
  subst ht ho
  rw [Op.eqFields, if_pos hn]
  simp only [Sem.run_bind, ha, hb, he, Result.andThen_ok]
  cases r
  · simp
  · simp
theorem bed {α : Type} [BEq α] [LawfulBEq α] [DecidableEq α] (a b : α) : (a == b) = decide (a = b) := by by_cases h : a = b <;> simp [h]
theorem eqf_nil {P : Program} {d : Nat} {xs ys : Array Value} {w : World} : (Op.eqFields d xs ys []).run P w = .ok true w := by
  rw [Op.eqFields, Sem.run_pure]
theorem two {w : World} {a b : Bool} : (if a = true then (if b = true then Result.ok true w else .ok false w) else (.ok false w : Result Bool)) = .ok (a && b) w := by
  cases a <;> cases b <;> rfl
theorem fieldsS : (Try.prog.fieldsOf 45).toList.map (fun f => (decide (f.name ≠ "_"), f.type, f.offset)) = [(true, 3, 0), (true, 3, 1)] := by kernel_rfl
theorem structS : Try.prog.underlying 45 = some (.struct (Try.prog.fieldsOf 45)) := by kernel_rfl
theorem standsS : Try.prog.stoodInHeld 45 = false := by kernel_rfl
theorem guardS : Try.prog.eqGuardType Try.prog.depth 45 = false := by kernel_rfl
def spv (x : Sp) : Value := .agg #[.int .i64 x.1, .int .i64 x.2]
def sSp (x y : Sp) : Bool := decide (x.1 = y.1) && decide (x.2 = y.2)
theorem sSp_iff (x y : Sp) : sSp x y = true ↔ x = y := by
  obtain ⟨a, b⟩ := x
  obtain ⟨c, d⟩ := y
  simp [sSp]
theorem eq_sp (x y : Sp) (w : World) : (Op.equalIn 10000 45 (spv x) (spv y)).run Try.prog w = .ok (sSp x y) w := by
  unfold spv
  rw [run_equalIn_struct w 9999 45 _ _ structS standsS]
  have hf := fieldsS
  generalize (Try.prog.fieldsOf 45).toList = fs at hf
  have hlen : fs.length = 2 := by have := congrArg List.length hf; simpa using this
  match fs, hlen, hf with
  | [f0, f1], _, hf =>
    simp only [List.map_cons, List.map_nil, List.cons.injEq, Prod.mk.injEq, and_true, decide_eq_true_eq] at hf
    obtain ⟨⟨n0, t0, o0⟩, n3, t3, o3⟩ := hf
    have aU : (isAgg 3).run Try.prog w = .ok false w := by simp [isAgg, run_underlying Try.underlying3]
    have p0 : ∀ z : Sp, (part 3 #[.int .i64 z.1, .int .i64 z.2] 0).run Try.prog w = .ok (.int .i64 z.1) w := fun z => part_one aU rfl
    have p1 : ∀ z : Sp, (part 3 #[.int .i64 z.1, .int .i64 z.2] 1).run Try.prog w = .ok (.int .i64 z.2) w := fun z => part_one aU rfl
    have e1 : (Op.equalIn 9999 3 (.int .i64 x.1) (.int .i64 y.1)).run Try.prog w = .ok (x.1 == y.1) w := run_equalIn_int w 9998 3 .i64 .i64 _ _ Try.underlying3
    have e2 : (Op.equalIn 9999 3 (.int .i64 x.2) (.int .i64 y.2)).run Try.prog w = .ok (x.2 == y.2) w := run_equalIn_int w 9998 3 .i64 .i64 _ _ Try.underlying3
    rw [eqf_cons n0 t0 o0 (p0 x) (p0 y) e1, eqf_cons n3 t3 o3 (p1 x) (p1 y) e2, eqf_nil, two]
    unfold sSp
    rw [bed x.1, bed x.2]
theorem neq_sp (x y : Sp) (w : World) : (binOp .neq 45 (spv x) (spv y)).run Try.prog w = .ok (.bool (!sSp x y)) w := by
  have hE := eq_sp x y w
  unfold spv at hE ⊢
  simp only [run_neq_struct, hE, Result.andThen_ok]
theorem eqg_sp (o : BinOp) (x y : Sp) (a b : Operand) (w : World) : (eqGuard o 45 a b (spv x) (spv y)).run Try.prog w = .ok () w := run_eqGuard_agg _ _ _ _ _ _ _ guardS
def samS : List Sp → List Sp → Bool
  | [], [] => true
  | x :: l, y :: m => sSp x y && samS l m
  | _, _ => false
theorem samS_iff : ∀ l m : List Sp, samS l m = true ↔ l = m
  | [], [] => by simp [samS]
  | [], y :: m => by simp [samS]
  | x :: l, [] => by simp [samS]
  | x :: l, y :: m => by simp [samS, sSp_iff, samS_iff l m]
end Go.Proofs.Ytamjbmbflllbfaa
