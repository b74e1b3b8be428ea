/-
  The closure that takeAll defers: what it does where nothing is wrong, and where there is a panic with an error.
-/
import Derived.Test.YtfccjeepmhgckaaDoorDc
import Derived.Defers
import Derived.Recover
import Derived.Deep.RegionWith
namespace Go.Proofs.YtfccjeepmhgckaaDoor
open Go.RowKit
set_option maxRecDepth 100000

theorem neq_nil (w : World) : (binOp BinOp.neq 20 Value.nilIface Value.nilIface).run Tryd.prog w = .ok (.bool false) w := by kernel_rfl
theorem neq_err (k : Int) (w : World) : (binOp BinOp.neq 20 (.iface 30 (.int .i64 k)) Value.nilIface).run Tryd.prog w = .ok (.bool true) w := by kernel_rfl
set_option maxHeartbeats 1000000 in
theorem catch_idle (p q : Addr) (w : World) :
    CallsD Tryd.prog 27 #[.pointer (some p), .pointer (some q)] .returning w fun e u' w' => e = .returned (.tuple #[]) ∧ u' = .returning ∧ w' = w := by
  have hnn := neq_nil
  refine callsD_of_wpS Tryd.func27 rfl fun c₀ cs hu => ?_
  apply wpS_seq
  apply wpS_region
  simp [wpOpsS, go_sem, recoverD, hu, Tryd.ntmps27, Exit.thenS]
  apply wpS_seq
  apply wpS_region
  simp [wpOpsS, go_sem, hnn, Exit.thenS]
  refine wpS_cond (t := false) (by simp [Act.eval, Array.replicate]) ?_
  simp only [Bool.false_eq_true, if_false]
  refine wpS_of_wp (wp_skip ?_)
  cases c₀
  simp_all [bodyPostS, results, Tryd.results27]
theorem assert_err (k : Int) (w : World) : (Instr.typeAssert (.iface 30 (.int .i64 k)) 20 30 false).run Tryd.prog w = .ok (.int .i64 k) w := by kernel_rfl
set_option maxHeartbeats 1000000 in
theorem catch_panicking (p q : Nat) (x y : Value) (k : Int) (older : List PanicEntry) (w : World) (hc : w.cell? ⟨p, 0, none⟩ = some x) (hz : w.frozen? ⟨p, 0, none⟩ = false) (hc' : w.cell? ⟨q, 0, none⟩ = some y) (hz' : w.frozen? ⟨q, 0, none⟩ = false) (hpq : ¬ p = q) :
    CallsD Tryd.prog 27 #[.pointer (some ⟨p, 0, none⟩), .pointer (some ⟨q, 0, none⟩)] (.panicking ({ v := .iface 30 (.int .i64 k), recovered := false } :: older)) w fun e u' w' =>
      e = .returned (.tuple #[]) ∧ u' = .panicking ({ v := .iface 30 (.int .i64 k), recovered := true } :: older) ∧ w' = ((w.setCell ⟨p, 0, none⟩ (.slice none 0 0)).setCell ⟨q, 0, none⟩ (.int .i64 k)).drew := by
  have hnn := neq_err k
  have hta := assert_err k
  refine callsD_of_wpS Tryd.func27 rfl fun c₀ cs hu => ?_
  apply wpS_seq
  apply wpS_region
  simp [wpOpsS, go_sem, recoverD, hu, Tryd.ntmps27, Exit.thenS]
  apply wpS_seq
  apply wpS_region
  simp [wpOpsS, go_sem, hnn, Exit.thenS]
  refine wpS_cond (t := true) (by simp [Act.eval, Array.replicate]) ?_
  simp only [if_true]
  refine wpS_of_wp ?_
  change Code.wp Tryd.prog _ _ { tmps := #[.pointer (some ⟨p, 0, none⟩), .pointer (some ⟨q, 0, none⟩), .iface 30 (.int .i64 k), .iface 30 (.int .i64 k), .iface 30 (.int .i64 k), .bool true, undef, undef], defers := [] } w
  have hqp : ¬ q = p := fun e => hpq e.symm
  go_region_with (fail)
  all_goals
    simp [bodyPostS, results, Tryd.results27]
end Go.Proofs.YtfccjeepmhgckaaDoor
