/-
  What Put lays.
-/
import Derived.RangeFuncCalls
import Derived.Deep.RegionHeld
import Derived.OrdersIn
import Derived.TacticsIn
import Derived.Sort.CutIn
import Derived.Test.YtiollhmbdhepkaaGreatDoorYau
namespace Go.Proofs.YtiollhmbdhepkaaGreatDoor
open Go.RowKit Go.Shelf
set_option maxRecDepth 100000

attribute [local go_sem] Oper.semAt_some
def PB' (W : World) (k N : Nat) (u0 vv : Value) (V : List Value) (ZZ : List (List Int)) : Prop := W.heap[k]? = some (.cells #[u0] 100 (0, 0)) ∧ PV W N vv V ZZ
theorem PB'.cell {W : World} {k N : Nat} {u0 vv : Value} {V : List Value} {ZZ : List (List Int)} (h : PB' W k N u0 vv V ZZ) : W.cell? ⟨k, 0, none⟩ = some u0 := by have := h.1; simp [World.cell?, this]
theorem PB'.frz {W : World} {k N : Nat} {u0 vv : Value} {V : List Value} {ZZ : List (List Int)} (h : PB' W k N u0 vv V ZZ) : W.frozen? ⟨k, 0, none⟩ = false := by have := h.1; simp [World.frozen?, this]
theorem PB'.set {W : World} {k N : Nat} {u0 vv : Value} {V : List Value} {ZZ : List (List Int)} (h : PB' W k N u0 vv V ZZ) : PB (W.setCell ⟨k, 0, none⟩ vv) k N vv V ZZ :=
  ⟨set_one h.1, h.2.keep (fun j cs t ht hh => by
    rw [Below.heap_setCell _ _ _ _ (fun e => by
      have e' : j = k := e
      have := h.1
      rw [e'] at hh
      rw [hh] at this
      cases this
      rcases ht with ht | ht <;> revert ht <;> decide)]
    exact hh)⟩
end Go.Proofs.YtiollhmbdhepkaaGreatDoor
