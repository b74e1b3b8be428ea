/-
  Regions that draw their order of evaluation: the condition on the world may be turned at each new world.
-/
import Derived.Test.YtamjbmbflllbfaaBas
import Derived.Deep.RegionHeld3
namespace Go.Proofs.Ytamjbmbflllbfaa
open Go.RowKit
set_option maxRecDepth 100000

section
variable {P : Program} {ops : Array Oper} {Q : Exit → Act → World → Prop} {md : Region.Mode}
theorem wpAnyH_turn {S S' : World → Prop} (hS : ∀ x, S' x → S x) : ∀ (fuel : Nat) (listed : Array Bool) (a : Act) (w : World), wpAnyH P md ops Q S' fuel listed a w → wpAnyH P md ops Q S fuel listed a w
  | 0, _, _, _, h => h
  | fuel + 1, _, _, _, h => ⟨h.1, fun i hi => wpOp_mono (fun a' w' h' => ⟨hS _ h'.1, wpAnyH_turn hS fuel _ a' w' h'.2⟩) (h.2 i hi)⟩
/-- From a world on: all that stood there stays. -/
def From (u x : World) : Prop := Below u.heap.size u x
theorem wpAnyH_on {u W : World} {fuel : Nat} {listed : Array Bool} {a : Act} (hb : Below u.heap.size u W) (h : ∀ n, Hid (n = W) → Below u.heap.size u n → wpAnyH P md ops Q (From n) fuel listed a n) :
    wpAnyH P md ops Q (From u) fuel listed a W :=
  wpAnyH_turn (fun _ hx => hb.trans (Below.mono hx hb.size)) fuel listed a W (h W rfl hb)
theorem wpAnyH_name {S : World → Prop} {W : World} {fuel : Nat} {listed : Array Bool} {a : Act} (h : ∀ n, Hid (n = W) → wpAnyH P md ops Q S fuel listed a n) : wpAnyH P md ops Q S fuel listed a W := h W rfl
theorem on {p : World → Prop} {u n : World} (f : Hid (∀ x, From u x → p x)) (hb : Below u.heap.size u n) : Hid (∀ x, From n x → p x) := fun x hx => f.out x (hb.trans (Below.mono hx hb.size))
end
theorem al_below (w : World) (o : Obj) : Below w.heap.size w (w.alloc o) := (Below.refl _ _).alloc (Nat.le_refl _) _
end Go.Proofs.Ytamjbmbflllbfaa
