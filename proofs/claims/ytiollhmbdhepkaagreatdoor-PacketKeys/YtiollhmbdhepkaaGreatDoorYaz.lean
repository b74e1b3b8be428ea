/-
  What Get reads.
-/
import Derived.Maps.OwnSet
import Derived.Test.YtiollhmbdhepkaaGreatDoorYau
namespace Go.Proofs.YtiollhmbdhepkaaGreatDoor
open Go.RowKit Go.Shelf
set_option maxRecDepth 100000

theorem rd_blk {w w' : World} {g s : Nat} {xs : List Int} {e : Int} (h : Fi.Rd w g s xs e) (hg : w'.heap[g]? = w.heap[g]?) (hs : w'.heap[s]? = w.heap[s]?) : Fi.Rd w' g s xs e := by
  obtain ⟨a, cap, c0, c1, f0, f1, l1, l2, r, n, k, b⟩ := h
  refine ⟨a, cap, (World.cell?_of_block (a := ⟨g, 0, none⟩) hg).trans c0, (World.cell?_of_block (a := ⟨g, 1, none⟩) hg).trans c1, (World.frozen?_of_block (a := ⟨g, 0, none⟩) hg).trans f0, (World.frozen?_of_block (a := ⟨g, 1, none⟩) hg).trans f1, l1, l2, ?_, n, k, b⟩
  rcases r with h | ⟨hp, b', off, rfl, hlc, hm, hc, hz⟩
  · exact .inl h
  · exact .inr ⟨hp, b', off, rfl, hlc, hm, fun i hi => (World.cell?_of_block (a := ⟨b', off + i, none⟩) (by
      have e : b' = s := (b ⟨b', off, none⟩ rfl).2
      show w'.heap[b']? = w.heap[b']?
      rw [e]
      exact hs)).trans (hc i hi), hz⟩
theorem Bt.grown {g : Nat} {w a b : World} {o : Option Nat} (h : Bt g w a) (hg : a.grownBy b o) (ho : ∀ k, o = some k → w.heap.size ≤ k) : Bt g w b :=
  ⟨hg.os.trans h.os, hg.tape.trans h.tape, hg.output.trans h.output, Nat.le_trans h.size hg.size, fun k hk hn => (hg.block k (by have := h.size; omega) (fun e => by have := ho k e.symm; omega)).trans (h.block k hk hn)⟩
end Go.Proofs.YtiollhmbdhepkaaGreatDoor
