/-
  What place answers.
-/
import Derived.Test.YtajcabfeabbknaaGreatDoorCt
namespace Go.Proofs.YtajcabfeabbknaaGreatDoor
open Go.RowKit

set_option maxHeartbeats 1000000 in
theorem place_any (v : Value) (l : List En) (q : ByteArray) (w : World) (h : ES w v l) (hl : Lt l) (hm : Mx w) (hq : q.size ≤ 1000) :
    Calls Tryz.prog 71 #[v, .string q] w fun e w' => e = .returned (.int .i64 (plc l (dl q))) ∧ Below w.heap.size w w' := by
  obtain ⟨a, c, rfl, g2, _, _⟩ := h.shape
  have hmf : ∀ (fn : Fn) (first cap : Array Value) (w : World), (Instr.makeFunc fn first cap).run Tryz.prog w = .ok (.func fn first cap) w := fun _ _ _ _ => rfl
  obtain ⟨W1, hW1⟩ : ∃ W1, W1 = w.alloc (.cells #[.string q] 9) := ⟨_, rfl⟩
  have b1 : Below w.heap.size w W1 := by rw [hW1]; exact (Below.refl _ _).alloc (Nat.le_refl _) _
  have k1 : W1.cell? ⟨w.heap.size, 0, none⟩ = some (.string q) := by rw [hW1, World.cell?_alloc_at _ _ _ _ rfl]; rfl
  have B1 : Hid (Below w.heap.size w W1) := b1
  have CC := check_any q W1 (hm.kept b1) (by unfold maxLen; omega)
  have CF : Hid (∀ W, Below W1.heap.size W1 W → Calls Tryz.prog 67 #[.slice a l.length c, .func (.func 90) #[] #[.pointer (some ⟨w.heap.size, 0, none⟩)]] W fun e w' => e = .returned (.int .i64 (l.findIdx fun y => !les y.k (dl q))) ∧ Below W.heap.size W w') := fun W hb =>
    findPlace_any _ l q _ W (h.kept (b1.trans (hb.mono b1.size))) hl (hm.kept (b1.trans (hb.mono b1.size))) hq ((hb.cell (World.block_lt_of_cell? _ _ k1)).trans k1)
  have HR : Hid (plc l (dl q) = if chk (dl q) ≠ 0 then l.length else l.findIdx fun y => !les y.k (dl q)) := rfl
  have HK : Hid (∀ W, Below W1.heap.size W1 W → W.cell? ⟨w.heap.size, 0, none⟩ = some (.string q)) := fun W hb => (hb.cell (World.block_lt_of_cell? _ _ k1)).trans k1
  have hn := hl.1
  generalize plc l (dl q) = r at *
  generalize chk (dl q) = k at *
  generalize (l.findIdx fun y => !les y.k (dl q)) = fi at *
  generalize l.length = n at *
  clear h hl hm b1 k1
  go_enter Tryz.func71, Tryz.ntmps71
  go_wp2_with fail
  rw [← hW1]
  clear hW1
  refine CC.mono ?_
  rintro e w2 ⟨rfl, b2⟩
  have B2 : Hid (Below w.heap.size w w2) := B1.out.trans (b2.mono B1.out.size)
  have cf := CF.out w2 b2
  have k2 := HK.out w2 b2
  clear CC b2 CF
  by_cases h0 : k = 0
  · subst h0
    have HR2 : Hid (r = fi) := by unfold Hid; rw [HR.out, if_neg (by simp)]
    clear HR
    go_wp2_with fail
    refine cf.mono ?_
    rintro e w3 ⟨rfl, b3⟩
    have B3 : Hid (Below w.heap.size w w3) := B2.out.trans (b3.mono B2.out.size)
    clear cf b3
    go_wp2
    go_ret
    exact ⟨by rw [HR2.out]; rfl, B3.out⟩
  · have HR2 : Hid (r = n) := by unfold Hid; rw [HR.out, if_pos h0]
    have t0 : (k != 0) = true := by simp [h0]
    clear HR
    go_wp2
    go_ret
    exact ⟨by rw [HR2.out]; rfl, B2.out⟩
end Go.Proofs.YtajcabfeabbknaaGreatDoor
