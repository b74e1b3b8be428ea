/-
  What the law's same answers to two slices of the same steps.
-/
import Derived.Test.YtajcabfeabbknaaGreatDoorRrs
namespace Go.Proofs.YtajcabfeabbknaaGreatDoor
open Go.RowKit Go.Deep
set_option maxRecDepth 100000

theorem RS.ts {w : World} {B : Nat} {v : Value} {l : List St} (h : RS w B v l) : TS w v l := by
  rcases h.2 with ⟨rfl, h2⟩ | ⟨g, cap, cur, rfl, hg, hh, hl, hm, hs, r⟩
  · obtain rfl : l = [] := List.length_eq_zero_iff.1 h2
    exact ⟨none, 0, rfl, Nat.le_refl _, fun _ => rfl, .inl rfl⟩
  · refine ⟨_, cap, rfl, hl, (fun e => by cases e), .inr ⟨g, 0, rfl, fun j hj => ?_⟩⟩
    rw [Nat.zero_add]
    exact World.ownsRow.cellAt h j hj
theorem TS.at3 {w : World} {v : Value} {l : List St} (h : TS w v l) (j : Nat) (hj : j < l.length) : ∃ b off c, v = .slice (some ⟨b, off, none⟩) l.length c ∧ w.cell? ⟨b, off + j * 3, none⟩ = some (.int .u8 (atS l j).κ) ∧ w.cell? ⟨b, off + j * 3 + 1, none⟩ = some (.string (atS l j).p) ∧ w.cell? ⟨b, off + j * 3 + 2, none⟩ = some (.string (atS l j).t) := by
  obtain ⟨a, c, rfl, h2, h3, h4⟩ := h
  rcases h4 with rfl | ⟨b, off, rfl, h6⟩
  · simp at hj
  · obtain ⟨x0, x1, x2⟩ := cellsT_get l j hj
    refine ⟨b, off, c, rfl, (h6 (j * 3) (by omega)).trans x0, ?_, ?_⟩
    · rw [Nat.add_assoc]; exact (h6 (j * 3 + 1) (by omega)).trans x1
    · rw [Nat.add_assoc]; exact (h6 (j * 3 + 2) (by omega)).trans x2
set_option maxHeartbeats 8000000 in
theorem steps_same (v u : Value) (l : List St) (w : World) (h1 : TS w v l) (h2 : TS w u l) (hl : l.length ≤ 1000) :
    Calls Tryz.prog 12 #[v, u] w fun e w' => e = .returned (.bool true) ∧ Below w.heap.size w w' := by
  have H1 : Hid (∀ W, Below w.heap.size w W → TS W v l ∧ TS W u l) := fun W hb => ⟨h1.keep hb, h2.keep hb⟩
  obtain ⟨a, c, rfl, _⟩ := h1.shape
  obtain ⟨a2, kd2, rfl, _⟩ := h2.shape
  obtain ⟨n, hn⟩ : ∃ n, n = l.length := ⟨_, rfl⟩
  have HN : Hid (n = l.length) := hn
  rw [← hn] at H1 hl ⊢
  clear hn h1 h2
  have t0 : ((n : Int) != (n : Int)) = false := by simp
  go_enter Tryz.func12, Tryz.ntmps12
  go_wp2_with fail
  go_loopw [5] (fun i wr => ∃ j : Nat, j ≤ n ∧ i = .int .i64 j ∧ Below w.heap.size w wr) (fun i _ => n - (intOf i).toNat)
  case atStart => exact ⟨0, by omega, rfl, Below.refl _ _⟩
  case round =>
    obtain ⟨j, hj, rfl, bel⟩ := hrel
    have HB : Hid (Below w.heap.size w wr) := bel
    clear bel
    by_cases hlt : j < n
    · have lt2 : (j : Int) < (n : Int) := by omega
      have g0 : (0 : Int) ≤ (j : Int) := by omega
      have q1 : IntKind.i64.wrap ((j : Int) + 1) = ((j + 1 : Nat) : Int) := by simp [IntKind.wrap, IntKind.bits, IntKind.signed]; omega
      obtain ⟨e1, e2⟩ := H1.out wr HB.out
      obtain ⟨b, off, k1, hv, c1, c2, c3⟩ := e1.at3 j (by rw [← HN.out]; exact hlt)
      obtain ⟨g, off2, k2, hu, d1, d2, d3⟩ := e2.at3 j (by rw [← HN.out]; exact hlt)
      rw [← HN.out] at hv hu
      cases hv
      cases hu
      clear e1 e2
      generalize (atS l j).κ = κ at *
      generalize (atS l j).p = xp at *
      generalize (atS l j).t = xt at *
      have f1 : (κ != κ) = false := by simp
      have f2 : (xp.toList != xp.toList) = false := by simp
      have f3 : (xt.toList != xt.toList) = false := by simp
      go_wp2_with fail
      go_quiet (fail)
      have bq : Below wr.heap.size wr (wr.drewN nq) := ⟨rfl, rfl, rfl, Nat.le_refl _, fun _ _ => rfl⟩
      have B9 : Hid (Below w.heap.size w (wr.drewN nq)) := HB.out.trans (bq.mono HB.out.size)
      generalize wr.drewN nq = w9 at *
      clear bq c1 c2 c3 d1 d2 d3
      go_wp2
      go_roundw
      case rel => exact ⟨j + 1, by omega, by go_num, B9.out⟩
      case measure => simp [intOf]; omega
    · obtain rfl : j = n := by omega
      go_wp2
      go_ret
      exact ⟨rfl, HB.out⟩
end Go.Proofs.YtajcabfeabbknaaGreatDoor
