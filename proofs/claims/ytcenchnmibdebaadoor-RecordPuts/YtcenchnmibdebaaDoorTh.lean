/-
  What take answers.
-/
import Derived.Test.YtcenchnmibdebaaDoorTg
namespace Go.Proofs.YtcenchnmibdebaaDoor
open Go.RowKit
set_option maxRecDepth 100000

theorem step_eq (s : Ste) (r : Rc) : step s r = if r.k = 0 then bgO s r else if r.k = 1 then mkO s r.x.i r.x.o else if r.k = 2 ∨ r.k = 3 then enO s r.x.i else if r.k = 4 then (if r.x.i < s.n then none else some ⟨s.l, r.x.i + 1⟩) else none := rfl
/-- What a call that may change a state leaves. -/
def TP (w : World) (B g : Nat) (s : Ste) (o : Option Ste) (e : Ending) (w' : World) : Prop := e = .returned (.bool o.isSome) ∧ SB w' B g (o.getD s) ∧ Below B w w'
set_option maxHeartbeats 2000000 in
theorem take_any (B g : Nat) (v : Value) (s : Ste) (r : Rc) (w : World) (h : SV w B g v s) (hB : B ≤ g) (hr : r.ok) (hi : r.x.i ≤ 4611686018427387904) (hl : s.l.length ≤ 1000) :
    Calls Tryd.prog 29 #[.pointer (some ⟨g, 0, none⟩), r.val] w (TP w B g s (step s r)) := by
  obtain ⟨W1, hW1⟩ : ∃ W1, W1 = w.alloc (.cells r.cells.toArray 33) := ⟨_, rfl⟩
  have b1 : Below w.heap.size w W1 := by rw [hW1]; exact al_below _ _
  have r1 : W1.rangeAt w.heap.size 0 r.cells := by rw [hW1]; exact rc_new w r
  have s1 : SV W1 B g v s := h.kept b1
  have hBw : B ≤ w.heap.size := Nat.le_trans hB (Nat.le_of_lt h.lt)
  have bB := b1.mono hBw
  obtain ⟨k0, k1, -, -, -, k5⟩ := rcC r1 hr
  simp only [Nat.zero_add] at k0 k1 k5
  have C0 : r.k = 0 → Hid (Calls Tryd.prog 44 #[.pointer (some ⟨g, 0, none⟩), .agg r.cells.toArray] W1 (TP w B g s (step s r))) := fun hk => by
    refine (begin_any B g v s r W1 s1 hB hr hi hl).mono fun e w' ⟨h1, h2, h3⟩ => ?_
    rw [step_eq, if_pos hk]
    exact ⟨h1, h2, bB.trans h3⟩
  have C1 : r.k = 1 → Hid (Calls Tryd.prog 45 #[.pointer (some ⟨g, 0, none⟩), .int .i64 r.x.i, .int .i64 r.x.o] W1 (TP w B g s (step s r))) := fun hk => by
    refine (mark_any B g v s r.x.i r.x.o W1 s1 (Nat.le_trans hBw b1.size) (by omega) hr.2.2.2.2.2.2).mono fun e w' ⟨h1, h2, h3⟩ => ?_
    rw [step_eq, if_neg (by omega), if_pos hk]
    exact ⟨h1, ⟨v, h2⟩, bB.trans h3⟩
  have C2 : (r.k = 2 ∨ r.k = 3) → Hid (Calls Tryd.prog 46 #[.pointer (some ⟨g, 0, none⟩), .int .i64 r.x.i] W1 (TP w B g s (step s r))) := fun hk => by
    refine (end_any B g v s r.x.i W1 s1 hB (Nat.le_trans hBw b1.size) hl).mono fun e w' ⟨h1, h2, h3⟩ => ?_
    rw [step_eq, if_neg (by omega), if_neg (by omega), if_pos hk]
    exact ⟨h1, h2, bB.trans h3⟩
  have C4 : r.k = 4 → Hid (Calls Tryd.prog 47 #[.pointer (some ⟨g, 0, none⟩), .int .i64 r.x.i] W1 (TP w B g s (step s r))) := fun hk => by
    refine (pass_any B g v s r.x.i W1 s1 hB hi hr.2.2.2.2.1.1).mono fun e w' ⟨h1, h2, h3⟩ => ?_
    rw [step_eq, if_neg (by omega), if_neg (by omega), if_neg (by omega), if_pos hk]
    unfold pss at h1
    unfold pnx at h2
    by_cases hq : r.x.i < s.n
    · rw [if_pos hq]
      rw [decide_eq_false (by omega)] at h1
      rw [if_neg (by omega)] at h2
      exact ⟨h1, ⟨v, h2⟩, bB.trans h3⟩
    · rw [if_neg hq]
      rw [decide_eq_true (by omega)] at h1
      rw [if_pos (by omega)] at h2
      exact ⟨h1, ⟨v, h2⟩, bB.trans h3⟩
  have C9 : (¬ r.k = 0 ∧ ¬ r.k = 1 ∧ ¬ r.k = 2 ∧ ¬ r.k = 3 ∧ ¬ r.k = 4) → Hid (TP w B g s (step s r) (.returned (.bool false)) W1) := fun hk => by
    unfold Hid
    rw [step_eq, if_neg (by omega), if_neg (by omega), if_neg (by omega), if_neg (by omega)]
    exact ⟨rfl, ⟨v, s1⟩, bB⟩
  have HQ : Hid (∀ e w', TP w B g s (step s r) e w' → ∃ q, e = .returned (.bool q)) := fun e w' h => ⟨_, h.1⟩
  have RN : Hid (W1.rangeAt w.heap.size 0 r.cells) := r1
  have ZR : Hid ((Tryd.prog.info? 33).map (·.size) = some r.cells.length) := Rc.infoL r hr
  have hw1 := hW1.symm
  unfold Rc.val
  clear h hB hi hl b1 r1 s1 hBw bB hW1 hr
  generalize TP w B g s (step s r) = Q at *
  generalize r.cells = cs at *
  generalize r.x.i = ii at *
  generalize r.x.o = oo at *
  generalize r.k = k at *
  by_cases h0 : k = 0
  · have c := (C0 h0).out
    rw [h0] at k0
    clear C0 C1 C2 C4 C9 h0
    go_enter Tryd.func29, Tryd.ntmps29
    go_wp2_with (refine wpList_load_mid rfl 33 _ rfl w.heap.size 0 rfl cs _ RN.out Tryd.underlying33 rfl ZR.out ?_)
    refine c.mono ?_
    intro e w2 h2
    obtain ⟨q, rfl⟩ := HQ.out e w2 h2
    have H2 : Hid (Q (.returned (.bool q)) w2) := h2
    clear c h2
    go_wp2
    exact H2.out
  by_cases h1 : k = 1
  · have c := (C1 h1).out
    rw [h1] at k0
    clear C0 C1 C2 C4 C9 h1 h0
    go_enter Tryd.func29, Tryd.ntmps29
    go_wp2_with fail
    refine c.mono ?_
    intro e w2 h2
    obtain ⟨q, rfl⟩ := HQ.out e w2 h2
    have H2 : Hid (Q (.returned (.bool q)) w2) := h2
    clear c h2
    go_wp2
    exact H2.out
  by_cases h2 : k = 2
  · have c := (C2 (.inl h2)).out
    rw [h2] at k0
    clear C0 C1 C2 C4 C9 h2 h1 h0
    go_enter Tryd.func29, Tryd.ntmps29
    go_wp2_with fail
    refine c.mono ?_
    intro e w2 h2
    obtain ⟨q, rfl⟩ := HQ.out e w2 h2
    have H2 : Hid (Q (.returned (.bool q)) w2) := h2
    clear c h2
    go_wp2
    exact H2.out
  by_cases h3 : k = 3
  · have c := (C2 (.inr h3)).out
    rw [h3] at k0
    clear C0 C1 C2 C4 C9 h3 h2 h1 h0
    go_enter Tryd.func29, Tryd.ntmps29
    go_wp2_with fail
    refine c.mono ?_
    intro e w2 h2
    obtain ⟨q, rfl⟩ := HQ.out e w2 h2
    have H2 : Hid (Q (.returned (.bool q)) w2) := h2
    clear c h2
    go_wp2
    exact H2.out
  by_cases h4 : k = 4
  · have c := (C4 h4).out
    rw [h4] at k0
    clear C0 C1 C2 C4 C9 h4 h3 h2 h1 h0
    go_enter Tryd.func29, Tryd.ntmps29
    go_wp2_with fail
    refine c.mono ?_
    intro e w2 h2
    obtain ⟨q, rfl⟩ := HQ.out e w2 h2
    have H2 : Hid (Q (.returned (.bool q)) w2) := h2
    clear c h2
    go_wp2
    exact H2.out
  · have H2 := C9 ⟨h0, h1, h2, h3, h4⟩
    have d0 : (k == 0) = false := by simpa using h0
    have d1 : (k == 1) = false := by simpa using h1
    have d2 : (k == 2) = false := by simpa using h2
    have d3 : (k == 3) = false := by simpa using h3
    have d4 : (k == 4) = false := by simpa using h4
    clear C0 C1 C2 C4 C9
    go_enter Tryd.func29, Tryd.ntmps29
    go_wp2
    exact H2.out
end Go.Proofs.YtcenchnmibdebaaDoor
