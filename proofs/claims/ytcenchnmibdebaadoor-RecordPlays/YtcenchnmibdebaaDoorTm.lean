/-
  What mark answers.
-/
import Derived.Test.YtcenchnmibdebaaDoorTk
namespace Go.Proofs.YtcenchnmibdebaaDoor
open Go.RowKit
set_option maxRecDepth 100000

theorem flat_set {k : Nat} : ∀ {L : List (List Value)} (i j : Nat) (x : Value), CL k L → i < L.length → j < k → L.flatten.set (i * k + j) x = (L.set i ((atC L i).set j x)).flatten
  | [], i, j, x, _, hi, _ => by simp at hi
  | c :: L, 0, j, x, h, _, hj => by
    have hc := (h c (by simp)).1
    have e : atC (c :: L) 0 = c := rfl
    rw [List.flatten_cons, List.set_cons_zero, List.flatten_cons, Nat.zero_mul, Nat.zero_add, List.set_append_left _ _ (by omega), e]
  | c :: L, i + 1, j, x, h, hi, hj => by
    have hc := (h c (by simp)).1
    have e : atC (c :: L) (i + 1) = atC L i := rfl
    have ih := flat_set (L := L) i j x (fun d hd => h d (by simp [hd])) (by simpa using hi) hj
    rw [List.flatten_cons, List.set_cons_succ, List.flatten_cons, Nat.succ_mul, List.set_append_right _ _ (by omega), e, ← ih, hc]
    congr 2
    omega
theorem own_put {w : World} {B n s g c : Nat} {e : TypeId} {xs : List Value} {j : Nat} {x : Value} (h : w.ownsRow B e s (.slice (some ⟨g, 0, none⟩) n c) n xs) : (w.setCell ⟨g, j, none⟩ x).ownsRow B e s (.slice (some ⟨g, 0, none⟩) n c) n (xs.set j x) := by
  obtain ⟨h1, h2⟩ := h
  refine ⟨by rw [List.length_set]; exact h1, ?_⟩
  rcases h2 with ⟨h2, _⟩ | ⟨g', cap, cur, e', hb, hh, hn, hm, hs, ht⟩
  · cases h2
  · cases e'
    refine .inr ⟨g, c, _, rfl, hb, heap_setCell_same _ _ _ _ _ _ hh, hn, hm, by simpa using hs, ?_⟩
    simp only [Array.toList_setIfInBounds]
    rw [List.take_set, ht]
theorem pa_set (x : Pa) (o : Int) (hx : x.ok) : x.cells.set 35 (.int .i64 o) = Pa.cells { x with o := o } := by
  have hl := hx.1
  unfold Pa.cells
  rw [List.set_cons_succ, List.set_cons_succ, List.set_append_right _ _ (by simp [hl])]
  simp [hl]
theorem own_froz {w : World} {B n s g c : Nat} {e : TypeId} {xs : List Value} (h : w.ownsRow B e s (.slice (some ⟨g, 0, none⟩) n c) n xs) (i : Nat) : w.frozen? ⟨g, i, none⟩ = false := by
  rcases h.2 with ⟨h2, _⟩ | ⟨g', cap, cur, e', hb, hh, hn, hm, hs, ht⟩
  · cases h2
  · cases e'
    simp [World.frozen?, hh]
/-- The parts, one of them further on. -/
def mkL (l : List Pa) (at' : Nat) (o : Int) : List Pa := l.set at' { atP l at' with o := o }
theorem RP.mark {w : World} {B g n c : Nat} {l : List Pa} (h : RP w B (.slice (some ⟨g, 0, none⟩) n c) l) (at' : Nat) (o : Int) (hat : at' < l.length) (ho : i64 o) : RP (w.setCell ⟨g, at' * 36 + 35, none⟩ (.int .i64 o)) B (.slice (some ⟨g, 0, none⟩) n c) (mkL l at' o) := by
  obtain ⟨⟨h1, h2⟩, h3⟩ := h
  have hx := Pa.at l h3 at'
  have hn : n = (l.map Pa.cells).length := by
    rcases h1.2 with ⟨e, _⟩ | ⟨_, _, _, e, _⟩
    · cases e
    · cases e; rfl
  have e1 : (mkL l at' o).map Pa.cells = (l.map Pa.cells).set at' ((atC (l.map Pa.cells) at').set 35 (.int .i64 o)) := by
    unfold mkL
    rw [List.map_set, atC_pa l at' hat, pa_set _ o hx]
  have ok' : ∀ x ∈ mkL l at' o, x.ok := fun x hx' => by
    rcases List.mem_or_eq_of_mem_set hx' with q | q
    · exact h3 x q
    · subst q
      exact ⟨hx.1, hx.2.1, hx.2.2.1, hx.2.2.2.1, ho⟩
  refine ⟨⟨?_, cl_pa ok'⟩, ok'⟩
  have h1' := h1
  rw [hn] at h1'
  have h4 := own_put (j := at' * 36 + 35) (x := .int .i64 o) h1'
  rw [flat_set at' 35 _ h2 (by simpa using hat) (by omega), ← e1] at h4
  have e2 : ((mkL l at' o).map Pa.cells).length = (l.map Pa.cells).length := by simp [mkL]
  rw [e2, hn]
  exact h4
def mkO (s : Ste) (i o : Int) : Option Ste := if plc s.l i < s.l.length ∧ (atP s.l (plc s.l i)).o ≤ o ∧ o ≤ (atP s.l (plc s.l i)).n then some ⟨mkL s.l (plc s.l i) o, s.n⟩ else none
set_option maxHeartbeats 2000000 in
theorem mark_any (B g : Nat) (v : Value) (s : Ste) (i o : Int) (w : World) (h : SV w B g v s) (hBw : B ≤ w.heap.size) (hl : s.l.length ≤ 100000) (ho : i64 o) :
    Calls Tryd.prog 45 #[.pointer (some ⟨g, 0, none⟩), .int .i64 i, .int .i64 o] w fun e w' => e = .returned (.bool (mkO s i o).isSome) ∧ SV w' B g v ((mkO s i o).getD s) ∧ Below B w w' := by
  have CP := place_any B g v s i w h hl
  have HM : Hid (mkO s i o = if plc s.l i < s.l.length ∧ (atP s.l (plc s.l i)).o ≤ o ∧ o ≤ (atP s.l (plc s.l i)).n then some ⟨mkL s.l (plc s.l i) o, s.n⟩ else none) := rfl
  have HP : Hid (plI s.l i = if plc s.l i < s.l.length then (plc s.l i : Int) else -1) := rfl
  by_cases hat : plc s.l i < s.l.length
  · have e1 : plI s.l i = (plc s.l i : Int) := by rw [HP.out, if_pos hat]
    rw [e1] at CP
    obtain ⟨b, off, c, rfl, hz⟩ : ∃ b off c, v = .slice (some ⟨b, 0, none⟩) s.l.length c ∧ off = 0 := by
      rcases h.2.1.1.2 with ⟨rfl, h0⟩ | ⟨g', cap, cur, rfl, _⟩
      · simp at h0; rw [h0] at hat; simp at hat
      · exact ⟨g', 0, cap, by simp, rfl⟩
    clear hz
    have G : Hid (∀ W, Below w.heap.size w W → W.cell? ⟨g, 0, none⟩ = some (.slice (some ⟨b, 0, none⟩) s.l.length c) ∧ W.cell? ⟨b, plc s.l i * 36 + 34, none⟩ = some (.int .i64 (atP s.l (plc s.l i)).n) ∧ W.cell? ⟨b, plc s.l i * 36 + 35, none⟩ = some (.int .i64 (atP s.l (plc s.l i)).o) ∧ W.frozen? ⟨b, plc s.l i * 36 + 35, none⟩ = false ∧ SV W B g (.slice (some ⟨b, 0, none⟩) s.l.length c) s ∧ Below B w W ∧ SV (W.setCell ⟨b, plc s.l i * 36 + 35, none⟩ (.int .i64 o)) B g (.slice (some ⟨b, 0, none⟩) s.l.length c) ⟨mkL s.l (plc s.l i) o, s.n⟩ ∧ Below B w (W.setCell ⟨b, plc s.l i * 36 + 35, none⟩ (.int .i64 o))) := fun W hb => by
      have hW := h.kept hb
      obtain ⟨b', off', e', hr⟩ := hW.2.is.at (plc s.l i) hat
      cases e'
      obtain ⟨_, _, _, c4, c5⟩ := paC hr (Pa.at s.l h.2.2 _)
      simp only [Nat.zero_add] at c4 c5
      have hf : ∀ j, W.frozen? ⟨b, j, none⟩ = false := fun j => own_froz hW.2.own j
      have hBb : B ≤ b := own_base hW.2.1.1 b rfl
      have bB := hb.mono hBw
      refine ⟨hW.cells.1, c4, c5, hf _, hW, bB, ⟨?_, RP.mark hW.2 _ _ hat ho⟩, bB.trans (set_below hBb)⟩
      have h1 := hW.1
      have hne : b ≠ g := fun e => own_ne hW.2.1.1 h1 (by decide) (by rw [← e]; rfl)
      rw [heap_setCell_other _ _ _ _ (fun e => hne (by simpa using e.symm))]
      exact h1
    have lat : (plc s.l i : Int) < (s.l.length : Int) := by omega
    have hn := hl
    clear h hl ho HP e1 hBw
    generalize hx : atP s.l (plc s.l i) = x at *
    generalize hmk : mkL s.l (plc s.l i) o = M at *
    generalize plc s.l i = j at *
    have hn2 : s.l.length ≤ 100000 := hn
    generalize hL : s.l.length = n at *
    have d0 : decide ((j : Int) < 0) = false := by simp
    clear hx hmk hL
    by_cases h1 : x.o ≤ o
    · have d1 : decide (o < x.o) = false := by simp; omega
      by_cases h2 : o ≤ x.n
      · have d2 : decide (x.n < o) = false := by simp; omega
        have HR : Hid (mkO s i o = some ⟨M, s.n⟩) := by unfold Hid; rw [HM.out, if_pos ⟨hat, h1, h2⟩]
        clear HM
        generalize mkO s i o = R at *
        go_enter Tryd.func45, Tryd.ntmps45
        go_wp2_with fail
        refine CP.mono ?_
        rintro e w1 ⟨rfl, b1⟩
        obtain ⟨g0, g34, g35, gf, -, -, gs, gb⟩ := G.out w1 b1
        have HZ : Hid (SV (w1.setCell ⟨b, j * 36 + 35, none⟩ (.int .i64 o)) B g (.slice (some ⟨b, 0, none⟩) n c) ⟨M, s.n⟩ ∧ Below B w (w1.setCell ⟨b, j * 36 + 35, none⟩ (.int .i64 o))) := ⟨gs, gb⟩
        clear CP b1 G gs gb
        go_wp2
        go_ret
        exact ⟨by rw [HR.out]; rfl, by rw [HR.out]; exact HZ.out.1, HZ.out.2⟩
      · have d2 : decide (x.n < o) = true := by simp; omega
        have HR : Hid (mkO s i o = none) := by unfold Hid; rw [HM.out, if_neg (fun q => h2 q.2.2)]
        clear HM
        generalize mkO s i o = R at *
        go_enter Tryd.func45, Tryd.ntmps45
        go_wp2_with fail
        refine CP.mono ?_
        rintro e w1 ⟨rfl, b1⟩
        obtain ⟨g0, g34, g35, gf, gs, gb, -, -⟩ := G.out w1 b1
        have HZ : Hid (SV w1 B g (.slice (some ⟨b, 0, none⟩) n c) s ∧ Below B w w1) := ⟨gs, gb⟩
        clear CP b1 G gs gb
        go_wp2
        go_ret
        exact ⟨by rw [HR.out]; rfl, by rw [HR.out]; exact HZ.out.1, HZ.out.2⟩
    · have d1 : decide (o < x.o) = true := by simp; omega
      have HR : Hid (mkO s i o = none) := by unfold Hid; rw [HM.out, if_neg (fun q => h1 q.2.1)]
      clear HM
      generalize mkO s i o = R at *
      go_enter Tryd.func45, Tryd.ntmps45
      go_wp2_with fail
      refine CP.mono ?_
      rintro e w1 ⟨rfl, b1⟩
      obtain ⟨g0, g34, g35, gf, gs, gb, -, -⟩ := G.out w1 b1
      have HZ : Hid (SV w1 B g (.slice (some ⟨b, 0, none⟩) n c) s ∧ Below B w w1) := ⟨gs, gb⟩
      clear CP b1 G gs gb
      go_wp2
      go_ret
      exact ⟨by rw [HR.out]; rfl, by rw [HR.out]; exact HZ.out.1, HZ.out.2⟩
  · have e1 : plI s.l i = -1 := by rw [HP.out, if_neg hat]
    rw [e1] at CP
    have HR : Hid (mkO s i o = none) := by unfold Hid; rw [HM.out, if_neg (fun q => hat q.1)]
    have G : Hid (∀ W, Below w.heap.size w W → SV W B g v s ∧ Below B w W) := fun W hb => ⟨h.kept hb, hb.mono hBw⟩
    clear h hl ho HP e1 HM hat hBw
    generalize mkO s i o = R at *
    go_enter Tryd.func45, Tryd.ntmps45
    go_wp2_with fail
    refine CP.mono ?_
    rintro e w1 ⟨rfl, b1⟩
    have HZ : Hid (SV w1 B g v s ∧ Below B w w1) := G.out w1 b1
    clear CP b1 G
    go_wp2
    go_ret
    exact ⟨by rw [HR.out]; rfl, by rw [HR.out]; exact HZ.out.1, HZ.out.2⟩
end Go.Proofs.YtcenchnmibdebaaDoor
