/-
  An answer that is overwritten: its cells stay what they are, text for text and byte for byte.
-/
import Derived.Test.YtdomknajkipmnaaDoorCp
namespace Go.Proofs.YtdomknajkipmnaaDoor
open Go.RowKit

/-- Entries that may be overwritten: none of their memory lies below B. -/
def QE (w : World) (B g n : Nat) (U : Nat → Value) : Prop :=
  (∀ i, i < n → B ≤ g ∧ (∃ p, w.cell? ⟨g, i * 3, none⟩ = some (.string p)) ∧ w.frozen? ⟨g, i * 3, none⟩ = false ∧ w.cell? ⟨g, i * 3 + 2, none⟩ = some (U i)) ∧
  ∀ i, i < n → ∃ A len cap, U i = .slice A len cap ∧ len ≤ cap ∧ cap ≤ maxLen ∧ (A = none → len = 0) ∧ ∀ h, A = some h → h.off = 0 ∧ h.spot = none ∧ B ≤ h.block ∧ h.block ≠ g ∧ ∀ k, k < len → ∃ z, w.cell? ⟨h.block, k, none⟩ = some (.int .u8 z) ∧ 0 ≤ z ∧ z < 256 ∧ w.frozen? ⟨h.block, k, none⟩ = false
theorem OE.qe {w : World} {B : Nat} {v : Value} {L : List En} (h : OE w B v L) : ∃ a c g U, v = .slice a L.length c ∧ L.length ≤ c ∧ (L.length ≠ 0 → a = some ⟨g, 0, none⟩) ∧ QE w B g L.length U := by
  obtain ⟨U, h1, h2⟩ := h
  have h1' := h1
  rcases h1.2 with ⟨rfl, h3⟩ | ⟨g, cap, cur, rfl, hg, hh, hl, hm, r⟩
  · refine ⟨none, 0, 0, U, by rw [h3], by rw [h3]; exact Nat.le_refl _, fun e => absurd h3 e, fun i hi => by omega, fun i hi => by omega⟩
  · refine ⟨_, cap, g, U, rfl, hl, fun _ => rfl, fun i hi => ⟨hg, ?_⟩, fun i hi => ?_⟩
    · have c : ∀ j, j < L.length * 3 → w.cell? ⟨g, 0 + j, none⟩ = some (cellE L U j) := fun j hj => by
        have := h1'.cells (g := g) rfl j (cellE L U j) (by rw [flat_get, if_pos hj])
        rwa [Addr.add_lit] at this
      have c0 := c (i * 3) (by omega)
      have c2 := c (i * 3 + 2) (by omega)
      unfold cellE at c0 c2
      rw [if_pos (by omega), Nat.zero_add] at c0
      rw [if_neg (by omega), if_neg (by omega), show (i * 3 + 2) / 3 = i by omega, Nat.zero_add] at c2
      exact ⟨⟨_, c0⟩, by simp [World.frozen?, hh], c2⟩
    · obtain ⟨h4, h5⟩ := h2 i hi
      have h4' := h4
      rcases h4.2 with ⟨e, h6⟩ | ⟨k, cap', cur', e, hk, hh', hl', hm', r'⟩
      · exact ⟨none, 0, 0, e, Nat.le_refl _, by unfold maxLen; omega, fun _ => rfl, fun h hh => by cases hh⟩
      · refine ⟨_, _, cap', e, hl', hm', (fun e => by cases e), fun h hh2 => ?_⟩
        cases hh2
        refine ⟨rfl, rfl, hk, fun e2 => ?_, fun q hq => ?_⟩
        · have e3 : k = g := e2
          subst e3
          rw [hh] at hh'
          simp at hh'
        · have c := h4'.cells (g := k) (by rw [e]; rfl) q (.int .u8 ((atE L i).z.getD q 0)) (by
            have e2 : (atE L i).z[q]? = some ((atE L i).z.getD q 0) := by
              generalize (atE L i).z = Z at hq ⊢
              simp [List.getD, hq]
            rw [List.getElem?_map, e2]; rfl)
          rw [Addr.add_lit, Nat.zero_add] at c
          exact ⟨_, c, (h5 q).1, (h5 q).2, by simp [World.frozen?, hh']⟩
theorem QE.kept {w w' : World} {B g n : Nat} {U : Nat → Value} (h : QE w B g n U) (hb : Below w.heap.size w w') (hf : ∀ b k, b < w.heap.size → w'.frozen? ⟨b, k, none⟩ = w.frozen? ⟨b, k, none⟩) : QE w' B g n U := by
  obtain ⟨h1, h2⟩ := h
  refine ⟨fun i hi => ?_, fun i hi => ?_⟩
  · obtain ⟨q0, ⟨p, q1⟩, q2, q3⟩ := h1 i hi
    exact ⟨q0, ⟨p, (hb.cell (World.block_lt_of_cell? _ _ q1)).trans q1⟩, (hf _ _ (World.block_lt_of_cell? _ _ q1)).trans q2, (hb.cell (World.block_lt_of_cell? _ _ q3)).trans q3⟩
  · obtain ⟨A, len, cap, e, l1, l2, l3, l4⟩ := h2 i hi
    refine ⟨A, len, cap, e, l1, l2, l3, fun h hh => ?_⟩
    obtain ⟨m1, m2, m3, m4, m5⟩ := l4 h hh
    refine ⟨m1, m2, m3, m4, fun k hk => ?_⟩
    obtain ⟨z, r1, r2, r3, r4⟩ := m5 k hk
    exact ⟨z, (hb.cell (World.block_lt_of_cell? _ _ r1)).trans r1, r2, r3, (hf _ _ (World.block_lt_of_cell? _ _ r1)).trans r4⟩
theorem below_frozen {w w' : World} (hb : Below w.heap.size w w') (b k : Nat) (h : b < w.heap.size) : w'.frozen? ⟨b, k, none⟩ = w.frozen? ⟨b, k, none⟩ := World.frozen?_of_block (hb.block b h)
/-- A byte is overwritten. -/
theorem QE.byte {w : World} {B g n : Nat} {U : Nat → Value} (h : QE w B g n U) {b k : Nat} (z : Int) (hz : 0 ≤ z ∧ z < 256) (hbg : b ≠ g) (hc : ∃ y, w.cell? ⟨b, k, none⟩ = some y) : QE (w.setCell ⟨b, k, none⟩ (.int .u8 z)) B g n U := by
  obtain ⟨h1, h2⟩ := h
  obtain ⟨y, hc⟩ := hc
  refine ⟨fun i hi => ?_, fun i hi => ?_⟩
  · obtain ⟨q0, ⟨p, q1⟩, q2, q3⟩ := h1 i hi
    refine ⟨q0, ⟨p, ?_⟩, ?_, ?_⟩
    · rw [World.cell?_setCell_other _ _ _ _ (fun e => hbg (congrArg Addr.block e))]; exact q1
    · rw [World.frozen?_setCell]; exact q2
    · rw [World.cell?_setCell_other _ _ _ _ (fun e => hbg (congrArg Addr.block e))]; exact q3
  · obtain ⟨A, len, cap, e, l1, l2, l3, l4⟩ := h2 i hi
    refine ⟨A, len, cap, e, l1, l2, l3, fun h hh => ?_⟩
    obtain ⟨m1, m2, m3, m4, m5⟩ := l4 h hh
    refine ⟨m1, m2, m3, m4, fun q hq => ?_⟩
    obtain ⟨z', r1, r2, r3, r4⟩ := m5 q hq
    by_cases hs : h.block = b ∧ q = k
    · obtain ⟨rfl, rfl⟩ := hs
      exact ⟨z, World.cell?_setCell_same _ _ _ hc, hz.1, hz.2, by rw [World.frozen?_setCell]; exact r4⟩
    · exact ⟨z', by rw [World.cell?_setCell_other _ _ _ _ (fun e => hs ⟨(congrArg Addr.block e).symm, (congrArg Addr.off e).symm⟩)]; exact r1, r2, r3, by rw [World.frozen?_setCell]; exact r4⟩
/-- A path is overwritten. -/
theorem QE.path {w : World} {B g n : Nat} {U : Nat → Value} (h : QE w B g n U) {i : Nat} (s : ByteArray) (hc : ∃ y, w.cell? ⟨g, i * 3, none⟩ = some y) : QE (w.setCell ⟨g, i * 3, none⟩ (.string s)) B g n U := by
  obtain ⟨h1, h2⟩ := h
  obtain ⟨y, hc⟩ := hc
  refine ⟨fun j hj => ?_, fun j hj => ?_⟩
  · obtain ⟨q0, ⟨p, q1⟩, q2, q3⟩ := h1 j hj
    refine ⟨q0, ?_, ?_, ?_⟩
    · by_cases hs : j = i
      · subst hs
        exact ⟨s, World.cell?_setCell_same _ _ _ hc⟩
      · exact ⟨p, by rw [World.cell?_setCell_other _ _ _ _ (fun e => hs (by have := congrArg Addr.off e; dsimp only at this; omega))]; exact q1⟩
    · rw [World.frozen?_setCell]; exact q2
    · rw [World.cell?_setCell_other _ _ _ _ (fun e => by have := congrArg Addr.off e; dsimp only at this; omega)]; exact q3
  · obtain ⟨A, len, cap, e, l1, l2, l3, l4⟩ := h2 j hj
    refine ⟨A, len, cap, e, l1, l2, l3, fun h hh => ?_⟩
    obtain ⟨m1, m2, m3, m4, m5⟩ := l4 h hh
    refine ⟨m1, m2, m3, m4, fun q hq => ?_⟩
    obtain ⟨z', r1, r2, r3, r4⟩ := m5 q hq
    exact ⟨z', by rw [World.cell?_setCell_other _ _ _ _ (fun e => m4 (congrArg Addr.block e).symm)]; exact r1, r2, r3, by rw [World.frozen?_setCell]; exact r4⟩
end Go.Proofs.YtdomknajkipmnaaDoor
