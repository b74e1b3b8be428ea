/-
  Entries laid one behind the other in a row of the call's own, with bytes that were there.
-/
import Derived.Test.YtajcabfeabbknaaGreatDoorCp
namespace Go.Proofs.YtajcabfeabbknaaGreatDoor
open Go.RowKit

/-- Entries in a row of the call's own; their bytes are those of another world. -/
def SE (w0 w : World) (B : Nat) (v : Value) (L : List En) : Prop := ∃ U, RE w B v L U ∧ ∀ i, i < L.length → Sl w0 (U i) (atE L i).z
theorem SE.nil (w0 w : World) (B : Nat) : SE w0 w B (.slice none 0 0) [] := ⟨fun _ => .slice none 0 0, RE.nil _ _ _, fun i hi => by simp at hi⟩
theorem SE.es {w0 w : World} {B : Nat} {v : Value} {L : List En} (h : SE w0 w B v L) (hb : Below w0.heap.size w0 w) : ES w v L := by
  obtain ⟨U, h1, h2⟩ := h
  exact h1.es fun i hi => (h2 i hi).kept hb
theorem SE.below {w0 w w' : World} {B : Nat} {v : Value} {L : List En} (h : SE w0 w B v L) (hb : Below w.heap.size w w') : SE w0 w' B v L := by
  obtain ⟨U, h1, h2⟩ := h
  exact ⟨U, h1.below hb, h2⟩
theorem SE.shape {w0 w : World} {B : Nat} {v : Value} {L : List En} (h : SE w0 w B v L) : ∃ a c, v = .slice a L.length c := by
  obtain ⟨U, h1, _⟩ := h
  exact own_shape h1
theorem wpList_append_se {w0 wr : World} {ops : Array Oper} {rest : List Oper} {o : Oper} {a : Act} {Q : Exit → Act → World → Prop} (hgd : o.guard = none) (s x : Operand)
    (ho : o.op = .call { callee := .builtin .append, args := #[s, x], argTypes := #[22, 22] })
    (v : Value) (L : List En) (hs : a.eval s = v) (hse : SE w0 wr w0.heap.size v L) (y : En) (u : Value) (hu : Sl w0 u y.z) (hx : a.eval x = .slice (some ⟨wr.heap.size, 0, none⟩) 1 1) (hbig : L.length ≤ 1000) (hB : Below w0.heap.size w0 wr)
    (h : ∀ v' w', SE w0 w' w0.heap.size v' (L ++ [y]) → Below w0.heap.size w0 w' → wpList Tryz.prog ops Q rest (a.put o.dst v') w') :
    wpList Tryz.prog ops Q (o :: rest) a (wr.alloc (.cells #[.string y.p, .bool y.d, u] 46)) := by
  obtain ⟨U, h1, h2⟩ := hse
  have n4 : Below wr.heap.size wr (wr.alloc (.cells #[.string y.p, .bool y.d, u] 46)) := (Below.refl _ _).alloc (Nat.le_refl _) _
  have B4 : Below w0.heap.size w0 (wr.alloc (.cells #[.string y.p, .bool y.d, u] 46)) := hB.trans (n4.mono hB.size)
  have R4 := h1.below n4
  refine wpList_append_en hgd s x ho w0.heap.size v L U hs R4 wr.heap.size 1 [y] (fun _ => u) 1 0 rfl hx ?_ ?_ ?_ B4.size ?_
  · intro j hj
    have e := flat_get [y] (fun _ => u) j
    rw [if_pos hj, ← flat_one] at e
    rw [Nat.zero_add, World.cell?_alloc_at _ _ _ _ rfl, ← e]
    simp
  · intro i hi
    exact sl_one hu
  · simp; omega
  · intro v' w' r' g'
    refine h v' w' ⟨_, r', fun i hi => ?_⟩ (B4.grown g' B4.size (own_base R4))
    rw [List.length_append, List.length_singleton] at hi
    unfold behU
    rcases Nat.lt_or_ge i L.length with hlt | hge
    · rw [if_pos hlt, atE_left L [y] i hlt]
      exact h2 i hlt
    · obtain rfl : i = L.length := by omega
      rw [if_neg (by omega)]
      have e := atE_right L [y] 0
      rw [Nat.add_zero] at e
      rw [e]
      exact hu
end Go.Proofs.YtajcabfeabbknaaGreatDoor
