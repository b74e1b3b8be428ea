/-
  Lists cut and joined.
-/
import Derived.Test.YtajcabfeabbknaaGreatDoorJe
namespace Go.Proofs.YtajcabfeabbknaaGreatDoor
open Go.RowKit

/-- The rest of a slice of entries. -/
theorem ES.drop {w : World} {a : Option Addr} {n c : Nat} {l : List En} (h : ES w (.slice a n c) l) (m d : Nat) (hm : m ≤ n) (hd : d = n - m) : ES w (.slice (if c = m then a else a.map (fun y => y.add (m * 3))) d (c - m)) (l.drop m) := by
  obtain ⟨U, a', c', h1, h2, h3, h4, h5⟩ := h
  cases h1
  subst hd
  have hl : (l.drop m).length = l.length - m := List.length_drop ..
  refine ⟨fun i => U (m + i), _, c - m, by rw [hl], by rw [hl]; omega, by omega, fun e => ?_, ?_⟩
  · by_cases hc : c = m
    · omega
    · rw [if_neg hc] at e
      cases a with
      | none => have := h4 rfl; omega
      | some y => cases e
  · rcases h5 with h5 | ⟨b, off, h6, h7⟩
    · subst h5; exact .inl (by simp)
    · by_cases hc : l.length = m
      · refine .inl ?_
        rw [List.drop_of_length_le (by omega)]
      · rw [if_neg (by omega), h6]
        refine .inr ⟨b, off + m * 3, by rw [Option.map_some, Addr.add_lit], fun i hi => ?_⟩
        rw [hl] at hi
        obtain ⟨q0, q1, q2, q3⟩ := h7 (m + i) (by omega)
        rw [atE_drop]
        refine ⟨?_, ?_, ?_, q3⟩
        · rw [← q0]; congr 2; omega
        · rw [← q1]; congr 2; omega
        · rw [← q2]; congr 2; omega
theorem ES.dropN {w : World} {y : Addr} {n c : Nat} {l : List En} (h : ES w (.slice (some y) n c) l) (m d : Nat) (hm : m ≤ n) (hd : d = n - m) (hc : c ≠ m) : ES w (.slice (some (y.add (m * 3))) d (c - m)) (l.drop m) := by
  have := h.drop m d hm hd
  rwa [if_neg hc] at this
theorem ES.dropB {w : World} {b off n c : Nat} {l : List En} (h : ES w (.slice (some ⟨b, off, none⟩) n c) l) (m d : Nat) (hm : m ≤ n) (hd : d = n - m) (hc : c ≠ m) : ES w (.slice (some ⟨b, off + m * 3, none⟩) d (c - m)) (l.drop m) := by
  have := h.dropN m d hm hd hc
  rwa [Addr.add_lit] at this
theorem ES.dropE {w : World} {a : Option Addr} {n : Nat} {l : List En} (h : ES w (.slice a n n) l) : ES w (.slice a 0 0) (l.drop n) := by
  have := h.drop n 0 (Nat.le_refl _) (by omega)
  rwa [if_pos rfl, Nat.sub_self] at this
theorem flat3 (A B C : List En) : [A, B, C].flatten = A ++ B ++ C := by simp
theorem flat2 (A B : List En) : [A, B].flatten = A ++ B := by simp
/-- An entry ahead of which, and behind which, are parts of a list. -/
theorem join3 (w : World) (a : Option Addr) (n c k m : Nat) (l : List En) (x : En) (ua : Option Addr) (un uc : Nat) (V : Value) (h : ES w (.slice a n c) l) (hV : ES w V (l.drop m)) (hx : EV w (.agg #[.string x.p, .bool x.d, .slice ua un uc]) x) (hk : k ≤ n) (hn : l.length ≤ 100) :
    Calls Tryz.prog 70 #[.slice (some ⟨w.heap.size + 1, 0, none⟩) 3 3] ((w.alloc (.cells #[.string x.p, .bool x.d, .slice ua un uc] 46)).alloc (.cells #[.slice a k c, .slice (some ⟨w.heap.size, 0, none⟩) 1 1, V] 22)).drew
      fun e w' => ∃ v, e = .returned v ∧ ES w' v (l.take k ++ [x] ++ l.drop m) ∧ Below w.heap.size w w' := by
  obtain ⟨W1, hW1⟩ : ∃ W1, W1 = w.alloc (.cells #[.string x.p, .bool x.d, .slice ua un uc] 46) := ⟨_, rfl⟩
  have b1 : Below w.heap.size w W1 := by rw [hW1]; exact (Below.refl _ _).alloc (Nat.le_refl _) _
  have s1 : W1.heap.size = w.heap.size + 1 := by rw [hW1]; simp
  have k1 : W1.heap[w.heap.size]? = some (.cells #[.string x.p, .bool x.d, .slice ua un uc] 46 (0, 0)) := by rw [hW1]; exact heap_alloc_new _ _
  rw [← hW1]
  clear hW1
  obtain ⟨A, hA⟩ : ∃ A, A = #[Value.slice a k c, .slice (some ⟨w.heap.size, 0, none⟩) 1 1, V] := ⟨_, rfl⟩
  rw [← hA]
  have b2 : Below W1.heap.size W1 (W1.alloc (.cells A 22)).drew := ((Below.refl _ _).alloc (Nat.le_refl _) _).drew
  have b12 : Below w.heap.size w (W1.alloc (.cells A 22)).drew := b1.trans (b2.mono b1.size)
  have kc : ∀ i, (W1.alloc (.cells A 22)).drew.cell? ⟨w.heap.size + 1, 0 + i, none⟩ = A[i]? := fun i => by
    show (W1.alloc (.cells A 22)).cell? ⟨w.heap.size + 1, 0 + i, none⟩ = A[i]?
    rw [World.cell?_alloc_at _ _ _ _ (by rw [s1])]
    simp
  obtain ⟨e0', e1', e2', e3, hsl⟩ := hx
  cases e3
  have hp : Pts (W1.alloc (.cells A 22)).drew (w.heap.size + 1) [l.take k, [x], l.drop m] := by
    intro i hi
    rcases (show i = 0 ∨ i = 1 ∨ i = 2 by simp at hi; omega) with rfl | rfl | rfl
    · exact ⟨_, by rw [kc, hA]; rfl, (h.kept b12).take k hk⟩
    · refine ⟨_, by rw [kc, hA]; rfl, fun _ => .slice ua un uc, some ⟨w.heap.size, 0, none⟩, 1, rfl, Nat.le_refl _, by unfold maxLen; omega, (fun e => by cases e), .inr ⟨_, 0, rfl, fun i hi => ?_⟩⟩
      obtain rfl : i = 0 := by simpa using hi
      obtain ⟨p0, p1, p2, -, -, -⟩ := trio ((b2.block _ (lt_of_block k1)).trans k1)
      exact ⟨p0, p1, p2, hsl.kept b12⟩
    · exact ⟨_, by rw [kc, hA]; rfl, hV.kept b12⟩
  have hlen : [l.take k, [x], l.drop m].flatten.length ≤ 1000 := by
    rw [flat3, List.length_append, List.length_append, List.length_take, List.length_drop]
    simp
    omega
  refine (joinE_any _ 3 _ _ rfl (by omega) hp hlen).mono ?_
  rintro e w' ⟨v, rfl, es, bw⟩
  rw [flat3] at es
  exact ⟨v, rfl, es, b12.trans (bw.mono b12.size)⟩
/-- Two parts of a list. -/
theorem join2 (w : World) (a : Option Addr) (n c k m : Nat) (l : List En) (V : Value) (h : ES w (.slice a n c) l) (hV : ES w V (l.drop m)) (hk : k ≤ n) (hn : l.length ≤ 100) :
    Calls Tryz.prog 70 #[.slice (some ⟨w.heap.size, 0, none⟩) 2 2] (w.alloc (.cells #[.slice a k c, V] 22)).drew
      fun e w' => ∃ v, e = .returned v ∧ ES w' v (l.take k ++ l.drop m) ∧ Below w.heap.size w w' := by
  obtain ⟨A, hA⟩ : ∃ A, A = #[Value.slice a k c, V] := ⟨_, rfl⟩
  rw [← hA]
  have b2 : Below w.heap.size w (w.alloc (.cells A 22)).drew := ((Below.refl _ _).alloc (Nat.le_refl _) _).drew
  have kc : ∀ i, (w.alloc (.cells A 22)).drew.cell? ⟨w.heap.size, 0 + i, none⟩ = A[i]? := fun i => by
    show (w.alloc (.cells A 22)).cell? ⟨w.heap.size, 0 + i, none⟩ = A[i]?
    rw [World.cell?_alloc_at _ _ _ _ rfl]
    simp
  have hp : Pts (w.alloc (.cells A 22)).drew w.heap.size [l.take k, l.drop m] := by
    intro i hi
    rcases (show i = 0 ∨ i = 1 by simp at hi; omega) with rfl | rfl
    · exact ⟨_, by rw [kc, hA]; rfl, (h.kept b2).take k hk⟩
    · exact ⟨_, by rw [kc, hA]; rfl, hV.kept b2⟩
  have hlen : [l.take k, l.drop m].flatten.length ≤ 1000 := by
    rw [flat2, List.length_append, List.length_take, List.length_drop]
    omega
  refine (joinE_any _ 2 _ _ rfl (by omega) hp hlen).mono ?_
  rintro e w' ⟨v, rfl, es, bw⟩
  rw [flat2] at es
  exact ⟨v, rfl, es, b2.trans (bw.mono b2.size)⟩
end Go.Proofs.YtajcabfeabbknaaGreatDoor
