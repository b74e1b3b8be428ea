/-
  Operations laid behind one another, apart from a decoder's row.
-/
import Derived.Test.YtgnampbbkaolmaaDoorDj
namespace Go.Proofs.YtgnampbbkaolmaaDoor
open Go.RowKit
set_option maxRecDepth 100000

theorem beh_apart {l m : List Xp} {U V : Nat → Value} {r : Option Nat} (h1 : ∀ i, i < l.length → ∀ k, (U i).ownBlock = some k → r ≠ some k) (h2 : ∀ i, i < m.length → ∀ k, (V i).ownBlock = some k → r ≠ some k) :
    ∀ i, i < (l ++ m).length → ∀ k, (behU l.length U V i).ownBlock = some k → r ≠ some k := fun i hi k => by
  unfold behU
  split
  · rename_i h; exact h1 i h k
  · rename_i h
    rw [List.length_append] at hi
    exact h2 _ (by omega) k
theorem wpList_append_oxa {w : World} {ops : Array Oper} {rest : List Oper} {o : Oper} {a : Act} {Q : Exit → Act → World → Prop} (hgd : o.guard = none) (s x : Operand)
    (ho : o.op = .call { callee := .builtin .append, args := #[s, x], argTypes := #[23, 23] })
    (B : Nat) (r : Option Nat) (v : Value) (l : List Xp) (hs : a.eval s = v) (hown : OXa w B r v l) (src : Value) (m : List Xp) (hx : a.eval x = src) (hsl : OXa w B r src m) (hbig : l.length + m.length ≤ 100000) (hbase : B ≤ w.heap.size)
    (h : ∀ v' w', OXa w' B r v' (l ++ m) → w.grownBy w' v.ownBlock → wpList Tryd.prog ops Q rest (a.put o.dst v') w') : wpList Tryd.prog ops Q (o :: rest) a w := by
  obtain ⟨U, r1, o1⟩ := hown
  obtain ⟨V, r2, o2⟩ := hsl
  have hsu := r2.xsu fun i hi => sl_owned (o2 i hi).1.1 (o2 i hi).1.2
  obtain ⟨ad, cap, rfl, h1, h2, h3, h4⟩ := hsu
  cases ad with
  | none =>
    obtain rfl := h3 rfl
    obtain rfl : m = [] := List.length_eq_zero_iff.1 (by omega)
    obtain ⟨i0, hi, hz0, hz1, hz2⟩ := info_parts infoX
    refine wpList_append_own_none hgd s x 23 ho B 63 i0 4 Tryd.underlying23 hi v l.length (flatX l U) hs r1 hx ?_
    refine h v w ?_ ⟨rfl, rfl, rfl, Nat.le_refl _, fun _ _ _ => rfl⟩
    rw [List.append_nil]
    exact ⟨U, r1, o1⟩
  | some y =>
    refine wpList_append_xat hgd s x ho B v l U hs r1 y m.length m V cap rfl hx ?_ ?_ hbig hbase ?_
    · intro j hj
      rcases h4 with rfl | ⟨b, off, e, hc⟩
      · simp at hj
      · cases e
        rw [Addr.add_lit]
        exact cellX_at (fun i hi => ⟨(hc i hi).1, (hc i hi).2.1, (hc i hi).2.2.1, (hc i hi).2.2.2.1⟩) j hj
    · intro i hi
      rcases h4 with rfl | ⟨b, off, e, hc⟩
      · simp at hi
      · obtain ⟨a, c, e2, _⟩ := (hc i hi).2.2.2.2
        rw [e2]
        rfl
    · intro v' w' r' g'
      have b1 := beh_own r1 g' (fun i hi => (o1 i hi).1) (fun i hi => (o2 i hi).1)
      have b2 := beh_apart (fun i hi => (o1 i hi).2) (fun i hi => (o2 i hi).2)
      exact h v' w' ⟨_, r', fun i hi => ⟨b1 i hi, b2 i hi⟩⟩ g'
/-- A decoder stays where a row of operations grows. -/
theorem DC.grown {w w' : World} {B g : Nat} {rv : Value} {D : Dc} (h : DC w B g rv D) {B' : Nat} {r : Option Nat} {v : Value} {l : List Xp} (hv : OXa w B' r v l) (hg : w.grownBy w' v.ownBlock) : DC w' B g rv D := by
  obtain ⟨h1, h2, h3, h4, h5, h6, h7, h8⟩ := h
  obtain ⟨U, r1, -⟩ := hv
  exact ⟨h1, grown_db h2 hg (own_ne r1 h2 (by decide)), h3, fun e => ⟨own_apart r1 (h4 e).1 (by decide) hg, (h4 e).2⟩, fun k e => ⟨(h5 k e).1, Nat.lt_of_lt_of_le (h5 k e).2 hg.size⟩, h6, h7, h8⟩
/-- A row of a decoder holds no operations. -/
theorem DC.norow {w : World} {B g : Nat} {rv : Value} {D : Dc} (h : DC w B g rv D) (he : D.err = 0) : ∀ (k : Nat) (cs : Array Value) (fr : Nat × Nat), rv.ownBlock = some k → w.heap[k]? ≠ some (.cells cs 63 fr) := fun k cs fr e hh => by
  rcases (h.2.2.2.1 he).1.2 with ⟨e3, _⟩ | ⟨k', cap, cur, e3, _, hh', _⟩
  · rw [e3] at e; cases e
  · rw [e3] at e
    cases e
    rw [hh] at hh'
    cases hh'
theorem OXa.len {w : World} {B : Nat} {r : Option Nat} {v : Value} {l : List Xp} (h : OXa w B r v l) : ∃ a c, v = .slice a l.length c := by
  obtain ⟨a, c, e, -⟩ := h.ox.shape
  exact ⟨a, c, e⟩
theorem grown_below {w w' : World} {B C : Nat} {r : Option Nat} {v : Value} {l : List Xp} (hv : OXa w B r v l) (hg : w.grownBy w' v.ownBlock) (hC : C ≤ B) (hw : C ≤ w.heap.size) : Below C w w' := by
  obtain ⟨U, r1, -⟩ := hv
  exact ((Below.refl C w).grown hg hw (fun k e => Nat.le_trans hC (own_base r1 k e)))
end Go.Proofs.YtgnampbbkaolmaaDoor
