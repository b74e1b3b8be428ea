/-
  Both decoders, side by side.
-/
import Derived.Test.YtfccjeepmhgckaaDoorRfd
namespace Go.Proofs.YtfccjeepmhgckaaDoor
open Go.RowKit
set_option maxRecDepth 100000

theorem slx_kp {w w' : World} {v : Value} {b : List Int} {g : Nat} {r : Option Nat} (h : SlX w v b) (hk : Kp g r w w') (hv : ∀ k, v.ownBlock = some k → k ≠ g ∧ some k ≠ r ∧ k < w.heap.size) : SlX w' v b := by
  refine ⟨?_, h.2⟩
  obtain ⟨a, c, rfl, h1, h2, h3, h4⟩ := h.1
  refine ⟨a, c, rfl, h1, h2, h3, ?_⟩
  rcases h4 with h4 | ⟨hp, bb, off, rfl, k1, k2, k3, k4⟩
  · exact .inl h4
  · obtain ⟨q1, q2, q3⟩ := hv bb rfl
    refine .inr ⟨hp, bb, off, rfl, k1, k2, fun i hi => ?_, k4⟩
    rw [← k3 i hi]
    exact World.cell?_of_block (w := w) (hk.block bb q3 q1 q2)
theorem rb_kp {w w' : World} {g k : Nat} {r : Option Nat} {old made : Int} {v : Value} {er : Int} (h : RB w k old made v er) (hk : Kp g r w w') (h1 : k ≠ g) (h2 : some k ≠ r) : RB w' k old made v er := (hk.block k h.lt h1 h2).trans h
theorem feedP_len {D : Dc} (b : List Int) (h0 : 0 ≤ D.made) (h1 : D.made ≤ 65536) : (feedP D b).1.rest.length ≤ D.rest.length + b.length ∧ (feedP D b).2.1.length ≤ D.rest.length + b.length := by
  unfold feedP
  split
  · split
    · rename_i e
      obtain ⟨P, e1, -, -, e4, -⟩ := tks_inv D.old (D.rest ++ b).length D.made (D.rest ++ b) [] (Nat.le_refl _) h0 h1 e
      rw [List.length_append] at e4
      simp only
      rw [e1, List.nil_append]
      exact ⟨by omega, by omega⟩
    · exact ⟨by simp only; omega, by simp⟩
  · exact ⟨by simp only; omega, by simp⟩
/-- Both decoders, side by side. -/
structure ST (w W : World) (g gx : Nat) (rv bv : Value) (D : Dc) : Prop where
  dc : DC W w.heap.size g rv D
  x : RB W gx D.old D.made bv D.err
  s : SlX W bv D.rest
  bel : Below w.heap.size w W
  ap : ∀ k, rv.ownBlock = some k → k ≠ gx ∧ bv.ownBlock ≠ some k
  bb : ∀ k, bv.ownBlock = some k → k ≠ g ∧ k < W.heap.size
  ne : gx ≠ g
  low : w.heap.size ≤ gx
theorem ST.kept {w W W' : World} {g gx : Nat} {rv bv : Value} {D : Dc} (h : ST w W g gx rv bv D) (hb : Below W.heap.size W W') : ST w W' g gx rv bv D :=
  ⟨h.dc.kept hb, h.x.kept hb, h.s.kept hb, h.bel.trans (hb.mono h.bel.size), h.ap, fun k e => ⟨(h.bb k e).1, Nat.lt_of_lt_of_le (h.bb k e).2 hb.size⟩, h.ne, h.low⟩
/-- What is known behind the program's Feed, where the document's begins. -/
structure SM (w W : World) (g gx : Nat) (rv bv lv : Value) (D D' : Dc) (l : List Xp) : Prop where
  dc : DC W w.heap.size g rv D'
  x : RB W gx D.old D.made bv D.err
  s : SlX W bv D.rest
  bel : Below w.heap.size w W
  ap : ∀ k, rv.ownBlock = some k → k ≠ gx ∧ bv.ownBlock ≠ some k ∧ k < W.heap.size
  bb : ∀ k, bv.ownBlock = some k → k ≠ g ∧ k < W.heap.size
  ox : OX W w.heap.size lv l
  ne : gx ≠ g
  low : w.heap.size ≤ gx
theorem ST.fed {w W W' : World} {g gx : Nat} {rv bv : Value} {D : Dc} {b : List Int} {e : Ending} (h : ST w W g gx rv bv D) (hf : FP D b w.heap.size g rv W e W') : ∃ lv rv', e = .returned (.tuple #[lv, .int .i64 (feedP D b).2.2]) ∧ SM w W' g gx rv' bv lv D (feedP D b).1 (feedP D b).2.1 := by
  obtain ⟨lv, rv', rfl, ox, dc, kp, hrv⟩ := hf
  have hx : some gx ≠ rv.ownBlock := fun e => (h.ap gx e.symm).1 rfl
  refine ⟨lv, rv', rfl, dc, rb_kp h.x kp h.ne hx, slx_kp h.s kp fun k e => ⟨(h.bb k e).1, fun e2 => (h.ap k e2.symm).2 e, (h.bb k e).2⟩, h.bel.trans (kp.below h.dc.1 (fun k e => (h.dc.2.2.2.2.1 k e).1) h.bel.size), fun k e => ?_, fun k e => ⟨(h.bb k e).1, Nat.lt_of_lt_of_le (h.bb k e).2 kp.size⟩, (ox.ox).mono h.bel.size, h.ne, h.low⟩
  refine ⟨?_, ?_, (dc.2.2.2.2.1 k e).2⟩
  · rcases hrv with hr | hr
    · exact (h.ap k (hr ▸ e)).1
    · have := hr k e
      have := h.x.lt
      omega
  · rcases hrv with hr | hr
    · exact (h.ap k (hr ▸ e)).2
    · intro e2
      have := hr k e
      have := (h.bb k e2).2
      omega
theorem SM.kept {w W W' : World} {g gx : Nat} {rv bv lv : Value} {D D' : Dc} {l : List Xp} (h : SM w W g gx rv bv lv D D' l) (hb : Below W.heap.size W W') : SM w W' g gx rv bv lv D D' l :=
  ⟨h.dc.kept hb, h.x.kept hb, h.s.kept hb, h.bel.trans (hb.mono h.bel.size), fun k e => ⟨(h.ap k e).1, (h.ap k e).2.1, Nat.lt_of_lt_of_le (h.ap k e).2.2 hb.size⟩, fun k e => ⟨(h.bb k e).1, Nat.lt_of_lt_of_le (h.bb k e).2 hb.size⟩, h.ox.below hb, h.ne, h.low⟩
/-- Behind the document's Feed its decoder is laid where the elder one stood. -/
theorem SM.both {w W1 W : World} {g gx : Nat} {rv bv lv bv' mv : Value} {D D' : Dc} {l m : List Xp} (h : SM w W1 g gx rv bv lv D D' l) (hb : Below W1.heap.size W1 W) (hs : SlX W bv' D'.rest) (hm : OX W W1.heap.size mv m) (hbv : bv' = bv ∨ ∀ i, bv'.ownBlock = some i → W1.heap.size ≤ i) (hbl : ∀ i, bv'.ownBlock = some i → i < W.heap.size) :
    ST w (st4 W gx (.int .i64 D'.old) (.int .i64 D'.made) bv' (.int .i64 D'.err)) g gx rv bv' D' ∧ OX (st4 W gx (.int .i64 D'.old) (.int .i64 D'.made) bv' (.int .i64 D'.err)) w.heap.size lv l ∧ OX (st4 W gx (.int .i64 D'.old) (.int .i64 D'.made) bv' (.int .i64 D'.err)) w.heap.size mv m := by
  have k := h.kept hb
  have ho : ∀ i, i ≠ gx → (st4 W gx (.int .i64 D'.old) (.int .i64 D'.made) bv' (.int .i64 D'.err)).heap[i]? = W.heap[i]? := fun i hi => st4_other _ _ _ _ _ _ i hi
  have kk : Kp gx none W (st4 W gx (.int .i64 D'.old) (.int .i64 D'.made) bv' (.int .i64 D'.err)) := Kp.st4 _ _ _ _ _ _ _
  obtain ⟨ba, bc, hbve, -⟩ := id h.s.1
  have hu : ∀ (i : Nat) (z : Int), #[Value.int .i64 D.old, .int .i64 D.made, bv, .int .i64 D.err][i]? ≠ some (Value.int .u8 z) := by rw [hbve]; exact db_u8 _ _ _ _ _ _
  refine ⟨⟨?_, k.x.st _ _ _ _, slx_off hs ho k.x hu, k.bel.trans (st4_below _ _ _ _ _ _ _ h.low), fun i e => ⟨(h.ap i e).1, fun e2 => ?_⟩, fun i e => ⟨?_, by rw [st4_size]; exact hbl i e⟩, h.ne, h.low⟩, k.ox.kp kk k.x (by decide) (by decide), (hm.mono h.bel.size).kp kk k.x (by decide) (by decide)⟩
  · obtain ⟨q1, q2, q3, q4, q5, q6, q7, q8⟩ := k.dc
    exact ⟨q1, (ho g (fun e => h.ne e.symm)).trans q2, q3, fun e => ow_off (q4 e) ho k.x (by decide), fun i e => by rw [st4_size]; exact q5 i e, q6, q7, q8⟩
  · rcases hbv with rfl | hbv
    · exact (h.ap i e).2.1 e2
    · have := hbv i e2
      have := (h.ap i e).2.2
      omega
  · rcases hbv with rfl | hbv
    · exact (h.bb i e).1
    · have := hbv i e
      have := h.dc.lt
      omega
end Go.Proofs.YtfccjeepmhgckaaDoor
