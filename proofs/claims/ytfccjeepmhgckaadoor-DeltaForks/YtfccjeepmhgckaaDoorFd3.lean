/-
  Two pairs of decoders, apart.
-/
import Derived.Test.YtfccjeepmhgckaaDoorFd2
import Derived.Test.YtfccjeepmhgckaaDoorDj2
namespace Go.Proofs.YtfccjeepmhgckaaDoor
open Go.RowKit
set_option maxRecDepth 100000

/-- Neither pair writes what the other one reads. -/
structure AS (g gx : Nat) (rv bv : Value) (gf gy : Nat) (rf bf : Value) : Prop where
  n1 : g ≠ gf
  n2 : g ≠ gy
  n3 : gx ≠ gf
  n4 : gx ≠ gy
  r1 : ∀ k, rv.ownBlock = some k → k ≠ gf ∧ k ≠ gy ∧ rf.ownBlock ≠ some k ∧ bf.ownBlock ≠ some k
  r2 : ∀ k, rf.ownBlock = some k → k ≠ g ∧ k ≠ gx ∧ bv.ownBlock ≠ some k
  b1 : ∀ k, bv.ownBlock = some k → k ≠ gf
  b2 : ∀ k, bf.ownBlock = some k → k ≠ g
theorem AS.symm {g gx : Nat} {rv bv : Value} {gf gy : Nat} {rf bf : Value} (h : AS g gx rv bv gf gy rf bf) : AS gf gy rf bf g gx rv bv :=
  ⟨fun e => h.n1 e.symm, fun e => h.n3 e.symm, fun e => h.n2 e.symm, fun e => h.n4 e.symm, fun k e => ⟨(h.r2 k e).1, (h.r2 k e).2.1, fun e2 => (h.r1 k e2).2.2.1 e, (h.r2 k e).2.2⟩, fun k e => ⟨(h.r1 k e).1, (h.r1 k e).2.1, (h.r1 k e).2.2.2⟩, h.b2, h.b1⟩
theorem DC.mono {w : World} {B B' g : Nat} {rv : Value} {D : Dc} (h : DC w B g rv D) (hB : B' ≤ B) : DC w B' g rv D := by
  obtain ⟨h1, h2, h3, h4, h5, h6⟩ := h
  exact ⟨Nat.le_trans hB h1, h2, h3, fun e => (h4 e).mono hB, fun k e => ⟨Nat.le_trans hB (h5 k e).1, (h5 k e).2⟩, h6⟩
theorem ST.other {w W W' : World} {gf gy g : Nat} {rf bf : Value} {D : Dc} {r : Option Nat} (h : ST w W gf gy rf bf D) (kp : Kp g r W W') (hb : Below w.heap.size W W') (h1 : gf ≠ g ∧ some gf ≠ r) (h2 : gy ≠ g ∧ some gy ≠ r) (h3 : ∀ k, rf.ownBlock = some k → k ≠ g ∧ some k ≠ r) (h4 : ∀ k, bf.ownBlock = some k → k ≠ g ∧ some k ≠ r) : ST w W' gf gy rf bf D := by
  refine ⟨?_, rb_kp h.x kp h2.1 h2.2, slx_kp h.s kp fun k e => ⟨(h4 k e).1, (h4 k e).2, (h.bb k e).2⟩, h.bel.trans hb, h.ap, fun k e => ⟨(h.bb k e).1, Nat.lt_of_lt_of_le (h.bb k e).2 kp.size⟩, h.ne, h.low⟩
  obtain ⟨q1, q2, q3, q4, q5, q6, q7, q8⟩ := h.dc
  refine ⟨q1, (kp.block gf q2.lt h1.1 h1.2).trans q2, q3, fun e => ⟨own_kp (q4 e).1 kp (fun e2 => (h3 g e2).1 rfl) (fun i e2 => (h3 i e2).2), (q4 e).2⟩, fun k e => ⟨(q5 k e).1, Nat.lt_of_lt_of_le (q5 k e).2 kp.size⟩, q6, q7, q8⟩
theorem ST.fed2 {w W W' : World} {g gx gf gy : Nat} {rv bv rf bf : Value} {D Df : Dc} {b : List Int} {e : Ending} (h : ST w W g gx rv bv D) (h2 : ST w W gf gy rf bf Df) (aa : AS g gx rv bv gf gy rf bf) (hf : FP D b w.heap.size g rv W e W') :
    ∃ lv rv', e = .returned (.tuple #[lv, .int .i64 (feedP D b).2.2]) ∧ SM w W' g gx rv' bv lv D (feedP D b).1 (feedP D b).2.1 ∧ ST w W' gf gy rf bf Df ∧ AS g gx rv' bv gf gy rf bf := by
  have hf' := hf
  obtain ⟨lv0, rv0, he0, ox, dc, kp, hrv⟩ := hf
  obtain ⟨lv, rv', he, sm⟩ := h.fed hf'
  have hb : Below w.heap.size W W' := kp.below h.dc.1 (fun k e => (h.dc.2.2.2.2.1 k e).1) h.bel.size
  have s2 : ST w W' gf gy rf bf Df := h2.other kp hb ⟨fun e => aa.n1 e.symm, fun e => (aa.r1 gf e.symm).1 rfl⟩ ⟨fun e => aa.n2 e.symm, fun e => (aa.r1 gy e.symm).2.1 rfl⟩ (fun k e => ⟨(aa.r2 k e).1, fun e2 => (aa.r1 k e2.symm).2.2.1 e⟩) (fun k e => ⟨aa.b2 k e, fun e2 => (aa.r1 k e2.symm).2.2.2 e⟩)
  have e2 : rv0 = rv' := by
    have q1 := dc.2.1
    have q2 := sm.dc.2.1
    unfold DB at q1 q2
    rw [q1] at q2
    injection q2 with q3
    injection q3 with q4
    have := congrArg (fun a : Array Value => a[2]?) q4
    simpa using this
  subst e2
  refine ⟨lv, rv0, he, sm, s2, aa.n1, aa.n2, aa.n3, aa.n4, fun k e => ?_, aa.r2, aa.b1, aa.b2⟩
  rcases hrv with q | q
  · exact aa.r1 k (q ▸ e)
  · have q0 := q k e
    have q1 := h2.dc.lt
    have q2 := h2.x.lt
    refine ⟨by omega, by omega, fun e2 => ?_, fun e2 => ?_⟩
    · have := (h2.dc.2.2.2.2.1 k e2).2
      omega
    · have := (h2.bb k e2).2
      omega
theorem SM.both2 {w W1 W : World} {g gx gf gy : Nat} {rv bv lv bv' mv rf bf : Value} {D D' Df : Dc} {l m : List Xp} (h : SM w W1 g gx rv bv lv D D' l) (h2 : ST w W1 gf gy rf bf Df) (aa : AS g gx rv bv gf gy rf bf) (hb : Below W1.heap.size W1 W) (hs : SlX W bv' D'.rest) (hm : OX W W1.heap.size mv m) (hbv : bv' = bv ∨ ∀ i, bv'.ownBlock = some i → W1.heap.size ≤ i ∧ i < W.heap.size) :
    ST w (st4 W gx (.int .i64 D'.old) (.int .i64 D'.made) bv' (.int .i64 D'.err)) g gx rv bv' D' ∧ OX (st4 W gx (.int .i64 D'.old) (.int .i64 D'.made) bv' (.int .i64 D'.err)) w.heap.size lv l ∧ OX (st4 W gx (.int .i64 D'.old) (.int .i64 D'.made) bv' (.int .i64 D'.err)) w.heap.size mv m ∧
      ST w (st4 W gx (.int .i64 D'.old) (.int .i64 D'.made) bv' (.int .i64 D'.err)) gf gy rf bf Df ∧ AS g gx rv bv' gf gy rf bf := by
  obtain ⟨q1, q2, q3⟩ := h.both hb hs hm (hbv.imp id fun q i e => (q i e).1) (fun i e => by
    rcases hbv with rfl | q
    · exact Nat.lt_of_lt_of_le (h.bb i e).2 hb.size
    · exact (q i e).2)
  have k := h2.kept hb
  have x := (h.kept hb).x
  have ho : ∀ i, i ≠ gx → (st4 W gx (.int .i64 D'.old) (.int .i64 D'.made) bv' (.int .i64 D'.err)).heap[i]? = W.heap[i]? := fun i hi => st4_other _ _ _ _ _ _ i hi
  obtain ⟨ba, bc, hbve, -⟩ := id h.s.1
  have hu : ∀ (i : Nat) (z : Int), #[Value.int .i64 D.old, .int .i64 D.made, bv, .int .i64 D.err][i]? ≠ some (Value.int .u8 z) := by rw [hbve]; exact db_u8 _ _ _ _ _ _
  refine ⟨q1, q2, q3, ⟨?_, k.x.off ho (fun e => aa.n4 e.symm), slx_off k.s ho x hu, k.bel.trans (st4_below _ _ _ _ _ _ _ h.low), k.ap, fun i e => ⟨(k.bb i e).1, by rw [st4_size]; exact (k.bb i e).2⟩, k.ne, k.low⟩, aa.n1, aa.n2, aa.n3, aa.n4, aa.r1, fun i e => ⟨(aa.r2 i e).1, (aa.r2 i e).2.1, fun e2 => ?_⟩, fun i e => ?_, aa.b2⟩
  · obtain ⟨d1, d2, d3, d4, d5, d6, d7, d8⟩ := k.dc
    exact ⟨d1, (ho gf (fun e => aa.n3 e.symm)).trans d2, d3, fun e => ow_off (d4 e) ho x (by decide), fun i e => by rw [st4_size]; exact d5 i e, d6, d7, d8⟩
  · rcases hbv with rfl | q
    · exact (aa.r2 i e).2.2 e2
    · have := (q i e2).1
      have := (h2.dc.2.2.2.2.1 i e).2
      omega
  · rcases hbv with rfl | q
    · exact aa.b1 i e
    · have := (q i e).1
      have := h2.dc.lt
      omega
theorem ST.fedq {w W W' : World} {g gx : Nat} {rv bv : Value} {D : Dc} {b : List Int} {e : Ending} (h : ST w W g gx rv bv D) (hf : FQ D b w.heap.size g rv W e W') : ∃ lv rv', e = .returned (.tuple #[lv, .int .i64 (feedP D b).2.2]) ∧ SM w W' g gx rv' bv lv D (feedP D b).1 (feedP D b).2.1 ∧ ((feedP D b).2.2 ≠ 0 → rv' = rv) := by
  obtain ⟨lv, rv', he, sm⟩ := h.fed hf.fp
  obtain ⟨lv0, rv0, he0, ox, dc, kp, hrv, hq⟩ := hf
  have e2 : rv0 = rv' := by
    have q1 := dc.2.1
    have q2 := sm.dc.2.1
    unfold DB at q1 q2
    rw [q1] at q2
    injection q2 with q3
    injection q3 with q4
    have := congrArg (fun a : Array Value => a[2]?) q4
    simpa using this
  subst e2
  exact ⟨lv, rv0, he, sm, hq⟩
theorem feedP_new (old : Int) (b : List Int) : (feedP ⟨old, 0, [], 0⟩ b).1.err = 0 ∨ ((feedP ⟨old, 0, [], 0⟩ b).2.2 ≠ 0 ∧ (feedP ⟨old, 0, [], 0⟩ b).1.rest = []) := by
  unfold feedP
  rw [if_pos rfl]
  split
  · exact .inl rfl
  · rename_i h
    exact .inr ⟨h, rfl⟩
/-- Behind a fork. -/
theorem ST.forked {w W W' : World} {g gx gf gy : Nat} {rv bv rf : Value} {D : Dc} (h : ST w W g gx rv bv D) (hb : Below W.heap.size W W') (dc : DC W' W.heap.size gf rf D) (x : RB W' gy D.old D.made bv D.err) (h1 : W.heap.size ≤ gf) (h2 : W.heap.size ≤ gy) (h3 : gf ≠ gy) (h4 : ∀ k, rf.ownBlock = some k → W.heap.size ≤ k ∧ k ≠ gy) :
    ST w W' g gx rv bv D ∧ ST w W' gf gy rf bv D ∧ AS g gx rv bv gf gy rf bv := by
  have k := h.kept hb
  have q0 := h.dc.lt
  have q1 := h.x.lt
  have q2 := h.bel.size
  refine ⟨k, ⟨dc.mono h.bel.size, x, k.s, k.bel, fun i e => ⟨(h4 i e).2, fun e2 => ?_⟩, fun i e => ⟨?_, Nat.lt_of_lt_of_le (h.bb i e).2 hb.size⟩, fun e => h3 e.symm, by omega⟩, by omega, by omega, by omega, by omega, fun i e => ⟨?_, ?_, fun e2 => ?_, (h.ap i e).2⟩, fun i e => ⟨?_, ?_, fun e2 => ?_⟩, fun i e => ?_, fun i e => (h.bb i e).1⟩
  · have := (h4 i e).1
    have := (h.bb i e2).2
    omega
  · have := (h.bb i e).2
    omega
  · have := (h.dc.2.2.2.2.1 i e).2
    omega
  · have := (h.dc.2.2.2.2.1 i e).2
    omega
  · have := (h.dc.2.2.2.2.1 i e).2
    have := (h4 i e2).1
    omega
  · have := (h4 i e).1
    omega
  · have := (h4 i e).1
    omega
  · have := (h4 i e).1
    have := (h.bb i e2).2
    omega
  · have := (h.bb i e).2
    omega
theorem DC.off {w : World} {B g k : Nat} {rv v : Value} {D : Dc} {old made er : Int} (h : DC w B g rv D) (hx : RB w k old made v er) (hk : g ≠ k) (v0 v1 v2 v3 : Value) : DC (st4 w k v0 v1 v2 v3) B g rv D := by
  have ho : ∀ i, i ≠ k → (st4 w k v0 v1 v2 v3).heap[i]? = w.heap[i]? := fun i hi => st4_other _ _ _ _ _ _ i hi
  obtain ⟨d1, d2, d3, d4, d5, d6, d7, d8⟩ := h
  exact ⟨d1, (ho g hk).trans d2, d3, fun e => ow_off (d4 e) ho hx (by decide), fun i e => by rw [st4_size]; exact d5 i e, d6, d7, d8⟩
end Go.Proofs.YtfccjeepmhgckaaDoor
