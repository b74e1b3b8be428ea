/-
  What take leaves: what is taken lies in a new row, what is left in the old one.
-/
import Derived.Test.YtamjbmbflllbfaaLs
namespace Go.Proofs.Ytamjbmbflllbfaa
open Go.RowKit
set_option maxRecDepth 100000

/-- append, of one struct, where there is room in a row of the call's own: the row, told whole. -/
theorem wpList_append_row {w : World} {ops : Array Oper} {rest : List Oper} {o : Oper} {a : Act} {Q : Exit → Act → World → Prop} (hgd : o.guard = none) (s x : Operand) (ts t : TypeId) (k nb : Nat) (z : Value)
    (ho : o.op = .call { callee := .builtin .append, args := #[s, x], argTypes := #[ts, ts] }) (hu : Try.prog.underlying ts = some (.slice t)) (hI : (Try.prog.info? t).map (fun i => (i.zero, i.size, i.bytes)) = some (some z, k, nb))
    (g n cap : Nat) (cur : Array Value) (hs : a.eval s = .slice (some ⟨g, 0, none⟩) n cap) (hg : w.heap[g]? = some (.cells cur t (0, 0))) (gx : Nat) (y : List Value) (cx : Nat) (hy : y.length = k) (hy1 : ∀ v ∈ y, v.oneCell' = true)
    (hx : a.eval x = .slice (some ⟨gx, 0, none⟩) 1 cx) (hc : w.rangeAt gx 0 y) (hroom : n + 1 ≤ cap) (hfit : n * k + k ≤ cur.size)
    (h : wpList Try.prog ops Q rest (a.put o.dst (.slice (some ⟨g, 0, none⟩) (n + 1) cap)) (w.setRow g (cur.toList.take (n * k) ++ y ++ cur.toList.drop (n * k + k)).toArray)) : wpList Try.prog ops Q (o :: rest) a w := by
  obtain ⟨i0, hi, hz0, hz1, hz2⟩ := info_parts hI
  subst hy
  refine wpList_plain hgd fun K hK' => ?_
  have hrun := run_append_room (P := Try.prog) w ts o.type t i0 hu hi g n cap cur hg ⟨gx, 0, none⟩ 1 cx y (by rw [hz1, Nat.one_mul]) (fun j u hj => by rw [Addr.add_lit]; exact hc j u hj) hy1 hroom (by rw [hz1]; exact hfit)
  rw [hz1] at hrun
  unfold Oper.wp
  simp [execOp, ho, resolve, invoke, builtin, hs, hx, hrun, Result.andThen]
  exact hK' _ _ (by simpa using h)
/-- All but a row stays. -/
structure TK (w w' : World) (b : Nat) : Prop where
  os : w'.os = w.os
  tape : w'.tape = w.tape
  output : w'.output = w.output
  size : w.heap.size ≤ w'.heap.size
  block : ∀ k, k < w.heap.size → k ≠ b → w'.heap[k]? = w.heap[k]?
theorem TK.refl (w : World) (b : Nat) : TK w w b := ⟨rfl, rfl, rfl, Nat.le_refl _, fun _ _ _ => rfl⟩
theorem TK.behind {w w1 w2 : World} {b : Nat} (h : TK w w1 b) (k : Below w1.heap.size w1 w2) : TK w w2 b := ⟨k.os.trans h.os, k.tape.trans h.tape, k.output.trans h.output, Nat.le_trans h.size k.size, fun i hi hb => (k.block i (Nat.lt_of_lt_of_le hi h.size)).trans (h.block i hi hb)⟩
theorem TK.grown {w w1 w2 : World} {b : Nat} {r : Option Nat} (h : TK w w1 b) (k : w1.grownBy w2 r) (hr : ∀ i, r = some i → w.heap.size ≤ i) : TK w w2 b := ⟨k.os.trans h.os, k.tape.trans h.tape, k.output.trans h.output, Nat.le_trans h.size k.size, fun i hi hb => (k.block i (Nat.lt_of_lt_of_le hi h.size) (fun e => by have := hr i e.symm; omega)).trans (h.block i hi hb)⟩
theorem TK.row {w w1 : World} {b : Nat} (h : TK w w1 b) (cs : Array Value) : TK w (w1.setRow b cs) b := ⟨h.os, h.tape, h.output, by rw [setRow_size]; exact h.size, fun i hi hb => (setRow_other _ _ _ _ hb).trans (h.block i hi hb)⟩
/-- The row behind i rounds: what is left of the first ones, then what was there. -/
structure TR (w : World) (b c : Nat) (f : Pk → Bool) (l : List Pk) (i : Nat) (cur0 : List Value) : Prop where
  ex : ∃ cur : Array Value, w.heap[b]? = some (.cells cur 48 (0, 0)) ∧ cur.size = c * 4 ∧ cur.toList.take (((l.take i).filter (fun p => !f p)).length * 4) = (((l.take i).filter (fun p => !f p)).map Pk.c).flatten ∧ cur.toList.drop (i * 4) = cur0.drop (i * 4)
theorem filt_le (f : Pk → Bool) (l : List Pk) (i : Nat) : ((l.take i).filter f).length ≤ i := Nat.le_trans (List.length_filter_le ..) (by rw [List.length_take]; omega)
theorem TR.of {w w' : World} {b c : Nat} {f : Pk → Bool} {l : List Pk} {i : Nat} {cur0 : List Value} (h : TR w b c f l i cur0) (hb : w'.heap[b]? = w.heap[b]?) : TR w' b c f l i cur0 := by
  obtain ⟨cur, h1, h2, h3, h4⟩ := h.ex
  exact ⟨cur, hb.trans h1, h2, h3, h4⟩
theorem TR.lt {w : World} {b c : Nat} {f : Pk → Bool} {l : List Pk} {i : Nat} {cur0 : List Value} (h : TR w b c f l i cur0) : b < w.heap.size := by
  obtain ⟨cur, h1, h2, h3, h4⟩ := h.ex
  exact blk_lt h1
/-- The packet at a place that was not reached yet. -/
theorem TR.at {w : World} {b c : Nat} {f : Pk → Bool} {l : List Pk} {i : Nat} {cur0 : List Value} (h : TR w b c f l i cur0) (h0 : cur0.take (l.length * 4) = (l.map Pk.c).flatten) (hi : i < l.length) : PC w b (i * 4) (atP l i) := by
  obtain ⟨cur, h1, h2, h3, h4⟩ := h.ex
  refine pC fun j v hv => ?_
  have e : w.cell? ⟨b, i * 4 + j, none⟩ = cur.toList[i * 4 + j]? := by simp [World.cell?, h1]
  have hj : j < 4 := by have := (List.getElem?_eq_some_iff.1 hv).1; simpa [Pk.c] using this
  rw [e, ← List.getElem?_drop, h4, List.getElem?_drop]
  have hg := (pc_cl l).get (i := i) (j := j) (v := v) (by rw [List.length_map]; exact hi) (by rw [atC_pk l i hi]; exact hv)
  rw [← h0, List.getElem?_take, if_pos (by omega)] at hg
  exact hg
theorem TR.yes {w : World} {b c : Nat} {f : Pk → Bool} {l : List Pk} {i : Nat} {cur0 : List Value} (h : TR w b c f l i cur0) (hi : i < l.length) (hf : f (atP l i) = true) : TR w b c f l (i + 1) cur0 := by
  obtain ⟨cur, h1, h2, h3, h4⟩ := h.ex
  have e := filt_no (f := fun p => !f p) hi (by simp only [hf, Bool.not_true])
  refine ⟨cur, h1, h2, by rw [e]; exact h3, ?_⟩
  rw [show (i + 1) * 4 = i * 4 + 4 by omega, ← List.drop_drop, h4, List.drop_drop]
theorem TR.no {w : World} {b c : Nat} {f : Pk → Bool} {l : List Pk} {i : Nat} {cur0 : List Value} (h : TR w b c f l i cur0) (hi : i < l.length) (hc : l.length ≤ c) (hf : f (atP l i) = false) :
    ∃ cur : Array Value, w.heap[b]? = some (.cells cur 48 (0, 0)) ∧ ((l.take i).filter (fun p => !f p)).length * 4 + 4 ≤ cur.size ∧ TR (w.setRow b (cur.toList.take (((l.take i).filter (fun p => !f p)).length * 4) ++ (atP l i).c ++ cur.toList.drop (((l.take i).filter (fun p => !f p)).length * 4 + 4)).toArray) b c f l (i + 1) cur0 := by
  obtain ⟨cur, h1, h2, h3, h4⟩ := h.ex
  have hk := filt_le (fun p => !f p) l i
  have e := filt_yes (f := fun p => !f p) hi (by simp only [hf, Bool.not_false])
  generalize (l.take i).filter (fun p => !f p) = M at *
  have hfit : M.length * 4 + 4 ≤ cur.size := by omega
  have c4 : (atP l i).c.length = 4 := rfl
  have hm : M.length * 4 ≤ cur.toList.length := by simp; omega
  refine ⟨cur, h1, hfit, ⟨_, setRow_heap w b cur _ _ _ h1, ?_, ?_, ?_⟩⟩
  · simp only [List.size_toArray, List.length_append, List.length_take, List.length_drop, c4, Array.length_toList]
    omega
  · rw [e, List.length_append, List.length_singleton, flatP_snoc, List.toList_toArray]
    have : (cur.toList.take (M.length * 4) ++ (atP l i).c).length = (M.length + 1) * 4 := by rw [List.length_append, List.length_take, c4]; omega
    rw [List.take_left' this, h3]
  · rw [List.toList_toArray, show (i + 1) * 4 = i * 4 + 4 by omega]
    have hl : (cur.toList.take (M.length * 4) ++ (atP l i).c).length = M.length * 4 + 4 := by rw [List.length_append, List.length_take, c4]; omega
    rw [List.drop_append, List.drop_of_length_le (by rw [hl]; omega), List.nil_append, List.drop_drop, hl, ← List.drop_drop (i := 4) (j := i * 4) (l := cur0), ← h4, List.drop_drop]
    congr 1
    omega
end Go.Proofs.Ytamjbmbflllbfaa
