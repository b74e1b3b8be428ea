/-
  What the statements of layer 20 share: what came in.
-/
import Derived.Test.YtbomkapnkpjjbaaAw
import Derived.Test.YtbomkapnkpjjbaaRows
import Derived.Carry
import Derived.ChangeMaps5
import Derived.ChangeOld
import Derived.ChangeSame
import Derived.Deep.DeepHandedRow
import Derived.Deep.SlicePairs
import Derived.Deep.Slices
import Derived.Deep.Strs
import Derived.LaidLaws
import Derived.Lib.LaidTab
import Derived.Lib.SmallJoins
import Derived.OpenShut
import Derived.ProofKit
import Derived.Shelf.Vars
import Derived.SizedLaws
import Derived.Stop.LaidErr
namespace Go.Proofs.Ytbomkapnkpjjbaa
open Go.ChangeShapes Go.WideShapes Go.ChangeAt Go.RowKit Go.Deep
set_option maxRecDepth 100000

theorem own : ownKnob Try.prog.godebug = none := by kernel_rfl
theorem laidOut : laidOutB Try.prog = true := by kernel_rfl
theorem cells3 : Try.prog.cellsOf 3 = 1 := by kernel_rfl
theorem cells4 : Try.prog.cellsOf 4 = 1 := by kernel_rfl
theorem cellsU : Try.prog.cellsOf 37 = 1 := by kernel_rfl
theorem cellsP : Try.prog.cellsOf 38 = 2 := by kernel_rfl
/-- Structs of k cells each. -/
def CL (k : Nat) (L : List (List Value)) : Prop := ∀ c ∈ L, c.length = k ∧ ∀ v ∈ c, v.oneCell' = true
def atC (L : List (List Value)) (i : Nat) : List Value := L.getD i []
theorem atC_eq (L : List (List Value)) (i : Nat) (h : i < L.length) : atC L i = L[i] := by simp [atC, List.getD, h]
theorem atC_mem (L : List (List Value)) (i : Nat) (h : i < L.length) : atC L i ∈ L := by rw [atC_eq L i h]; exact List.getElem_mem h
theorem CL.nil (k : Nat) : CL k [] := fun c h => by simp at h
theorem CL.app {k : Nat} {L M : List (List Value)} (h : CL k L) (h' : CL k M) : CL k (L ++ M) := fun c hc => (List.mem_append.1 hc).elim (h c) (h' c)
theorem CL.one {k : Nat} {c : List Value} (h : c.length = k) (h' : ∀ v ∈ c, v.oneCell' = true) : CL k [c] := fun d hd => by simp at hd; subst hd; exact ⟨h, h'⟩
theorem CL.take {k : Nat} {L : List (List Value)} (h : CL k L) (n : Nat) : CL k (L.take n) := fun c hc => h c (List.mem_of_mem_take hc)
theorem CL.drop {k : Nat} {L : List (List Value)} (h : CL k L) (n : Nat) : CL k (L.drop n) := fun c hc => h c (List.mem_of_mem_drop hc)
theorem CL.ones {k : Nat} {L : List (List Value)} (h : CL k L) : ∀ v ∈ L.flatten, v.oneCell' = true := fun v hv => by
  obtain ⟨c, hc, hv⟩ := List.mem_flatten.1 hv
  exact (h c hc).2 v hv
theorem CL.flat {k : Nat} : ∀ {L : List (List Value)}, CL k L → L.flatten.length = L.length * k
  | [], _ => by simp
  | c :: L, h => by
    rw [List.flatten_cons, List.length_append, (h c (by simp)).1, CL.flat (L := L) fun d hd => h d (by simp [hd]), List.length_cons, Nat.succ_mul]
    omega
theorem CL.flat_take {k : Nat} : ∀ {L : List (List Value)} (i : Nat), CL k L → L.flatten.take (i * k) = (L.take i).flatten
  | [], i, _ => by simp
  | c :: L, 0, _ => by simp
  | c :: L, i + 1, h => by
    have hc := (h c (by simp)).1
    rw [List.flatten_cons, List.take_succ_cons, List.flatten_cons, List.take_append, hc, List.take_of_length_le (by rw [hc, Nat.succ_mul]; omega), Nat.succ_mul, Nat.add_sub_cancel, CL.flat_take i fun d hd => h d (by simp [hd])]
theorem CL.flat_drop {k : Nat} : ∀ {L : List (List Value)} (i : Nat), CL k L → L.flatten.drop (i * k) = (L.drop i).flatten
  | [], i, _ => by simp
  | c :: L, 0, _ => by simp
  | c :: L, i + 1, h => by
    have hc := (h c (by simp)).1
    rw [List.flatten_cons, List.drop_succ_cons, List.drop_append, hc, List.drop_of_length_le (by rw [hc, Nat.succ_mul]; omega), Nat.succ_mul, Nat.add_sub_cancel, CL.flat_drop i fun d hd => h d (by simp [hd]), List.nil_append]
theorem CL.get {k : Nat} {L : List (List Value)} (h : CL k L) {i j : Nat} {v : Value} (hi : i < L.length) (hv : (atC L i)[j]? = some v) : L.flatten[i * k + j]? = some v := by
  have hc := h _ (atC_mem L i hi)
  have hj : j < k := by rw [← hc.1]; exact (List.getElem?_eq_some_iff.1 hv).1
  rw [← List.getElem?_drop, h.flat_drop, List.drop_eq_getElem_cons hi, List.flatten_cons, List.getElem?_append_left (by rw [← atC_eq L i hi, hc.1]; exact hj), ← atC_eq L i hi, hv]
/-- A value that is a slice of structs. -/
def IS (k : Nat) (w : World) (v : Value) (L : List (List Value)) : Prop :=
  ∃ a c, v = .slice a L.length c ∧ L.length ≤ c ∧ c ≤ maxLen ∧ (a = none → c = 0) ∧ CL k L ∧ (L = [] ∨ ∃ b off, a = some ⟨b, off, none⟩ ∧ ∀ i, i < L.length → w.rangeAt b (off + i * k) (atC L i))
theorem range_kept {w w' : World} {b o : Nat} {cs : List Value} (h : w.rangeAt b o cs) (hb : Below w.heap.size w w') : w'.rangeAt b o cs := fun j v hv =>
  (hb.cell (World.block_lt_of_cell? _ _ (h j v hv))).trans (h j v hv)
theorem IS.kept {k : Nat} {w w' : World} {v : Value} {L : List (List Value)} (h : IS k w v L) (hb : Below w.heap.size w w') : IS k w' v L := by
  obtain ⟨a, c, h1, h2, h3, h4, h5, h6⟩ := h
  refine ⟨a, c, h1, h2, h3, h4, h5, ?_⟩
  rcases h6 with h6 | ⟨b, off, e, h7⟩
  · exact .inl h6
  · exact .inr ⟨b, off, e, fun i hi => range_kept (h7 i hi) hb⟩
theorem IS.shape {k : Nat} {w : World} {v : Value} {L : List (List Value)} (h : IS k w v L) : ∃ a c, v = .slice a L.length c ∧ L.length ≤ c ∧ c ≤ maxLen ∧ (a = none → c = 0) := by
  obtain ⟨a, c, h1, h2, h3, h4, _⟩ := h
  exact ⟨a, c, h1, h2, h3, h4⟩
theorem IS.cl {k : Nat} {w : World} {v : Value} {L : List (List Value)} (h : IS k w v L) : CL k L := by
  obtain ⟨a, c, h1, h2, h3, h4, h5, _⟩ := h
  exact h5
theorem IS.nil (k : Nat) (w : World) : IS k w (.slice none 0 0) [] := ⟨none, 0, rfl, Nat.le_refl _, by unfold maxLen; omega, fun _ => rfl, CL.nil k, .inl rfl⟩
/-- A struct's cells, in a slice. -/
theorem IS.at {k : Nat} {w : World} {a : Option Addr} {n c : Nat} {L : List (List Value)} (h : IS k w (.slice a n c) L) (i : Nat) (hi : i < L.length) :
    ∃ b off, a = some ⟨b, off, none⟩ ∧ w.rangeAt b (off + i * k) (atC L i) := by
  obtain ⟨a', c', h1, h2, h3, h4, h5, h6⟩ := h
  cases h1
  rcases h6 with h6 | ⟨b, off, e, h7⟩
  · subst h6; simp at hi
  · exact ⟨b, off, e, h7 i hi⟩
theorem IS.take {k : Nat} {w : World} {a : Option Addr} {n c : Nat} {L : List (List Value)} (h : IS k w (.slice a n c) L) (m : Nat) (hm : m ≤ n) : IS k w (.slice a m c) (L.take m) := by
  obtain ⟨a', c', h1, h2, h3, h4, h5, h6⟩ := h
  cases h1
  have hl : (L.take m).length = m := by rw [List.length_take]; omega
  refine ⟨a, c, by rw [hl], by rw [hl]; omega, h3, h4, h5.take m, ?_⟩
  rcases h6 with rfl | ⟨b, off, e, h7⟩
  · exact .inl (by simp)
  · refine .inr ⟨b, off, e, fun i hi => ?_⟩
    rw [hl] at hi
    have := h7 i (by omega)
    simpa [atC, List.getD, List.getElem?_take, hi] using this
theorem mapM_each {α β : Type} {f : α → Option β} : ∀ (L : List α) (ys : List β), L.mapM f = some ys → ∀ i ∈ L, ∃ y, f i = some y
  | [], _, _ => fun i hi => by cases hi
  | a :: L, ys, h => by
    rw [List.mapM_cons] at h
    simp only [bind, Option.bind_eq_some_iff, pure, Option.some.injEq] at h
    obtain ⟨y, hy, zs, hz, rfl⟩ := h
    intro i hi
    rcases List.mem_cons.1 hi with rfl | hi
    · exact ⟨y, hy⟩
    · exact mapM_each L zs hz i hi
/-- Pairs of numbers. -/
def p16 (x : Int × Int) : List Value := [.int .u16 x.1, .int .u16 x.2]
def okP (x : Int × Int) : Prop := (0 ≤ x.1 ∧ x.1 < 65536) ∧ 0 ≤ x.2 ∧ x.2 < 65536
structure PQ (w : World) (v : Value) (l : List (Int × Int)) : Prop where
  is : IS 2 w v (l.map p16)
  ok : ∀ x ∈ l, okP x
theorem p16_cl (l : List (Int × Int)) : CL 2 (l.map p16) := fun c hc => by
  obtain ⟨x, _, rfl⟩ := List.mem_map.1 hc
  exact ⟨rfl, fun v hv => by simp only [p16, List.mem_cons, List.not_mem_nil, or_false] at hv; rcases hv with rfl | rfl <;> rfl⟩
/-- The cells of a pair that came in. -/
theorem pair_trod {H : Type} {enc : TypeId × Value → H} {W : World} {fuel : Nat} {cs : List Value} {x : DataW H × List MemPlace}
    (h : DataW.trod enc Try.prog W 0 (fun _ => true) true fuel 38 cs = some x) (hsz : cs.length = 2) : ∃ a b : Int, cs = p16 (a, b) ∧ okP (a, b) := by
  cases fuel with
  | zero => simp [DataW.trod] at h
  | succ m =>
    rw [DataW.trod_step] at h
    unfold DataW.trodStep at h
    simp only [Try.underlying38] at h
    rw [if_pos (by rw [cellsP]; exact hsz)] at h
    simp only [Option.map_eq_some_iff] at h
    obtain ⟨ys, hy, _⟩ := h
    have cell : ∀ i, i < 2 → ∃ a : Int, cs[i]? = some (.int .u16 a) ∧ (Lit.int .u16 a).wf = true := fun i hi => by
      obtain ⟨y, hyi⟩ := mapM_each _ _ hy i (by simpa using hi)
      obtain ⟨a, ea, _, wa⟩ := DataW.trod_int Try.underlying37 hyi
      refine ⟨a, ?_, wa⟩
      rw [cellsU, Nat.mul_one] at ea
      have h0 := congrArg (·[0]?) ea
      simpa [List.getElem?_take, List.getElem?_drop] using h0
    obtain ⟨a, ha, wa⟩ := cell 0 (by omega)
    obtain ⟨b, hb, wb⟩ := cell 1 (by omega)
    refine ⟨a, b, ?_, ?_⟩
    · obtain ⟨u, v, rfl⟩ : ∃ u v, cs = [u, v] := by
        match cs, hsz with
        | [u, v], _ => exact ⟨u, v, rfl⟩
      simp at ha hb
      rw [ha, hb]
      rfl
    · have b1 := bounds_u16 wa
      have b2 := bounds_u16 wb
      unfold okP
      simp only
      omega
/-- Pairs that came in. -/
theorem prs_in {H : Type} {enc : TypeId × Value → H} {W : World} {base : Nat} {v : Value} {d : DataW H} {p : List MemPlace}
    (hval : Value.okWide Try.prog W .any base 36 v) (h : DataW.Trod enc Try.prog W 0 (fun _ => true) true 36 v d p) : ∃ l, PQ W v l := by
  obtain ⟨a0, len0, cap0, rfl⟩ := okWide_slice Try.underlying36 hval
  obtain ⟨fuel, hf⟩ := h
  rcases open_slice Try.underlying36 hf with ⟨hcs, _⟩ | ⟨x, l, c, m, n, D, Pl, hcs, _, hl, hm, hmm, _, hall⟩
  · simp [Value.cells] at hcs
    obtain ⟨rfl, rfl, rfl⟩ := hcs
    exact ⟨[], ⟨IS.nil 2 W, by simp⟩⟩
  · simp [Value.cells] at hcs
    obtain ⟨rfl, rfl, rfl⟩ := hcs
    simp only [if_true] at hmm
    have each : ∀ i, i < len0 → ∃ q : Int × Int, (∀ j v, (p16 q)[j]? = some v → W.cell? (x.add (i * 2 + j)) = some v) ∧ okP q := by
      intro i hi
      obtain ⟨cs', h1, h2⟩ := hall i (by omega)
      rw [cellsP] at h1
      obtain ⟨_, hlen, hcell⟩ := World.cells?_some h1
      obtain ⟨a, b, rfl, hy⟩ := pair_trod h2 hlen
      refine ⟨(a, b), fun j v hv => ?_, hy⟩
      have hj : j < 2 := (List.getElem?_eq_some_iff.1 hv).1
      have c0 := hcell j (by omega)
      rw [add_add] at c0
      rw [c0]
      simpa using hv
    obtain ⟨q, hq⟩ := choose_lt each
    have hlen : ((List.range len0).map q).length = len0 := by simp
    refine ⟨(List.range len0).map q, ⟨⟨some x, cap0, by rw [List.length_map, hlen], by rw [List.length_map, hlen]; exact hl, hm, (fun e => by cases e), p16_cl _, ?_⟩, fun y hy => ?_⟩⟩
    · rcases Nat.eq_zero_or_pos len0 with h0 | h0
      · subst h0; exact .inl rfl
      · obtain ⟨b, off, spot⟩ := x
        have hspot : spot = none := by simpa [Addr.add] using World.cell?_spot ((hq 0 h0).1 0 _ rfl)
        subst hspot
        refine .inr ⟨b, off, rfl, fun i hi => ?_⟩
        rw [List.length_map, hlen] at hi
        have e : atC (((List.range len0).map q).map p16) i = p16 (q i) := by simp [atC, List.getD, hi]
        rw [e]
        intro j v hv
        have := (hq i hi).1 j v hv
        rw [Addr.add_lit, ← Nat.add_assoc] at this
        exact this
    · obtain ⟨i, hi, rfl⟩ := List.mem_map.1 hy
      exact (hq i (List.mem_range.1 hi)).2
/-- A state's cells. -/
def Sta.cl (x : Sta) : List Value := [.bool x.h, .int .i64 x.l, .int .i64 x.m, .int .i64 x.s, .int .i64 x.v]
theorem SB.range {w : World} {g : Nat} {t : TypeId} {x : Sta} (h : SB w g t x) : w.rangeAt g 0 x.cl := fun j v hv => by
  rw [Nat.zero_add]
  unfold World.cell?
  rw [show w.heap[g]? = some (.cells x.cl.toArray t (0, 0)) from h]
  simpa using hv
theorem trod_struct5 {H : Type} {enc : TypeId × Value → H} {P : Program} {w : World} {base : Nat} {spare : Nat → Bool} {held : Bool} {t : TypeId} {f0 f1 f2 f3 f4 : Field} {fuel : Nat} {cs : List Value} {x : DataW H × List MemPlace} (ht : P.underlying t = some (.struct #[f0, f1, f2, f3, f4])) (h : DataW.trod enc P w base spare held fuel t cs = some x) :
    ∃ y0 y1 y2 y3 y4 n, cs.length = P.cellsOf t ∧ DataW.trod enc P w base spare held n f0.type ((cs.drop f0.offset).take (P.cellsOf f0.type)) = some y0 ∧
      DataW.trod enc P w base spare held n f1.type ((cs.drop f1.offset).take (P.cellsOf f1.type)) = some y1 ∧ DataW.trod enc P w base spare held n f2.type ((cs.drop f2.offset).take (P.cellsOf f2.type)) = some y2 ∧
      DataW.trod enc P w base spare held n f3.type ((cs.drop f3.offset).take (P.cellsOf f3.type)) = some y3 ∧ DataW.trod enc P w base spare held n f4.type ((cs.drop f4.offset).take (P.cellsOf f4.type)) = some y4 := by
  obtain ⟨xs, n, _, rfl, hl, hlen, hf⟩ := DataW.trod_struct ht h
  match xs, hlen with
  | [y0, y1, y2, y3, y4], _ => exact ⟨y0, y1, y2, y3, y4, n, hl, by simpa using hf 0 f0 rfl, by simpa using hf 1 f1 rfl, by simpa using hf 2 f2 rfl, by simpa using hf 3 f3 rfl, by simpa using hf 4 f4 rfl⟩
theorem cellsSstp : Try.prog.cellsOf 24 = 5 := by kernel_rfl
/-- A state that came in, by value. -/
theorem stp_in {H : Type} {enc : TypeId × Value → H} {W : World} {base : Nat} {v : Value} {d : DataW H} {p : List MemPlace}
    (hval : Value.okWide Try.prog W .any base 24 v) (h : DataW.Trod enc Try.prog W 0 (fun _ => true) true 24 v d p) : ∃ r : Sta, v = .agg #[.bool r.h, .int .i64 r.l, .int .i64 r.m, .int .i64 r.s, .int .i64 r.v] ∧ r.i := by
  obtain ⟨cs, rfl, hsz⟩ := okWide_struct Try.underlying24 hval
  obtain ⟨fuel, hf⟩ := h
  obtain ⟨y0, y1, y2, y3, y4, n, hl, h0, h1, h2, h3, h4⟩ := trod_struct5 Try.underlying24 hf
  rw [cellsSstp] at hl
  obtain ⟨v0, v1, v2, v3, v4, hc⟩ : ∃ v0 v1 v2 v3 v4, cs.toList = [v0, v1, v2, v3, v4] := by
    match hh : cs.toList, hl with
    | [v0, v1, v2, v3, v4], _ => exact ⟨v0, v1, v2, v3, v4, rfl⟩
  have hc' : (Value.agg cs).cells.toList = [v0, v1, v2, v3, v4] := hc
  rw [hc'] at h0 h1 h2 h3 h4
  simp only [cells4, cells3] at h0 h1 h2 h3 h4
  obtain ⟨b, e0, _⟩ := DataW.trod_bool Try.underlying4 h0
  obtain ⟨l, e1, _, w1⟩ := DataW.trod_int Try.underlying3 h1
  obtain ⟨m, e2, _, w2⟩ := DataW.trod_int Try.underlying3 h2
  obtain ⟨s, e3, _, w3⟩ := DataW.trod_int Try.underlying3 h3
  obtain ⟨t, e4, _, w4⟩ := DataW.trod_int Try.underlying3 h4
  simp at e0 e1 e2 e3 e4
  subst e0 e1 e2 e3 e4
  refine ⟨⟨b, l, m, s, t⟩, ?_, bounds_i64 w1, bounds_i64 w2, bounds_i64 w3, bounds_i64 w4⟩
  congr 1
  apply Array.ext'
  exact hc
theorem cellsSsto : Try.prog.cellsOf 23 = 5 := by kernel_rfl
/-- A state that came in, by value. -/
theorem sto_in {H : Type} {enc : TypeId × Value → H} {W : World} {base : Nat} {v : Value} {d : DataW H} {p : List MemPlace}
    (hval : Value.okWide Try.prog W .any base 23 v) (h : DataW.Trod enc Try.prog W 0 (fun _ => true) true 23 v d p) : ∃ r : Sta, v = .agg #[.bool r.h, .int .i64 r.l, .int .i64 r.m, .int .i64 r.s, .int .i64 r.v] ∧ r.i := by
  obtain ⟨cs, rfl, hsz⟩ := okWide_struct Try.underlying23 hval
  obtain ⟨fuel, hf⟩ := h
  obtain ⟨y0, y1, y2, y3, y4, n, hl, h0, h1, h2, h3, h4⟩ := trod_struct5 Try.underlying23 hf
  rw [cellsSsto] at hl
  obtain ⟨v0, v1, v2, v3, v4, hc⟩ : ∃ v0 v1 v2 v3 v4, cs.toList = [v0, v1, v2, v3, v4] := by
    match hh : cs.toList, hl with
    | [v0, v1, v2, v3, v4], _ => exact ⟨v0, v1, v2, v3, v4, rfl⟩
  have hc' : (Value.agg cs).cells.toList = [v0, v1, v2, v3, v4] := hc
  rw [hc'] at h0 h1 h2 h3 h4
  simp only [cells4, cells3] at h0 h1 h2 h3 h4
  obtain ⟨b, e0, _⟩ := DataW.trod_bool Try.underlying4 h0
  obtain ⟨l, e1, _, w1⟩ := DataW.trod_int Try.underlying3 h1
  obtain ⟨m, e2, _, w2⟩ := DataW.trod_int Try.underlying3 h2
  obtain ⟨s, e3, _, w3⟩ := DataW.trod_int Try.underlying3 h3
  obtain ⟨t, e4, _, w4⟩ := DataW.trod_int Try.underlying3 h4
  simp at e0 e1 e2 e3 e4
  subst e0 e1 e2 e3 e4
  refine ⟨⟨b, l, m, s, t⟩, ?_, bounds_i64 w1, bounds_i64 w2, bounds_i64 w3, bounds_i64 w4⟩
  congr 1
  apply Array.ext'
  exact hc
end Go.Proofs.Ytbomkapnkpjjbaa
