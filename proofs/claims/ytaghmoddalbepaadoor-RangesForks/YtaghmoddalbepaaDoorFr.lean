/-
  What the statements of layer 17 share: the listed table gives the walks what they read; what came in.
-/
import Derived.Test.YtaghmoddalbepaaDoorAw
import Derived.Test.YtaghmoddalbepaaDoorTie
import Derived.Test.YtaghmoddalbepaaDoorCards
import Derived.Carry
import Derived.ChangeMaps5
import Derived.ChangeOld
import Derived.Deep.DeepHandedRow
import Derived.Deep.SlicePairs
import Derived.Deep.Slices
import Derived.Deep.Strs
import Derived.LaidLaws
import Derived.Lib.LaidTab
import Derived.Lib.SmallJoins
import Derived.OpenShut
import Derived.ProofKit
import Derived.Shelf.Vars
import Derived.SizedLaws
import Derived.Stop.LaidErr
namespace Go.Proofs.YtaghmoddalbepaaDoor
open Go.ChangeShapes Go.WideShapes Go.ChangeAt Go.RowKit Go.Deep
set_option maxRecDepth 100000

theorem own : ownKnob Tryd.prog.godebug = none := by kernel_rfl
theorem laidOut : laidOutB Tryd.prog = true := by kernel_rfl
theorem cells3 : Tryd.prog.cellsOf 3 = 1 := by kernel_rfl
theorem cells5 : Tryd.prog.cellsOf 5 = 1 := by kernel_rfl
theorem cells9 : Tryd.prog.cellsOf 9 = 1 := by kernel_rfl
theorem cellsU : Tryd.prog.cellsOf 46 = 1 := by kernel_rfl
theorem gT2 : Tryd.prog.globalNamed "sumpter/varint.widths" = some 0 := by kernel_rfl
theorem tT2 : (Tryd.prog.globals[0]?).map (·.type) = some 103 := by kernel_rfl
theorem cellsT2 : Tryd.prog.cellsOf 103 = 4 := by kernel_rfl
theorem cellsP : Tryd.prog.cellsOf 47 = 2 := by kernel_rfl
theorem cellsA : Tryd.prog.cellsOf 24 = 3 := by kernel_rfl
theorem wi_of {W : World} (h : laidMetH Tryd.prog Rows.rangesOrderRow.laid W) : Fi.Wid W := by
  have t2 : Lib.TabIs Tryd.prog W "sumpter/varint.widths" .i64 [1, 2, 4, 8] := Lib.tabIs_of_head gT2 tT2 Tryd.underlying103 Tryd.underlying3 cells3 cellsT2 h
  exact ⟨t2.cell gT2 0 (by decide), t2.cell gT2 1 (by decide), t2.cell gT2 2 (by decide), t2.cell gT2 3 (by decide)⟩
def widT : Array Value := #[.int .i64 1, .int .i64 2, .int .i64 4, .int .i64 8]
theorem mapM_each {α β : Type} {f : α → Option β} : ∀ (L : List α) (ys : List β), L.mapM f = some ys → ∀ i ∈ L, ∃ y, f i = some y
  | [], _, _ => fun i hi => by cases hi
  | a :: L, ys, h => by
    rw [List.mapM_cons] at h
    simp only [bind, Option.bind_eq_some_iff, pure, Option.some.injEq] at h
    obtain ⟨y, hy, zs, hz, rfl⟩ := h
    intro i hi
    rcases List.mem_cons.1 hi with rfl | hi
    · exact ⟨y, hy⟩
    · exact mapM_each L zs hz i hi
/-- Pairs of numbers. -/
def p16 (x : Int × Int) : List Value := [.int .u16 x.1, .int .u16 x.2]
def okP (x : Int × Int) : Prop := (0 ≤ x.1 ∧ x.1 < 65536) ∧ 0 ≤ x.2 ∧ x.2 < 65536
structure PQ (w : World) (v : Value) (l : List (Int × Int)) : Prop where
  is : IS 2 w v (l.map p16)
  ok : ∀ x ∈ l, okP x
theorem p16_cl (l : List (Int × Int)) : CL 2 (l.map p16) := fun c hc => by
  obtain ⟨x, _, rfl⟩ := List.mem_map.1 hc
  exact ⟨rfl, fun v hv => by simp only [p16, List.mem_cons, List.not_mem_nil, or_false] at hv; rcases hv with rfl | rfl <;> rfl⟩
/-- The cells of a pair that came in. -/
theorem pair_trod {H : Type} {enc : TypeId × Value → H} {W : World} {fuel : Nat} {cs : List Value} {x : DataW H × List MemPlace}
    (h : DataW.trod enc Tryd.prog W 0 (fun _ => true) true fuel 47 cs = some x) (hsz : cs.length = 2) : ∃ a b : Int, cs = p16 (a, b) ∧ okP (a, b) := by
  cases fuel with
  | zero => simp [DataW.trod] at h
  | succ m =>
    rw [DataW.trod_step] at h
    unfold DataW.trodStep at h
    simp only [Tryd.underlying47] at h
    rw [if_pos (by rw [cellsP]; exact hsz)] at h
    simp only [Option.map_eq_some_iff] at h
    obtain ⟨ys, hy, _⟩ := h
    have cell : ∀ i, i < 2 → ∃ a : Int, cs[i]? = some (.int .u16 a) ∧ (Lit.int .u16 a).wf = true := fun i hi => by
      obtain ⟨y, hyi⟩ := mapM_each _ _ hy i (by simpa using hi)
      obtain ⟨a, ea, _, wa⟩ := DataW.trod_int Tryd.underlying46 hyi
      refine ⟨a, ?_, wa⟩
      rw [cellsU, Nat.mul_one] at ea
      have h0 := congrArg (·[0]?) ea
      simpa [List.getElem?_take, List.getElem?_drop] using h0
    obtain ⟨a, ha, wa⟩ := cell 0 (by omega)
    obtain ⟨b, hb, wb⟩ := cell 1 (by omega)
    refine ⟨a, b, ?_, ?_⟩
    · obtain ⟨u, v, rfl⟩ : ∃ u v, cs = [u, v] := by
        match cs, hsz with
        | [u, v], _ => exact ⟨u, v, rfl⟩
      simp at ha hb
      rw [ha, hb]
      rfl
    · have b1 := bounds_u16 wa
      have b2 := bounds_u16 wb
      unfold okP
      simp only
      omega
/-- Pairs that came in. -/
theorem prs_in {H : Type} {enc : TypeId × Value → H} {W : World} {base : Nat} {v : Value} {d : DataW H} {p : List MemPlace}
    (hval : Value.okWide Tryd.prog W .any base 45 v) (h : DataW.Trod enc Tryd.prog W 0 (fun _ => true) true 45 v d p) : ∃ l, PQ W v l := by
  obtain ⟨a0, len0, cap0, rfl⟩ := okWide_slice Tryd.underlying45 hval
  obtain ⟨fuel, hf⟩ := h
  rcases open_slice Tryd.underlying45 hf with ⟨hcs, _⟩ | ⟨x, l, c, m, n, D, Pl, hcs, _, hl, hm, hmm, _, hall⟩
  · simp [Value.cells] at hcs
    obtain ⟨rfl, rfl, rfl⟩ := hcs
    exact ⟨[], ⟨IS.nil 2 W, by simp⟩⟩
  · simp [Value.cells] at hcs
    obtain ⟨rfl, rfl, rfl⟩ := hcs
    simp only [if_true] at hmm
    have each : ∀ i, i < len0 → ∃ q : Int × Int, (∀ j v, (p16 q)[j]? = some v → W.cell? (x.add (i * 2 + j)) = some v) ∧ okP q := by
      intro i hi
      obtain ⟨cs', h1, h2⟩ := hall i (by omega)
      rw [cellsP] at h1
      obtain ⟨_, hlen, hcell⟩ := World.cells?_some h1
      obtain ⟨a, b, rfl, hy⟩ := pair_trod h2 hlen
      refine ⟨(a, b), fun j v hv => ?_, hy⟩
      have hj : j < 2 := (List.getElem?_eq_some_iff.1 hv).1
      have c0 := hcell j (by omega)
      rw [add_add] at c0
      rw [c0]
      simpa using hv
    obtain ⟨q, hq⟩ := choose_lt each
    have hlen : ((List.range len0).map q).length = len0 := by simp
    refine ⟨(List.range len0).map q, ⟨⟨some x, cap0, by rw [List.length_map, hlen], by rw [List.length_map, hlen]; exact hl, hm, (fun e => by cases e), p16_cl _, ?_⟩, fun y hy => ?_⟩⟩
    · rcases Nat.eq_zero_or_pos len0 with h0 | h0
      · subst h0; exact .inl rfl
      · obtain ⟨b, off, spot⟩ := x
        have hspot : spot = none := by simpa [Addr.add] using World.cell?_spot ((hq 0 h0).1 0 _ rfl)
        subst hspot
        refine .inr ⟨b, off, rfl, fun i hi => ?_⟩
        rw [List.length_map, hlen] at hi
        have e : atC (((List.range len0).map q).map p16) i = p16 (q i) := by simp [atC, List.getD, hi]
        rw [e]
        intro j v hv
        have := (hq i hi).1 j v hv
        rw [Addr.add_lit, ← Nat.add_assoc] at this
        exact this
    · obtain ⟨i, hi, rfl⟩ := List.mem_map.1 hy
      exact (hq i (List.mem_range.1 hi)).2
/-- Calls. -/
abbrev Cal := Int × Int × Int
def a3c (x : Cal) : List Value := [.int .u8 x.1, .int .i64 x.2.1, .int .i64 x.2.2]
def okC (x : Cal) : Prop := (0 ≤ x.1 ∧ x.1 < 256) ∧ (-9223372036854775808 ≤ x.2.1 ∧ x.2.1 ≤ 9223372036854775807) ∧ -9223372036854775808 ≤ x.2.2 ∧ x.2.2 ≤ 9223372036854775807
structure CQ (w : World) (v : Value) (l : List Cal) : Prop where
  is : IS 3 w v (l.map a3c)
  ok : ∀ x ∈ l, okC x
theorem a3c_cl (l : List Cal) : CL 3 (l.map a3c) := fun c hc => by
  obtain ⟨x, _, rfl⟩ := List.mem_map.1 hc
  exact ⟨rfl, fun v hv => by simp only [a3c, List.mem_cons, List.not_mem_nil, or_false] at hv; rcases hv with rfl | rfl | rfl <;> rfl⟩
/-- The cells of a call that came in. -/
theorem cal_trod {H : Type} {enc : TypeId × Value → H} {W : World} {fuel : Nat} {cs : List Value} {x : DataW H × List MemPlace}
    (h : DataW.trod enc Tryd.prog W 0 (fun _ => true) true fuel 24 cs = some x) : ∃ y : Cal, cs = a3c y ∧ okC y := by
  obtain ⟨y0, y1, y2, n, -, hl, h0, h1, h2⟩ := trod_struct3 Tryd.underlying24 h
  rw [cellsA] at hl
  obtain ⟨v0, v1, v2, rfl⟩ : ∃ v0 v1 v2, cs = [v0, v1, v2] := by
    match cs, hl with
    | [v0, v1, v2], _ => exact ⟨v0, v1, v2, rfl⟩
  simp only [cells5, cells3] at h0 h1 h2
  obtain ⟨k, e0, _, wk⟩ := DataW.trod_int Tryd.underlying5 h0
  obtain ⟨f, e1, _, wf⟩ := DataW.trod_int Tryd.underlying3 h1
  obtain ⟨t, e2, _, wt⟩ := DataW.trod_int Tryd.underlying3 h2
  simp at e0 e1 e2
  subst e0 e1 e2
  have bk := bounds_u8 wk
  have bf := bounds_i64 wf
  have bt := bounds_i64 wt
  exact ⟨(k, f, t), rfl, by unfold okC; simp only; omega⟩
/-- Calls that came in. -/
theorem cls_in {H : Type} {enc : TypeId × Value → H} {W : World} {base : Nat} {v : Value} {d : DataW H} {p : List MemPlace}
    (hval : Value.okWide Tryd.prog W .any base 22 v) (h : DataW.Trod enc Tryd.prog W 0 (fun _ => true) true 22 v d p) : ∃ l, CQ W v l := by
  obtain ⟨a0, len0, cap0, rfl⟩ := okWide_slice Tryd.underlying22 hval
  obtain ⟨fuel, hf⟩ := h
  rcases open_slice Tryd.underlying22 hf with ⟨hcs, _⟩ | ⟨x, l, c, m, n, D, Pl, hcs, _, hl, hm, hmm, _, hall⟩
  · simp [Value.cells] at hcs
    obtain ⟨rfl, rfl, rfl⟩ := hcs
    exact ⟨[], ⟨IS.nil 3 W, by simp⟩⟩
  · simp [Value.cells] at hcs
    obtain ⟨rfl, rfl, rfl⟩ := hcs
    simp only [if_true] at hmm
    have each : ∀ i, i < len0 → ∃ q : Cal, (∀ j v, (a3c q)[j]? = some v → W.cell? (x.add (i * 3 + j)) = some v) ∧ okC q := by
      intro i hi
      obtain ⟨cs', h1, h2⟩ := hall i (by omega)
      rw [cellsA] at h1
      obtain ⟨_, hlen, hcell⟩ := World.cells?_some h1
      obtain ⟨y, rfl, hy⟩ := cal_trod h2
      refine ⟨y, fun j v hv => ?_, hy⟩
      have hj : j < 3 := (List.getElem?_eq_some_iff.1 hv).1
      have c0 := hcell j (by omega)
      rw [add_add] at c0
      rw [c0]
      simpa using hv
    obtain ⟨q, hq⟩ := choose_lt each
    have hlen : ((List.range len0).map q).length = len0 := by simp
    refine ⟨(List.range len0).map q, ⟨⟨some x, cap0, by rw [List.length_map, hlen], by rw [List.length_map, hlen]; exact hl, hm, (fun e => by cases e), a3c_cl _, ?_⟩, fun y hy => ?_⟩⟩
    · rcases Nat.eq_zero_or_pos len0 with h0 | h0
      · subst h0; exact .inl rfl
      · obtain ⟨b, off, spot⟩ := x
        have hspot : spot = none := by simpa [Addr.add] using World.cell?_spot ((hq 0 h0).1 0 _ rfl)
        subst hspot
        refine .inr ⟨b, off, rfl, fun i hi => ?_⟩
        rw [List.length_map, hlen] at hi
        have e : atC (((List.range len0).map q).map a3c) i = a3c (q i) := by simp [atC, List.getD, hi]
        rw [e]
        intro j v hv
        have := (hq i hi).1 j v hv
        rw [Addr.add_lit, ← Nat.add_assoc] at this
        exact this
    · obtain ⟨i, hi, rfl⟩ := List.mem_map.1 hy
      exact (hq i (List.mem_range.1 hi)).2
/-- A call that came in, by value. -/
theorem cal_in {H : Type} {enc : TypeId × Value → H} {W : World} {base : Nat} {v : Value} {d : DataW H} {p : List MemPlace}
    (hval : Value.okWide Tryd.prog W .any base 24 v) (h : DataW.Trod enc Tryd.prog W 0 (fun _ => true) true 24 v d p) : ∃ r : Cal, v = .agg #[.int .u8 r.1, .int .i64 r.2.1, .int .i64 r.2.2] ∧ okC r := by
  obtain ⟨cs, rfl, hsz⟩ := okWide_struct Tryd.underlying24 hval
  obtain ⟨fuel, hf⟩ := h
  obtain ⟨y, hy, ho⟩ := cal_trod hf
  refine ⟨y, ?_, ho⟩
  congr 1
  apply Array.ext'
  exact hy
end Go.Proofs.YtaghmoddalbepaaDoor
