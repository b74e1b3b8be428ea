/-
  What the statements of layer 13 share: the listed table gives the walks what they read; operations and bytes that came in.
-/
import Derived.Test.YtfccjeepmhgckaaDoorAw
import Derived.Test.YtfccjeepmhgckaaDoorTie
import Derived.Test.YtfccjeepmhgckaaDoorCards
import Derived.Carry
import Derived.ChangeMaps5
import Derived.ChangeOld
import Derived.Deep.DeepHandedRow
import Derived.Deep.SlicePairs
import Derived.Deep.Slices
import Derived.Deep.Strs
import Derived.LaidLaws
import Derived.Lib.LaidTab
import Derived.Lib.SmallJoins
import Derived.Deep.Matrix
import Derived.OpenShut
import Derived.ProofKit
import Derived.SizedLaws
import Derived.Stop.LaidErr
namespace Go.Proofs.YtfccjeepmhgckaaDoor
open Go.ChangeShapes Go.WideShapes Go.ChangeAt Go.RowKit Go.Deep
set_option maxRecDepth 100000

theorem own : ownKnob Tryd.prog.godebug = none := by kernel_rfl
theorem laidOut : laidOutB Tryd.prog = true := by kernel_rfl
theorem cells5 : Tryd.prog.cellsOf 5 = 1 := by kernel_rfl
theorem cells3 : Tryd.prog.cellsOf 3 = 1 := by kernel_rfl
/-- Bytes that came in. -/
theorem sl_trod {H : Type} {enc : TypeId × Value → H} {W : World} {fuel : Nat} {cs : List Value} {x : DataW H × List MemPlace}
    (h : DataW.trod enc Tryd.prog W 0 (fun _ => true) true fuel 26 cs = some x) : ∃ a n c Z, cs = [.slice a n c] ∧ Sl W (.slice a n c) Z := by
  rcases open_ints Tryd.underlying26 Tryd.underlying5 cells5 h with ⟨hcs, _⟩ | ⟨y, l, c, zs, hcs, _, hl, hm, hz, _, hcell, hwz⟩
  · exact ⟨none, 0, 0, [], hcs, Sl.none _⟩
  · simp only [if_true] at hz
    have hlen : (zs.take l).length = l := by rw [List.length_take]; omega
    refine ⟨some y, l, c, zs.take l, hcs, some y, c, by rw [hlen], by rw [hlen]; exact hl, hm, (fun e => by cases e), ?_⟩
    rw [hlen]
    rcases Nat.eq_zero_or_pos l with h0 | h0
    · exact .inl h0
    · obtain ⟨yb, yo, ys⟩ := y
      have hys : ys = none := by simpa [Addr.add] using World.cell?_spot (hcell 0 (by omega))
      subst hys
      have hby : ∀ q, 0 ≤ zs.getD q 0 ∧ zs.getD q 0 < 256 := fun q => by
        have := range_u8 hwz q
        rw [List.getD_eq_getElem?_getD]
        omega
      refine .inr ⟨h0, yb, yo, rfl, hl, hm, fun q hq => ?_, fun q => ?_⟩
      · have := hcell q (by omega)
        rw [Addr.add_lit] at this
        rw [this]
        simp [List.getD, hq]
      · by_cases hq : q < l
        · have := hby q
          simpa [List.getD, List.getElem?_take, hq] using this
        · simp [List.getD, List.getElem?_take, hq]
theorem gTW : Tryd.prog.globalNamed "sumpter/varint.widths" = some 0 := by kernel_rfl
theorem tTW : (Tryd.prog.globals[0]?).map (·.type) = some 76 := by kernel_rfl
theorem cellsTW : Tryd.prog.cellsOf 76 = 4 := by kernel_rfl
def widZ : List Int := [1, 2, 4, 8]
def widT : Array Value := (widZ.map (Value.int .i64)).toArray
theorem wi_of {W : World} (h : laidMetH Tryd.prog Rows.deltaFeedsRow.laid W) : Fi.Wid W := by
  have t0 : Lib.TabIs Tryd.prog W "sumpter/varint.widths" .i64 widZ := Lib.tabIs_of_head gTW tTW Tryd.underlying76 Tryd.underlying3 cells3 cellsTW h
  exact ⟨t0.cell gTW 0 (by decide), t0.cell gTW 1 (by decide), t0.cell gTW 2 (by decide), t0.cell gTW 3 (by decide)⟩
theorem cells4 : Tryd.prog.cellsOf 4 = 1 := by kernel_rfl
theorem cellsB : Tryd.prog.cellsOf 26 = 1 := by kernel_rfl
theorem cellsX : Tryd.prog.cellsOf 46 = 4 := by kernel_rfl
/-- The cells of an operation that came in. -/
theorem xp_trod {H : Type} {enc : TypeId × Value → H} {W : World} {fuel : Nat} {cs : List Value} {x : DataW H × List MemPlace}
    (h : DataW.trod enc Tryd.prog W 0 (fun _ => true) true fuel 46 cs = some x) : ∃ (y : Xp) (u : Value), cs = [.bool y.c, .int .i64 y.a, .int .i64 y.n, u] ∧ Sl W u y.d := by
  obtain ⟨y0, y1, y2, y3, n, _, hl, h0, h1, h2, h3⟩ := Go.Joins.trod_struct4 Tryd.underlying46 h
  rw [cellsX] at hl
  match cs, hl with
  | [v0, v1, v2, v3], _ =>
    simp only [cells4, cells3, cellsB] at h0 h1 h2 h3
    obtain ⟨d, e0, _⟩ := DataW.trod_bool Tryd.underlying4 h0
    obtain ⟨a, e1, _, _⟩ := DataW.trod_int Tryd.underlying3 h1
    obtain ⟨b, e2, _, _⟩ := DataW.trod_int Tryd.underlying3 h2
    obtain ⟨sa, sn, sc, Z, e3, hs⟩ := sl_trod h3
    simp at e0 e1 e2 e3
    subst e0 e1 e2 e3
    exact ⟨⟨d, a, b, Z⟩, _, rfl, hs⟩
/-- Operations that came in. -/
theorem ops_in {H : Type} {enc : TypeId × Value → H} {W : World} {base : Nat} {v : Value} {d : DataW H} {p : List MemPlace}
    (hval : Value.okWide Tryd.prog W .any base 29 v) (h : DataW.Trod enc Tryd.prog W 0 (fun _ => true) true 29 v d p) : ∃ l, XS W v l := by
  obtain ⟨a0, len0, cap0, rfl⟩ := okWide_slice Tryd.underlying29 hval
  obtain ⟨fuel, hf⟩ := h
  rcases open_slice Tryd.underlying29 hf with ⟨hcs, _⟩ | ⟨x, l, c, m, n, D, Pl, hcs, _, hl, hm, hmm, _, hall⟩
  · simp [Value.cells] at hcs
    obtain ⟨rfl, rfl, rfl⟩ := hcs
    exact ⟨[], XS.nil W⟩
  · simp [Value.cells] at hcs
    obtain ⟨rfl, rfl, rfl⟩ := hcs
    simp only [if_true] at hmm
    have each : ∀ i, i < len0 → ∃ q : Xp × Value, (W.cell? (x.add (i * 4 + 0)) = some (.bool q.1.c) ∧ W.cell? (x.add (i * 4 + 1)) = some (.int .i64 q.1.a) ∧ W.cell? (x.add (i * 4 + 2)) = some (.int .i64 q.1.n) ∧ W.cell? (x.add (i * 4 + 3)) = some q.2) ∧ Sl W q.2 q.1.d := by
      intro i hi
      obtain ⟨cs', h1, h2⟩ := hall i (by omega)
      rw [cellsX] at h1
      obtain ⟨_, hlen, hcell⟩ := World.cells?_some h1
      obtain ⟨y, u, rfl, hy⟩ := xp_trod h2
      have cc : ∀ j v, [Value.bool y.c, .int .i64 y.a, .int .i64 y.n, u][j]? = some v → W.cell? (x.add (i * 4 + j)) = some v := fun j v hv => by
        have hj : j < 4 := (List.getElem?_eq_some_iff.1 hv).1
        have c0 := hcell j (by omega)
        rw [add_add] at c0
        rw [c0]
        simpa using hv
      exact ⟨(y, u), ⟨cc 0 _ rfl, cc 1 _ rfl, cc 2 _ rfl, cc 3 _ rfl⟩, hy⟩
    have : Inhabited (Xp × Value) := ⟨(x0, .slice none 0 0)⟩
    obtain ⟨q, hq⟩ := choose_lt each
    have hlen : ((List.range len0).map fun i => (q i).1).length = len0 := by simp
    have hat : ∀ i, i < len0 → atX ((List.range len0).map fun i => (q i).1) i = (q i).1 := fun i hi => by simp [atX, List.getD, hi]
    refine ⟨(List.range len0).map fun i => (q i).1, fun i => (q i).2, some x, cap0, by rw [hlen], by rw [hlen]; exact hl, hm, (fun e => by cases e), ?_⟩
    rcases Nat.eq_zero_or_pos len0 with h0 | h0
    · subst h0; exact .inl rfl
    · obtain ⟨b, off, spot⟩ := x
      have hspot : spot = none := by simpa [Addr.add] using World.cell?_spot (hq 0 h0).1.1
      subst hspot
      refine .inr ⟨b, off, rfl, fun i hi => ?_⟩
      rw [hlen] at hi
      rw [hat i hi]
      obtain ⟨⟨k0, k1, k2, k3⟩, k4⟩ := hq i hi
      simp only [Addr.add_lit] at k0 k1 k2 k3
      exact ⟨k0, by rw [Nat.add_assoc]; exact k1, by rw [Nat.add_assoc]; exact k2, by rw [Nat.add_assoc]; exact k3, k4⟩
/-- Bytes that came in, and where they lie. -/
theorem slx_in {H : Type} {enc : TypeId × Value → H} {W : World} {base : Nat} {v : Value} {d : DataW H} {p : List MemPlace}
    (hval : Value.okWide Tryd.prog W .any base 26 v) (h : DataW.Trod enc Tryd.prog W 0 (fun _ => true) true 26 v d p) : ∃ l, SlX W v l := by
  obtain ⟨a0, len0, cap0, rfl⟩ := okWide_slice Tryd.underlying26 hval
  obtain ⟨fuel, hf⟩ := h
  obtain ⟨a, n, c, Z, hcs, hs⟩ := sl_trod hf
  simp [Value.cells] at hcs
  obtain ⟨rfl, rfl, rfl⟩ := hcs
  refine ⟨Z, hs, fun x n c e hc => ?_⟩
  cases e
  rcases open_ints Tryd.underlying26 Tryd.underlying5 cells5 hf with ⟨hcs, _⟩ | ⟨y, l, c', zs, hcs, _, hl, hm, hz, _, hcell, hwz⟩
  · simp [Value.cells] at hcs
  · simp [Value.cells] at hcs
    obtain ⟨rfl, rfl, rfl⟩ := hcs
    simp only [if_true] at hz
    simpa [Addr.add] using World.cell?_spot (hcell 0 (by omega))
theorem sl_in {H : Type} {enc : TypeId × Value → H} {W : World} {base : Nat} {v : Value} {d : DataW H} {p : List MemPlace}
    (hval : Value.okWide Tryd.prog W .any base 26 v) (h : DataW.Trod enc Tryd.prog W 0 (fun _ => true) true 26 v d p) : ∃ l, Sl W v l := by
  obtain ⟨a0, len0, cap0, rfl⟩ := okWide_slice Tryd.underlying26 hval
  obtain ⟨fuel, hf⟩ := h
  obtain ⟨a, n, c, Z, hcs, hs⟩ := sl_trod hf
  simp [Value.cells] at hcs
  obtain ⟨rfl, rfl, rfl⟩ := hcs
  exact ⟨Z, hs⟩
end Go.Proofs.YtfccjeepmhgckaaDoor
