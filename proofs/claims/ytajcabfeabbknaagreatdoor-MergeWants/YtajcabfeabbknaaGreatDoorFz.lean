/-
  What the statements of layer 9 share: the library's variable holds some number; entries, and slices of entries, that came in; Go's tables.
  Two trees, and steps, that came in.
-/
import Derived.Test.YtajcabfeabbknaaGreatDoorAw
import Derived.Test.YtajcabfeabbknaaGreatDoorTie
import Derived.Test.YtajcabfeabbknaaGreatDoorCards
import Derived.ProofKit
import Derived.OpenShut
import Derived.Carry
import Derived.ChangeOld
import Derived.Deep.DeepHandedRow
import Derived.SizedLaws
import Derived.Deep.Strs
import Derived.Deep.Slices
import Derived.Shelf.Vars
import Derived.LaidLaws
namespace Go.Proofs.YtajcabfeabbknaaGreatDoor
open Go.ChangeShapes Go.WideShapes Go.ChangeAt Go.RowKit Go.Deep
set_option maxRecDepth 100000

theorem own : ownKnob Tryz.prog.godebug = none := by kernel_rfl
theorem laidOut : laidOutB Tryz.prog = true := by kernel_rfl
theorem mx_of {W : World} (h : W.ShapedOpen Tryz.prog) : Mx W :=
  cell_of_shapedOpen_int (zero := #[.int .i64 0]) (t := 3) h (of_decide_eq_true (by kernel_rfl)) (by kernel_rfl) rfl (by kernel_rfl) (by kernel_rfl) Tryz.underlying3
/-- What Go's table of first bytes holds. -/
def firstCells : Array Value := (Go.Pinned.utf8FirstZ.map fun (n : Nat) => Value.int .u8 ((n : Nat) : Int)).toArray
def rangeCells : Array Value := #[.int .u8 128, .int .u8 191, .int .u8 160, .int .u8 191, .int .u8 128, .int .u8 159, .int .u8 144, .int .u8 191, .int .u8 128, .int .u8 143, .int .u8 0, .int .u8 0, .int .u8 0, .int .u8 0, .int .u8 0, .int .u8 0, .int .u8 0, .int .u8 0, .int .u8 0, .int .u8 0, .int .u8 0, .int .u8 0, .int .u8 0, .int .u8 0, .int .u8 0, .int .u8 0, .int .u8 0, .int .u8 0, .int .u8 0, .int .u8 0, .int .u8 0, .int .u8 0]
theorem cells3 : Tryz.prog.cellsOf 3 = 1 := by kernel_rfl
theorem cells4 : Tryz.prog.cellsOf 4 = 1 := by kernel_rfl
theorem cells5 : Tryz.prog.cellsOf 5 = 1 := by kernel_rfl
theorem cells9 : Tryz.prog.cellsOf 9 = 1 := by kernel_rfl
theorem cellsB : Tryz.prog.cellsOf 44 = 1 := by kernel_rfl
theorem cellsN : Tryz.prog.cellsOf 46 = 3 := by kernel_rfl
/-- Bytes that came in. -/
theorem sl_trod {H : Type} {enc : TypeId × Value → H} {W : World} {fuel : Nat} {cs : List Value} {x : DataW H × List MemPlace}
    (h : DataW.trod enc Tryz.prog W 0 (fun _ => true) true fuel 44 cs = some x) : ∃ a n c Z, cs = [.slice a n c] ∧ Sl W (.slice a n c) Z := by
  rcases open_ints Tryz.underlying44 Tryz.underlying5 cells5 h with ⟨hcs, _⟩ | ⟨y, l, c, zs, hcs, _, hl, hm, hz, _, hcell, hwz⟩
  · exact ⟨none, 0, 0, [], hcs, Sl.none _⟩
  · simp only [if_true] at hz
    have hlen : (zs.take l).length = l := by rw [List.length_take]; omega
    refine ⟨some y, l, c, zs.take l, hcs, some y, c, by rw [hlen], by rw [hlen]; exact hl, hm, (fun e => by cases e), ?_⟩
    rw [hlen]
    rcases Nat.eq_zero_or_pos l with h0 | h0
    · exact .inl h0
    · obtain ⟨yb, yo, ys⟩ := y
      have hys : ys = none := by simpa [Addr.add] using World.cell?_spot (hcell 0 (by omega))
      subst hys
      have hby : ∀ q, 0 ≤ zs.getD q 0 ∧ zs.getD q 0 < 256 := fun q => by
        have := range_u8 hwz q
        rw [List.getD_eq_getElem?_getD]
        omega
      refine .inr ⟨h0, yb, yo, rfl, hl, hm, fun q hq => ?_, fun q => ?_⟩
      · have := hcell q (by omega)
        rw [Addr.add_lit] at this
        rw [this]
        simp [List.getD, hq]
      · by_cases hq : q < l
        · have := hby q
          simpa [List.getD, List.getElem?_take, hq] using this
        · simp [List.getD, List.getElem?_take, hq]
/-- The cells of an entry that came in. -/
theorem en_trod {H : Type} {enc : TypeId × Value → H} {W : World} {fuel : Nat} {cs : List Value} {x : DataW H × List MemPlace}
    (h : DataW.trod enc Tryz.prog W 0 (fun _ => true) true fuel 46 cs = some x) : ∃ p d a n c Z, cs = [.string p, .bool d, .slice a n c] ∧ p.size ≤ maxLen ∧ Sl W (.slice a n c) Z := by
  obtain ⟨y0, y1, y2, n, _, hl, h0, h1, h2⟩ := trod_struct3 Tryz.underlying46 h
  rw [cellsN] at hl
  match cs, hl with
  | [v0, v1, v2], _ =>
    simp only [cells9, cells4, cellsB] at h0 h1 h2
    obtain ⟨p, e0, _, hp⟩ := DataW.trod_string Tryz.underlying9 h0
    obtain ⟨d, e1, _⟩ := DataW.trod_bool Tryz.underlying4 h1
    obtain ⟨a, m, c, Z, e2, hs⟩ := sl_trod h2
    simp at e0 e1 e2
    subst e0 e1 e2
    exact ⟨p, d, a, m, c, Z, rfl, hp, hs⟩
/-- An entry that came in. -/
theorem ent_open {H : Type} {enc : TypeId × Value → H} {W : World} {base : Nat} {v : Value} {d : DataW H} {p : List MemPlace}
    (hval : Value.okWide Tryz.prog W .any base 46 v) (h : DataW.Trod enc Tryz.prog W 0 (fun _ => true) true 46 v d p) : ∃ x, EV W v x ∧ x.p.size ≤ maxLen := by
  obtain ⟨cs, rfl, hsz⟩ := okWide_struct Tryz.underlying46 hval
  obtain ⟨fuel, hf⟩ := h
  obtain ⟨q, e, a, n, c, Z, hcs, hq, hs⟩ := en_trod hf
  refine ⟨⟨q, e, Z⟩, ⟨a, n, c, ?_, hs⟩, hq⟩
  have : cs.toList = [.string q, .bool e, .slice a n c] := hcs
  congr 1
  apply Array.ext'
  exact this
/-- Entries that came in. -/
theorem ents_open {H : Type} {enc : TypeId × Value → H} {W : World} {base : Nat} {v : Value} {d : DataW H} {p : List MemPlace}
    (hval : Value.okWide Tryz.prog W .any base 22 v) (h : DataW.Trod enc Tryz.prog W 0 (fun _ => true) true 22 v d p) :
    ∃ a len cap l, v = .slice a len cap ∧ len = l.length ∧ ES W (.slice a len cap) l ∧ ∀ x ∈ l, x.p.size ≤ maxLen := by
  obtain ⟨a0, len0, cap0, rfl⟩ := okWide_slice Tryz.underlying22 hval
  obtain ⟨fuel, hf⟩ := h
  rcases open_slice Tryz.underlying22 hf with ⟨hcs, _⟩ | ⟨x, l, c, m, n, D, Pl, hcs, _, hl, hm, hmm, _, hall⟩
  · simp [Value.cells] at hcs
    obtain ⟨rfl, rfl, rfl⟩ := hcs
    exact ⟨none, 0, 0, [], rfl, rfl, ES.nil W, fun x hx => by cases hx⟩
  · simp [Value.cells] at hcs
    obtain ⟨rfl, rfl, rfl⟩ := hcs
    simp only [if_true] at hmm
    have each : ∀ i, i < len0 → ∃ q : En × Value, W.cell? (x.add (i * 3)) = some (.string q.1.p) ∧ W.cell? (x.add (i * 3 + 1)) = some (.bool q.1.d) ∧ W.cell? (x.add (i * 3 + 2)) = some q.2 ∧ Sl W q.2 q.1.z ∧ q.1.p.size ≤ maxLen := by
      intro i hi
      obtain ⟨cs', h1, h2⟩ := hall i (by omega)
      rw [cellsN] at h1
      obtain ⟨_, hlen, hcell⟩ := World.cells?_some h1
      obtain ⟨p, d, a, n, c, Z, rfl, hp, hs⟩ := en_trod h2
      have c0 := hcell 0 (by omega)
      have c1 := hcell 1 (by omega)
      have c2 := hcell 2 (by omega)
      rw [add_add] at c0 c1 c2
      exact ⟨(⟨p, d, Z⟩, .slice a n c), by simpa using c0, by simpa using c1, by simpa using c2, hs, hp⟩
    have : Inhabited (En × Value) := ⟨(e0, .slice none 0 0)⟩
    obtain ⟨q, hq⟩ := choose_lt each
    have hlen : ((List.range len0).map fun i => (q i).1).length = len0 := by simp
    have hat : ∀ i, i < len0 → atE ((List.range len0).map fun i => (q i).1) i = (q i).1 := fun i hi => by simp [atE, List.getD, hi]
    refine ⟨some x, len0, cap0, (List.range len0).map fun i => (q i).1, rfl, hlen.symm, ⟨fun i => (q i).2, some x, cap0, by rw [hlen], by rw [hlen]; exact hl, hm, (fun e => by cases e), ?_⟩, fun y hy => ?_⟩
    · rcases Nat.eq_zero_or_pos len0 with h0 | h0
      · subst h0; exact .inl rfl
      · obtain ⟨b, off, spot⟩ := x
        have hspot : spot = none := by simpa [Addr.add] using World.cell?_spot (hq 0 h0).1
        subst hspot
        refine .inr ⟨b, off, rfl, fun i hi => ?_⟩
        rw [hlen] at hi
        obtain ⟨q0, q1, q2, q3, _⟩ := hq i hi
        rw [Addr.add_lit] at q0 q1 q2
        rw [hat i hi]
        exact ⟨q0, by rw [Nat.add_assoc]; exact q1, by rw [Nat.add_assoc]; exact q2, q3⟩
    · obtain ⟨i, hi, rfl⟩ := List.mem_map.1 hy
      exact (hq i (List.mem_range.1 hi)).2.2.2.2
theorem ents_in {H : Type} {enc : TypeId × Value → H} {W : World} {base : Nat} {v : Value} {d : DataW H} {p : List MemPlace}
    (hval : Value.okWide Tryz.prog W .any base 22 v) (h : DataW.Trod enc Tryz.prog W 0 (fun _ => true) true 22 v d p) : ∃ l, ES W v l := by
  obtain ⟨a, n, c, l, rfl, rfl, es, _⟩ := ents_open hval h
  exact ⟨l, es⟩
theorem ent_in {H : Type} {enc : TypeId × Value → H} {W : World} {base : Nat} {v : Value} {d : DataW H} {p : List MemPlace}
    (hval : Value.okWide Tryz.prog W .any base 46 v) (h : DataW.Trod enc Tryz.prog W 0 (fun _ => true) true 46 v d p) : ∃ x, EV W v x := by
  obtain ⟨x, ev, _⟩ := ent_open hval h
  exact ⟨x, ev⟩
theorem cellsP : Tryz.prog.cellsOf 24 = 2 := by kernel_rfl
/-- A policy that came in. -/
theorem pol_in {H : Type} {enc : TypeId × Value → H} {W : World} {base : Nat} {v : Value} {d : DataW H} {p : List MemPlace}
    (hval : Value.okWide Tryz.prog W .any base 24 v) (h : DataW.Trod enc Tryz.prog W 0 (fun _ => true) true 24 v d p) : ∃ P : Pol, v = .agg #[.bool P.del, .bool P.bak] := by
  obtain ⟨cs, rfl, hsz⟩ := okWide_struct Tryz.underlying24 hval
  obtain ⟨fuel, hf⟩ := h
  have hf' : DataW.trod enc Tryz.prog W 0 (fun _ => true) true fuel 24 cs.toList = some (d, p) := hf
  obtain ⟨y0, y1, n, _, hl, h0, h1⟩ := trod_struct2 Tryz.underlying24 hf'
  rw [cellsP] at hl
  obtain ⟨l⟩ := cs
  match l, hl with
  | [v0, v1], _ =>
    simp only [cells4] at h0 h1
    obtain ⟨a, e0, _⟩ := DataW.trod_bool Tryz.underlying4 h0
    obtain ⟨b, e1, _⟩ := DataW.trod_bool Tryz.underlying4 h1
    simp at e0 e1
    subst e0 e1
    exact ⟨⟨a, b⟩, rfl⟩
end Go.Proofs.YtajcabfeabbknaaGreatDoor
namespace Go.Proofs.YtajcabfeabbknaaGreatDoor
open Go.ChangeShapes Go.WideShapes Go.ChangeAt Go.RowKit Go.Deep
set_option maxRecDepth 100000

/-- Entries that came in. -/
theorem ents_trod {H : Type} {enc : TypeId × Value → H} {W : World} {fuel : Nat} {cs : List Value} {y : DataW H × List MemPlace}
    (hf : DataW.trod enc Tryz.prog W 0 (fun _ => true) true fuel 22 cs = some y) :
    ∃ a len cap l, cs = [.slice a len cap] ∧ len = l.length ∧ ES W (.slice a len cap) l ∧ ∀ x ∈ l, x.p.size ≤ maxLen := by
  rcases open_slice Tryz.underlying22 hf with ⟨hcs, _⟩ | ⟨x, len0, cap0, m, n, D, Pl, hcs, _, hl, hm, hmm, _, hall⟩
  · subst hcs
    exact ⟨none, 0, 0, [], rfl, rfl, ES.nil W, fun x hx => by cases hx⟩
  · subst hcs
    simp only [if_true] at hmm
    have each : ∀ i, i < len0 → ∃ q : En × Value, W.cell? (x.add (i * 3)) = some (.string q.1.p) ∧ W.cell? (x.add (i * 3 + 1)) = some (.bool q.1.d) ∧ W.cell? (x.add (i * 3 + 2)) = some q.2 ∧ Sl W q.2 q.1.z ∧ q.1.p.size ≤ maxLen := by
      intro i hi
      obtain ⟨cs', h1, h2⟩ := hall i (by omega)
      rw [cellsN] at h1
      obtain ⟨_, hlen, hcell⟩ := World.cells?_some h1
      obtain ⟨p, d, a, n, c, Z, rfl, hp, hs⟩ := en_trod h2
      have c0 := hcell 0 (by omega)
      have c1 := hcell 1 (by omega)
      have c2 := hcell 2 (by omega)
      rw [add_add] at c0 c1 c2
      exact ⟨(⟨p, d, Z⟩, .slice a n c), by simpa using c0, by simpa using c1, by simpa using c2, hs, hp⟩
    have : Inhabited (En × Value) := ⟨(e0, .slice none 0 0)⟩
    obtain ⟨q, hq⟩ := choose_lt each
    have hlen : ((List.range len0).map fun i => (q i).1).length = len0 := by simp
    have hat : ∀ i, i < len0 → atE ((List.range len0).map fun i => (q i).1) i = (q i).1 := fun i hi => by simp [atE, List.getD, hi]
    refine ⟨some x, len0, cap0, (List.range len0).map fun i => (q i).1, rfl, hlen.symm, ⟨fun i => (q i).2, some x, cap0, by rw [hlen], by rw [hlen]; exact hl, hm, (fun e => by cases e), ?_⟩, fun y hy => ?_⟩
    · rcases Nat.eq_zero_or_pos len0 with h0 | h0
      · subst h0; exact .inl rfl
      · obtain ⟨b, off, spot⟩ := x
        have hspot : spot = none := by simpa [Addr.add] using World.cell?_spot (hq 0 h0).1
        subst hspot
        refine .inr ⟨b, off, rfl, fun i hi => ?_⟩
        rw [hlen] at hi
        obtain ⟨q0, q1, q2, q3, _⟩ := hq i hi
        rw [Addr.add_lit] at q0 q1 q2
        rw [hat i hi]
        exact ⟨q0, by rw [Nat.add_assoc]; exact q1, by rw [Nat.add_assoc]; exact q2, q3⟩
    · obtain ⟨i, hi, rfl⟩ := List.mem_map.1 hy
      exact (hq i (List.mem_range.1 hi)).2.2.2.2
theorem cellsL : Tryz.prog.cellsOf 22 = 1 := by kernel_rfl
theorem cellsQ : Tryz.prog.cellsOf 41 = 2 := by kernel_rfl
theorem cellsT9 : Tryz.prog.cellsOf 43 = 3 := by kernel_rfl
/-- Two trees that came in. -/
theorem pair_in {H : Type} {enc : TypeId × Value → H} {W : World} {base : Nat} {v : Value} {d : DataW H} {p : List MemPlace}
    (hval : Value.okWide Tryz.prog W .any base 41 v) (h : DataW.Trod enc Tryz.prog W 0 (fun _ => true) true 41 v d p) :
    ∃ q : (Value × List En) × (Value × List En), v = .agg #[q.1.1, q.2.1] ∧ ES W q.1.1 q.1.2 ∧ ES W q.2.1 q.2.2 := by
  obtain ⟨cs, rfl, hsz⟩ := okWide_struct Tryz.underlying41 hval
  obtain ⟨fuel, hf⟩ := h
  have hf' : DataW.trod enc Tryz.prog W 0 (fun _ => true) true fuel 41 cs.toList = some (d, p) := hf
  obtain ⟨y0, y1, n, _, hl, h0, h1⟩ := trod_struct2 Tryz.underlying41 hf'
  rw [cellsQ] at hl
  obtain ⟨l⟩ := cs
  match l, hl with
  | [v0, v1], _ =>
    simp only [cellsL] at h0 h1
    obtain ⟨a, n1, c, l1, e0, rfl, s0, _⟩ := ents_trod h0
    obtain ⟨b, n2, c2, l2, e1, rfl, s1, _⟩ := ents_trod h1
    simp at e0 e1
    subst e0 e1
    exact ⟨((_, l1), (_, l2)), rfl, s0, s1⟩
/-- A step that came in. -/
theorem step_in {H : Type} {enc : TypeId × Value → H} {W : World} {base : Nat} {v : Value} {d : DataW H} {p : List MemPlace}
    (hval : Value.okWide Tryz.prog W .any base 43 v) (h : DataW.Trod enc Tryz.prog W 0 (fun _ => true) true 43 v d p) :
    ∃ x : St, v = .agg #[.int .u8 x.κ, .string x.p, .string x.t] ∧ x.p.size ≤ maxLen ∧ x.t.size ≤ maxLen := by
  obtain ⟨cs, rfl, hsz⟩ := okWide_struct Tryz.underlying43 hval
  obtain ⟨fuel, hf⟩ := h
  have hf' : DataW.trod enc Tryz.prog W 0 (fun _ => true) true fuel 43 cs.toList = some (d, p) := hf
  obtain ⟨y0, y1, y2, n, _, hl, h0, h1, h2⟩ := trod_struct3 Tryz.underlying43 hf'
  rw [cellsT9] at hl
  obtain ⟨l⟩ := cs
  match l, hl with
  | [v0, v1, v2], _ =>
    simp only [cells9, cells5] at h0 h1 h2
    obtain ⟨k, e0, _⟩ := DataW.trod_int Tryz.underlying5 h0
    obtain ⟨q, e1, _, hq⟩ := DataW.trod_string Tryz.underlying9 h1
    obtain ⟨r, e2, _, hr⟩ := DataW.trod_string Tryz.underlying9 h2
    simp at e0 e1 e2
    subst e0 e1 e2
    exact ⟨⟨k, q, r⟩, rfl, hq, hr⟩
end Go.Proofs.YtajcabfeabbknaaGreatDoor
