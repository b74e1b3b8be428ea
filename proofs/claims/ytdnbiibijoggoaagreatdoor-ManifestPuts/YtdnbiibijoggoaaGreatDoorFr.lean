/-
  What the statements of layer 10 share: the listed tables give the walks what they read; entries, items and bytes that came in.
-/
import Derived.Test.YtdnbiibijoggoaaGreatDoorAw
import Derived.Test.YtdnbiibijoggoaaGreatDoorTie
import Derived.Test.YtdnbiibijoggoaaGreatDoorCards
import Derived.Carry
import Derived.ChangeMaps5
import Derived.ChangeOld
import Derived.Deep.DeepHandedRow
import Derived.Deep.SlicePairs
import Derived.Deep.Slices
import Derived.Deep.Strs
import Derived.LaidLaws
import Derived.Lib.LaidTab
import Derived.Lib.SmallJoins
import Derived.OpenShut
import Derived.ProofKit
import Derived.Shelf.Vars
import Derived.SizedLaws
import Derived.Stop.LaidErr
namespace Go.Proofs.YtdnbiibijoggoaaGreatDoor
open Go.ChangeShapes Go.WideShapes Go.ChangeAt Go.RowKit Go.Deep
set_option maxRecDepth 100000

theorem own : ownKnob Tryz.prog.godebug = none := by kernel_rfl
theorem laidOut : laidOutB Tryz.prog = true := by kernel_rfl
theorem mx_of {W : World} (h : W.ShapedOpen Tryz.prog) : Mx W :=
  cell_of_shapedOpen_int (zero := #[.int .i64 0]) (t := 3) h (of_decide_eq_true (by kernel_rfl)) (by kernel_rfl) rfl (by kernel_rfl) (by kernel_rfl) Tryz.underlying3
/-- What Go's table of first bytes holds. -/
def firstCells : Array Value := (Go.Pinned.utf8FirstZ.map fun (n : Nat) => Value.int .u8 ((n : Nat) : Int)).toArray
def rangeCells : Array Value := #[.int .u8 128, .int .u8 191, .int .u8 160, .int .u8 191, .int .u8 128, .int .u8 159, .int .u8 144, .int .u8 191, .int .u8 128, .int .u8 143, .int .u8 0, .int .u8 0, .int .u8 0, .int .u8 0, .int .u8 0, .int .u8 0, .int .u8 0, .int .u8 0, .int .u8 0, .int .u8 0, .int .u8 0, .int .u8 0, .int .u8 0, .int .u8 0, .int .u8 0, .int .u8 0, .int .u8 0, .int .u8 0, .int .u8 0, .int .u8 0, .int .u8 0, .int .u8 0]
theorem cells3 : Tryz.prog.cellsOf 3 = 1 := by kernel_rfl
theorem cells4 : Tryz.prog.cellsOf 4 = 1 := by kernel_rfl
theorem cells5 : Tryz.prog.cellsOf 5 = 1 := by kernel_rfl
theorem cells9 : Tryz.prog.cellsOf 9 = 1 := by kernel_rfl
theorem cellsB : Tryz.prog.cellsOf 34 = 1 := by kernel_rfl
theorem cellsN : Tryz.prog.cellsOf 54 = 3 := by kernel_rfl
/-- Bytes that came in. -/
theorem sl_trod {H : Type} {enc : TypeId × Value → H} {W : World} {fuel : Nat} {cs : List Value} {x : DataW H × List MemPlace}
    (h : DataW.trod enc Tryz.prog W 0 (fun _ => true) true fuel 34 cs = some x) : ∃ a n c Z, cs = [.slice a n c] ∧ Sl W (.slice a n c) Z := by
  rcases open_ints Tryz.underlying34 Tryz.underlying5 cells5 h with ⟨hcs, _⟩ | ⟨y, l, c, zs, hcs, _, hl, hm, hz, _, hcell, hwz⟩
  · exact ⟨none, 0, 0, [], hcs, Sl.none _⟩
  · simp only [if_true] at hz
    have hlen : (zs.take l).length = l := by rw [List.length_take]; omega
    refine ⟨some y, l, c, zs.take l, hcs, some y, c, by rw [hlen], by rw [hlen]; exact hl, hm, (fun e => by cases e), ?_⟩
    rw [hlen]
    rcases Nat.eq_zero_or_pos l with h0 | h0
    · exact .inl h0
    · obtain ⟨yb, yo, ys⟩ := y
      have hys : ys = none := by simpa [Addr.add] using World.cell?_spot (hcell 0 (by omega))
      subst hys
      have hby : ∀ q, 0 ≤ zs.getD q 0 ∧ zs.getD q 0 < 256 := fun q => by
        have := range_u8 hwz q
        rw [List.getD_eq_getElem?_getD]
        omega
      refine .inr ⟨h0, yb, yo, rfl, hl, hm, fun q hq => ?_, fun q => ?_⟩
      · have := hcell q (by omega)
        rw [Addr.add_lit] at this
        rw [this]
        simp [List.getD, hq]
      · by_cases hq : q < l
        · have := hby q
          simpa [List.getD, List.getElem?_take, hq] using this
        · simp [List.getD, List.getElem?_take, hq]
/-- The cells of an entry that came in. -/
theorem en_trod {H : Type} {enc : TypeId × Value → H} {W : World} {fuel : Nat} {cs : List Value} {x : DataW H × List MemPlace}
    (h : DataW.trod enc Tryz.prog W 0 (fun _ => true) true fuel 54 cs = some x) : ∃ p d a n c Z, cs = [.string p, .bool d, .slice a n c] ∧ p.size ≤ maxLen ∧ Sl W (.slice a n c) Z := by
  obtain ⟨y0, y1, y2, n, _, hl, h0, h1, h2⟩ := trod_struct3 Tryz.underlying54 h
  rw [cellsN] at hl
  match cs, hl with
  | [v0, v1, v2], _ =>
    simp only [cells9, cells4, cellsB] at h0 h1 h2
    obtain ⟨p, e0, _, hp⟩ := DataW.trod_string Tryz.underlying9 h0
    obtain ⟨d, e1, _⟩ := DataW.trod_bool Tryz.underlying4 h1
    obtain ⟨a, m, c, Z, e2, hs⟩ := sl_trod h2
    simp at e0 e1 e2
    subst e0 e1 e2
    exact ⟨p, d, a, m, c, Z, rfl, hp, hs⟩
/-- An entry that came in. -/
theorem ent_open {H : Type} {enc : TypeId × Value → H} {W : World} {base : Nat} {v : Value} {d : DataW H} {p : List MemPlace}
    (hval : Value.okWide Tryz.prog W .any base 54 v) (h : DataW.Trod enc Tryz.prog W 0 (fun _ => true) true 54 v d p) : ∃ x, EV W v x ∧ x.p.size ≤ maxLen := by
  obtain ⟨cs, rfl, hsz⟩ := okWide_struct Tryz.underlying54 hval
  obtain ⟨fuel, hf⟩ := h
  obtain ⟨q, e, a, n, c, Z, hcs, hq, hs⟩ := en_trod hf
  refine ⟨⟨q, e, Z⟩, ⟨a, n, c, ?_, hs⟩, hq⟩
  have : cs.toList = [.string q, .bool e, .slice a n c] := hcs
  congr 1
  apply Array.ext'
  exact this
/-- Entries that came in. -/
theorem ents_open {H : Type} {enc : TypeId × Value → H} {W : World} {base : Nat} {v : Value} {d : DataW H} {p : List MemPlace}
    (hval : Value.okWide Tryz.prog W .any base 22 v) (h : DataW.Trod enc Tryz.prog W 0 (fun _ => true) true 22 v d p) :
    ∃ a len cap l, v = .slice a len cap ∧ len = l.length ∧ ES W (.slice a len cap) l ∧ ∀ x ∈ l, x.p.size ≤ maxLen := by
  obtain ⟨a0, len0, cap0, rfl⟩ := okWide_slice Tryz.underlying22 hval
  obtain ⟨fuel, hf⟩ := h
  rcases open_slice Tryz.underlying22 hf with ⟨hcs, _⟩ | ⟨x, l, c, m, n, D, Pl, hcs, _, hl, hm, hmm, _, hall⟩
  · simp [Value.cells] at hcs
    obtain ⟨rfl, rfl, rfl⟩ := hcs
    exact ⟨none, 0, 0, [], rfl, rfl, ES.nil W, fun x hx => by cases hx⟩
  · simp [Value.cells] at hcs
    obtain ⟨rfl, rfl, rfl⟩ := hcs
    simp only [if_true] at hmm
    have each : ∀ i, i < len0 → ∃ q : En × Value, W.cell? (x.add (i * 3)) = some (.string q.1.p) ∧ W.cell? (x.add (i * 3 + 1)) = some (.bool q.1.d) ∧ W.cell? (x.add (i * 3 + 2)) = some q.2 ∧ Sl W q.2 q.1.z ∧ q.1.p.size ≤ maxLen := by
      intro i hi
      obtain ⟨cs', h1, h2⟩ := hall i (by omega)
      rw [cellsN] at h1
      obtain ⟨_, hlen, hcell⟩ := World.cells?_some h1
      obtain ⟨p, d, a, n, c, Z, rfl, hp, hs⟩ := en_trod h2
      have c0 := hcell 0 (by omega)
      have c1 := hcell 1 (by omega)
      have c2 := hcell 2 (by omega)
      rw [add_add] at c0 c1 c2
      exact ⟨(⟨p, d, Z⟩, .slice a n c), by simpa using c0, by simpa using c1, by simpa using c2, hs, hp⟩
    have : Inhabited (En × Value) := ⟨(e0, .slice none 0 0)⟩
    obtain ⟨q, hq⟩ := choose_lt each
    have hlen : ((List.range len0).map fun i => (q i).1).length = len0 := by simp
    have hat : ∀ i, i < len0 → atE ((List.range len0).map fun i => (q i).1) i = (q i).1 := fun i hi => by simp [atE, List.getD, hi]
    refine ⟨some x, len0, cap0, (List.range len0).map fun i => (q i).1, rfl, hlen.symm, ⟨fun i => (q i).2, some x, cap0, by rw [hlen], by rw [hlen]; exact hl, hm, (fun e => by cases e), ?_⟩, fun y hy => ?_⟩
    · rcases Nat.eq_zero_or_pos len0 with h0 | h0
      · subst h0; exact .inl rfl
      · obtain ⟨b, off, spot⟩ := x
        have hspot : spot = none := by simpa [Addr.add] using World.cell?_spot (hq 0 h0).1
        subst hspot
        refine .inr ⟨b, off, rfl, fun i hi => ?_⟩
        rw [hlen] at hi
        obtain ⟨q0, q1, q2, q3, _⟩ := hq i hi
        rw [Addr.add_lit] at q0 q1 q2
        rw [hat i hi]
        exact ⟨q0, by rw [Nat.add_assoc]; exact q1, by rw [Nat.add_assoc]; exact q2, q3⟩
    · obtain ⟨i, hi, rfl⟩ := List.mem_map.1 hy
      exact (hq i (List.mem_range.1 hi)).2.2.2.2
theorem ents_in {H : Type} {enc : TypeId × Value → H} {W : World} {base : Nat} {v : Value} {d : DataW H} {p : List MemPlace}
    (hval : Value.okWide Tryz.prog W .any base 22 v) (h : DataW.Trod enc Tryz.prog W 0 (fun _ => true) true 22 v d p) : ∃ l, ES W v l := by
  obtain ⟨a, n, c, l, rfl, rfl, es, _⟩ := ents_open hval h
  exact ⟨l, es⟩

theorem gT0 : Tryz.prog.globalNamed "sumpter/sha.first" = some 0 := by kernel_rfl
theorem tT0 : (Tryz.prog.globals[0]?).map (·.type) = some 86 := by kernel_rfl
theorem gT1 : Tryz.prog.globalNamed "sumpter/sha.rounds" = some 2 := by kernel_rfl
theorem tT1 : (Tryz.prog.globals[2]?).map (·.type) = some 89 := by kernel_rfl
theorem gT2 : Tryz.prog.globalNamed "sumpter/varint.widths" = some 1 := by kernel_rfl
theorem tT2 : (Tryz.prog.globals[1]?).map (·.type) = some 133 := by kernel_rfl
theorem cellsT0 : Tryz.prog.cellsOf 86 = 8 := by kernel_rfl
theorem cellsT1 : Tryz.prog.cellsOf 89 = 64 := by kernel_rfl
theorem cellsT2 : Tryz.prog.cellsOf 133 = 4 := by kernel_rfl
theorem cellsTE : Tryz.prog.cellsOf 85 = 1 := by kernel_rfl
theorem cellsH : Tryz.prog.cellsOf 40 = 32 := by kernel_rfl
theorem cellsI : Tryz.prog.cellsOf 42 = 35 := by kernel_rfl
def firstZ : List Int := (Sh.Pl.words Sh.Pl.init).map (fun n : Nat => (n : Int))
def roundZ : List Int := Sh.Pl.K.map (fun n : Nat => (n : Int))
def shaFirst : Array Value := (firstZ.map (Value.int .u32)).toArray
def shaRounds : Array Value := (roundZ.map (Value.int .u32)).toArray
theorem tb_of {W : World} (h : laidMetH Tryz.prog Rows.manifestMakesRow.laid W) : Tb W := by
  have h1 := laidMet.tail h
  have t2 : Lib.TabIs Tryz.prog W "sumpter/varint.widths" .i64 [1, 2, 4, 8] := Lib.tabIs_of_head gT2 tT2 Tryz.underlying133 Tryz.underlying3 cells3 cellsT2 h1
  have t0 : Lib.TabIs Tryz.prog W "sumpter/sha.first" .u32 firstZ := Lib.tabIs_of_head gT0 tT0 Tryz.underlying86 Tryz.underlying85 cellsTE cellsT0 (laidMet.tail h1)
  have t1 : Lib.TabIs Tryz.prog W "sumpter/sha.rounds" .u32 roundZ := Lib.tabIs_of_head gT1 tT1 Tryz.underlying89 Tryz.underlying85 cellsTE cellsT1 (laidMet.tail (laidMet.tail h1))
  refine ⟨⟨fun i hi => ?_, fun i hi => ?_⟩, t2.cell gT2 0 (by decide), t2.cell gT2 1 (by decide), t2.cell gT2 2 (by decide), t2.cell gT2 3 (by decide)⟩
  · rw [t0.cell gT0 i (show i < firstZ.length from hi)]
    have hi2 : i < (Sh.Pl.words Sh.Pl.init).length := hi
    simp [firstZ, List.getD, List.getElem?_eq_getElem hi2]
  · rw [t1.cell gT1 i (show i < roundZ.length from hi)]
    have hi2 : i < Sh.Pl.K.length := hi
    simp [roundZ, List.getD, List.getElem?_eq_getElem hi2]
theorem wd_of {W : World} (h : laidMetH Tryz.prog Rows.manifestMakesRow.laid W) (hs : W.ShapedOpen Tryz.prog) : Wd W := ⟨tb_of h, mx_of hs⟩
theorem mapM_each {α β : Type} {f : α → Option β} : ∀ (L : List α) (ys : List β), L.mapM f = some ys → ∀ i ∈ L, ∃ y, f i = some y
  | [], _, _ => fun i hi => by cases hi
  | a :: L, ys, h => by
    rw [List.mapM_cons] at h
    simp only [bind, Option.bind_eq_some_iff, pure, Option.some.injEq] at h
    obtain ⟨y, hy, zs, hz, rfl⟩ := h
    intro i hi
    rcases List.mem_cons.1 hi with rfl | hi
    · exact ⟨y, hy⟩
    · exact mapM_each L zs hz i hi
/-- The cells of a sum that came in. -/
theorem hash_trod {H : Type} {enc : TypeId × Value → H} {W : World} {fuel : Nat} {cs : List Value} {x : DataW H × List MemPlace}
    (h : DataW.trod enc Tryz.prog W 0 (fun _ => true) true fuel 40 cs = some x) (hsz : cs.length = 32) : ∃ A : List Int, cs = A.map (Value.int .u8) ∧ A.length = 32 ∧ ∀ k, 0 ≤ A.getD k 0 ∧ A.getD k 0 < 256 := by
  cases fuel with
  | zero => simp [DataW.trod] at h
  | succ m =>
    rw [DataW.trod_step] at h
    unfold DataW.trodStep at h
    simp only [Tryz.underlying40] at h
    rw [if_pos (by rw [cellsH]; exact hsz)] at h
    simp only [Option.map_eq_some_iff] at h
    obtain ⟨ys, hy, _⟩ := h
    have cell : ∀ i, i < 32 → ∃ a : Int, cs[i]? = some (.int .u8 a) ∧ (Lit.int .u8 a).wf = true := fun i hi => by
      obtain ⟨y, hyi⟩ := mapM_each _ _ hy i (by simpa using hi)
      obtain ⟨a, ea, _, wa⟩ := DataW.trod_int Tryz.underlying5 hyi
      refine ⟨a, ?_, wa⟩
      rw [cells5, Nat.mul_one] at ea
      have h0 := congrArg (·[0]?) ea
      simpa [List.getElem?_take, List.getElem?_drop] using h0
    refine ⟨cs.map intOf, ?_, by simp [hsz], fun i => ?_⟩
    · rw [List.map_map]
      apply List.ext_getElem?
      intro i
      rcases Nat.lt_or_ge i 32 with hi | hi
      · obtain ⟨a, ha, _⟩ := cell i hi
        rw [List.getElem?_map, ha]
        simp [intOf]
      · rw [List.getElem?_eq_none (by simpa [hsz] using hi), List.getElem?_eq_none (by simpa [hsz] using hi)]
    · rcases Nat.lt_or_ge i 32 with hi | hi
      · obtain ⟨a, ha, wa⟩ := cell i hi
        have e : (cs.map intOf).getD i 0 = a := by simp [List.getD, ha, intOf]
        rw [e]
        have := bounds_u8 wa
        omega
      · rw [List.getD, List.getElem?_eq_none (by simpa [hsz] using hi)]; simp
/-- The cells of an item that came in. -/
theorem it_trod {H : Type} {enc : TypeId × Value → H} {W : World} {fuel : Nat} {cs : List Value} {x : DataW H × List MemPlace}
    (h : DataW.trod enc Tryz.prog W 0 (fun _ => true) true fuel 42 cs = some x) : ∃ y : It, cs = y.cells ∧ y.ok := by
  obtain ⟨y0, y1, y2, y3, n, _, hl, h0, h1, h2, h3⟩ := Go.Joins.trod_struct4 Tryz.underlying42 h
  rw [cellsI] at hl
  match cs, hl with
  | v0 :: v1 :: v2 :: rest, hl =>
    simp only [cells9, cells4, cells3, cellsH] at h0 h1 h2 h3
    obtain ⟨p, e0, _, hp⟩ := DataW.trod_string Tryz.underlying9 h0
    obtain ⟨d, e1, _⟩ := DataW.trod_bool Tryz.underlying4 h1
    obtain ⟨k, e2, _, wk⟩ := DataW.trod_int Tryz.underlying3 h2
    have hr : rest.length = 32 := by simpa using hl
    have e3 : ((v0 :: v1 :: v2 :: rest).drop 3).take 32 = rest := by
      show rest.take 32 = rest
      exact List.take_of_length_le (by omega)
    rw [e3] at h3
    obtain ⟨A, rfl, hA, hb⟩ := hash_trod h3 hr
    simp at e0 e1 e2
    subst e0 e1 e2
    have wb := bounds_i64 wk
    exact ⟨⟨p, d, k, A⟩, rfl, hA, hb, by show (-9223372036854775808 : Int) ≤ k; omega, by show k ≤ (9223372036854775807 : Int); omega⟩
/-- Items that came in. -/
theorem items_in {H : Type} {enc : TypeId × Value → H} {W : World} {base : Nat} {v : Value} {d : DataW H} {p : List MemPlace}
    (hval : Value.okWide Tryz.prog W .any base 25 v) (h : DataW.Trod enc Tryz.prog W 0 (fun _ => true) true 25 v d p) : ∃ l, IS W v l := by
  obtain ⟨a0, len0, cap0, rfl⟩ := okWide_slice Tryz.underlying25 hval
  obtain ⟨fuel, hf⟩ := h
  rcases open_slice Tryz.underlying25 hf with ⟨hcs, _⟩ | ⟨x, l, c, m, n, D, Pl, hcs, _, hl, hm, hmm, _, hall⟩
  · simp [Value.cells] at hcs
    obtain ⟨rfl, rfl, rfl⟩ := hcs
    exact ⟨[], IS.nil W⟩
  · simp [Value.cells] at hcs
    obtain ⟨rfl, rfl, rfl⟩ := hcs
    simp only [if_true] at hmm
    have each : ∀ i, i < len0 → ∃ q : It, (∀ j v, q.cells[j]? = some v → W.cell? (x.add (i * 35 + j)) = some v) ∧ q.ok := by
      intro i hi
      obtain ⟨cs', h1, h2⟩ := hall i (by omega)
      rw [cellsI] at h1
      obtain ⟨_, hlen, hcell⟩ := World.cells?_some h1
      obtain ⟨y, rfl, hy⟩ := it_trod h2
      refine ⟨y, fun j v hv => ?_, hy⟩
      have hj : j < 35 := by have := (List.getElem?_eq_some_iff.1 hv).1; rw [It.len hy] at this; exact this
      have c0 := hcell j (by omega)
      rw [add_add] at c0
      rw [c0]
      simpa using hv
    have : Inhabited It := ⟨it0⟩
    obtain ⟨q, hq⟩ := choose_lt each
    have hlen : ((List.range len0).map q).length = len0 := by simp
    have hat : ∀ i, i < len0 → atI ((List.range len0).map q) i = q i := fun i hi => by simp [atI, List.getD, hi]
    refine ⟨(List.range len0).map q, some x, cap0, by rw [hlen], by rw [hlen]; exact hl, hm, (fun e => by cases e), fun y hy => ?_, ?_⟩
    · obtain ⟨i, hi, rfl⟩ := List.mem_map.1 hy
      exact (hq i (List.mem_range.1 hi)).2
    · rcases Nat.eq_zero_or_pos len0 with h0 | h0
      · subst h0; exact .inl rfl
      · obtain ⟨b, off, spot⟩ := x
        have hspot : spot = none := by simpa [Addr.add] using World.cell?_spot ((hq 0 h0).1 0 _ rfl)
        subst hspot
        refine .inr ⟨b, off, rfl, fun i hi => ?_⟩
        rw [hlen] at hi
        rw [hat i hi]
        intro j v hv
        have := (hq i hi).1 j v hv
        rw [Addr.add_lit, ← Nat.add_assoc] at this
        exact this
/-- Bytes that came in, and where they lie. -/
def SlX (w : World) (v : Value) (l : List Int) : Prop := Sl w v l ∧ ∀ x n c, v = .slice (some x) n c → 0 < c → x.spot = none
theorem slx_in {H : Type} {enc : TypeId × Value → H} {W : World} {base : Nat} {v : Value} {d : DataW H} {p : List MemPlace}
    (hval : Value.okWide Tryz.prog W .any base 34 v) (h : DataW.Trod enc Tryz.prog W 0 (fun _ => true) true 34 v d p) : ∃ l, SlX W v l := by
  obtain ⟨a0, len0, cap0, rfl⟩ := okWide_slice Tryz.underlying34 hval
  obtain ⟨fuel, hf⟩ := h
  obtain ⟨a, n, c, Z, hcs, hs⟩ := sl_trod hf
  simp [Value.cells] at hcs
  obtain ⟨rfl, rfl, rfl⟩ := hcs
  refine ⟨Z, hs, fun x n c e hc => ?_⟩
  cases e
  rcases open_ints Tryz.underlying34 Tryz.underlying5 cells5 hf with ⟨hcs, _⟩ | ⟨y, l, c', zs, hcs, _, hl, hm, hz, _, hcell, hwz⟩
  · simp [Value.cells] at hcs
  · simp [Value.cells] at hcs
    obtain ⟨rfl, rfl, rfl⟩ := hcs
    simp only [if_true] at hz
    simpa [Addr.add] using World.cell?_spot (hcell 0 (by omega))
theorem sl_in {H : Type} {enc : TypeId × Value → H} {W : World} {base : Nat} {v : Value} {d : DataW H} {p : List MemPlace}
    (hval : Value.okWide Tryz.prog W .any base 34 v) (h : DataW.Trod enc Tryz.prog W 0 (fun _ => true) true 34 v d p) : ∃ l, Sl W v l := by
  obtain ⟨a0, len0, cap0, rfl⟩ := okWide_slice Tryz.underlying34 hval
  obtain ⟨fuel, hf⟩ := h
  obtain ⟨a, n, c, Z, hcs, hs⟩ := sl_trod hf
  simp [Value.cells] at hcs
  obtain ⟨rfl, rfl, rfl⟩ := hcs
  exact ⟨Z, hs⟩
end Go.Proofs.YtdnbiibijoggoaaGreatDoor
