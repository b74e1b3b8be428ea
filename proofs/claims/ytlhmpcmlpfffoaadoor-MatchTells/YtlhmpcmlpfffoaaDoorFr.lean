/-
  What the statements of layer 12 share: the listed tables give the walks what they read; sums and bytes that came in.
-/
import Derived.Test.YtlhmpcmlpfffoaaDoorAw
import Derived.Test.YtlhmpcmlpfffoaaDoorTie
import Derived.Test.YtlhmpcmlpfffoaaDoorCards
import Derived.Carry
import Derived.ChangeMaps5
import Derived.ChangeOld
import Derived.Deep.DeepHandedRow
import Derived.Deep.SlicePairs
import Derived.Deep.Slices
import Derived.Deep.Strs
import Derived.LaidLaws
import Derived.Lib.LaidTab
import Derived.Lib.SmallJoins
import Derived.Deep.Matrix
import Derived.OpenShut
import Derived.ProofKit
import Derived.SizedLaws
import Derived.Stop.LaidErr
namespace Go.Proofs.YtlhmpcmlpfffoaaDoor
open Go.ChangeShapes Go.WideShapes Go.ChangeAt Go.RowKit Go.Deep
set_option maxRecDepth 100000

theorem own : ownKnob Tryd.prog.godebug = none := by kernel_rfl
theorem cells3 : Tryd.prog.cellsOf 3 = 1 := by kernel_rfl
/-- Bytes that came in. -/
theorem sl_trod {H : Type} {enc : TypeId × Value → H} {W : World} {fuel : Nat} {cs : List Value} {x : DataW H × List MemPlace}
    (h : DataW.trod enc Tryd.prog W 0 (fun _ => true) true fuel 22 cs = some x) : ∃ a n c Z, cs = [.slice a n c] ∧ Sl W (.slice a n c) Z := by
  rcases open_ints Tryd.underlying22 Tryd.underlying5 cells5 h with ⟨hcs, _⟩ | ⟨y, l, c, zs, hcs, _, hl, hm, hz, _, hcell, hwz⟩
  · exact ⟨none, 0, 0, [], hcs, Sl.none _⟩
  · simp only [if_true] at hz
    have hlen : (zs.take l).length = l := by rw [List.length_take]; omega
    refine ⟨some y, l, c, zs.take l, hcs, some y, c, by rw [hlen], by rw [hlen]; exact hl, hm, (fun e => by cases e), ?_⟩
    rw [hlen]
    rcases Nat.eq_zero_or_pos l with h0 | h0
    · exact .inl h0
    · obtain ⟨yb, yo, ys⟩ := y
      have hys : ys = none := by simpa [Addr.add] using World.cell?_spot (hcell 0 (by omega))
      subst hys
      have hby : ∀ q, 0 ≤ zs.getD q 0 ∧ zs.getD q 0 < 256 := fun q => by
        have := range_u8 hwz q
        rw [List.getD_eq_getElem?_getD]
        omega
      refine .inr ⟨h0, yb, yo, rfl, hl, hm, fun q hq => ?_, fun q => ?_⟩
      · have := hcell q (by omega)
        rw [Addr.add_lit] at this
        rw [this]
        simp [List.getD, hq]
      · by_cases hq : q < l
        · have := hby q
          simpa [List.getD, List.getElem?_take, hq] using this
        · simp [List.getD, List.getElem?_take, hq]
theorem gT0 : Tryd.prog.globalNamed "sumpter/sha.first" = some 0 := by kernel_rfl
theorem tT0 : (Tryd.prog.globals[0]?).map (·.type) = some 83 := by kernel_rfl
theorem gT1 : Tryd.prog.globalNamed "sumpter/sha.rounds" = some 1 := by kernel_rfl
theorem tT1 : (Tryd.prog.globals[1]?).map (·.type) = some 86 := by kernel_rfl
theorem cellsT0 : Tryd.prog.cellsOf 83 = 8 := by kernel_rfl
theorem cellsT1 : Tryd.prog.cellsOf 86 = 64 := by kernel_rfl
theorem cellsTE : Tryd.prog.cellsOf 53 = 1 := by kernel_rfl
theorem cellsI : Tryd.prog.cellsOf 57 = 33 := by kernel_rfl
def firstZ : List Int := (Sh.Pl.words Sh.Pl.init).map (fun n : Nat => (n : Int))
def roundZ : List Int := Sh.Pl.K.map (fun n : Nat => (n : Int))
def shaFirst : Array Value := (firstZ.map (Value.int .u32)).toArray
def shaRounds : Array Value := (roundZ.map (Value.int .u32)).toArray
theorem ta_of {W : World} (h : laidMetH Tryd.prog Rows.matchSearchesRow.laid W) : Ta W := by
  have t0 : Lib.TabIs Tryd.prog W "sumpter/sha.first" .u32 firstZ := Lib.tabIs_of_head gT0 tT0 Tryd.underlying83 Tryd.underlying53 cellsTE cellsT0 h
  have t1 : Lib.TabIs Tryd.prog W "sumpter/sha.rounds" .u32 roundZ := Lib.tabIs_of_head gT1 tT1 Tryd.underlying86 Tryd.underlying53 cellsTE cellsT1 (laidMet.tail h)
  refine ⟨fun i hi => ?_, fun i hi => ?_⟩
  · rw [t0.cell gT0 i (show i < firstZ.length from hi)]
    have hi2 : i < (Sh.Pl.words Sh.Pl.init).length := hi
    simp [firstZ, List.getD, List.getElem?_eq_getElem hi2]
  · rw [t1.cell gT1 i (show i < roundZ.length from hi)]
    have hi2 : i < Sh.Pl.K.length := hi
    simp [roundZ, List.getD, List.getElem?_eq_getElem hi2]
theorem mapM_each {α β : Type} {f : α → Option β} : ∀ (L : List α) (ys : List β), L.mapM f = some ys → ∀ i ∈ L, ∃ y, f i = some y
  | [], _, _ => fun i hi => by cases hi
  | a :: L, ys, h => by
    rw [List.mapM_cons] at h
    simp only [bind, Option.bind_eq_some_iff, pure, Option.some.injEq] at h
    obtain ⟨y, hy, zs, hz, rfl⟩ := h
    intro i hi
    rcases List.mem_cons.1 hi with rfl | hi
    · exact ⟨y, hy⟩
    · exact mapM_each L zs hz i hi
/-- The cells of a sum that came in. -/
theorem hash_trod {H : Type} {enc : TypeId × Value → H} {W : World} {fuel : Nat} {cs : List Value} {x : DataW H × List MemPlace}
    (h : DataW.trod enc Tryd.prog W 0 (fun _ => true) true fuel 48 cs = some x) (hsz : cs.length = 32) : ∃ A : List Int, cs = A.map (Value.int .u8) ∧ A.length = 32 ∧ ∀ k, 0 ≤ A.getD k 0 ∧ A.getD k 0 < 256 := by
  cases fuel with
  | zero => simp [DataW.trod] at h
  | succ m =>
    rw [DataW.trod_step] at h
    unfold DataW.trodStep at h
    simp only [Tryd.underlying48] at h
    rw [if_pos (by rw [cellsH]; exact hsz)] at h
    simp only [Option.map_eq_some_iff] at h
    obtain ⟨ys, hy, _⟩ := h
    have cell : ∀ i, i < 32 → ∃ a : Int, cs[i]? = some (.int .u8 a) ∧ (Lit.int .u8 a).wf = true := fun i hi => by
      obtain ⟨y, hyi⟩ := mapM_each _ _ hy i (by simpa using hi)
      obtain ⟨a, ea, _, wa⟩ := DataW.trod_int Tryd.underlying5 hyi
      refine ⟨a, ?_, wa⟩
      rw [cells5, Nat.mul_one] at ea
      have h0 := congrArg (·[0]?) ea
      simpa [List.getElem?_take, List.getElem?_drop] using h0
    refine ⟨cs.map intOf, ?_, by simp [hsz], fun i => ?_⟩
    · rw [List.map_map]
      apply List.ext_getElem?
      intro i
      rcases Nat.lt_or_ge i 32 with hi | hi
      · obtain ⟨a, ha, _⟩ := cell i hi
        rw [List.getElem?_map, ha]
        simp [intOf]
      · rw [List.getElem?_eq_none (by simpa [hsz] using hi), List.getElem?_eq_none (by simpa [hsz] using hi)]
    · rcases Nat.lt_or_ge i 32 with hi | hi
      · obtain ⟨a, ha, wa⟩ := cell i hi
        have e : (cs.map intOf).getD i 0 = a := by simp [List.getD, ha, intOf]
        rw [e]
        have := bounds_u8 wa
        omega
      · rw [List.getD, List.getElem?_eq_none (by simpa [hsz] using hi)]; simp
/-- The cells of sums that came in. -/
theorem it_trod {H : Type} {enc : TypeId × Value → H} {W : World} {fuel : Nat} {cs : List Value} {x : DataW H × List MemPlace}
    (h : DataW.trod enc Tryd.prog W 0 (fun _ => true) true fuel 57 cs = some x) : ∃ y : Sg, cs = y.cells ∧ y.ok := by
  obtain ⟨y0, y1, n, _, hl, h0, h3⟩ := trod_struct2 Tryd.underlying57 h
  rw [cellsI] at hl
  match cs, hl with
  | v0 :: rest, hl =>
    simp only [cellsTE, cellsH] at h0 h3
    obtain ⟨k, e2, _, wk⟩ := DataW.trod_int Tryd.underlying53 h0
    have hr : rest.length = 32 := by simpa using hl
    have e3 : ((v0 :: rest).drop 1).take 32 = rest := by
      show rest.take 32 = rest
      exact List.take_of_length_le (by omega)
    rw [e3] at h3
    obtain ⟨A, rfl, hA, hb⟩ := hash_trod h3 hr
    simp at e2
    subst e2
    have wb := bounds_u32 wk
    exact ⟨⟨k, A⟩, rfl, hA, hb, by show (0 : Int) ≤ k; omega, by show k < (4294967296 : Int); omega⟩
/-- Sums that came in. -/
theorem items_trod {H : Type} {enc : TypeId × Value → H} {W : World} {fuel : Nat} {cs : List Value} {x : DataW H × List MemPlace}
    (hf : DataW.trod enc Tryd.prog W 0 (fun _ => true) true fuel 27 cs = some x) : ∃ v l, cs = [v] ∧ GS W v l := by
  rcases open_slice Tryd.underlying27 hf with ⟨hcs, _⟩ | ⟨x, l, c, m, n, D, Pl, hcs, _, hl, hm, hmm, _, hall⟩
  · exact ⟨_, [], hcs, GS.nil W⟩
  · obtain ⟨len0, hlen0⟩ : ∃ len0, len0 = l := ⟨_, rfl⟩
    obtain ⟨cap0, hcap0⟩ : ∃ cap0, cap0 = c := ⟨_, rfl⟩
    rw [← hlen0, ← hcap0] at hcs
    subst hlen0 hcap0
    simp only [if_true] at hmm
    have each : ∀ i, i < len0 → ∃ q : Sg, (∀ j v, q.cells[j]? = some v → W.cell? (x.add (i * 33 + j)) = some v) ∧ q.ok := by
      intro i hi
      obtain ⟨cs', h1, h2⟩ := hall i (by omega)
      rw [cellsI] at h1
      obtain ⟨_, hlen, hcell⟩ := World.cells?_some h1
      obtain ⟨y, rfl, hy⟩ := it_trod h2
      refine ⟨y, fun j v hv => ?_, hy⟩
      have hj : j < 33 := by have := (List.getElem?_eq_some_iff.1 hv).1; rw [Sg.len hy] at this; exact this
      have c0 := hcell j (by omega)
      rw [add_add] at c0
      rw [c0]
      simpa using hv
    have : Inhabited Sg := ⟨it0⟩
    obtain ⟨q, hq⟩ := choose_lt each
    have hlen : ((List.range len0).map q).length = len0 := by simp
    have hat : ∀ i, i < len0 → atI ((List.range len0).map q) i = q i := fun i hi => by simp [atI, List.getD, hi]
    refine ⟨_, (List.range len0).map q, hcs, some x, cap0, by rw [hlen], by rw [hlen]; exact hl, hm, (fun e => by cases e), fun y hy => ?_, ?_⟩
    · obtain ⟨i, hi, rfl⟩ := List.mem_map.1 hy
      exact (hq i (List.mem_range.1 hi)).2
    · rcases Nat.eq_zero_or_pos len0 with h0 | h0
      · subst h0; exact .inl rfl
      · obtain ⟨b, off, spot⟩ := x
        have hspot : spot = none := by simpa [Addr.add] using World.cell?_spot ((hq 0 h0).1 0 _ rfl)
        subst hspot
        refine .inr ⟨b, off, rfl, fun i hi => ?_⟩
        rw [hlen] at hi
        rw [hat i hi]
        intro j v hv
        have := (hq i hi).1 j v hv
        rw [Addr.add_lit, ← Nat.add_assoc] at this
        exact this
theorem sigs_in {H : Type} {enc : TypeId × Value → H} {W : World} {base : Nat} {v : Value} {d : DataW H} {p : List MemPlace}
    (hval : Value.okWide Tryd.prog W .any base 27 v) (h : DataW.Trod enc Tryd.prog W 0 (fun _ => true) true 27 v d p) : ∃ l, GS W v l := by
  obtain ⟨a0, len0, cap0, rfl⟩ := okWide_slice Tryd.underlying27 hval
  obtain ⟨fuel, hf⟩ := h
  obtain ⟨u, l, hcs, hg⟩ := items_trod hf
  simp [Value.cells] at hcs
  subst hcs
  exact ⟨l, hg⟩
theorem cells4 : Tryd.prog.cellsOf 4 = 1 := by kernel_rfl
theorem cellsB : Tryd.prog.cellsOf 22 = 1 := by kernel_rfl
theorem cellsX : Tryd.prog.cellsOf 45 = 4 := by kernel_rfl
/-- The cells of an operation that came in. -/
theorem xp_trod {H : Type} {enc : TypeId × Value → H} {W : World} {fuel : Nat} {cs : List Value} {x : DataW H × List MemPlace}
    (h : DataW.trod enc Tryd.prog W 0 (fun _ => true) true fuel 45 cs = some x) : ∃ (y : Xp) (u : Value), cs = [.bool y.c, .int .i64 y.a, .int .i64 y.n, u] ∧ Sl W u y.d := by
  obtain ⟨y0, y1, y2, y3, n, _, hl, h0, h1, h2, h3⟩ := Go.Joins.trod_struct4 Tryd.underlying45 h
  rw [cellsX] at hl
  match cs, hl with
  | [v0, v1, v2, v3], _ =>
    simp only [cells4, cells3, cellsB] at h0 h1 h2 h3
    obtain ⟨d, e0, _⟩ := DataW.trod_bool Tryd.underlying4 h0
    obtain ⟨a, e1, _, _⟩ := DataW.trod_int Tryd.underlying3 h1
    obtain ⟨b, e2, _, _⟩ := DataW.trod_int Tryd.underlying3 h2
    obtain ⟨sa, sn, sc, Z, e3, hs⟩ := sl_trod h3
    simp at e0 e1 e2 e3
    subst e0 e1 e2 e3
    exact ⟨⟨d, a, b, Z⟩, _, rfl, hs⟩
/-- Operations that came in. -/
theorem ops_in {H : Type} {enc : TypeId × Value → H} {W : World} {base : Nat} {v : Value} {d : DataW H} {p : List MemPlace}
    (hval : Value.okWide Tryd.prog W .any base 31 v) (h : DataW.Trod enc Tryd.prog W 0 (fun _ => true) true 31 v d p) : ∃ l, XS W v l := by
  obtain ⟨a0, len0, cap0, rfl⟩ := okWide_slice Tryd.underlying31 hval
  obtain ⟨fuel, hf⟩ := h
  rcases open_slice Tryd.underlying31 hf with ⟨hcs, _⟩ | ⟨x, l, c, m, n, D, Pl, hcs, _, hl, hm, hmm, _, hall⟩
  · simp [Value.cells] at hcs
    obtain ⟨rfl, rfl, rfl⟩ := hcs
    exact ⟨[], XS.nil W⟩
  · simp [Value.cells] at hcs
    obtain ⟨rfl, rfl, rfl⟩ := hcs
    simp only [if_true] at hmm
    have each : ∀ i, i < len0 → ∃ q : Xp × Value, (W.cell? (x.add (i * 4 + 0)) = some (.bool q.1.c) ∧ W.cell? (x.add (i * 4 + 1)) = some (.int .i64 q.1.a) ∧ W.cell? (x.add (i * 4 + 2)) = some (.int .i64 q.1.n) ∧ W.cell? (x.add (i * 4 + 3)) = some q.2) ∧ Sl W q.2 q.1.d := by
      intro i hi
      obtain ⟨cs', h1, h2⟩ := hall i (by omega)
      rw [cellsX] at h1
      obtain ⟨_, hlen, hcell⟩ := World.cells?_some h1
      obtain ⟨y, u, rfl, hy⟩ := xp_trod h2
      have cc : ∀ j v, [Value.bool y.c, .int .i64 y.a, .int .i64 y.n, u][j]? = some v → W.cell? (x.add (i * 4 + j)) = some v := fun j v hv => by
        have hj : j < 4 := (List.getElem?_eq_some_iff.1 hv).1
        have c0 := hcell j (by omega)
        rw [add_add] at c0
        rw [c0]
        simpa using hv
      exact ⟨(y, u), ⟨cc 0 _ rfl, cc 1 _ rfl, cc 2 _ rfl, cc 3 _ rfl⟩, hy⟩
    have : Inhabited (Xp × Value) := ⟨(x0, .slice none 0 0)⟩
    obtain ⟨q, hq⟩ := choose_lt each
    have hlen : ((List.range len0).map fun i => (q i).1).length = len0 := by simp
    have hat : ∀ i, i < len0 → atX ((List.range len0).map fun i => (q i).1) i = (q i).1 := fun i hi => by simp [atX, List.getD, hi]
    refine ⟨(List.range len0).map fun i => (q i).1, fun i => (q i).2, some x, cap0, by rw [hlen], by rw [hlen]; exact hl, hm, (fun e => by cases e), ?_⟩
    rcases Nat.eq_zero_or_pos len0 with h0 | h0
    · subst h0; exact .inl rfl
    · obtain ⟨b, off, spot⟩ := x
      have hspot : spot = none := by simpa [Addr.add] using World.cell?_spot (hq 0 h0).1.1
      subst hspot
      refine .inr ⟨b, off, rfl, fun i hi => ?_⟩
      rw [hlen] at hi
      rw [hat i hi]
      obtain ⟨⟨k0, k1, k2, k3⟩, k4⟩ := hq i hi
      simp only [Addr.add_lit] at k0 k1 k2 k3
      exact ⟨k0, by rw [Nat.add_assoc]; exact k1, by rw [Nat.add_assoc]; exact k2, by rw [Nat.add_assoc]; exact k3, k4⟩
/-- Bytes that came in, and where they lie. -/
theorem slx_in {H : Type} {enc : TypeId × Value → H} {W : World} {base : Nat} {v : Value} {d : DataW H} {p : List MemPlace}
    (hval : Value.okWide Tryd.prog W .any base 22 v) (h : DataW.Trod enc Tryd.prog W 0 (fun _ => true) true 22 v d p) : ∃ l, SlX W v l := by
  obtain ⟨a0, len0, cap0, rfl⟩ := okWide_slice Tryd.underlying22 hval
  obtain ⟨fuel, hf⟩ := h
  obtain ⟨a, n, c, Z, hcs, hs⟩ := sl_trod hf
  simp [Value.cells] at hcs
  obtain ⟨rfl, rfl, rfl⟩ := hcs
  refine ⟨Z, hs, fun x n c e hc => ?_⟩
  cases e
  rcases open_ints Tryd.underlying22 Tryd.underlying5 cells5 hf with ⟨hcs, _⟩ | ⟨y, l, c', zs, hcs, _, hl, hm, hz, _, hcell, hwz⟩
  · simp [Value.cells] at hcs
  · simp [Value.cells] at hcs
    obtain ⟨rfl, rfl, rfl⟩ := hcs
    simp only [if_true] at hz
    simpa [Addr.add] using World.cell?_spot (hcell 0 (by omega))
theorem sl_in {H : Type} {enc : TypeId × Value → H} {W : World} {base : Nat} {v : Value} {d : DataW H} {p : List MemPlace}
    (hval : Value.okWide Tryd.prog W .any base 22 v) (h : DataW.Trod enc Tryd.prog W 0 (fun _ => true) true 22 v d p) : ∃ l, Sl W v l := by
  obtain ⟨a0, len0, cap0, rfl⟩ := okWide_slice Tryd.underlying22 hval
  obtain ⟨fuel, hf⟩ := h
  obtain ⟨a, n, c, Z, hcs, hs⟩ := sl_trod hf
  simp [Value.cells] at hcs
  obtain ⟨rfl, rfl, rfl⟩ := hcs
  exact ⟨Z, hs⟩
end Go.Proofs.YtlhmpcmlpfffoaaDoor
