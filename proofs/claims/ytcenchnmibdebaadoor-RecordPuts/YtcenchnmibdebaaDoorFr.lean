/-
  What the statements of layer 15 share: the listed tables give the walks what they read; records that came in.
-/
import Derived.Test.YtcenchnmibdebaaDoorAw0
import Derived.Test.YtcenchnmibdebaaDoorTie
import Derived.Test.YtcenchnmibdebaaDoorCards
import Derived.Carry
import Derived.ChangeMaps5
import Derived.ChangeOld
import Derived.Deep.DeepHandedRow
import Derived.Deep.SlicePairs
import Derived.Deep.Slices
import Derived.Deep.Strs
import Derived.LaidLaws
import Derived.Lib.LaidTab
import Derived.Lib.SmallJoins
import Derived.OpenShut
import Derived.ProofKit
import Derived.Shelf.Vars
import Derived.SizedLaws
import Derived.Stop.LaidErr
namespace Go.Proofs.YtcenchnmibdebaaDoor
open Go.ChangeShapes Go.WideShapes Go.ChangeAt Go.RowKit Go.Deep
set_option maxRecDepth 100000

theorem own : ownKnob Tryd.prog.godebug = none := by kernel_rfl
theorem laidOut : laidOutB Tryd.prog = true := by kernel_rfl
theorem mx_of {W : World} (h : W.ShapedOpen Tryd.prog) : Mx W :=
  cell_of_shapedOpen_int (zero := #[.int .i64 0]) (t := 3) h (of_decide_eq_true (by kernel_rfl)) (by kernel_rfl) rfl (by kernel_rfl) (by kernel_rfl) Tryd.underlying3
/-- What Go's table of first bytes holds. -/
def firstCells : Array Value := (Go.Pinned.utf8FirstZ.map fun (n : Nat) => Value.int .u8 ((n : Nat) : Int)).toArray
def rangeCells : Array Value := #[.int .u8 128, .int .u8 191, .int .u8 160, .int .u8 191, .int .u8 128, .int .u8 159, .int .u8 144, .int .u8 191, .int .u8 128, .int .u8 143, .int .u8 0, .int .u8 0, .int .u8 0, .int .u8 0, .int .u8 0, .int .u8 0, .int .u8 0, .int .u8 0, .int .u8 0, .int .u8 0, .int .u8 0, .int .u8 0, .int .u8 0, .int .u8 0, .int .u8 0, .int .u8 0, .int .u8 0, .int .u8 0, .int .u8 0, .int .u8 0, .int .u8 0, .int .u8 0]
theorem cells3 : Tryd.prog.cellsOf 3 = 1 := by kernel_rfl
theorem cells5 : Tryd.prog.cellsOf 5 = 1 := by kernel_rfl
theorem cells9 : Tryd.prog.cellsOf 9 = 1 := by kernel_rfl
theorem gT2 : Tryd.prog.globalNamed "sumpter/varint.widths" = some 0 := by kernel_rfl
theorem tT2 : (Tryd.prog.globals[0]?).map (·.type) = some 118 := by kernel_rfl
theorem gT1 : Tryd.prog.globalNamed "sumpter/crc.halves" = some 1 := by kernel_rfl
theorem tT1 : (Tryd.prog.globals[1]?).map (·.type) = some 121 := by kernel_rfl
theorem cellsT2 : Tryd.prog.cellsOf 118 = 4 := by kernel_rfl
theorem cellsT1 : Tryd.prog.cellsOf 121 = 16 := by kernel_rfl
theorem cellsTE : Tryd.prog.cellsOf 79 = 1 := by kernel_rfl
theorem cellsH : Tryd.prog.cellsOf 23 = 32 := by kernel_rfl
theorem cellsQ : Tryd.prog.cellsOf 25 = 37 := by kernel_rfl
def halfZ : List Int := Cr.Reg.tab.map (fun n : Nat => (n : Int))
def halfCells : Array Value := (halfZ.map (Value.int .u32)).toArray
theorem tb_of {W : World} (h : laidMetH Tryd.prog Rows.recordPlaysRow.laid W) (hs : W.ShapedOpen Tryd.prog) : Tb W := by
  have h1 := laidMet.tail h
  have t2 : Lib.TabIs Tryd.prog W "sumpter/varint.widths" .i64 [1, 2, 4, 8] := Lib.tabIs_of_head gT2 tT2 Tryd.underlying118 Tryd.underlying3 cells3 cellsT2 h1
  have t1 : Lib.TabIs Tryd.prog W "sumpter/crc.halves" .u32 halfZ := Lib.tabIs_of_head gT1 tT1 Tryd.underlying121 Tryd.underlying79 cellsTE cellsT1 (laidMet.tail h1)
  refine ⟨fun i hi => ?_, ⟨t2.cell gT2 0 (by decide), t2.cell gT2 1 (by decide), t2.cell gT2 2 (by decide), t2.cell gT2 3 (by decide)⟩, mx_of hs⟩
  rw [t1.cell gT1 i (show i < halfZ.length from hi)]
  have hi2 : i < Cr.Reg.tab.length := hi
  simp [halfZ, List.getD, List.getElem?_eq_getElem hi2]
theorem mapM_each {α β : Type} {f : α → Option β} : ∀ (L : List α) (ys : List β), L.mapM f = some ys → ∀ i ∈ L, ∃ y, f i = some y
  | [], _, _ => fun i hi => by cases hi
  | a :: L, ys, h => by
    rw [List.mapM_cons] at h
    simp only [bind, Option.bind_eq_some_iff, pure, Option.some.injEq] at h
    obtain ⟨y, hy, zs, hz, rfl⟩ := h
    intro i hi
    rcases List.mem_cons.1 hi with rfl | hi
    · exact ⟨y, hy⟩
    · exact mapM_each L zs hz i hi
/-- The cells of a sum that came in. -/
theorem hash_trod {H : Type} {enc : TypeId × Value → H} {W : World} {fuel : Nat} {cs : List Value} {x : DataW H × List MemPlace}
    (h : DataW.trod enc Tryd.prog W 0 (fun _ => true) true fuel 23 cs = some x) (hsz : cs.length = 32) : ∃ A : List Int, cs = A.map (Value.int .u8) ∧ A.length = 32 ∧ ∀ k, 0 ≤ A.getD k 0 ∧ A.getD k 0 < 256 := by
  cases fuel with
  | zero => simp [DataW.trod] at h
  | succ m =>
    rw [DataW.trod_step] at h
    unfold DataW.trodStep at h
    simp only [Tryd.underlying23] at h
    rw [if_pos (by rw [cellsH]; exact hsz)] at h
    simp only [Option.map_eq_some_iff] at h
    obtain ⟨ys, hy, _⟩ := h
    have cell : ∀ i, i < 32 → ∃ a : Int, cs[i]? = some (.int .u8 a) ∧ (Lit.int .u8 a).wf = true := fun i hi => by
      obtain ⟨y, hyi⟩ := mapM_each _ _ hy i (by simpa using hi)
      obtain ⟨a, ea, _, wa⟩ := DataW.trod_int Tryd.underlying5 hyi
      refine ⟨a, ?_, wa⟩
      rw [cells5, Nat.mul_one] at ea
      have h0 := congrArg (·[0]?) ea
      simpa [List.getElem?_take, List.getElem?_drop] using h0
    refine ⟨cs.map intOf, ?_, by simp [hsz], fun i => ?_⟩
    · rw [List.map_map]
      apply List.ext_getElem?
      intro i
      rcases Nat.lt_or_ge i 32 with hi | hi
      · obtain ⟨a, ha, _⟩ := cell i hi
        rw [List.getElem?_map, ha]
        simp [intOf]
      · rw [List.getElem?_eq_none (by simpa [hsz] using hi), List.getElem?_eq_none (by simpa [hsz] using hi)]
    · rcases Nat.lt_or_ge i 32 with hi | hi
      · obtain ⟨a, ha, wa⟩ := cell i hi
        have e : (cs.map intOf).getD i 0 = a := by simp [List.getD, ha, intOf]
        rw [e]
        have := bounds_u8 wa
        omega
      · rw [List.getD, List.getElem?_eq_none (by simpa [hsz] using hi)]; simp
theorem trod_struct6 {H : Type} {enc : TypeId × Value → H} {P : Program} {w : World} {base : Nat} {spare : Nat → Bool} {held : Bool} {t : TypeId} {f0 f1 f2 f3 f4 f5 : Field} {fuel : Nat} {cs : List Value} {x : DataW H × List MemPlace} (ht : P.underlying t = some (.struct #[f0, f1, f2, f3, f4, f5])) (h : DataW.trod enc P w base spare held fuel t cs = some x) :
    ∃ y0 y1 y2 y3 y4 y5 n, cs.length = P.cellsOf t ∧ DataW.trod enc P w base spare held n f0.type ((cs.drop f0.offset).take (P.cellsOf f0.type)) = some y0 ∧
      DataW.trod enc P w base spare held n f1.type ((cs.drop f1.offset).take (P.cellsOf f1.type)) = some y1 ∧ DataW.trod enc P w base spare held n f2.type ((cs.drop f2.offset).take (P.cellsOf f2.type)) = some y2 ∧
      DataW.trod enc P w base spare held n f3.type ((cs.drop f3.offset).take (P.cellsOf f3.type)) = some y3 ∧ DataW.trod enc P w base spare held n f4.type ((cs.drop f4.offset).take (P.cellsOf f4.type)) = some y4 ∧ DataW.trod enc P w base spare held n f5.type ((cs.drop f5.offset).take (P.cellsOf f5.type)) = some y5 := by
  obtain ⟨xs, n, _, rfl, hl, hlen, hf⟩ := DataW.trod_struct ht h
  match xs, hlen with
  | [y0, y1, y2, y3, y4, y5], _ => exact ⟨y0, y1, y2, y3, y4, y5, n, hl, by simpa using hf 0 f0 rfl, by simpa using hf 1 f1 rfl, by simpa using hf 2 f2 rfl, by simpa using hf 3 f3 rfl, by simpa using hf 4 f4 rfl, by simpa using hf 5 f5 rfl⟩
theorem seven (cs : List Value) (h : cs.length = 37) : ∃ v0 v1 v2 r v4 v5, cs = v0 :: v1 :: v2 :: (r ++ [v4, v5]) ∧ r.length = 32 := by
  match cs, h with
  | v0 :: v1 :: v2 :: rest, h =>
    have hr : rest.length = 34 := by simpa using h
    have h1 : (rest.drop 32).length = 2 := by rw [List.length_drop, hr]
    match hd : rest.drop 32, h1 with
    | [v4, v5], _ =>
      refine ⟨v0, v1, v2, rest.take 32, v4, v5, ?_, by rw [List.length_take, hr]; rfl⟩
      rw [← hd, List.take_append_drop]
theorem i64b {n : Int} (h1 : -9223372036854775808 ≤ n) (h2 : n ≤ 9223372036854775807) : i64 n := ⟨h1, h2⟩
/-- The cells of a record that came in. -/
theorem rc_trod {H : Type} {enc : TypeId × Value → H} {W : World} {fuel : Nat} {cs : List Value} {x : DataW H × List MemPlace}
    (h : DataW.trod enc Tryd.prog W 0 (fun _ => true) true fuel 25 cs = some x) : ∃ y : Rc, cs = y.cells ∧ y.ok := by
  obtain ⟨y0, y1, y2, y3, y4, y5, n, hl, h0, h1, h2, h3, h4, h5⟩ := trod_struct6 Tryd.underlying25 h
  rw [cellsQ] at hl
  obtain ⟨v0, v1, v2, r, v4, v5, rfl, hr⟩ := seven cs hl
  simp only [cells9, cells5, cells3, cellsH] at h0 h1 h2 h3 h4 h5
  obtain ⟨k, e0, _, wk⟩ := DataW.trod_int Tryd.underlying5 h0
  obtain ⟨i, e1, _, wi⟩ := DataW.trod_int Tryd.underlying3 h1
  obtain ⟨p, e2, _, hp⟩ := DataW.trod_string Tryd.underlying9 h2
  have e3 : ((v0 :: v1 :: v2 :: (r ++ [v4, v5])).drop 3).take 32 = r := by
    show (r ++ [v4, v5]).take 32 = r
    exact List.take_left' hr
  rw [e3] at h3
  obtain ⟨A, rfl, hA, hb⟩ := hash_trod h3 hr
  have e4 : ((v0 :: v1 :: v2 :: (A.map (Value.int .u8) ++ [v4, v5])).drop 35).take 1 = [v4] := by
    show ((A.map (Value.int .u8) ++ [v4, v5]).drop 32).take 1 = [v4]
    rw [List.drop_left' hr]
    rfl
  have e5 : ((v0 :: v1 :: v2 :: (A.map (Value.int .u8) ++ [v4, v5])).drop 36).take 1 = [v5] := by
    show ((A.map (Value.int .u8) ++ [v4, v5]).drop 33).take 1 = [v5]
    rw [show 33 = 32 + 1 from rfl, ← List.drop_drop, List.drop_left' hr]
    rfl
  rw [e4] at h4
  rw [e5] at h5
  obtain ⟨n', e6, _, wn⟩ := DataW.trod_int Tryd.underlying3 h4
  obtain ⟨o, e7, _, wo⟩ := DataW.trod_int Tryd.underlying3 h5
  simp at e0 e1 e2 e6 e7
  subst e0 e1 e2 e6 e7
  have bk := bounds_u8 wk
  have bi := bounds_i64 wi
  have bn := bounds_i64 wn
  have bo := bounds_i64 wo
  exact ⟨⟨k, ⟨i, p, A, n', o⟩⟩, rfl, by show (0 : Int) ≤ k; omega, by show k < (256 : Int); omega, hA, hb, i64b (n := i) (by omega) (by omega), i64b (n := n') (by omega) (by omega), i64b (n := o) (by omega) (by omega)⟩
/-- Records that came in. -/
theorem recs_in {H : Type} {enc : TypeId × Value → H} {W : World} {base : Nat} {v : Value} {d : DataW H} {p : List MemPlace}
    (hval : Value.okWide Tryd.prog W .any base 39 v) (h : DataW.Trod enc Tryd.prog W 0 (fun _ => true) true 39 v d p) : ∃ l, RS W v l := by
  obtain ⟨a0, len0, cap0, rfl⟩ := okWide_slice Tryd.underlying39 hval
  obtain ⟨fuel, hf⟩ := h
  rcases open_slice Tryd.underlying39 hf with ⟨hcs, _⟩ | ⟨x, l, c, m, n, D, Pl, hcs, _, hl, hm, hmm, _, hall⟩
  · simp [Value.cells] at hcs
    obtain ⟨rfl, rfl, rfl⟩ := hcs
    exact ⟨[], RS.nil W⟩
  · simp [Value.cells] at hcs
    obtain ⟨rfl, rfl, rfl⟩ := hcs
    simp only [if_true] at hmm
    have each : ∀ i, i < len0 → ∃ q : Rc, (∀ j v, q.cells[j]? = some v → W.cell? (x.add (i * 37 + j)) = some v) ∧ q.ok := by
      intro i hi
      obtain ⟨cs', h1, h2⟩ := hall i (by omega)
      rw [cellsQ] at h1
      obtain ⟨_, hlen, hcell⟩ := World.cells?_some h1
      obtain ⟨y, rfl, hy⟩ := rc_trod h2
      refine ⟨y, fun j v hv => ?_, hy⟩
      have hj : j < 37 := by have := (List.getElem?_eq_some_iff.1 hv).1; rw [Rc.len hy] at this; exact this
      have c0 := hcell j (by omega)
      rw [add_add] at c0
      rw [c0]
      simpa using hv
    have : Inhabited Rc := ⟨rc0⟩
    obtain ⟨q, hq⟩ := choose_lt each
    have hlen : ((List.range len0).map q).length = len0 := by simp
    have hat : ∀ i, i < len0 → atR ((List.range len0).map q) i = q i := fun i hi => by simp [atR, List.getD, hi]
    have hok : ∀ y ∈ (List.range len0).map q, y.ok := fun y hy => by
      obtain ⟨i, hi, rfl⟩ := List.mem_map.1 hy
      exact (hq i (List.mem_range.1 hi)).2
    refine ⟨(List.range len0).map q, ⟨some x, cap0, by rw [List.length_map, hlen], by rw [List.length_map, hlen]; exact hl, hm, (fun e => by cases e), cl_rc hok, ?_⟩, hok⟩
    rcases Nat.eq_zero_or_pos len0 with h0 | h0
    · subst h0; exact .inl rfl
    · obtain ⟨b, off, spot⟩ := x
      have hspot : spot = none := by simpa [Addr.add] using World.cell?_spot ((hq 0 h0).1 0 _ rfl)
      subst hspot
      refine .inr ⟨b, off, rfl, fun i hi => ?_⟩
      rw [List.length_map, hlen] at hi
      rw [atC_rc _ i (by rw [hlen]; exact hi), hat i hi]
      intro j v hv
      have := (hq i hi).1 j v hv
      rw [Addr.add_lit, ← Nat.add_assoc] at this
      exact this
/-- A record that came in, by value. -/
theorem rec_in {H : Type} {enc : TypeId × Value → H} {W : World} {base : Nat} {v : Value} {d : DataW H} {p : List MemPlace}
    (hval : Value.okWide Tryd.prog W .any base 25 v) (h : DataW.Trod enc Tryd.prog W 0 (fun _ => true) true 25 v d p) : ∃ r : Rc, v = r.val ∧ r.ok := by
  obtain ⟨cs, rfl, hsz⟩ := okWide_struct Tryd.underlying25 hval
  obtain ⟨fuel, hf⟩ := h
  obtain ⟨y, hy, ho⟩ := rc_trod hf
  refine ⟨y, ?_, ho⟩
  unfold Rc.val
  congr 1
  apply Array.ext'
  exact hy
end Go.Proofs.YtcenchnmibdebaaDoor
