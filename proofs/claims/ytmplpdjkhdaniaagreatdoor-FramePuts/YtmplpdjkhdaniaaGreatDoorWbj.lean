/-
  What the statements of layer 18 share: the listed tables give the walks what they read; what came in.
-/
import Derived.Test.YtmplpdjkhdaniaaGreatDoorTie
import Derived.Test.YtmplpdjkhdaniaaGreatDoorCards
import Derived.Carry
import Derived.ChangeMaps5
import Derived.ChangeOld
import Derived.ChangeSame
import Derived.Deep.DeepHandedRow
import Derived.Deep.SlicePairs
import Derived.Deep.Slices
import Derived.Deep.Strs
import Derived.LaidLaws
import Derived.Lib.LaidTab
import Derived.Lib.SmallJoins
import Derived.OpenShut
import Derived.ProofKit
import Derived.Shelf.Vars
import Derived.SizedLaws
import Derived.Stop.LaidErr
import Derived.Test.YtmplpdjkhdaniaaGreatDoorWas
namespace Go.Proofs.YtmplpdjkhdaniaaGreatDoor
open Go.ChangeShapes Go.WideShapes Go.ChangeAt Go.RowKit Go.Deep
set_option maxRecDepth 100000

theorem own : ownKnob Tryz.prog.godebug = none := by kernel_rfl
theorem laidOut : laidOutB Tryz.prog = true := by kernel_rfl
theorem cells3 : Tryz.prog.cellsOf 3 = 1 := by kernel_rfl
theorem cells5 : Tryz.prog.cellsOf 5 = 1 := by kernel_rfl
theorem cells9 : Tryz.prog.cellsOf 9 = 1 := by kernel_rfl
theorem gT2 : Tryz.prog.globalNamed "sumpter/varint.widths" = some 1 := by kernel_rfl
theorem tT2 : (Tryz.prog.globals[1]?).map (·.type) = some 145 := by kernel_rfl
theorem cellsT2 : Tryz.prog.cellsOf 145 = 4 := by kernel_rfl
theorem gS : Tryz.prog.globalNamed "sumpter/frame.shapes" = some 0 := by kernel_rfl
theorem tS : (Tryz.prog.globals[0]?).map (·.type) = some 58 := by kernel_rfl
theorem cellsS : Tryz.prog.cellsOf 58 = 22 := by kernel_rfl
theorem cellsH : Tryz.prog.cellsOf 57 = 2 := by kernel_rfl
def widT : Array Value := #[.int .i64 1, .int .i64 2, .int .i64 4, .int .i64 8]
def shpT : Array Value := #[.int .i64 0, .int .i64 0, .int .i64 0, .int .i64 0, .int .i64 66, .int .i64 0, .int .i64 39, .int .i64 1100, .int .i64 11, .int .i64 0, .int .i64 9, .int .i64 0, .int .i64 2, .int .i64 0, .int .i64 3, .int .i64 0, .int .i64 2, .int .i64 0, .int .i64 48, .int .i64 256, .int .i64 40, .int .i64 64]
/-- Both tables out of what is laid. -/
theorem mapM_each {α β : Type} {f : α → Option β} : ∀ (L : List α) (ys : List β), L.mapM f = some ys → ∀ i ∈ L, ∃ y, f i = some y
  | [], _, _, i, hi => by simp at hi
  | x :: l, r, h, i, hi => by
    simp only [List.mapM_cons, Option.bind_eq_bind, Option.bind_eq_some_iff, Option.pure_def, Option.some.injEq] at h
    obtain ⟨b, hb, r', hr', rfl⟩ := h
    rcases List.mem_cons.1 hi with rfl | hi
    · exact ⟨b, hb⟩
    · exact mapM_each l r' hr' i hi
/-- An array of pairs that reads as such a table. -/
theorem cells_of_pairs {H : Type} {enc : TypeId × Value → H} {w : World} {base : Nat} {sp : Nat → Bool} {held : Bool} {fuel : Nat} {cs : List Value} {zs : List (Int × Int)} {p : List MemPlace}
    (h : DataW.trod enc Tryz.prog w base sp held fuel 58 cs = some (.agg (zs.map fun z => .agg [.lit (.int .i64 z.1), .lit (.int .i64 z.2)]), p)) : ∀ i, i < 11 → ∃ z, zs[i]? = some z ∧ cs[i * 2]? = some (.int .i64 z.1) ∧ cs[i * 2 + 1]? = some (.int .i64 z.2) := by
  cases fuel with
  | zero => simp [DataW.trod] at h
  | succ fuel =>
    simp only [DataW.trod, Tryz.underlying58, cellsH, cellsS] at h
    split at h
    · rename_i hl
      obtain ⟨xs, hm, hx⟩ := Option.map_eq_some_iff.1 h
      have hxs : xs.map (·.1) = zs.map fun z => (DataW.agg [.lit (.int .i64 z.1), .lit (.int .i64 z.2)] : DataW H) := by
        have := congrArg Prod.fst hx
        simpa using this
      intro i hi
      obtain ⟨b, hb, hf⟩ := Lib.mapM_at hm i i (by simp [hi])
      obtain ⟨y0, y1, n, rfl, hl2, h0, h1⟩ := trod_struct2 Tryz.underlying57 hf
      obtain ⟨a0, e0, rfl, _⟩ := DataW.trod_int Tryz.underlying3 h0
      obtain ⟨a1, e1, rfl, _⟩ := DataW.trod_int Tryz.underlying3 h1
      have h2 : (xs.map (·.1))[i]? = some (DataW.agg [.lit (.int .i64 a0), .lit (.int .i64 a1)] : DataW H) := by simp [hb]
      rw [hxs] at h2
      simp only [List.getElem?_map, Option.map_eq_some_iff] at h2
      obtain ⟨z, hz, hzz⟩ := h2
      simp only [DataW.agg.injEq, List.cons.injEq, DataW.lit.injEq, Lit.int.injEq, true_and, and_true] at hzz
      refine ⟨z, hz, ?_, ?_⟩
      · have := congrArg (·[0]?) e0
        simp only [List.getElem?_take, List.getElem?_drop, cells3] at this
        rw [hzz.1]
        simpa using this
      · have := congrArg (·[0]?) e1
        simp only [List.getElem?_take, List.getElem?_drop, cells3] at this
        rw [hzz.2]
        simpa using this
    · cases h
theorem shp_of {W : World} {rest : List (String × DataW Unit)} (h : laidMet Tryz.prog (("sumpter/frame.shapes", Rows.laid_sumpter_frame_shapes) :: rest) W) : Shp W := by
  obtain ⟨ps, ⟨g', t', cs, fuel, p, q, hg', ht', hvar, hd, _, _⟩, _⟩ := h
  obtain rfl := Option.some.inj (gS.symm.trans hg')
  obtain rfl := Option.some.inj (tS.symm.trans ht')
  have key := cells_of_pairs (zs := [(0, 0), (0, 0), (66, 0), (39, 1100), (11, 0), (9, 0), (2, 0), (3, 0), (2, 0), (48, 256), (40, 64)]) hd
  have cell := World.var?_cell gS hvar
  intro k hk
  obtain ⟨z, hz, z0, z1⟩ := key k (by omega)
  rw [cell (k * 2), cell (k * 2 + 1), List.getElem?_toArray, List.getElem?_toArray, z0, z1]
  have e : z = (pkN k, mT k) := by
    rcases (by omega : k = 0 ∨ k = 1 ∨ k = 2 ∨ k = 3 ∨ k = 4 ∨ k = 5 ∨ k = 6 ∨ k = 7 ∨ k = 8 ∨ k = 9 ∨ k = 10) with rfl | rfl | rfl | rfl | rfl | rfl | rfl | rfl | rfl | rfl | rfl <;> (cases hz; rfl)
  rw [e]
  exact ⟨rfl, rfl⟩
theorem tb_of {W : World} (h : laidMetH Tryz.prog Rows.framePutsRow.laid W) : Tb W := by
  have h' : laidMet Tryz.prog Rows.framePutsRow.laid W := h
  have t2 : Lib.TabIs Tryz.prog W "sumpter/varint.widths" .i64 [1, 2, 4, 8] := Lib.tabIs_of_head gT2 tT2 Tryz.underlying145 Tryz.underlying3 cells3 cellsT2 h'
  exact ⟨shp_of (laidMet.tail h'), ⟨t2.cell gT2 0 (by decide), t2.cell gT2 1 (by decide), t2.cell gT2 2 (by decide), t2.cell gT2 3 (by decide)⟩⟩
end Go.Proofs.YtmplpdjkhdaniaaGreatDoor
