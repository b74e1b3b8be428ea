/-
  What the statements of layer 2 share: the listed table of widths gives the walks what they read.
-/
import Derived.Test.YtmlnocjljhhmdaaDoorAwake
import Derived.Test.YtmlnocjljhhmdaaDoorNums
import Derived.Test.YtmlnocjljhhmdaaDoorTie
import Derived.Test.YtmlnocjljhhmdaaDoorCards
import Derived.ProofKit
import Derived.OpenShut
import Derived.Carry
import Derived.ChangeOld
import Derived.Deep.DeepHandedRow
import Derived.Lib.LaidTab
import Derived.SizedLaws
import Derived.Deep.Strs
import Derived.Deep.SlicePairs
import Derived.ChangeMaps5
namespace Go.Proofs.YtmlnocjljhhmdaaDoor
open Go.ChangeShapes Go.WideShapes Go.ChangeAt Go.RowKit Go.Deep

theorem own : ownKnob Tryd.prog.godebug = none := by kernel_rfl
theorem laidOut : laidOutB Tryd.prog = true := by kernel_rfl
theorem gWid : Tryd.prog.globalNamed "sumpter/varint.widths" = some 0 := by kernel_rfl
theorem tWid : (Tryd.prog.globals[0]?).map (·.type) = some 71 := by kernel_rfl
theorem cells41 : Tryd.prog.cellsOf 71 = 4 := by kernel_rfl
theorem cells3 : Tryd.prog.cellsOf 3 = 1 := by kernel_rfl
theorem cells5 : Tryd.prog.cellsOf 5 = 1 := by kernel_rfl

theorem wid_of {W : World} (h : laidMetH Tryd.prog [("sumpter/varint.widths", Rows.laid_sumpter_varint_widths)] W) : Wid W := by
  have t : Lib.TabIs Tryd.prog W "sumpter/varint.widths" .i64 [1, 2, 4, 8] := Lib.tabIs_of_head (rest := []) gWid tWid Tryd.underlying71 Tryd.underlying3 cells3 cells41 h
  exact ⟨t.cell gWid 0 (by decide), t.cell gWid 1 (by decide), t.cell gWid 2 (by decide), t.cell gWid 3 (by decide)⟩


theorem bytes5 : Tryd.prog.bytesOf 5 = 1 := by kernel_rfl

/-- What the walks are told of a slice of bytes that came in: it is nil; or it leads to a row of 'cap' cells that hold the bytes zs, the first 'len' of them its own. -/
def Bytes (w : World) (a : Option Addr) (len cap : Nat) (zs : List Int) : Prop :=
  (∀ i, 0 ≤ zs.getD i 0 ∧ zs.getD i 0 < 256) ∧ zs.length = cap ∧ len ≤ cap ∧ cap ≤ 140737488351232 ∧
  ((a = none ∧ cap = 0) ∨ ∃ x, a = some x ∧ ∀ i, i < cap → w.cell? (x.add i) = some (.int .u8 (zs.getD i 0)))

theorem bytes_open {H : Type} {enc : TypeId × Value → H} {W : World} {base : Nat} {v : Value} {d : DataW H} {p : List MemPlace} {ts : List TypeId} {ds : List (DataW H)} (j : Nat)
    (hval : Value.okWide Tryd.prog W .any base 25 v) (h : DataW.Trod enc Tryd.prog W 0 (fun _ => true) true 25 v d p)
    (hsz : (DataW.weightsEach Tryd.prog ts ds).all (· ≤ reachBytes) = true) (ht : ts[j]? = some 25) (hd : ds[j]? = some d) :
    ∃ a len cap zs, v = .slice a len cap ∧ Bytes W a len cap zs := by
  obtain ⟨a0, len0, cap0, rfl⟩ := okWide_slice Tryd.underlying25 hval
  obtain ⟨fuel, hf⟩ := h
  rcases open_ints Tryd.underlying25 Tryd.underlying5 cells5 hf with ⟨hcs, _⟩ | ⟨x, l, c, zs, hcs, _, hl, hm, hz, hx, hcell, hwz⟩
  · simp [Value.cells] at hcs
    obtain ⟨rfl, rfl, rfl⟩ := hcs
    exact ⟨none, 0, 0, [], rfl, fun i => by simp, rfl, Nat.le_refl _, by omega, .inl ⟨rfl, rfl⟩⟩
  · simp [Value.cells] at hcs
    obtain ⟨rfl, rfl, rfl⟩ := hcs
    simp only [Prod.mk.injEq] at hx
    obtain ⟨rfl, _⟩ := hx
    have hs := sized_slice hsz (j := j) (t := 25) (e := 5) ht hd Tryd.underlying25
    rw [bytes5] at hs
    simp only [if_true] at hz
    simp only [lits, List.length_map, List.length_take, List.length_drop, reachBytes] at hs
    refine ⟨some x, len0, cap0, zs, rfl, fun i => ?_, hz, hl, by omega, .inr ⟨x, rfl, fun i hi => hcell i (by omega)⟩⟩
    have := range_u8 hwz i
    rw [List.getD_eq_getElem?_getD]
    omega

theorem Bytes.row {w : World} {a : Option Addr} {len cap : Nat} {zs : List Int} (h : Bytes w a len cap zs) : Row w a len cap zs := by
  obtain ⟨hb, hz, hl, hm, h⟩ := h
  rcases Nat.eq_zero_or_pos len with h0 | h0
  · exact .inl h0
  · rcases h with ⟨_, h⟩ | ⟨x, rfl, hc⟩
    · omega
    · obtain ⟨b, off, spot⟩ := x
      have hspot : spot = none := by simpa [Addr.add] using World.cell?_spot (hc 0 (by omega))
      subst hspot
      exact .inr ⟨h0, b, off, rfl, hl, by unfold maxLen; omega, fun i hi => by have := hc i (by omega); rwa [Addr.add_lit] at this, hb⟩

theorem Bytes.below {w w' : World} {a : Option Addr} {len cap : Nat} {zs : List Int} (h : Bytes w a len cap zs) (hb : Below w.heap.size w w') : Bytes w' a len cap zs := by
  obtain ⟨h1, h2, h3, h4, h⟩ := h
  refine ⟨h1, h2, h3, h4, ?_⟩
  rcases h with h | ⟨x, rfl, hc⟩
  · exact .inl h
  · exact .inr ⟨x, rfl, fun i hi => (hb.cell (p := x.add i) (World.block_lt_of_cell? _ _ (hc i hi))).trans (hc i hi)⟩

theorem Bytes.sl {w : World} {a : Option Addr} {len cap : Nat} {zs : List Int} (h : Bytes w a len cap zs) : Sl w (.slice a len cap) (zs.take len) := by
  have hr := h.row
  obtain ⟨hb, hz, hl, hm, h⟩ := h
  have hlen : (zs.take len).length = len := by rw [List.length_take]; omega
  have hn : a = none → cap = 0 := fun e => by
    rcases h with ⟨_, h⟩ | ⟨x, hx, _⟩
    · exact h
    · rw [e] at hx; cases hx
  refine ⟨a, cap, by rw [hlen], by rw [hlen]; exact hl, by unfold maxLen; omega, hn, ?_⟩
  rw [hlen]
  rcases hr with h | ⟨hp, b, off, rfl, h1, h2, hc, hz'⟩
  · exact .inl h
  · refine .inr ⟨hp, b, off, rfl, h1, h2, fun i hi => ?_, fun i => ?_⟩
    · rw [hc i hi]; simp [List.getD, hi]
    · by_cases hi : i < len
      · have := hb i
        simpa [List.getD, List.getElem?_take, hi] using this
      · simp [List.getD, List.getElem?_take, hi]

/-- What the walks are told of a slice of strings that came in. -/
def Strs (w : World) (a : Option Addr) (len cap : Nat) (Sx : Nat → ByteArray) : Prop :=
  len ≤ cap ∧ cap ≤ maxLen ∧ ((a = none ∧ cap = 0) ∨ ∃ x, a = some x ∧ ∀ i, i < len → w.cell? (x.add i) = some (.string (Sx i)) ∧ (Sx i).size ≤ maxLen)

theorem cells9 : Tryd.prog.cellsOf 9 = 1 := by kernel_rfl

theorem strs_open {H : Type} {enc : TypeId × Value → H} {W : World} {base : Nat} {v : Value} {d : DataW H} {p : List MemPlace}
    (hval : Value.okWide Tryd.prog W .any base 22 v) (h : DataW.Trod enc Tryd.prog W 0 (fun _ => true) true 22 v d p) :
    ∃ a len cap Sx, v = .slice a len cap ∧ Strs W a len cap Sx := by
  obtain ⟨a0, len0, cap0, rfl⟩ := okWide_slice Tryd.underlying22 hval
  obtain ⟨fuel, hf⟩ := h
  rcases open_strs Tryd.underlying22 Tryd.underlying9 cells9 hf with ⟨hcs, _⟩ | ⟨x, l, c, m, Sx, hcs, _, hl, hm, hmm, hx, hcell⟩
  · simp [Value.cells] at hcs
    obtain ⟨rfl, rfl, rfl⟩ := hcs
    exact ⟨none, 0, 0, fun _ => ByteArray.empty, rfl, Nat.le_refl _, by unfold maxLen; omega, .inl ⟨rfl, rfl⟩⟩
  · simp [Value.cells] at hcs
    obtain ⟨rfl, rfl, rfl⟩ := hcs
    simp only [if_true] at hmm
    exact ⟨some x, len0, cap0, Sx, rfl, hl, hm, .inr ⟨x, rfl, fun i hi => hcell i (by omega)⟩⟩
end Go.Proofs.YtmlnocjljhhmdaaDoor
