/-
  What the statements of layer 3 share: the listed table of half bytes gives the walks what they read; slices of bytes that came in.
-/
import Derived.Test.YthcpnhafikojnaaDoorAwake
import Derived.Test.YthcpnhafikojnaaDoorTie
import Derived.Test.YthcpnhafikojnaaDoorCards
import Derived.ProofKit
import Derived.OpenShut
import Derived.Carry
import Derived.ChangeOld
import Derived.Deep.DeepHandedRow
import Derived.Lib.LaidTab
import Derived.Stop.LaidErr
import Derived.SizedLaws
import Derived.Deep.Strs
import Derived.Deep.SlicePairs
import Derived.ChangeMaps5
namespace Go.Proofs.YthcpnhafikojnaaDoor
open Go.ChangeShapes Go.WideShapes Go.ChangeAt Go.RowKit Go.Deep

theorem own : ownKnob Tryd.prog.godebug = none := by kernel_rfl
theorem laidOut : laidOutB Tryd.prog = true := by kernel_rfl
theorem gT0 : Tryd.prog.globalNamed "sumpter/sha.first" = some 0 := by kernel_rfl
theorem tT0 : (Tryd.prog.globals[0]?).map (·.type) = some 47 := by kernel_rfl
theorem gT1 : Tryd.prog.globalNamed "sumpter/sha.rounds" = some 1 := by kernel_rfl
theorem tT1 : (Tryd.prog.globals[1]?).map (·.type) = some 50 := by kernel_rfl
theorem cells47 : Tryd.prog.cellsOf 47 = 8 := by kernel_rfl
theorem cells50 : Tryd.prog.cellsOf 50 = 64 := by kernel_rfl
theorem cells46 : Tryd.prog.cellsOf 46 = 1 := by kernel_rfl
theorem cells5 : Tryd.prog.cellsOf 5 = 1 := by kernel_rfl

def firstZ : List Int := (Pl.words Pl.init).map (fun n : Nat => (n : Int))
def roundZ : List Int := Pl.K.map (fun n : Nat => (n : Int))
theorem tab_of {W : World} (h : laidMetH Tryd.prog [("sumpter/sha.first", Rows.laid_sumpter_sha_first), ("sumpter/sha.rounds", Rows.laid_sumpter_sha_rounds)] W) : Tab W := by
  have t0 : Lib.TabIs Tryd.prog W "sumpter/sha.first" .u32 firstZ := Lib.tabIs_of_head gT0 tT0 Tryd.underlying47 Tryd.underlying46 cells46 cells47 h
  have t1 : Lib.TabIs Tryd.prog W "sumpter/sha.rounds" .u32 roundZ := Lib.tabIs_of_head (rest := []) gT1 tT1 Tryd.underlying50 Tryd.underlying46 cells46 cells50 (laidMet.tail h)
  refine ⟨fun i hi => ?_, fun i hi => ?_⟩
  · rw [t0.cell gT0 i (show i < firstZ.length from hi)]
    have hi2 : i < (Pl.words Pl.init).length := hi
    simp [firstZ, List.getD, List.getElem?_eq_getElem hi2]
  · rw [t1.cell gT1 i (show i < roundZ.length from hi)]
    have hi2 : i < Pl.K.length := hi
    simp [roundZ, List.getD, List.getElem?_eq_getElem hi2]

theorem bytes5 : Tryd.prog.bytesOf 5 = 1 := by kernel_rfl

/-- What the walks are told of a slice of bytes that came in: it is nil; or it leads to a row of 'cap' cells that hold the bytes zs, the first 'len' of them its own. -/
def Bytes (w : World) (a : Option Addr) (len cap : Nat) (zs : List Int) : Prop :=
  (∀ i, 0 ≤ zs.getD i 0 ∧ zs.getD i 0 < 256) ∧ zs.length = cap ∧ len ≤ cap ∧ cap ≤ 140737488351232 ∧
  ((a = none ∧ cap = 0) ∨ ∃ x, a = some x ∧ ∀ i, i < cap → w.cell? (x.add i) = some (.int .u8 (zs.getD i 0)))

theorem bytes_open {H : Type} {enc : TypeId × Value → H} {W : World} {base : Nat} {v : Value} {d : DataW H} {p : List MemPlace} {ts : List TypeId} {ds : List (DataW H)} (j : Nat)
    (hval : Value.okWide Tryd.prog W .any base 22 v) (h : DataW.Trod enc Tryd.prog W 0 (fun _ => true) true 22 v d p)
    (hsz : (DataW.weightsEach Tryd.prog ts ds).all (· ≤ reachBytes) = true) (ht : ts[j]? = some 22) (hd : ds[j]? = some d) :
    ∃ a len cap zs, v = .slice a len cap ∧ Bytes W a len cap zs := by
  obtain ⟨a0, len0, cap0, rfl⟩ := okWide_slice Tryd.underlying22 hval
  obtain ⟨fuel, hf⟩ := h
  rcases open_ints Tryd.underlying22 Tryd.underlying5 cells5 hf with ⟨hcs, _⟩ | ⟨x, l, c, zs, hcs, _, hl, hm, hz, hx, hcell, hwz⟩
  · simp [Value.cells] at hcs
    obtain ⟨rfl, rfl, rfl⟩ := hcs
    exact ⟨none, 0, 0, [], rfl, fun i => by simp, rfl, Nat.le_refl _, by omega, .inl ⟨rfl, rfl⟩⟩
  · simp [Value.cells] at hcs
    obtain ⟨rfl, rfl, rfl⟩ := hcs
    simp only [Prod.mk.injEq] at hx
    obtain ⟨rfl, _⟩ := hx
    have hs := sized_slice hsz (j := j) (t := 22) (e := 5) ht hd Tryd.underlying22
    rw [bytes5] at hs
    simp only [if_true] at hz
    simp only [lits, List.length_map, List.length_take, List.length_drop, reachBytes] at hs
    refine ⟨some x, len0, cap0, zs, rfl, fun i => ?_, hz, hl, by omega, .inr ⟨x, rfl, fun i hi => hcell i (by omega)⟩⟩
    have := range_u8 hwz i
    rw [List.getD_eq_getElem?_getD]
    omega

theorem Bytes.row {w : World} {a : Option Addr} {len cap : Nat} {zs : List Int} (h : Bytes w a len cap zs) : Row w a len cap zs := by
  obtain ⟨hb, hz, hl, hm, h⟩ := h
  rcases Nat.eq_zero_or_pos len with h0 | h0
  · exact .inl h0
  · rcases h with ⟨_, h⟩ | ⟨x, rfl, hc⟩
    · omega
    · obtain ⟨b, off, spot⟩ := x
      have hspot : spot = none := by simpa [Addr.add] using World.cell?_spot (hc 0 (by omega))
      subst hspot
      exact .inr ⟨h0, b, off, rfl, hl, by unfold maxLen; omega, fun i hi => by have := hc i (by omega); rwa [Addr.add_lit] at this, hb⟩

theorem Bytes.below {w w' : World} {a : Option Addr} {len cap : Nat} {zs : List Int} (h : Bytes w a len cap zs) (hb : Below w.heap.size w w') : Bytes w' a len cap zs := by
  obtain ⟨h1, h2, h3, h4, h⟩ := h
  refine ⟨h1, h2, h3, h4, ?_⟩
  rcases h with h | ⟨x, rfl, hc⟩
  · exact .inl h
  · exact .inr ⟨x, rfl, fun i hi => (hb.cell (p := x.add i) (World.block_lt_of_cell? _ _ (hc i hi))).trans (hc i hi)⟩

theorem Bytes.sl {w : World} {a : Option Addr} {len cap : Nat} {zs : List Int} (h : Bytes w a len cap zs) : Sl w (.slice a len cap) (zs.take len) := by
  have hr := h.row
  obtain ⟨hb, hz, hl, hm, h⟩ := h
  have hlen : (zs.take len).length = len := by rw [List.length_take]; omega
  have hn : a = none → cap = 0 := fun e => by
    rcases h with ⟨_, h⟩ | ⟨x, hx, _⟩
    · exact h
    · rw [e] at hx; cases hx
  refine ⟨a, cap, by rw [hlen], by rw [hlen]; exact hl, by unfold maxLen; omega, hn, ?_⟩
  rw [hlen]
  rcases hr with h | ⟨hp, b, off, rfl, h1, h2, hc, hz'⟩
  · exact .inl h
  · refine .inr ⟨hp, b, off, rfl, h1, h2, fun i hi => ?_, fun i => ?_⟩
    · rw [hc i hi]; simp [List.getD, hi]
    · by_cases hi : i < len
      · have := hb i
        simpa [List.getD, List.getElem?_take, hi] using this
      · simp [List.getD, List.getElem?_take, hi]


/-- What stands behind a place of a slice that came in. -/
theorem Bytes.drop {w : World} {a : Option Addr} {len cap : Nat} {zs : List Int} (h : Bytes w a len cap zs) (k : Nat) (hk : k ≤ len) :
    (cap = k ∧ Sl w (.slice a 0 0) ((zs.take len).drop k)) ∨ (¬ cap = k ∧ ∃ b off, a = some ⟨b, off, none⟩ ∧ Sl w (.slice (some ⟨b, off + k, none⟩) (len - k) (cap - k)) ((zs.take len).drop k)) := by
  have hs := h.sl
  obtain ⟨hb, hz, hl, hm, h⟩ := h
  by_cases hc : cap = k
  · refine .inl ⟨hc, ?_⟩
    have : (zs.take len).drop k = [] := List.drop_of_length_le (by rw [List.length_take]; omega)
    rw [this]
    exact ⟨a, 0, rfl, Nat.le_refl _, by simp [maxLen], fun _ => rfl, .inl rfl⟩
  · refine .inr ⟨hc, ?_⟩
    rcases h with ⟨_, h⟩ | ⟨x, rfl, hcell⟩
    · omega
    · obtain ⟨b, off, spot⟩ := x
      have hspot : spot = none := by simpa [Addr.add] using World.cell?_spot (hcell 0 (by omega))
      subst hspot
      exact ⟨b, off, rfl, hs.drop k hk⟩
end Go.Proofs.YthcpnhafikojnaaDoor
