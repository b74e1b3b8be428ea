/-
  What the statements of layer 3 share: the listed table of half bytes gives the walks what they read; slices of bytes that came in.
-/
import Derived.Test.YtkblcabibnnmcaaDoorAw
import Derived.Test.YtkblcabibnnmcaaDoorTie
import Derived.Test.YtkblcabibnnmcaaDoorCards
import Derived.ProofKit
import Derived.OpenShut
import Derived.Carry
import Derived.ChangeOld
import Derived.Deep.DeepHandedRow
import Derived.Lib.LaidTab
import Derived.Stop.LaidErr
import Derived.SizedLaws
import Derived.Deep.Strs
import Derived.Deep.SlicePairs
import Derived.ChangeMaps5
namespace Go.Proofs.YtkblcabibnnmcaaDoor
open Go.ChangeShapes Go.WideShapes Go.ChangeAt Go.RowKit Go.Deep

theorem own : ownKnob Tryd.prog.godebug = none := by kernel_rfl
theorem laidOut : laidOutB Tryd.prog = true := by kernel_rfl
theorem gT0 : Tryd.prog.globalNamed "sumpter/sha.first" = some 0 := by kernel_rfl
theorem tT0 : (Tryd.prog.globals[0]?).map (·.type) = some 55 := by kernel_rfl
theorem gT1 : Tryd.prog.globalNamed "sumpter/sha.rounds" = some 1 := by kernel_rfl
theorem tT1 : (Tryd.prog.globals[1]?).map (·.type) = some 58 := by kernel_rfl
theorem gT2 : Tryd.prog.globalNamed "sumpter/varint.widths" = some 2 := by kernel_rfl
theorem tT2 : (Tryd.prog.globals[2]?).map (·.type) = some 76 := by kernel_rfl
theorem cellsT0 : Tryd.prog.cellsOf 55 = 8 := by kernel_rfl
theorem cellsT1 : Tryd.prog.cellsOf 58 = 64 := by kernel_rfl
theorem cellsT2 : Tryd.prog.cellsOf 76 = 4 := by kernel_rfl
theorem cellsTE : Tryd.prog.cellsOf 54 = 1 := by kernel_rfl
theorem cells3 : Tryd.prog.cellsOf 3 = 1 := by kernel_rfl
theorem cells5 : Tryd.prog.cellsOf 5 = 1 := by kernel_rfl

def firstZ : List Int := (Pl.words Pl.init).map (fun n : Nat => (n : Int))
def roundZ : List Int := Pl.K.map (fun n : Nat => (n : Int))
theorem tab_of {W : World} (h : laidMetH Tryd.prog [("sumpter/varint.widths", Rows.laid_sumpter_varint_widths), ("sumpter/sha.first", Rows.laid_sumpter_sha_first), ("sumpter/sha.rounds", Rows.laid_sumpter_sha_rounds)] W) : Tabs W := by
  have t2 : Lib.TabIs Tryd.prog W "sumpter/varint.widths" .i64 [1, 2, 4, 8] := Lib.tabIs_of_head gT2 tT2 Tryd.underlying76 Tryd.underlying3 cells3 cellsT2 h
  have t0 : Lib.TabIs Tryd.prog W "sumpter/sha.first" .u32 firstZ := Lib.tabIs_of_head gT0 tT0 Tryd.underlying55 Tryd.underlying54 cellsTE cellsT0 (laidMet.tail h)
  have t1 : Lib.TabIs Tryd.prog W "sumpter/sha.rounds" .u32 roundZ := Lib.tabIs_of_head (rest := []) gT1 tT1 Tryd.underlying58 Tryd.underlying54 cellsTE cellsT1 (laidMet.tail (laidMet.tail h))
  refine ⟨⟨fun i hi => ?_, fun i hi => ?_⟩, t2.cell gT2 0 (by decide), t2.cell gT2 1 (by decide), t2.cell gT2 2 (by decide), t2.cell gT2 3 (by decide)⟩
  · rw [t0.cell gT0 i (show i < firstZ.length from hi)]
    have hi2 : i < (Pl.words Pl.init).length := hi
    simp [firstZ, List.getD, List.getElem?_eq_getElem hi2]
  · rw [t1.cell gT1 i (show i < roundZ.length from hi)]
    have hi2 : i < Pl.K.length := hi
    simp [roundZ, List.getD, List.getElem?_eq_getElem hi2]

theorem bytes5 : Tryd.prog.bytesOf 5 = 1 := by kernel_rfl

/-- What the walks are told of a slice of bytes that came in: it is nil; or it leads to a row of 'cap' cells that hold the bytes zs, the first 'len' of them its own. -/
def Bytes (w : World) (a : Option Addr) (len cap : Nat) (zs : List Int) : Prop :=
  (∀ i, 0 ≤ zs.getD i 0 ∧ zs.getD i 0 < 256) ∧ zs.length = cap ∧ len ≤ cap ∧ cap ≤ 140737488351232 ∧
  ((a = none ∧ cap = 0) ∨ ∃ x, a = some x ∧ ∀ i, i < cap → w.cell? (x.add i) = some (.int .u8 (zs.getD i 0)))

theorem bytes_open {H : Type} {enc : TypeId × Value → H} {W : World} {base : Nat} {v : Value} {d : DataW H} {p : List MemPlace} {ts : List TypeId} {ds : List (DataW H)} (j : Nat)
    (hval : Value.okWide Tryd.prog W .any base 22 v) (h : DataW.Trod enc Tryd.prog W 0 (fun _ => true) true 22 v d p)
    (hsz : (DataW.weightsEach Tryd.prog ts ds).all (· ≤ reachBytes) = true) (ht : ts[j]? = some 22) (hd : ds[j]? = some d) :
    ∃ a len cap zs, v = .slice a len cap ∧ Bytes W a len cap zs := by
  obtain ⟨a0, len0, cap0, rfl⟩ := okWide_slice Tryd.underlying22 hval
  obtain ⟨fuel, hf⟩ := h
  rcases open_ints Tryd.underlying22 Tryd.underlying5 cells5 hf with ⟨hcs, _⟩ | ⟨x, l, c, zs, hcs, _, hl, hm, hz, hx, hcell, hwz⟩
  · simp [Value.cells] at hcs
    obtain ⟨rfl, rfl, rfl⟩ := hcs
    exact ⟨none, 0, 0, [], rfl, fun i => by simp, rfl, Nat.le_refl _, by omega, .inl ⟨rfl, rfl⟩⟩
  · simp [Value.cells] at hcs
    obtain ⟨rfl, rfl, rfl⟩ := hcs
    simp only [Prod.mk.injEq] at hx
    obtain ⟨rfl, _⟩ := hx
    have hs := sized_slice hsz (j := j) (t := 22) (e := 5) ht hd Tryd.underlying22
    rw [bytes5] at hs
    simp only [if_true] at hz
    simp only [lits, List.length_map, List.length_take, List.length_drop, reachBytes] at hs
    refine ⟨some x, len0, cap0, zs, rfl, fun i => ?_, hz, hl, by omega, .inr ⟨x, rfl, fun i hi => hcell i (by omega)⟩⟩
    have := range_u8 hwz i
    rw [List.getD_eq_getElem?_getD]
    omega

theorem Bytes.row {w : World} {a : Option Addr} {len cap : Nat} {zs : List Int} (h : Bytes w a len cap zs) : Row w a len cap zs := by
  obtain ⟨hb, hz, hl, hm, h⟩ := h
  rcases Nat.eq_zero_or_pos len with h0 | h0
  · exact .inl h0
  · rcases h with ⟨_, h⟩ | ⟨x, rfl, hc⟩
    · omega
    · obtain ⟨b, off, spot⟩ := x
      have hspot : spot = none := by simpa [Addr.add] using World.cell?_spot (hc 0 (by omega))
      subst hspot
      exact .inr ⟨h0, b, off, rfl, hl, by unfold maxLen; omega, fun i hi => by have := hc i (by omega); rwa [Addr.add_lit] at this, hb⟩

theorem Bytes.below {w w' : World} {a : Option Addr} {len cap : Nat} {zs : List Int} (h : Bytes w a len cap zs) (hb : Below w.heap.size w w') : Bytes w' a len cap zs := by
  obtain ⟨h1, h2, h3, h4, h⟩ := h
  refine ⟨h1, h2, h3, h4, ?_⟩
  rcases h with h | ⟨x, rfl, hc⟩
  · exact .inl h
  · exact .inr ⟨x, rfl, fun i hi => (hb.cell (p := x.add i) (World.block_lt_of_cell? _ _ (hc i hi))).trans (hc i hi)⟩

theorem Bytes.sl {w : World} {a : Option Addr} {len cap : Nat} {zs : List Int} (h : Bytes w a len cap zs) : Sl w (.slice a len cap) (zs.take len) := by
  have hr := h.row
  obtain ⟨hb, hz, hl, hm, h⟩ := h
  have hlen : (zs.take len).length = len := by rw [List.length_take]; omega
  have hn : a = none → cap = 0 := fun e => by
    rcases h with ⟨_, h⟩ | ⟨x, hx, _⟩
    · exact h
    · rw [e] at hx; cases hx
  refine ⟨a, cap, by rw [hlen], by rw [hlen]; exact hl, by unfold maxLen; omega, hn, ?_⟩
  rw [hlen]
  rcases hr with h | ⟨hp, b, off, rfl, h1, h2, hc, hz'⟩
  · exact .inl h
  · refine .inr ⟨hp, b, off, rfl, h1, h2, fun i hi => ?_, fun i => ?_⟩
    · rw [hc i hi]; simp [List.getD, hi]
    · by_cases hi : i < len
      · have := hb i
        simpa [List.getD, List.getElem?_take, hi] using this
      · simp [List.getD, List.getElem?_take, hi]


/-- What stands behind a place of a slice that came in. -/
theorem Bytes.drop {w : World} {a : Option Addr} {len cap : Nat} {zs : List Int} (h : Bytes w a len cap zs) (k : Nat) (hk : k ≤ len) :
    (cap = k ∧ Sl w (.slice a 0 0) ((zs.take len).drop k)) ∨ (¬ cap = k ∧ ∃ b off, a = some ⟨b, off, none⟩ ∧ Sl w (.slice (some ⟨b, off + k, none⟩) (len - k) (cap - k)) ((zs.take len).drop k)) := by
  have hs := h.sl
  obtain ⟨hb, hz, hl, hm, h⟩ := h
  by_cases hc : cap = k
  · refine .inl ⟨hc, ?_⟩
    have : (zs.take len).drop k = [] := List.drop_of_length_le (by rw [List.length_take]; omega)
    rw [this]
    exact ⟨a, 0, rfl, Nat.le_refl _, by simp [maxLen], fun _ => rfl, .inl rfl⟩
  · refine .inr ⟨hc, ?_⟩
    rcases h with ⟨_, h⟩ | ⟨x, rfl, hcell⟩
    · omega
    · obtain ⟨b, off, spot⟩ := x
      have hspot : spot = none := by simpa [Addr.add] using World.cell?_spot (hcell 0 (by omega))
      subst hspot
      exact ⟨b, off, rfl, hs.drop k hk⟩

theorem mapM_each {α β : Type} {f : α → Option β} : ∀ (L : List α) (ys : List β), L.mapM f = some ys → ∀ i ∈ L, ∃ y, f i = some y
  | [], _, _ => fun i hi => by cases hi
  | a :: L, ys, h => by
    rw [List.mapM_cons] at h
    simp only [bind, Option.bind_eq_some_iff, pure, Option.some.injEq] at h
    obtain ⟨y, hy, zs, hz, rfl⟩ := h
    intro i hi
    rcases List.mem_cons.1 hi with rfl | hi
    · exact ⟨y, hy⟩
    · exact mapM_each L zs hz i hi
/-- A sum that came in by value. -/
theorem hash_open {H : Type} {enc : TypeId × Value → H} {W : World} {base : Nat} {v : Value} {d : DataW H} {p : List MemPlace}
    (hval : Value.okWide Tryd.prog W .any base 26 v) (h : DataW.Trod enc Tryd.prog W 0 (fun _ => true) true 26 v d p) :
    ∃ A : List Int, v = .agg (u8s A) ∧ A.length = 32 ∧ Pl.Byt A := by
  simp only [Value.okWide, Tryd.underlying26] at hval
  obtain ⟨cs, rfl, hsz, _⟩ := hval
  have hc : Tryd.prog.cellsOf 26 = 32 := by kernel_rfl
  rw [hc] at hsz
  obtain ⟨fuel, hf⟩ := h
  cases fuel with
  | zero => simp [DataW.trod] at hf
  | succ m =>
    rw [DataW.trod_step] at hf
    unfold DataW.trodStep at hf
    simp only [Tryd.underlying26, Value.cells] at hf
    rw [if_pos (by rw [hc]; simpa using hsz)] at hf
    simp only [Option.map_eq_some_iff] at hf
    obtain ⟨ys, hy, _⟩ := hf
    have cell : ∀ i, i < 32 → ∃ a : Int, cs[i]? = some (.int .u8 a) ∧ (Lit.int .u8 a).wf = true := fun i hi => by
      obtain ⟨y, hyi⟩ := mapM_each _ _ hy i (by simpa using hi)
      obtain ⟨a, ea, _, wa⟩ := DataW.trod_int Tryd.underlying5 hyi
      refine ⟨a, ?_, wa⟩
      rw [cells5, Nat.mul_one] at ea
      have h0 := congrArg (·[0]?) ea
      simpa [List.getElem?_take, List.getElem?_drop] using h0
    refine ⟨cs.toList.map intOf, ?_, by simp [hsz], fun i => ?_⟩
    · congr 1
      apply Array.ext'
      unfold u8s
      rw [List.toList_toArray, List.map_map]
      apply List.ext_getElem?
      intro i
      rcases Nat.lt_or_ge i 32 with hi | hi
      · obtain ⟨a, ha, _⟩ := cell i hi
        rw [List.getElem?_map, Array.getElem?_toList, ha]
        simp [intOf]
      · rw [List.getElem?_eq_none (by simpa [hsz] using hi), List.getElem?_eq_none (by simpa [hsz] using hi)]
    · rcases Nat.lt_or_ge i 32 with hi | hi
      · obtain ⟨a, ha, wa⟩ := cell i hi
        have e : (cs.toList.map intOf).getD i 0 = a := by simp [List.getD, ha, intOf]
        rw [e]
        have := bounds_u8 wa
        omega
      · rw [List.getD, List.getElem?_eq_none (by simpa [hsz] using hi)]; simp
end Go.Proofs.YtkblcabibnnmcaaDoor
