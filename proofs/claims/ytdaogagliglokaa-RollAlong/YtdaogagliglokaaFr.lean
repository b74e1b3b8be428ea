/-
  What the statements of layer 6 share: slices of bytes, and of calls, that came in.
-/
import Derived.Test.YtdaogagliglokaaAw
import Derived.ProofKit
import Derived.OpenShut
import Derived.Carry
import Derived.ChangeOld
import Derived.Deep.DeepHandedRow
import Derived.SizedLaws
import Derived.Deep.SlicePairs
import Derived.LaidLaws
namespace Go.Proofs.Ytdaogagliglokaa
open Go.ChangeShapes Go.WideShapes Go.ChangeAt Go.RowKit Go.Deep

theorem own : ownKnob Try.prog.godebug = none := by kernel_rfl
theorem laidOut : laidOutB Try.prog = true := by kernel_rfl
theorem cells5 : Try.prog.cellsOf 5 = 1 := by kernel_rfl
theorem cells39 : Try.prog.cellsOf 39 = 2 := by kernel_rfl

theorem bytes5 : Try.prog.bytesOf 5 = 1 := by kernel_rfl

/-- What the walks are told of a slice of bytes that came in: it is nil; or it leads to a row of 'cap' cells that hold the bytes zs, the first 'len' of them its own. -/
def Bytes (w : World) (a : Option Addr) (len cap : Nat) (zs : List Int) : Prop :=
  (∀ i, 0 ≤ zs.getD i 0 ∧ zs.getD i 0 < 256) ∧ zs.length = cap ∧ len ≤ cap ∧ cap ≤ 140737488351232 ∧
  ((a = none ∧ cap = 0) ∨ ∃ x, a = some x ∧ ∀ i, i < cap → w.cell? (x.add i) = some (.int .u8 (zs.getD i 0)))

theorem bytes_open {H : Type} {enc : TypeId × Value → H} {W : World} {base : Nat} {v : Value} {d : DataW H} {p : List MemPlace} {ts : List TypeId} {ds : List (DataW H)} (j : Nat)
    (hval : Value.okWide Try.prog W .any base 22 v) (h : DataW.Trod enc Try.prog W 0 (fun _ => true) true 22 v d p)
    (hsz : (DataW.weightsEach Try.prog ts ds).all (· ≤ reachBytes) = true) (ht : ts[j]? = some 22) (hd : ds[j]? = some d) :
    ∃ a len cap zs, v = .slice a len cap ∧ Bytes W a len cap zs := by
  obtain ⟨a0, len0, cap0, rfl⟩ := okWide_slice Try.underlying22 hval
  obtain ⟨fuel, hf⟩ := h
  rcases open_ints Try.underlying22 Try.underlying5 cells5 hf with ⟨hcs, _⟩ | ⟨x, l, c, zs, hcs, _, hl, hm, hz, hx, hcell, hwz⟩
  · simp [Value.cells] at hcs
    obtain ⟨rfl, rfl, rfl⟩ := hcs
    exact ⟨none, 0, 0, [], rfl, fun i => by simp, rfl, Nat.le_refl _, by omega, .inl ⟨rfl, rfl⟩⟩
  · simp [Value.cells] at hcs
    obtain ⟨rfl, rfl, rfl⟩ := hcs
    simp only [Prod.mk.injEq] at hx
    obtain ⟨rfl, _⟩ := hx
    have hs := sized_slice hsz (j := j) (t := 22) (e := 5) ht hd Try.underlying22
    rw [bytes5] at hs
    simp only [if_true] at hz
    simp only [lits, List.length_map, List.length_take, List.length_drop, reachBytes] at hs
    refine ⟨some x, len0, cap0, zs, rfl, fun i => ?_, hz, hl, by omega, .inr ⟨x, rfl, fun i hi => hcell i (by omega)⟩⟩
    have := range_u8 hwz i
    rw [List.getD_eq_getElem?_getD]
    omega

theorem Bytes.row {w : World} {a : Option Addr} {len cap : Nat} {zs : List Int} (h : Bytes w a len cap zs) : Row w a len cap zs := by
  obtain ⟨hb, hz, hl, hm, h⟩ := h
  rcases Nat.eq_zero_or_pos len with h0 | h0
  · exact .inl h0
  · rcases h with ⟨_, h⟩ | ⟨x, rfl, hc⟩
    · omega
    · obtain ⟨b, off, spot⟩ := x
      have hspot : spot = none := by simpa [Addr.add] using World.cell?_spot (hc 0 (by omega))
      subst hspot
      exact .inr ⟨h0, b, off, rfl, hl, by unfold maxLen; omega, fun i hi => by have := hc i (by omega); rwa [Addr.add_lit] at this, hb⟩

theorem Bytes.below {w w' : World} {a : Option Addr} {len cap : Nat} {zs : List Int} (h : Bytes w a len cap zs) (hb : Below w.heap.size w w') : Bytes w' a len cap zs := by
  obtain ⟨h1, h2, h3, h4, h⟩ := h
  refine ⟨h1, h2, h3, h4, ?_⟩
  rcases h with h | ⟨x, rfl, hc⟩
  · exact .inl h
  · exact .inr ⟨x, rfl, fun i hi => (hb.cell (p := x.add i) (World.block_lt_of_cell? _ _ (hc i hi))).trans (hc i hi)⟩

theorem Bytes.sl {w : World} {a : Option Addr} {len cap : Nat} {zs : List Int} (h : Bytes w a len cap zs) : Sl w (.slice a len cap) (zs.take len) := by
  have hr := h.row
  obtain ⟨hb, hz, hl, hm, h⟩ := h
  have hlen : (zs.take len).length = len := by rw [List.length_take]; omega
  have hn : a = none → cap = 0 := fun e => by
    rcases h with ⟨_, h⟩ | ⟨x, hx, _⟩
    · exact h
    · rw [e] at hx; cases hx
  refine ⟨a, cap, by rw [hlen], by rw [hlen]; exact hl, by unfold maxLen; omega, hn, ?_⟩
  rw [hlen]
  rcases hr with h | ⟨hp, b, off, rfl, h1, h2, hc, hz'⟩
  · exact .inl h
  · refine .inr ⟨hp, b, off, rfl, h1, h2, fun i hi => ?_, fun i => ?_⟩
    · rw [hc i hi]; simp [List.getD, hi]
    · by_cases hi : i < len
      · have := hb i
        simpa [List.getD, List.getElem?_take, hi] using this
      · simp [List.getD, List.getElem?_take, hi]


/-- What stands behind a place of a slice that came in. -/
theorem Bytes.drop {w : World} {a : Option Addr} {len cap : Nat} {zs : List Int} (h : Bytes w a len cap zs) (k : Nat) (hk : k ≤ len) :
    (cap = k ∧ Sl w (.slice a 0 0) ((zs.take len).drop k)) ∨ (¬ cap = k ∧ ∃ b off, a = some ⟨b, off, none⟩ ∧ Sl w (.slice (some ⟨b, off + k, none⟩) (len - k) (cap - k)) ((zs.take len).drop k)) := by
  have hs := h.sl
  obtain ⟨hb, hz, hl, hm, h⟩ := h
  by_cases hc : cap = k
  · refine .inl ⟨hc, ?_⟩
    have : (zs.take len).drop k = [] := List.drop_of_length_le (by rw [List.length_take]; omega)
    rw [this]
    exact ⟨a, 0, rfl, Nat.le_refl _, by simp [maxLen], fun _ => rfl, .inl rfl⟩
  · refine .inr ⟨hc, ?_⟩
    rcases h with ⟨_, h⟩ | ⟨x, rfl, hcell⟩
    · omega
    · obtain ⟨b, off, spot⟩ := x
      have hspot : spot = none := by simpa [Addr.add] using World.cell?_spot (hcell 0 (by omega))
      subst hspot
      exact ⟨b, off, rfl, hs.drop k hk⟩

def Acts (w : World) (a : Option Addr) (len cap : Nat) (K N : Nat → Int) : Prop :=
  len ≤ cap ∧ cap ≤ maxLen ∧ (len = 0 ∨ ∃ b off, a = some ⟨b, off, none⟩ ∧ ∀ i, i < len → w.cell? ⟨b, off + i * 2, none⟩ = some (.int .u8 (K i)) ∧ w.cell? ⟨b, off + i * 2 + 1, none⟩ = some (.int .u8 (N i)) ∧
    0 ≤ K i ∧ K i ≤ 255 ∧ 0 ≤ N i ∧ N i ≤ 255)

theorem acts_open {H : Type} {enc : TypeId × Value → H} {W : World} {base : Nat} {v : Value} {d : DataW H} {p : List MemPlace}
    (hval : Value.okWide Try.prog W .any base 35 v) (h : DataW.Trod enc Try.prog W 0 (fun _ => true) true 35 v d p) :
    ∃ a len cap K N, v = .slice a len cap ∧ Acts W a len cap K N := by
  obtain ⟨a0, len0, cap0, rfl⟩ := okWide_slice Try.underlying35 hval
  obtain ⟨fuel, hf⟩ := h
  rcases open_slice_pairs Try.underlying35 Try.underlying39 cells39 rfl rfl cells5 cells5 hf with ⟨hcs, _⟩ | ⟨x, l, c, m, n, V0, V1, D0, D1, P0, P1, hcs, _, hl, hm, hmm, hx, hall⟩
  · simp [Value.cells] at hcs
    obtain ⟨rfl, rfl, rfl⟩ := hcs
    exact ⟨none, 0, 0, fun _ => 0, fun _ => 0, rfl, Nat.le_refl _, by unfold maxLen; omega, .inl rfl⟩
  · simp [Value.cells] at hcs
    obtain ⟨rfl, rfl, rfl⟩ := hcs
    simp only [if_true] at hmm
    have each : ∀ i, i < m → ∃ k y : Int, V0 i = .int .u8 k ∧ V1 i = .int .u8 y ∧ (Lit.int .u8 k).wf = true ∧ (Lit.int .u8 y).wf = true := by
      intro i hi
      obtain ⟨h0, h1, t0, t1⟩ := hall i hi
      obtain ⟨k, e0, _, w0⟩ := DataW.trod_int Try.underlying5 t0
      obtain ⟨y, e1, _, w1⟩ := DataW.trod_int Try.underlying5 t1
      exact ⟨k, y, by simpa using e0, by simpa using e1, w0, w1⟩
    refine ⟨some x, len0, cap0, fun i => intOf (V0 i), fun i => intOf (V1 i), rfl, hl, hm, ?_⟩
    rcases Nat.eq_zero_or_pos len0 with h0 | h0
    · exact .inl h0
    · obtain ⟨b, off, spot⟩ := x
      have hspot : spot = none := by simpa [Addr.add] using World.cell?_spot (hall 0 (by omega)).1
      subst hspot
      refine .inr ⟨b, off, rfl, fun i hi => ?_⟩
      obtain ⟨k, y, e0, e1, w0, w1⟩ := each i (by omega)
      obtain ⟨h0, h1, _⟩ := hall i (by omega)
      rw [Addr.add_lit] at h0 h1
      dsimp only
      rw [e0] at h0 ⊢
      rw [e1] at h1 ⊢
      have b0 := bounds_u8 w0
      have b1 := bounds_u8 w1
      exact ⟨h0, h1, b0.1, b0.2, b1.1, b1.2⟩
end Go.Proofs.Ytdaogagliglokaa
