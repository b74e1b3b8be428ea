/-
  Rows of spans written, cell by cell.
-/
import Derived.Test.YtamjbmbflllbfaaKm
import Derived.Test.YtamjbmbflllbfaaR2
import Derived.Deep.AppendSrc
import Derived.Deep.RegionLaw
import Derived.Lib.SliceRun
namespace Go.Proofs.Ytamjbmbflllbfaa
open Go.RowKit Go.Shelf
set_option maxRecDepth 100000

/-- A list with other cells from a place on. -/
def upd (o : Nat) (xs L : List Value) : List Value := L.take o ++ xs ++ L.drop (o + xs.length)
theorem upd_len {o : Nat} {xs L : List Value} (h : o + xs.length ≤ L.length) : (upd o xs L).length = L.length := by
  unfold upd
  rw [List.length_append, List.length_append, List.length_take, List.length_drop]
  omega
theorem upd_take {o : Nat} {xs L : List Value} (h : o ≤ L.length) : (upd o xs L).take (o + xs.length) = L.take o ++ xs := by
  unfold upd
  exact List.take_left' (by rw [List.length_append, List.length_take]; omega)
theorem upd_lo {o k : Nat} {xs L : List Value} (hk : k ≤ o) (h : o ≤ L.length) : (upd o xs L).take k = L.take k := by
  unfold upd
  rw [List.append_assoc, List.take_append_of_le_length (by rw [List.length_take]; omega), List.take_take, Nat.min_eq_left hk]
theorem upd_drop {o : Nat} {xs L : List Value} (h : o ≤ L.length) : (upd o xs L).drop o = xs ++ L.drop (o + xs.length) := by
  unfold upd
  rw [List.append_assoc]
  exact List.drop_left' (by rw [List.length_take]; omega)
theorem upd_block (b : Nat) (vs : List Value) (o : Nat) (w : World) (L : List Value) (t : TypeId) (h : w.heap[b]? = some (.cells L.toArray t (0, 0))) (hl : o + vs.length ≤ L.length) :
    (w.setCells b o vs).heap[b]? = some (.cells (upd o vs L).toArray t (0, 0)) := by
  obtain ⟨cur', h1, h2⟩ := setCells_block b vs o w L.toArray t h (by simpa using hl)
  rw [h1]
  congr 2
  apply Array.ext'
  rw [h2]
  rfl
theorem setCells_heap (b : Nat) : ∀ (vs : List Value) (o : Nat) (V W : World), V.heap = W.heap → (V.setCells b o vs).heap = (W.setCells b o vs).heap
  | [], _, _, _, h => h
  | v :: r, o, V, W, h => by
    rw [World.setCells, World.setCells]
    refine setCells_heap b r (o + 1) _ _ ?_
    simp only [World.setCell, h]
/-- What is laid in the place of others: bytes of another block, or nothing. -/
def Sr (w : World) (g : Nat) (u : Value) (m : Nat) (vs : List Value) : Prop := vs.length = m * 2 ∧ (∀ y ∈ vs, y.oneCell' = true) ∧
  ((u = .slice none 0 0 ∧ m = 0) ∨ ∃ h mc, ∃ xs : Array Value, u = .slice (some ⟨h, 0, none⟩) m mc ∧ w.heap[h]? = some (.cells xs 45 (0, 0)) ∧ h ≠ g ∧ (∀ (j : Nat) y, vs[j]? = some y → xs[j]? = some y) ∧ xs.size ≠ 0)
theorem src_of {W : World} {h mc m : Nat} {xs : Array Value} {vs : List Value} (hl : vs.length = m * 2) (h1 : ∀ y ∈ vs, y.oneCell' = true) (hh : W.heap[h]? = some (.cells xs 45 (0, 0))) (hc : ∀ (j : Nat) y, vs[j]? = some y → xs[j]? = some y) : Src Try.prog 2 35 (.slice (some ⟨h, 0, none⟩) m mc) m vs W := by
  have q : ∀ V : World, V.heap = W.heap → (Builtin.firstCells 2 m (.slice (some ⟨h, 0, none⟩) m mc)).run Try.prog V = .ok vs.toArray V := fun V hV =>
    run_firstCells_some V 2 m ⟨h, 0, none⟩ m mc vs hl (fun j y hj => by
      rw [Addr.add_lit, Nat.zero_add]
      unfold World.cell?
      rw [hV, hh]
      exact hc j y hj)
  exact ⟨.inl ⟨_, Try.underlying35⟩, fun _ => rfl, q W rfl, q W.drew rfl, hl, h1⟩
theorem Sr.src {w W : World} {g : Nat} {u : Value} {m : Nat} {vs : List Value} (h : Sr w g u m vs) (hW : ∀ k, k ≠ g → k < w.heap.size → W.heap[k]? = w.heap[k]?) : Src Try.prog 2 35 u m vs W := by
  obtain ⟨h1, h2, ⟨rfl, rfl⟩ | ⟨k, mc, xs, rfl, h3, h4, h5, _⟩⟩ := h
  · obtain rfl : vs = [] := List.length_eq_zero_iff.1 (by omega)
    exact Src.ofNil W Try.underlying35 0
  · exact src_of h1 h2 ((hW k h4 (lt_of_block h3)).trans h3) h5
theorem Sr.shape {w : World} {g : Nat} {u : Value} {m : Nat} {vs : List Value} (h : Sr w g u m vs) : ∃ a c, u = .slice a m c := by
  obtain ⟨_, _, ⟨rfl, rfl⟩ | ⟨k, mc, xs, rfl, _⟩⟩ := h
  · exact ⟨_, _, rfl⟩
  · exact ⟨_, _, rfl⟩
/-- copy, of whatever source. -/
theorem run_copy_src (W : World) (ty : TypeId) (b o dLen dCap : Nat) (u : Value) (m : Nat) (vs : List Value) (hs : Src Try.prog 2 35 u m vs W) (hu : ∃ a c, u = .slice a m c) (hm : m ≤ dLen)
    (hc : ∀ j, j < vs.length → (W.cell? ⟨b, o + j, none⟩).isSome = true) (hf : ∀ j, j < vs.length → W.frozen? ⟨b, o + j, none⟩ = false) :
    (Builtin.copy_ #[35, 35] ty #[.slice (some ⟨b, o, none⟩) dLen dCap, u]).run Try.prog W = .ok (goInt m) (W.setCells b o vs) := by
  have hst := run_storeCells_cells (P := Try.prog) b o vs 0 W (by simpa using hc) (by simpa using hf) hs.one
  simp only [Nat.add_zero] at hst
  obtain ⟨a, c, rfl⟩ := hu
  have hcl := hs.cells
  have hN : m.min dLen = m := Nat.min_eq_left hm
  cases hq : Try.prog.info? 45 with
  | none => have := size3; simp [hq] at this
  | some i =>
    have hi : i.size = 2 := by have := size3; simpa [hq] using this
    simp [Builtin.copy_, run_underlying Try.underlying35, Builtin.lenOf, sizeOf, typeInfo, hq, hi, hN, hcl, hst]
/-- Noughts. -/
def zs (k : Nat) : List Value := (Builtin.zeroCells (Value.agg #[.int .i64 0, .int .i64 0]).cells k).toList
theorem zs_len (k : Nat) : (zs k).length = k * 2 := by
  unfold zs
  rw [Array.length_toList]
  exact zero3 k
theorem zs_one (k : Nat) : ∀ y ∈ zs k, y.oneCell' = true := fun y hy => by
  unfold zs Builtin.zeroCells at hy
  rw [Array.toList_map] at hy
  obtain ⟨i, _, rfl⟩ := List.mem_map.1 hy
  rcases Nat.mod_two_eq_zero_or_one i with h | h <;> simp [Value.cells, h, Value.oneCell']
theorem run_clear_k (w : World) (ty : TypeId) (b o k c : Nat) (hc : ∀ j, j < k * 2 → (w.cell? ⟨b, o + j, none⟩).isSome = true) (hf : ∀ j, j < k * 2 → w.frozen? ⟨b, o + j, none⟩ = false) :
    (Builtin.clear_ #[35] ty #[.slice (some ⟨b, o, none⟩) k c]).run Try.prog w = .ok (.tuple #[]) (w.setCells b o (zs k)) := by
  have hst := run_storeCells_cells (P := Try.prog) b o (zs k) 0 w (by rw [zs_len]; simpa using hc) (by rw [zs_len]; simpa using hf) (zs_one k)
  simp only [Nat.add_zero] at hst
  cases k with
  | zero =>
    have e : zs 0 = [] := List.length_eq_zero_iff.1 (by rw [zs_len])
    rw [e]
    simp [Builtin.clear_, run_underlying Try.underlying35, World.setCells]
  | succ k =>
    unfold zs at hst ⊢
    simp [Builtin.clear_, run_underlying Try.underlying35, hst]
end Go.Proofs.Ytamjbmbflllbfaa
