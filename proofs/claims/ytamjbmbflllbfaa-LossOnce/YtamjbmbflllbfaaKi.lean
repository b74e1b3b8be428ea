/-
  What slices.Insert answers where one entry is laid into a row of the call's own.
-/
import Derived.Test.YtamjbmbflllbfaaCs
import Derived.Shelf.Spec.SlicesInsertGrow
namespace Go.Proofs.Ytamjbmbflllbfaa
open Go.RowKit Go.Shelf
set_option maxRecDepth 100000

theorem infoN : (Try.prog.info? 45).map (fun i => (i.zero, i.size, i.bytes)) = some (some (.agg #[.int .i64 0, .int .i64 0]), 2, 16) := by kernel_rfl
theorem lt_of_block {w : World} {b : Nat} {o : Obj} (h : w.heap[b]? = some o) : b < w.heap.size := (Array.getElem?_eq_some_iff.1 h).1

/-- copy, of elements of three cells. -/
theorem run_copy_three (w : World) (dT sT ty elem : TypeId) (b o dLen dCap : Nat) (a : Addr) (sLen sCap : Nat) (cs : List Value) (N : Nat)
    (hu : Try.prog.underlying dT = some (.slice elem)) (hs : (Try.prog.info? elem).map (·.size) = some 2) (hN : N = Nat.min sLen dLen) (hn : cs.length = N * 2)
    (hsrc : ∀ j v, cs[j]? = some v → w.cell? (a.add j) = some v) (hc : ∀ j, j < cs.length → (w.cell? ⟨b, o + j, none⟩).isSome = true) (hf : ∀ j, j < cs.length → w.frozen? ⟨b, o + j, none⟩ = false) (h1 : ∀ v ∈ cs, v.oneCell' = true) :
    (Builtin.copy_ #[dT, sT] ty #[.slice (some ⟨b, o, none⟩) dLen dCap, .slice (some a) sLen sCap]).run Try.prog w = .ok (goInt N) (w.setCells b o cs) := by
  have hl := run_loadCells_list (P := Try.prog) w a cs hsrc
  have hst := run_storeCells_cells (P := Try.prog) b o cs 0 w (by simpa using hc) (by simpa using hf) h1
  cases hq : Try.prog.info? elem with
  | none => simp [hq] at hs
  | some i =>
    have hi : i.size = 2 := by simpa [hq] using hs
    simp [Builtin.copy_, run_underlying hu, Builtin.lenOf, Builtin.firstCells, sizeOf, typeInfo, hq, hi, ← hN, ← hn, hl, hst]
theorem size3 : (Try.prog.info? 45).map (·.size) = some 2 := by
  obtain ⟨i0, hi, _, hz1, _⟩ := info_parts infoN
  rw [hi]; simp [hz1]
/-- What is written into a block, one cell behind the other. -/
theorem setCells_block (b : Nat) : ∀ (vs : List Value) (o : Nat) (w : World) (cur : Array Value) (t : TypeId), w.heap[b]? = some (.cells cur t (0, 0)) → o + vs.length ≤ cur.size →
    ∃ cur' : Array Value, (w.setCells b o vs).heap[b]? = some (.cells cur' t (0, 0)) ∧ cur'.toList = cur.toList.take o ++ vs ++ cur.toList.drop (o + vs.length)
  | [], o, w, cur, t, h, _ => ⟨cur, h, by simp⟩
  | v :: r, o, w, cur, t, h, hl => by
    rw [List.length_cons] at hl
    have h2 : (w.setCell ⟨b, o, none⟩ v).heap[b]? = some (.cells (cur.set! o v) t (0, 0)) := by
      simp only [World.setCell, Array.getElem?_modify, if_true, h]
      simp [Array.set!]
    obtain ⟨cur', h3, h4⟩ := setCells_block b r (o + 1) (w.setCell ⟨b, o, none⟩ v) (cur.set! o v) t h2 (by simp; omega)
    refine ⟨cur', h3, ?_⟩
    rw [h4]
    simp only [Array.toList_set!, List.length_cons]
    rw [show o + (r.length + 1) = o + 1 + r.length by omega]
    have e0 : cur.toList.set o v = (cur.toList.take o ++ [v]) ++ cur.toList.drop (o + 1) := by
      rw [List.set_eq_take_append_cons_drop, if_pos (by simp; omega)]
      simp
    have e1 : (cur.toList.set o v).take (o + 1) = cur.toList.take o ++ [v] := by
      rw [e0]
      exact List.take_left' (by rw [List.length_append, List.length_take, List.length_singleton]; simp; omega)
    have e2 : (cur.toList.set o v).drop (o + 1 + r.length) = cur.toList.drop (o + 1 + r.length) := by
      rw [List.drop_set_of_lt (by omega)]
    rw [e1, e2]
    simp
theorem setCells_other (b : Nat) : ∀ (vs : List Value) (o : Nat) (w : World) (k : Nat), k ≠ b → (w.setCells b o vs).heap[k]? = w.heap[k]?
  | [], _, _, _, _ => rfl
  | v :: r, o, w, k, h => by
    rw [World.setCells, setCells_other b r (o + 1) _ k h]
    exact Below.heap_setCell _ _ _ _ h
theorem setCells_size (b : Nat) : ∀ (vs : List Value) (o : Nat) (w : World), (w.setCells b o vs).heap.size = w.heap.size ∧ (w.setCells b o vs).os = w.os ∧ (w.setCells b o vs).tape = w.tape ∧ (w.setCells b o vs).output = w.output
  | [], _, _ => ⟨rfl, rfl, rfl, rfl⟩
  | v :: r, o, w => by
    rw [World.setCells]
    obtain ⟨a, b, c, d⟩ := setCells_size b r (o + 1) (w.setCell ⟨b, o, none⟩ v)
    exact ⟨by rw [a]; simp [World.setCell], b, c, d⟩
/-- Where two lists lie in unlike blocks they do not overlap. -/
theorem apart_any (w : World) (h g o lb cb : Nat) (cur x : Array Value) (hg : w.heap[g]? = some (.cells cur 45 (0, 0))) (hh : w.heap[h]? = some (.cells x 45 (0, 0))) (hne : h ≠ g) (h0 : cur.size ≠ 0) :
    (callFunc 68 #[.slice (some ⟨h, 0, none⟩) 1 1, .slice (some ⟨g, o, none⟩) lb cb]).run Try.prog w = .ok (.value (.bool false)) w := by
  have hsa : w.shape? h = some (45, x.size) := by simp [World.shape?, hh]
  have hsb : w.shape? g = some (45, cur.size) := by simp [World.shape?, hg]
  have hfa : w.frozen? ⟨h, 0, none⟩ = false := by simp [World.frozen?, hh]
  have hfe : w.frozen? ⟨h, x.size, none⟩ = false := by simp [World.frozen?, hh]
  rw [run_callFunc_extern Try.func68 (by kernel_rfl) (by kernel_rfl) (by kernel_rfl) (e := Extern.SlicesOverlaps.overlaps #[35, 35] #[4]) (by kernel_rfl),
    Lib.run_overlaps_apart w 35 4 45 Try.underlying35 2 Try.sizeOf45 ⟨h, 0, none⟩ ⟨g, o, none⟩ 1 1 lb cb hne _ _ _ _ hsa hsb h0 hfa hfe]
  rfl
end Go.Proofs.Ytamjbmbflllbfaa
