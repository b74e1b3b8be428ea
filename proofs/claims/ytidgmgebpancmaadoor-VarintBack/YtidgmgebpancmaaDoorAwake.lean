/-
  The statements' own 'awake' answers true, and nothing that was there is changed. Condition: the package-level table of widths holds 1, 2, 4, 8.
-/
import Derived.Test.YtidgmgebpancmaaDoorGet
import Derived.Laws.IdiomStrings
namespace Go.Proofs.YtidgmgebpancmaaDoor
open Go.RowKit

theorem Wid.pos {w : World} (h : Wid w) : 0 < w.heap.size := World.block_lt_of_cell? w _ h.1
theorem Wid.below {w w' : World} {B : Nat} (h : Wid w) (hb : Below B w w') (hB : 0 < B) : Wid w' := by
  obtain ⟨c0, c1, c2, c3⟩ := h
  exact ⟨(hb.cell (p := ⟨0, 0, none⟩) hB).trans c0, (hb.cell (p := ⟨0, 1, none⟩) hB).trans c1, (hb.cell (p := ⟨0, 2, none⟩) hB).trans c2, (hb.cell (p := ⟨0, 3, none⟩) hB).trans c3⟩
theorem Wid.alloc {w : World} (h : Wid w) (o : Obj) : Wid (w.alloc o) := h.below ((Below.refl w.heap.size w).alloc (Nat.le_refl _) o) h.pos

/-- Bytes, given as numbers, as a string. -/
def strB (l : List Int) : ByteArray := ⟨(l.map fun n => UInt8.ofNat n.toNat).toArray⟩

theorem conv_any (a : Option Addr) (len cap : Nat) (zs : List Int) (w : World) (hz : len ≤ zs.length) (hr : Row w a len cap zs) :
    (convert 25 9 (.slice a len cap)).run Tryd.prog w = .ok (.string (strB (zs.take len))) w := by
  rcases hr with rfl | ⟨hp, b, off, rfl, hlc, hm, hc, hb⟩
  · cases a with
    | none => rw [run_convert_bytes_string w 25 9 5 none 0 cap Tryd.underlying25 Tryd.underlying5 Tryd.underlying9]; rfl
    | some a => exact run_convert_bytes_back (P := Tryd.prog) w 25 9 5 a cap [] Tryd.underlying25 Tryd.underlying5 Tryd.underlying9 (fun j hj => by simp at hj)
  · have hlen : ((zs.take len).map fun n => UInt8.ofNat n.toNat).length = len := by simp; omega
    have h := run_convert_bytes_back (P := Tryd.prog) w 25 9 5 ⟨b, off, none⟩ cap ((zs.take len).map fun n => UInt8.ofNat n.toNat) Tryd.underlying25 Tryd.underlying5 Tryd.underlying9 (fun j hj => by
      rw [hlen] at hj
      rw [Addr.add_lit, hc j hj]
      have hbj := hb j
      have e : zs.getD j 0 = zs[j]'(by omega) := by simp [List.getD, List.getElem?_eq_getElem (show j < zs.length by omega)]
      rw [e] at hbj ⊢
      simp only [List.getElem_map, List.getElem_take]
      congr 2
      simp only [UInt8.toNat_ofNat']
      omega)
    rw [hlen] at h
    exact h

theorem row_new (w : World) (zs : List Int) (hb : ∀ i, 0 ≤ zs.getD i 0 ∧ zs.getD i 0 < 256) (hm : zs.length ≤ maxLen) :
    Row (w.alloc (.cells (zs.map (Value.int .u8)).toArray 5)) (some ⟨w.heap.size, 0, none⟩) zs.length zs.length zs := by
  rcases Nat.eq_zero_or_pos zs.length with h | h
  · exact .inl h
  · refine .inr ⟨h, w.heap.size, 0, rfl, Nat.le_refl _, hm, fun i hi => ?_, hb⟩
    rw [World.cell?_alloc_at _ _ _ _ rfl]
    simp [hi]

theorem Row.below {w w' : World} {B : Nat} {a : Option Addr} {len cap : Nat} {zs : List Int} (h : Row w a len cap zs) (hb : Below B w w') (hB : ∀ b, a = some b → b.block < B) : Row w' a len cap zs := by
  rcases h with h | ⟨hp, b, off, rfl, hlc, hm, hc, hz⟩
  · exact .inl h
  · exact .inr ⟨hp, b, off, rfl, hlc, hm, fun i hi => (hb.cell (p := ⟨b, off + i, none⟩) (show b < B from hB ⟨b, off, none⟩ rfl)).trans (hc i hi), hz⟩

theorem byteList (zs : List Int) (h : zs.all (fun z => 0 ≤ z && z < 256) = true) : ∀ i, 0 ≤ zs.getD i 0 ∧ zs.getD i 0 < 256 := by
  intro i
  by_cases hi : i < zs.length
  · have := List.all_eq_true.1 h zs[i] (List.getElem_mem hi)
    simp at this
    simpa [List.getD, List.getElem?_eq_getElem hi] using this
  · simp [List.getD, List.getElem?_eq_none (show zs.length ≤ i by omega)]

set_option maxHeartbeats 1000000 in
theorem awake_any (w : World) (hw : Wid w) :
    Calls Tryd.prog 11 #[] w fun e w' => e = .returned (.bool true) ∧ Below w.heap.size w w' := by
  have hp := put_ok 15293 2 w hw rfl (by decide)
  obtain ⟨A, hA⟩ : ∃ A, A = Obj.cells (pbA 15293 2) 5 := ⟨_, rfl⟩
  obtain ⟨B, hB⟩ : ∃ B, B = Obj.cells #[.int .u8 64, .int .u8 37] 5 := ⟨_, rfl⟩
  have w1 : Wid (w.alloc A) := hw.alloc A
  have w2 : Wid ((w.alloc A).alloc B) := w1.alloc B
  have w3 : Wid (((w.alloc A).alloc B).alloc B) := w2.alloc B
  have r2 : Row ((w.alloc A).alloc B) (some ⟨w.heap.size + 1, 0, none⟩) 2 2 [64, 37] := by
    have := row_new (w.alloc A) [64, 37] (byteList _ rfl) (by decide)
    rw [hB]
    simpa using this
  have r3 : Row (((w.alloc A).alloc B).alloc B) (some ⟨w.heap.size + 1 + 1, 0, none⟩) 2 2 [64, 37] := by
    have := row_new ((w.alloc A).alloc B) [64, 37] (byteList _ rfl) (by decide)
    rw [hB]
    rw [hB] at this
    simpa using this
  have r1 : Row (((w.alloc A).alloc B).alloc B) (some ⟨w.heap.size, 0, none⟩) 2 2 [123, 189] := by
    have := row_new w [123, 189] (byteList _ rfl) (by decide)
    have e : A = .cells (([123, 189] : List Int).map (Value.int .u8)).toArray 5 := by rw [hA]; rfl
    rw [← e] at this
    exact this.below (B := w.heap.size + 1) (((Below.refl _ _).alloc (by simp) _).alloc (by simp) _) (fun b hb => by cases hb; simp)
  have cv := conv_any _ 2 2 _ _ (by simp) r1
  have g2 := get_any _ 2 2 _ _ w2 r2
  have g3 := shortest_any _ 2 2 _ _ w3 r3
  have e1 : getN 2 [64, 37] = 37 := by decide
  have e2 : getU 2 [64, 37] = 2 := by decide
  have e3 : getE 2 [64, 37] = 0 := by decide
  have e4 : shN 2 [64, 37] = 0 := by decide
  have e5 : shU 2 [64, 37] = 0 := by decide
  have e6 : shE 2 [64, 37] = 4 := by decide
  have e7 : strB (([123, 189] : List Int).take 2) = ⟨#[123, 189]⟩ := by decide
  rw [e1, e2, e3] at g2
  rw [e4, e5, e6] at g3
  rw [e7] at cv
  have hbel : Below w.heap.size w (((w.alloc A).alloc B).alloc B) := (((Below.refl _ _).alloc (Nat.le_refl _) _).alloc (by simp) _).alloc (by simp; omega) _
  rw [hA, hB] at g2 g3 cv hbel
  clear e1 e2 e3 e4 e5 e6 e7 r1 r2 r3 w1 w2 w3 hA hB A B
  go_enter Tryd.func11, Tryd.ntmps11
  go_wp2_with (first | (go_at_call 12; refine hp.mono ?_; rintro e w' ⟨rfl, rfl⟩) | (go_at_call 16; refine g2.mono ?_; rintro e w' ⟨rfl, rfl⟩) | (go_at_call 18; refine g3.mono ?_; rintro e w' ⟨rfl, rfl⟩))
  go_ret
  exact ⟨rfl, hbel⟩
end Go.Proofs.YtidgmgebpancmaaDoor
