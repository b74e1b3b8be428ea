/-
  A window, as the walks read it; what New, Len, Sum, Bytes and Fork answer.
-/
import Derived.Test.YtlhmpcmlpfffoaaDoorRoCut
namespace Go.Proofs.YtlhmpcmlpfffoaaDoor.Ro
open Go.RowKit
set_option maxRecDepth 100000

/-- The window at block g has the row hv of the bytes hs, of which the first ones are gone: zs are left; the row lies in a block of its own, from base on. -/
def WinR (w : World) (base g : Nat) (hv : Value) (hs : List Int) (gone : Nat) (zs : List Int) : Prop :=
  base ≤ g ∧ zs = hs.drop gone ∧ gone + zs.length = hs.length ∧ (∀ i, 0 ≤ hs.getD i 0 ∧ hs.getD i 0 < 256) ∧
    w.ownsRow base 5 1 hv hs.length (hs.map (Value.int .u8)) ∧ w.heap[g]? = some (.cells #[.complex .f64 (fl (pa zs)) (fl (pb zs)), hv, .int .i64 gone] 92 (0, 0))
/-- The window at block g has the bytes zs. -/
def Win (w : World) (base g : Nat) (hv : Value) (zs : List Int) : Prop := ∃ (hs : List Int) (gone : Nat), WinR w base g hv hs gone zs ∧ gone ≤ zs.length

theorem WinR.lt {w : World} {base g : Nat} {hv : Value} {hs : List Int} {gone : Nat} {zs : List Int} (h : WinR w base g hv hs gone zs) : g < w.heap.size := by
  obtain ⟨_, _, _, _, _, hh⟩ := h
  exact (Array.getElem?_eq_some_iff.1 hh).1
theorem Win.lt {w : World} {base g : Nat} {hv : Value} {zs : List Int} (h : Win w base g hv zs) : g < w.heap.size := by
  obtain ⟨_, _, h, _⟩ := h
  exact h.lt

theorem WinR.kept {w w' : World} {base g : Nat} {hv : Value} {hs : List Int} {gone : Nat} {zs : List Int} (h : WinR w base g hv hs gone zs) (hb : Below w.heap.size w w') : WinR w' base g hv hs gone zs := by
  have hg := h.lt
  obtain ⟨h1, h2, h3, h5, h6, hh⟩ := h
  exact ⟨h1, h2, h3, h5, own_below h6 hb, (hb.block g hg).trans hh⟩
theorem Win.kept {w w' : World} {base g : Nat} {hv : Value} {zs : List Int} (h : Win w base g hv zs) (hb : Below w.heap.size w w') : Win w' base g hv zs := by
  obtain ⟨hs, gone, h, h4⟩ := h
  exact ⟨hs, gone, h.kept hb, h4⟩

theorem WinR.bytes {w : World} {base g : Nat} {hv : Value} {hs : List Int} {gone : Nat} {zs : List Int} (h : WinR w base g hv hs gone zs) : ∀ i, 0 ≤ zs.getD i 0 ∧ zs.getD i 0 < 256 := by
  obtain ⟨h1, rfl, h3, h5, h6, hh⟩ := h
  exact bytes_drop hs gone h5
theorem Win.bytes {w : World} {base g : Nat} {hv : Value} {zs : List Int} (h : Win w base g hv zs) : ∀ i, 0 ≤ zs.getD i 0 ∧ zs.getD i 0 < 256 := by
  obtain ⟨hs, gone, h, h4⟩ := h
  exact h.bytes

set_option maxHeartbeats 1000000 in
theorem wnew_any (v : Value) (xs : List Int) (w : World) (sl : Sl w v xs) (hbig : xs.length ≤ 1000000) :
    Calls Tryd.prog 29 #[v] w fun e w' => ∃ g hv, e = .returned (.pointer (some ⟨g, 0, none⟩)) ∧ Win w' w.heap.size g hv xs ∧ Below w.heap.size w w' := by
  have c1 := pair_any v xs w sl
  have c2 := clone_any v xs w sl (by omega)
  have hb := sl.bytes
  have HB : Hid (∀ i, 0 ≤ xs.getD i 0 ∧ xs.getD i 0 < 256) := hb
  clear hb sl hbig
  obtain ⟨A, hA⟩ : ∃ A, A = fl (pa xs) := ⟨_, rfl⟩
  obtain ⟨B, hB⟩ : ∃ B, B = fl (pb xs) := ⟨_, rfl⟩
  have HA : Hid (fl (pa xs) = A) := hA.symm
  have HB' : Hid (fl (pb xs) = B) := hB.symm
  rw [← hA, ← hB] at c1
  clear hA hB
  go_enter Tryd.func29, Tryd.ntmps29
  go_wp2_with fail
  refine c1.mono ?_
  rintro e w1 ⟨rfl, rfl⟩
  clear c1
  go_wp2_with fail
  refine c2.mono ?_
  rintro e w2 ⟨hv, rfl, own, bel⟩
  clear c2
  have HO : Hid (w2.ownsRow w1.heap.size 5 1 hv xs.length (xs.map (Value.int .u8))) := own
  obtain ⟨a, cap, rfl, _⟩ := sl_owned own HB.out
  clear own
  obtain ⟨L, hL⟩ : ∃ L, L = xs.length := ⟨_, rfl⟩
  rw [← hL] at HO
  have HL : Hid (L = xs.length) := hL
  rw [← hL]
  clear hL
  go_wp2_with fail
  go_ret
  refine ⟨_, .slice a L cap, rfl, ⟨xs, 0, ⟨bel.size, rfl, by simp, HB.out, ?_, ?_⟩, by simp⟩, bel.trans ((Below.refl _ _).alloc bel.size _)⟩
  · rw [← HL.out]
    exact own_below HO.out ((Below.refl _ _).alloc (Nat.le_refl _) _)
  · rw [HA.out, HB'.out]
    exact heap_alloc_new _ _

set_option maxHeartbeats 1000000 in
theorem wlen_nil (w : World) : Calls Tryd.prog 65 #[.pointer none] w fun e w' => e = .returned (.int .i64 0) ∧ w' = w := by
  go_enter Tryd.func65, Tryd.ntmps65
  go_wp2
  go_ret
  exact ⟨rfl, rfl⟩
set_option maxHeartbeats 1000000 in
theorem wsum_nil (w : World) : Calls Tryd.prog 52 #[.pointer none] w fun e w' => e = .returned (.int .u32 0) ∧ w' = w := by
  go_enter Tryd.func52, Tryd.ntmps52
  go_wp2
  go_ret
  exact ⟨rfl, rfl⟩
set_option maxHeartbeats 1000000 in
theorem wbytes_nil (w : World) : Calls Tryd.prog 74 #[.pointer none] w fun e w' => e = .returned (.slice none 0 0) ∧ w' = w := by
  go_enter Tryd.func74, Tryd.ntmps74
  go_wp2
  go_ret
  exact ⟨rfl, rfl⟩
set_option maxHeartbeats 1000000 in
theorem win_nil (c : Int) (w : World) : Calls Tryd.prog 55 #[.pointer none, .int .u8 c] w fun e w' => e = .returned (.tuple #[]) ∧ w' = w := by
  go_enter Tryd.func55, Tryd.ntmps55
  go_wp2
  (try simp only [Exit.inBlock, Exit.then]); refine bodyPost_ret (results_none rfl _ _ _) rfl ?_
  exact ⟨rfl, rfl⟩
set_option maxHeartbeats 1000000 in
theorem wout_nil (w : World) : Calls Tryd.prog 54 #[.pointer none] w fun e w' => e = .returned (.tuple #[.int .u8 0, .bool false]) ∧ w' = w := by
  have c := wlen_nil w
  go_enter Tryd.func54, Tryd.ntmps54
  go_wp2_with fail
  refine c.mono ?_
  rintro e w1 ⟨rfl, rfl⟩
  clear c
  go_wp2_with fail
  go_ret2
  exact ⟨rfl, rfl⟩
set_option maxHeartbeats 1000000 in
theorem wroll_nil (c : Int) (w : World) : Calls Tryd.prog 32 #[.pointer none, .int .u8 c] w fun e w' => e = .returned (.bool false) ∧ w' = w := by
  have c := wout_nil w
  go_enter Tryd.func32, Tryd.ntmps32
  go_wp2_with fail
  refine c.mono ?_
  rintro e w1 ⟨rfl, rfl⟩
  clear c
  go_wp2_with fail
  go_ret
  exact ⟨rfl, rfl⟩

/-- What the walks read of a window. -/
theorem WinR.cells {w : World} {base g : Nat} {hv : Value} {hs : List Int} {gone : Nat} {zs : List Int} (h : WinR w base g hv hs gone zs) : ∃ (a : Option Addr) (cap : Nat), hv = .slice a hs.length cap ∧ zs = hs.drop gone ∧ gone + zs.length = hs.length ∧
    w.cell? ⟨g, 0, none⟩ = some (.complex .f64 (fl (pa zs)) (fl (pb zs))) ∧ w.cell? ⟨g, 1, none⟩ = some hv ∧ w.cell? ⟨g, 2, none⟩ = some (.int .i64 gone) ∧
    (∀ i, w.frozen? ⟨g, i, none⟩ = false) ∧ Sl w hv hs ∧ w.ownsRow base 5 1 hv hs.length (hs.map (Value.int .u8)) := by
  obtain ⟨h1, h2, h3, h5, h6, hh⟩ := h
  have sl := sl_owned h6 h5
  have sl' := sl
  obtain ⟨a, cap, rfl, _⟩ := sl
  exact ⟨a, cap, rfl, h2, h3, by rw [cell_of_row _ _ _ _ _ _ hh]; rfl, by rw [cell_of_row _ _ _ _ _ _ hh]; rfl, by rw [cell_of_row _ _ _ _ _ _ hh]; rfl, fun i => frozen_of_row _ _ _ _ _ hh, sl', h6⟩

set_option maxHeartbeats 1000000 in
theorem wlenR_any (base g : Nat) (hv : Value) (hs : List Int) (gone : Nat) (zs : List Int) (w : World) (h : WinR w base g hv hs gone zs) (hbig : hs.length ≤ 3000000) :
    Calls Tryd.prog 65 #[.pointer (some ⟨g, 0, none⟩)] w fun e w' => e = .returned (.int .i64 (zs.length : Nat)) ∧ Below w.heap.size w w' ∧ w'.heap = w.heap := by
  obtain ⟨a, cap, rfl, h2, h3, c0, c1, c2, hf, sl, own⟩ := h.cells
  clear h2 sl own c0 hf h
  generalize zs.length = n at *
  generalize hs.length = m at *
  go_enter Tryd.func65, Tryd.ntmps65
  go_wp2_with fail
  go_quiet (fail)
  go_wp2_with fail
  go_ret
  exact ⟨by go_num, below_drewN (Below.refl _ _) _, rfl⟩
theorem wlen_any (base g : Nat) (hv : Value) (zs : List Int) (w : World) (h : Win w base g hv zs) (hbig : zs.length ≤ 1000000) :
    Calls Tryd.prog 65 #[.pointer (some ⟨g, 0, none⟩)] w fun e w' => e = .returned (.int .i64 (zs.length : Nat)) ∧ Below w.heap.size w w' ∧ w'.heap = w.heap := by
  obtain ⟨hs, gone, h, h4⟩ := h
  exact wlenR_any base g hv hs gone zs w h (by have := h.2.2.1; omega)

set_option maxHeartbeats 1000000 in
theorem wsum_any (base g : Nat) (hv : Value) (zs : List Int) (w : World) (h : Win w base g hv zs) :
    Calls Tryd.prog 52 #[.pointer (some ⟨g, 0, none⟩)] w fun e w' => e = .returned (.int .u32 (rs zs)) ∧ w' = w := by
  obtain ⟨hs, gone, h, h4⟩ := h
  obtain ⟨a, cap, rfl, h2, h3, c0, c1, c2, hf, sl, own⟩ := h.cells
  have c := packp_any zs w
  clear h2 sl own c1 c2 hf h h3 h4
  generalize fl (pa zs) = A at *
  generalize fl (pb zs) = B at *
  generalize rs zs = r at *
  go_enter Tryd.func52, Tryd.ntmps52
  go_wp2_with fail
  refine c.mono ?_
  rintro e w1 ⟨rfl, rfl⟩
  clear c
  go_wp2_with fail
  go_ret
  exact ⟨rfl, rfl⟩

end Go.Proofs.YtlhmpcmlpfffoaaDoor.Ro
