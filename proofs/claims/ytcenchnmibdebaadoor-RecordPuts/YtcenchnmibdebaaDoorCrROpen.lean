/-
  What the document's Seal and Open answer: just the bytes that crc's do; nothing that was there is changed.
-/
import Derived.Test.YtcenchnmibdebaaDoorCrK
import Derived.Test.YtcenchnmibdebaaDoorBa
import Derived.Test.YtcenchnmibdebaaDoorBa
import Derived.Deep.RegionHeld3
namespace Go.Proofs.YtcenchnmibdebaaDoor.Cr
open Go.RowKit
set_option maxRecDepth 100000

theorem own_below {w w' : World} {base : Nat} {e : TypeId} {size : Nat} {v : Value} {n : Nat} {xs : List Value} (h : w.ownsRow base e size v n xs) (hb : Below w.heap.size w w') : w'.ownsRow base e size v n xs := by
  obtain ⟨h1, h2⟩ := h
  rcases h2 with h2 | ⟨g, cap, cur, hv, hg, hh, r⟩
  · exact ⟨h1, .inl h2⟩
  · exact ⟨h1, .inr ⟨g, cap, cur, hv, hg, by rw [hb.block g (Array.getElem?_eq_some_iff.1 hh).1]; exact hh, r⟩⟩

theorem own_empty (w : World) : (w.alloc (.cells #[] 5)).ownsRow w.heap.size 5 1 (.slice (some ⟨w.heap.size, 0, none⟩) 0 0) 0 [] :=
  World.ownsRow_made (base := w.heap.size) (e := 5) (size := 1) w #[] 0 (Nat.le_refl _) (by unfold maxLen; omega) rfl

theorem leB_len (c : Nat) : (leB c).length = 4 := rfl
theorem seal_bytes {xs : List Int} (h : ∀ i, 0 ≤ xs.getD i 0 ∧ xs.getD i 0 < 256) : ∀ i, 0 ≤ (xs ++ leB (sumOf xs)).getD i 0 ∧ (xs ++ leB (sumOf xs)).getD i 0 < 256 := by
  have := bytes_flat [xs, leB (sumOf xs)] (by
    intro Z hZ
    simp at hZ
    rcases hZ with rfl | rfl
    · exact h
    · exact leB_bytes _)
  simpa using this
set_option maxHeartbeats 1000000 in
theorem rseal_any (v : Value) (xs : List Int) (w : World) (sl : Sl w v xs) (hbig : xs.length ≤ 100000000000000) :
    Calls Tryd.prog 25 #[v] w fun r w' => ∃ v', r = .returned v' ∧ Sl w' v' (xs ++ leB (sumOf xs)) ∧ Below w.heap.size w w' := by
  have hown0 := own_empty w
  have hb0 : Below w.heap.size w (w.alloc (.cells #[] 5)) := (Below.refl _ _).alloc (Nat.le_refl _) _
  have sl0 := sl.kept hb0
  have hsb := seal_bytes sl.bytes
  have HSB : Hid (∀ i, 0 ≤ (xs ++ leB (sumOf xs)).getD i 0 ∧ (xs ++ leB (sumOf xs)).getD i 0 < 256) := hsb
  have HSL : Hid (∀ w', Below w.heap.size w w' → Sl w' v xs) := fun w' hb => sl.kept hb
  clear hsb
  obtain ⟨a, cap, rfl, _⟩ := id sl
  clear sl
  generalize hC : sumOf xs = C at *
  have HC : Hid (sumOf xs = C) := hC
  clear hC
  go_enter Tryd.func25, Tryd.ntmps25
  go_wp2_with (at_builtin; refine wpList_append_sl rfl _ _ rfl w.heap.size _ _ _ rfl hown0 _ xs rfl sl0 (by omega) (by simp) ?_)
  intro v1 w1 own1 hgrow
  have B1 : Below w.heap.size w w1 := hb0.grown hgrow (by simp) (own_base hown0)
  have c1 := rof_any _ xs w1 (HSL.out _ B1)
  rw [HC.out] at c1
  have c2 := rbytes_any C w1
  clear hown0 hgrow hb0 sl0 HSL
  have HL : Hid (xs.length ≤ 100000000000000) := hbig
  have HO : Hid (w1.ownsRow w.heap.size 5 1 v1 xs.length (xs.map (Value.int .u8))) := own1
  clear own1
  go_wp2_with fail
  refine c1.mono ?_
  rintro e w2 ⟨rfl, e2⟩
  rw [e2]
  clear c1 e2
  go_wp2_with fail
  refine c2.mono ?_
  rintro e w3 ⟨v3, rfl, sl3, bel3⟩
  clear c2
  have hob := own_base HO.out
  have own3 : w3.ownsRow w.heap.size 5 1 v1 xs.length (xs.map (Value.int .u8)) := own_below HO.out bel3
  have B3 : Below w.heap.size w w3 := B1.trans (bel3.mono B1.size)
  obtain ⟨a3, cap3, rfl, _⟩ := id sl3
  go_wp2_with (at_builtin; refine wpList_append_sl rfl _ _ rfl w.heap.size _ _ _ rfl own3 _ (leB C) rfl sl3 (by rw [leB_len]; omega) B3.size ?_)
  intro v4 w4 own4 hgrow
  have B4 : Below w.heap.size w w4 := B3.grown hgrow B3.size hob
  have HS : Hid (Sl w4 v4 (xs ++ leB C)) := sl_owned (n := xs.length + (leB C).length) (by rw [List.map_append]; exact own4) HSB.out
  clear own3 own4 hgrow sl3 bel3 hob B3 B1
  go_wp2
  go_ret
  exact ⟨_, rfl, HS.out, B4⟩

end Go.Proofs.YtcenchnmibdebaaDoor.Cr
