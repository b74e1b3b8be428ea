/-
  What a window's In leaves: its bytes and one more; all but the window and its row is as it was.
-/
import Derived.Test.YtlhmpcmlpfffoaaDoorRoWinB
namespace Go.Proofs.YtlhmpcmlpfffoaaDoor.Ro
open Go.RowKit
set_option maxRecDepth 100000

/-- All but block g and the row r is as it was. -/
structure Fr (g : Nat) (r : Option Nat) (w w' : World) : Prop where
  os : w'.os = w.os
  tape : w'.tape = w.tape
  output : w'.output = w.output
  size : w.heap.size ≤ w'.heap.size
  block : ∀ k, k < w.heap.size → k ≠ g → some k ≠ r → w'.heap[k]? = w.heap[k]?

theorem Fr.of {g : Nat} {r : Option Nat} {w w' : World} (h : Below w.heap.size w w') : Fr g r w w' := ⟨h.os, h.tape, h.output, h.size, fun k hk _ _ => h.block k hk⟩
theorem Fr.set (g i : Nat) (r : Option Nat) (w : World) (v : Value) : Fr g r w (w.setCell ⟨g, i, none⟩ v) :=
  ⟨rfl, rfl, rfl, by simp [World.setCell], fun k _ hn _ => heap_setCell_other _ _ _ _ hn⟩
theorem Fr.grown {g : Nat} {r : Option Nat} {w w' : World} (h : w.grownBy w' r) : Fr g r w w' := ⟨h.os, h.tape, h.output, h.size, fun k hk _ hr => h.block k hk hr⟩
theorem Fr.trans {g : Nat} {r : Option Nat} {a b c : World} (h : Fr g r a b) (k : Fr g r b c) : Fr g r a c :=
  ⟨k.os.trans h.os, k.tape.trans h.tape, k.output.trans h.output, Nat.le_trans h.size k.size, fun i hi hn hr => (k.block i (Nat.lt_of_lt_of_le hi h.size) hn hr).trans (h.block i hi hn hr)⟩
/-- The row may be another one on the way, if that is new. -/
theorem Fr.trans' {g : Nat} {r r' : Option Nat} {a b c : World} (h : Fr g r a b) (k : Fr g r' b c) (hr : r' = r ∨ ∀ i, r' = some i → a.heap.size ≤ i) : Fr g r a c :=
  ⟨k.os.trans h.os, k.tape.trans h.tape, k.output.trans h.output, Nat.le_trans h.size k.size, fun i hi hn hr1 => (k.block i (Nat.lt_of_lt_of_le hi h.size) hn (by
    rcases hr with rfl | hr
    · exact hr1
    · intro e
      have := hr i e.symm
      omega)).trans (h.block i hi hn hr1)⟩
theorem Fr.below {g B : Nat} {r : Option Nat} {w w' : World} (h : Fr g r w w') (hB : B ≤ g) (hr : ∀ k, r = some k → B ≤ k) (hw : B ≤ w.heap.size) : Below B w w' :=
  ⟨h.os, h.tape, h.output, h.size, fun k hk => h.block k (by omega) (by omega) (fun e => by have := hr k e.symm; omega)⟩

theorem WinR.apart {w : World} {base g : Nat} {hv : Value} {hs : List Int} {gone : Nat} {zs : List Int} (h : WinR w base g hv hs gone zs) : hv.ownBlock ≠ some g := by
  intro e
  obtain ⟨cur, hc⟩ := own_tag h.2.2.2.2.1 e
  have := h.2.2.2.2.2
  rw [hc] at this
  cases this

theorem own_set {w : World} {base : Nat} {e : TypeId} {size : Nat} {v : Value} {n : Nat} {xs : List Value} (h : w.ownsRow base e size v n xs) (g i : Nat) (u : Value) (hn : v.ownBlock ≠ some g) : (w.setCell ⟨g, i, none⟩ u).ownsRow base e size v n xs := by
  obtain ⟨h1, h2⟩ := h
  rcases h2 with h2 | ⟨k, cap, cur, rfl, hg, hh, r⟩
  · exact ⟨h1, .inl h2⟩
  · refine ⟨h1, .inr ⟨k, cap, cur, rfl, hg, ?_, r⟩⟩
    rw [heap_setCell_other _ _ _ _ (fun e => hn (congrArg some e))]
    exact hh

theorem drop_app (hs : List Int) (gone : Nat) (c : Int) (h : gone ≤ hs.length) : (hs ++ [c]).drop gone = hs.drop gone ++ [c] := List.drop_append_of_le_length h

theorem bytes_app {xs ys : List Int} (hx : ∀ i, 0 ≤ xs.getD i 0 ∧ xs.getD i 0 < 256) (hy : ∀ i, 0 ≤ ys.getD i 0 ∧ ys.getD i 0 < 256) : ∀ i, 0 ≤ (xs ++ ys).getD i 0 ∧ (xs ++ ys).getD i 0 < 256 := by
  intro i
  by_cases h : i < xs.length
  · have := hx i
    simpa [List.getD, List.getElem?_append_left h] using this
  · have := hy (i - xs.length)
    simpa [List.getD, List.getElem?_append_right (show xs.length ≤ i by omega)] using this
theorem bytes_one {c : Int} (h0 : 0 ≤ c) (h1 : c < 256) : ∀ i, 0 ≤ [c].getD i 0 ∧ [c].getD i 0 < 256 := byteList _ (by simp; omega)

theorem st_complex (a : Addr) (x y : Nat) : ∀ (W : World) (m : Mode), (store a (.complex .f64 x y) m).run Tryd.prog W = stored Tryd.prog W a (.complex .f64 x y) m := fun W m => run_store Tryd.prog W a _ m rfl

set_option maxHeartbeats 2000000 in
theorem win_any (base g : Nat) (hv : Value) (zs : List Int) (c : Int) (w : World) (h : Win w base g hv zs) (hbig : zs.length ≤ 1000000) (hc0 : 0 ≤ c) (hc1 : c < 256) :
    Calls Tryd.prog 55 #[.pointer (some ⟨g, 0, none⟩), .int .u8 c] w fun e w' => e = .returned (.tuple #[]) ∧ ∃ hv', Win w' base g hv' (zs ++ [c]) ∧ Fr g hv.ownBlock w w' ∧ (hv'.ownBlock = hv.ownBlock ∨ ∀ k, hv'.ownBlock = some k → w.heap.size ≤ k) := by
  obtain ⟨i0, hi, hz0, hz1, hz2⟩ := info_parts info5'
  obtain ⟨hs, gone, h, h4⟩ := h
  have hap := h.apart
  have hlt := h.lt
  have h' := h
  obtain ⟨a, cap, rfl, h2, h3, c0, c1, c2, hf, sl, own⟩ := h.cells
  obtain ⟨hbg, _, _, hby, _, hh⟩ := h'
  have cw := with_any (pa zs) (pb zs) c w (pa_range _) (pb_range _) ⟨hc0, hc1⟩
  rw [← pa_snoc, ← pb_snoc] at cw
  have f0 := hf 0
  have f1 := hf 1
  obtain ⟨A', hA⟩ : ∃ A', A' = fl (pa (zs ++ [c])) := ⟨_, rfl⟩
  obtain ⟨B', hB⟩ : ∃ B', B' = fl (pb (zs ++ [c])) := ⟨_, rfl⟩
  rw [← hA, ← hB] at cw
  obtain ⟨w1, hw1⟩ : ∃ w1, w1 = w.setCell ⟨g, 0, none⟩ (.complex .f64 A' B') := ⟨_, rfl⟩
  obtain ⟨w2, hw2⟩ : ∃ w2, w2 = w1.alloc (.cells #[.int .u8 c] 5) := ⟨_, rfl⟩
  -- the worlds on the way
  have hh1 : w1.heap[g]? = some (.cells #[.complex .f64 A' B', .slice a hs.length cap, .int .i64 gone] 92 (0, 0)) := by
    rw [hw1, heap_setCell_same _ _ _ _ _ _ hh]; rfl
  have fr1 : Fr g (Value.slice a hs.length cap).ownBlock w w1 := by rw [hw1]; exact Fr.set g 0 _ w _
  have hs1 : w1.heap.size = w.heap.size := by rw [hw1]; simp [World.setCell]
  have bel2 : Below w1.heap.size w1 w2 := by rw [hw2]; exact (Below.refl _ _).alloc (Nat.le_refl _) _
  have own1 : w1.ownsRow base 5 1 (.slice a hs.length cap) hs.length (hs.map (Value.int .u8)) := by rw [hw1]; exact own_set own g 0 _ hap
  have own2 := own_below own1 bel2
  have hh2 : w2.heap[g]? = some (.cells #[.complex .f64 A' B', .slice a hs.length cap, .int .i64 gone] 92 (0, 0)) := (bel2.block g (by omega)).trans hh1
  have d1 : w1.cell? ⟨g, 1, none⟩ = some (.slice a hs.length cap) := by rw [cell_of_row _ _ _ _ _ _ hh1]; rfl
  have sl2 : Sl w2 (.slice (some ⟨w1.heap.size, 0, none⟩) 1 1) [c] := by rw [hw2]; exact sl_one w1 c hc0 hc1
  have news := news_row (xs := [c]) (cap := 1) (x := ⟨w1.heap.size, 0, none⟩) (w := w2) (by obtain ⟨_, _, e, _, _, _, r⟩ := sl2; cases e; exact r)
  have hsz2 : base ≤ w2.heap.size := by have := bel2.size; omega
  have hh3 : ∀ w3, w2.grownBy w3 (Value.slice a hs.length cap).ownBlock → w3.heap[g]? = some (.cells #[.complex .f64 A' B', .slice a hs.length cap, .int .i64 gone] 92 (0, 0)) := fun w3 hg3 => by
    rw [hg3.block g (by have := bel2.size; omega) (fun e => hap e.symm)]; exact hh2
  have FIN : Hid (∀ v' w3, w3.ownsRow base 5 1 v' (hs.length + 1) (hs.map (Value.int .u8) ++ [Value.int .u8 c]) → w2.grownBy w3 (Value.slice a hs.length cap).ownBlock → (v'.ownBlock = (Value.slice a hs.length cap).ownBlock ∨ v'.ownBlock = some w2.heap.size) →
      ∃ hv', Win (w3.setCell ⟨g, 1, none⟩ v') base g hv' (zs ++ [c]) ∧ Fr g (Value.slice a hs.length cap).ownBlock w (w3.setCell ⟨g, 1, none⟩ v') ∧ (hv'.ownBlock = (Value.slice a hs.length cap).ownBlock ∨ ∀ k, hv'.ownBlock = some k → w.heap.size ≤ k)) := by
    intro v' w3 own3 hg3 hat
    have k3 := hh3 w3 hg3
    have hne : v'.ownBlock ≠ some g := by
      intro e
      obtain ⟨cur, hc⟩ := own_tag own3 e
      rw [hc] at k3
      cases k3
    refine ⟨v', ⟨hs ++ [c], gone, ⟨hbg, ?_, ?_, ?_, ?_, ?_⟩, by simp; omega⟩, ?_, ?_⟩
    · rw [drop_app _ _ _ (by omega), ← h2]
    · simp; omega
    · exact bytes_app hby (bytes_one hc0 hc1)
    · rw [List.length_append, List.map_append]
      exact own_set own3 g 1 _ hne
    · rw [heap_setCell_same _ _ _ _ _ _ k3, ← hA, ← hB]; rfl
    · exact (fr1.trans (Fr.of bel2)).trans ((Fr.grown hg3).trans (Fr.set g 1 _ _ _))
    · rcases hat with e | e
      · exact .inl e
      · refine .inr fun k hk => ?_
        rw [e] at hk
        cases hk
        have := bel2.size
        omega
  have HT : Hid (∀ w3, w2.grownBy w3 (Value.slice a hs.length cap).ownBlock → w3.cell? ⟨g, 1, none⟩ = some (.slice a hs.length cap) ∧ w3.frozen? ⟨g, 1, none⟩ = false) := fun w3 hg3 => by
    have k3 := hh3 w3 hg3
    exact ⟨by rw [cell_of_row _ _ _ _ _ _ k3]; rfl, frozen_of_row _ _ _ _ _ k3⟩
  have OWN : Hid (w2.ownsRow base 5 1 (.slice a hs.length cap) hs.length (hs.map (Value.int .u8))) := own2
  have NEWS : Hid (∀ j u, ([c].map (Value.int .u8))[j]? = some u → w2.cell? ((⟨w1.heap.size, 0, none⟩ : Addr).add j) = some u) := news
  have HW1 : Hid (w.setCell ⟨g, 0, none⟩ (.complex .f64 A' B') = w1) := hw1.symm
  have HW2 : Hid (w1.alloc (.cells #[.int .u8 c] 5) = w2) := hw2.symm
  have hm : hs.length ≤ 3000000 := by omega
  clear own1 own2 hh1 hh2 hh3 sl2 news fr1 bel2 hw1 hw2 hf hh sl own h h2 h3 h4 hA hB hbg hby hap hbig c1 c2 hs1
  generalize hs.map (Value.int .u8) = HM at *
  generalize hs.length = L at *
  generalize fl (pa zs) = A at *
  generalize fl (pb zs) = B at *
  have hst := st_complex ⟨g, 0, none⟩ A' B'
  go_enter Tryd.func55, Tryd.ntmps55
  go_wp2_with fail
  refine cw.mono ?_
  rintro e u1 ⟨rfl, rfl⟩
  clear cw
  go_wp2_with (first | (rw [HW2.out]; at_builtin; refine wpList_append_own_at _ rfl _ _ 22 rfl base 5 i0 (.int .u8 0) 1 1 Tryd.underlying22 hi hz0 hz1 hz2 rfl (by decide) _ _ _ rfl OWN.out _ 1 1 ([c].map (Value.int .u8)) rfl rfl NEWS.out (ints_one [c]) (by unfold maxLen; omega) (by omega) hsz2 ?_) | rw [HW1.out])
  intro v' w3 own3 hg3 _ hat
  obtain ⟨t1, t2⟩ := HT.out w3 hg3
  have hF := FIN.out v' w3 own3 hg3 hat
  obtain ⟨a', cap', rfl⟩ := own_shape own3
  have HF : Hid (∃ hv', Win (w3.setCell ⟨g, 1, none⟩ (.slice a' (L + 1) cap')) base g hv' (zs ++ [c]) ∧ Fr g (Value.slice a L cap).ownBlock u1 (w3.setCell ⟨g, 1, none⟩ (.slice a' (L + 1) cap')) ∧ (hv'.ownBlock = (Value.slice a L cap).ownBlock ∨ ∀ k, hv'.ownBlock = some k → u1.heap.size ≤ k)) := hF
  clear hF own3 hg3 hat
  go_wp2_with fail
  go_end0
  exact ⟨rfl, HF.out⟩
end Go.Proofs.YtlhmpcmlpfffoaaDoor.Ro
