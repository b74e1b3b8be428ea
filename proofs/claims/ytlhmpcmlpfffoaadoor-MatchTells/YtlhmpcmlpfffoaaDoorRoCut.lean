/-
  Slices of bytes changed at one place, laid anew (bytes.Clone).
-/
import Derived.Test.YtlhmpcmlpfffoaaDoorRoRef
import Derived.Test.YtlhmpcmlpfffoaaDoorBa
import Derived.Maps.AppendAt
import Derived.BigQuiet
import Derived.Deep.RegionWith
import Derived.Deep.RegionHeld3
namespace Go.Proofs.YtlhmpcmlpfffoaaDoor.Ro
open Go.RowKit
set_option maxRecDepth 100000

theorem _root_.Go.Proofs.YtlhmpcmlpfffoaaDoor.Sl.set {w : World} {b off L cap : Nat} {Y : List Int} (h : Sl w (.slice (some ⟨b, off, Option.none⟩) L cap) Y) (m : Nat) (hm : m < L) (z : Int) (hz : 0 ≤ z ∧ z < 256) :
    Sl (w.setCell ⟨b, off + m, Option.none⟩ (.int .u8 z)) (.slice (some ⟨b, off, Option.none⟩) L cap) (Y.set m z) := by
  obtain ⟨a', cap', e, h1, h2, h3, h4⟩ := h
  cases e
  have hl : (Y.set m z).length = Y.length := List.length_set ..
  refine ⟨_, cap, by rw [hl], by rw [hl]; exact h1, h2, fun e => (by cases e), ?_⟩
  rw [hl]
  rcases h4 with h | ⟨hp, b', off', e, hlc, hmx, hc, hz'⟩
  · omega
  · cases e
    refine .inr ⟨hp, b, off, rfl, hlc, hmx, fun i hi => ?_, fun i => ?_⟩
    · by_cases him : i = m
      · subst him
        rw [World.cell?_setCell_same _ _ _ (hc i hi)]
        simp [List.getD, hi]
      · rw [World.cell?_setCell_other _ _ _ _ (by intro e; simp at e), hc i hi]
        simp [List.getD, List.getElem?_set_ne (Ne.symm him)]
    · by_cases him : m = i
      · subst him
        simpa [List.getD, List.getElem?_set_self hm] using hz
      · have := hz' i
        simpa [List.getD, List.getElem?_set_ne him] using this

theorem own_empty (w : World) : (w.alloc (.cells #[] 5)).ownsRow w.heap.size 5 1 (.slice (some ⟨w.heap.size, 0, none⟩) 0 0) 0 [] :=
  World.ownsRow_made (base := w.heap.size) (e := 5) (size := 1) w #[] 0 (Nat.le_refl _) (by unfold maxLen; omega) rfl

theorem own_tag {w : World} {B x : Nat} {e : TypeId} {size n : Nat} {v : Value} {xs : List Value} (h : w.ownsRow B e size v n xs) (hx : v.ownBlock = some x) : ∃ cur, w.heap[x]? = some (.cells cur e (0, 0)) := by
  rcases h.2 with ⟨rfl, _⟩ | ⟨g, cap, cur, rfl, _, hh, _⟩
  · cases hx
  · cases hx; exact ⟨cur, hh⟩

theorem sl_one (w : World) (z : Int) (h0 : 0 ≤ z) (h1 : z < 256) : Sl (w.alloc (.cells #[.int .u8 z] 5)) (.slice (some ⟨w.heap.size, 0, none⟩) 1 1) [z] := by
  refine ⟨_, 1, rfl, by simp, by simp [maxLen], (fun e => by cases e), .inr ⟨by simp, w.heap.size, 0, rfl, by simp, by simp [maxLen], fun i hi => ?_, byteList _ (by simp; omega)⟩⟩
  obtain rfl : i = 0 := by simpa using hi
  rw [cell_of_row _ _ _ _ _ _ (heap_alloc_new _ _)]
  rfl

theorem isnil (w : World) : (binOp BinOp.eql 22 (.slice none 0 0) (.slice none 0 0)).run Tryd.prog w = .ok (.bool true) w := by kernel_rfl
theorem notnil (x : Addr) (n c : Nat) (w : World) : (binOp BinOp.eql 22 (.slice (some x) n c) (.slice none 0 0)).run Tryd.prog w = .ok (.bool false) w := by kernel_rfl

set_option maxHeartbeats 1000000 in
/-- What bytes.Clone answers: a slice of its own of the same bytes, nil for nil. -/
theorem clone_any (v : Value) (xs : List Int) (w : World) (h : Sl w v xs) (hbig : xs.length ≤ 200000000000000) :
    Calls Tryd.prog 37 #[v] w fun r w' => ∃ v', r = .returned v' ∧ w'.ownsRow w.heap.size 5 1 v' xs.length (xs.map (Value.int .u8)) ∧ Below w.heap.size w w' := by
  obtain ⟨i0, hi, hz0, hz1, hz2⟩ := info_parts info5'
  obtain ⟨a, cap, rfl, h1, h2, h3, h4⟩ := h
  cases a with
  | none =>
    obtain rfl := h3 rfl
    obtain rfl : xs = [] := List.length_eq_zero_iff.1 (by omega)
    clear h1 h2 h3 h4 hbig
    have hnil := isnil w
    go_enter Tryd.func37, Tryd.ntmps37
    go_wp2
    go_ret
    exact ⟨_, rfl, World.ownsRow_nil _ _ _ _, Below.refl _ _⟩
  | some x =>
    have hown0 : (w.alloc (.cells #[] 5)).ownsRow w.heap.size 5 1 (.slice (some ⟨w.heap.size, 0, none⟩) 0 0) 0 [] := World.ownsRow_made (base := w.heap.size) (e := 5) (size := 1) w #[] 0 (Nat.le_refl _) (by unfold maxLen; omega) rfl
    have hb0 : Below w.heap.size w (w.alloc (.cells #[] 5)) := (Below.refl _ _).alloc (Nat.le_refl _) _
    have hnews := news_row (h4.kept hb0)
    obtain ⟨L, hL⟩ : ∃ L, L = xs.length := ⟨_, rfl⟩
    have HL : Hid (L = xs.length) := hL
    rw [← hL] at hbig h1 ⊢
    clear h3 h4 hL h2
    have hnil := notnil x L cap w
    go_enter Tryd.func37, Tryd.ntmps37
    go_wp2_with (at_builtin; refine wpList_append_own_wide _ rfl _ _ 22 rfl w.heap.size 5 i0 (.int .u8 0) 1 1 Tryd.underlying22 hi hz0 hz1 hz2 rfl (by decide) _ 0 [] rfl hown0 x L cap (xs.map (Value.int .u8)) rfl (by rw [List.length_map, HL.out, Nat.mul_one]) hnews (ints_one xs) (by unfold maxLen; omega) (by omega) (by simp) ?_)
    intro v' w2 hown' hgrow _
    have hbel' : Below w.heap.size w w2 := hb0.grown hgrow (by simp) (own_base hown0)
    try simp only [Nat.zero_add, List.nil_append] at hown'
    clear hown0 hgrow hb0 hnews
    go_wp2
    go_ret
    exact ⟨_, rfl, hown', hbel'⟩

end Go.Proofs.YtlhmpcmlpfffoaaDoor.Ro
