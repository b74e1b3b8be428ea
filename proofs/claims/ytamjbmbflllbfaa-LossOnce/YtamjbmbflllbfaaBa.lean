/-
  Bytes besides: rows of the call's own, strings of bytes compared, slices cut.
-/
import Derived.Test.YtamjbmbflllbfaaBas
import Derived.Test.YtamjbmbflllbfaaOrd
import Derived.Maps.AppendAt
import Derived.Deep.QuietTactic
import Derived.BigQuiet
import Derived.Deep.RegionWith
namespace Go.Proofs.Ytamjbmbflllbfaa
open Go.RowKit
set_option maxRecDepth 100000

theorem own_shape {w : World} {B n : Nat} {e : TypeId} {s : Nat} {v : Value} {xs : List Value} (h : w.ownsRow B e s v n xs) : ∃ a c, v = .slice a n c := by
  rcases h.2 with ⟨rfl, rfl⟩ | ⟨g, cap, cur, rfl, _⟩
  · exact ⟨_, _, rfl⟩
  · exact ⟨_, _, rfl⟩
theorem own_below {w w' : World} {B n s : Nat} {e : TypeId} {v : Value} {xs : List Value} (h : w.ownsRow B e s v n xs) (hb : Below w.heap.size w w') : w'.ownsRow B e s v n xs := by
  obtain ⟨h1, h2⟩ := h
  refine ⟨h1, ?_⟩
  rcases h2 with h2 | ⟨g, cap, cur, hv, hg, hh, r⟩
  · exact .inl h2
  · exact .inr ⟨g, cap, cur, hv, hg, (hb.block g (Array.getElem?_eq_some_iff.1 hh).1).trans hh, r⟩
/-- A row of another kind stays where a row grows. -/
theorem own_apart {w w' : World} {B C n m s t : Nat} {e f : TypeId} {v u : Value} {xs ys : List Value} (h : w.ownsRow B e s v n xs) (k : w.ownsRow C f t u m ys) (hef : e ≠ f) (hg : w.grownBy w' v.ownBlock) : w'.ownsRow C f t u m ys := by
  obtain ⟨k1, k2⟩ := k
  refine ⟨k1, ?_⟩
  rcases k2 with k2 | ⟨g, cap, cur, hv, hgg, hh, r⟩
  · exact .inl k2
  · refine .inr ⟨g, cap, cur, hv, hgg, ?_, r⟩
    refine (hg.block g (Array.getElem?_eq_some_iff.1 hh).1 ?_).trans hh
    intro e2
    rcases h.2 with ⟨rfl, _⟩ | ⟨g', cap', cur', rfl, _, hh', _⟩
    · cases e2
    · cases e2
      rw [hh] at hh'
      simp at hh'
      exact hef hh'.2.symm
theorem strB_toList (X : List Int) : (strB X).toList = X.map fun n => UInt8.ofNat n.toNat := ByteArray.toList_mk _
theorem strB_inj {X Y : List Int} (hX : ∀ i, 0 ≤ X.getD i 0 ∧ X.getD i 0 < 256) (hY : ∀ i, 0 ≤ Y.getD i 0 ∧ Y.getD i 0 < 256) (h : (strB X).toList = (strB Y).toList) : X = Y := by
  rw [strB_toList, strB_toList] at h
  have hl : X.length = Y.length := by have := congrArg List.length h; simpa using this
  refine List.ext_getElem hl fun i h1 h2 => ?_
  have h3 := congrArg (fun l => l[i]?) h
  simp only [List.getElem?_map, List.getElem?_eq_getElem h1, List.getElem?_eq_getElem h2, Option.map_some, Option.some.injEq] at h3
  have h4 := congrArg UInt8.toNat h3
  simp only [UInt8.toNat_ofNat'] at h4
  have h5 := hX i
  have h6 := hY i
  simp only [List.getD, List.getElem?_eq_getElem h1, List.getElem?_eq_getElem h2, Option.getD_some] at h5 h6
  omega
theorem strB_beq {X Y : List Int} (hX : ∀ i, 0 ≤ X.getD i 0 ∧ X.getD i 0 < 256) (hY : ∀ i, 0 ≤ Y.getD i 0 ∧ Y.getD i 0 < 256) : ((strB X).toList == (strB Y).toList) = decide (X = Y) := by
  by_cases h : X = Y
  · subst h; simp
  · rw [decide_eq_false h]
    have : ¬ (strB X).toList = (strB Y).toList := fun e => h (strB_inj hX hY e)
    simpa using this

theorem bytes_take (xs : List Int) (m : Nat) (hx : ∀ i, 0 ≤ xs.getD i 0 ∧ xs.getD i 0 < 256) : ∀ i, 0 ≤ (xs.take m).getD i 0 ∧ (xs.take m).getD i 0 < 256 := by
  intro i
  by_cases hi : i < m
  · have := hx i
    simpa [List.getD, List.getElem?_take, hi] using this
  · simp [List.getD, List.getElem?_take, hi]
theorem bytes_drop (xs : List Int) (m : Nat) (hx : ∀ i, 0 ≤ xs.getD i 0 ∧ xs.getD i 0 < 256) : ∀ i, 0 ≤ (xs.drop m).getD i 0 ∧ (xs.drop m).getD i 0 < 256 := by
  intro i
  have := hx (m + i)
  simpa [List.getD, List.getElem?_drop] using this
theorem Sl.take {w : World} {a : Option Addr} {len cap : Nat} {xs : List Int} (h : Sl w (.slice a len cap) xs) (m : Nat) (hm : m ≤ len) : Sl w (.slice a m cap) (xs.take m) := by
  obtain ⟨a', cap', e, h1, h2, h3, h4⟩ := h
  cases e
  have hlen : (xs.take m).length = m := by rw [List.length_take]; omega
  have hr := h4.cut m (by omega)
  refine ⟨a, cap, by rw [hlen], by rw [hlen]; omega, h2, h3, ?_⟩
  rw [hlen]
  rcases hr with h | ⟨hp, b, off, rfl, h1, h2, hc, hz'⟩
  · exact .inl h
  · refine .inr ⟨hp, b, off, rfl, h1, h2, fun i hi => ?_, bytes_take xs m hz'⟩
    rw [hc i hi]; simp [List.getD, hi]
theorem Sl.drop {w : World} {b off len cap : Nat} {xs : List Int} (h : Sl w (.slice (some ⟨b, off, Option.none⟩) len cap) xs) (n : Nat) (hn : n ≤ len) : Sl w (.slice (some ⟨b, off + n, Option.none⟩) (len - n) (cap - n)) (xs.drop n) := by
  obtain ⟨a', cap', e, h1, h2, h3, h4⟩ := h
  cases e
  have hl : (xs.drop n).length = xs.length - n := List.length_drop ..
  refine ⟨_, cap - n, by rw [hl], by rw [hl]; omega, by omega, fun e => (by cases e), ?_⟩
  rw [hl]
  rcases h4 with h | ⟨hp, b', off', e, hlc, hm, hc, hz⟩
  · exact .inl (by omega)
  · cases e
    rcases Nat.eq_zero_or_pos (xs.length - n) with h0 | h0
    · exact .inl h0
    · refine .inr ⟨h0, b, off + n, rfl, by omega, by omega, fun i hi => ?_, bytes_drop xs n hz⟩
      rw [show off + n + i = off + (n + i) by omega, hc (n + i) (by omega)]
      simp [List.getD, List.getElem?_drop]
end Go.Proofs.Ytamjbmbflllbfaa
