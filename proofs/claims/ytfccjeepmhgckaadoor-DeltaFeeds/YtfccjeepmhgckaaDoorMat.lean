/-
  A slice of slices of bytes that came in.
-/
import Derived.Test.YtfccjeepmhgckaaDoorFr
import Derived.Deep.Matrix
namespace Go.Proofs.YtfccjeepmhgckaaDoor
set_option maxRecDepth 100000
open Go.ChangeShapes Go.WideShapes Go.ChangeAt Go.RowKit Go.Deep

theorem cells22 : Tryd.prog.cellsOf 26 = 1 := by kernel_rfl

/-- What the walks are told of a slice of slices of bytes that came in. -/
def RowsIn (w : World) (a : Option Addr) (len cap : Nat) (ZZ : List (List Int)) : Prop :=
  len ≤ cap ∧ cap ≤ maxLen ∧ ZZ.length = len ∧ (len = 0 ∨ ∃ b off, a = some ⟨b, off, none⟩ ∧ ∀ i, i < len → ∃ v, w.cell? ⟨b, off + i, none⟩ = some v ∧ Sl w v (ZZ.getD i []))

theorem rows_open {H : Type} {enc : TypeId × Value → H} {W : World} {base : Nat} {v : Value} {d : DataW H} {p : List MemPlace}
    (hval : Value.okWide Tryd.prog W .any base 22 v) (h : DataW.Trod enc Tryd.prog W 0 (fun _ => true) true 22 v d p) :
    ∃ a len cap ZZ, v = .slice a len cap ∧ RowsIn W a len cap ZZ := by
  obtain ⟨a0, len0, cap0, rfl⟩ := okWide_slice Tryd.underlying22 hval
  obtain ⟨fuel, hf⟩ := h
  rcases open_int_rows Tryd.underlying22 Tryd.underlying26 Tryd.underlying5 cells22 cells5 hf with ⟨hcs, _⟩ | ⟨x, l, c, A, L, C, Z, hcs, _, hl, hm, _, hc⟩
  · simp [Value.cells] at hcs
    obtain ⟨rfl, rfl, rfl⟩ := hcs
    exact ⟨none, 0, 0, [], rfl, Nat.le_refl _, by unfold maxLen; omega, rfl, .inl rfl⟩
  · simp [Value.cells] at hcs
    obtain ⟨rfl, rfl, rfl⟩ := hcs
    refine ⟨some x, len0, cap0, (List.range len0).map fun r => (Z r).take (L r), rfl, hl, hm, by simp, ?_⟩
    rcases Nat.eq_zero_or_pos len0 with h0 | h0
    · exact .inl h0
    · obtain ⟨b, off, spot⟩ := x
      have hspot : spot = none := by simpa [Addr.add] using World.cell?_spot (hc 0 (by omega)).1
      subst hspot
      refine .inr ⟨b, off, rfl, fun i hi => ?_⟩
      obtain ⟨c1, c2, c3, c4, c5, c6, c7⟩ := hc i (by omega)
      rw [Addr.add_lit] at c1
      have hz : ((List.range len0).map fun r => (Z r).take (L r)).getD i [] = (Z i).take (L i) := by simp [List.getD, hi]
      rw [hz]
      have hlen : ((Z i).take (L i)).length = L i := by rw [List.length_take]; omega
      have hby : ∀ q, 0 ≤ (Z i).getD q 0 ∧ (Z i).getD q 0 < 256 := fun q => by
        have := range_u8 c5 q
        rw [List.getD_eq_getElem?_getD]
        omega
      refine ⟨_, c1, A i, C i, by rw [hlen], by rw [hlen]; exact c2, c3, c6, ?_⟩
      rw [hlen]
      rcases Nat.eq_zero_or_pos (L i) with h1 | h1
      · exact .inl h1
      · cases hA : A i with
        | none => have := c6 hA; omega
        | some y =>
          obtain ⟨yb, yo, ys⟩ := y
          have c8 := (c7 _ hA).2
          have hys : ys = none := by simpa [Addr.add] using World.cell?_spot (c8 0 (by omega))
          subst hys
          refine .inr ⟨h1, yb, yo, rfl, c2, c3, fun q hq => ?_, bytes_take _ _ hby⟩
          have := c8 q (by omega)
          rw [Addr.add_lit] at this
          rw [this]
          simp [List.getD, hq]
end Go.Proofs.YtfccjeepmhgckaaDoor
