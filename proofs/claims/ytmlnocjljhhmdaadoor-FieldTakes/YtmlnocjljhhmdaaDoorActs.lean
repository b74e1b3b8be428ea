/-
  What the walks are told of a slice of calls (a struct of a byte and a number) that came in.
-/
import Derived.Test.YtmlnocjljhhmdaaDoorFrame
namespace Go.Proofs.YtmlnocjljhhmdaaDoor
open Go.ChangeShapes Go.WideShapes Go.ChangeAt Go.RowKit Go.Deep

def Acts (w : World) (a : Option Addr) (len cap : Nat) (K N : Nat → Int) : Prop :=
  len ≤ cap ∧ cap ≤ maxLen ∧ (len = 0 ∨ ∃ b off, a = some ⟨b, off, none⟩ ∧ ∀ i, i < len → w.cell? ⟨b, off + i * 2, none⟩ = some (.int .u8 (K i)) ∧ w.cell? ⟨b, off + i * 2 + 1, none⟩ = some (.int .i64 (N i)) ∧
    0 ≤ K i ∧ K i ≤ 255 ∧ -9223372036854775808 ≤ N i ∧ N i ≤ 9223372036854775807)

theorem cells37 : Tryd.prog.cellsOf 37 = 2 := by kernel_rfl

theorem acts_open {H : Type} {enc : TypeId × Value → H} {W : World} {base : Nat} {v : Value} {d : DataW H} {p : List MemPlace}
    (hval : Value.okWide Tryd.prog W .any base 31 v) (h : DataW.Trod enc Tryd.prog W 0 (fun _ => true) true 31 v d p) :
    ∃ a len cap K N, v = .slice a len cap ∧ Acts W a len cap K N := by
  obtain ⟨a0, len0, cap0, rfl⟩ := okWide_slice Tryd.underlying31 hval
  obtain ⟨fuel, hf⟩ := h
  rcases open_slice_pairs Tryd.underlying31 Tryd.underlying37 cells37 rfl rfl cells5 cells3 hf with ⟨hcs, _⟩ | ⟨x, l, c, m, n, V0, V1, D0, D1, P0, P1, hcs, _, hl, hm, hmm, hx, hall⟩
  · simp [Value.cells] at hcs
    obtain ⟨rfl, rfl, rfl⟩ := hcs
    exact ⟨none, 0, 0, fun _ => 0, fun _ => 0, rfl, Nat.le_refl _, by unfold maxLen; omega, .inl rfl⟩
  · simp [Value.cells] at hcs
    obtain ⟨rfl, rfl, rfl⟩ := hcs
    simp only [if_true] at hmm
    have each : ∀ i, i < m → ∃ k y : Int, V0 i = .int .u8 k ∧ V1 i = .int .i64 y ∧ (Lit.int .u8 k).wf = true ∧ (Lit.int .i64 y).wf = true := by
      intro i hi
      obtain ⟨h0, h1, t0, t1⟩ := hall i hi
      obtain ⟨k, e0, _, w0⟩ := DataW.trod_int Tryd.underlying5 t0
      obtain ⟨y, e1, _, w1⟩ := DataW.trod_int Tryd.underlying3 t1
      exact ⟨k, y, by simpa using e0, by simpa using e1, w0, w1⟩
    refine ⟨some x, len0, cap0, fun i => intOf (V0 i), fun i => intOf (V1 i), rfl, hl, hm, ?_⟩
    rcases Nat.eq_zero_or_pos len0 with h0 | h0
    · exact .inl h0
    · obtain ⟨b, off, spot⟩ := x
      have hspot : spot = none := by simpa [Addr.add] using World.cell?_spot (hall 0 (by omega)).1
      subst hspot
      refine .inr ⟨b, off, rfl, fun i hi => ?_⟩
      obtain ⟨k, y, e0, e1, w0, w1⟩ := each i (by omega)
      obtain ⟨h0, h1, _⟩ := hall i (by omega)
      rw [Addr.add_lit] at h0 h1
      dsimp only
      rw [e0] at h0 ⊢
      rw [e1] at h1 ⊢
      have b0 := bounds_u8 w0
      have b1 := bounds_i64 w1
      exact ⟨h0, h1, b0.1, b0.2, b1.1, b1.2⟩
end Go.Proofs.YtmlnocjljhhmdaaDoor
