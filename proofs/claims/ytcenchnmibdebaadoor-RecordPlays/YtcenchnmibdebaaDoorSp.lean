/-
  What path.Split, Parent, Base and Under answer.
-/
import Derived.Test.YtcenchnmibdebaaDoorNm
namespace Go.Proofs.YtcenchnmibdebaaDoor
open Go.RowKit
set_option maxRecDepth 100000

/-- The library's variable holds some number. -/
def Mx (w : World) : Prop := ∃ m, w.cell? ⟨2, 0, none⟩ = some (.int .i64 m)
theorem Mx.kept {w w' : World} (h : Mx w) (hb : Below w.heap.size w w') : Mx w' := by
  obtain ⟨m, h⟩ := h
  exact ⟨m, (hb.cell (World.block_lt_of_cell? _ _ h)).trans h⟩
/-- A value that is a slice of the texts xs. -/
def SS (w : World) (v : Value) (xs : List ByteArray) : Prop :=
  ∃ a c, v = .slice a xs.length c ∧ xs.length ≤ c ∧ (xs = [] ∨ ∃ b off, a = some ⟨b, off, none⟩ ∧ ∀ (i : Nat) x, xs[i]? = some x → w.cell? ⟨b, off + i, none⟩ = some (.string x))
theorem SS.kept {w w' : World} {v : Value} {xs : List ByteArray} (h : SS w v xs) (hb : Below w.heap.size w w') : SS w' v xs := by
  obtain ⟨a, c, h1, h2, h3⟩ := h
  refine ⟨a, c, h1, h2, ?_⟩
  rcases h3 with h3 | ⟨b, off, h4, h5⟩
  · exact .inl h3
  · exact .inr ⟨b, off, h4, fun i x hx => (hb.cell (World.block_lt_of_cell? _ _ (h5 i x hx))).trans (h5 i x hx)⟩
theorem SS.nil (w : World) : SS w (.slice .none 0 0) [] := ⟨.none, 0, rfl, Nat.le_refl _, .inl rfl⟩
/-- A path's texts. -/
def sps (s : ByteArray) : List ByteArray := (spl (dl s)).map mk
theorem sps_dl (s : ByteArray) : (sps s).map dl = spl (dl s) := by
  unfold sps
  rw [List.map_map]
  have : (dl ∘ mk) = id := by funext l; exact dl_mk l
  rw [this, List.map_id]
theorem sps_len (s : ByteArray) : (sps s).length = (spl (dl s)).length := by unfold sps; simp
theorem split_eq (s : ByteArray) : Lib.splitB ⟨#[47]⟩ 0 (Lib.countB s ⟨#[47]⟩) s = (parts (dl s)).map mk := by
  have h := Lib.splitB_data ⟨#[47]⟩ 0 (Lib.countB s ⟨#[47]⟩) s
  have e : Lib.splitK (⟨#[47]⟩ : ByteArray).data.toList 0 (Lib.countB s ⟨#[47]⟩) s.data.toList = parts (dl s) := splitK_parts (dl s)
  rw [e] at h
  rw [← h, List.map_map]
  have : (mk ∘ fun x : ByteArray => x.data.toList) = id := by funext x; exact mk_dl x
  rw [this, List.map_id]
theorem count_len (s : ByteArray) : Lib.countB s ⟨#[47]⟩ + 1 = ((parts (dl s)).map mk).length := by
  rw [← split_eq, Lib.splitB_all ⟨#[47]⟩ (by decide) 0 _ s rfl]

set_option maxHeartbeats 1000000 in
theorem split_any (s : ByteArray) (w : World) (hm : Mx w) (hs : s.size < 4294967281) :
    Calls Tryd.prog 59 #[.string s] w fun e w' => ∃ v, e = .returned v ∧ SS w' v (sps s) ∧ Below w.heap.size w w' := by
  by_cases h0 : s.toList = []
  · have e : Hid (sps s = []) := by
      unfold Hid sps
      rw [tol] at h0
      rw [h0]
      rfl
    generalize sps s = xs at *
    go_enter Tryd.func59, Tryd.ntmps59
    go_wp2
    go_ret
    refine ⟨_, rfl, ?_, Below.refl _ _⟩
    rw [e.out]
    exact SS.nil w
  · obtain ⟨m, hm⟩ := hm
    have c := Tryd.strings_Split s ⟨#[47]⟩ m w hs hm (by decide)
    have e : Hid (sps s = (parts (dl s)).map mk) := by
      unfold Hid sps spl
      rw [if_neg (by rw [← tol]; exact h0)]
    rw [split_eq, count_len, ← e.out] at c
    clear e
    generalize sps s = xs at *
    have t0 : s.toList.isEmpty = false := by simp [h0]
    have HS : Hid (SS (w.alloc (.cells ((xs.map Value.string).toArray) 9)) (.slice (some ⟨w.heap.size, 0, none⟩) xs.length xs.length) xs) := by
      refine ⟨_, _, rfl, Nat.le_refl _, .inr ⟨_, _, rfl, fun i x hx => ?_⟩⟩
      rw [World.cell?_alloc_new]
      simp [hx]
    have HB : Hid (Below w.heap.size w (w.alloc (.cells ((xs.map Value.string).toArray) 9))) := (Below.refl _ _).alloc (Nat.le_refl _) _
    obtain ⟨n, hn⟩ : ∃ n, n = xs.length := ⟨_, rfl⟩
    rw [← hn] at c HS
    clear h0 hn
    generalize hW : w.alloc (.cells ((xs.map Value.string).toArray) 9) = W at *
    clear hW
    go_enter Tryd.func59, Tryd.ntmps59
    go_wp2_with (go_at_call 76; refine c.mono ?_; rintro e w' ⟨rfl, rfl⟩)
    go_ret
    exact ⟨_, rfl, HS.out, HB.out⟩
theorem lasl_lt (l : List UInt8) : -1 ≤ lasl l ∧ lasl l < l.length := by
  rcases lasl_spec l with ⟨h, _⟩ | ⟨a, b, h1, _, h3⟩
  · omega
  · rw [h3, h1]; simp; omega
theorem par_neg (l : List UInt8) (h : lasl l < 0) : par l = [] := by unfold par; rw [if_pos h]
theorem par_at (s : ByteArray) (i : Nat) (h : lasl (dl s) = i) : s.extract 0 i = mk (par (dl s)) := by
  apply dl_inj
  rw [dl_mk]
  unfold par
  rw [if_neg (by omega), h]
  show (s.extract 0 i).data.toList = _
  rw [Lib.extract_data]
  simp
theorem bas_at (s : ByteArray) (i : Nat) (h : lasl (dl s) + 1 = i) : s.extract i s.size = mk (bas (dl s)) := by
  apply dl_inj
  rw [dl_mk]
  unfold bas
  rw [h]
  show (s.extract i s.size).data.toList = _
  rw [Lib.extract_data]
  simp only [Int.toNat_natCast]
  rw [List.take_of_length_le]
  rw [List.length_drop]
  exact Nat.le_refl _

end Go.Proofs.YtcenchnmibdebaaDoor
