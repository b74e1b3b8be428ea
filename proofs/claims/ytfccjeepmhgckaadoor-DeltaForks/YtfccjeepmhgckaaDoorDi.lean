/-
  A decoder, plainly and as the walks read it; what New, Made, Rest and Feed answer.
-/
import Derived.Test.YtfccjeepmhgckaaDoorDg
namespace Go.Proofs.YtfccjeepmhgckaaDoor
open Go.RowKit
set_option maxRecDepth 100000

/-- What was taken, in order; what it makes; what is left over. -/
theorem tks_inv (old : Int) : ∀ (n : Nat) (made : Int) (b : List Int) (O : List Xp), b.length ≤ n → 0 ≤ made → made ≤ 65536 → (tks old made b O).1 = 0 →
    ∃ P, (tks old made b O).2.1 = O ++ P ∧ made ≤ (tks old made b O).2.2.1 ∧ (tks old made b O).2.2.1 ≤ 65536 ∧ (tks old made b O).2.2.2.length + P.length ≤ b.length ∧ (∃ k, (tks old made b O).2.2.2 = b.drop k) ∧ (P = [] → (tks old made b O).2.2.2 = b ∧ (tks old made b O).2.2.1 = made) := by
  intro n
  induction n with
  | zero =>
    intro made b O hb h0 h1 h
    obtain rfl : b = [] := List.length_eq_zero_iff.1 (by omega)
    rw [tks_wait (opA_nil old)]
    exact ⟨[], by simp, Int.le_refl _, h1, by simp, ⟨0, rfl⟩, fun _ => ⟨rfl, rfl⟩⟩
  | succ n ih =>
    intro made b O hb h0 h1 h
    cases hk : opA old b with
    | wait =>
      rw [tks_wait hk]
      exact ⟨[], by simp, Int.le_refl _, h1, by simp, ⟨0, rfl⟩, fun _ => ⟨rfl, rfl⟩⟩
    | bad k =>
      rw [tks_bad hk] at h
      exact absurd h (opA_bad hk)
    | op x k =>
      by_cases hm : 65536 - made < mkX x
      · rw [tks_long hk hm] at h
        cases h
      · obtain ⟨hk0, hb0⟩ := opA_some hk
        have hx := mkX_pos x
        rw [tks_op hk hm] at h ⊢
        obtain ⟨P, e1, e2, e3, e4, ⟨j, e5⟩, -⟩ := ih (made + mkX x) (b.drop k) (O ++ [x]) (by rw [List.length_drop]; omega) (by omega) (by omega) h
        rw [List.length_drop] at e4
        exact ⟨x :: P, by rw [e1]; simp, by omega, e3, by rw [List.length_cons]; omega, ⟨k + j, by rw [e5, List.drop_drop]⟩, fun e => by cases e⟩
/-- A decoder. -/
structure Dc where
  old : Int
  made : Int
  rest : List Int
  err : Int
/-- What Feed leaves and answers. -/
def feedP (D : Dc) (b : List Int) : Dc × List Xp × Int :=
  if D.err = 0 then
    (if (tks D.old D.made (D.rest ++ b) []).1 = 0 then (⟨D.old, (tks D.old D.made (D.rest ++ b) []).2.2.1, (tks D.old D.made (D.rest ++ b) []).2.2.2, 0⟩, (tks D.old D.made (D.rest ++ b) []).2.1, 0)
     else (⟨D.old, D.made, D.rest, (tks D.old D.made (D.rest ++ b) []).1⟩, [], (tks D.old D.made (D.rest ++ b) []).1))
  else (D, [], D.err)
theorem feedP_old (D : Dc) (b : List Int) : (feedP D b).1.old = D.old := by
  unfold feedP
  split
  · split <;> rfl
  · rfl
/-- The decoder at block g has the row rv. -/
def DC (w : World) (B g : Nat) (rv : Value) (D : Dc) : Prop :=
  B ≤ g ∧ DB w g D.old D.made rv D.err ∧ (∃ a c, rv = .slice a D.rest.length c) ∧ (D.err = 0 → Ow w B rv D.rest) ∧ (∀ k, rv.ownBlock = some k → B ≤ k ∧ k < w.heap.size) ∧ 0 ≤ D.made ∧ D.made ≤ 65536 ∧ D.old ≤ 9223372036854775807
theorem DC.lt {w : World} {B g : Nat} {rv : Value} {D : Dc} (h : DC w B g rv D) : g < w.heap.size := h.2.1.lt
theorem DC.kept {w w' : World} {B g : Nat} {rv : Value} {D : Dc} (h : DC w B g rv D) (hb : Below w.heap.size w w') : DC w' B g rv D := by
  obtain ⟨h1, h2, h3, h4, h5, h6, h7, h8⟩ := h
  exact ⟨h1, h2.kept hb, h3, fun e => (h4 e).below hb, fun k e => ⟨(h5 k e).1, Nat.lt_of_lt_of_le (h5 k e).2 hb.size⟩, h6, h7, h8⟩
set_option maxHeartbeats 1000000 in
theorem dnew_any (old : Int) (w : World) (ho : old ≤ 9223372036854775807) :
    Calls Tryd.prog 6 #[.int .i64 old] w fun e w' => e = .returned (.pointer (some ⟨w.heap.size, 0, none⟩)) ∧ DC w' w.heap.size w.heap.size (.slice none 0 0) ⟨old, 0, [], 0⟩ ∧ Below w.heap.size w w' := by
  have HB : Hid (Below w.heap.size w (w.alloc (.cells #[.int .i64 old, .int .i64 0, .slice none 0 0, .int .i64 0] 48))) := al_below _ _
  have HD : Hid (DC (w.alloc (.cells #[.int .i64 old, .int .i64 0, .slice none 0 0, .int .i64 0] 48)) w.heap.size w.heap.size (.slice none 0 0) ⟨old, 0, [], 0⟩) :=
    ⟨Nat.le_refl _, heap_alloc_new _ _, ⟨none, 0, rfl⟩, fun _ => Ow.nil _ _, fun k e => (by cases e), Int.le_refl _, by show (0 : Int) ≤ 65536; decide, ho⟩
  clear ho
  go_enter Tryd.func6, Tryd.ntmps6
  go_wp2
  go_ret
  exact ⟨rfl, HD.out, HB.out⟩
set_option maxHeartbeats 1000000 in
theorem made_any (w : World) (B g : Nat) (rv : Value) (D : Dc) (h : DC w B g rv D) :
    Calls Tryd.prog 10 #[.pointer (some ⟨g, 0, none⟩)] w fun e w' => e = .returned (.int .i64 D.made) ∧ w' = w := by
  obtain ⟨k0, k1, k2, k3⟩ := h.2.1.cells
  clear h
  generalize D.made = m at *
  generalize D.old = o at *
  generalize D.err = er at *
  go_enter Tryd.func10, Tryd.ntmps10
  go_wp2
  go_ret
  exact ⟨rfl, rfl⟩
set_option maxHeartbeats 1000000 in
theorem rest_any (w : World) (B g : Nat) (rv : Value) (D : Dc) (h : DC w B g rv D) :
    Calls Tryd.prog 11 #[.pointer (some ⟨g, 0, none⟩)] w fun e w' => e = .returned (.int .i64 (D.rest.length : Nat)) ∧ w' = w := by
  obtain ⟨k0, k1, k2, k3⟩ := h.2.1.cells
  obtain ⟨a, c, rfl⟩ := h.2.2.1
  clear h
  generalize D.made = m at *
  generalize D.old = o at *
  generalize D.err = er at *
  generalize D.rest.length = n at *
  go_enter Tryd.func11, Tryd.ntmps11
  go_wp2
  go_ret
  exact ⟨rfl, rfl⟩
end Go.Proofs.YtfccjeepmhgckaaDoor
