/-
  What the document's Light and SameEntry answer.
-/
import Derived.Test.YtajcabfeabbknaaGreatDoorSm
namespace Go.Proofs.YtajcabfeabbknaaGreatDoor
open Go.RowKit

/-- An answer that, if it is true, tells G; the world is as it was. -/
def LR (G : Prop) (w : World) (e : Ending) (w' : World) : Prop := ∃ r, e = .returned (.bool r) ∧ w' = w ∧ (r = true → G)
theorem LR.no (G : Prop) (w : World) : LR G w (.returned (.bool false)) w := ⟨false, rfl, rfl, fun h => by cases h⟩
theorem LR.yes {G : Prop} (w : World) (h : G) : LR G w (.returned (.bool true)) w := ⟨true, rfl, rfl, fun _ => h⟩
set_option maxHeartbeats 2000000 in
theorem light_any (v : Value) (l : List En) (most bytes : Nat) (w : World) (h : ES w v l) (hb : bytes ≤ 100000) (hmo : most ≤ 100000) (hl9 : l.length ≤ 9223372036854775807) :
    Calls Tryz.prog 13 #[v, .int .i64 most, .int .i64 bytes] w (LR (l.length ≤ most ∧ ∀ x ∈ l, x.p.size ≤ 1000 ∧ x.z.length ≤ bytes) w) := by
  obtain ⟨a, c, rfl, g2, g3, _⟩ := h.shape
  have HS : Hid (ES w (.slice a l.length c) l) := h
  have HD : Hid (l.length ≤ most → (∀ k, k < l.length → (atE l k).p.size ≤ 1000 ∧ (atE l k).z.length ≤ bytes) → l.length ≤ most ∧ ∀ x ∈ l, x.p.size ≤ 1000 ∧ x.z.length ≤ bytes) := fun h1 h2 => ⟨h1, fun x hx => by
    obtain ⟨i, hi, rfl⟩ := List.getElem_of_mem hx
    have := h2 i hi
    rwa [atE_eq l i hi] at this⟩
  obtain ⟨G, hG⟩ : ∃ G : Prop, G = (l.length ≤ most ∧ ∀ x ∈ l, x.p.size ≤ 1000 ∧ x.z.length ≤ bytes) := ⟨_, rfl⟩
  rw [← hG] at HD ⊢
  clear hG
  obtain ⟨n, hn'⟩ : ∃ n, n = l.length := ⟨_, rfl⟩
  have HN : Hid (n = l.length) := hn'
  rw [← hn'] at HS HD g2 hl9 ⊢
  clear h hn' g3
  by_cases hlong : most < n
  · have h1 : (most : Int) < (n : Int) := by omega
    clear HD HS
    go_enter Tryz.func13, Tryz.ntmps13
    go_wp2
    go_ret
    exact LR.no _ _
  have h1 : ¬ (most : Int) < (n : Int) := by omega
  have HD2 : Hid ((∀ k, k < n → (atE l k).p.size ≤ 1000 ∧ (atE l k).z.length ≤ bytes) → G) := HD.out (by omega)
  clear HD
  go_enter Tryz.func13, Tryz.ntmps13
  go_wp2
  go_loop [7, 8] (fun s q => ∃ j t : Nat, j ≤ n ∧ q = .int .i64 j ∧ s = .int .i64 t ∧ t ≤ bytes ∧ ∀ k, k < j → (atE l k).p.size ≤ 1000 ∧ (atE l k).z.length ≤ bytes) (fun _ q => n - (intOf q).toNat)
  case atStart => exact ⟨0, 0, by omega, rfl, rfl, by omega, fun k hk => by omega⟩
  case round =>
    obtain ⟨j, t, hj, rfl, rfl, ht, ok⟩ := hrel
    have OK : Hid (∀ k, k < j → (atE l k).p.size ≤ 1000 ∧ (atE l k).z.length ≤ bytes) := ok
    clear ok
    by_cases hlt : j < n
    · have lt2 : (j : Int) < (n : Int) := by omega
      obtain ⟨b, off, ua, un, uc, rfl, c1, c2, c3, hun, s1⟩ := HS.out.at j (by rw [← HN.out]; exact hlt)
      have q1 : IntKind.i64.wrap ((j : Int) + 1) = ((j + 1 : Nat) : Int) := by simp [IntKind.wrap, IntKind.bits, IntKind.signed]; omega
      have NX : Hid ((atE l j).p.size ≤ 1000 → un ≤ bytes → ∀ k, k < j + 1 → (atE l k).p.size ≤ 1000 ∧ (atE l k).z.length ≤ bytes) := fun h1 h2 k hk => by
        rcases Nat.lt_or_ge k j with h' | h'
        · exact OK.out k h'
        · rw [show k = j by omega]; exact ⟨h1, by rw [← hun]; exact h2⟩
      have hun9 : un ≤ 9223372036854775807 := by
        obtain ⟨_, _, e, h1, h2, _⟩ := s1
        cases e
        unfold maxLen at h2
        omega
      clear hun s1 OK c2
      generalize (atE l j).p = xp at *
      by_cases hp : 1000 < xp.size
      · have hp2 : 1000 < (xp.size : Int) := by omega
        go_wp2
        go_ret
        exact LR.no _ _
      have hp2 : ¬ 1000 < (xp.size : Int) := by omega
      by_cases hu : un ≤ bytes
      · have hu2 : (un : Int) ≤ (bytes : Int) := by omega
        have hmin : min (un : Int) ((bytes : Int) + 1) = (un : Int) := by omega
        have NX2 : Hid (∀ k, k < j + 1 → (atE l k).p.size ≤ 1000 ∧ (atE l k).z.length ≤ bytes) := NX.out (by omega) hu
        have q2 : IntKind.i64.wrap ((t : Int) + (un : Int)) = ((t + un : Nat) : Int) := by simp [IntKind.wrap, IntKind.bits, IntKind.signed]; omega
        clear NX
        by_cases ho : bytes < t + un
        · have ho2 : (bytes : Int) < (t : Int) + (un : Int) := by omega
          go_wp2
          go_ret
          exact LR.no _ _
        · have ho2 : ¬ (bytes : Int) < (t : Int) + (un : Int) := by omega
          go_wp2
          exact ⟨⟨j + 1, t + un, by omega, by go_num, by go_num, by omega, NX2.out⟩, by simp [intOf]; omega⟩
      · have hu2 : (bytes : Int) < (un : Int) := by omega
        have hmin : min (un : Int) ((bytes : Int) + 1) = (bytes : Int) + 1 := by omega
        have q2 : IntKind.i64.wrap ((t : Int) + ((bytes : Int) + 1)) = ((t + (bytes + 1) : Nat) : Int) := by simp [IntKind.wrap, IntKind.bits, IntKind.signed]; omega
        have ho2 : (bytes : Int) < (t : Int) + ((bytes : Int) + 1) := by omega
        clear NX
        go_wp2
        go_ret
        exact LR.no _ _
    · obtain rfl : j = n := by omega
      have HG : Hid G := HD2.out OK.out
      clear HD2 OK
      go_wp2
      go_ret
      exact LR.yes _ HG.out
set_option maxHeartbeats 1000000 in
theorem rsameEntry_any (v u : Value) (x y : En) (w : World) (h1 : EV w v x) (h2 : EV w u y) :
    Calls Tryz.prog 42 #[v, u] w fun e w' => e = .returned (.bool (samE x y)) ∧ Below w.heap.size w w' := by
  obtain ⟨ua, un, uc, rfl, s1⟩ := h1
  obtain ⟨va, vn, vc, rfl, s2⟩ := h2
  have HR : Hid (samE x y = (decide (x.p = y.p) && decide (x.d = y.d) && decide (x.z = y.z))) := rfl
  have tp := tl_beq x.p y.p
  have tz := strB_beq s1.bytes s2.bytes
  have B2 : Hid (Below w.heap.size w ((w.alloc (.cells #[.string x.p, .bool x.d, .slice ua un uc] 46)).alloc (.cells #[.string y.p, .bool y.d, .slice va vn vc] 46))) := ((Below.refl _ _).alloc (Nat.le_refl _) _).alloc (by simp) _
  have v1 := (s1.kept B2.out).conv
  have v2 := (s2.kept B2.out).conv
  generalize samE x y = r at *
  generalize decide (x.p = y.p) = t1 at *
  generalize decide (x.z = y.z) = t3 at *
  have td : (x.d == y.d) = decide (x.d = y.d) := by cases x.d <;> cases y.d <;> rfl
  generalize decide (x.d = y.d) = t2 at *
  generalize x.p = xp at *
  generalize x.d = xd at *
  generalize y.p = yp at *
  generalize y.d = yd at *
  generalize strB x.z = xs at *
  generalize strB y.z = ys at *
  clear s1 s2
  cases t1 with
  | false =>
    go_enter Tryz.func42, Tryz.ntmps42
    go_wp2
    go_ret
    exact ⟨by rw [HR.out]; rfl, B2.out⟩
  | true =>
    cases t2 with
    | false =>
      go_enter Tryz.func42, Tryz.ntmps42
      go_wp2
      go_ret
      exact ⟨by rw [HR.out]; rfl, B2.out⟩
    | true =>
      go_enter Tryz.func42, Tryz.ntmps42
      go_wp2
      go_ret
      exact ⟨by rw [HR.out]; rfl, B2.out⟩
end Go.Proofs.YtajcabfeabbknaaGreatDoor
