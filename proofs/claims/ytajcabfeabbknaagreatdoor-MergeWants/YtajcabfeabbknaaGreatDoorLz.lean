/-
  What the law's own 'light' answers.
-/
import Derived.Test.YtajcabfeabbknaaGreatDoorLg
namespace Go.Proofs.YtajcabfeabbknaaGreatDoor
open Go.RowKit

/-- Small enough. -/
def Sm66 (l : List En) : Prop := l.length ≤ 66 ∧ ∀ x ∈ l, x.p.size ≤ 1000 ∧ x.z.length ≤ 3000
theorem Sm66.lt {l : List En} (h : Sm66 l) : Lt l := ⟨by have := h.1; omega, fun x hx => ⟨(h.2 x hx).1, by have := (h.2 x hx).2; omega⟩⟩
set_option maxHeartbeats 1000000 in
theorem light2_any (v u : Value) (s d : List En) (w : World) (hs : ES w v s) (hd : ES w u d) :
    Calls Tryz.prog 5 #[v, u] w (LR (Sm66 s ∧ Sm66 d) w) := by
  obtain ⟨a, c, rfl, _, g3, _⟩ := hs.shape
  obtain ⟨a2, c2, rfl, _, g5, _⟩ := hd.shape
  have C1 := light_any _ s 66 3000 w hs (by omega) (by omega) (by unfold maxLen at g3; omega)
  have C2 := light_any _ d 66 3000 w hd (by omega) (by omega) (by unfold maxLen at g5; omega)
  have e1 : (s.length ≤ 66 ∧ ∀ x ∈ s, x.p.size ≤ 1000 ∧ x.z.length ≤ 3000) = Sm66 s := rfl
  have e2 : (d.length ≤ 66 ∧ ∀ x ∈ d, x.p.size ≤ 1000 ∧ x.z.length ≤ 3000) = Sm66 d := rfl
  rw [e1] at C1
  rw [e2] at C2
  generalize Sm66 s = G1 at *
  generalize Sm66 d = G2 at *
  generalize s.length = n at *
  generalize d.length = m at *
  clear hs hd g3 g5 e1 e2
  go_enter Tryz.func5, Tryz.ntmps5
  go_wp2_with fail
  refine C1.mono ?_
  rintro e wq ⟨r1, rfl, hq, hr⟩
  replace hq := hq.symm
  subst hq
  have HR1 : Hid (r1 = true → G1) := hr
  clear hr C1
  cases r1 with
  | false =>
    go_wp2
    go_ret
    exact LR.no _ _
  | true =>
  have K1 : Hid G1 := HR1.out rfl
  clear HR1
  go_wp2_with fail
  refine C2.mono ?_
  rintro e wq ⟨r2, rfl, hq, hr⟩
  replace hq := hq.symm
  subst hq
  have HR2 : Hid (r2 = true → G2) := hr
  clear hr C2
  cases r2 with
  | false =>
    go_wp2
    go_ret
    exact LR.no _ _
  | true =>
    have K2 : Hid G2 := HR2.out rfl
    clear HR2
    go_wp2
    go_ret
    exact LR.yes _ ⟨K1.out, K2.out⟩
end Go.Proofs.YtajcabfeabbknaaGreatDoor
