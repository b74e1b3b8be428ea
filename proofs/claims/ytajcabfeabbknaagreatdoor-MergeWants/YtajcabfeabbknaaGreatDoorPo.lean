/-
  What the functions that Plan makes answer.
  Functions that are held in variables of a function's own.
-/
import Derived.Test.YtajcabfeabbknaaGreatDoorMu
namespace Go.Proofs.YtajcabfeabbknaaGreatDoor
open Go.RowKit

set_option maxHeartbeats 1000000 in
theorem nowhere_any (u : Value) (x : En) (w : World) (hu : EV w u x) :
    Calls Tryz.prog 34 #[u] w fun e w' => e = .returned (.string (mk (no x))) ∧ Below w.heap.size w w' := by
  obtain ⟨xa, xn, xc, rfl, _⟩ := hu
  have B : Hid (Below w.heap.size w (w.alloc (.cells #[.string x.p, .bool x.d, .slice xa xn xc] 46))) := (Below.refl _ _).alloc (Nat.le_refl _) _
  have hr : Hid (mk (no x) = ⟨#[]⟩) := rfl
  generalize mk (no x) = r at *
  generalize x.p = xp at *
  generalize x.d = xd at *
  go_enter Tryz.func34, Tryz.ntmps34
  go_wp2
  go_ret
  exact ⟨by rw [hr.out]; rfl, B.out⟩
set_option maxHeartbeats 2000000 in
theorem plan1_any (vs vd u : Value) (s d : List En) (x : En) (P : Pol) (gk ge kp kt ks kd gs gh gp g g2 : Nat) (w : World) (hs : ES w vs s) (hls : Lt s) (hd : ES w vd d) (hld : Lt d) (hu : EV w u x) (hp : x.p.size ≤ 1000) (hm : Mx w) (hc : KpC w kp kt ks kd gs gh gp g vs vd P)
    (h1 : w.cell? ⟨gk, 0, none⟩ = some (.func (.func 55) #[] #[.pointer (some ⟨kp, 0, none⟩), .pointer (some ⟨kt, 0, none⟩), .pointer (some ⟨ks, 0, none⟩), .pointer (some ⟨kd, 0, none⟩)]))
    (h2 : w.cell? ⟨ge, 0, none⟩ = some (.func (.func 64) #[] #[.pointer (some ⟨g2, 0, none⟩)])) (h3 : w.cell? ⟨g2, 0, none⟩ = some vd) :
    Calls Tryz.prog 33 #[u, .pointer (some ⟨gk, 0, none⟩), .pointer (some ⟨ge, 0, none⟩)] w fun e w' => e = .returned (.bool (f1 s d P x)) ∧ Below w.heap.size w w' := by
  have HKE : Hid (∀ W, Below w.heap.size w W → Calls Tryz.prog 55 #[u, .pointer (some ⟨kp, 0, none⟩), .pointer (some ⟨kt, 0, none⟩), .pointer (some ⟨ks, 0, none⟩), .pointer (some ⟨kd, 0, none⟩)] W fun e w' => e = .returned (.string (mk (kpt s d P x))) ∧ Below W.heap.size W w') :=
    fun W hb => keep1_any vs vd u s d x P kp kt ks kd gs gh gp g W (hs.kept hb) hls (hd.kept hb) hld (hu.kept hb) hp (hm.kept hb) (hc.kept hb)
  obtain ⟨xa, xn, xc, rfl, sx⟩ := hu
  have HHA : Hid (∀ W, Below w.heap.size w W → Calls Tryz.prog 64 #[.agg #[.string (mk (kpt s d P x)), .bool false, .slice xa xn xc], .pointer (some ⟨g2, 0, none⟩)] W fun e w' => e = .returned (.bool (hav d (cpy s d P x))) ∧ Below W.heap.size W w') :=
    fun W hb => having1_any vd _ d (cpy s d P x) g2 W (hd.kept hb) hld ⟨xa, xn, xc, rfl, sx.kept hb⟩ ((hb.cell (World.block_lt_of_cell? _ _ h3)).trans h3)
  have HC : Hid (∀ W, Below w.heap.size w W → W.cell? ⟨gk, 0, none⟩ = some (.func (.func 55) #[] #[.pointer (some ⟨kp, 0, none⟩), .pointer (some ⟨kt, 0, none⟩), .pointer (some ⟨ks, 0, none⟩), .pointer (some ⟨kd, 0, none⟩)]) ∧ W.cell? ⟨ge, 0, none⟩ = some (.func (.func 64) #[] #[.pointer (some ⟨g2, 0, none⟩)])) := fun W hb => ⟨(hb.cell (World.block_lt_of_cell? _ _ h1)).trans h1, (hb.cell (World.block_lt_of_cell? _ _ h2)).trans h2⟩
  have HR : Hid (f1 s d P x = (decide (kpt s d P x ≠ []) && !hav d (cpy s d P x))) := rfl
  obtain ⟨W1, hW1⟩ : ∃ W1, W1 = w.alloc (.cells #[.string x.p, .bool x.d, .slice xa xn xc] 46) := ⟨_, rfl⟩
  have b1 : Below w.heap.size w W1 := by rw [hW1]; exact (Below.refl _ _).alloc (Nat.le_refl _) _
  have K1 : W1.heap[w.heap.size]? = some (.cells #[.string x.p, .bool x.d, .slice xa xn xc] 46 (0, 0)) := by rw [hW1]; exact heap_alloc_new _ _
  have HK : Hid (∀ W, Below W1.heap.size W1 W → W.heap[w.heap.size]? = some (.cells #[.string x.p, .bool x.d, .slice xa xn xc] 46 (0, 0))) := fun W hb => (hb.block _ (lt_of_block K1)).trans K1
  have B1 : Hid (Below w.heap.size w W1) := b1
  obtain ⟨q1, q2⟩ := HC.out W1 b1
  rw [hW1] at q1 q2
  generalize f1 s d P x = r at *
  generalize hav d (cpy s d P x) = hb at *
  generalize kpt s d P x = kx at *
  generalize x.p = xp at *
  generalize x.d = xd at *
  clear hs hls hd hld hm hc h1 h2 h3 hp sx b1 K1
  have C1 := HKE.out W1 B1.out
  go_enter Tryz.func33, Tryz.ntmps33
  go_wp2_with fail
  rw [← hW1]
  clear hW1 q1 q2
  refine C1.mono ?_
  rintro e w2 ⟨rfl, b2⟩
  have B2 : Hid (Below w.heap.size w w2) := B1.out.trans (b2.mono B1.out.size)
  obtain ⟨p0, p1, p2, z0, z1, z2⟩ := trio (HK.out w2 b2)
  obtain ⟨q1, q2⟩ := HC.out w2 B2.out
  clear C1 b2 HKE HK HC
  by_cases h0 : kx = []
  · have HR2 : Hid (r = false) := by unfold Hid; rw [HR.out, decide_eq_false (by simp [h0])]; rfl
    subst h0
    rw [mk_nil]
    clear HR HHA
    go_wp2
    go_ret
    exact ⟨by rw [HR2.out]; rfl, B2.out⟩
  · have HR2 : Hid (r = !hb) := by unfold Hid; rw [HR.out, decide_eq_true h0]; rfl
    have t0 := mk_ne h0
    have C2 := HHA.out w2 B2.out
    clear HR HHA
    go_wp2_with fail
    refine C2.mono ?_
    rintro e w3 ⟨rfl, b3⟩
    have B3 : Hid (Below w.heap.size w w3) := B2.out.trans (b3.mono B2.out.size)
    clear C2 b3 p0 p1 p2 z0 z1 z2 q1 q2
    go_wp2
    go_ret
    exact ⟨by rw [HR2.out]; cases hb <;> rfl, B3.out⟩
set_option maxHeartbeats 1000000 in
theorem plan2_any (v u : Value) (W0 : List En) (x : En) (gw : Nat) (w : World) (h : ES w v W0) (hl : Lt W0) (hu : EV w u x) (h1 : w.cell? ⟨gw, 0, none⟩ = some v) :
    Calls Tryz.prog 35 #[u, .pointer (some ⟨gw, 0, none⟩)] w fun e w' => e = .returned (.bool (f2 W0 x)) ∧ Below w.heap.size w w' := by
  have HH : Hid (∀ W, Below w.heap.size w W → Calls Tryz.prog 36 #[v, u] W fun e w' => e = .returned (.bool (hK W0 x.k x.d)) ∧ Below W.heap.size W w') := fun W hb => hasKind_any v u W0 x W (h.kept hb) hl (hu.kept hb)
  obtain ⟨xa, xn, xc, rfl, sx⟩ := hu
  obtain ⟨a, c, rfl, _, _, _⟩ := h.shape
  obtain ⟨W1, hW1⟩ : ∃ W1, W1 = w.alloc (.cells #[.string x.p, .bool x.d, .slice xa xn xc] 46) := ⟨_, rfl⟩
  have b1 : Below w.heap.size w W1 := by rw [hW1]; exact (Below.refl _ _).alloc (Nat.le_refl _) _
  have q1 := (b1.cell (World.block_lt_of_cell? _ _ h1)).trans h1
  rw [hW1] at q1
  have B1 : Hid (Below w.heap.size w W1) := b1
  have C1 := HH.out W1 b1
  have HR : Hid (f2 W0 x = !hK W0 x.k x.d) := rfl
  generalize f2 W0 x = r at *
  generalize hK W0 x.k x.d = hb at *
  generalize W0.length = n at *
  generalize x.p = xp at *
  generalize x.d = xd at *
  clear h hl b1 h1 sx HH
  go_enter Tryz.func35, Tryz.ntmps35
  go_wp2_with fail
  rw [← hW1]
  clear hW1 q1
  refine C1.mono ?_
  rintro e w2 ⟨rfl, b2⟩
  have B2 : Hid (Below w.heap.size w w2) := B1.out.trans (b2.mono B1.out.size)
  clear C1 b2
  go_wp2
  go_ret
  exact ⟨by rw [HR.out]; cases hb <;> rfl, B2.out⟩
set_option maxHeartbeats 1000000 in
theorem plan3_any (v u : Value) (d : List En) (x : En) (gd : Nat) (w : World) (h : ES w v d) (hl : Lt d) (hu : EV w u x) (h1 : w.cell? ⟨gd, 0, none⟩ = some v) :
    Calls Tryz.prog 38 #[u, .pointer (some ⟨gd, 0, none⟩)] w fun e w' => e = .returned (.bool (f3 d x)) ∧ Below w.heap.size w w' := by
  have HH : Hid (∀ W, Below w.heap.size w W → Calls Tryz.prog 36 #[v, u] W fun e w' => e = .returned (.bool (hK d x.k x.d)) ∧ Below W.heap.size W w') := fun W hb => hasKind_any v u d x W (h.kept hb) hl (hu.kept hb)
  obtain ⟨xa, xn, xc, rfl, sx⟩ := hu
  obtain ⟨a, c, rfl, _, _, _⟩ := h.shape
  obtain ⟨W1, hW1⟩ : ∃ W1, W1 = w.alloc (.cells #[.string x.p, .bool x.d, .slice xa xn xc] 46) := ⟨_, rfl⟩
  have b1 : Below w.heap.size w W1 := by rw [hW1]; exact (Below.refl _ _).alloc (Nat.le_refl _) _
  have q1 := (b1.cell (World.block_lt_of_cell? _ _ h1)).trans h1
  rw [hW1] at q1
  have B1 : Hid (Below w.heap.size w W1) := b1
  have B1' : Hid (Below w.heap.size w (w.alloc (.cells #[.string x.p, .bool x.d, .slice xa xn xc] 46))) := by rw [← hW1]; exact b1
  have C1 := HH.out W1 b1
  have HR : Hid (f3 d x = (x.d && !hK d x.k x.d)) := rfl
  generalize f3 d x = r at *
  generalize hK d x.k x.d = hb at *
  generalize d.length = n at *
  generalize x.p = xp at *
  generalize x.d = xd at *
  clear h hl b1 h1 sx HH
  go_enter Tryz.func38, Tryz.ntmps38
  cases xd with
  | false =>
    have HR2 : Hid (r = false) := HR.out
    clear HR hW1 C1
    go_wp2
    go_ret
    exact ⟨by rw [HR2.out]; rfl, B1'.out⟩
  | true =>
    have HR2 : Hid (r = !hb) := by unfold Hid; rw [HR.out]; rfl
    clear HR
    go_wp2_with fail
    rw [← hW1]
    clear hW1 q1 B1'
    refine C1.mono ?_
    rintro e w2 ⟨rfl, b2⟩
    have B2 : Hid (Below w.heap.size w w2) := B1.out.trans (b2.mono B1.out.size)
    clear C1 b2
    go_wp2
    go_ret
    exact ⟨by rw [HR2.out]; cases hb <;> rfl, B2.out⟩
set_option maxHeartbeats 1000000 in
theorem plan4_any (vd u : Value) (d : List En) (x : En) (ge g2 : Nat) (w : World) (hd : ES w vd d) (hld : Lt d) (hu : EV w u x)
    (h2 : w.cell? ⟨ge, 0, none⟩ = some (.func (.func 64) #[] #[.pointer (some ⟨g2, 0, none⟩)])) (h3 : w.cell? ⟨g2, 0, none⟩ = some vd) :
    Calls Tryz.prog 39 #[u, .pointer (some ⟨ge, 0, none⟩)] w fun e w' => e = .returned (.bool (f4 d x)) ∧ Below w.heap.size w w' := by
  have HH : Hid (∀ W, Below w.heap.size w W → Calls Tryz.prog 64 #[u, .pointer (some ⟨g2, 0, none⟩)] W fun e w' => e = .returned (.bool (hav d x)) ∧ Below W.heap.size W w') := fun W hb => having1_any vd u d x g2 W (hd.kept hb) hld (hu.kept hb) ((hb.cell (World.block_lt_of_cell? _ _ h3)).trans h3)
  obtain ⟨xa, xn, xc, rfl, sx⟩ := hu
  obtain ⟨W1, hW1⟩ : ∃ W1, W1 = w.alloc (.cells #[.string x.p, .bool x.d, .slice xa xn xc] 46) := ⟨_, rfl⟩
  have b1 : Below w.heap.size w W1 := by rw [hW1]; exact (Below.refl _ _).alloc (Nat.le_refl _) _
  have q1 := (b1.cell (World.block_lt_of_cell? _ _ h2)).trans h2
  rw [hW1] at q1
  have B1 : Hid (Below w.heap.size w W1) := b1
  have B1' : Hid (Below w.heap.size w (w.alloc (.cells #[.string x.p, .bool x.d, .slice xa xn xc] 46))) := by rw [← hW1]; exact b1
  have C1 := HH.out W1 b1
  have HR : Hid (f4 d x = (!x.d && !hav d x)) := rfl
  generalize f4 d x = r at *
  generalize hav d x = hb at *
  generalize x.p = xp at *
  generalize x.d = xd at *
  clear hd hld b1 h2 h3 sx HH
  go_enter Tryz.func39, Tryz.ntmps39
  cases xd with
  | true =>
    have HR2 : Hid (r = false) := HR.out
    clear HR hW1 C1
    go_wp2
    go_ret
    exact ⟨by rw [HR2.out]; rfl, B1'.out⟩
  | false =>
    have HR2 : Hid (r = !hb) := by unfold Hid; rw [HR.out]; rfl
    clear HR
    go_wp2_with fail
    rw [← hW1]
    clear hW1 q1 B1'
    refine C1.mono ?_
    rintro e w2 ⟨rfl, b2⟩
    have B2 : Hid (Below w.heap.size w w2) := B1.out.trans (b2.mono B1.out.size)
    clear C1 b2
    go_wp2
    go_ret
    exact ⟨by rw [HR2.out]; cases hb <;> rfl, B2.out⟩
end Go.Proofs.YtajcabfeabbknaaGreatDoor
namespace Go.Proofs.YtajcabfeabbknaaGreatDoor
open Go.RowKit

theorem ne_nil {u : World} {n g o : Nat} {t : TypeId} {y : Value} (h : u.heap[n]? = some (.cells #[.nilFunc] t (0, 0))) (hc : u.cell? ⟨g, o, none⟩ = some y) (hy : y ≠ .nilFunc) : g ≠ n := by
  rintro rfl
  simp only [World.cell?, h] at hc
  cases o with
  | zero => simp at hc; exact hy hc.symm
  | succ o => simp at hc
theorem set_cell {u : World} {n g o : Nat} {t : TypeId} {y f : Value} (h : u.heap[n]? = some (.cells #[.nilFunc] t (0, 0))) (hc : u.cell? ⟨g, o, none⟩ = some y) (hy : y ≠ .nilFunc) : (u.setCell ⟨n, 0, none⟩ f).cell? ⟨g, o, none⟩ = some y := by
  have hne := ne_nil h hc hy
  rw [World.cell?_of_block (Below.heap_setCell u ⟨n, 0, none⟩ f g hne)]
  exact hc
theorem set_at {u : World} {n : Nat} {t : TypeId} {f : Value} (h : u.heap[n]? = some (.cells #[.nilFunc] t (0, 0))) : (u.setCell ⟨n, 0, none⟩ f).cell? ⟨n, 0, none⟩ = some f := by
  simp [World.cell?, World.setCell, Array.getElem?_modify, h]
theorem KpC.set {u : World} {n : Nat} {t : TypeId} {f : Value} {kp kt ks kd gs gh gp g : Nat} {a a2 : Option Addr} {m c m2 c2 : Nat} {P : Pol} (h : u.heap[n]? = some (.cells #[.nilFunc] t (0, 0))) (hk : KpC u kp kt ks kd gs gh gp g (.slice a m c) (.slice a2 m2 c2) P) :
    KpC (u.setCell ⟨n, 0, none⟩ f) kp kt ks kd gs gh gp g (.slice a m c) (.slice a2 m2 c2) P := by
  obtain ⟨⟨h1, h2, h3, h4⟩, h5, h6, h7, h8⟩ := hk
  refine ⟨⟨set_cell h h1 ?_, set_cell h h2 ?_, set_cell h h3 ?_, set_cell h h4 ?_⟩, set_cell h h5 ?_, set_cell h h6 ?_, set_cell h h7 ?_, set_cell h h8 ?_⟩ <;> (intro e; cases e)
theorem vars_fin {u : World} {nA nB : Nat} {tA tB : TypeId} {kp kt ks kd gs gh gp g g2 : Nat} {a a2 : Option Addr} {m c m2 c2 : Nat} {P : Pol} {F1 F2 : Fn} {x1 x2 y1 y2 : Array Value}
    (hA : u.heap[nA]? = some (.cells #[.nilFunc] tA (0, 0))) (hB : u.heap[nB]? = some (.cells #[.nilFunc] tB (0, 0))) (ht : tA ≠ tB) (hk : KpC u kp kt ks kd gs gh gp g (.slice a m c) (.slice a2 m2 c2) P) (hv : u.cell? ⟨g2, 0, none⟩ = some (.slice a2 m2 c2)) :
    KpC ((u.setCell ⟨nA, 0, none⟩ (.func F1 x1 y1)).setCell ⟨nB, 0, none⟩ (.func F2 x2 y2)) kp kt ks kd gs gh gp g (.slice a m c) (.slice a2 m2 c2) P ∧ ((u.setCell ⟨nA, 0, none⟩ (.func F1 x1 y1)).setCell ⟨nB, 0, none⟩ (.func F2 x2 y2)).cell? ⟨nA, 0, none⟩ = some (.func F1 x1 y1) ∧
      ((u.setCell ⟨nA, 0, none⟩ (.func F1 x1 y1)).setCell ⟨nB, 0, none⟩ (.func F2 x2 y2)).cell? ⟨nB, 0, none⟩ = some (.func F2 x2 y2) ∧ ((u.setCell ⟨nA, 0, none⟩ (.func F1 x1 y1)).setCell ⟨nB, 0, none⟩ (.func F2 x2 y2)).cell? ⟨g2, 0, none⟩ = some (.slice a2 m2 c2) := by
  have hne : nA ≠ nB := fun e => by rw [e, hB] at hA; cases hA; exact ht rfl
  have hB' : (u.setCell ⟨nA, 0, none⟩ (.func F1 x1 y1)).heap[nB]? = some (.cells #[.nilFunc] tB (0, 0)) := by rw [Below.heap_setCell u ⟨nA, 0, none⟩ _ nB (fun e => hne e.symm)]; exact hB
  refine ⟨(hk.set hA).set hB', set_cell hB' (set_at hA) (by intro e; cases e), set_at hB', set_cell hB' (set_cell hA hv (by intro e; cases e)) (by intro e; cases e)⟩
end Go.Proofs.YtajcabfeabbknaaGreatDoor
