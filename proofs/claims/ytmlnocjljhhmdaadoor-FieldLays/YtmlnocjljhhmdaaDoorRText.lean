/-
  What Text of the document's Reader answers, for whatever bytes are left and whatever error it bears.
-/
import Derived.Test.YtmlnocjljhhmdaaDoorRRd
namespace Go.Proofs.YtmlnocjljhhmdaaDoor
open Go.RowKit

theorem rt_cases (xs : List Int) (most : Int) (hb : ∀ i, 0 ≤ xs.getD i 0 ∧ xs.getD i 0 < 256) :
    (naE xs most ≠ 0 ∧ txE xs most = naE xs most ∧ txS xs most = [] ∧ txR xs most = xs ∧ naN xs most = 0) ∨
    (naE xs most = 0 ∧ raE (xs.drop (naU xs most).toNat) (naN xs most) = 3 ∧ txE xs most = 3 ∧ txS xs most = [] ∧ txR xs most = xs) ∨
    (naE xs most = 0 ∧ raE (xs.drop (naU xs most).toNat) (naN xs most) = 0 ∧ txE xs most = 0 ∧ txS xs most = (xs.drop (naU xs most).toNat).take (raN (xs.drop (naU xs most).toNat) (naN xs most)) ∧
      txR xs most = (xs.drop (naU xs most).toNat).drop (raN (xs.drop (naU xs most).toNat) (naN xs most))) := by
  have bd := na_bd xs most hb
  by_cases h : naE xs most = 0
  · by_cases h2 : naU xs most + naN xs most ≤ xs.length
    · have e1 : txE xs most = 0 := by unfold txE; rw [if_pos h, if_pos h2]
      have e2 : raE (xs.drop (naU xs most).toNat) (naN xs most) = 0 := by unfold raE; rw [if_neg (by omega), if_neg (by rw [List.length_drop]; omega)]
      refine .inr (.inr ⟨h, e2, e1, ?_, ?_⟩)
      · unfold txS raN; rw [if_pos e1, if_pos e2]
      · unfold txR raN; rw [if_pos e1, if_pos e2, List.drop_drop]
    · have e1 : txE xs most = 3 := by unfold txE; rw [if_pos h, if_neg h2]
      have e2 : raE (xs.drop (naU xs most).toNat) (naN xs most) = 3 := by unfold raE; rw [if_neg (by omega), if_pos (by rw [List.length_drop]; omega)]
      refine .inr (.inl ⟨h, e2, e1, ?_, ?_⟩)
      · unfold txS; rw [e1, if_neg (by decide)]
      · unfold txR; rw [e1, if_neg (by decide)]
  · have e1 : txE xs most = naE xs most := by unfold txE; rw [if_neg h]
    refine .inl ⟨h, e1, ?_, ?_, ?_⟩
    · unfold txS; rw [e1, if_neg h]
    · unfold txR; rw [e1, if_neg h]
    · unfold naN; rw [if_neg h]

theorem new_pair (w : World) (u v u' v' : Value) (w' : World) (hb : Below (w.heap.size + 2) ((w.alloc (.cells #[u, v] 35)).alloc (.cells #[u', v'] 35)) w') :
    w'.cell? ⟨w.heap.size, 0, none⟩ = some u ∧ w'.cell? ⟨w.heap.size, 1, none⟩ = some v ∧ w'.cell? ⟨w.heap.size + 1, 0, none⟩ = some u' ∧ w'.cell? ⟨w.heap.size + 1, 1, none⟩ = some v' ∧
    w'.frozen? ⟨w.heap.size + 1, 0, none⟩ = false ∧ w'.frozen? ⟨w.heap.size + 1, 1, none⟩ = false := by
  have hz : (w.alloc (.cells #[u, v] 35)).heap.size = w.heap.size + 1 := by simp
  have h2 := new_two (w.alloc (.cells #[u, v] 35)) u' v' w' (by rw [hz]; exact hb)
  rw [hz] at h2
  obtain ⟨c0, c1, f0, f1⟩ := h2
  refine ⟨?_, ?_, c0, c1, f0, f1⟩
  · rw [hb.cell (p := ⟨w.heap.size, 0, none⟩) (by simp), World.cell?_alloc_past _ _ _ (by simp), World.cell?_alloc_at _ _ _ _ rfl]; rfl
  · rw [hb.cell (p := ⟨w.heap.size, 1, none⟩) (by simp), World.cell?_alloc_past _ _ _ (by simp), World.cell?_alloc_at _ _ _ _ rfl]; rfl

set_option maxHeartbeats 2000000 in
theorem rtext_core (a : Option Addr) (n c : Nat) (e most e1 k e2 : Int) (T : ByteArray) (w : World) (P1 P2 : Value → Prop)
    (h1 : ∀ W, Below w.heap.size w W → Calls Tryd.prog 16 #[.agg #[.slice a n c, .int .i64 e], .int .i64 most] W fun r w' => ∃ a1 n1 c1, r = .returned (.tuple #[.agg #[.slice a1 n1 c1, .int .i64 e1], .int .i64 k]) ∧ P1 (.slice a1 n1 c1) ∧ Below W.heap.size W w')
    (h2 : ∀ a1 n1 c1 W, P1 (.slice a1 n1 c1) → Below w.heap.size w W → Calls Tryd.prog 20 #[.agg #[.slice a1 n1 c1, .int .i64 e1], .int .i64 k] W fun r w' => ∃ a2 n2 c2, r = .returned (.tuple #[.agg #[.slice a2 n2 c2, .int .i64 e2], .string T]) ∧ P2 (.slice a2 n2 c2) ∧ Below W.heap.size W w') :
    Calls Tryd.prog 18 #[.agg #[.slice a n c, .int .i64 e], .int .i64 most] w fun r w' => ∃ a3 n3 c3, r = .returned (.tuple #[.agg #[.slice a3 n3 c3, .int .i64 e2], .string (if e2 = 0 then T else ⟨#[]⟩)]) ∧
      (if e2 = 0 then P2 (.slice a3 n3 c3) else a3 = a ∧ n3 = n ∧ c3 = c) ∧ Below w.heap.size w w' := by
  have B2 : Below w.heap.size w ((w.alloc (.cells #[.slice a n c, .int .i64 e] 35)).alloc (.cells #[.slice none 0 0, .int .i64 0] 35)) := ((Below.refl _ _).alloc (Nat.le_refl _) _).alloc (by simp) _
  have c1 := h1 _ B2
  clear h1
  go_enter Tryd.func18, Tryd.ntmps18
  go_wp2_with fail
  refine c1.mono ?_
  rintro r w1 ⟨a1, n1, q1, rfl, p1, bel1⟩
  clear c1
  have B1 := bnext B2 bel1 B2.size
  have z1 : w.heap.size + 2 ≤ w1.heap.size := by have := bel1.size; simp at this; omega
  have B3 : Below w.heap.size w (w1.alloc (.cells #[.slice a1 n1 q1, .int .i64 e1] 35)) := B1.alloc (by omega) _
  have c2 := h2 a1 n1 q1 _ p1 B3
  have D1 : Below (w.heap.size + 2) ((w.alloc (.cells #[.slice a n c, .int .i64 e] 35)).alloc (.cells #[.slice none 0 0, .int .i64 0] 35)) (w1.alloc (.cells #[.slice a1 n1 q1, .int .i64 e1] 35)) := (bel1.mono (by simp)).alloc (by omega) _
  clear h2 p1 bel1 B1 B2
  go_wp2_with fail
  refine c2.mono ?_
  rintro r w2 ⟨a2, n2, q2, rfl, p2, bel2⟩
  clear c2
  have z3 : (w1.alloc (.cells #[.slice a1 n1 q1, .int .i64 e1] 35)).heap.size = w1.heap.size + 1 := by simp
  have B4 := bnext B3 bel2 B3.size
  have z2 : w1.heap.size + 1 ≤ w2.heap.size := by have := bel2.size; rw [z3] at this; exact this
  obtain ⟨g0, g1, g2, g3, g4, g5⟩ := new_pair w _ _ _ _ w2 (D1.trans (bel2.mono (by rw [z3]; omega)))
  clear D1 bel2 B3 z3
  have z4 : w.heap.size + 1 < w2.heap.size := by omega
  have z5 : w.heap.size + 1 ≠ w2.heap.size := by omega
  have z6 : w.heap.size ≠ w2.heap.size := by omega
  have z7 : w.heap.size < w2.heap.size := by omega
  have HP : Hid (P2 (.slice a2 n2 q2)) := p2
  clear p2
  by_cases he2 : e2 = 0
  · subst he2
    go_wp2
    refine bodyPost_ret (v := .tuple #[.agg #[.slice a2 n2 q2, .int .i64 0], .string T]) (by simp [results, Tryd.results18, go_sem, *]) rfl ⟨_, _, _, rfl, HP.out, ?_⟩
    exact ((B4.setCell (by simp) _).setCell (by simp) _).alloc (by have := B4.size; simp [World.setCell]; omega) _
  · have hne : (e2 != 0) = true := by simpa using he2
    have cf := rfail_any a n c e e2 (w2.alloc (.cells #[.slice a2 n2 q2, .int .i64 e2] 35))
    go_wp2_with fail
    refine cf.mono ?_
    rintro r w3 ⟨rfl, rfl⟩
    clear cf
    go_wp2
    refine bodyPost_ret (v := .tuple #[.agg #[.slice a n c, .int .i64 e2], .string ⟨#[]⟩]) (by simp [results, Tryd.results18, go_sem, *]) rfl ⟨a, n, c, rfl, ⟨rfl, rfl, rfl⟩, ?_⟩
    have h0 := B4.size
    exact ((((B4.setCell (by simp) _).setCell (by simp) _).alloc (by simp [World.setCell]; omega) _).alloc (by simp [World.setCell]; omega) _).alloc (by simp [World.setCell]; omega) _

theorem rtext_stop (a : Option Addr) (n c : Nat) (e most : Int) (w : World) (he : e ≠ 0) :
    Calls Tryd.prog 18 #[.agg #[.slice a n c, .int .i64 e], .int .i64 most] w fun r w' => r = .returned (.tuple #[.agg #[.slice a n c, .int .i64 e], .string (strB [])]) ∧ Below w.heap.size w w' := by
  have h := rtext_core a n c e most e 0 e (strB []) w (fun _ => True) (fun _ => True)
    (fun W _ => (rnum_stop a n c e most W he).mono (by rintro r w' ⟨rfl, b⟩; exact ⟨_, _, _, rfl, trivial, b⟩))
    (fun a1 n1 c1 W _ _ => (rraw_stop a1 n1 c1 e 0 W he).mono (by rintro r w' ⟨rfl, b⟩; exact ⟨_, _, _, rfl, trivial, b⟩))
  rw [if_neg he] at h
  refine h.mono ?_
  rintro r w' ⟨a3, n3, c3, rfl, hp, b⟩
  rw [if_neg he] at hp
  obtain ⟨rfl, rfl, rfl⟩ := hp
  exact ⟨rfl, b⟩

theorem rtext_any (a : Option Addr) (cap : Nat) (xs : List Int) (most : Int) (w : World) (h : Rv w (.slice a xs.length cap) xs) :
    Calls Tryd.prog 18 #[.agg #[.slice a xs.length cap, .int .i64 0], .int .i64 most] w fun r w' =>
      ∃ v', r = .returned (.tuple #[.agg #[v', .int .i64 (txE xs most)], .string (strB (txS xs most))]) ∧ (∀ W, Rv W (.slice a xs.length cap) xs → Rv W v' (txR xs most)) ∧ Below w.heap.size w w' := by
  have num : ∀ W, Below w.heap.size w W → Calls Tryd.prog 16 #[.agg #[.slice a xs.length cap, .int .i64 0], .int .i64 most] W fun r w' =>
      ∃ a1 n1 c1, r = .returned (.tuple #[.agg #[.slice a1 n1 c1, .int .i64 (naE xs most)], .int .i64 (naN xs most)]) ∧ (∀ V, Rv V (.slice a xs.length cap) xs → Rv V (.slice a1 n1 c1) (xs.drop (naU xs most).toNat)) ∧ Below W.heap.size W w' := fun W hb => by
    refine (rnum_any a cap xs most W (h.kept hb)).mono ?_
    rintro r w' ⟨v', rfl, hv, b⟩
    obtain ⟨a1, c1, rfl, _⟩ := hv w h
    exact ⟨_, _, _, rfl, hv, b⟩
  have raw : ∀ (E : Int), E = 0 → ∀ a1 n1 c1 W, (∀ V, Rv V (.slice a xs.length cap) xs → Rv V (.slice a1 n1 c1) (xs.drop (naU xs most).toNat)) → Below w.heap.size w W → Calls Tryd.prog 20 #[.agg #[.slice a1 n1 c1, .int .i64 E], .int .i64 (naN xs most)] W fun r w' =>
      ∃ a2 n2 c2, r = .returned (.tuple #[.agg #[.slice a2 n2 c2, .int .i64 (raE (xs.drop (naU xs most).toNat) (naN xs most))], .string (strB ((xs.drop (naU xs most).toNat).take (raN (xs.drop (naU xs most).toNat) (naN xs most))))]) ∧
        (∀ V, Rv V (.slice a xs.length cap) xs → Rv V (.slice a2 n2 c2) ((xs.drop (naU xs most).toNat).drop (raN (xs.drop (naU xs most).toNat) (naN xs most)))) ∧ Below W.heap.size W w' := fun E hE a1 n1 c1 W hv hb => by
    subst hE
    have hr := hv W (h.kept hb)
    obtain rfl : n1 = (xs.drop (naU xs most).toNat).length := by obtain ⟨_, _, e, _⟩ := hr; cases e; rfl
    refine (rraw_any a1 c1 _ (naN xs most) W hr).mono ?_
    rintro r w' ⟨v', rfl, hv', b⟩
    obtain ⟨a2, c2, rfl, _⟩ := hv' W hr
    exact ⟨_, _, _, rfl, fun V hV => hv' V (hv V hV), b⟩
  rcases rt_cases xs most h.bytes with ⟨e0, e1, e2, e3, e4⟩ | ⟨e0, e5, e1, e2, e3⟩ | ⟨e0, e5, e1, e2, e3⟩
  · rw [e1, e2, e3]
    have hh := rtext_core a xs.length cap 0 most (naE xs most) (naN xs most) (naE xs most) (strB []) w (fun v => ∀ V, Rv V (.slice a xs.length cap) xs → Rv V v (xs.drop (naU xs most).toNat)) (fun _ => True) num
      (fun a1 n1 c1 W _ _ => (rraw_stop a1 n1 c1 _ _ W e0).mono (by rintro r w' ⟨rfl, b⟩; exact ⟨_, _, _, rfl, trivial, b⟩))
    rw [if_neg e0] at hh
    refine hh.mono ?_
    rintro r w' ⟨a3, n3, c3, rfl, hp, b⟩
    rw [if_neg e0] at hp
    obtain ⟨rfl, rfl, rfl⟩ := hp
    exact ⟨_, rfl, fun W hW => hW, b⟩
  · rw [e1, e2, e3]
    have hh := rtext_core a xs.length cap 0 most (naE xs most) (naN xs most) _ _ w (fun v => ∀ V, Rv V (.slice a xs.length cap) xs → Rv V v (xs.drop (naU xs most).toNat)) (fun v => ∀ V, Rv V (.slice a xs.length cap) xs → Rv V v ((xs.drop (naU xs most).toNat).drop (raN (xs.drop (naU xs most).toNat) (naN xs most)))) num (raw _ e0)
    rw [e5, if_neg (by decide)] at hh
    refine hh.mono ?_
    rintro r w' ⟨a3, n3, c3, rfl, hp, b⟩
    rw [if_neg (by decide)] at hp
    obtain ⟨rfl, rfl, rfl⟩ := hp
    exact ⟨_, rfl, fun W hW => hW, b⟩
  · rw [e1, e2, e3]
    have hh := rtext_core a xs.length cap 0 most (naE xs most) (naN xs most) _ _ w (fun v => ∀ V, Rv V (.slice a xs.length cap) xs → Rv V v (xs.drop (naU xs most).toNat)) (fun v => ∀ V, Rv V (.slice a xs.length cap) xs → Rv V v ((xs.drop (naU xs most).toNat).drop (raN (xs.drop (naU xs most).toNat) (naN xs most)))) num (raw _ e0)
    rw [e5, if_pos rfl] at hh
    refine hh.mono ?_
    rintro r w' ⟨a3, n3, c3, rfl, hp, b⟩
    rw [if_pos rfl] at hp
    exact ⟨_, rfl, hp, b⟩
end Go.Proofs.YtmlnocjljhhmdaaDoor
