/-
  What takeAll answers: all operations that are whole, or an error.
-/
import Derived.Test.YtfccjeepmhgckaaDoorDt
import Derived.Test.YtfccjeepmhgckaaDoorDe
import Derived.Deep.LoopGhost
namespace Go.Proofs.YtfccjeepmhgckaaDoor
open Go.RowKit
set_option maxRecDepth 100000

theorem OX.kp {w w' : World} {B : Nat} {v : Value} {l : List Xp} (h : OX w B v l) {g : Nat} {cs : Array Value} {T : TypeId} {fr : Nat × Nat} (hk : Kp g none w w') (hg : w.heap[g]? = some (.cells cs T fr)) (h5 : T ≠ 5) (h6 : T ≠ 46) : OX w' B v l := by
  obtain ⟨U, h1, h2⟩ := h
  exact ⟨U, own_kp h1 hk (own_ne h1 hg h6) (fun i _ e => by cases e), fun i hi => ⟨own_kp (h2 i hi).1 hk (own_ne (h2 i hi).1 hg h5) (fun i _ e => by cases e), (h2 i hi).2⟩⟩
theorem SlX.low {w w' : World} {B : Nat} {v : Value} {b : List Int} (h : SlX w v b) (hv : ∀ k, v.ownBlock = some k → k < B) (hb : Below B w w') : SlX w' v b := by
  refine ⟨?_, h.2⟩
  obtain ⟨a, c, rfl, h1, h2, h3, h4⟩ := h.1
  refine ⟨a, c, rfl, h1, h2, h3, ?_⟩
  rcases h4 with h4 | ⟨hp, bb, off, rfl, k1, k2, k3, k4⟩
  · exact .inl h4
  · exact .inr ⟨hp, bb, off, rfl, k1, k2, fun i hi => (hb.cell (hv bb rfl)).trans (k3 i hi), k4⟩
theorem one_u8 {v : Value} (h : ∀ z, v ≠ .int .u8 z) : ∀ (i : Nat) (z : Int), #[v][i]? ≠ some (Value.int .u8 z) := fun i z e => by
  match i with
  | 0 => exact h z (by simpa using e)
  | n + 1 => simp at e
theorem sl_u8 (a : Option Addr) (n c : Nat) : ∀ (i : Nat) (z : Int), #[Value.slice a n c][i]? ≠ some (Value.int .u8 z) := one_u8 fun z e => by cases e
theorem int_u8 (k : Int) : ∀ (i : Nat) (z : Int), #[Value.int .i64 k][i]? ≠ some (Value.int .u8 z) := one_u8 fun z e => by cases e
theorem opA_bad {old : Int} {b : List Int} {k : Int} (h : opA old b = .bad k) : k ≠ 0 := by
  cases b with
  | nil => cases h
  | cons c r =>
    rw [opA_cons] at h
    have hd : ∀ {t : Tk}, (t = .wait ∨ (∃ j, t = .bad j ∧ j ≠ 0) ∨ ∃ x i, t = .op x i) → ∀ n, t.on n = .bad k → k ≠ 0 := fun ht n e => by
      have e2 := on_bad e
      rcases ht with rfl | ⟨j, rfl, hj⟩ | ⟨x, i, rfl⟩
      · cases e2
      · cases e2; exact hj
      · cases e2
    split at h
    · refine hd ?_ 1 h
      unfold datA
      split
      · exact .inl rfl
      split
      · split
        · exact .inr (.inl ⟨4, rfl, by decide⟩)
        split
        · exact .inr (.inl ⟨5, rfl, by decide⟩)
        split
        · exact .inl rfl
        · exact .inr (.inr ⟨_, _, rfl⟩)
      · rename_i h0
        exact .inr (.inl ⟨_, rfl, h0⟩)
    split at h
    · refine hd ?_ 1 h
      unfold copA
      split
      · exact .inl rfl
      split
      · unfold copB
        split
        · exact .inl rfl
        split
        · split
          · exact .inr (.inr ⟨_, _, rfl⟩)
          · exact .inr (.inl ⟨4, rfl, by decide⟩)
        · rename_i h0
          exact .inr (.inl ⟨_, rfl, h0⟩)
      · rename_i h0
        exact .inr (.inl ⟨_, rfl, h0⟩)
    · cases h; decide
theorem Kp.thenB {g B : Nat} {r : Option Nat} {a b c : World} (h : Kp g r a b) (k : Below B b c) (hB : a.heap.size ≤ B) : Kp g r a c :=
  ⟨k.os.trans h.os, k.tape.trans h.tape, k.output.trans h.output, Nat.le_trans h.size k.size, fun i hi hn hr => (k.block i (by omega)).trans (h.block i hi hn hr)⟩
/-- What the loop holds: so many rounds at most are to come. -/
def TL (w : World) (B g ℓ : Nat) (old er : Int) (v : Value) (N : Nat) (R : Int × List Xp × Int × List Int) (k : Nat) (wr : World) : Prop :=
  ∃ (b : List Int) (O : List Xp) (made : Int) (lv v' : Value), b.length < k ∧ tks old made b O = R ∧ DB wr g old made v' er ∧ SlX wr v' b ∧ wr.heap[ℓ]? = some (.cells #[lv] 29 (0, 0)) ∧ wr.heap[ℓ + 1]? = some (.cells #[.int .i64 0] 30 (0, 0)) ∧
    OX wr B lv O ∧ O.length + b.length ≤ N ∧ 0 ≤ made ∧ made ≤ 65536 ∧ Kp g none w wr ∧ (O = [] → v' = v) ∧ v'.ownBlock = v.ownBlock ∧ B ≤ wr.heap.size
/-- What takeAll answers. -/
def TA (R : Int × List Xp × Int × List Int) (g : Nat) (old er : Int) (v : Value) (w : World) (e : Ending) (w' : World) : Prop :=
  Kp g none w w' ∧ if R.1 = 0 then ∃ lv v', e = .returned (.tuple #[lv, .int .i64 0]) ∧ OX w' w.heap.size lv R.2.1 ∧ DB w' g old R.2.2.1 v' er ∧ SlX w' v' R.2.2.2 ∧ (R.2.1 = [] → v' = v)
    else e = .returned (.tuple #[.slice none 0 0, .int .i64 R.1])
set_option maxHeartbeats 8000000 in
theorem takeAll_any (g : Nat) (old made : Int) (v : Value) (er : Int) (b : List Int) (w : World) (hd : DB w g old made v er) (h : SlX w v b) (ht : ∀ W, Kp g none w W → Fi.Wid W) (ho : old ≤ 9223372036854775807) (h0 : 0 ≤ made) (h1 : made ≤ 65536) (hv : ∀ k, v.ownBlock = some k → k < w.heap.size) (hb : b.length ≤ 90000) :
    Calls Tryd.prog 17 #[.pointer (some ⟨g, 0, none⟩)] w fun e w' => TA (tks old made b []) g old er v w e w' := by
  have hmf : ∀ (fn : Fn) (first cap : Array Value) (w : World), (Instr.makeFunc fn first cap).run Tryd.prog w = .ok (.func fn first cap) w := fun _ _ _ _ => rfl
  obtain ⟨W0, hW0⟩ : ∃ W0, W0 = (w.alloc (.cells #[.slice none 0 0] 29)).alloc (.cells #[.int .i64 0] 30) := ⟨_, rfl⟩
  have b0 : Below w.heap.size w W0 := by rw [hW0]; exact ((Below.refl _ _).alloc (Nat.le_refl _) _).alloc (by simp) _
  have s0 : W0.heap.size = w.heap.size + 2 := by rw [hW0]; simp
  have g0 : W0.heap[w.heap.size]? = some (.cells #[.slice none 0 0] 29 (0, 0)) := by
    rw [hW0]
    refine ((al_below (w.alloc (.cells #[.slice none 0 0] 29)) _).block _ (by simp)).trans (heap_alloc_new _ _)
  have g1 : W0.heap[w.heap.size + 1]? = some (.cells #[.int .i64 0] 30 (0, 0)) := by
    rw [hW0]
    have := heap_alloc_new (w.alloc (.cells #[.slice none 0 0] 29)) (.cells #[.int .i64 0] 30)
    simpa using this
  have HR : Hid (tks old made b [] = tks old made b []) := rfl
  have HST : Hid (TL w W0.heap.size g w.heap.size old er v b.length (tks old made b []) (b.length + 1) W0) :=
    ⟨b, [], made, .slice none 0 0, v, by omega, rfl, hd.kept b0, h.kept b0, g0, g1, OX.nil _ _, by simp, h0, h1, Kp.of b0, fun _ => rfl, rfl, Nat.le_refl _⟩
  have HWI : Hid (∀ W, Kp g none w W → Fi.Wid W) := ht
  have HV : Hid (∀ k, v.ownBlock = some k → k < w.heap.size) := hv
  have HG : Hid (g < w.heap.size) := hd.lt
  have HS0 : Hid (W0.heap.size = w.heap.size + 2) := s0
  generalize tks old made b [] = R at *
  obtain ⟨N, hN⟩ : ∃ N, N = b.length := ⟨_, rfl⟩
  rw [← hN] at HST hb
  clear hd h ht h0 h1 hv b0 s0 g0 g1 HR hN
  go_enter_defers Tryd.func17, Tryd.ntmps17
  go_wp2_with fail
  rw [← hW0]
  clear hW0
  go_loopg [] (N + 1) (fun k wr => TL w W0.heap.size g w.heap.size old er v N R k wr)
  case atStart => exact HST.out
  case round =>
    clear HST
    obtain ⟨b, O, made, lv, v', hbk, hR, hd, sx, gl, ge, ox, hON, h0, h1, kp, hv0, hvo, hB⟩ := hrel
    obtain ⟨la, lc, rfl, -, -, -⟩ := ox.shape
    have HW : Hid (Fi.Wid wr) := HWI.out wr kp
    cases hk : opA old b with
    | wait =>
      rw [tks_wait hk] at hR
      have CT := take_wait g old made v' er b wr hd sx HW.out ho hk
      go_wp2_with fail
      refine CT.mono ?_
      rintro e w1 ⟨rfl, b1⟩
      clear CT
      have ll : w.heap.size < wr.heap.size := (Array.getElem?_eq_some_iff.1 gl).1
      have le : w.heap.size + 1 < wr.heap.size := (Array.getElem?_eq_some_iff.1 ge).1
      have gl2 := (b1.block _ ll).trans gl
      have ge2 := (b1.block _ le).trans ge
      have FN : Hid (TA R g old er v w (.returned (.tuple #[.slice la O.length lc, .int .i64 0])) (((w1.setCell ⟨w.heap.size, 0, none⟩ (.slice la O.length lc)).setCell ⟨w.heap.size + 1, 0, none⟩ (.int .i64 0)).alloc (.cells zop 46)) ∧ (((w1.setCell ⟨w.heap.size, 0, none⟩ (.slice la O.length lc)).setCell ⟨w.heap.size + 1, 0, none⟩ (.int .i64 0)).alloc (.cells zop 46)).cell? ⟨w.heap.size, 0, none⟩ = some (.slice la O.length lc) ∧ (((w1.setCell ⟨w.heap.size, 0, none⟩ (.slice la O.length lc)).setCell ⟨w.heap.size + 1, 0, none⟩ (.int .i64 0)).alloc (.cells zop 46)).cell? ⟨w.heap.size + 1, 0, none⟩ = some (.int .i64 0)) := by
        have hg := HG.out
        have hs := HS0.out
        have hl3 : (w1.setCell ⟨w.heap.size, 0, none⟩ (.slice la O.length lc)).heap[w.heap.size]? = some (.cells #[.slice la O.length lc] 29 (0, 0)) := by rw [heap_setCell_same _ _ _ _ _ _ gl2]; rfl
        have he3 : (w1.setCell ⟨w.heap.size, 0, none⟩ (.slice la O.length lc)).heap[w.heap.size + 1]? = some (.cells #[.int .i64 0] 30 (0, 0)) := (heap_setCell_other _ _ _ _ (by simp)).trans ge2
        have ka : Kp w.heap.size none w1 (w1.setCell ⟨w.heap.size, 0, none⟩ (.slice la O.length lc)) := Kp.set _ _ _ _ _
        have d3 : DB (w1.setCell ⟨w.heap.size, 0, none⟩ (.slice la O.length lc)) g old made v' er := (heap_setCell_other _ _ _ _ (by simp only; omega)).trans (hd.kept b1)
        have s3 : SlX (w1.setCell ⟨w.heap.size, 0, none⟩ (.slice la O.length lc)) v' b := slx_off (sx.kept b1) (fun k hk => heap_setCell_other _ _ _ _ hk) gl2 (sl_u8 _ _ _)
        have o3 := (ox.below b1).kp ka gl2 (by decide) (by decide)
        have k3 := (kp.trans (Kp.of b1)).then ka (.inr (Nat.le_refl _)) (.inl rfl)
        generalize w1.setCell ⟨w.heap.size, 0, none⟩ (.slice la O.length lc) = W3 at *
        have kb : Kp (w.heap.size + 1) none W3 (W3.setCell ⟨w.heap.size + 1, 0, none⟩ (.int .i64 0)) := Kp.set _ _ _ _ _
        have hl4 : (W3.setCell ⟨w.heap.size + 1, 0, none⟩ (.int .i64 0)).heap[w.heap.size]? = some (.cells #[.slice la O.length lc] 29 (0, 0)) := (heap_setCell_other _ _ _ _ (by simp)).trans hl3
        have he4 : (W3.setCell ⟨w.heap.size + 1, 0, none⟩ (.int .i64 0)).heap[w.heap.size + 1]? = some (.cells #[.int .i64 0] 30 (0, 0)) := by rw [heap_setCell_same _ _ _ _ _ _ he3]; rfl
        have d4 : DB (W3.setCell ⟨w.heap.size + 1, 0, none⟩ (.int .i64 0)) g old made v' er := (heap_setCell_other _ _ _ _ (by simp only; omega)).trans d3
        have s4 : SlX (W3.setCell ⟨w.heap.size + 1, 0, none⟩ (.int .i64 0)) v' b := slx_off s3 (fun k hk => heap_setCell_other _ _ _ _ hk) he3 (int_u8 _)
        have o4 := o3.kp kb he3 (by decide) (by decide)
        have k4 := k3.then kb (.inr (Nat.le_add_right _ _)) (.inl rfl)
        generalize W3.setCell ⟨w.heap.size + 1, 0, none⟩ (.int .i64 0) = W4 at *
        have bz : Below W4.heap.size W4 (W4.alloc (.cells zop 46)) := al_below _ _
        have hl5 := (bz.block _ (Array.getElem?_eq_some_iff.1 hl4).1).trans hl4
        have he5 := (bz.block _ (Array.getElem?_eq_some_iff.1 he4).1).trans he4
        refine ⟨⟨k4.trans (Kp.of bz), ?_⟩, by rw [cell_of_row _ _ _ _ _ _ hl5]; rfl, by rw [cell_of_row _ _ _ _ _ _ he5]; rfl⟩
        rw [← hR]
        exact ⟨_, v', rfl, (o4.below bz).mono (by omega), d4.kept bz, s4.kept bz, hv0⟩
      have gl1 := (b1.block _ ll).trans gl
      have ge1 := (b1.block _ le).trans ge
      have c1 : w1.cell? ⟨w.heap.size, 0, none⟩ = some (.slice la O.length lc) := by rw [cell_of_row _ _ _ _ _ _ gl1]; rfl
      have c2 : w1.cell? ⟨w.heap.size + 1, 0, none⟩ = some (.int .i64 0) := by rw [cell_of_row _ _ _ _ _ _ ge1]; rfl
      have c3 : w1.frozen? ⟨w.heap.size, 0, none⟩ = false := frozen_of_row _ _ _ _ _ gl1
      have c4 : w1.frozen? ⟨w.heap.size + 1, 0, none⟩ = false := frozen_of_row _ _ _ _ _ ge1
      have c5 : w.heap.size < w1.heap.size := Nat.lt_of_lt_of_le ll b1.size
      have c6 : w.heap.size + 1 < w1.heap.size := Nat.lt_of_lt_of_le le b1.size
      clear hd sx gl ge ox kp hv0 hvo hB h0 h1 hON hR hbk b1 ll le gl2 ge2 gl1 ge1 HW hk
      generalize O.length = nO at *
      go_wp2
      refine leaves_cons (f := 27) (args := #[.pointer (some ⟨w.heap.size, 0, none⟩), .pointer (some ⟨w.heap.size + 1, 0, none⟩)]) (by simp) (by simp [go_sem]) ?_
      refine (catch_idle _ _ _).mono ?_
      rintro e u' w2 ⟨rfl, rfl, rfl⟩
      obtain ⟨q1, q2, q3⟩ := FN.out
      generalize (((w1.setCell ⟨w.heap.size, 0, none⟩ (.slice la nO lc)).setCell ⟨w.heap.size + 1, 0, none⟩ (.int .i64 0)).alloc (.cells zop 46)) = WZ at *
      refine ⟨_, ?_, q1⟩
      simp [results, Tryd.results17, go_sem, q2, q3]
    | bad k =>
      rw [tks_bad hk] at hR
      have CT := take_pan g old made v' er b wr hd sx HW.out ho k hk
      have hk0 := opA_bad hk
      go_wp2_with fail
      refine CT.mono ?_
      rintro e w1 ⟨rfl, b1⟩
      clear CT
      have ll : w.heap.size < wr.heap.size := (Array.getElem?_eq_some_iff.1 gl).1
      have le : w.heap.size + 1 < wr.heap.size := (Array.getElem?_eq_some_iff.1 ge).1
      have gl1 := (b1.block _ ll).trans gl
      have ge1 := (b1.block _ le).trans ge
      have FN : Hid (TA R g old er v w (.returned (.tuple #[.slice none 0 0, .int .i64 k])) ((w1.setCell ⟨w.heap.size, 0, none⟩ (.slice none 0 0)).setCell ⟨w.heap.size + 1, 0, none⟩ (.int .i64 k)).drew ∧ ((w1.setCell ⟨w.heap.size, 0, none⟩ (.slice none 0 0)).setCell ⟨w.heap.size + 1, 0, none⟩ (.int .i64 k)).drew.cell? ⟨w.heap.size, 0, none⟩ = some (.slice none 0 0) ∧ ((w1.setCell ⟨w.heap.size, 0, none⟩ (.slice none 0 0)).setCell ⟨w.heap.size + 1, 0, none⟩ (.int .i64 k)).drew.cell? ⟨w.heap.size + 1, 0, none⟩ = some (.int .i64 k)) := by
        have hl3 : (w1.setCell ⟨w.heap.size, 0, none⟩ (.slice none 0 0)).heap[w.heap.size]? = some (.cells #[.slice none 0 0] 29 (0, 0)) := by rw [heap_setCell_same _ _ _ _ _ _ gl1]; rfl
        have he3 : (w1.setCell ⟨w.heap.size, 0, none⟩ (.slice none 0 0)).heap[w.heap.size + 1]? = some (.cells #[.int .i64 0] 30 (0, 0)) := (heap_setCell_other _ _ _ _ (by simp)).trans ge1
        have k3 := (kp.trans (Kp.of b1)).then (Kp.set w.heap.size 0 none w1 (.slice none 0 0)) (.inr (Nat.le_refl _)) (.inl rfl)
        generalize w1.setCell ⟨w.heap.size, 0, none⟩ (.slice none 0 0) = W3 at *
        have hl4 : (W3.setCell ⟨w.heap.size + 1, 0, none⟩ (.int .i64 k)).heap[w.heap.size]? = some (.cells #[.slice none 0 0] 29 (0, 0)) := (heap_setCell_other _ _ _ _ (by simp)).trans hl3
        have he4 : (W3.setCell ⟨w.heap.size + 1, 0, none⟩ (.int .i64 k)).heap[w.heap.size + 1]? = some (.cells #[.int .i64 k] 30 (0, 0)) := by rw [heap_setCell_same _ _ _ _ _ _ he3]; rfl
        have k4 := k3.then (Kp.set (w.heap.size + 1) 0 none W3 (.int .i64 k)) (.inr (Nat.le_add_right _ _)) (.inl rfl)
        generalize W3.setCell ⟨w.heap.size + 1, 0, none⟩ (.int .i64 k) = W4 at *
        have bz : Below W4.heap.size W4 W4.drew := (Below.refl _ _).drew
        refine ⟨⟨k4.trans (Kp.of bz), ?_⟩, by rw [cell_of_row _ _ _ _ _ _ ((bz.block _ (Array.getElem?_eq_some_iff.1 hl4).1).trans hl4)]; rfl, by rw [cell_of_row _ _ _ _ _ _ ((bz.block _ (Array.getElem?_eq_some_iff.1 he4).1).trans he4)]; rfl⟩
        rw [← hR, if_neg hk0]
      have c1 : w1.cell? ⟨w.heap.size, 0, none⟩ = some (.slice la O.length lc) := by rw [cell_of_row _ _ _ _ _ _ gl1]; rfl
      have c2 : w1.cell? ⟨w.heap.size + 1, 0, none⟩ = some (.int .i64 0) := by rw [cell_of_row _ _ _ _ _ _ ge1]; rfl
      have c3 : w1.frozen? ⟨w.heap.size, 0, none⟩ = false := frozen_of_row _ _ _ _ _ gl1
      have c4 : w1.frozen? ⟨w.heap.size + 1, 0, none⟩ = false := frozen_of_row _ _ _ _ _ ge1
      have HC1 : Hid (w1.cell? ⟨w.heap.size, 0, none⟩ = some (.slice la O.length lc)) := c1
      clear hd sx gl ge ox kp hv0 hvo hB h0 h1 hON hR hbk b1 ll le gl1 ge1 HW hk
      go_wp2
      refine leaves_cons (f := 27) (args := #[.pointer (some ⟨w.heap.size, 0, none⟩), .pointer (some ⟨w.heap.size + 1, 0, none⟩)]) (by simp) (by simp [go_sem]) ?_
      refine (catch_panicking w.heap.size (w.heap.size + 1) _ _ k [] w1 c1 c3 c2 c4 (by omega)).mono ?_
      rintro e u' w2 ⟨rfl, rfl, rfl⟩
      obtain ⟨q1, q2, q3⟩ := FN.out
      generalize ((w1.setCell ⟨w.heap.size, 0, none⟩ (.slice none 0 0)).setCell ⟨w.heap.size + 1, 0, none⟩ (.int .i64 k)).drew = WZ at *
      show Leaves _ _ _ _ [] FrameMode.returning WZ
      refine ⟨_, ?_, q1⟩
      simp [results, Tryd.results17, go_sem, q2, q3]
    | op x k =>
      by_cases hm : 65536 - made < mkX x
      · rw [tks_long hk hm] at hR
        have CT := take_long g old made v' er b wr hd sx HW.out ho x k hk h0 h1 hm
        go_wp2_with fail
        refine CT.mono ?_
        rintro e w1 ⟨rfl, b1⟩
        clear CT
        have ll : w.heap.size < wr.heap.size := (Array.getElem?_eq_some_iff.1 gl).1
        have le : w.heap.size + 1 < wr.heap.size := (Array.getElem?_eq_some_iff.1 ge).1
        have gl1 := (b1.block _ ll).trans gl
        have ge1 := (b1.block _ le).trans ge
        have FN : Hid (TA R g old er v w (.returned (.tuple #[.slice none 0 0, .int .i64 5])) ((w1.setCell ⟨w.heap.size, 0, none⟩ (.slice none 0 0)).setCell ⟨w.heap.size + 1, 0, none⟩ (.int .i64 5)).drew ∧ ((w1.setCell ⟨w.heap.size, 0, none⟩ (.slice none 0 0)).setCell ⟨w.heap.size + 1, 0, none⟩ (.int .i64 5)).drew.cell? ⟨w.heap.size, 0, none⟩ = some (.slice none 0 0) ∧ ((w1.setCell ⟨w.heap.size, 0, none⟩ (.slice none 0 0)).setCell ⟨w.heap.size + 1, 0, none⟩ (.int .i64 5)).drew.cell? ⟨w.heap.size + 1, 0, none⟩ = some (.int .i64 5)) := by
          have hl3 : (w1.setCell ⟨w.heap.size, 0, none⟩ (.slice none 0 0)).heap[w.heap.size]? = some (.cells #[.slice none 0 0] 29 (0, 0)) := by rw [heap_setCell_same _ _ _ _ _ _ gl1]; rfl
          have he3 : (w1.setCell ⟨w.heap.size, 0, none⟩ (.slice none 0 0)).heap[w.heap.size + 1]? = some (.cells #[.int .i64 0] 30 (0, 0)) := (heap_setCell_other _ _ _ _ (by simp)).trans ge1
          have k3 := (kp.trans (Kp.of b1)).then (Kp.set w.heap.size 0 none w1 (.slice none 0 0)) (.inr (Nat.le_refl _)) (.inl rfl)
          generalize w1.setCell ⟨w.heap.size, 0, none⟩ (.slice none 0 0) = W3 at *
          have hl4 : (W3.setCell ⟨w.heap.size + 1, 0, none⟩ (.int .i64 5)).heap[w.heap.size]? = some (.cells #[.slice none 0 0] 29 (0, 0)) := (heap_setCell_other _ _ _ _ (by simp)).trans hl3
          have he4 : (W3.setCell ⟨w.heap.size + 1, 0, none⟩ (.int .i64 5)).heap[w.heap.size + 1]? = some (.cells #[.int .i64 5] 30 (0, 0)) := by rw [heap_setCell_same _ _ _ _ _ _ he3]; rfl
          have k4 := k3.then (Kp.set (w.heap.size + 1) 0 none W3 (.int .i64 5)) (.inr (Nat.le_add_right _ _)) (.inl rfl)
          generalize W3.setCell ⟨w.heap.size + 1, 0, none⟩ (.int .i64 5) = W4 at *
          have bz : Below W4.heap.size W4 W4.drew := (Below.refl _ _).drew
          refine ⟨⟨k4.trans (Kp.of bz), ?_⟩, by rw [cell_of_row _ _ _ _ _ _ ((bz.block _ (Array.getElem?_eq_some_iff.1 hl4).1).trans hl4)]; rfl, by rw [cell_of_row _ _ _ _ _ _ ((bz.block _ (Array.getElem?_eq_some_iff.1 he4).1).trans he4)]; rfl⟩
          rw [← hR, if_neg (by decide)]
        have c1 : w1.cell? ⟨w.heap.size, 0, none⟩ = some (.slice la O.length lc) := by rw [cell_of_row _ _ _ _ _ _ gl1]; rfl
        have c2 : w1.cell? ⟨w.heap.size + 1, 0, none⟩ = some (.int .i64 0) := by rw [cell_of_row _ _ _ _ _ _ ge1]; rfl
        have c3 : w1.frozen? ⟨w.heap.size, 0, none⟩ = false := frozen_of_row _ _ _ _ _ gl1
        have c4 : w1.frozen? ⟨w.heap.size + 1, 0, none⟩ = false := frozen_of_row _ _ _ _ _ ge1
        have HC1 : Hid (w1.cell? ⟨w.heap.size, 0, none⟩ = some (.slice la O.length lc)) := c1
        clear hd sx gl ge ox kp hv0 hvo hB h0 h1 hON hR hbk b1 ll le gl1 ge1 HW hk
        go_wp2
        refine leaves_cons (f := 27) (args := #[.pointer (some ⟨w.heap.size, 0, none⟩), .pointer (some ⟨w.heap.size + 1, 0, none⟩)]) (by simp) (by simp [go_sem]) ?_
        refine (catch_panicking w.heap.size (w.heap.size + 1) _ _ 5 [] w1 c1 c3 c2 c4 (by omega)).mono ?_
        rintro e u' w2 ⟨rfl, rfl, rfl⟩
        obtain ⟨q1, q2, q3⟩ := FN.out
        generalize ((w1.setCell ⟨w.heap.size, 0, none⟩ (.slice none 0 0)).setCell ⟨w.heap.size + 1, 0, none⟩ (.int .i64 5)).drew = WZ at *
        show Leaves _ _ _ _ [] FrameMode.returning WZ
        refine ⟨_, ?_, q1⟩
        simp [results, Tryd.results17, go_sem, q2, q3]
      · have hR2 := hR
        rw [tks_op hk hm] at hR2
        have CT := take_op g old made v' er b wr hd sx HW.out ho x k hk h0 h1 hm
        obtain ⟨hkp, hbp⟩ := opA_some hk
        have ll : w.heap.size < wr.heap.size := (Array.getElem?_eq_some_iff.1 gl).1
        have le : w.heap.size + 1 < wr.heap.size := (Array.getElem?_eq_some_iff.1 ge).1
        have hmx := mkX_pos x
        obtain ⟨nd, hnd⟩ : ∃ nd, nd = x.d.length := ⟨_, rfl⟩
        rw [← hnd] at CT
        go_wp2_with fail
        refine CT.mono ?_
        rintro e w1 ⟨ua, uc, v2, rfl, ow1, sx1, db1, hob1, kp1⟩
        clear CT
        have hg := HG.out
        have gl1 := (kp1.block _ ll (by omega) (by simp)).trans gl
        have ge1 := (kp1.block _ le (by omega) (by simp)).trans ge
        have ox1 := ox.kp kp1 hd (by decide) (by decide)
        have kpw := kp.trans kp1
        have hs0 := HS0.out
        obtain ⟨W2, hW2⟩ : ∃ W2, W2 = w1.alloc (.cells #[.bool x.c, .int .i64 x.a, .int .i64 x.n, .slice ua nd uc] 46) := ⟨_, rfl⟩
        have b2 : Below w1.heap.size w1 W2 := by rw [hW2]; exact al_below _ _
        have hB1 : W0.heap.size ≤ w1.heap.size := Nat.le_trans hB kp1.size
        have hB2 : W0.heap.size ≤ W2.heap.size := Nat.le_trans hB1 b2.size
        have o1 := OX.one W2 W0.heap.size hB2 x (.slice ua nd uc) (by rw [← hnd]; have := (ow1.mono hB).below b2; rw [hnd] at this ⊢; exact this.1) ow1.2
        have s2 : W2.heap.size = w1.heap.size + 1 := by rw [hW2]; simp
        obtain ⟨W3, hW3⟩ : ∃ W3, W3 = W2.alloc (.cells #[.bool x.c, .int .i64 x.a, .int .i64 x.n, .slice ua nd uc] 46) := ⟨_, rfl⟩
        rw [← hW3, s2] at o1
        have b3 : Below w1.heap.size w1 W3 := by rw [hW3]; exact b2.trans ((al_below _ _).mono b2.size)
        have O1 : Hid (OX W3 W0.heap.size (.slice (some ⟨w1.heap.size + 1, 0, none⟩) 1 1) [x]) := o1
        have OO : Hid (OX W3 W0.heap.size (.slice la O.length lc) O) := ox1.below b3
        have HW3 : Hid ((w1.alloc (.cells #[.bool x.c, .int .i64 x.a, .int .i64 x.n, .slice ua nd uc] 46)).alloc (.cells #[.bool x.c, .int .i64 x.a, .int .i64 x.n, .slice ua nd uc] 46) = W3) := by unfold Hid; rw [hW3, hW2]
        have HBS : Hid (O.length + [x].length ≤ 100000) := by unfold Hid; simp; omega
        have HB3 : Hid (W0.heap.size ≤ W3.heap.size) := Nat.le_trans hB1 b3.size
        have gl3 := (b3.block _ (Nat.lt_of_lt_of_le ll kp1.size)).trans gl1
        have FN : Hid (∀ w4 v4, OX w4 W0.heap.size v4 (O ++ [x]) → Below W0.heap.size W3 w4 → w4.heap[w.heap.size]? = some (.cells #[.slice la O.length lc] 29 (0, 0)) ∧ TL w W0.heap.size g w.heap.size old er v N R (gk - 1) (w4.setCell ⟨w.heap.size, 0, none⟩ v4)) := fun w4 v4 r4 g4 => by
          have gl4 := (g4.block w.heap.size (by omega)).trans gl3
          have ge3 := (b3.block _ (Nat.lt_of_lt_of_le le kp1.size)).trans ge1
          have ge4 := (g4.block (w.heap.size + 1) (by omega)).trans ge3
          have d4 : DB w4 g old (made + mkX x) v2 er := (g4.block g (by omega)).trans (db1.kept b3)
          have hv2 : ∀ q, v2.ownBlock = some q → q < W0.heap.size := fun q e => by
            rw [hob1, hvo] at e
            have := HV.out q e
            omega
          have s4 := (sx1.kept b3).low hv2 g4
          have hc : ∀ q, q ≠ w.heap.size → (w4.setCell ⟨w.heap.size, 0, none⟩ v4).heap[q]? = w4.heap[q]? := fun q hq => heap_setCell_other _ _ _ _ hq
          refine ⟨gl4, b.drop k, O ++ [x], made + mkX x, v4, v2, ?_, hR2, (hc g (by omega)).trans d4, slx_off s4 hc gl4 (sl_u8 _ _ _), ?_, (hc _ (by omega)).trans ge4, r4.kp (Kp.set _ _ _ _ _) gl4 (by decide) (by decide), ?_, by omega, by omega, ?_, ?_, hob1.trans hvo, ?_⟩
          · rw [List.length_drop]; omega
          · rw [heap_setCell_same _ _ _ _ _ _ gl4]; rfl
          · rw [List.length_append, List.length_drop]; simp; omega
          · exact ((kpw.trans (Kp.of b3)).thenB g4 (by omega)).then (Kp.set _ _ _ _ _) (.inr (Nat.le_refl _)) (.inl rfl)
          · intro e; simp at e
          · have := g4.size
            have := HB3.out
            simp [World.setCell]
            omega
        have c1 : w1.cell? ⟨w.heap.size, 0, none⟩ = some (.slice la O.length lc) := by rw [cell_of_row _ _ _ _ _ _ gl1]; rfl
        have c5 : w.heap.size < w1.heap.size := Nat.lt_of_lt_of_le ll kp1.size
        have HGK : Hid (gk - 1 < gk) := by unfold Hid; omega
        clear hd sx gl ge ox kp hv0 hvo hB h0 h1 hON hR hbk ll le gl1 ge1 HW hk hR2 hkp hbp hmx hnd ow1 sx1 db1 hob1 kp1 ox1 kpw hs0 hW2 b2 hB1 hB2 o1 s2 hW3 b3 gl3 hg hm hb
        obtain ⟨nO, hnO⟩ : ∃ nO, nO = O.length := ⟨_, rfl⟩
        rw [← hnO] at OO c1 FN
        clear hnO
        go_wp2_with (at_builtin; rw [HW3.out]; refine wpList_append_ox rfl _ _ rfl W0.heap.size _ O rfl OO.out _ [x] rfl O1.out HBS.out HB3.out (Hid.out ?_))
        unfold Hid
        intro v4 w4 r4 g4
        obtain ⟨gl4, tl⟩ := FN.out w4 v4 r4 g4
        have HTL : Hid (TL w W0.heap.size g w.heap.size old er v N R (gk - 1) (w4.setCell ⟨w.heap.size, 0, none⟩ v4)) := tl
        have c2 : w4.cell? ⟨w.heap.size, 0, none⟩ = some (.slice la nO lc) := by rw [cell_of_row _ _ _ _ _ _ gl4]; rfl
        have c3 : w4.frozen? ⟨w.heap.size, 0, none⟩ = false := frozen_of_row _ _ _ _ _ gl4
        obtain ⟨a4, q4, rfl, -, -, -⟩ := r4.shape
        clear r4 g4 gl4 tl FN OO O1
        generalize (O ++ [x]).length = nO' at *
        go_wp2
        go_roundg (gk - 1)
        case measure => exact HGK.out
        case rel => exact HTL.out
end Go.Proofs.YtfccjeepmhgckaaDoor
