/-
  What the document's Feed answers.
-/
import Derived.Test.YtfccjeepmhgckaaDoorRone
import Derived.Test.YtfccjeepmhgckaaDoorDj
namespace Go.Proofs.YtfccjeepmhgckaaDoor
open Go.RowKit
set_option maxRecDepth 100000

theorem opA_le {old : Int} {b : List Int} {x : Xp} {k : Nat} (hb : ∀ i, 0 ≤ b.getD i 0 ∧ b.getD i 0 < 256) (h : opA old b = .op x k) : k ≤ b.length ∧ (x.c = true → 0 ≤ x.n) := by
  cases b with
  | nil => cases h
  | cons c r =>
    have hr : ∀ i, 0 ≤ r.getD i 0 ∧ r.getD i 0 < 256 := fun i => by have := hb (i + 1); simpa using this
    obtain ⟨n0, n1, u0, u1⟩ := nU_le r hr
    rw [opA_cons] at h
    split at h
    · obtain ⟨i, e, rfl⟩ := on_op h
      unfold datA at e
      split at e
      · cases e
      split at e
      · split at e
        · cases e
        split at e
        · cases e
        split at e
        · cases e
        · cases e
          rename_i h5
          exact ⟨by rw [List.length_cons]; omega, fun q => by cases q⟩
      · cases e
    split at h
    · obtain ⟨i, e, rfl⟩ := on_op h
      unfold copA at e
      split at e
      · cases e
      split at e
      · obtain ⟨j, e2, rfl⟩ := on_op e
        have hr2 : ∀ i, 0 ≤ (r.drop (nU r).toNat).getD i 0 ∧ (r.drop (nU r).toNat).getD i 0 < 256 := fun i => by have := hr ((nU r).toNat + i); simpa [List.getD, List.getElem?_drop] using this
        obtain ⟨m0, m1, v0, v1⟩ := nU_le _ hr2
        have hl : (r.drop (nU r).toNat).length = r.length - (nU r).toNat := List.length_drop
        unfold copB at e2
        split at e2
        · cases e2
        split at e2
        · split at e2
          · cases e2
            exact ⟨by rw [List.length_cons]; omega, fun _ => m0⟩
          · cases e2
        · cases e2
      · cases e
    · cases h
/-- A decoder of the document, as a variable. -/
def RB (w : World) (g : Nat) (old made : Int) (v : Value) (er : Int) : Prop := w.heap[g]? = some (.cells #[.int .i64 old, .int .i64 made, v, .int .i64 er] 28 (0, 0))
theorem RB.lt {w : World} {g : Nat} {old made : Int} {v : Value} {er : Int} (h : RB w g old made v er) : g < w.heap.size := (Array.getElem?_eq_some_iff.1 h).1
theorem RB.kept {w w' : World} {g : Nat} {old made : Int} {v : Value} {er : Int} (h : RB w g old made v er) (hb : Below w.heap.size w w') : RB w' g old made v er := (hb.block g h.lt).trans h
theorem RB.cells {w : World} {g : Nat} {old made : Int} {v : Value} {er : Int} (h : RB w g old made v er) : w.cell? ⟨g, 0, none⟩ = some (.int .i64 old) ∧ w.cell? ⟨g, 1, none⟩ = some (.int .i64 made) ∧ w.cell? ⟨g, 2, none⟩ = some v ∧ w.cell? ⟨g, 3, none⟩ = some (.int .i64 er) := cell4 h
theorem RB.free {w : World} {g : Nat} {old made : Int} {v : Value} {er : Int} (h : RB w g old made v er) : ∀ i, w.frozen? ⟨g, i, none⟩ = false := fun _ => frozen_of_row _ _ _ _ _ h
theorem RB.st {w : World} {g : Nat} {old made : Int} {v : Value} {er : Int} (h : RB w g old made v er) (o2 m2 : Int) (v2 : Value) (e2 : Int) : RB (st4 w g (.int .i64 o2) (.int .i64 m2) v2 (.int .i64 e2)) g o2 m2 v2 e2 := st4_block _ _ _ _ _ _ h
theorem RB.off {w w' : World} {g k : Nat} {old made : Int} {v : Value} {er : Int} (h : RB w g old made v er) (ho : ∀ i, i ≠ k → w'.heap[i]? = w.heap[i]?) (hk : g ≠ k) : RB w' g old made v er := (ho g hk).trans h
abbrev zrd : Array Value := #[.int .i64 0, .int .i64 0, .slice none 0 0, .int .i64 0]
/-- What the loop holds. -/
def FL (w : World) (B : Nat) (old made0 : Int) (rv : Value) (N : Nat) (R : Int × List Xp × Int × List Int) (k : Nat) (lv : Value) (wr : World) : Prop :=
  ∃ (b : List Int) (O : List Xp) (made : Int) (v : Value), b.length < k ∧ tks old made b O = R ∧ RB wr w.heap.size old made v 0 ∧ SlX wr v b ∧ RB wr (w.heap.size + 1) 0 0 (.slice none 0 0) 0 ∧ RB wr (w.heap.size + 2) old made0 rv 0 ∧
    OX wr B lv O ∧ O.length + b.length ≤ N ∧ 0 ≤ made ∧ made ≤ 65536 ∧ Below w.heap.size w wr ∧ (∀ i, v.ownBlock = some i → w.heap.size ≤ i ∧ i < B) ∧ B ≤ wr.heap.size ∧ w.heap.size + 3 ≤ B
/-- What stands where the next round begins. -/
def NX (x : Xp) (ob : Nat) (ua : Option Addr) (nd uc : Nat) (w : World) (B : Nat) (old made0 m2 : Int) (rv : Value) (N : Nat) (R : Int × List Xp × Int × List Int) (gk : Nat) (lv : Value) (O : List Xp) (v v2 : Value) (w9 : World) : Prop :=
  ∃ W10 W11 W12, W10 = w9.setCell ⟨w.heap.size, 1, none⟩ (.int .i64 m2) ∧ W11 = W10.setCell ⟨w.heap.size, 2, none⟩ v2 ∧ W12 = W11.alloc (.cells #[.bool x.c, .int .i64 x.a, .int .i64 x.n, .slice ua nd uc] 46) ∧ RB W10 w.heap.size old m2 v 0 ∧
    W11.heap[ob]? = some (.cells #[.bool x.c, .int .i64 x.a, .int .i64 x.n, .slice ua nd uc] 46 (0, 0)) ∧ OX W12 B (.slice (some ⟨W11.heap.size, 0, none⟩) 1 1) [x] ∧ OX W12 B lv O ∧ B ≤ W12.heap.size ∧ ∀ v13 w13, OX w13 B v13 (O ++ [x]) → Below B W12 w13 → FL w B old made0 rv N R (gk - 1) v13 w13
theorem nx {w w9 : World} {B N ob gk k : Nat} {old made0 made : Int} {rv v v2 lv : Value} {b : List Int} {O : List Xp} {x : Xp} {ua : Option Addr} {uc : Nat} {R : Int × List Xp × Int × List Int}
    (k0 : RB w9 w.heap.size old made v 0) (k1 : RB w9 (w.heap.size + 1) 0 0 (.slice none 0 0) 0) (k2 : RB w9 (w.heap.size + 2) old made0 rv 0) (ox : OX w9 B lv O) (ow : Ow w9 B (.slice ua x.d.length uc) x.d) (gx : w9.heap[ob]? = some (.cells #[.bool x.c, .int .i64 x.a, .int .i64 x.n, .slice ua x.d.length uc] 46 (0, 0))) (hob : ob ≠ w.heap.size) (sx : SlX w9 v2 (b.drop k)) (hv : ∃ a n c, v = .slice a n c) (hv2 : ∃ a n c, v2 = .slice a n c)
    (hvo : ∀ i, v2.ownBlock = some i → w.heap.size ≤ i ∧ i < B) (bw : Below w.heap.size w w9) (hB : B ≤ w9.heap.size) (hB3 : w.heap.size + 3 ≤ B) (hR : tks old (made + mkX x) (b.drop k) (O ++ [x]) = R) (hk : 0 < k) (hbl : 0 < b.length) (hbk : b.length < gk) (hON : O.length + b.length ≤ N) (h0 : 0 ≤ made + mkX x) (h1 : made + mkX x ≤ 65536) :
    NX x ob ua x.d.length uc w B old made0 (made + mkX x) rv N R gk lv O v v2 w9 := by
  obtain ⟨va, vn, vc, rfl⟩ := hv
  obtain ⟨ua2, un2, uc2, rfl⟩ := hv2
  obtain ⟨W10, hW10⟩ : ∃ W10, W10 = w9.setCell ⟨w.heap.size, 1, none⟩ (.int .i64 (made + mkX x)) := ⟨_, rfl⟩
  obtain ⟨W11, hW11⟩ : ∃ W11, W11 = W10.setCell ⟨w.heap.size, 2, none⟩ (.slice ua2 un2 uc2) := ⟨_, rfl⟩
  obtain ⟨W12, hW12⟩ : ∃ W12, W12 = W11.alloc (.cells #[.bool x.c, .int .i64 x.a, .int .i64 x.n, .slice ua x.d.length uc] 46) := ⟨_, rfl⟩
  have q1 : ∀ i, i ≠ w.heap.size → W10.heap[i]? = w9.heap[i]? := fun i hi => by rw [hW10]; exact sc_other _ _ _ _ _ hi
  have q2 : ∀ i, i ≠ w.heap.size → W11.heap[i]? = W10.heap[i]? := fun i hi => by rw [hW11]; exact sc_other _ _ _ _ _ hi
  have s1 : W10.heap.size = w9.heap.size := by rw [hW10]; simp [World.setCell]
  have s2 : W11.heap.size = w9.heap.size := by rw [hW11, ← s1]; simp [World.setCell]
  have r10 : RB W10 w.heap.size old (made + mkX x) (.slice va vn vc) 0 := by unfold RB; rw [hW10, heap_setCell_same _ _ _ _ _ _ k0]; rfl
  have r11 : RB W11 w.heap.size old (made + mkX x) (.slice ua2 un2 uc2) 0 := by unfold RB; rw [hW11, heap_setCell_same _ _ _ _ _ _ r10]; rfl
  have p1 : Kp w.heap.size none w9 W10 := by rw [hW10]; exact Kp.set _ _ _ _ _
  have p2 : Kp w.heap.size none W10 W11 := by rw [hW11]; exact Kp.set _ _ _ _ _
  have ox11 : OX W11 B lv O := (ox.kp p1 k0 (by decide) (by decide)).kp p2 r10 (by decide) (by decide)
  have ow11 : Ow W11 B (.slice ua x.d.length uc) x.d := ow_off (ow_off ow q1 k0 (by decide)) q2 r10 (by decide)
  have sx11 : SlX W11 (.slice ua2 un2 uc2) (b.drop k) := slx_off (slx_off sx q1 k0 (db_u8 _ _ _ _ _ _)) q2 r10 (db_u8 _ _ _ _ _ _)
  have b12 : Below W11.heap.size W11 W12 := by rw [hW12]; exact al_below _ _
  have k1' : RB W11 (w.heap.size + 1) 0 0 (.slice none 0 0) 0 := (k1.off q1 (by omega)).off q2 (by omega)
  have k2' : RB W11 (w.heap.size + 2) old made0 rv 0 := (k2.off q1 (by omega)).off q2 (by omega)
  have bw11 : Below w.heap.size w W11 := (bw.trans (show Below w.heap.size w9 W10 by rw [hW10]; exact sc_below w.heap.size _ w.heap.size 1 _ (Nat.le_refl _))).trans (show Below w.heap.size W10 W11 by rw [hW11]; exact sc_below w.heap.size _ w.heap.size 2 _ (Nat.le_refl _))
  have o1 : OX W12 B (.slice (some ⟨W11.heap.size, 0, none⟩) 1 1) [x] := by rw [hW12]; exact OX.one W11 B (by omega) x _ ow11.1 ow11.2
  have sz12 : B ≤ W12.heap.size := Nat.le_trans (by omega) b12.size
  refine ⟨W10, W11, W12, hW10, hW11, hW12, r10, (q2 ob hob).trans ((q1 ob hob).trans gx), o1, ox11.below b12, sz12, fun v13 w13 o13 b13 => ?_⟩
  refine ⟨b.drop k, O ++ [x], made + mkX x, _, ?_, hR, (b13.block _ (by omega)).trans (r11.kept b12), (sx11.kept b12).low (fun i e => (hvo i e).2) b13, (b13.block _ (by omega)).trans (k1'.kept b12), (b13.block _ (by omega)).trans (k2'.kept b12), o13, ?_, h0, h1, (bw11.trans (b12.mono bw11.size)).trans (b13.mono (by omega)), hvo, Nat.le_trans sz12 b13.size, hB3⟩
  · rw [List.length_drop]; omega
  · rw [List.length_append, List.length_drop]; simp only [List.length_cons, List.length_nil]; omega
/-- What is told: with no error, and with one. -/
def RQ (old made : Int) (rv : Value) (R : Int × List Xp × Int × List Int) (w : World) (e : Ending) (w' : World) : Prop :=
  Below w.heap.size w w' ∧ if R.1 = 0 then ∃ rv' lv, e = .returned (.tuple #[.agg #[.int .i64 old, .int .i64 R.2.2.1, rv', .int .i64 0], lv, .int .i64 0]) ∧ SlX w' rv' R.2.2.2 ∧ OX w' w.heap.size lv R.2.1 ∧ (∀ i, rv'.ownBlock = some i → w.heap.size ≤ i ∧ i < w'.heap.size)
    else e = .returned (.tuple #[.agg #[.int .i64 old, .int .i64 made, rv, .int .i64 R.1], .slice none 0 0, .int .i64 R.1])
/-- The end without an error. -/
theorem fin_ok {w W : World} {B : Nat} {old made0 made : Int} {rv v : Value} {b : List Int} {O : List Xp} {la : Option Addr} {lc : Nat} (h0 : RB W w.heap.size old made v 0) (h1 : RB W (w.heap.size + 1) 0 0 (.slice none 0 0) 0) (hs : SlX W v b) (hv : ∃ a n c, v = .slice a n c) (hx : OX W B (.slice la O.length lc) O) (hB : w.heap.size ≤ B) (hb : Below w.heap.size w W) (ho : ∀ i, v.ownBlock = some i → w.heap.size ≤ i ∧ i < W.heap.size) :
    RQ old made0 rv (0, O, made, b) w (.returned (.tuple #[.agg #[.int .i64 old, .int .i64 made, v, .int .i64 0], .slice la O.length lc, .int .i64 0])) (st4 W (w.heap.size + 1) (.int .i64 old) (.int .i64 made) v (.int .i64 0)) := by
  obtain ⟨a, n, c, rfl⟩ := hv
  have ho' : ∀ k, k ≠ w.heap.size + 1 → (st4 W (w.heap.size + 1) (.int .i64 old) (.int .i64 made) (.slice a n c) (.int .i64 0)).heap[k]? = W.heap[k]? := fun k hk => st4_other _ _ _ _ _ _ k hk
  refine ⟨hb.trans (st4_below _ _ _ _ _ _ _ (by omega)), ?_⟩
  show if (0 : Int) = 0 then _ else _
  rw [if_pos rfl]
  refine ⟨_, _, rfl, slx_off hs ho' h1 (db_u8 _ _ _ _ _ _), ?_, fun i e => by rw [st4_size]; exact ho i e⟩
  obtain ⟨U, y1, y2⟩ := hx
  have k : Kp (w.heap.size + 1) none W (st4 W (w.heap.size + 1) (.int .i64 old) (.int .i64 made) (.slice a n c) (.int .i64 0)) := Kp.st4 _ _ _ _ _ _ _
  have hx2 : OX (st4 W (w.heap.size + 1) (.int .i64 old) (.int .i64 made) (.slice a n c) (.int .i64 0)) B (.slice la O.length lc) O := OX.kp ⟨U, y1, y2⟩ k h1 (by decide) (by decide)
  exact hx2.mono hB
theorem fin_bad {w W : World} {old made0 : Int} {rv : Value} {er : Int} {P : List Xp × Int × List Int} (hb : Below w.heap.size w W) (he : er ≠ 0) :
    RQ old made0 rv (er, P) w (.returned (.tuple #[.agg #[.int .i64 old, .int .i64 made0, rv, .int .i64 er], .slice none 0 0, .int .i64 er])) (st4 W (w.heap.size + 1) (.int .i64 old) (.int .i64 made0) rv (.int .i64 er)) := by
  refine ⟨hb.trans (st4_below _ _ _ _ _ _ _ (by omega)), ?_⟩
  show if er = 0 then _ else _
  rw [if_neg he]
set_option maxHeartbeats 8000000 in
theorem rfeed_go (old made0 : Int) (rv v : Value) (rest b : List Int) (w : World) (hs : SlX w rv rest) (sv : Sl w v b) (h0 : 0 ≤ made0) (h1 : made0 ≤ 65536) (ho : old ≤ 9223372036854775807) (hbig : rest.length + b.length ≤ 90000) :
    Calls Tryd.prog 8 #[.agg #[.int .i64 old, .int .i64 made0, rv, .int .i64 0], v] w fun e w' => RQ old made0 rv (tks old made0 (rest ++ b) []) w e w' := by
  obtain ⟨W0, hW0⟩ : ∃ W0, W0 = (w.alloc (.cells #[.int .i64 old, .int .i64 made0, rv, .int .i64 0] 28)).alloc (.cells zrd 28) := ⟨_, rfl⟩
  obtain ⟨Wa, hWa⟩ : ∃ Wa, Wa = W0.alloc (.cells zrd 28) := ⟨_, rfl⟩
  have b0 : Below w.heap.size w W0 := by rw [hW0]; exact ((Below.refl _ _).alloc (Nat.le_refl _) _).alloc (by simp) _
  have s0 : W0.heap.size = w.heap.size + 2 := by rw [hW0]; simp
  have g0 : RB W0 w.heap.size old made0 rv 0 := by
    rw [hW0]
    exact ((al_below (w.alloc (.cells #[.int .i64 old, .int .i64 made0, rv, .int .i64 0] 28)) _).block _ (by simp)).trans (heap_alloc_new _ _)
  have g1 : RB W0 (w.heap.size + 1) 0 0 (.slice none 0 0) 0 := by
    rw [hW0]
    have := heap_alloc_new (w.alloc (.cells #[.int .i64 old, .int .i64 made0, rv, .int .i64 0] 28)) (.cells zrd 28)
    rw [show (w.alloc (.cells #[.int .i64 old, .int .i64 made0, rv, .int .i64 0] 28)).heap.size = w.heap.size + 1 by simp] at this
    exact this
  have ba : Below W0.heap.size W0 Wa := by rw [hWa]; exact al_below _ _
  have ga : RB Wa (w.heap.size + 2) 0 0 (.slice none 0 0) 0 := by
    rw [hWa, ← s0]
    exact heap_alloc_new _ _
  obtain ⟨W1, hW1⟩ : ∃ W1, W1 = st4 Wa (w.heap.size + 2) (.int .i64 old) (.int .i64 made0) rv (.int .i64 0) := ⟨_, rfl⟩
  have o1 : ∀ k, k ≠ w.heap.size + 2 → W1.heap[k]? = Wa.heap[k]? := fun k hk => by rw [hW1]; exact st4_other _ _ _ _ _ _ k hk
  have b1 : Below w.heap.size w W1 := (b0.trans (ba.mono b0.size)).trans (by rw [hW1]; exact st4_below _ _ _ _ _ _ _ (by omega))
  have r0 : RB W1 w.heap.size old made0 rv 0 := (g0.kept ba).off o1 (by omega)
  have r1 : RB W1 (w.heap.size + 1) 0 0 (.slice none 0 0) 0 := (g1.kept ba).off o1 (by omega)
  have r2 : RB W1 (w.heap.size + 2) old made0 rv 0 := by rw [hW1]; exact ga.st _ _ _ _
  have s1 : W1.heap.size = w.heap.size + 3 := by rw [hW1, st4_size, hWa]; simp [s0]
  obtain ⟨W2, hW2⟩ : ∃ W2, W2 = W1.alloc (.cells #[] 5) := ⟨_, rfl⟩
  have b2 : Below W1.heap.size W1 W2 := by rw [hW2]; exact al_below _ _
  have E2 : Hid (Ow W2 W1.heap.size (.slice (some ⟨W1.heap.size, 0, none⟩) 0 0) []) := by unfold Hid; rw [hW2]; exact ow_empty W1
  have B2 : Hid (Below w.heap.size w W2) := b1.trans (b2.mono b1.size)
  have HSR : Hid (∀ W, Below w.heap.size w W → SlX W rv rest) := fun W hb => hs.kept hb
  have HSV : Hid (∀ W, Below w.heap.size w W → Sl W v b) := fun W hb => sv.kept hb
  have HBY : Hid (∀ i, 0 ≤ (rest ++ b).getD i 0 ∧ (rest ++ b).getD i 0 < 256) := fun i => by
    by_cases hi : i < rest.length
    · have := hs.1.bytes i
      simpa [List.getD, List.getElem?_append_left hi] using this
    · have := sv.bytes (i - rest.length)
      simpa [List.getD, List.getElem?_append_right (show rest.length ≤ i by omega)] using this
  obtain ⟨R, hR⟩ : ∃ R, R = tks old made0 (rest ++ b) [] := ⟨_, rfl⟩
  -- what the loop begins with
  have HST : Hid (∀ w4 v4, Ow w4 W1.heap.size v4 (rest ++ b) → Below W1.heap.size W2 w4 → RB w4 w.heap.size old made0 rv 0 ∧ FL w w4.heap.size old made0 rv (rest ++ b).length R ((rest ++ b).length + 1) (.slice none 0 0) (w4.setCell ⟨w.heap.size, 2, none⟩ v4)) := fun w4 v4 o4 b4 => by
    have b14 := b2.trans b4
    have q0 := r0.kept b14
    have q1 := r1.kept b14
    have q2 := r2.kept b14
    have hof : ∀ k, k ≠ w.heap.size → (w4.setCell ⟨w.heap.size, 2, none⟩ v4).heap[k]? = w4.heap[k]? := fun k hk => heap_setCell_other _ _ _ _ hk
    have o5 := ow_off o4 hof q0 (by decide)
    have hsz := b14.size
    refine ⟨q0, rest ++ b, [], made0, v4, by omega, hR.symm, ?_, o5.slx, q1.off hof (by omega), q2.off hof (by omega), OX.nil _ _, by simp, h0, h1, (b1.trans (b14.mono b1.size)).trans (sc_below _ _ _ _ _ (Nat.le_refl _)), fun i e => ?_, ?_, by omega⟩
    · unfold RB; rw [heap_setCell_same _ _ _ _ _ _ q0]; rfl
    · have := own_lt o5.1 i e
      have e3 : (w4.setCell ⟨w.heap.size, 2, none⟩ v4).heap.size = w4.heap.size := by simp [World.setCell]
      omega
    · simp [World.setCell]
  obtain ⟨c0, c1, c2, c3⟩ := g0.cells
  have f0 := g0.free
  obtain ⟨m0, m1, m2, m3⟩ := ga.cells
  have fa := ga.free
  obtain ⟨a0, a1, a2, a3⟩ := (g0.kept ba).cells
  have hw0 := hW0.symm
  have hwa := hWa.symm
  have hw1 : (((Wa.setCell ⟨w.heap.size + 2, 0, none⟩ (.int .i64 old)).setCell ⟨w.heap.size + 2, 1, none⟩ (.int .i64 made0)).setCell ⟨w.heap.size + 2, 2, none⟩ rv).setCell ⟨w.heap.size + 2, 3, none⟩ (.int .i64 0) = W1 := hW1.symm
  have hw2 := hW2.symm
  obtain ⟨d0, d1, d2, d3⟩ := (r0.kept b2).cells
  obtain ⟨ra, rc, hrv, -⟩ := id hs.1
  obtain ⟨va, vc, hv, -⟩ := id sv
  have HL : Hid (rest.length + b.length ≤ 90000) := hbig
  have HLE : Hid ((rest ++ b).length ≤ 90000) := by unfold Hid; rw [List.length_append]; exact hbig
  have HS1 : Hid (W1.heap.size ≤ W2.heap.size) := b2.size
  have HSW : Hid (W1.heap.size = w.heap.size + 3) := s1
  rw [← hR]
  clear hbig hs sv b0 g0 g1 ga ba b1 o1 r0 r1 r2 s1 b2 hW0 hWa hW1 hW2 h0 h1 hR
  subst hrv hv
  generalize hnr : rest.length = nr at *
  generalize hnb : b.length = nb at *
  have HNR : Hid (rest.length = nr) := hnr
  have HNB : Hid (b.length = nb) := hnb
  clear hnr hnb
  go_enter Tryd.func8, Tryd.ntmps8
  go_wp2_with (at_builtin; refine wpList_append_ow rfl _ _ rfl W1.heap.size _ [] rfl E2.out _ rest rfl (HSR.out _ B2.out).1 (by have := HL.out; have := HNR.out; simp only [List.length_nil]; omega) HS1.out (Hid.out ?_))
  unfold Hid
  intro v3 w3 o3 b3
  try rw [List.nil_append] at o3
  have B3 : Hid (Below w.heap.size w w3) := B2.out.trans (b3.mono (by have := HSW.out; omega))
  have B23 : Hid (Below W1.heap.size W2 w3) := b3
  have O3 : Hid (Ow w3 W1.heap.size v3 rest) := o3
  obtain ⟨a3', c3', rfl⟩ := o3.shape
  rw [HNR.out] at O3 ⊢
  clear o3 b3 d0 d1 d2 d3 c0 c1 c2 c3 f0 m0 m1 m2 m3 fa a0 a1 a2 a3 hw0 hwa hw1 hw2 E2 s0
  go_wp2_with (at_builtin; refine wpList_append_ow rfl _ _ rfl W1.heap.size _ rest rfl O3.out _ b rfl (HSV.out _ B3.out) (by have := HL.out; have := HNR.out; have := HNB.out; omega) (Nat.le_trans HS1.out B23.out.size) (Hid.out ?_))
  unfold Hid
  intro v4 w4 o4 b4
  obtain ⟨q0, fl⟩ := HST.out w4 v4 o4 (B23.out.trans b4)
  obtain ⟨c0, c1, c2, c3⟩ := q0.cells
  have f0 := q0.free
  have FLH : Hid (FL w w4.heap.size old made0 (.slice ra nr rc) (rest ++ b).length R ((rest ++ b).length + 1) (.slice none 0 0) (w4.setCell ⟨w.heap.size, 2, none⟩ v4)) := fl
  obtain ⟨a4, c4, rfl⟩ := o4.shape
  clear o4 b4 q0 fl HST O3 B3 B23 B2 HSR HSV HBY
  generalize (rest ++ b).length = N at *
  generalize w4.heap.size = B at *
  go_wp2_with fail
  generalize w4.setCell ⟨w.heap.size, 2, none⟩ (.slice a4 N c4) = W5 at *
  clear c0 c1 c2 c3 f0 HL HS1 HSW HNR HNB
  go_loopg [8] (N + 1) (fun k q wr => FL w B old made0 (.slice ra nr rc) N R k q wr)
  case atStart => exact FLH.out
  case round =>
    clear FLH
    obtain ⟨b, O, made, v, hbk, hR, k0, sx, k1, k2, ox, hON, h0, h1, bw, hvo, hB, hB3⟩ := hrel
    obtain ⟨va, vc, rfl, -⟩ := id sx.1
    obtain ⟨la, lc, rfl, -, -, -⟩ := ox.shape
    have hby := sx.1.bytes
    by_cases hb0 : b.length = 0
    · obtain rfl : b = [] := List.length_eq_zero_iff.1 hb0
      rw [tks_wait (opA_nil old)] at hR
      obtain ⟨L, hL⟩ : ∃ L, L = ([] : List Int).length := ⟨_, rfl⟩
      rw [← hL] at k0 sx hvo
      obtain ⟨nO, hnO⟩ : ∃ nO, nO = O.length := ⟨_, rfl⟩
      have hQ := fin_ok (made0 := made0) (rv := .slice ra nr rc) k0 k1 sx ⟨_, _, _, rfl⟩ ox (by omega) bw (fun i e => ⟨(hvo i e).1, Nat.lt_of_lt_of_le (hvo i e).2 hB⟩)
      rw [hR, ← hnO] at hQ
      try rw [← hnO]
      have ZB : Hid (RB (st4 wr (w.heap.size + 1) (.int .i64 old) (.int .i64 made) (.slice va L vc) (.int .i64 0)) (w.heap.size + 1) old made (.slice va L vc) 0) := k1.st _ _ _ _
      have ZQ : Hid (RQ old made0 (.slice ra nr rc) R w (.returned (.tuple #[.agg #[.int .i64 old, .int .i64 made, .slice va L vc, .int .i64 0], .slice la nO lc, .int .i64 0])) (st4 wr (w.heap.size + 1) (.int .i64 old) (.int .i64 made) (.slice va L vc) (.int .i64 0))) := hQ
      obtain ⟨x0, x1, x2, x3⟩ := k0.cells
      obtain ⟨y0, y1, y2, y3⟩ := k1.cells
      have fy := k1.free
      have hL0 : ¬ (0 : Int) < (L : Int) := by rw [hL]; decide
      clear hQ k0 k1 k2 sx ox hON h0 h1 bw hvo hB hB3 hR hbk hby hb0 hnO hL
      go_wp2
      rw [st4_eq]
      obtain ⟨z0, z1, z2, z3⟩ := ZB.out.cells
      have ZQ2 := ZQ.out
      generalize st4 wr (w.heap.size + 1) (.int .i64 old) (.int .i64 made) (.slice va L vc) (.int .i64 0) = WZ at *
      refine bodyPost_ret (v := .tuple #[.agg #[.int .i64 old, .int .i64 made, .slice va L vc, .int .i64 0], .slice la nO lc, .int .i64 0]) ?h rfl ?_
      case h => simp [results, Tryd.results8, go_sem, z0, z1, z2, z3]
      exact ZQ2
    · have CO := rone_any _ b old wr sx (by omega) ho
      have hlp : (0 : Int) < (b.length : Int) := by omega
      cases hk : opA old b with
      | wait =>
        rw [tks_wait hk] at hR
        rw [hk] at CO
        obtain ⟨L, hL⟩ : ∃ L, L = b.length := ⟨_, rfl⟩
        rw [← hL] at k0 sx hvo CO hlp
        obtain ⟨nO, hnO⟩ : ∃ nO, nO = O.length := ⟨_, rfl⟩
        have FQ : Hid (∀ W, Below wr.heap.size wr W → RB W w.heap.size old made (.slice va L vc) 0 ∧ RB W (w.heap.size + 1) 0 0 (.slice none 0 0) 0 ∧ RQ old made0 (.slice ra nr rc) R w (.returned (.tuple #[.agg #[.int .i64 old, .int .i64 made, .slice va L vc, .int .i64 0], .slice la nO lc, .int .i64 0])) (st4 W (w.heap.size + 1) (.int .i64 old) (.int .i64 made) (.slice va L vc) (.int .i64 0))) := fun W hb => by
          have hQ := fin_ok (made0 := made0) (rv := .slice ra nr rc) (k0.kept hb) (k1.kept hb) (sx.kept hb) ⟨_, _, _, rfl⟩ (ox.below hb) (by omega) (bw.trans (hb.mono bw.size)) (fun i e => ⟨(hvo i e).1, Nat.lt_of_lt_of_le (hvo i e).2 (Nat.le_trans hB hb.size)⟩)
          rw [hR, ← hnO] at hQ
          exact ⟨k0.kept hb, k1.kept hb, hQ⟩
        try rw [← hnO]
        obtain ⟨x0, x1, x2, x3⟩ := k0.cells
        clear k0 k1 k2 sx ox hON h0 h1 bw hvo hB hB3 hR hbk hby hb0 hnO hL hk
        go_wp2_with fail
        refine CO.mono ?_
        rintro e w1 ⟨b1, hp⟩
        simp only at hp
        subst hp
        clear CO x0 x1 x2 x3
        have HB1 : Hid (Below wr.heap.size wr w1) := b1
        clear b1
        go_wp2_with fail
        have b7 := al_below w1 (.cells zop 46)
        generalize w1.alloc (.cells zop 46) = W7 at *
        go_quiet (fail)
        obtain ⟨W8, hW8⟩ : ∃ W8, W8 = W7.drewN nq := ⟨_, rfl⟩
        have b8 : Below wr.heap.size wr W8 := (HB1.out.trans (b7.mono HB1.out.size)).trans (by rw [hW8]; exact (below_drewN (Below.refl _ _) _ : Below W7.heap.size W7 _).mono (Nat.le_trans HB1.out.size b7.size))
        obtain ⟨j0, j1, jq⟩ := FQ.out W8 b8
        rw [← hW8]
        clear hW8 b8 b7 HB1 FQ
        have ZB : Hid (RB (st4 W8 (w.heap.size + 1) (.int .i64 old) (.int .i64 made) (.slice va L vc) (.int .i64 0)) (w.heap.size + 1) old made (.slice va L vc) 0) := j1.st _ _ _ _
        have ZQ : Hid (RQ old made0 (.slice ra nr rc) R w (.returned (.tuple #[.agg #[.int .i64 old, .int .i64 made, .slice va L vc, .int .i64 0], .slice la nO lc, .int .i64 0])) (st4 W8 (w.heap.size + 1) (.int .i64 old) (.int .i64 made) (.slice va L vc) (.int .i64 0))) := jq
        obtain ⟨x0, x1, x2, x3⟩ := j0.cells
        obtain ⟨y0, y1, y2, y3⟩ := j1.cells
        have fy := j1.free
        clear j0 j1 jq
        go_wp2
        rw [st4_eq]
        obtain ⟨z0, z1, z2, z3⟩ := ZB.out.cells
        have ZQ2 := ZQ.out
        generalize st4 W8 (w.heap.size + 1) (.int .i64 old) (.int .i64 made) (.slice va L vc) (.int .i64 0) = WZ at *
        refine bodyPost_ret (v := .tuple #[.agg #[.int .i64 old, .int .i64 made, .slice va L vc, .int .i64 0], .slice la nO lc, .int .i64 0]) ?h rfl ?_
        case h => simp [results, Tryd.results8, go_sem, z0, z1, z2, z3]
        exact ZQ2
      | bad k =>
        rw [tks_bad hk] at hR
        rw [hk] at CO
        have hk0 := opA_bad hk
        have tk : (k == 0) = false := by simpa using hk0
        have tk2 : (k != 0) = true := by simpa using hk0
        obtain ⟨L, hL⟩ : ∃ L, L = b.length := ⟨_, rfl⟩
        rw [← hL] at k0 sx hvo CO hlp
        have FQ : Hid (∀ W, Below wr.heap.size wr W → RB W (w.heap.size + 1) 0 0 (.slice none 0 0) 0 ∧ RB W (w.heap.size + 2) old made0 (.slice ra nr rc) 0 ∧ Below w.heap.size w W) := fun W hb => ⟨k1.kept hb, k2.kept hb, bw.trans (hb.mono bw.size)⟩
        have HR : Hid (R = (k, [], 0, [])) := hR.symm
        have HK0 : Hid (k ≠ 0) := hk0
        obtain ⟨x0, x1, x2, x3⟩ := k0.cells
        clear k0 k1 k2 sx ox hON h0 h1 bw hvo hB hB3 hR hbk hby hb0 hL hk hk0
        go_wp2_with fail
        refine CO.mono ?_
        rintro e w1 ⟨b1, hp⟩
        simp only at hp
        subst hp
        clear CO x0 x1 x2 x3
        have HB1 : Hid (Below wr.heap.size wr w1) := b1
        clear b1
        go_wp2_with fail
        have b7 := al_below w1 (.cells zop 46)
        generalize w1.alloc (.cells zop 46) = W7 at *
        go_quiet (fail)
        obtain ⟨W8, hW8⟩ : ∃ W8, W8 = W7.drewN nq := ⟨_, rfl⟩
        have b8 : Below wr.heap.size wr W8 := (HB1.out.trans (b7.mono HB1.out.size)).trans (by rw [hW8]; exact (below_drewN (Below.refl _ _) _ : Below W7.heap.size W7 _).mono (Nat.le_trans HB1.out.size b7.size))
        obtain ⟨j1, j2, jb⟩ := FQ.out W8 b8
        rw [← hW8]
        clear hW8 b8 b7 HB1 FQ
        -- was.E is laid
        obtain ⟨WE, hWE⟩ : ∃ WE, WE = W8.setCell ⟨w.heap.size + 2, 3, none⟩ (.int .i64 k) := ⟨_, rfl⟩
        have e2 : RB WE (w.heap.size + 2) old made0 (.slice ra nr rc) k := by unfold RB; rw [hWE, heap_setCell_same _ _ _ _ _ _ j2]; rfl
        have e1 : RB WE (w.heap.size + 1) 0 0 (.slice none 0 0) 0 := j1.off (k := w.heap.size + 2) (fun i hi => by rw [hWE]; exact heap_setCell_other _ _ _ _ hi) (by omega)
        have EB : Hid (Below w.heap.size w WE) := (jb).trans (by rw [hWE]; exact sc_below w.heap.size _ (w.heap.size + 2) 3 _ (by omega))
        have ZB : Hid (RB (st4 WE (w.heap.size + 1) (.int .i64 old) (.int .i64 made0) (.slice ra nr rc) (.int .i64 k)) (w.heap.size + 1) old made0 (.slice ra nr rc) k) := e1.st _ _ _ _
        obtain ⟨y0, y1, y2, y3⟩ := e2.cells
        obtain ⟨y4, y5, y6, y7⟩ := e1.cells
        have fe := e1.free
        have hwE := hWE.symm
        obtain ⟨x0, x1, x2, x3⟩ := RB.cells j2
        have fw := RB.free j2
        clear hWE e1 e2
        clear j1 j2 jb
        go_wp2
        rw [st4_eq]
        obtain ⟨z0, z1, z2, z3⟩ := ZB.out.cells
        have ZQ2 : RQ old made0 (.slice ra nr rc) R w (.returned (.tuple #[.agg #[.int .i64 old, .int .i64 made0, .slice ra nr rc, .int .i64 k], .slice none 0 0, .int .i64 k])) (st4 WE (w.heap.size + 1) (.int .i64 old) (.int .i64 made0) (.slice ra nr rc) (.int .i64 k)) := by rw [HR.out]; exact fin_bad EB.out HK0.out
        generalize st4 WE (w.heap.size + 1) (.int .i64 old) (.int .i64 made0) (.slice ra nr rc) (.int .i64 k) = WZ at *
        refine bodyPost_ret (v := .tuple #[.agg #[.int .i64 old, .int .i64 made0, .slice ra nr rc, .int .i64 k], .slice none 0 0, .int .i64 k]) ?h rfl ?_
        case h => simp [results, Tryd.results8, go_sem, z0, z1, z2, z3]
        exact ZQ2
      | op x k =>
        rw [hk] at CO
        obtain ⟨hk1, -⟩ := opA_some hk
        obtain ⟨hkl, hxn⟩ := opA_le hby hk
        have hmx := mkX_pos x
        have K0 : Hid (∀ W, Below wr.heap.size wr W → RB W w.heap.size old made (.slice va b.length vc) 0) := fun W hb => k0.kept hb
        have FQ : Hid (∀ W, Below wr.heap.size wr W → RB W (w.heap.size + 1) 0 0 (.slice none 0 0) 0 ∧ RB W (w.heap.size + 2) old made0 (.slice ra nr rc) 0 ∧ Below w.heap.size w W) := fun W hb => ⟨k1.kept hb, k2.kept hb, bw.trans (hb.mono bw.size)⟩
        by_cases hm : 65536 - made < mkX x
        · rw [tks_long hk hm] at hR
          have HR : Hid (R = (5, [], 0, [])) := hR.symm
          have hyl : decide (65536 - made < mkX x) = true := by simpa using hm
          obtain ⟨L, hL⟩ : ∃ L, L = b.length := ⟨_, rfl⟩
          rw [← hL] at k0 sx hvo CO hlp K0
          obtain ⟨nd, hnd⟩ : ∃ nd, nd = x.d.length := ⟨_, rfl⟩
          have CM : Hid (∀ ua uc W, Calls Tryd.prog 20 #[.agg #[.bool x.c, .int .i64 x.a, .int .i64 x.n, .slice ua nd uc]] W fun e w' => e = .returned (.int .i64 (mkX x)) ∧ Below W.heap.size W w') := fun ua uc W => rmakes_any x ua nd uc W hnd hxn
          have HND : Hid (nd = x.d.length) := hnd
          have yw : IntKind.i64.wrap (65536 - made) = 65536 - made := by rw [IntKind.wrap_i64]; omega
          have yw2 : wrap64 (65536 - made) = 65536 - made := by unfold wrap64; omega
          have kp : (0 : Int) < (k : Int) := by omega
          have kd : decide (0 < k) = true := by simpa using hk1
          obtain ⟨x0, x1, x2, x3⟩ := k0.cells
          clear k0 k1 k2 sx ox hON h0 h1 bw hvo hB hB3 hR hbk hby hb0 hL hk hnd hxn hk1 hkl
          go_wp2_with fail
          refine CO.mono ?_
          rintro e w1 ⟨b1, hp⟩
          simp only at hp
          obtain ⟨ua, uc, hp, ow1⟩ := hp
          rw [← HND.out] at hp ow1
          subst hp
          clear CO x0 x1 x2 x3
          have HB1 : Hid (Below wr.heap.size wr w1) := b1
          have OW1 : Hid (Ow w1 wr.heap.size (.slice ua nd uc) x.d) := ow1
          clear b1 ow1
          go_wp2_with fail
          obtain ⟨W7, hW7⟩ : ∃ W7, W7 = w1.alloc (.cells #[.bool x.c, .int .i64 x.a, .int .i64 x.n, .slice ua nd uc] 46) := ⟨_, rfl⟩
          have b7 : Below w1.heap.size w1 W7 := by rw [hW7]; exact al_below _ _
          have g7 : W7.heap[w1.heap.size]? = some (.cells #[.bool x.c, .int .i64 x.a, .int .i64 x.n, .slice ua nd uc] 46 (0, 0)) := by rw [hW7]; exact heap_alloc_new _ _
          have B7 : Hid (Below wr.heap.size wr W7) := HB1.out.trans (b7.mono HB1.out.size)
          have OW7 : Hid (Ow W7 wr.heap.size (.slice ua nd uc) x.d) := OW1.out.below b7
          rw [← hW7]
          clear hW7 b7 OW1 HB1
          have HP : Hid (∀ W, Below W7.heap.size W7 W → (W.cell? ⟨w1.heap.size, 0, none⟩ = some (.bool x.c) ∧ W.cell? ⟨w1.heap.size, 1, none⟩ = some (.int .i64 x.a) ∧ W.cell? ⟨w1.heap.size, 2, none⟩ = some (.int .i64 x.n) ∧ W.cell? ⟨w1.heap.size, 3, none⟩ = some (.slice ua nd uc)) ∧ W.cell? ⟨w.heap.size, 1, none⟩ = some (.int .i64 made)) := fun W hb => ⟨cell4 ((Below.block hb _ (Array.getElem?_eq_some_iff.1 g7).1).trans g7), (K0.out W (B7.out.trans (hb.mono B7.out.size))).cells.2.1⟩
          have G7 : Hid (W7.heap[w1.heap.size]? = some (.cells #[.bool x.c, .int .i64 x.a, .int .i64 x.n, .slice ua nd uc] 46 (0, 0))) := g7
          clear g7
          generalize w1.heap.size = ob at *
          generalize hmm : mkX x = mx at *
          go_region_held3 (fun W => (W.cell? ⟨ob, 0, none⟩ = some (.bool x.c) ∧ W.cell? ⟨ob, 1, none⟩ = some (.int .i64 x.a) ∧ W.cell? ⟨ob, 2, none⟩ = some (.int .i64 x.n) ∧ W.cell? ⟨ob, 3, none⟩ = some (.slice ua nd uc)) ∧ W.cell? ⟨w.heap.size, 1, none⟩ = some (.int .i64 made)) (first | exact HP.out _ (Below.refl _ _) | exact HP.out _ (Below.refl _ _).drew | exact HP.out _ d5) (first
            | (go_at_call 20; refine (CM.out _ _ _).mono ?_; rintro e w8 ⟨rfl, b8⟩; have d5 : Below W7.heap.size W7 w8 := (Below.refl W7.heap.size W7).drew.trans b8))
          have D8 : Hid (Below W7.heap.size W7 w8) := d5
          clear b8 d5
          obtain ⟨j1, j2, jb⟩ := FQ.out w8 (B7.out.trans (D8.out.mono B7.out.size))
          clear FQ D8 HP K0 OW7 G7 B7
          -- was.E is laid
          obtain ⟨WE, hWE⟩ : ∃ WE, WE = w8.setCell ⟨w.heap.size + 2, 3, none⟩ (.int .i64 5) := ⟨_, rfl⟩
          have e2 : RB WE (w.heap.size + 2) old made0 (.slice ra nr rc) 5 := by unfold RB; rw [hWE, heap_setCell_same _ _ _ _ _ _ j2]; rfl
          have e1 : RB WE (w.heap.size + 1) 0 0 (.slice none 0 0) 0 := j1.off (k := w.heap.size + 2) (fun i hi => by rw [hWE]; exact heap_setCell_other _ _ _ _ hi) (by omega)
          have EB : Hid (Below w.heap.size w WE) := (jb).trans (by rw [hWE]; exact sc_below w.heap.size _ (w.heap.size + 2) 3 _ (by omega))
          have ZB : Hid (RB (st4 WE (w.heap.size + 1) (.int .i64 old) (.int .i64 made0) (.slice ra nr rc) (.int .i64 5)) (w.heap.size + 1) old made0 (.slice ra nr rc) 5) := e1.st _ _ _ _
          obtain ⟨y0, y1, y2, y3⟩ := e2.cells
          obtain ⟨y4, y5, y6, y7⟩ := e1.cells
          have fe := e1.free
          have hwE := hWE.symm
          obtain ⟨x0, x1, x2, x3⟩ := RB.cells j2
          have fw := RB.free j2
          clear hWE e1 e2
          clear j1 j2 jb
          go_wp2
          rw [st4_eq]
          obtain ⟨z0, z1, z2, z3⟩ := ZB.out.cells
          have ZQ2 : RQ old made0 (.slice ra nr rc) R w (.returned (.tuple #[.agg #[.int .i64 old, .int .i64 made0, .slice ra nr rc, .int .i64 5], .slice none 0 0, .int .i64 5])) (st4 WE (w.heap.size + 1) (.int .i64 old) (.int .i64 made0) (.slice ra nr rc) (.int .i64 5)) := by rw [HR.out]; exact fin_bad EB.out (by decide)
          generalize st4 WE (w.heap.size + 1) (.int .i64 old) (.int .i64 made0) (.slice ra nr rc) (.int .i64 5) = WZ at *
          refine bodyPost_ret (v := .tuple #[.agg #[.int .i64 old, .int .i64 made0, .slice ra nr rc, .int .i64 5], .slice none 0 0, .int .i64 5]) ?h rfl ?_
          case h => simp [results, Tryd.results8, go_sem, z0, z1, z2, z3]
          exact ZQ2
        · have hR2 := hR
          rw [tks_op hk hm] at hR2
          have hyl : decide (65536 - made < mkX x) = false := by simpa using hm
          obtain ⟨-, hLc, hcm, hac⟩ := sx.facts
          have hcm2 : vc ≤ 9223372036854775807 := by unfold maxLen at hcm; omega
          have hdr := sx.drop k hkl
          have HBS : Hid (O.length + [x].length ≤ 100000) := by unfold Hid; have := HLE.out; simp only [List.length_cons, List.length_nil]; omega
          have HGK : Hid (gk - 1 < gk) := by unfold Hid; omega
          unfold cuv at hdr
          by_cases hc : vc = k
          · subst hc
            rw [if_pos rfl] at hdr
            have hLv : b.length = vc := by omega
            have FNX : Hid (∀ ob ua uc, wr.heap.size ≤ ob → ∀ W, Below wr.heap.size wr W → Ow W wr.heap.size (.slice ua x.d.length uc) x.d → W.heap[ob]? = some (.cells #[.bool x.c, .int .i64 x.a, .int .i64 x.n, .slice ua x.d.length uc] 46 (0, 0)) → NX x ob ua x.d.length uc w B old made0 (made + mkX x) (.slice ra nr rc) N R gk (.slice la O.length lc) O (.slice va b.length vc) (.slice va 0 0) W) := fun ob ua uc hob W hb ow gx => nx (k0.kept hb) (k1.kept hb) (k2.kept hb) (ox.below hb) (ow.mono hB) gx (by have := k0.lt; omega) (hdr.kept hb) ⟨_, _, _, rfl⟩ ⟨_, _, _, rfl⟩ (fun i e => hvo i (by cases va <;> exact e)) (bw.trans (hb.mono bw.size)) (Nat.le_trans hB hb.size) hB3 hR2 hk1 (by omega) hbk hON (by omega) (by omega)
            rw [hLv] at k0 CO hlp K0 FNX hkl hLc
            clear hLv
            have kc : (vc : Int) ≤ (vc : Int) := Int.le_refl _
            obtain ⟨nd, hnd⟩ : ∃ nd, nd = x.d.length := ⟨_, rfl⟩
            have CM : Hid (∀ ua uc W, Calls Tryd.prog 20 #[.agg #[.bool x.c, .int .i64 x.a, .int .i64 x.n, .slice ua nd uc]] W fun e w' => e = .returned (.int .i64 (mkX x)) ∧ Below W.heap.size W w') := fun ua uc W => rmakes_any x ua nd uc W hnd hxn
            have HND : Hid (nd = x.d.length) := hnd
            have yw : IntKind.i64.wrap (65536 - made) = 65536 - made := by rw [IntKind.wrap_i64]; omega
            have yw2 : wrap64 (65536 - made) = 65536 - made := by unfold wrap64; omega
            have kp : (0 : Int) < (vc : Int) := by omega
            have kd : decide (0 < vc) = true := by simpa using hk1
            obtain ⟨x0, x1, x2, x3⟩ := k0.cells
            rw [← hnd] at FNX
            clear hkl hLc
            clear k0 k1 k2 sx ox hON bw hvo hB hB3 hbk hby hb0 hk hnd hxn hdr hR FQ hac hcm
            go_wp2_with fail
            refine CO.mono ?_
            rintro e w1 ⟨b1, hp⟩
            simp only at hp
            obtain ⟨ua, uc, hp, ow1⟩ := hp
            rw [← HND.out] at hp ow1
            subst hp
            clear CO x0 x1 x2 x3
            have HB1 : Hid (Below wr.heap.size wr w1) := b1
            have OW1 : Hid (Ow w1 wr.heap.size (.slice ua nd uc) x.d) := ow1
            clear b1 ow1
            go_wp2_with fail
            obtain ⟨W7, hW7⟩ : ∃ W7, W7 = w1.alloc (.cells #[.bool x.c, .int .i64 x.a, .int .i64 x.n, .slice ua nd uc] 46) := ⟨_, rfl⟩
            have b7 : Below w1.heap.size w1 W7 := by rw [hW7]; exact al_below _ _
            have g7 : W7.heap[w1.heap.size]? = some (.cells #[.bool x.c, .int .i64 x.a, .int .i64 x.n, .slice ua nd uc] 46 (0, 0)) := by rw [hW7]; exact heap_alloc_new _ _
            have B7 : Hid (Below wr.heap.size wr W7) := HB1.out.trans (b7.mono HB1.out.size)
            have OW7 : Hid (Ow W7 wr.heap.size (.slice ua nd uc) x.d) := OW1.out.below b7
            rw [← hW7]
            have HOB : Hid (wr.heap.size ≤ w1.heap.size) := HB1.out.size
            clear hW7 b7 OW1 HB1
            have HP : Hid (∀ W, Below W7.heap.size W7 W → (W.cell? ⟨w1.heap.size, 0, none⟩ = some (.bool x.c) ∧ W.cell? ⟨w1.heap.size, 1, none⟩ = some (.int .i64 x.a) ∧ W.cell? ⟨w1.heap.size, 2, none⟩ = some (.int .i64 x.n) ∧ W.cell? ⟨w1.heap.size, 3, none⟩ = some (.slice ua nd uc)) ∧ W.cell? ⟨w.heap.size, 1, none⟩ = some (.int .i64 made)) := fun W hb => ⟨cell4 ((Below.block hb _ (Array.getElem?_eq_some_iff.1 g7).1).trans g7), (K0.out W (B7.out.trans (hb.mono B7.out.size))).cells.2.1⟩
            have G7 : Hid (W7.heap[w1.heap.size]? = some (.cells #[.bool x.c, .int .i64 x.a, .int .i64 x.n, .slice ua nd uc] 46 (0, 0))) := g7
            clear g7
            generalize w1.heap.size = ob at *
            generalize hmm : mkX x = mx at *
            go_region_held3 (fun W => (W.cell? ⟨ob, 0, none⟩ = some (.bool x.c) ∧ W.cell? ⟨ob, 1, none⟩ = some (.int .i64 x.a) ∧ W.cell? ⟨ob, 2, none⟩ = some (.int .i64 x.n) ∧ W.cell? ⟨ob, 3, none⟩ = some (.slice ua nd uc)) ∧ W.cell? ⟨w.heap.size, 1, none⟩ = some (.int .i64 made)) (first | exact HP.out _ (Below.refl _ _) | exact HP.out _ (Below.refl _ _).drew | exact HP.out _ d5) (first
              | (go_at_call 20; refine (CM.out _ _ _).mono ?_; rintro e w8 ⟨rfl, b8⟩; have d5 : Below W7.heap.size W7 w8 := (Below.refl W7.heap.size W7).drew.trans b8))
            have D8 : Hid (Below W7.heap.size W7 w8) := d5
            clear b8 d5
            have B8 : Hid (Below wr.heap.size wr w8) := B7.out.trans (D8.out.mono B7.out.size)
            have HP8 : Hid (∀ W, Below w8.heap.size w8 W → (W.cell? ⟨ob, 0, none⟩ = some (.bool x.c) ∧ W.cell? ⟨ob, 1, none⟩ = some (.int .i64 x.a) ∧ W.cell? ⟨ob, 2, none⟩ = some (.int .i64 x.n) ∧ W.cell? ⟨ob, 3, none⟩ = some (.slice ua nd uc)) ∧ RB W w.heap.size old made (.slice va vc vc) 0) := fun W hb => ⟨(HP.out W (D8.out.trans (hb.mono D8.out.size))).1, K0.out W (B8.out.trans (hb.mono B8.out.size))⟩
            have FZ := FNX.out ob ua uc
            have HFZ : Hid (∀ w9, Below w8.heap.size w8 w9 → NX x ob ua nd uc w B old made0 (made + mx) (.slice ra nr rc) N R gk (.slice la O.length lc) O (.slice va vc vc) (.slice va 0 0) w9) := fun w9 hb => FZ HOB.out w9 (B8.out.trans (hb.mono B8.out.size)) ((OW7.out.below D8.out).below hb) ((Below.block hb _ (Nat.lt_of_lt_of_le (Array.getElem?_eq_some_iff.1 G7.out).1 D8.out.size)).trans ((Below.block D8.out _ (Array.getElem?_eq_some_iff.1 G7.out).1).trans G7.out))
            have kz : ((vc : Int) == 0) = false := by simp; omega
            have kz2 : ¬ vc = 0 := by omega
            have ya : IntKind.i64.wrap (made + mx) = made + mx := by rw [IntKind.wrap_i64]; omega
            have yb : wrap64 (made + mx) = made + mx := by unfold wrap64; omega
            clear D8 HP K0 OW7 G7 B7 FNX FZ
            obtain ⟨⟨t0, t1, t2, t3⟩, rb8⟩ := HP8.out w8 (Below.refl _ _)
            obtain ⟨p0, p1, p2, p3⟩ := rb8.cells
            have fg := rb8.free
            clear rb8
            go_wp2_with fail
            go_region_with ((go_at_call 20; refine (CM.out _ _ _).mono ?_; rintro e w9 ⟨rfl, b9⟩; have f9 : Below w8.heap.size w8 w9 := ((Below.refl w8.heap.size w8).drew).trans b9; obtain ⟨⟨t0', t1', t2', t3'⟩, rb9⟩ := HP8.out w9 f9; obtain ⟨p0', p1', p2', p3'⟩ := rb9.cells; have fg' := rb9.free; have F9 : Hid (Below w8.heap.size w8 w9) := f9; clear b9 f9 rb9))
            all_goals
              obtain ⟨W10, W11, W12, hw10, hw11, hw12, r10, gx11, o1, oo, hB12, fl⟩ := HFZ.out w9 F9.out
              replace hw10 := hw10.symm
              replace hw11 := hw11.symm
              replace hw12 := hw12.symm
              obtain ⟨c0, c1, c2, c3⟩ := r10.cells
              have fr := r10.free
              obtain ⟨e0, e1, e2, e3⟩ := cell4 gx11
              have O1 : Hid (OX W12 B (.slice (some ⟨W11.heap.size, 0, none⟩) 1 1) [x]) := o1
              have OO : Hid (OX W12 B (.slice la O.length lc) O) := oo
              have HB12 : Hid (B ≤ W12.heap.size) := hB12
              have FLX : Hid (∀ v13 w13, OX w13 B v13 (O ++ [x]) → Below B W12 w13 → FL w B old made0 (.slice ra nr rc) N R (gk - 1) v13 w13) := fl
              clear r10 gx11 o1 oo hB12 fl t0 t1 t2 t3 p0 p1 p2 p3 t0' t1' t2' t3' p0' p1' p2' p3' fg fg' HFZ HP8 F9 CM B8 ya yb
              try rw [hw10]
              obtain ⟨nO, hnO⟩ : ∃ nO, nO = O.length := ⟨_, rfl⟩
              rw [← hnO] at OO
              try rw [← hnO]
              clear hnO
              go_wp2_with (at_builtin; refine wpList_append_ox rfl _ _ rfl B _ O rfl OO.out _ [x] rfl O1.out HBS.out HB12.out (Hid.out ?_))
              unfold Hid
              intro v13 w13 o13 b13
              have HFL : Hid (FL w B old made0 (.slice ra nr rc) N R (gk - 1) v13 w13) := FLX.out v13 w13 o13 b13
              obtain ⟨a13, c13, rfl, -, -, -⟩ := o13.shape
              clear o13 b13 FLX OO O1 HB12 HBS c0 c1 c2 c3 fr e0 e1 e2 e3 hw10 hw11 hw12
              generalize (O ++ [x]).length = nO' at *
              go_wp2
              go_roundg (gk - 1)
              case measure => exact HGK.out
              case rel => exact HFL.out
          · rw [if_neg hc] at hdr
            cases va with
            | none => have := hac rfl; omega
            | some y =>
              obtain ⟨xb, xo, sp⟩ := y
              obtain rfl : sp = none := sx.2 _ _ _ rfl (by omega)
              simp only at hdr
              have FNX : Hid (∀ ob ua uc, wr.heap.size ≤ ob → ∀ W, Below wr.heap.size wr W → Ow W wr.heap.size (.slice ua x.d.length uc) x.d → W.heap[ob]? = some (.cells #[.bool x.c, .int .i64 x.a, .int .i64 x.n, .slice ua x.d.length uc] 46 (0, 0)) → NX x ob ua x.d.length uc w B old made0 (made + mkX x) (.slice ra nr rc) N R gk (.slice la O.length lc) O (.slice (some ⟨xb, xo, none⟩) b.length vc) (.slice (some ⟨xb, xo + k, none⟩) (b.length - k) (vc - k)) W) := fun ob ua uc hob W hb ow gx => nx (k0.kept hb) (k1.kept hb) (k2.kept hb) (ox.below hb) (ow.mono hB) gx (by have := k0.lt; omega) (hdr.kept hb) ⟨_, _, _, rfl⟩ ⟨_, _, _, rfl⟩ (fun i e => hvo i e) (bw.trans (hb.mono bw.size)) (Nat.le_trans hB hb.size) hB3 hR2 hk1 (by omega) hbk hON (by omega) (by omega)
              obtain ⟨L, hL⟩ : ∃ L, L = b.length := ⟨_, rfl⟩
              rw [← hL] at k0 CO hlp K0 FNX hkl hLc
              clear hL
              have e1 : (k : Int) ≤ (L : Int) := by omega
              have e2 : (L : Int) ≤ (vc : Int) := by omega
              have e3 : (k : Int) ≤ (vc : Int) := by omega
              have e4 : (0 : Int) ≤ (k : Int) := by omega
              obtain ⟨nd, hnd⟩ : ∃ nd, nd = x.d.length := ⟨_, rfl⟩
              have CM : Hid (∀ ua uc W, Calls Tryd.prog 20 #[.agg #[.bool x.c, .int .i64 x.a, .int .i64 x.n, .slice ua nd uc]] W fun e w' => e = .returned (.int .i64 (mkX x)) ∧ Below W.heap.size W w') := fun ua uc W => rmakes_any x ua nd uc W hnd hxn
              have HND : Hid (nd = x.d.length) := hnd
              have yw : IntKind.i64.wrap (65536 - made) = 65536 - made := by rw [IntKind.wrap_i64]; omega
              have yw2 : wrap64 (65536 - made) = 65536 - made := by unfold wrap64; omega
              have kp : (0 : Int) < (k : Int) := by omega
              have kd : decide (0 < k) = true := by simpa using hk1
              obtain ⟨x0, x1, x2, x3⟩ := k0.cells
              rw [← hnd] at FNX
              clear k0 k1 k2 sx ox hON bw hvo hB hB3 hbk hby hb0 hk hnd hxn hdr hR FQ hac hcm
              go_wp2_with fail
              refine CO.mono ?_
              rintro e w1 ⟨b1, hp⟩
              simp only at hp
              obtain ⟨ua, uc, hp, ow1⟩ := hp
              rw [← HND.out] at hp ow1
              subst hp
              clear CO x0 x1 x2 x3
              have HB1 : Hid (Below wr.heap.size wr w1) := b1
              have OW1 : Hid (Ow w1 wr.heap.size (.slice ua nd uc) x.d) := ow1
              clear b1 ow1
              go_wp2_with fail
              obtain ⟨W7, hW7⟩ : ∃ W7, W7 = w1.alloc (.cells #[.bool x.c, .int .i64 x.a, .int .i64 x.n, .slice ua nd uc] 46) := ⟨_, rfl⟩
              have b7 : Below w1.heap.size w1 W7 := by rw [hW7]; exact al_below _ _
              have g7 : W7.heap[w1.heap.size]? = some (.cells #[.bool x.c, .int .i64 x.a, .int .i64 x.n, .slice ua nd uc] 46 (0, 0)) := by rw [hW7]; exact heap_alloc_new _ _
              have B7 : Hid (Below wr.heap.size wr W7) := HB1.out.trans (b7.mono HB1.out.size)
              have OW7 : Hid (Ow W7 wr.heap.size (.slice ua nd uc) x.d) := OW1.out.below b7
              rw [← hW7]
              have HOB : Hid (wr.heap.size ≤ w1.heap.size) := HB1.out.size
              clear hW7 b7 OW1 HB1
              have HP : Hid (∀ W, Below W7.heap.size W7 W → (W.cell? ⟨w1.heap.size, 0, none⟩ = some (.bool x.c) ∧ W.cell? ⟨w1.heap.size, 1, none⟩ = some (.int .i64 x.a) ∧ W.cell? ⟨w1.heap.size, 2, none⟩ = some (.int .i64 x.n) ∧ W.cell? ⟨w1.heap.size, 3, none⟩ = some (.slice ua nd uc)) ∧ W.cell? ⟨w.heap.size, 1, none⟩ = some (.int .i64 made)) := fun W hb => ⟨cell4 ((Below.block hb _ (Array.getElem?_eq_some_iff.1 g7).1).trans g7), (K0.out W (B7.out.trans (hb.mono B7.out.size))).cells.2.1⟩
              have G7 : Hid (W7.heap[w1.heap.size]? = some (.cells #[.bool x.c, .int .i64 x.a, .int .i64 x.n, .slice ua nd uc] 46 (0, 0))) := g7
              clear g7
              generalize w1.heap.size = ob at *
              generalize hmm : mkX x = mx at *
              go_region_held3 (fun W => (W.cell? ⟨ob, 0, none⟩ = some (.bool x.c) ∧ W.cell? ⟨ob, 1, none⟩ = some (.int .i64 x.a) ∧ W.cell? ⟨ob, 2, none⟩ = some (.int .i64 x.n) ∧ W.cell? ⟨ob, 3, none⟩ = some (.slice ua nd uc)) ∧ W.cell? ⟨w.heap.size, 1, none⟩ = some (.int .i64 made)) (first | exact HP.out _ (Below.refl _ _) | exact HP.out _ (Below.refl _ _).drew | exact HP.out _ d5) (first
                | (go_at_call 20; refine (CM.out _ _ _).mono ?_; rintro e w8 ⟨rfl, b8⟩; have d5 : Below W7.heap.size W7 w8 := (Below.refl W7.heap.size W7).drew.trans b8))
              have D8 : Hid (Below W7.heap.size W7 w8) := d5
              clear b8 d5
              have B8 : Hid (Below wr.heap.size wr w8) := B7.out.trans (D8.out.mono B7.out.size)
              have HP8 : Hid (∀ W, Below w8.heap.size w8 W → (W.cell? ⟨ob, 0, none⟩ = some (.bool x.c) ∧ W.cell? ⟨ob, 1, none⟩ = some (.int .i64 x.a) ∧ W.cell? ⟨ob, 2, none⟩ = some (.int .i64 x.n) ∧ W.cell? ⟨ob, 3, none⟩ = some (.slice ua nd uc)) ∧ RB W w.heap.size old made (.slice (some ⟨xb, xo, none⟩) L vc) 0) := fun W hb => ⟨(HP.out W (D8.out.trans (hb.mono D8.out.size))).1, K0.out W (B8.out.trans (hb.mono B8.out.size))⟩
              have FZ := FNX.out ob ua uc
              have HFZ : Hid (∀ w9, Below w8.heap.size w8 w9 → NX x ob ua nd uc w B old made0 (made + mx) (.slice ra nr rc) N R gk (.slice la O.length lc) O (.slice (some ⟨xb, xo, none⟩) L vc) (.slice (some ⟨xb, xo + k, none⟩) (L - k) (vc - k)) w9) := fun w9 hb => FZ HOB.out w9 (B8.out.trans (hb.mono B8.out.size)) ((OW7.out.below D8.out).below hb) ((Below.block hb _ (Nat.lt_of_lt_of_le (Array.getElem?_eq_some_iff.1 G7.out).1 D8.out.size)).trans ((Below.block D8.out _ (Array.getElem?_eq_some_iff.1 G7.out).1).trans G7.out))
              have kz : ((k : Int) == 0) = false := by simp; omega
              have kz2 : ¬ k = 0 := by omega
              have ya : IntKind.i64.wrap (made + mx) = made + mx := by rw [IntKind.wrap_i64]; omega
              have yb : wrap64 (made + mx) = made + mx := by unfold wrap64; omega
              clear D8 HP K0 OW7 G7 B7 FNX FZ
              obtain ⟨⟨t0, t1, t2, t3⟩, rb8⟩ := HP8.out w8 (Below.refl _ _)
              obtain ⟨p0, p1, p2, p3⟩ := rb8.cells
              have fg := rb8.free
              clear rb8
              go_wp2_with fail
              go_region_with ((go_at_call 20; refine (CM.out _ _ _).mono ?_; rintro e w9 ⟨rfl, b9⟩; have f9 : Below w8.heap.size w8 w9 := ((Below.refl w8.heap.size w8).drew).trans b9; obtain ⟨⟨t0', t1', t2', t3'⟩, rb9⟩ := HP8.out w9 f9; obtain ⟨p0', p1', p2', p3'⟩ := rb9.cells; have fg' := rb9.free; have F9 : Hid (Below w8.heap.size w8 w9) := f9; clear b9 f9 rb9))
              all_goals
                obtain ⟨W10, W11, W12, hw10, hw11, hw12, r10, gx11, o1, oo, hB12, fl⟩ := HFZ.out w9 F9.out
                replace hw10 := hw10.symm
                replace hw11 := hw11.symm
                replace hw12 := hw12.symm
                obtain ⟨c0, c1, c2, c3⟩ := r10.cells
                have fr := r10.free
                obtain ⟨e0, e1, e2, e3⟩ := cell4 gx11
                have O1 : Hid (OX W12 B (.slice (some ⟨W11.heap.size, 0, none⟩) 1 1) [x]) := o1
                have OO : Hid (OX W12 B (.slice la O.length lc) O) := oo
                have HB12 : Hid (B ≤ W12.heap.size) := hB12
                have FLX : Hid (∀ v13 w13, OX w13 B v13 (O ++ [x]) → Below B W12 w13 → FL w B old made0 (.slice ra nr rc) N R (gk - 1) v13 w13) := fl
                clear r10 gx11 o1 oo hB12 fl t0 t1 t2 t3 p0 p1 p2 p3 t0' t1' t2' t3' p0' p1' p2' p3' fg fg' HFZ HP8 F9 CM B8 ya yb
                try rw [hw10]
                obtain ⟨nO, hnO⟩ : ∃ nO, nO = O.length := ⟨_, rfl⟩
                rw [← hnO] at OO
                try rw [← hnO]
                clear hnO
                go_wp2_with (at_builtin; refine wpList_append_ox rfl _ _ rfl B _ O rfl OO.out _ [x] rfl O1.out HBS.out HB12.out (Hid.out ?_))
                unfold Hid
                intro v13 w13 o13 b13
                have HFL : Hid (FL w B old made0 (.slice ra nr rc) N R (gk - 1) v13 w13) := FLX.out v13 w13 o13 b13
                obtain ⟨a13, c13, rfl, -, -, -⟩ := o13.shape
                clear o13 b13 FLX OO O1 HB12 HBS c0 c1 c2 c3 fr e0 e1 e2 e3 hw10 hw11 hw12
                generalize (O ++ [x]).length = nO' at *
                go_wp2
                go_roundg (gk - 1)
                case measure => exact HGK.out
                case rel => exact HFL.out
/-- What the document's Feed answers and leaves. -/
def RF (D : Dc) (b : List Int) (rv : Value) (w : World) (e : Ending) (w' : World) : Prop :=
  Below w.heap.size w w' ∧ ∃ rv' lv, e = .returned (.tuple #[.agg #[.int .i64 (feedP D b).1.old, .int .i64 (feedP D b).1.made, rv', .int .i64 (feedP D b).1.err], lv, .int .i64 (feedP D b).2.2]) ∧ SlX w' rv' (feedP D b).1.rest ∧ OX w' w.heap.size lv (feedP D b).2.1 ∧ (rv' = rv ∨ ∀ i, rv'.ownBlock = some i → w.heap.size ≤ i ∧ i < w'.heap.size)
set_option maxHeartbeats 2000000 in
theorem rfeed_stop (D : Dc) (rv v : Value) (b : List Int) (w : World) (hs : SlX w rv D.rest) (he : D.err ≠ 0) :
    Calls Tryd.prog 8 #[.agg #[.int .i64 D.old, .int .i64 D.made, rv, .int .i64 D.err], v] w fun e w' => RF D b rv w e w' := by
  have HQ : Hid (∀ w', Below w.heap.size w w' → RF D b rv w (.returned (.tuple #[.agg #[.int .i64 D.old, .int .i64 D.made, rv, .int .i64 D.err], .slice none 0 0, .int .i64 D.err])) w') := fun w' hb => by
    unfold RF feedP
    rw [if_neg he]
    exact ⟨hb, rv, _, rfl, hs.kept hb, OX.nil _ _, .inl rfl⟩
  obtain ⟨old, made, rest, er⟩ := D
  simp only at he HQ hs ⊢
  generalize RF ⟨old, made, rest, er⟩ b rv w = Q at *
  have t0 : (er != 0) = true := by simpa using he
  obtain ⟨W0, hW0⟩ : ∃ W0, W0 = (w.alloc (.cells #[.int .i64 old, .int .i64 made, rv, .int .i64 er] 28)).alloc (.cells zrd 28) := ⟨_, rfl⟩
  have b0 : Below w.heap.size w W0 := by rw [hW0]; exact ((Below.refl _ _).alloc (Nat.le_refl _) _).alloc (by simp) _
  have g0 : RB W0 w.heap.size old made rv er := by
    rw [hW0]
    exact ((al_below (w.alloc (.cells #[.int .i64 old, .int .i64 made, rv, .int .i64 er] 28)) _).block _ (by simp)).trans (heap_alloc_new _ _)
  have g1 : RB W0 (w.heap.size + 1) 0 0 (.slice none 0 0) 0 := by
    rw [hW0]
    have := heap_alloc_new (w.alloc (.cells #[.int .i64 old, .int .i64 made, rv, .int .i64 er] 28)) (.cells zrd 28)
    rw [show (w.alloc (.cells #[.int .i64 old, .int .i64 made, rv, .int .i64 er] 28)).heap.size = w.heap.size + 1 by simp] at this
    exact this
  have B0 : Hid (Below w.heap.size w W0) := b0
  have G1 : Hid (RB W0 (w.heap.size + 1) 0 0 (.slice none 0 0) 0) := g1
  obtain ⟨c0, c1, c2, c3⟩ := g0.cells
  have f0 := g0.free
  obtain ⟨y0, y1, y2, y3⟩ := g1.cells
  have fy := g1.free
  obtain ⟨ra, rc, hrv, -⟩ := id hs.1
  generalize rest.length = nr at *
  subst hrv
  have hw0 := hW0.symm
  clear hW0 b0 g0 g1 hs he
  go_enter Tryd.func8, Tryd.ntmps8
  go_wp2_with fail
  go_region_with (fail)
  all_goals
    go_wp2
    rw [st4_eq]
    have gz : RB (st4 W0 (w.heap.size + 1) (.int .i64 old) (.int .i64 made) (.slice ra nr rc) (.int .i64 er)) (w.heap.size + 1) old made (.slice ra nr rc) er := G1.out.st _ _ _ _
    have bz : Below w.heap.size w (st4 W0 (w.heap.size + 1) (.int .i64 old) (.int .i64 made) (.slice ra nr rc) (.int .i64 er)) := B0.out.trans (st4_below _ _ _ _ _ _ _ (by omega))
    generalize st4 W0 (w.heap.size + 1) (.int .i64 old) (.int .i64 made) (.slice ra nr rc) (.int .i64 er) = WZ at *
    have gd : RB WZ.drew (w.heap.size + 1) old made (.slice ra nr rc) er := gz
    obtain ⟨z0, z1, z2, z3⟩ := gd.cells
    have hq := HQ.out _ bz.drew
    generalize WZ.drew = WY at *
    refine bodyPost_ret (v := .tuple #[.agg #[.int .i64 old, .int .i64 made, .slice ra nr rc, .int .i64 er], .slice none 0 0, .int .i64 er]) ?h rfl ?_
    case h => simp [results, Tryd.results8, go_sem, Act.put, z0, z1, z2, z3]
    exact hq
theorem rfeed_any (D : Dc) (rv v : Value) (b : List Int) (w : World) (hs : SlX w rv D.rest) (sv : Sl w v b) (h0 : 0 ≤ D.made) (h1 : D.made ≤ 65536) (ho : D.old ≤ 9223372036854775807) (hbig : D.rest.length + b.length ≤ 90000) :
    Calls Tryd.prog 8 #[.agg #[.int .i64 D.old, .int .i64 D.made, rv, .int .i64 D.err], v] w fun e w' => RF D b rv w e w' := by
  by_cases he : D.err = 0
  · have c := rfeed_go D.old D.made rv v D.rest b w hs sv h0 h1 ho hbig
    rw [he]
    refine c.mono ?_
    rintro e w' ⟨bw, hq⟩
    refine ⟨bw, ?_⟩
    unfold feedP
    rw [if_pos he]
    by_cases hz : (tks D.old D.made (D.rest ++ b) []).1 = 0
    · rw [if_pos hz] at hq ⊢
      obtain ⟨rv', lv, rfl, q1, q2, q3⟩ := hq
      exact ⟨rv', lv, rfl, q1, q2, .inr q3⟩
    · rw [if_neg hz] at hq ⊢
      subst hq
      exact ⟨rv, _, rfl, hs.kept bw, OX.nil _ _, .inl rfl⟩
  · exact rfeed_stop D rv v b w hs he
end Go.Proofs.YtfccjeepmhgckaaDoor
