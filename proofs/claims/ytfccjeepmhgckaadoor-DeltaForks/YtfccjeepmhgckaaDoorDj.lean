/-
  What Feed answers, and what it leaves.
-/
import Derived.Test.YtfccjeepmhgckaaDoorDi
namespace Go.Proofs.YtfccjeepmhgckaaDoor
open Go.RowKit
set_option maxRecDepth 100000

theorem grown_db {w w' : World} {g : Nat} {old made : Int} {v : Value} {er : Int} {r : Option Nat} (h : DB w g old made v er) (hg : w.grownBy w' r) (hr : r ≠ some g) : DB w' g old made v er := (hg.block g h.lt (fun e => hr e.symm)).trans h
/-- Bytes laid behind a row of the call's own: the row is the old one, or new. -/
theorem wpList_append_slat {w : World} {ops : Array Oper} {rest : List Oper} {o : Oper} {a : Act} {Q : Exit → Act → World → Prop} (hgd : o.guard = none) (s x : Operand)
    (ho : o.op = .call { callee := .builtin .append, args := #[s, x], argTypes := #[26, 26] })
    (base : Nat) (v : Value) (n : Nat) (xs : List Value) (hs : a.eval s = v) (hown : w.ownsRow base 5 1 v n xs)
    (src : Value) (Z : List Int) (hx : a.eval x = src) (hsl : Sl w src Z) (hbig : n + Z.length ≤ 100000000000000) (hbase : base ≤ w.heap.size)
    (h : ∀ v' w', w'.ownsRow base 5 1 v' (n + Z.length) (xs ++ Z.map (Value.int .u8)) → w.grownBy w' v.ownBlock → (v'.ownBlock = v.ownBlock ∨ v'.ownBlock = some w.heap.size) → wpList Tryd.prog ops Q rest (a.put o.dst v') w') : wpList Tryd.prog ops Q (o :: rest) a w := by
  obtain ⟨i0, hi, hz0, hz1, hz2⟩ := info_parts info5'
  obtain ⟨ad, cap, rfl, h1, h2, h3, h4⟩ := hsl
  cases ad with
  | none =>
    obtain rfl := h3 rfl
    obtain rfl : Z = [] := List.length_eq_zero_iff.1 (by omega)
    refine wpList_append_own_none hgd s x 26 ho base 5 i0 1 Tryd.underlying26 hi v n xs hs hown hx ?_
    exact h v w (by simpa using hown) ⟨rfl, rfl, rfl, Nat.le_refl _, fun _ _ _ => rfl⟩ (.inl rfl)
  | some y =>
    refine wpList_append_own_at w hgd s x 26 ho base 5 i0 (.int .u8 0) 1 1 Tryd.underlying26 hi hz0 hz1 hz2 rfl (by decide) v n xs hs hown y Z.length cap (Z.map (Value.int .u8)) hx (by rw [List.length_map, Nat.mul_one]) (news_row h4) (ints_one Z) (by unfold maxLen; omega) (by omega) hbase ?_
    intro v' w' ho' hg _ hat
    exact h v' w' ho' hg hat
set_option maxHeartbeats 1000000 in
theorem feed_stop (w : World) (B g : Nat) (rv v : Value) (D : Dc) (h : DC w B g rv D) (hv : ∃ a n c, v = .slice a n c) (he : D.err ≠ 0) :
    Calls Tryd.prog 7 #[.pointer (some ⟨g, 0, none⟩), v] w fun e w' => e = .returned (.tuple #[.slice none 0 0, .int .i64 D.err]) ∧ Below w.heap.size w w' := by
  obtain ⟨k0, k1, k2, k3⟩ := h.2.1.cells
  obtain ⟨a, c, rfl⟩ := h.2.2.1
  obtain ⟨va, vn, vc, rfl⟩ := hv
  have t0 : (D.err == 0) = false := by simpa using he
  clear h he
  generalize D.made = m at *
  generalize D.old = o at *
  generalize D.err = er at *
  generalize D.rest.length = n at *
  go_enter Tryd.func7, Tryd.ntmps7
  go_wp2_with fail
  go_quiet (fail)
  go_wp2
  go_ret2
  exact ⟨rfl, below_drewN (Below.refl _ _) _⟩
set_option maxHeartbeats 1000000 in
theorem feed_nil (w : World) (v : Value) : Calls Tryd.prog 7 #[.pointer none, v] w fun e w' => e = .returned (.tuple #[.slice none 0 0, .int .i64 1]) ∧ w' = w := by
  go_enter Tryd.func7, Tryd.ntmps7
  go_wp2
  go_ret2
  exact ⟨rfl, rfl⟩
theorem Kp.any {g g' : Nat} {r : Option Nat} {w w' : World} (h : Kp g r w w') (hg : w.heap.size ≤ g) : Kp g' r w w' := ⟨h.os, h.tape, h.output, h.size, fun k hk _ hr => h.block k hk (by omega) hr⟩
theorem own_lt {w : World} {B n s : Nat} {e : TypeId} {v : Value} {xs : List Value} (h : w.ownsRow B e s v n xs) : ∀ k, v.ownBlock = some k → B ≤ k ∧ k < w.heap.size := fun k hk => by
  rcases h.2 with ⟨rfl, _⟩ | ⟨g', cap, cur, rfl, hb, hh, _⟩
  · cases hk
  · cases hk
    exact ⟨hb, (Array.getElem?_eq_some_iff.1 hh).1⟩
/-- Operations of the call's own, with bytes of the call's own that lie apart from a row. -/
def OXa (w : World) (B : Nat) (r : Option Nat) (v : Value) (l : List Xp) : Prop := ∃ U, RX w B v l U ∧ ∀ i, i < l.length → (w.ownsRow B 5 1 (U i) (atX l i).d.length ((atX l i).d.map (Value.int .u8)) ∧ ∀ k, 0 ≤ (atX l i).d.getD k 0 ∧ (atX l i).d.getD k 0 < 256) ∧ ∀ k, (U i).ownBlock = some k → r ≠ some k
theorem OXa.ox {w : World} {B : Nat} {r : Option Nat} {v : Value} {l : List Xp} (h : OXa w B r v l) : OX w B v l := by
  obtain ⟨U, h1, h2⟩ := h
  exact ⟨U, h1, fun i hi => (h2 i hi).1⟩
theorem OXa.nil (w : World) (B : Nat) (r : Option Nat) : OXa w B r (.slice none 0 0) [] := ⟨fun _ => .slice none 0 0, RX.nil _ _ _, fun i hi => by simp at hi⟩
theorem OX.empty {w : World} {B : Nat} {v : Value} (h : OX w B v []) (r : Option Nat) : OXa w B r v [] := by
  obtain ⟨U, h1, -⟩ := h
  exact ⟨U, h1, fun i hi => by simp at hi⟩
theorem OX.apart {w : World} {B : Nat} {v : Value} {l : List Xp} (h : OX w B v l) (r : Option Nat) (hr : ∀ k, r = some k → w.heap.size ≤ k) : OXa w B r v l := by
  obtain ⟨U, h1, h2⟩ := h
  refine ⟨U, h1, fun i hi => ⟨h2 i hi, fun k e e2 => ?_⟩⟩
  have := (own_lt (h2 i hi).1 k e).2
  have := hr k e2
  omega
theorem OXa.below {w w' : World} {B : Nat} {r : Option Nat} {v : Value} {l : List Xp} (h : OXa w B r v l) (hb : Below w.heap.size w w') : OXa w' B r v l := by
  obtain ⟨U, h1, h2⟩ := h
  exact ⟨U, h1.below hb, fun i hi => ⟨⟨own_below (h2 i hi).1.1 hb, (h2 i hi).1.2⟩, (h2 i hi).2⟩⟩
theorem OXa.mono {w : World} {B B' : Nat} {r : Option Nat} {v : Value} {l : List Xp} (h : OXa w B r v l) (hb : B' ≤ B) : OXa w B' r v l := by
  obtain ⟨U, h1, h2⟩ := h
  exact ⟨U, own_mono h1 hb, fun i hi => ⟨⟨own_mono (h2 i hi).1.1 hb, (h2 i hi).1.2⟩, (h2 i hi).2⟩⟩
/-- They stay where a block of another kind, and that row, are written; the row may then be a new one. -/
theorem OXa.kp {w w' : World} {B : Nat} {r r' : Option Nat} {v : Value} {l : List Xp} (h : OXa w B r v l) {g : Nat} {cs : Array Value} {T : TypeId} {fr : Nat × Nat} (hk : Kp g r w w') (hg : w.heap[g]? = some (.cells cs T fr)) (h5 : T ≠ 5) (h6 : T ≠ 46) (hr : ∀ (k : Nat) (cs : Array Value) (fr : Nat × Nat), r = some k → w.heap[k]? ≠ some (.cells cs 46 fr)) (hr' : r' = r ∨ ∀ k, r' = some k → w.heap.size ≤ k) : OXa w' B r' v l := by
  obtain ⟨U, h1, h2⟩ := h
  refine ⟨U, own_kp h1 hk (own_ne h1 hg h6) (fun i e e2 => ?_), fun i hi => ⟨⟨own_kp (h2 i hi).1.1 hk (own_ne (h2 i hi).1.1 hg h5) (fun k e e2 => (h2 i hi).2 k e e2.symm), (h2 i hi).1.2⟩, fun k e => ?_⟩⟩
  · rcases h1.2 with ⟨e3, _⟩ | ⟨k, cap, cur, e3, _, hh, _⟩
    · rw [e3] at e; cases e
    · rw [e3] at e
      cases e
      exact hr _ _ _ e2.symm hh
  · rcases hr' with rfl | hr'
    · exact (h2 i hi).2 k e
    · intro e2
      have := hr' k e2
      have := (own_lt (h2 i hi).1.1 k e).2
      omega
/-- What Feed answers and leaves. -/
def FP (D : Dc) (b : List Int) (B g : Nat) (rv : Value) (w : World) (e : Ending) (w' : World) : Prop :=
  ∃ lv rv', e = .returned (.tuple #[lv, .int .i64 (feedP D b).2.2]) ∧ OXa w' w.heap.size rv'.ownBlock lv (feedP D b).2.1 ∧ DC w' B g rv' (feedP D b).1 ∧ Kp g rv.ownBlock w w' ∧ (rv'.ownBlock = rv.ownBlock ∨ ∀ k, rv'.ownBlock = some k → w.heap.size ≤ k)
set_option maxHeartbeats 8000000 in
theorem feed_any (w : World) (B g : Nat) (rv v : Value) (D : Dc) (b : List Int) (h : DC w B g rv D) (sl : Sl w v b) (hw : ∀ W, Below B w W → Fi.Wid W) (hbig : D.rest.length + b.length ≤ 90000) :
    Calls Tryd.prog 7 #[.pointer (some ⟨g, 0, none⟩), v] w fun e w' => FP D b B g rv w e w' := by
  by_cases he : D.err = 0
  · obtain ⟨hBg, hdb, ⟨ra, rc, hrv⟩, how, hrb, hm0, hm1, hold⟩ := h
    have how' := how he
    obtain ⟨old, made, rest, err⟩ := D
    simp only at he hdb hrv how' hrb hm0 hm1 hold hbig
    subst he
    have HFP : Hid (∀ e w', (if (tks old made (rest ++ b) []).1 = 0 then (∃ lv rv', e = .returned (.tuple #[lv, .int .i64 0]) ∧ OXa w' w.heap.size rv'.ownBlock lv (tks old made (rest ++ b) []).2.1 ∧ DC w' B g rv' ⟨old, (tks old made (rest ++ b) []).2.2.1, (tks old made (rest ++ b) []).2.2.2, 0⟩ ∧ Kp g rv.ownBlock w w' ∧ (rv'.ownBlock = rv.ownBlock ∨ ∀ k, rv'.ownBlock = some k → w.heap.size ≤ k))
        else (e = .returned (.tuple #[.slice none 0 0, .int .i64 (tks old made (rest ++ b) []).1]) ∧ DC w' B g rv ⟨old, made, rest, (tks old made (rest ++ b) []).1⟩ ∧ Kp g rv.ownBlock w w')) → FP ⟨old, made, rest, 0⟩ b B g rv w e w') := fun e w' hh => by
      unfold FP feedP
      simp only [if_true]
      split at hh
      · rename_i h1
        rw [if_pos h1]
        exact hh
      · rename_i h1
        rw [if_neg h1]
        exact ⟨.slice none 0 0, rv, hh.1, OXa.nil _ _ _, hh.2.1, hh.2.2, .inl rfl⟩
    have HINV := tks_inv old (rest ++ b).length made (rest ++ b) [] (Nat.le_refl _) hm0 hm1
    obtain ⟨W1, hW1⟩ : ∃ W1, W1 = w.alloc (.cells #[.int .i64 old, .int .i64 made, rv, .int .i64 0] 48) := ⟨_, rfl⟩
    have b1 : Below w.heap.size w W1 := by rw [hW1]; exact al_below _ _
    have s1 : w.heap.size < W1.heap.size := by rw [hW1]; simp
    have d1 : DB W1 w.heap.size old made rv 0 := by rw [hW1]; exact heap_alloc_new _ _
    have dg1 : DB W1 g old made rv 0 := hdb.kept b1
    have o1 := how'.below b1
    have sl1 := sl.kept b1
    have hgl := hdb.lt
    have hne1 : rv.ownBlock ≠ some w.heap.size := own_ne o1.1 d1 (by decide)
    have hne2 : rv.ownBlock ≠ some g := own_ne o1.1 dg1 (by decide)
    obtain ⟨k0, k1, k2, k3⟩ := hdb.cells
    subst hrv
    obtain ⟨va, vc, rfl, -⟩ := id sl
    have O1 : Hid (W1.ownsRow B 5 1 (.slice ra rest.length rc) rest.length (rest.map (Value.int .u8))) := o1.1
    have SL1 : Hid (Sl W1 (.slice va b.length vc) b) := sl1
    have HBW : Hid (B ≤ W1.heap.size) := by unfold Hid; omega
    -- what is known where takeAll begins
    have C3 : Hid (∀ w2 v2, w2.ownsRow B 5 1 v2 (rest.length + b.length) (rest.map (Value.int .u8) ++ b.map (Value.int .u8)) → W1.grownBy w2 (Value.slice ra rest.length rc).ownBlock →
        DB w2 w.heap.size old made (.slice ra rest.length rc) 0 ∧
        Calls Tryd.prog 17 #[.pointer (some ⟨w.heap.size, 0, none⟩)] (w2.setCell ⟨w.heap.size, 2, none⟩ v2) fun e w' => TA (tks old made (rest ++ b) []) w.heap.size old 0 v2 (w2.setCell ⟨w.heap.size, 2, none⟩ v2) e w') := fun w2 v2 o2 g2 => by
      have hby : ∀ i, 0 ≤ (rest ++ b).getD i 0 ∧ (rest ++ b).getD i 0 < 256 := fun i => by
        by_cases hi : i < rest.length
        · have := how'.2 i
          simpa [List.getD, List.getElem?_append_left hi] using this
        · have := sl.bytes (i - rest.length)
          simpa [List.getD, List.getElem?_append_right (show rest.length ≤ i by omega)] using this
      have d2 := grown_db d1 g2 hne1
      refine ⟨d2, ?_⟩
      have o2' : Ow w2 B v2 (rest ++ b) := ⟨by rw [List.length_append, List.map_append]; exact o2, hby⟩
      have d3 : DB (w2.setCell ⟨w.heap.size, 2, none⟩ v2) w.heap.size old made v2 0 := by unfold DB; rw [heap_setCell_same _ _ _ _ _ _ d2]; rfl
      have o3 : Ow (w2.setCell ⟨w.heap.size, 2, none⟩ v2) B v2 (rest ++ b) := ow_off o2' (fun k hk => heap_setCell_other _ _ _ _ hk) d2 (by decide)
      have kp3 : Kp w.heap.size (Value.slice ra rest.length rc).ownBlock w (w2.setCell ⟨w.heap.size, 2, none⟩ v2) := ((Kp.of b1).trans (Kp.grown g2)).trans (Kp.set _ _ _ _ _)
      have hbel : Below B w (w2.setCell ⟨w.heap.size, 2, none⟩ v2) := kp3.below (by omega) (fun k e => (hrb k e).1) (by omega)
      refine takeAll_any w.heap.size old made v2 0 (rest ++ b) _ d3 o3.slx (fun W hk => hw W (hbel.trans (hk.below (by omega) (fun k e => by cases e) (by have := hbel.size; omega)))) hold hm0 hm1 (fun k e => ?_) (by rw [List.length_append]; exact hbig)
      rcases o3.1.2 with ⟨e2, _⟩ | ⟨g', cap, cur, e2, _, hh, _⟩
      · rw [e2] at e; cases e
      · rw [e2] at e
        cases e
        exact (Array.getElem?_eq_some_iff.1 hh).1
    have HKW : Hid (∀ w2 v2, W1.grownBy w2 (Value.slice ra rest.length rc).ownBlock → Kp w.heap.size (Value.slice ra rest.length rc).ownBlock w (w2.setCell ⟨w.heap.size, 2, none⟩ v2) ∧ DB (w2.setCell ⟨w.heap.size, 2, none⟩ v2) g old made (.slice ra rest.length rc) 0) := fun w2 v2 g2 => by
      refine ⟨((Kp.of b1).trans (Kp.grown g2)).trans (Kp.set _ _ _ _ _), ?_⟩
      exact (heap_setCell_other _ _ _ _ (by simp only; omega)).trans (grown_db dg1 g2 hne2)
    have HOW : Hid (∀ w2 v2, w2.ownsRow B 5 1 v2 (rest.length + b.length) (rest.map (Value.int .u8) ++ b.map (Value.int .u8)) → DB w2 w.heap.size old made (.slice ra rest.length rc) 0 → Ow (w2.setCell ⟨w.heap.size, 2, none⟩ v2) B v2 (rest ++ b)) := fun w2 v2 o2 d2 => by
      refine ow_off ⟨by rw [List.length_append, List.map_append]; exact o2, fun i => ?_⟩ (fun k hk => heap_setCell_other _ _ _ _ hk) d2 (by decide)
      by_cases hi : i < rest.length
      · have := how'.2 i
        simpa [List.getD, List.getElem?_append_left hi] using this
      · have := sl.bytes (i - rest.length)
        simpa [List.getD, List.getElem?_append_right (show rest.length ≤ i by omega)] using this
    have HS1 : Hid (w.heap.size ≤ W1.heap.size) := Nat.le_of_lt s1
    have HW1 : Hid (w.alloc (.cells #[.int .i64 old, .int .i64 made, .slice ra rest.length rc, .int .i64 0] 48) = W1) := hW1.symm
    have HBG : Hid (B ≤ g) := hBg
    have HGL : Hid (g < w.heap.size) := hgl
    have HRB : Hid (∀ k, (Value.slice ra rest.length rc).ownBlock = some k → B ≤ k ∧ k < w.heap.size) := hrb
    have HM0 : Hid (0 ≤ made) := hm0
    have HOL : Hid (old ≤ 9223372036854775807) := hold
    have HIN : Hid ((tks old made (rest ++ b) []).1 = 0 → ∃ P, (tks old made (rest ++ b) []).2.1 = [] ++ P ∧ made ≤ (tks old made (rest ++ b) []).2.2.1 ∧ (tks old made (rest ++ b) []).2.2.1 ≤ 65536 ∧ (tks old made (rest ++ b) []).2.2.2.length + P.length ≤ (rest ++ b).length ∧ (∃ k, (tks old made (rest ++ b) []).2.2.2 = (rest ++ b).drop k) ∧ (P = [] → (tks old made (rest ++ b) []).2.2.2 = rest ++ b ∧ (tks old made (rest ++ b) []).2.2.1 = made)) := HINV
    have HLB : Hid ((rest ++ b).length ≤ 90000) := by unfold Hid; rw [List.length_append]; exact hbig
    clear how how' HINV hW1 b1 s1 d1 dg1 o1 sl1 hne1 hne2 sl hw hrb hm0 hold hBg hgl hdb
    generalize tks old made (rest ++ b) [] = R at *
    obtain ⟨z, O, made', rest'⟩ := R
    simp only at HFP HIN
    obtain ⟨nR, hnR⟩ : ∃ nR, nR = rest.length := ⟨_, rfl⟩
    obtain ⟨nb, hnb⟩ : ∃ nb, nb = b.length := ⟨_, rfl⟩
    have HNB : Hid (nb = b.length) := hnb
    have HNR : Hid (nR = rest.length) := hnR
    rw [← hnR] at O1 C3 HKW HOW HW1 HRB HFP k2 ⊢
    rw [← hnb] at SL1 C3 HOW ⊢
    rw [← hnR, ← hnb] at hbig
    have HM1 : Hid (made ≤ 65536) := hm1
    clear hnR hnb hm1
    go_enter Tryd.func7, Tryd.ntmps7
    go_wp2_with (at_builtin; rw [HW1.out]; refine wpList_append_slat rfl _ _ rfl B _ nR _ rfl O1.out _ b rfl SL1.out (by rw [← HNB.out]; omega) HBW.out (Hid.out ?_))
    unfold Hid
    intro v2 w2 o2 g2 hat
    rw [← HNB.out] at o2
    obtain ⟨d2, ct⟩ := C3.out w2 v2 o2 g2
    obtain ⟨m0, m1, m2, m3⟩ := d2.cells
    have f2 := d2.free
    have K3 : Hid (Kp w.heap.size (Value.slice ra nR rc).ownBlock w (w2.setCell ⟨w.heap.size, 2, none⟩ v2) ∧ DB (w2.setCell ⟨w.heap.size, 2, none⟩ v2) g old made (.slice ra nR rc) 0) := HKW.out w2 v2 g2
    have O3 : Hid (Ow (w2.setCell ⟨w.heap.size, 2, none⟩ v2) B v2 (rest ++ b)) := HOW.out w2 v2 o2 d2
    have OB3 : Hid (v2.ownBlock = (Value.slice ra nR rc).ownBlock ∨ ∀ k, v2.ownBlock = some k → w.heap.size ≤ k) := hat.imp id (fun e k hk => by rw [e] at hk; cases hk; exact HS1.out)
    have D3 : Hid (DB (w2.setCell ⟨w.heap.size, 2, none⟩ v2) w.heap.size old made v2 0) := by unfold Hid DB; rw [heap_setCell_same _ _ _ _ _ _ d2]; rfl
    obtain ⟨a2, c2, rfl⟩ := own_shape o2
    clear o2 g2 d2 hat C3 HKW HOW O1 SL1 HBW k0 k1 k2 k3
    go_wp2_with fail
    refine ct.mono ?_
    rintro e w4 ⟨kp4, hta⟩
    clear ct m0 m1 m2 m3 f2
    generalize w2.setCell ⟨w.heap.size, 2, none⟩ (.slice a2 (nR + nb) c2) = W3 at *
    simp only at hta
    have hgl := HGL.out
    have K4 : Kp g (Value.slice ra nR rc).ownBlock w w4 := (K3.out.1.then kp4 (.inl rfl) (.inr (fun i e => by cases e))).any (Nat.le_refl _)
    have D4 : DB w4 g old made (.slice ra nR rc) 0 := (kp4.block g (Nat.lt_of_lt_of_le hgl K3.out.1.size) (by omega) (by simp)).trans K3.out.2
    by_cases hz : z = 0
    · rw [if_pos hz] at hta
      obtain ⟨lv, v4, rfl, ox4, d4, s4, hnil⟩ := hta
      obtain ⟨P, e1, e2, e3, e4, -, e6⟩ := HIN.out hz
      rw [List.nil_append] at e1
      subst e1
      have hFP := HFP.out
      simp only [if_pos hz] at hFP
      obtain ⟨k0, k1, k2, k3⟩ := D4.cells
      have fg := D4.free
      obtain ⟨m0, m1, m2, m3⟩ := d4.cells
      have fx := d4.free
      obtain ⟨la, lc, rfl, -, -, -⟩ := ox4.shape
      have hw4 : w.heap.size < w4.heap.size := d4.lt
      have hsW : w.heap.size ≤ W3.heap.size := K3.out.1.size
      by_cases hO : O = []
      · obtain ⟨e7, e8⟩ := e6 hO
        have e9 := hnil hO
        replace e8 := e8.symm
        subst hO e7 e8 e9
        have o4 : Ow w4 B (.slice a2 (nR + nb) c2) (rest ++ b) := ⟨own_kp O3.out.1 kp4 (own_ne O3.out.1 D3.out (by decide)) (fun i _ e => by cases e), O3.out.2⟩
        have OZ : Ow (st4 w4 g (.int .i64 old) (.int .i64 made) (.slice a2 (nR + nb) c2) (.int .i64 0)) B (.slice a2 (nR + nb) c2) (rest ++ b) := ow_off o4 (fun k hk => st4_other _ _ _ _ _ _ k hk) D4 (by decide)
        have DZ : DC (st4 w4 g (.int .i64 old) (.int .i64 made) (.slice a2 (nR + nb) c2) (.int .i64 0)) B g (.slice a2 (nR + nb) c2) ⟨old, made, rest ++ b, 0⟩ :=
          ⟨HBG.out, st4_block _ _ _ _ _ _ D4, ⟨a2, c2, by rw [HNR.out, HNB.out, List.length_append]⟩, fun _ => OZ, own_lt OZ.1, HM0.out, HM1.out, HOL.out⟩
        have XZ := (ox4.mono hsW).kp (Kp.st4 g none w4 (.int .i64 old) (.int .i64 made) (.slice a2 (nR + nb) c2) (.int .i64 0)) D4 (by decide) (by decide)
        have KZ := K4.trans (Kp.st4 g _ w4 (.int .i64 old) (.int .i64 made) (.slice a2 (nR + nb) c2) (.int .i64 0))
        have HZ : Hid (FP ⟨old, made, rest, 0⟩ b B g (.slice ra nR rc) w (.returned (.tuple #[.slice la ([] : List Xp).length lc, .int .i64 0])) (st4 w4 g (.int .i64 old) (.int .i64 made) (.slice a2 (nR + nb) c2) (.int .i64 0))) := hFP _ _ ⟨_, _, rfl, XZ.empty _, DZ, KZ, OB3.out⟩
        simp only [List.length_nil] at HZ ⊢
        clear hFP DZ KZ D4 K4 kp4 K3 O3 OB3 HFP HIN HLB HRB hgl OZ XZ o4 ox4 d4 s4 hnil e2 e3 e4 e6 D3
        subst hz
        go_wp2
        rw [st4_eq]
        go_ret2
        exact HZ.out
      · have hlO : (0 : Int) < (O.length : Int) := by have := List.length_pos_iff.2 hO; omega
        have hrl : rest'.length ≤ 90000 := by have := HLB.out; omega
        have CL := clone_ow v4 rest' w4 s4.1 (by omega)
        have FN : Hid (∀ w5 v5, Ow w5 w4.heap.size v5 rest' → Below w4.heap.size w4 w5 → DB w5 w.heap.size old made' v4 0 ∧ DB (w5.setCell ⟨w.heap.size, 2, none⟩ v5) w.heap.size old made' v5 0 ∧ DB (w5.setCell ⟨w.heap.size, 2, none⟩ v5) g old made (.slice ra nR rc) 0 ∧
            FP ⟨old, made, rest, 0⟩ b B g (.slice ra nR rc) w (.returned (.tuple #[.slice la O.length lc, .int .i64 0])) (st4 (w5.setCell ⟨w.heap.size, 2, none⟩ v5) g (.int .i64 old) (.int .i64 made') v5 (.int .i64 0))) := fun w5 v5 o5 b5 => by
          have d5 := d4.kept b5
          have d6 : DB (w5.setCell ⟨w.heap.size, 2, none⟩ v5) w.heap.size old made' v5 0 := by unfold DB; rw [heap_setCell_same _ _ _ _ _ _ d5]; rfl
          have g6 : DB (w5.setCell ⟨w.heap.size, 2, none⟩ v5) g old made (.slice ra nR rc) 0 := (heap_setCell_other _ _ _ _ (by simp only; omega)).trans (D4.kept b5)
          refine ⟨d5, d6, g6, ?_⟩
          have o6 : Ow (w5.setCell ⟨w.heap.size, 2, none⟩ v5) w4.heap.size v5 rest' := ow_off o5 (fun k hk => heap_setCell_other _ _ _ _ hk) d5 (by decide)
          have oz : Ow (st4 (w5.setCell ⟨w.heap.size, 2, none⟩ v5) g (.int .i64 old) (.int .i64 made') v5 (.int .i64 0)) w4.heap.size v5 rest' := ow_off o6 (fun k hk => st4_other _ _ _ _ _ _ k hk) g6 (by decide)
          have x4 := (ox4.mono hsW).apart v5.ownBlock (fun k e => (own_lt o5.1 k e).1)
          have xz0 : OXa (st4 (w5.setCell ⟨w.heap.size, 2, none⟩ v5) g (.int .i64 old) (.int .i64 made') v5 (.int .i64 0)) w.heap.size v5.ownBlock (.slice la O.length lc) O := by
            have x5 := x4.below b5
            obtain ⟨U, y1, y2⟩ := x5
            have k6 : Kp w.heap.size none w5 (w5.setCell ⟨w.heap.size, 2, none⟩ v5) := Kp.set _ _ _ _ _
            have y1' := own_kp y1 k6 (own_ne y1 d5 (by decide)) (fun i _ e => by cases e)
            have y2' := fun i hi => own_kp (y2 i hi).1.1 k6 (own_ne (y2 i hi).1.1 d5 (by decide)) (fun i _ e => by cases e)
            have k7 : Kp g none (w5.setCell ⟨w.heap.size, 2, none⟩ v5) (st4 (w5.setCell ⟨w.heap.size, 2, none⟩ v5) g (.int .i64 old) (.int .i64 made') v5 (.int .i64 0)) := Kp.st4 _ _ _ _ _ _ _
            exact ⟨U, own_kp y1' k7 (own_ne y1' g6 (by decide)) (fun i _ e => by cases e), fun i hi => ⟨⟨own_kp (y2' i hi) k7 (own_ne (y2' i hi) g6 (by decide)) (fun i _ e => by cases e), (y2 i hi).1.2⟩, (y2 i hi).2⟩⟩
          have xz := xz0
          have kz := (((K4.trans (Kp.of b5)).then (Kp.set w.heap.size 2 none w5 v5) (.inr (Nat.le_refl _)) (.inr (fun i e => by cases e)))).trans (Kp.st4 g _ _ (.int .i64 old) (.int .i64 made') v5 (.int .i64 0))
          have hBw : B ≤ w4.heap.size := by have := HBG.out; omega
          obtain ⟨a5, c5, e5⟩ := o5.shape
          refine hFP _ _ ⟨_, v5, rfl, xz, ⟨HBG.out, st4_block _ _ _ _ _ _ g6, ⟨a5, c5, e5⟩, fun _ => oz.mono hBw, fun k e => ?_, ?_, e3, HOL.out⟩, kz, .inr fun k e => ?_⟩
          · have := own_lt oz.1 k e
            exact ⟨by omega, this.2⟩
          · have := HM0.out
            show 0 ≤ made'
            omega
          · have := own_lt oz.1 k e
            omega
        obtain ⟨a4, c4, rfl, -⟩ := id s4.1
        clear hFP D4 K4 kp4 K3 O3 OB3 HFP HIN HLB HRB ox4 d4 s4 hnil e2 e3 e4 e6 D3 hO hsW hw4
        have HGN : Hid (¬ g = w.heap.size) := by unfold Hid; omega
        subst hz
        obtain ⟨nO, hnO⟩ : ∃ nO, nO = O.length := ⟨_, rfl⟩
        obtain ⟨nq, hnq⟩ : ∃ nq, nq = rest'.length := ⟨_, rfl⟩
        have HNQ : Hid (nq = rest'.length) := hnq
        rw [← hnO] at FN hlO ⊢
        rw [← hnq] at CL m2 FN
        clear hnO hnq hrl hgl k0 k1 k2 k3 fg
        go_wp2_with fail
        refine CL.mono ?_
        rintro e w5 ⟨v5, rfl, o5, b5⟩
        obtain ⟨d5, d6, g6, hz⟩ := FN.out w5 v5 o5 b5
        obtain ⟨k0, k1, k2, k3⟩ := g6.cells
        have fg := g6.free
        obtain ⟨y0, y1, y2, y3⟩ := d5.cells
        have fy := d5.free
        obtain ⟨p0, p1, p2, p3⟩ := d6.cells
        have HZ : Hid (FP ⟨old, made, rest, 0⟩ b B g (.slice ra nR rc) w (.returned (.tuple #[.slice la nO lc, .int .i64 0])) (st4 (w5.setCell ⟨w.heap.size, 2, none⟩ v5) g (.int .i64 old) (.int .i64 made') v5 (.int .i64 0))) := hz
        obtain ⟨a5, c5, rfl⟩ := o5.shape
        rw [← HNQ.out] at HZ k0 k1 k2 k3 fg p0 p1 p2 p3 ⊢
        clear hz d5 d6 g6 o5 b5 FN CL m0 m1 m2 m3 fx
        go_wp2
        rw [st4_eq]
        go_ret2
        exact HZ.out
    · rw [if_neg hz] at hta
      subst hta
      have hFP := HFP.out
      simp only [if_neg hz] at hFP
      have DZ : DC (w4.setCell ⟨g, 3, none⟩ (.int .i64 z)) B g (.slice ra nR rc) ⟨old, made, rest, z⟩ := by
        refine ⟨HBG.out, ?_, ⟨ra, rc, by rw [HNR.out]⟩, fun e => absurd e hz, fun k e => ⟨(HRB.out k e).1, ?_⟩, HM0.out, HM1.out, HOL.out⟩
        · unfold DB; rw [heap_setCell_same _ _ _ _ _ _ D4]; rfl
        · have := (HRB.out k e).2
          have := K4.size
          simp [World.setCell]
          omega
      have KZ : Kp g (Value.slice ra nR rc).ownBlock w (w4.setCell ⟨g, 3, none⟩ (.int .i64 z)) := K4.trans (Kp.set _ _ _ _ _)
      have HZ : Hid (FP ⟨old, made, rest, 0⟩ b B g (.slice ra nR rc) w (.returned (.tuple #[.slice none 0 0, .int .i64 z])) (w4.setCell ⟨g, 3, none⟩ (.int .i64 z))) := hFP _ _ ⟨rfl, DZ, KZ⟩
      obtain ⟨k0, k1, k2, k3⟩ := D4.cells
      have fg := D4.free
      have tz : (z != 0) = true := by simpa using hz
      clear hFP DZ KZ D4 K4 kp4 K3 O3 OB3 HFP HIN HLB HRB hz hgl
      go_wp2
      go_ret2
      exact HZ.out
  · have c := feed_stop w B g rv v D h (by obtain ⟨a, c, e, _⟩ := sl; exact ⟨a, _, c, e⟩) he
    have e1 : feedP D b = (D, [], D.err) := if_neg he
    refine c.mono ?_
    rintro e w' ⟨rfl, bb⟩
    refine ⟨.slice none 0 0, rv, by rw [e1], by rw [e1]; exact OXa.nil _ _ _, by rw [e1]; exact h.kept bb, Kp.of bb, .inl rfl⟩
end Go.Proofs.YtfccjeepmhgckaaDoor
