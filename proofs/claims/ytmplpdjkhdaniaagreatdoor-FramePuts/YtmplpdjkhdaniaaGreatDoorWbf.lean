/-
  A span read.
  What slices.Reverse makes of a row of spans.
-/
import Derived.Test.YtmplpdjkhdaniaaGreatDoorWau
import Derived.Test.YtmplpdjkhdaniaaGreatDoorWaq
import Derived.Maps.OwnSet
namespace Go.Proofs.YtmplpdjkhdaniaaGreatDoor
open Go.RowKit Go.Shelf
set_option maxRecDepth 100000

/-- All that was there but a block stays. -/
structure Bt (g : Nat) (w w' : World) : Prop where
  os : w'.os = w.os
  tape : w'.tape = w.tape
  output : w'.output = w.output
  size : w.heap.size ≤ w'.heap.size
  block : ∀ k, k < w.heap.size → k ≠ g → w'.heap[k]? = w.heap[k]?
theorem Bt.refl (g : Nat) (w : World) : Bt g w w := ⟨rfl, rfl, rfl, Nat.le_refl _, fun _ _ _ => rfl⟩
theorem Bt.trans {g : Nat} {a b c : World} (h : Bt g a b) (k : Bt g b c) : Bt g a c :=
  ⟨k.os.trans h.os, k.tape.trans h.tape, k.output.trans h.output, Nat.le_trans h.size k.size, fun i hi hn => (k.block i (Nat.lt_of_lt_of_le hi h.size) hn).trans (h.block i hi hn)⟩
theorem Bt.of {g : Nat} {w w' : World} (h : Below w.heap.size w w') : Bt g w w' := ⟨h.os, h.tape, h.output, h.size, fun k hk _ => h.block k hk⟩
theorem Bt.off {g : Nat} {w w' : World} (h : Fi.Off g w w') : Bt g w w' := ⟨h.os, h.tape, h.output, Nat.le_of_eq h.size.symm, fun k _ hn => h.block k hn⟩
theorem Bt.below {g n : Nat} {w a b : World} (h : Bt g a b) (hb : Below n w a) (hn : n ≤ g) (hs : n ≤ a.heap.size) : Below n w b := hb.trans ⟨h.os, h.tape, h.output, h.size, fun k hk => h.block k (by omega) (by omega)⟩
theorem Bt.low {g : Nat} {w a b : World} (h : Bt g w a) (hb : Below w.heap.size a b) : Bt g w b := ⟨hb.os.trans h.os, hb.tape.trans h.tape, hb.output.trans h.output, Nat.le_trans h.size hb.size, fun k hk hn => (hb.block k hk).trans (h.block k hk hn)⟩
theorem wid_bt {g : Nat} {w w' : World} (h : Fi.Wid w) (hb : Bt g w w') (hg : 1 < g) : Fi.Wid w' := h.below (B := 2) ⟨hb.os, hb.tape, hb.output, hb.size, fun k hk => hb.block k (by have := h.pos; omega) (by omega)⟩ (by omega)
theorem RSp.bt {w w' : World} {B g : Nat} {v : Value} {l : List Sp} (h : RSp w B v l) (hb : Bt g w w') (hg : v.ownBlock ≠ some g) : RSp w' B v l := h.keep fun k _ hk hh => (hb.block k (blk_lt hh) (fun e => hg (e ▸ hk))).trans hh
theorem infoS2 : (Tryz.prog.info? 89).map (·.size) = some 2 := by kernel_rfl
set_option maxHeartbeats 1000000 in
theorem spanAhead_any (w : World) (g s : Nat) (xs : List Int) (e tt left : Int) (hw : Fi.Wid w) (h : Fi.Rd w g s xs e) (hs : s < w.heap.size) (h0 : 0 ≤ left) (h1 : left * 2 ≤ tt) (h2 : tt ≤ 1099511627776) :
    Calls Tryz.prog 73 #[.pointer (some ⟨g, 0, none⟩), .int .i64 tt, .int .i64 left] w fun r w' => r = .returned (.agg #[.int .i64 (gsp xs e tt left).1.1, .int .i64 (gsp xs e tt left).1.2]) ∧ Fi.Rd w' g s (gsp xs e tt left).2.1 (gsp xs e tt left).2.2 ∧ Bt g w w' := by
  have hgl := Rd.lt h
  obtain ⟨w1, hw1⟩ : ∃ w1, w1 = w.alloc (.cells #[.int .i64 0, .int .i64 0] 89) := ⟨_, rfl⟩
  have b1 : Below w.heap.size w w1 := by rw [hw1]; exact al_below _ _
  have g1 : w1.heap[w.heap.size]? = some (.cells #[.int .i64 0, .int .i64 0] 89 (0, 0)) := by rw [hw1]; exact heap_alloc_new _ _
  have cn := rdNum g s xs e (tt - left * 2) w1 (hw.below b1 hw.pos) (h.kept b1)
  have hbd := rN_bd xs e (tt - left * 2) (by omega) (Fi.Rd.bytes h)
  have HG : Hid (gsp xs e tt left = ((tt - (rN xs e (tt - left * 2)).1, tt), (rN xs e (tt - left * 2)).2)) := rfl
  have HB1 : Hid (Below w.heap.size w w1) := b1
  have HG1 : Hid (w1.heap[w.heap.size]? = some (.cells #[.int .i64 0, .int .i64 0] 89 (0, 0))) := g1
  have HGL : Hid (g < w.heap.size) := hgl
  have sw1 : IntKind.i64.wrap (left * 2) = left * 2 := by rw [IntKind.wrap_i64]; omega
  have sw2 : IntKind.i64.wrap (tt - left * 2) = tt - left * 2 := by rw [IntKind.wrap_i64]; omega
  have sw3 : IntKind.i64.wrap (tt - (rN xs e (tt - left * 2)).1) = tt - (rN xs e (tt - left * 2)).1 := by rw [IntKind.wrap_i64]; omega
  have HNE : Hid (g ≠ w.heap.size ∧ s ≠ w.heap.size) := ⟨by omega, by omega⟩
  clear hw h hs b1 g1 hgl hbd
  generalize gsp xs e tt left = G at *
  generalize rN xs e (tt - left * 2) = R at *
  go_enter Tryz.func73, Tryz.ntmps73
  go_wp2_with fail
  rw [← hw1]
  clear hw1
  go_wp2_with fail
  refine cn.mono ?_
  rintro e w2 ⟨rfl, rd2, of2⟩
  have g2 := (of2.block w.heap.size (by have := HGL.out; omega)).trans HG1.out
  have HG2 : Hid (w2.heap[w.heap.size]? = some (.cells #[.int .i64 0, .int .i64 0] 89 (0, 0))) := g2
  have k0 : w2.cell? ⟨w.heap.size, 0, none⟩ = some (.int .i64 0) := by simp [World.cell?, g2]
  have k1 : w2.cell? ⟨w.heap.size, 1, none⟩ = some (.int .i64 0) := by simp [World.cell?, g2]
  have k2 : w2.frozen? ⟨w.heap.size, 0, none⟩ = false := by simp [World.frozen?, g2]
  have k3 : w2.frozen? ⟨w.heap.size, 1, none⟩ = false := by simp [World.frozen?, g2]
  have HR2 : Hid (Fi.Rd w2 g s R.2.1 R.2.2) := rd2
  have HO2 : Hid (Fi.Off g w1 w2) := of2
  clear cn g2 rd2 of2
  go_wp2
  have HH : Hid (((w2.setCell ⟨w.heap.size, 0, none⟩ (.int .i64 (tt - R.1))).setCell ⟨w.heap.size, 1, none⟩ (.int .i64 tt)).heap[w.heap.size]? = some (.cells #[.int .i64 (tt - R.1), .int .i64 tt] 89 (0, 0))) := by
    unfold Hid
    have := HG2.out
    simp [World.setCell, Array.getElem?_modify, this]
  have HF : Hid (Below w.heap.size w2 ((w2.setCell ⟨w.heap.size, 0, none⟩ (.int .i64 (tt - R.1))).setCell ⟨w.heap.size, 1, none⟩ (.int .i64 tt))) := ((Below.refl _ _).setCell (p := ⟨w.heap.size, 0, none⟩) (Nat.le_refl _) _).setCell (p := ⟨w.heap.size, 1, none⟩) (Nat.le_refl _) _
  have HE : Hid (Fi.Rd ((w2.setCell ⟨w.heap.size, 0, none⟩ (.int .i64 (tt - R.1))).setCell ⟨w.heap.size, 1, none⟩ (.int .i64 tt)) g s R.2.1 R.2.2) := by
    have o1 := Fi.Off.setCell w.heap.size 0 w2 (.int .i64 (tt - R.1))
    have o2 := Fi.Off.setCell w.heap.size 1 (w2.setCell ⟨w.heap.size, 0, none⟩ (.int .i64 (tt - R.1))) (.int .i64 tt)
    exact HR2.out.off (o1.trans o2) HNE.out.1 HNE.out.2
  have HBT : Hid (Bt g w w2) := (Bt.of HB1.out).trans (Bt.off HO2.out)
  exact bodyPost_ret (v := .agg #[.int .i64 (tt - R.1), .int .i64 tt]) (results_cell_row rfl _ _ w.heap.size 89 #[.int .i64 (tt - R.1), .int .i64 tt] (0, 0) _ rfl HH.out Tryz.underlying89 rfl infoS2) rfl ⟨by rw [HG.out], by rw [HG.out]; exact HE.out, HBT.out.low HF.out⟩
end Go.Proofs.YtmplpdjkhdaniaaGreatDoor
namespace Go.Proofs.YtmplpdjkhdaniaaGreatDoor
open Go.RowKit
set_option maxRecDepth 100000

theorem cellsP_cons (x : Sp) (l : List Sp) : ((x :: l).map spc).flatten = [.int .i64 x.1, .int .i64 x.2] ++ (l.map spc).flatten := rfl
theorem cellsP_get : ∀ (l : List Sp) (i : Nat), i < l.length → ((l.map spc).flatten)[i * 2]? = some (.int .i64 (atS l i).1) ∧ ((l.map spc).flatten)[i * 2 + 1]? = some (.int .i64 (atS l i).2)
  | [], i, h => by simp at h
  | x :: l, 0, _ => ⟨rfl, rfl⟩
  | x :: l, i + 1, h => by
    obtain ⟨a, b⟩ := cellsP_get l i (by simpa using h)
    have e2 : atS (x :: l) (i + 1) = atS l i := by simp [atS, List.getD]
    rw [cellsP_cons, e2]
    refine ⟨?_, ?_⟩
    · rw [List.getElem?_append_right (by simp; omega)]; simpa [show (i + 1) * 2 - 2 = i * 2 by omega] using a
    · rw [List.getElem?_append_right (by simp; omega)]; simpa [show (i + 1) * 2 + 1 - 2 = i * 2 + 1 by omega] using b
theorem cellsP_set : ∀ (l : List Sp) (i : Nat) (y : Sp), i < l.length → (((l.map spc).flatten).set (i * 2) (.int .i64 y.1)).set (i * 2 + 1) (.int .i64 y.2) = ((l.set i y).map spc).flatten
  | [], i, _, h => by simp at h
  | x :: l, 0, y, _ => rfl
  | x :: l, i + 1, y, h => by
    have ih := cellsP_set l i y (by simpa using h)
    rw [List.set_cons_succ, cellsP_cons, cellsP_cons, ← ih]
    rw [show (i + 1) * 2 = i * 2 + 2 by omega, show i * 2 + 2 + 1 = (i * 2 + 1) + 2 by omega]
    rfl
/-- Whose first and last k were exchanged. -/
def revK (l : List Sp) (k : Nat) : List Sp := (List.range l.length).map fun p => if p < k ∨ l.length ≤ p + k then atS l (l.length - 1 - p) else atS l p
theorem revK_len (l : List Sp) (k : Nat) : (revK l k).length = l.length := by simp [revK]
theorem revK_at (l : List Sp) (k p : Nat) (h : p < l.length) : atS (revK l k) p = if p < k ∨ l.length ≤ p + k then atS l (l.length - 1 - p) else atS l p := by
  rw [atS_eq _ _ (by rw [revK_len]; exact h)]
  simp [revK]
theorem revK_zero (l : List Sp) : revK l 0 = l := by
  refine List.ext_getElem (revK_len l 0) fun i a b => ?_
  rw [← atS_eq _ _ a, revK_at l 0 i b, if_neg (by omega), atS_eq l i b]
theorem revK_end (l : List Sp) (k : Nat) (h : l.length ≤ k + k + 1) : revK l k = l.reverse := by
  refine List.ext_getElem (by rw [revK_len, List.length_reverse]) fun i a b => ?_
  rw [revK_len] at a
  rw [← atS_eq _ _ (by rw [revK_len]; exact a), revK_at l k i a, List.getElem_reverse, ← atS_eq l _ (by omega)]
  by_cases hc : i < k ∨ l.length ≤ i + k
  · rw [if_pos hc]
  · rw [if_neg hc]
    congr 1
    omega
theorem revK_next (l : List Sp) (k : Nat) (h : k + k + 1 < l.length) : ((revK l k).set k (atS l (l.length - 1 - k))).set (l.length - 1 - k) (atS l k) = revK l (k + 1) := by
  refine List.ext_getElem (by simp [revK_len]) fun i a b => ?_
  rw [revK_len] at b
  rw [List.getElem_set, List.getElem_set, ← atS_eq (revK l (k + 1)) _ (by rw [revK_len]; exact b), revK_at l (k + 1) i b]
  by_cases c1 : l.length - 1 - k = i
  · rw [if_pos c1, if_pos (by omega)]; congr 1; omega
  · rw [if_neg c1]
    by_cases c2 : k = i
    · rw [if_pos c2, if_pos (by omega), c2]
    · rw [if_neg c2, ← atS_eq (revK l k) _ (by rw [revK_len]; exact b), revK_at l k i b]
      by_cases c3 : i < k ∨ l.length ≤ i + k
      · rw [if_pos c3, if_pos (by omega)]
      · rw [if_neg c3, if_neg (by omega)]
theorem grow_trans {a b c : World} {o : Option Nat} (h1 : a.grownBy b o) (h2 : b.grownBy c o) : a.grownBy c o :=
  ⟨h2.os.trans h1.os, h2.tape.trans h1.tape, h2.output.trans h1.output, Nat.le_trans h1.size h2.size, fun k hk hne => (h2.block k (Nat.lt_of_lt_of_le hk h1.size) hne).trans (h1.block k hk hne)⟩
theorem grow_refl (a : World) (o : Option Nat) : a.grownBy a o := ⟨rfl, rfl, rfl, Nat.le_refl _, fun _ _ _ => rfl⟩
theorem grow_drew {a b : World} {o : Option Nat} (h : a.grownBy b o) : a.grownBy b.drew o := ⟨h.os, h.tape, h.output, h.size, h.block⟩
theorem swap_row {wr : World} {B g n c k m : Nat} {L : List Sp} {X Y : Sp} (h : wr.ownsRow B 89 2 (.slice (some ⟨g, 0, none⟩) n c) n ((L.map spc).flatten)) (hk : k < L.length) (hm : m < L.length) :
    World.ownsRow (((((wr.setCell ⟨g, k * 2, none⟩ (.int .i64 Y.1)).setCell ⟨g, k * 2 + 1, none⟩ (.int .i64 Y.2)).setCell ⟨g, m * 2, none⟩ (.int .i64 X.1)).setCell ⟨g, m * 2 + 1, none⟩ (.int .i64 X.2)).drew) B 89 2 (.slice (some ⟨g, 0, none⟩) n c) n ((((L.set k Y).set m X).map spc).flatten) ∧
      wr.grownBy (((((wr.setCell ⟨g, k * 2, none⟩ (.int .i64 Y.1)).setCell ⟨g, k * 2 + 1, none⟩ (.int .i64 Y.2)).setCell ⟨g, m * 2, none⟩ (.int .i64 X.1)).setCell ⟨g, m * 2 + 1, none⟩ (.int .i64 X.2)).drew) (some g) := by
  obtain ⟨o1, g1⟩ := World.ownsRow.stored h (k * 2) (.int .i64 Y.1)
  obtain ⟨o2, g2⟩ := World.ownsRow.stored o1 (k * 2 + 1) (.int .i64 Y.2)
  obtain ⟨o3, g3⟩ := World.ownsRow.stored o2 (m * 2) (.int .i64 X.1)
  obtain ⟨o4, g4⟩ := World.ownsRow.stored o3 (m * 2 + 1) (.int .i64 X.2)
  rw [cellsP_set L k Y hk, cellsP_set (L.set k Y) m X (by rw [List.length_set]; exact hm)] at o4
  exact ⟨World.ownsRow.drew o4, grow_drew (grow_trans g1 (grow_trans g2 (grow_trans g3 g4)))⟩
set_option maxHeartbeats 1000000 in
set_option maxRecDepth 100000 in
theorem reverse_any (B : Nat) (v : Value) (l : List Sp) (w : World) (h : RSp w B v l) (hl : l.length ≤ 1000) :
    Calls Tryz.prog 74 #[v] w fun e w' => e = .returned (.tuple #[]) ∧ RSp w' B v l.reverse ∧ w.grownBy w' v.ownBlock := by
  obtain ⟨a, c, rfl, -, -, -⟩ := h.is.shape
  have HO : Hid (RSp w B (.slice a l.length c) l) := h
  obtain ⟨n, hn⟩ : ∃ n, n = l.length := ⟨_, rfl⟩
  have HN : Hid (n = l.length) := hn
  have HE : Hid (∀ k, n ≤ k + k + 1 → revK l k = l.reverse) := fun k hk => revK_end l k (by rw [← hn]; exact hk)
  have q0 : IntKind.i64.wrap ((n : Int) - 1) = (n : Int) - 1 := by rw [IntKind.wrap_i64]; omega
  rw [← hn] at HO hl ⊢
  clear h hn
  go_enter Tryz.func74, Tryz.ntmps74
  go_wp2
  go_loopw [2, 3] (fun p q wr => ∃ k : Nat, k + k ≤ n ∧ p = .int .i64 k ∧ q = .int .i64 ((n : Int) - 1 - k) ∧ RSp wr B (.slice a n c) (revK l k) ∧ w.grownBy wr (Value.ownBlock (.slice a n c))) (fun p _ _ => n - (intOf p).toNat)
  case atStart => exact ⟨0, by omega, rfl, by simp, by rw [revK_zero]; exact HO.out, grow_refl _ _⟩
  case round =>
    obtain ⟨k, hk, rfl, rfl, sr, gr⟩ := hrel
    have HS : Hid (RSp wr B (.slice a n c) (revK l k)) := sr
    have HG : Hid (w.grownBy wr (Value.ownBlock (.slice a n c))) := gr
    clear sr gr
    by_cases hlt : k + k + 1 < n
    · have lt2 : (k : Int) < (n : Int) - 1 - (k : Int) := by omega
      obtain ⟨m, hm⟩ : ∃ m : Nat, m = n - 1 - k := ⟨_, rfl⟩
      have hmi : (n : Int) - 1 - (k : Int) = (m : Int) := by omega
      have HMI : Hid ((n : Int) - 1 - (k : Int) = (m : Int)) := hmi
      rw [hmi] at lt2 ⊢
      have hkm : k < m := by omega
      have hmn : m < n := by omega
      have ho := HS.out
      replace ho := ho.own
      rw [revK_len, ← HN.out] at ho
      have HOW : Hid (wr.ownsRow B 89 2 (.slice a n c) n (((revK l k).map spc).flatten)) := ho
      obtain ⟨g, hga, hnc⟩ : ∃ g, a = some ⟨g, 0, none⟩ ∧ n ≤ c := by
        rcases ho.2 with ⟨_, h0⟩ | ⟨g, cap, cur, e, _, _, h1, _⟩
        · omega
        · cases e; exact ⟨g, rfl, h1⟩
      subst hga
      have cl : ∀ j, j < n * 2 → wr.cell? ⟨g, j, none⟩ = (((revK l k).map spc).flatten)[j]? := fun j hj => ho.cellAt j hj
      have fz : ∀ j, wr.frozen? ⟨g, j, none⟩ = false := fun j => ho.frozenAt j
      obtain ⟨x0, x1⟩ := cellsP_get (revK l k) k (by rw [revK_len, ← HN.out]; omega)
      obtain ⟨y0, y1⟩ := cellsP_get (revK l k) m (by rw [revK_len, ← HN.out]; omega)
      have hx : atS (revK l k) k = atS l k := by rw [revK_at l k k (by rw [← HN.out]; omega), if_neg (by rw [← HN.out]; omega)]
      have hy : atS (revK l k) m = atS l m := by rw [revK_at l k m (by rw [← HN.out]; omega), if_neg (by rw [← HN.out]; omega)]
      rw [hx] at x0 x1
      rw [hy] at y0 y1
      have X0 := (cl _ (by omega)).trans x0
      have X1 := (cl _ (by omega)).trans x1
      have Y0 := (cl _ (by omega)).trans y0
      have Y1 := (cl _ (by omega)).trans y1
      have F0 := fz (k * 2)
      have F1 := fz (k * 2 + 1)
      have E0 := fz (m * 2)
      have E1 := fz (m * 2 + 1)
      have HX : Hid (revK l (k + 1) = ((revK l k).set k (atS l m)).set m (atS l k)) := by
        unfold Hid
        have := revK_next l k (by rw [← HN.out]; exact hlt)
        rw [← HN.out, ← hm] at this
        exact this.symm
      clear ho cl fz x0 x1 y0 y1 hx hy hm hmi
      generalize atS l k = X at *
      generalize atS l m = Y at *
      have q1 : IntKind.i64.wrap ((k : Int) + 1) = ((k + 1 : Nat) : Int) := by simp [IntKind.wrap, IntKind.bits, IntKind.signed]; omega
      have q2 : IntKind.i64.wrap ((m : Int) - 1) = (m : Int) - 1 := by rw [IntKind.wrap_i64]; omega
      have HRES : Hid (RSp ((((wr.setCell ⟨g, k * 2, none⟩ (.int .i64 Y.1)).setCell ⟨g, k * 2 + 1, none⟩ (.int .i64 Y.2)).setCell ⟨g, m * 2, none⟩ (.int .i64 X.1)).setCell ⟨g, m * 2 + 1, none⟩ (.int .i64 X.2)).drew B (.slice (some ⟨g, 0, none⟩) n c) (revK l (k + 1)) ∧
          w.grownBy ((((wr.setCell ⟨g, k * 2, none⟩ (.int .i64 Y.1)).setCell ⟨g, k * 2 + 1, none⟩ (.int .i64 Y.2)).setCell ⟨g, m * 2, none⟩ (.int .i64 X.1)).setCell ⟨g, m * 2 + 1, none⟩ (.int .i64 X.2)).drew (some g)) := by
        have hn := HN.out
        obtain ⟨o6, g6⟩ := swap_row (X := X) (Y := Y) HOW.out (k := k) (m := m) (by rw [revK_len]; omega) (by rw [revK_len]; omega)
        rw [← HX.out] at o6
        refine ⟨?_, grow_trans HG.out g6⟩
        refine RSp.of ?_
        rw [revK_len, ← hn]
        exact o6
      clear HX HOW HS HG
      go_wp2
      go_region
      go_wp2
      go_roundw
      case rel => exact ⟨k + 1, by omega, by go_num, by
        have := HMI.out
        rw [show (m : Int) - 1 = (n : Int) - 1 - ((k + 1 : Nat) : Int) by omega], HRES.out.1, HRES.out.2⟩
      case measure => simp [intOf]; omega
    · have hge : ¬ (k : Int) < (n : Int) - 1 - (k : Int) := by omega
      have HR : Hid (RSp wr B (.slice a n c) l.reverse) := by
        have h1 := HS.out
        rw [HE.out k (by omega)] at h1
        exact h1
      clear HE HS
      go_wp2
      go_end0
      exact ⟨rfl, HR.out, HG.out⟩
end Go.Proofs.YtmplpdjkhdaniaaGreatDoor
