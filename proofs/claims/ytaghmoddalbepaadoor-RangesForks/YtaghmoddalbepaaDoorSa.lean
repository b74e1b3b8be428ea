/-
  A span read.
-/
import Derived.Test.YtaghmoddalbepaaDoorBr
import Derived.Test.YtaghmoddalbepaaDoorSo
namespace Go.Proofs.YtaghmoddalbepaaDoor
open Go.RowKit Go.Shelf
set_option maxRecDepth 100000

/-- All that was there but a block stays. -/
structure Bt (g : Nat) (w w' : World) : Prop where
  os : w'.os = w.os
  tape : w'.tape = w.tape
  output : w'.output = w.output
  size : w.heap.size ≤ w'.heap.size
  block : ∀ k, k < w.heap.size → k ≠ g → w'.heap[k]? = w.heap[k]?
theorem Bt.refl (g : Nat) (w : World) : Bt g w w := ⟨rfl, rfl, rfl, Nat.le_refl _, fun _ _ _ => rfl⟩
theorem Bt.trans {g : Nat} {a b c : World} (h : Bt g a b) (k : Bt g b c) : Bt g a c :=
  ⟨k.os.trans h.os, k.tape.trans h.tape, k.output.trans h.output, Nat.le_trans h.size k.size, fun i hi hn => (k.block i (Nat.lt_of_lt_of_le hi h.size) hn).trans (h.block i hi hn)⟩
theorem Bt.of {g : Nat} {w w' : World} (h : Below w.heap.size w w') : Bt g w w' := ⟨h.os, h.tape, h.output, h.size, fun k hk _ => h.block k hk⟩
theorem Bt.off {g : Nat} {w w' : World} (h : Fi.Off g w w') : Bt g w w' := ⟨h.os, h.tape, h.output, Nat.le_of_eq h.size.symm, fun k _ hn => h.block k hn⟩
theorem Bt.below {g n : Nat} {w a b : World} (h : Bt g a b) (hb : Below n w a) (hn : n ≤ g) (hs : n ≤ a.heap.size) : Below n w b := hb.trans ⟨h.os, h.tape, h.output, h.size, fun k hk => h.block k (by omega) (by omega)⟩
theorem Bt.low {g : Nat} {w a b : World} (h : Bt g w a) (hb : Below w.heap.size a b) : Bt g w b := ⟨hb.os.trans h.os, hb.tape.trans h.tape, hb.output.trans h.output, Nat.le_trans h.size hb.size, fun k hk hn => (hb.block k hk).trans (h.block k hk hn)⟩
theorem wid_bt {g : Nat} {w w' : World} (h : Fi.Wid w) (hb : Bt g w w') (hg : 0 < g) : Fi.Wid w' := h.below (B := 1) ⟨hb.os, hb.tape, hb.output, hb.size, fun k hk => hb.block k (by have := h.pos; omega) (by omega)⟩ (by omega)
theorem RSp.bt {w w' : World} {B g : Nat} {v : Value} {l : List Sp} (h : RSp w B v l) (hb : Bt g w w') (hg : v.ownBlock ≠ some g) : RSp w' B v l := h.keep fun k _ hk hh => (hb.block k (blk_lt hh) (fun e => hg (e ▸ hk))).trans hh
theorem rd_off {w w' : World} {g s : Nat} {xs : List Int} {e : Int} (h : Fi.Rd w g s xs e) (hb : Below w.heap.size w w') : Fi.Rd w' g s xs e := h.kept hb
theorem infoS2 : (Tryd.prog.info? 58).map (·.size) = some 2 := by kernel_rfl
set_option maxHeartbeats 1000000 in
theorem spanAhead_any (w : World) (g s : Nat) (xs : List Int) (e tt left : Int) (hw : Fi.Wid w) (h : Fi.Rd w g s xs e) (hs : s < w.heap.size) (h0 : 0 ≤ left) (h1 : left * 2 ≤ tt) (h2 : tt ≤ 1099511627776) :
    Calls Tryd.prog 47 #[.pointer (some ⟨g, 0, none⟩), .int .i64 tt, .int .i64 left] w fun r w' => r = .returned (.agg #[.int .i64 (gsp xs e tt left).1.1, .int .i64 (gsp xs e tt left).1.2]) ∧ Fi.Rd w' g s (gsp xs e tt left).2.1 (gsp xs e tt left).2.2 ∧ Bt g w w' := by
  have hgl := Rd.lt h
  obtain ⟨w1, hw1⟩ : ∃ w1, w1 = w.alloc (.cells #[.int .i64 0, .int .i64 0] 58) := ⟨_, rfl⟩
  have b1 : Below w.heap.size w w1 := by rw [hw1]; exact al_below _ _
  have g1 : w1.heap[w.heap.size]? = some (.cells #[.int .i64 0, .int .i64 0] 58 (0, 0)) := by rw [hw1]; exact heap_alloc_new _ _
  have cn := rdNum g s xs e (tt - left * 2) w1 (hw.below b1 hw.pos) (h.kept b1)
  have hbd := rN_bd xs e (tt - left * 2) (by omega) (Fi.Rd.bytes h)
  have HG : Hid (gsp xs e tt left = ((tt - (rN xs e (tt - left * 2)).1, tt), (rN xs e (tt - left * 2)).2)) := rfl
  have HB1 : Hid (Below w.heap.size w w1) := b1
  have HG1 : Hid (w1.heap[w.heap.size]? = some (.cells #[.int .i64 0, .int .i64 0] 58 (0, 0))) := g1
  have HGL : Hid (g < w.heap.size) := hgl
  have sw1 : IntKind.i64.wrap (left * 2) = left * 2 := by rw [IntKind.wrap_i64]; omega
  have sw2 : IntKind.i64.wrap (tt - left * 2) = tt - left * 2 := by rw [IntKind.wrap_i64]; omega
  have sw3 : IntKind.i64.wrap (tt - (rN xs e (tt - left * 2)).1) = tt - (rN xs e (tt - left * 2)).1 := by rw [IntKind.wrap_i64]; omega
  have HNE : Hid (g ≠ w.heap.size ∧ s ≠ w.heap.size) := ⟨by omega, by omega⟩
  clear hw h hs b1 g1 hgl hbd
  generalize gsp xs e tt left = G at *
  generalize rN xs e (tt - left * 2) = R at *
  go_enter Tryd.func47, Tryd.ntmps47
  go_wp2_with fail
  rw [← hw1]
  clear hw1
  go_wp2_with fail
  refine cn.mono ?_
  rintro e w2 ⟨rfl, rd2, of2⟩
  have g2 := (of2.block w.heap.size (by have := HGL.out; omega)).trans HG1.out
  have HG2 : Hid (w2.heap[w.heap.size]? = some (.cells #[.int .i64 0, .int .i64 0] 58 (0, 0))) := g2
  have k0 : w2.cell? ⟨w.heap.size, 0, none⟩ = some (.int .i64 0) := by simp [World.cell?, g2]
  have k1 : w2.cell? ⟨w.heap.size, 1, none⟩ = some (.int .i64 0) := by simp [World.cell?, g2]
  have k2 : w2.frozen? ⟨w.heap.size, 0, none⟩ = false := by simp [World.frozen?, g2]
  have k3 : w2.frozen? ⟨w.heap.size, 1, none⟩ = false := by simp [World.frozen?, g2]
  have HR2 : Hid (Fi.Rd w2 g s R.2.1 R.2.2) := rd2
  have HO2 : Hid (Fi.Off g w1 w2) := of2
  clear cn g2 rd2 of2
  go_wp2
  have HH : Hid (((w2.setCell ⟨w.heap.size, 0, none⟩ (.int .i64 (tt - R.1))).setCell ⟨w.heap.size, 1, none⟩ (.int .i64 tt)).heap[w.heap.size]? = some (.cells #[.int .i64 (tt - R.1), .int .i64 tt] 58 (0, 0))) := by
    unfold Hid
    have := HG2.out
    simp [World.setCell, Array.getElem?_modify, this]
  have HF : Hid (Below w.heap.size w2 ((w2.setCell ⟨w.heap.size, 0, none⟩ (.int .i64 (tt - R.1))).setCell ⟨w.heap.size, 1, none⟩ (.int .i64 tt))) := ((Below.refl _ _).setCell (p := ⟨w.heap.size, 0, none⟩) (Nat.le_refl _) _).setCell (p := ⟨w.heap.size, 1, none⟩) (Nat.le_refl _) _
  have HE : Hid (Fi.Rd ((w2.setCell ⟨w.heap.size, 0, none⟩ (.int .i64 (tt - R.1))).setCell ⟨w.heap.size, 1, none⟩ (.int .i64 tt)) g s R.2.1 R.2.2) := by
    have o1 := Fi.Off.setCell w.heap.size 0 w2 (.int .i64 (tt - R.1))
    have o2 := Fi.Off.setCell w.heap.size 1 (w2.setCell ⟨w.heap.size, 0, none⟩ (.int .i64 (tt - R.1))) (.int .i64 tt)
    exact HR2.out.off (o1.trans o2) HNE.out.1 HNE.out.2
  have HBT : Hid (Bt g w w2) := (Bt.of HB1.out).trans (Bt.off HO2.out)
  exact bodyPost_ret (v := .agg #[.int .i64 (tt - R.1), .int .i64 tt]) (results_cell_row rfl _ _ w.heap.size 58 #[.int .i64 (tt - R.1), .int .i64 tt] (0, 0) _ rfl HH.out Tryd.underlying58 rfl infoS2) rfl ⟨by rw [HG.out], by rw [HG.out]; exact HE.out, HBT.out.low HF.out⟩
end Go.Proofs.YtaghmoddalbepaaDoor
