/-
  StreamOf, Size; what every right program does.
  Frames in a row of the call's own; how much Get uses.
-/
import Derived.Test.YtmplpdjkhdaniaaGreatDoorWbs
import Derived.Test.YtmplpdjkhdaniaaGreatDoorWbi
namespace Go.Proofs.YtmplpdjkhdaniaaGreatDoor
open Go.RowKit Go.Shelf
set_option maxRecDepth 100000

set_option maxHeartbeats 2000000 in
theorem streamOf_yes (id n : Int) (fin : Bool) (tx : ByteArray) (w : World) :
    Calls Tryz.prog 11 #[.iface 42 (.agg #[.int .i64 id, .int .i64 n, .bool fin, .string tx])] w fun e w' => e = .returned (.tuple #[.agg #[.int .i64 id, .int .i64 n, .bool fin, .string tx], .int .i64 0]) ∧ Below w.heap.size w w' := by
  obtain ⟨W1, hW1⟩ : ∃ W1, W1 = w.alloc (.cells #[.int .i64 0, .int .i64 0, .bool false, .string ⟨#[]⟩] 42) := ⟨_, rfl⟩
  have b1 : Below w.heap.size w W1 := by rw [hW1]; exact al_below _ _
  have g1 : W1.heap[w.heap.size]? = some (.cells #[.int .i64 0, .int .i64 0, .bool false, .string ⟨#[]⟩] 42 (0, 0)) := by rw [hW1]; exact heap_alloc_new _ _
  have c := asStream_yes id n fin tx W1
  go_enter Tryz.func11, Tryz.ntmps11
  go_upto_region 1 with fail
  rw [← hW1]
  clear hW1
  go_wp2_with fail
  refine c.mono ?_
  rintro e w2 ⟨rfl, b2⟩
  have g2 := blk_kept g1 b2 (blk_lt g1)
  have HB2 : Hid (Below w.heap.size w w2) := b1.trans (b2.mono b1.size)
  clear c b1 b2 g1
  have HG2 : Hid (w2.heap[w.heap.size]? = some (.cells #[.int .i64 0, .int .i64 0, .bool false, .string ⟨#[]⟩] 42 (0, 0))) := g2
  clear g2
  have hinf : Hid ((Tryz.prog.info? 42).map (·.size) = some 4) := by unfold Hid; kernel_rfl
  have HONE : Hid (#[Value.int .i64 id, .int .i64 n, .bool fin, .string tx].all (·.oneCell') = true) := all_oneCell_toArray (cs := [Value.int .i64 id, .int .i64 n, .bool fin, .string tx]) fun v hv => by
    simp only [List.mem_cons, List.not_mem_nil, or_false] at hv
    rcases hv with rfl | rfl | rfl | rfl <;> rfl
  go_wp2_with (refine wpList_store_row rfl 42 _ _ rfl w.heap.size #[.int .i64 id, .int .i64 n, .bool fin, .string tx] rfl rfl 42 _ HG2.out hinf.out rfl HONE.out (Hid.out ?_))
  unfold Hid
  go_wp2
  have hg3 := setRow_heap _ _ _ #[.int .i64 id, .int .i64 n, .bool fin, .string tx] _ _ HG2.out
  have HB3 : Hid (Below w.heap.size w (w2.setRow w.heap.size #[.int .i64 id, .int .i64 n, .bool fin, .string tx])) := below_setRow HB2.out (Nat.le_refl _) _
  generalize w2.setRow w.heap.size #[.int .i64 id, .int .i64 n, .bool fin, .string tx] = WZ at *
  have k0 : WZ.cell? ⟨w.heap.size, 0, none⟩ = some (.int .i64 id) := by simp [World.cell?, hg3]
  have k1 : WZ.cell? ⟨w.heap.size, 1, none⟩ = some (.int .i64 n) := by simp [World.cell?, hg3]
  have k2 : WZ.cell? ⟨w.heap.size, 2, none⟩ = some (.bool fin) := by simp [World.cell?, hg3]
  have k3 : WZ.cell? ⟨w.heap.size, 3, none⟩ = some (.string tx) := by simp [World.cell?, hg3]
  refine bodyPost_ret (v := .tuple #[.agg #[.int .i64 id, .int .i64 n, .bool fin, .string tx], .int .i64 0]) ?h rfl ?_
  case h => simp [results, Tryz.results11, go_sem, k0, k1, k2, k3]
  exact ⟨rfl, HB3.out⟩
def strP (id n : Int) (fin : Bool) (tx : ByteArray) : Fm := ⟨3, id, n, 0, fin, tx, zn, []⟩
def i64B (n : Int) : Prop := -9223372036854775808 ≤ n ∧ n ≤ 9223372036854775807
theorem strP_fk {id n : Int} {fin : Bool} {tx : ByteArray} (h1 : i64B id) (h2 : i64B n) : FK (strP id n fin tx) := ⟨show (0 : Int) ≤ 3 by decide, show (3 : Int) < 256 by decide, h1.1, h1.2, h2.1, h2.2, show (-9223372036854775808 : Int) ≤ 0 by decide, show (0 : Int) ≤ 9223372036854775807 by decide, rfl, zn_bb⟩
theorem strP_nb (id n : Int) (fin : Bool) (tx : ByteArray) : ¬ badF (strP id n fin tx) := by
  unfold badF strP
  simp only
  have e1 : hI 3 = true := by decide
  have e2 : hN 3 = true := by decide
  have e3 : hF 3 = true := by decide
  have e6 : hT 3 = true := by decide
  rw [e1, e2, e3, e6]
  simp
theorem strP_fp {id n : Int} {fin : Bool} {tx : ByteArray} (w : World) (sv : Value) (h1 : i64B id) (h2 : i64B n) (ht : tx.size ≤ 140737488355328) : FP w (strP id n fin tx) sv :=
  ⟨strP_fk h1 h2, show isK 3 = true by decide, strP_nb id n fin tx, fun h => absurd (show hS 3 = true from h) (by decide), by simp [strP], ht⟩
theorem putS_any (id n : Int) (fin : Bool) (tx : ByteArray) (w : World) (ht : Tb w) (h1 : i64B id) (h2 : i64B n) (h3 : tx.size ≤ 140737488355328) :
    Calls Tryz.prog 10 #[.iface 42 (.agg #[.int .i64 id, .int .i64 n, .bool fin, .string tx])] w fun e w' => ∃ v, e = .returned (.tuple #[v, .int .i64 (chkM (strP id n fin tx))]) ∧ Ow w' w.heap.size v (putR (strP id n fin tx)) ∧ Below w.heap.size w w' :=
  putF_any (strP id n fin tx) (.slice none 0 0) w ht (strP_fp w _ h1 h2 h3) ⟨_, _, rfl⟩
set_option maxHeartbeats 2000000 in
theorem sizeS_any (id n : Int) (fin : Bool) (tx : ByteArray) (w : World) (ht : Tb w) (h1 : i64B id) (h2 : i64B n) (h3 : tx.size ≤ 140737488355328) :
    Calls Tryz.prog 15 #[.agg #[.int .i64 id, .int .i64 n, .bool fin, .string tx]] w fun e w' => e = .returned (.int .i64 ((putR (strP id n fin tx)).length : Nat)) ∧ Below w.heap.size w w' := by
  obtain ⟨W1, hW1⟩ : ∃ W1, W1 = w.alloc (.cells #[.int .i64 id, .int .i64 n, .bool fin, .string tx] 42) := ⟨_, rfl⟩
  have b1 : Below w.heap.size w W1 := by rw [hW1]; exact al_below _ _
  have g1 : W1.heap[w.heap.size]? = some (.cells #[.int .i64 id, .int .i64 n, .bool fin, .string tx] 42 (0, 0)) := by rw [hW1]; exact heap_alloc_new _ _
  have c := putS_any id n fin tx W1 (ht.next b1) h1 h2 h3
  have HB1 : Hid (Below w.heap.size w W1) := b1
  clear ht h1 h2 h3 b1
  have k0 : W1.cell? ⟨w.heap.size, 0, none⟩ = some (.int .i64 id) := by simp [World.cell?, g1]
  have k1 : W1.cell? ⟨w.heap.size, 1, none⟩ = some (.int .i64 n) := by simp [World.cell?, g1]
  have k2 : W1.cell? ⟨w.heap.size, 2, none⟩ = some (.bool fin) := by simp [World.cell?, g1]
  have k3 : W1.cell? ⟨w.heap.size, 3, none⟩ = some (.string tx) := by simp [World.cell?, g1]
  clear g1
  generalize putR (strP id n fin tx) = PR at *
  generalize chkM (strP id n fin tx) = CM at *
  go_enter Tryz.func15, Tryz.ntmps15
  go_upto_region 1 with fail
  rw [← hW1]
  clear hW1
  go_wp2_with fail
  refine c.mono ?_
  rintro e w2 ⟨v, rfl, o2, b2⟩
  obtain ⟨va, vc, rfl⟩ := o2.shape
  have HB2 : Hid (Below w.heap.size w w2) := HB1.out.trans (b2.mono HB1.out.size)
  clear c o2 b2
  go_wp2
  go_ret
  exact ⟨rfl, HB2.out⟩
/-- The frame of awake. -/
def pAB : Fm := strP 4 0 true ⟨#[97, 98]⟩
theorem pAB_ok : Ok pAB := by
  refine ⟨show isK 3 = true by decide, strP_nb _ _ _ _, ?_, fun h => absurd (show hS 3 = true from h) (by decide), ?_, fun _ => ?_⟩
  · unfold outF pAB strP; decide
  · unfold pAB strP; decide
  · unfold pAB strP; decide
theorem pAB_chk : chkM pAB = 0 := chkM_of pAB_ok
theorem pAB_put : putM pAB = [3, 4, 0, 1, 2, 97, 98] := by decide +kernel
theorem pAB_get : getM [3, 4, 0, 1, 2, 97, 98] = (pAB, 7, 0) := by
  have := getM_put pAB_ok rfl []
  rw [List.append_nil, pAB_put] at this
  exact this
theorem get_z : getM [0] = errM 9 := by
  unfold getM
  simp only
  rw [show [(0 : Int)].take 1150 = [0] from rfl, ahM_bad 0 [] (by decide)]
  rfl
theorem eqS_ab (w : World) : (binOp BinOp.eql 42 (.agg #[.int .i64 4, .int .i64 0, .bool true, .string ⟨#[97, 98]⟩]) (.agg #[.int .i64 4, .int .i64 0, .bool true, .string ⟨#[97, 98]⟩])).run Tryz.prog w = .ok (.bool true) w := by kernel_rfl
theorem guardSt : Tryz.prog.eqGuardType Tryz.prog.depth 42 = false := by kernel_rfl
theorem eg_st (x y : Operand) (U V : Array Value) (w : World) : (eqGuard BinOp.eql 42 x y (.agg U) (.agg V)).run Tryz.prog w = .ok () w := run_eqGuard_agg _ _ _ _ _ _ _ guardSt
set_option maxHeartbeats 8000000 in
theorem awake_any (w : World) (ht : Tb w) : Calls Tryz.prog 5 #[] w fun e w' => e = .returned (.bool true) ∧ Below w.heap.size w w' := by
  have hfi : FI w pAB (.slice none 0 0) := ⟨strP_fk ⟨by decide, by decide⟩ ⟨by decide, by decide⟩, SSp.nil w, by simp [pAB, strP], by decide⟩
  have c1 := ofF_any pAB (.slice none 0 0) w ht hfi
  have ho : ofP pAB = pAB := by unfold ofP; rw [if_pos pAB_chk]
  rw [ho, pAB_chk] at c1
  have HT : Hid (Tb w) := ht
  have hb : Tryz.prog.built 33 [(0, .int .u8 3), (1, .int .i64 4), (4, .bool true), (5, .string ⟨#[97, 98]⟩)] = some (plA pAB (.slice none 0 0)) := by kernel_rfl
  have heq := eqS_ab
  have hgd := eg_st
  clear ht hfi ho
  go_enter Tryz.func5, Tryz.ntmps5
  go_wp2_with fail
  refine c1.mono ?_
  rintro e w1 ⟨s1, rfl, r1, b1⟩
  have HB1 : Hid (Below w.heap.size w w1) := b1
  have c2 := putS_any 4 0 true ⟨#[97, 98]⟩ w1 (HT.out.next b1) ⟨by decide, by decide⟩ ⟨by decide, by decide⟩ (by decide)
  have e2 : putR (strP 4 0 true ⟨#[97, 98]⟩) = [3, 4, 0, 1, 2, 97, 98] := by unfold putR; rw [show chkM (strP 4 0 true ⟨#[97, 98]⟩) = 0 from pAB_chk, if_pos rfl]; exact pAB_put
  have e3 : chkM (strP 4 0 true ⟨#[97, 98]⟩) = 0 := pAB_chk
  rw [e2, e3] at c2
  have hfv : frV pAB s1 = .iface 42 (.agg #[.int .i64 4, .int .i64 0, .bool true, .string ⟨#[97, 98]⟩]) := rfl
  rw [hfv]
  clear c1 r1 b1 e2 e3 hfv
  go_wp2_with fail
  refine c2.mono ?_
  rintro e w2 ⟨v2, rfl, o2, b2⟩
  have HB2 : Hid (Below w.heap.size w w2) := HB1.out.trans (b2.mono HB1.out.size)
  have HS2 : Hid (Sl w2 v2 [3, 4, 0, 1, 2, 97, 98]) := o2.sl
  obtain ⟨va, vc, rfl⟩ := o2.shape
  have c3 := getF_any _ _ w2 (HT.out.next HB2.out) HS2.out (by simp)
  rw [pAB_get] at c3
  clear c2 o2 b2
  simp only [List.length_cons, List.length_nil, Nat.reduceAdd] at c3 HS2 ⊢
  go_wp2_with fail
  refine c3.mono ?_
  rintro e w3 ⟨s3, rfl, r3, b3⟩
  have HB3 : Hid (Below w.heap.size w w3) := HB2.out.trans (b3.mono HB2.out.size)
  have HS3 : Hid (Sl w3 (.slice va 7 vc) [3, 4, 0, 1, 2, 97, 98]) := HS2.out.kept b3
  have hfv : frV pAB s3 = .iface 42 (.agg #[.int .i64 4, .int .i64 0, .bool true, .string ⟨#[97, 98]⟩]) := rfl
  rw [hfv]
  have c4 := streamOf_yes 4 0 true ⟨#[97, 98]⟩ w3
  clear c3 r3 b3 hfv
  go_wp2_with fail
  refine c4.mono ?_
  rintro e w4 ⟨rfl, b4⟩
  have HB4 : Hid (Below w.heap.size w w4) := HB3.out.trans (b4.mono HB3.out.size)
  have HS4 : Hid (Sl w4 (.slice va 7 vc) [3, 4, 0, 1, 2, 97, 98]) := HS3.out.kept b4
  clear c4 b4
  obtain ⟨w5, hw5⟩ : ∃ w5, w5 = w4.alloc (.cells #[.int .i64 4, .int .i64 0, .bool true, .string ⟨#[97, 98]⟩] 42) := ⟨_, rfl⟩
  have b5 : Below w4.heap.size w4 w5 := by rw [hw5]; exact al_below _ _
  have g5 : w5.heap[w4.heap.size]? = some (.cells #[.int .i64 4, .int .i64 0, .bool true, .string ⟨#[97, 98]⟩] 42 (0, 0)) := by rw [hw5]; exact heap_alloc_new _ _
  obtain ⟨w6, hw6⟩ : ∃ w6, w6 = w5.alloc (.cells #[.int .u8 0] 5) := ⟨_, rfl⟩
  have b6 : Below w5.heap.size w5 w6 := by rw [hw6]; exact al_below _ _
  have b56 : Below w4.heap.size w4 w6 := b5.trans (b6.mono b5.size)
  have HB6 : Hid (Below w.heap.size w w6) := HB4.out.trans (b56.mono HB4.out.size)
  have p6 : Pt w6 (.slice (some ⟨w5.heap.size, 0, none⟩) 1 1) [0] := by rw [hw6]; exact Pt.byte w5 0 (by omega)
  have c5 := getF_any _ _ w6 (HT.out.next HB6.out) p6.1 (by simp)
  rw [get_z] at c5
  have HS6 : Hid (Sl w6 (.slice va 7 vc) [3, 4, 0, 1, 2, 97, 98]) := HS4.out.kept b56
  have Gw6 : Hid (w6.heap[w4.heap.size]? = some (.cells #[.int .i64 4, .int .i64 0, .bool true, .string ⟨#[97, 98]⟩] 42 (0, 0))) := blk_kept g5 b6 (blk_lt g5)
  have z5 : w5.heap.size = w4.heap.size + 1 := by rw [hw5]; simp
  clear b5 b6 b56 g5 p6
  rw [z5] at c5
  try simp only [List.length_cons, List.length_nil, Nat.reduceAdd] at c5
  go_wp2_with fail
  rw [← hw5, ← hw6]
  clear hw6 hw5
  try rw [z5]
  clear z5
  refine c5.mono ?_
  rintro e w7 ⟨s7, rfl, r7, b7⟩
  have HB7 : Hid (Below w.heap.size w w7) := HB6.out.trans (b7.mono HB6.out.size)
  have HS7 : Hid (Sl w7 (.slice va 7 vc) [3, 4, 0, 1, 2, 97, 98]) := HS6.out.kept b7
  have Gw7 : Hid (w7.heap[w4.heap.size]? = some (.cells #[.int .i64 4, .int .i64 0, .bool true, .string ⟨#[97, 98]⟩] 42 (0, 0))) := blk_kept Gw6.out b7 (blk_lt Gw6.out)
  clear c5 r7 b7
  have c6 := putF_nil w7
  go_wp2_with fail
  refine c6.mono ?_
  rintro e wq ⟨rfl, eq⟩
  rw [eq]
  clear c6 eq wq
  have hcv := HS7.out.conv
  rw [show strB [3, 4, 0, 1, 2, 97, 98] = ⟨#[3, 4, 0, 1, 2, 97, 98]⟩ from rfl] at hcv
  have k0 : w7.cell? ⟨w4.heap.size, 0, none⟩ = some (.int .i64 4) := by have := Gw7.out; simp [World.cell?, this]
  have k1 : w7.cell? ⟨w4.heap.size, 1, none⟩ = some (.int .i64 0) := by have := Gw7.out; simp [World.cell?, this]
  have k2 : w7.cell? ⟨w4.heap.size, 2, none⟩ = some (.bool true) := by have := Gw7.out; simp [World.cell?, this]
  have k3 : w7.cell? ⟨w4.heap.size, 3, none⟩ = some (.string ⟨#[97, 98]⟩) := by have := Gw7.out; simp [World.cell?, this]
  have c8 := asks_stream (.agg #[.int .i64 4, .int .i64 0, .bool true, .string ⟨#[97, 98]⟩]) w7
  go_wp2_with fail
  refine c8.mono ?_
  rintro e w8 ⟨rfl, b8⟩
  have HB8 : Hid (Below w.heap.size w w8) := HB7.out.trans (b8.mono HB7.out.size)
  have Gw8 : Hid (w8.heap[w4.heap.size]? = some (.cells #[.int .i64 4, .int .i64 0, .bool true, .string ⟨#[97, 98]⟩] 42 (0, 0))) := blk_kept Gw7.out b8 (blk_lt Gw7.out)
  have c9 := sizeS_any 4 0 true ⟨#[97, 98]⟩ w8 (HT.out.next HB8.out) ⟨by decide, by decide⟩ ⟨by decide, by decide⟩ (by decide)
  have e2 : putR (strP 4 0 true ⟨#[97, 98]⟩) = [3, 4, 0, 1, 2, 97, 98] := by unfold putR; rw [show chkM (strP 4 0 true ⟨#[97, 98]⟩) = 0 from pAB_chk, if_pos rfl]; exact pAB_put
  rw [e2] at c9
  simp only [List.length_cons, List.length_nil, Nat.reduceAdd] at c9
  clear c8 b8 k0 k1 k2 k3 hcv e2
  have k0 : w8.cell? ⟨w4.heap.size, 0, none⟩ = some (.int .i64 4) := by have := Gw8.out; simp [World.cell?, this]
  have k1 : w8.cell? ⟨w4.heap.size, 1, none⟩ = some (.int .i64 0) := by have := Gw8.out; simp [World.cell?, this]
  have k2 : w8.cell? ⟨w4.heap.size, 2, none⟩ = some (.bool true) := by have := Gw8.out; simp [World.cell?, this]
  have k3 : w8.cell? ⟨w4.heap.size, 3, none⟩ = some (.string ⟨#[97, 98]⟩) := by have := Gw8.out; simp [World.cell?, this]
  go_wp2_with fail
  refine c9.mono ?_
  rintro e w9 ⟨rfl, b9⟩
  have HB9 : Hid (Below w.heap.size w w9) := HB8.out.trans (b9.mono HB8.out.size)
  clear c9 b9 k0 k1 k2 k3
  go_wp2
  go_ret
  exact ⟨rfl, HB9.out⟩
end Go.Proofs.YtmplpdjkhdaniaaGreatDoor
namespace Go.Proofs.YtmplpdjkhdaniaaGreatDoor
open Go.RowKit Go.Shelf
set_option maxRecDepth 100000

theorem frV_iface {p : Fm} (h : isK p.k = true) (sv : Value) : ∃ t y, frV p sv = .iface t y := by
  have hk := h
  unfold isK at hk
  simp at hk
  unfold frV
  rcases (by omega : p.k = 1 ∨ p.k = 2 ∨ p.k = 3 ∨ p.k = 4 ∨ p.k = 5 ∨ p.k = 6 ∨ p.k = 7 ∨ p.k = 8 ∨ p.k = 9 ∨ p.k = 10) with e | e | e | e | e | e | e | e | e | e <;> (rw [e]; exact ⟨_, _, rfl⟩)
/-- Frames in a row of the call's own. -/
def RF (w : World) (B : Nat) (v : Value) (l : List Fm) : Prop :=
  ∃ V : List Value, w.ownsRow B 29 1 v l.length V ∧ ∀ i, i < l.length → ∃ sv, V[i]? = some (frV (l.getD i Fm.zero) sv) ∧ RSp w B sv (spO (l.getD i Fm.zero))
theorem RF.nil (w : World) (B : Nat) : RF w B (.slice none 0 0) [] := ⟨[], World.ownsRow_nil _ _ _ _, fun i hi => by simp at hi⟩
theorem RF.shape {w : World} {B : Nat} {v : Value} {l : List Fm} (h : RF w B v l) : ∃ a c, v = .slice a l.length c := by
  obtain ⟨V, h1, _⟩ := h
  exact own_shape h1
end Go.Proofs.YtmplpdjkhdaniaaGreatDoor
