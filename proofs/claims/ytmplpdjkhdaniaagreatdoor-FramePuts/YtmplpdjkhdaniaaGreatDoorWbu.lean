/-
  Same of two plain forms that are one; Flat.
-/
import Derived.Test.YtmplpdjkhdaniaaGreatDoorWaq
import Derived.Test.YtmplpdjkhdaniaaGreatDoorWbt
namespace Go.Proofs.YtmplpdjkhdaniaaGreatDoor
open Go.RowKit Go.Shelf
set_option maxRecDepth 100000

theorem eqlN_run (A B : List Int) (hA : A.length = 16) (hB : B.length = 16) (w : World) : (binOp .eql 22 (.agg (u8c A)) (.agg (u8c B))).run Tryz.prog w = .ok (.bool (A == B)) w := by
  have h := eq_nc 9998 A B hA hB w
  have h' : (Op.equal 22 (.agg (u8c A)) (.agg (u8c B))).run Tryz.prog w = .ok (A == B) w := h
  show (do pure (.bool (← Op.equal 22 (.agg (u8c A)) (.agg (u8c B)))) : Sem Value).run Tryz.prog w = _
  rw [Sem.run_bind, h']
  rfl
theorem wp_eqlN {w : World} {o : Oper} {a : Act} {K : Act → World → Prop} {Q : Exit → Act → World → Prop} (x y : Operand) (t : TypeId) (ho : o.op = .binOp .eql 22 x y t)
    (A B : List Int) (hA : A.length = 16) (hB : B.length = 16) (hx : a.eval x = .agg (u8c A)) (hy : a.eval y = .agg (u8c B)) (h : K (a.put o.dst (.bool (A == B))) w) : o.wp Tryz.prog a w K Q := by
  unfold Oper.wp
  simp only [execOp, ho, hx, hy, Sem.run_bind, run_eqGuard_agg _ _ _ _ _ _ _ guardN, eqlN_run A B hA hB, Result.andThen_ok, Sem.run_pure, Oper.upon]
  exact h
set_option maxHeartbeats 8000000 in
theorem rsameF_any (p : Fm) (u v : Value) (w : World) (hn : p.nc.length = 16) (hu : SSp w u p.sp) (hv : SSp w v p.sp) (hl : p.sp.length ≤ 100000) :
    Calls Tryz.prog 30 #[.agg (plA p u), .agg (plA p v)] w fun e w' => e = .returned (.bool true) ∧ Below w.heap.size w w' := by
  obtain ⟨W1, hW1⟩ : ∃ W1, W1 = w.alloc (.cells (plA p u) 25) := ⟨_, rfl⟩
  have b1 : Below w.heap.size w W1 := by rw [hW1]; exact al_below _ _
  have g1 : PF W1 w.heap.size 25 p u := by rw [hW1]; exact PF.new w _ p u
  have z1 : W1.heap.size = w.heap.size + 1 := by rw [hW1]; simp
  obtain ⟨W2, hW2⟩ : ∃ W2, W2 = W1.alloc (.cells (plA p v) 25) := ⟨_, rfl⟩
  have b2 : Below W1.heap.size W1 W2 := by rw [hW2]; exact al_below _ _
  have g2 : PF W2 W1.heap.size 25 p v := by rw [hW2]; exact PF.new W1 _ p v
  rw [z1] at g2
  have HB2 : Hid (Below w.heap.size w W2) := b1.trans (b2.mono b1.size)
  obtain ⟨c0, c1, c2, c3, c4, c5, c22, cn⟩ := (g1.kept b2).pc hn
  obtain ⟨d0, d1, d2, d3, d4, d5, d22, dn⟩ := g2.pc hn
  have HCN : Hid (W2.rangeAt w.heap.size 6 (p.nc.map (Value.int .u8))) := cn
  have HDN : Hid (W2.rangeAt (w.heap.size + 1) 6 (p.nc.map (Value.int .u8))) := dn
  have HNL : Hid (p.nc.length = 16) := hn
  have HNI : Hid ((Tryz.prog.info? 22).map (·.size) = some (p.nc.map (Value.int .u8)).length) := by unfold Hid; rw [List.length_map, hn]; exact infoNc
  have cs := rsame_any W2 u v p.sp p.sp (hu.kept HB2.out) (hv.kept HB2.out) hl
  rw [decide_eq_true (rfl : p.sp = p.sp)] at cs
  obtain ⟨a, c, rfl, -, -, -⟩ := hu.shape
  obtain ⟨a', c', rfl, -, -, -⟩ := hv.shape
  clear b1 g1 b2 g2 cn dn hn hu hv z1
  generalize p.sp.length = n at *
  go_enter Tryz.func30, Tryz.ntmps30
  go_upto_region 1 with fail
  rw [← hW1, ← hW2]
  clear hW1 hW2
  go_wp2_with (refine BigFrame.wpList_want (by rfl) fun KK hKK => wp_load_mid 22 _ rfl w.heap.size 6 rfl (p.nc.map (Value.int .u8)) _ HCN.out Tryz.underlying22 rfl HNI.out (hKK _ _ (Hid.out ?_)))
  unfold Hid
  go_wp2_with (refine BigFrame.wpList_want (by rfl) fun KK hKK => wp_load_mid 22 _ rfl (w.heap.size + 1) 6 rfl (p.nc.map (Value.int .u8)) _ HDN.out Tryz.underlying22 rfl HNI.out (hKK _ _ (Hid.out ?_)))
  unfold Hid
  go_wp2_with (refine BigFrame.wpList_want (by rfl) fun KK hKK => wp_eqlN _ _ _ rfl p.nc p.nc HNL.out HNL.out rfl rfl (hKK _ _ (Hid.out ?_)))
  unfold Hid
  have hnn : (p.nc == p.nc) = true := by simp
  go_wp2_with fail
  refine cs.mono ?_
  rintro e w3 ⟨rfl, b3⟩
  have HB3 : Hid (Below w.heap.size w w3) := HB2.out.trans (b3.mono HB2.out.size)
  clear cs b3
  go_wp2
  go_ret
  exact ⟨rfl, HB3.out⟩
end Go.Proofs.YtmplpdjkhdaniaaGreatDoor
