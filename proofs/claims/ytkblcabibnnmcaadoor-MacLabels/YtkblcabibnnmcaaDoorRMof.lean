/-
  What the document's Of, Tag, Seal, Open and Label answer; nothing that was there is changed.
-/
import Derived.Test.YtkblcabibnnmcaaDoorRPd
namespace Go.Proofs.YtkblcabibnnmcaaDoor
open Go.RowKit

set_option maxHeartbeats 4000000 in
set_option maxRecDepth 100000 in
theorem rmof_any (v b : Value) (K X : List Int) (w : World) (sl : Sl w v K) (sb : Sl w b X) (hk : K.length ≤ 99000) (hX : X.length ≤ 99000) :
    Calls Tryd.prog 10 #[v, b] w fun e w' => e = .returned (.agg (u8s (hmac K X))) ∧ Below w.heap.size w w' := by
  obtain ⟨wa, hwa⟩ : ∃ wa, wa = w.alloc (.cells (u8s (List.replicate 32 0)) 26) := ⟨_, rfl⟩
  have ba : Below w.heap.size w wa := by rw [hwa]; exact al_below _ _
  have g0 : wa.heap[w.heap.size]? = some (.cells (u8s (List.replicate 32 0)) 26 (0, 0)) := by rw [hwa]; exact heap_alloc_new _ _
  have hlt : w.heap.size < wa.heap.size := by rw [hwa]; simp
  have hwz : w.alloc (.cells #[.int .u8 0, .int .u8 0, .int .u8 0, .int .u8 0, .int .u8 0, .int .u8 0, .int .u8 0, .int .u8 0, .int .u8 0, .int .u8 0, .int .u8 0, .int .u8 0, .int .u8 0, .int .u8 0, .int .u8 0, .int .u8 0, .int .u8 0, .int .u8 0, .int .u8 0, .int .u8 0, .int .u8 0, .int .u8 0, .int .u8 0, .int .u8 0, .int .u8 0, .int .u8 0, .int .u8 0, .int .u8 0, .int .u8 0, .int .u8 0, .int .u8 0, .int .u8 0] 26) = wa := hwa.symm
  have HSA : Hid (∀ W, Below wa.heap.size wa W → Sl W v K) := fun W h => (sl.kept ba).kept h
  have HSB : Hid (∀ W, Below wa.heap.size wa W → Sl W b X) := fun W h => (sb.kept ba).kept h
  have HGA : Hid (∀ W, Below wa.heap.size wa W → W.heap[w.heap.size]? = some (.cells (u8s (List.replicate 32 0)) 26 (0, 0))) := fun W h => (h.block _ hlt).trans g0
  have HBA : Hid (∀ W, Below wa.heap.size wa W → Below w.heap.size w W) := fun W h => ba.trans (h.mono ba.size)
  have HKB : Hid (Pl.Byt K) := sl.bytes
  have HXB : Hid (Pl.Byt X) := sb.bytes
  have HI1 : Hid ((Tryd.prog.info? 26).map (·.size) = some (u8s (hin K X)).size) := by unfold Hid; rw [u8s_size, hin_len]; exact size26
  have HO1 : Hid ((u8s (List.replicate 32 0)).size = (u8s (hin K X)).size) := by unfold Hid; rw [u8s_size, u8s_size, hin_len]; simp
  have HI2 : Hid ((Tryd.prog.info? 26).map (·.size) = some (u8s (hmac K X)).size) := by unfold Hid; rw [u8s_size, hmac_len]; exact size26
  have HO2 : Hid ((u8s (List.replicate 32 0)).size = (u8s (hmac K X)).size) := by unfold Hid; rw [u8s_size, u8s_size, hmac_len]; simp
  have HXL : Hid (X.length ≤ 99000) := hX
  have HKL : Hid (K.length ≤ 99000) := hk
  obtain ⟨av, cv, rfl, -⟩ := sl
  obtain ⟨ab, cb, rfl, -⟩ := sb
  have c24 := rpad_any _ K 54 wa (HSA.out _ (Below.refl _ _)) (by omega) (by omega) (by omega)
  obtain ⟨n, hn⟩ : ∃ n, n = K.length := ⟨_, rfl⟩
  rw [← hn] at HSA c24 ⊢
  obtain ⟨xl, hxl⟩ : ∃ xl, xl = X.length := ⟨_, rfl⟩
  rw [← hxl] at HSB ⊢
  clear hwa ba g0 hn hxl hk hX
  go_enter Tryd.func10, Tryd.ntmps10
  go_wp2_with fail
  refine c24.mono ?_
  rintro e w1 ⟨g1, rfl, own1, b1⟩
  have hob := own_base own1
  have hsz := b1.size
  have sX := HSB.out w1 b1
  have HBB1 : Hid (Below wa.heap.size wa w1) := b1
  clear c24 b1
  go_wp2_with (at_builtin; refine wpList_append_sl rfl _ _ rfl wa.heap.size _ _ _ rfl own1 _ X rfl sX (by have := HXL.out; omega) hsz (Hid.out ?_))
  unfold Hid
  intro v2 w2 own2 hg2
  have b2 : Below wa.heap.size wa w2 := HBB1.out.grown hg2 hsz hob
  have HB2 : Hid (Below wa.heap.size wa w2) := b2
  rw [← List.map_append] at own2
  have own2' : w2.ownsRow wa.heap.size 5 1 v2 (msk (key0 K) 54 ++ X).length ((msk (key0 K) 54 ++ X).map (Value.int .u8)) := by rw [List.length_append, msk_len]; exact own2
  have s2 := sl_owned own2' (byt_app (msk_byt (key0_byt HKB.out) (by omega) (by omega)) HXB.out)
  have c23 := rof_any v2 _ w2 s2 (by rw [List.length_append, msk_len]; have := HXL.out; omega)
  change Calls Tryd.prog 23 #[v2] w2 fun e w' => e = .returned (.agg (u8s (hin K X))) ∧ Below w2.heap.size w2 w' at c23
  obtain ⟨a2, q2, rfl, -⟩ := s2
  clear own1 own2 own2' hg2 b2 hob hsz sX
  generalize (msk (key0 K) 54 ++ X).length = l2 at *
  go_wp2_with fail
  refine c23.mono ?_
  rintro e w5 ⟨rfl, b5⟩
  have D5 : Hid (Below wa.heap.size wa w5) := HB2.out.trans (b5.mono HB2.out.size)
  clear c23 b5
  go_wp2_with (refine wpList_store_row rfl 26 _ _ rfl w5.heap.size (u8s (hin K X)) rfl rfl 26 _ (heap_alloc_new _ _) HI1.out HO1.out (u8s_one _) ?_; rw [World.setRow_alloc_new]; obtain ⟨w7, hw7⟩ : ∃ w7, w7 = w5.alloc (.cells (u8s (hin K X)) 26) := ⟨_, rfl⟩; rw [← hw7]; have HW7 : Hid (w7 = w5.alloc (.cells (u8s (hin K X)) 26)) := hw7; clear hw7)
  have E7 : Hid (Below wa.heap.size wa w7) := by unfold Hid; rw [HW7.out]; exact D5.out.alloc D5.out.size _
  have FK : Hid (∀ x, From w7 x → Sl x (.slice av n cv) K) := fun x hx => HSA.out x (E7.out.trans (Below.mono hx E7.out.size))
  have FI : Hid (∀ x, From w7 x → Sl x (.slice (some ⟨w5.heap.size, 0, none⟩) 32 32) (hin K X)) := fun x hx => Sl.kept (by rw [HW7.out]; exact sl_sum (heap_alloc_new _ _) (sha_byt _) (sha_len _)) hx
  have FG : Hid (∀ x, From w7 x → x.heap[w.heap.size]? = some (.cells (u8s (List.replicate 32 0)) 26 (0, 0))) := fun x hx => HGA.out x (E7.out.trans (Below.mono hx E7.out.size))
  have FB : Hid (∀ x, From w7 x → Below w.heap.size w x) := fun x hx => HBA.out x (E7.out.trans (Below.mono hx E7.out.size))
  clear HSA HSB HGA HBA HB2 HBB1 D5 E7 HW7 HI1 HO1
  refine wp_region_held_drew (S := fun _ => True) (by kernel_rfl) trivial (fun _ => ?_)
  refine wpAnyH_name (fun u0 hu0 => ?_)
  have bu0 : Below w7.heap.size w7 u0 := by rw [hu0.out]; exact (Below.refl _ _).drew
  replace FK := on FK bu0
  replace FI := on FI bu0
  replace FG := on FG bu0
  replace FB := on FB bu0
  have FG0 := FG
  have FB0 := FB
  refine wpAnyH_take (i := 0) (oi := { dst := some 11, op := Op.move (Operand.tmp 0), type := 22, pos := "ref.go:36", after := #[], guard := none }) (v := ?va1) rfl (by kernel_rfl) (by kernel_rfl) (by kernel_rfl) (fun _ _ _ h => h) (Or.inl ⟨by rfl, ?ya1⟩) trivial ?ra1
  case ya1 => (intro w hSw; go_simp; try with_reducible rfl)
  try simp only [Act.put, List.setIfInBounds_toArray, List.set_cons_zero, List.set_cons_succ]
  refine wpAnyH_take (i := 2) (oi := { dst := some 13, op := Op.slice 26 (Operand.tmp 5) none none none, type := 22, pos := "ref.go:36", after := #[], guard := none }) (v := ?va2) rfl (by kernel_rfl) (by kernel_rfl) (by kernel_rfl) (fun _ _ _ h => h) (Or.inl ⟨by rfl, ?ya2⟩) trivial ?ra2
  case ya2 => (intro w hSw; go_simp; try with_reducible rfl)
  try simp only [Act.put, List.setIfInBounds_toArray, List.set_cons_zero, List.set_cons_succ]
  refine wpAnyH_ready (rs := [1]) (by kernel_rfl) (by simp) ?_
  refine AllReadyH.cons (o := { dst := some 12, op := Op.call { callee := Callee.value (Operand.func 24), args := #[Operand.tmp 11, Operand.const (Value.int IntKind.u8 92)], argTypes := #[22, 5] }, type := 22, pos := "ref.go:36", after := #[{ on := 0, ground := Ground.data }], guard := none }) rfl (fun KK hKK => ?_) ?_
  · go_simp
    refine (rpad_any _ K 92 _ (FK.out _ (Below.refl _ _)) (by have := HKL.out; omega) (by omega) (by omega)).mono ?_
    rintro e u3' ⟨g1', rfl, own1, bu3'⟩
    (try go_wp2_with fail)
    refine hKK.out _ _ trivial (fun _ => ?_)
    clear hKK KK
    try simp only [Act.put, List.setIfInBounds_toArray, List.set_cons_zero, List.set_cons_succ]
    refine wpAnyH_name (fun u3 hu3 => ?_)
    have bu3 : Below u0.heap.size u0 u3 := by rw [hu3.out]; exact (bu3')
    replace FK := on FK bu3
    replace FI := on FI bu3
    replace FG := on FG bu3
    replace FB := on FB bu3
    have O1 : Hid (u3.ownsRow u0.heap.size 5 1 (.slice (some ⟨g1', 0, none⟩) 64 64) 64 ((msk (key0 K) 92).map (Value.int .u8))) := by unfold Hid; rw [hu3.out]; exact own1
    clear own1
    refine wpAnyH_ready (rs := [3]) (by kernel_rfl) (by simp) ?_
    refine AllReadyH.cons (o := { dst := some 14, op := Op.call { callee := Callee.builtin Builtin.append, args := #[Operand.tmp 12, Operand.tmp 13], argTypes := #[22, 22] }, type := 22, pos := "ref.go:36", after := #[{ on := 1, ground := Ground.data }, { on := 2, ground := Ground.data }, { on := 1, ground := Ground.chain }], guard := none }) rfl (fun KK hKK => ?_) ?_
    · rw [if_pos (by rfl)]
      refine wp_append_sl _ _ rfl u0.heap.size _ _ _ rfl O1.out _ (hin K X) rfl (FI.out _ (Below.refl _ _)) (by rw [hin_len]; omega) bu3.size ?_
      intro v3 u4' own3 hg3
      refine hKK.out _ _ trivial (fun _ => ?_)
      clear hKK KK
      try simp only [Act.put, List.setIfInBounds_toArray, List.set_cons_zero, List.set_cons_succ]
      refine wpAnyH_name (fun u4 hu4 => ?_)
      have du4 : Below u0.heap.size u0 u4 := by rw [hu4.out]; exact bu3.grown hg3 bu3.size (own_base O1.out)
      replace FG := on FG0 du4
      replace FB := on FB0 du4
      rw [← List.map_append] at own3
      have s3 : Sl u4 v3 (msk (key0 K) 92 ++ hin K X) := by rw [hu4.out]; exact sl_owned (base := u0.heap.size) (n := 64 + (hin K X).length) own3 (byt_app (msk_byt (key0_byt HKB.out) (by omega) (by omega)) (sha_byt _))
      have c23 := rof_any v3 _ u4 s3 (by rw [List.length_append, msk_len, hin_len]; omega)
      change Calls Tryd.prog 23 #[v3] u4 fun e w' => e = .returned (.agg (u8s (hmac K X))) ∧ Below u4.heap.size u4 w' at c23
      clear own3 hg3 s3
      refine wpAnyH_ready (rs := [4]) (by kernel_rfl) (by simp) ?_
      refine AllReadyH.cons (o := { dst := some 15, op := Op.call { callee := Callee.value (Operand.func 23), args := #[Operand.tmp 14], argTypes := #[22] }, type := 26, pos := "ref.go:36", after := #[{ on := 3, ground := Ground.data }, { on := 3, ground := Ground.chain }], guard := none }) rfl (fun KK hKK => ?_) ?_
      · go_simp
        refine c23.mono ?_
        rintro e u5' ⟨rfl, bu5'⟩
        (try go_wp2_with fail)
        refine hKK.out _ _ trivial (fun _ => ?_)
        clear hKK KK
        try simp only [Act.put, List.setIfInBounds_toArray, List.set_cons_zero, List.set_cons_succ]
        refine wpAnyH_name (fun u5 hu5 => ?_)
        have bu5 : Below u4.heap.size u4 u5 := by rw [hu5.out]; exact bu5'
        replace FG := on FG bu5
        replace FB := on FB bu5
        refine wpAnyH_ready (rs := [5]) (by kernel_rfl) (by simp) ?_
        refine AllReadyH.cons (o := { dst := none, op := Op.store 26 (Operand.tmp 4) (Operand.tmp 15), type := 0, pos := "ref.go:36", after := #[{ on := 4, ground := Ground.data }, { on := 4, ground := Ground.chain }, { on := 0, ground := Ground.phase }, { on := 1, ground := Ground.phase }, { on := 2, ground := Ground.phase }, { on := 3, ground := Ground.phase }, { on := 4, ground := Ground.phase }], guard := none }) rfl (fun KK hKK => ?_) ?_
        · rw [if_pos (by rfl)]
          refine wp_store_row 26 _ _ rfl w.heap.size (u8s (hmac K X)) rfl rfl 26 _ (FG.out _ (Below.refl _ _)) HI2.out HO2.out (u8s_one _) ?_
          refine hKK.out _ _ trivial (fun _ => ?_)
          clear hKK KK
          try simp only [Act.put]
          refine wpAnyH_name (fun u6 hu6 => ?_)
          refine wpAnyH_done (by kernel_rfl) ?_ _
          rw [hu6.out]
          go_wp2_with fail
          refine bodyPost_ret (v := .agg (u8s (hmac K X))) (results_cell_row rfl _ _ w.heap.size 26 (u8s (hmac K X)) (0, 0) _ rfl (setRow_heap _ _ _ _ _ _ (FG.out _ (Below.refl _ _))) Tryd.underlying26 rfl HI2.out) rfl ⟨rfl, below_setRow (FB.out _ (Below.refl _ _)) (Nat.le_refl _) _⟩
        exact AllReadyH.nil
      exact AllReadyH.nil
    exact AllReadyH.nil
  exact AllReadyH.nil

end Go.Proofs.YtkblcabibnnmcaaDoor
