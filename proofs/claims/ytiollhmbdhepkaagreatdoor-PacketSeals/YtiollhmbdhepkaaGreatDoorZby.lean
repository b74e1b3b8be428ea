/-
  What the document's Of, Tag, Seal, Open and Label answer; nothing that was there is changed.
  What the document's Tag, Seal, Open and Label answer; nothing that was there is changed.
-/
import Derived.Test.YtiollhmbdhepkaaGreatDoorZbx
namespace Go.Proofs.YtiollhmbdhepkaaGreatDoor.Mc
open Go.Proofs.YtiollhmbdhepkaaGreatDoor.Sh Go.Proofs.YtiollhmbdhepkaaGreatDoor.Fi
set_option maxRecDepth 100000
open Go.RowKit

set_option maxHeartbeats 4000000 in
set_option maxRecDepth 100000 in
theorem rmof_any (v b : Value) (K X : List Int) (w : World) (sl : Sl w v K) (sb : Sl w b X) (hk : K.length ≤ 99000) (hX : X.length ≤ 99000) :
    Calls Tryz.prog 87 #[v, b] w fun e w' => e = .returned (.agg (u8s (hmac K X))) ∧ Below w.heap.size w w' := by
  obtain ⟨wa, hwa⟩ : ∃ wa, wa = w.alloc (.cells (u8s (List.replicate 32 0)) 47) := ⟨_, rfl⟩
  have ba : Below w.heap.size w wa := by rw [hwa]; exact al_below _ _
  have g0 : wa.heap[w.heap.size]? = some (.cells (u8s (List.replicate 32 0)) 47 (0, 0)) := by rw [hwa]; exact heap_alloc_new _ _
  have hlt : w.heap.size < wa.heap.size := by rw [hwa]; simp
  have hwz : w.alloc (.cells #[.int .u8 0, .int .u8 0, .int .u8 0, .int .u8 0, .int .u8 0, .int .u8 0, .int .u8 0, .int .u8 0, .int .u8 0, .int .u8 0, .int .u8 0, .int .u8 0, .int .u8 0, .int .u8 0, .int .u8 0, .int .u8 0, .int .u8 0, .int .u8 0, .int .u8 0, .int .u8 0, .int .u8 0, .int .u8 0, .int .u8 0, .int .u8 0, .int .u8 0, .int .u8 0, .int .u8 0, .int .u8 0, .int .u8 0, .int .u8 0, .int .u8 0, .int .u8 0] 47) = wa := hwa.symm
  have HSA : Hid (∀ W, Below wa.heap.size wa W → Sl W v K) := fun W h => (sl.kept ba).kept h
  have HSB : Hid (∀ W, Below wa.heap.size wa W → Sl W b X) := fun W h => (sb.kept ba).kept h
  have HGA : Hid (∀ W, Below wa.heap.size wa W → W.heap[w.heap.size]? = some (.cells (u8s (List.replicate 32 0)) 47 (0, 0))) := fun W h => (h.block _ hlt).trans g0
  have HBA : Hid (∀ W, Below wa.heap.size wa W → Below w.heap.size w W) := fun W h => ba.trans (h.mono ba.size)
  have HKB : Hid (Pl.Byt K) := sl.bytes
  have HXB : Hid (Pl.Byt X) := sb.bytes
  have HI1 : Hid ((Tryz.prog.info? 47).map (·.size) = some (u8s (hin K X)).size) := by unfold Hid; rw [u8s_size, hin_len]; exact size26
  have HO1 : Hid ((u8s (List.replicate 32 0)).size = (u8s (hin K X)).size) := by unfold Hid; rw [u8s_size, u8s_size, hin_len]; simp
  have HI2 : Hid ((Tryz.prog.info? 47).map (·.size) = some (u8s (hmac K X)).size) := by unfold Hid; rw [u8s_size, hmac_len]; exact size26
  have HO2 : Hid ((u8s (List.replicate 32 0)).size = (u8s (hmac K X)).size) := by unfold Hid; rw [u8s_size, u8s_size, hmac_len]; simp
  have HXL : Hid (X.length ≤ 99000) := hX
  have HKL : Hid (K.length ≤ 99000) := hk
  obtain ⟨av, cv, rfl, -⟩ := sl
  obtain ⟨ab, cb, rfl, -⟩ := sb
  have c24 := rpad_any _ K 54 wa (HSA.out _ (Below.refl _ _)) (by omega) (by omega) (by omega)
  obtain ⟨n, hn⟩ : ∃ n, n = K.length := ⟨_, rfl⟩
  rw [← hn] at HSA c24 ⊢
  obtain ⟨xl, hxl⟩ : ∃ xl, xl = X.length := ⟨_, rfl⟩
  rw [← hxl] at HSB ⊢
  clear hwa ba g0 hn hxl hk hX
  go_enter Tryz.func87, Tryz.ntmps87
  go_wp2_with fail
  refine c24.mono ?_
  rintro e w1 ⟨g1, rfl, own1, b1⟩
  have hob := own_base own1
  have hsz := b1.size
  have sX := HSB.out w1 b1
  have HBB1 : Hid (Below wa.heap.size wa w1) := b1
  clear c24 b1
  go_wp2_with (at_builtin; refine wpList_append_sl rfl _ _ rfl wa.heap.size _ _ _ rfl own1 _ X rfl sX (by have := HXL.out; omega) hsz (Hid.out ?_))
  unfold Hid
  intro v2 w2 own2 hg2
  have b2 : Below wa.heap.size wa w2 := HBB1.out.grown hg2 hsz hob
  have HB2 : Hid (Below wa.heap.size wa w2) := b2
  rw [← List.map_append] at own2
  have own2' : w2.ownsRow wa.heap.size 5 1 v2 (msk (key0 K) 54 ++ X).length ((msk (key0 K) 54 ++ X).map (Value.int .u8)) := by rw [List.length_append, msk_len]; exact own2
  have s2 := sl_owned own2' (byt_app (msk_byt (key0_byt HKB.out) (by omega) (by omega)) HXB.out)
  have c23 := rof_any v2 _ w2 s2 (by rw [List.length_append, msk_len]; have := HXL.out; omega)
  change Calls Tryz.prog 114 #[v2] w2 fun e w' => e = .returned (.agg (u8s (hin K X))) ∧ Below w2.heap.size w2 w' at c23
  obtain ⟨a2, q2, rfl, -⟩ := s2
  clear own1 own2 own2' hg2 b2 hob hsz sX
  generalize (msk (key0 K) 54 ++ X).length = l2 at *
  go_wp2_with fail
  refine c23.mono ?_
  rintro e w5 ⟨rfl, b5⟩
  have D5 : Hid (Below wa.heap.size wa w5) := HB2.out.trans (b5.mono HB2.out.size)
  clear c23 b5
  go_wp2_with (refine wpList_store_row rfl 47 _ _ rfl w5.heap.size (u8s (hin K X)) rfl rfl 47 _ (heap_alloc_new _ _) HI1.out HO1.out (u8s_one _) ?_; rw [World.setRow_alloc_new]; obtain ⟨w7, hw7⟩ : ∃ w7, w7 = w5.alloc (.cells (u8s (hin K X)) 47) := ⟨_, rfl⟩; rw [← hw7]; have HW7 : Hid (w7 = w5.alloc (.cells (u8s (hin K X)) 47)) := hw7; clear hw7)
  have E7 : Hid (Below wa.heap.size wa w7) := by unfold Hid; rw [HW7.out]; exact D5.out.alloc D5.out.size _
  have FK : Hid (∀ x, From w7 x → Sl x (.slice av n cv) K) := fun x hx => HSA.out x (E7.out.trans (Below.mono hx E7.out.size))
  have FI : Hid (∀ x, From w7 x → Sl x (.slice (some ⟨w5.heap.size, 0, none⟩) 32 32) (hin K X)) := fun x hx => Sl.kept (by rw [HW7.out]; exact sl_sum (heap_alloc_new _ _) (sha_byt _) (sha_len _)) hx
  have FG : Hid (∀ x, From w7 x → x.heap[w.heap.size]? = some (.cells (u8s (List.replicate 32 0)) 47 (0, 0))) := fun x hx => HGA.out x (E7.out.trans (Below.mono hx E7.out.size))
  have FB : Hid (∀ x, From w7 x → Below w.heap.size w x) := fun x hx => HBA.out x (E7.out.trans (Below.mono hx E7.out.size))
  clear HSA HSB HGA HBA HB2 HBB1 D5 E7 HW7 HI1 HO1
  refine wp_region_held_drew (S := fun _ => True) (by kernel_rfl) trivial (fun _ => ?_)
  refine wpAnyH_name (fun u0 hu0 => ?_)
  have bu0 : Below w7.heap.size w7 u0 := by rw [hu0.out]; exact (Below.refl _ _).drew
  replace FK := on FK bu0
  replace FI := on FI bu0
  replace FG := on FG bu0
  replace FB := on FB bu0
  have FG0 := FG
  have FB0 := FB
  refine wpAnyH_take (i := 0) (oi := { dst := some 11, op := Op.move (Operand.tmp 0), type := 34, pos := "ref.go:36", after := #[], guard := none }) (v := ?va1) rfl (by kernel_rfl) (by kernel_rfl) (by kernel_rfl) (fun _ _ _ h => h) (Or.inl ⟨by rfl, ?ya1⟩) trivial ?ra1
  case ya1 => (intro w hSw; go_simp; try with_reducible rfl)
  try simp only [Act.put, List.setIfInBounds_toArray, List.set_cons_zero, List.set_cons_succ]
  refine wpAnyH_take (i := 2) (oi := { dst := some 13, op := Op.slice 47 (Operand.tmp 5) none none none, type := 34, pos := "ref.go:36", after := #[], guard := none }) (v := ?va2) rfl (by kernel_rfl) (by kernel_rfl) (by kernel_rfl) (fun _ _ _ h => h) (Or.inl ⟨by rfl, ?ya2⟩) trivial ?ra2
  case ya2 => (intro w hSw; go_simp; try with_reducible rfl)
  try simp only [Act.put, List.setIfInBounds_toArray, List.set_cons_zero, List.set_cons_succ]
  refine wpAnyH_ready (rs := [1]) (by kernel_rfl) (by simp) ?_
  refine AllReadyH.cons (o := { dst := some 12, op := Op.call { callee := Callee.value (Operand.func 115), args := #[Operand.tmp 11, Operand.const (Value.int IntKind.u8 92)], argTypes := #[34, 5] }, type := 34, pos := "ref.go:36", after := #[{ on := 0, ground := Ground.data }], guard := none }) rfl (fun KK hKK => ?_) ?_
  · go_simp
    refine (rpad_any _ K 92 _ (FK.out _ (Below.refl _ _)) (by have := HKL.out; omega) (by omega) (by omega)).mono ?_
    rintro e u3' ⟨g1', rfl, own1, bu3'⟩
    (try go_wp2_with fail)
    refine hKK.out _ _ trivial (fun _ => ?_)
    clear hKK KK
    try simp only [Act.put, List.setIfInBounds_toArray, List.set_cons_zero, List.set_cons_succ]
    refine wpAnyH_name (fun u3 hu3 => ?_)
    have bu3 : Below u0.heap.size u0 u3 := by rw [hu3.out]; exact (bu3')
    replace FK := on FK bu3
    replace FI := on FI bu3
    replace FG := on FG bu3
    replace FB := on FB bu3
    have O1 : Hid (u3.ownsRow u0.heap.size 5 1 (.slice (some ⟨g1', 0, none⟩) 64 64) 64 ((msk (key0 K) 92).map (Value.int .u8))) := by unfold Hid; rw [hu3.out]; exact own1
    clear own1
    refine wpAnyH_ready (rs := [3]) (by kernel_rfl) (by simp) ?_
    refine AllReadyH.cons (o := { dst := some 14, op := Op.call { callee := Callee.builtin Builtin.append, args := #[Operand.tmp 12, Operand.tmp 13], argTypes := #[34, 34] }, type := 34, pos := "ref.go:36", after := #[{ on := 1, ground := Ground.data }, { on := 2, ground := Ground.data }, { on := 1, ground := Ground.chain }], guard := none }) rfl (fun KK hKK => ?_) ?_
    · rw [if_pos (by rfl)]
      refine wp_append_sl _ _ rfl u0.heap.size _ _ _ rfl O1.out _ (hin K X) rfl (FI.out _ (Below.refl _ _)) (by rw [hin_len]; omega) bu3.size ?_
      intro v3 u4' own3 hg3
      refine hKK.out _ _ trivial (fun _ => ?_)
      clear hKK KK
      try simp only [Act.put, List.setIfInBounds_toArray, List.set_cons_zero, List.set_cons_succ]
      refine wpAnyH_name (fun u4 hu4 => ?_)
      have du4 : Below u0.heap.size u0 u4 := by rw [hu4.out]; exact bu3.grown hg3 bu3.size (own_base O1.out)
      replace FG := on FG0 du4
      replace FB := on FB0 du4
      rw [← List.map_append] at own3
      have s3 : Sl u4 v3 (msk (key0 K) 92 ++ hin K X) := by rw [hu4.out]; exact sl_owned (base := u0.heap.size) (n := 64 + (hin K X).length) own3 (byt_app (msk_byt (key0_byt HKB.out) (by omega) (by omega)) (sha_byt _))
      have c23 := rof_any v3 _ u4 s3 (by rw [List.length_append, msk_len, hin_len]; omega)
      change Calls Tryz.prog 114 #[v3] u4 fun e w' => e = .returned (.agg (u8s (hmac K X))) ∧ Below u4.heap.size u4 w' at c23
      clear own3 hg3 s3
      refine wpAnyH_ready (rs := [4]) (by kernel_rfl) (by simp) ?_
      refine AllReadyH.cons (o := { dst := some 15, op := Op.call { callee := Callee.value (Operand.func 114), args := #[Operand.tmp 14], argTypes := #[34] }, type := 47, pos := "ref.go:36", after := #[{ on := 3, ground := Ground.data }, { on := 3, ground := Ground.chain }], guard := none }) rfl (fun KK hKK => ?_) ?_
      · go_simp
        refine c23.mono ?_
        rintro e u5' ⟨rfl, bu5'⟩
        (try go_wp2_with fail)
        refine hKK.out _ _ trivial (fun _ => ?_)
        clear hKK KK
        try simp only [Act.put, List.setIfInBounds_toArray, List.set_cons_zero, List.set_cons_succ]
        refine wpAnyH_name (fun u5 hu5 => ?_)
        have bu5 : Below u4.heap.size u4 u5 := by rw [hu5.out]; exact bu5'
        replace FG := on FG bu5
        replace FB := on FB bu5
        refine wpAnyH_ready (rs := [5]) (by kernel_rfl) (by simp) ?_
        refine AllReadyH.cons (o := { dst := none, op := Op.store 47 (Operand.tmp 4) (Operand.tmp 15), type := 0, pos := "ref.go:36", after := #[{ on := 4, ground := Ground.data }, { on := 4, ground := Ground.chain }, { on := 0, ground := Ground.phase }, { on := 1, ground := Ground.phase }, { on := 2, ground := Ground.phase }, { on := 3, ground := Ground.phase }, { on := 4, ground := Ground.phase }], guard := none }) rfl (fun KK hKK => ?_) ?_
        · rw [if_pos (by rfl)]
          refine wp_store_row 47 _ _ rfl w.heap.size (u8s (hmac K X)) rfl rfl 47 _ (FG.out _ (Below.refl _ _)) HI2.out HO2.out (u8s_one _) ?_
          refine hKK.out _ _ trivial (fun _ => ?_)
          clear hKK KK
          try simp only [Act.put]
          refine wpAnyH_name (fun u6 hu6 => ?_)
          refine wpAnyH_done (by kernel_rfl) ?_ _
          rw [hu6.out]
          go_wp2_with fail
          refine bodyPost_ret (v := .agg (u8s (hmac K X))) (results_cell_row rfl _ _ w.heap.size 47 (u8s (hmac K X)) (0, 0) _ rfl (setRow_heap _ _ _ _ _ _ (FG.out _ (Below.refl _ _))) Tryz.underlying47 rfl HI2.out) rfl ⟨rfl, below_setRow (FB.out _ (Below.refl _ _)) (Nat.le_refl _) _⟩
        exact AllReadyH.nil
      exact AllReadyH.nil
    exact AllReadyH.nil
  exact AllReadyH.nil

end Go.Proofs.YtiollhmbdhepkaaGreatDoor.Mc
namespace Go.Proofs.YtiollhmbdhepkaaGreatDoor.Mc
open Go.Proofs.YtiollhmbdhepkaaGreatDoor.Sh Go.Proofs.YtiollhmbdhepkaaGreatDoor.Fi
set_option maxRecDepth 100000
open Go.RowKit

set_option maxHeartbeats 2000000 in
set_option maxRecDepth 100000 in
theorem rtag_any (KB : List Int) (v : Value) (X : List Int) (w : World) (hK : KB.length = 32) (hKb : Pl.Byt KB) (sv : Sl w v X) (hX : X.length ≤ 99000) :
    Calls Tryz.prog 85 #[.agg (u8s KB), v] w fun e w' => ∃ v', e = .returned v' ∧ w'.ownsRow w.heap.size 5 1 v' 16 ((tagB KB X).map (Value.int .u8)) ∧ Below w.heap.size w w' := by
  obtain ⟨wa, hwa⟩ : ∃ wa, wa = w.alloc (.cells (u8s KB) 47) := ⟨_, rfl⟩
  have ba : Below w.heap.size w wa := by rw [hwa]; exact al_below _ _
  have hwz : w.alloc (.cells (u8s KB) 47) = wa := hwa.symm
  have sk : Sl wa (.slice (some ⟨w.heap.size, 0, none⟩) 32 32) KB := by rw [hwa]; exact sl_sum (heap_alloc_new _ _) hKb hK
  have c9 := rmof_any _ v KB X wa sk (sv.kept ba) (by omega) hX
  have HBA : Hid (Below w.heap.size w wa) := ba
  have HI : Hid ((Tryz.prog.info? 47).map (·.size) = some (u8s (hmac KB X)).size) := by unfold Hid; rw [u8s_size, hmac_len]; exact size26
  have HO : Hid ((u8s (List.replicate 32 0)).size = (u8s (hmac KB X)).size) := by unfold Hid; rw [u8s_size, u8s_size, hmac_len]; simp
  have HT : Hid (tagB KB X = (hmac KB X).take 16) := rfl
  have HTL : Hid ((tagB KB X).length = 16) := tagB_len _ _
  have HL : Hid ((hmac KB X).length = 32) := hmac_len _ _
  have HB : Hid (Pl.Byt (hmac KB X)) := hmac_byt _ _
  obtain ⟨av, cv, rfl, -⟩ := sv
  generalize hmac KB X = M at *
  generalize tagB KB X = T at *
  generalize X.length = n at *
  clear hwa ba sk hK
  go_enter Tryz.func85, Tryz.ntmps85
  go_wp2_with fail
  refine c9.mono ?_
  rintro e w1 ⟨rfl, b1⟩
  clear c9
  have B1 : Hid (Below w.heap.size w w1) := HBA.out.trans (b1.mono HBA.out.size)
  obtain ⟨w3, hw3⟩ : ∃ w3, w3 = w1.alloc (.cells (u8s M) 47) := ⟨_, rfl⟩
  have HW3 : Hid (w3 = w1.alloc (.cells (u8s M) 47)) := hw3
  have B3 : Hid (Below w.heap.size w w3) := by unfold Hid; rw [hw3]; exact B1.out.alloc B1.out.size _
  have own0 := own_mono (own_empty w3) B3.out.size
  have b0 := al_below w3 (.cells #[] 5)
  have s3 : Sl (w3.alloc (.cells #[] 5)) (.slice (some ⟨w1.heap.size, 0, none⟩) 16 32) T := by
    have h : Sl w3 (.slice (some ⟨w1.heap.size, 0, none⟩) 32 32) M := by rw [hw3]; exact sl_sum (heap_alloc_new _ _) HB.out HL.out
    rw [HT.out]
    exact (h.take 16 (by omega)).kept b0
  have HB0 : Hid (Below w.heap.size w (w3.alloc (.cells #[] 5))) := B3.out.trans (b0.mono B3.out.size)
  clear b1 hw3 b0
  go_wp2_with (first
    | (refine wpList_store_row rfl 47 _ _ rfl w1.heap.size (u8s M) rfl rfl 47 _ (heap_alloc_new _ _) HI.out HO.out (u8s_one _) ?_; rw [World.setRow_alloc_new, ← HW3.out])
    | (at_builtin; refine wpList_append_sl rfl _ _ rfl w.heap.size _ _ _ rfl own0 _ T rfl s3 (by rw [HTL.out]; omega) HB0.out.size (Hid.out ?_)))
  unfold Hid
  intro v4 w4 own4 hg4
  have B4 : Hid (Below w.heap.size w w4) := HB0.out.grown hg4 HB0.out.size (own_base own0)
  have O4 : Hid (w4.ownsRow w.heap.size 5 1 v4 16 (T.map (Value.int .u8))) := by
    rw [HTL.out] at own4
    exact own4
  clear own0 s3 own4 hg4
  go_wp2
  go_ret
  exact ⟨_, rfl, O4.out, B4.out⟩

set_option maxHeartbeats 4000000 in
set_option maxRecDepth 100000 in
theorem rseal_any (KB : List Int) (h v : Value) (H X : List Int) (w : World) (hK : KB.length = 32) (hKb : Pl.Byt KB) (sh : Sl w h H) (sv : Sl w v X) (hH : H.length ≤ 9000) (hX : X.length ≤ 80000) :
    Calls Tryz.prog 62 #[.agg (u8s KB), h, v] w fun e w' => ∃ v', e = .returned v' ∧ w'.ownsRow w.heap.size 5 1 v' (X ++ btag KB H X).length ((X ++ btag KB H X).map (Value.int .u8)) ∧ Below w.heap.size w w' := by
  obtain ⟨wa, hwa⟩ : ∃ wa, wa = w.alloc (.cells (u8s KB) 47) := ⟨_, rfl⟩
  have ba : Below w.heap.size w wa := by rw [hwa]; exact al_below _ _
  have hwz : w.alloc (.cells (u8s KB) 47) = wa := hwa.symm
  have FR : Hid (∀ x, From wa x → x.rangeAt w.heap.size 0 (KB.map (Value.int .u8))) := fun x hx => range_sum ((Below.block hx _ (by rw [hwa]; simp)).trans (by rw [hwa]; exact heap_alloc_new _ _))
  have FV : Hid (∀ x, From wa x → Sl x v X) := fun x hx => (sv.kept ba).kept hx
  have FB : Hid (∀ x, From wa x → Below w.heap.size w x) := fun x hx => ba.trans (Below.mono hx ba.size)
  have FH : Hid (∀ x, From wa x → (convert 34 9 h).run Tryz.prog x = .ok (.string (strB H)) x) := fun x hx => by
    have := (sh.kept ba).kept hx
    obtain ⟨a, c, rfl, -⟩ := sh
    exact this.conv
  have HTX : Hid (textB (strB H) = textL H) := textB_strB sh.bytes
  have HTB : Hid (Pl.Byt (textL H ++ X)) := byt_app (textL_byt sh.bytes) sv.bytes
  have HTX2 : Hid ((textL H).length ≤ 9008) := by unfold Hid; have := textL_le H; omega
  have HXL : Hid (X.length ≤ 80000) := hX
  have HSZ : Hid ((strB H).size ≤ 140737488351232) := by unfold Hid; rw [strB_size]; omega
  have HKK : Hid (KB.length = 32) := hK
  have HKB : Hid (Pl.Byt KB) := hKb
  have HTT : Hid (Pl.Byt (btag KB H X)) := tagB_byt _ _
  have HTL : Hid ((btag KB H X).length = 16) := tagB_len _ _
  have hu26 := Tryz.underlying47
  have hi26 : (Tryz.prog.info? 47).map (·.size) = some (KB.map (Value.int .u8)).length := by rw [List.length_map, hK]; exact size26
  obtain ⟨av, cv, rfl, -⟩ := sv
  obtain ⟨ah, ch, rfl, -⟩ := sh
  clear hwa ba hK hKb
  generalize strB H = SH at *
  obtain ⟨xl, hxl⟩ : ∃ xl, xl = X.length := ⟨_, rfl⟩
  rw [← hxl] at FV hX ⊢
  generalize hhl : H.length = hl at *
  clear hxl hhl
  go_enter Tryz.func62, Tryz.ntmps62
  go_wp2_with fail
  refine wp_region_held_drew (S := From wa) (by kernel_rfl) ((Below.refl _ _).drew) (fun _ => ?_)
  refine wpAnyH_on ((Below.refl _ _).drew) (fun u0 hu0 bu0 => ?_)
  replace FR := on FR bu0
  replace FV := on FV bu0
  replace FB := on FB bu0
  replace FH := on FH bu0
  refine wpAnyH_take (i := 0) (oi := { dst := some 8, op := Op.load 47 (Operand.tmp 3), type := 47, pos := "ref.go:56", after := #[], guard := none }) (v := .agg (KB.map (Value.int .u8)).toArray) rfl (by kernel_rfl) (by kernel_rfl) (by kernel_rfl) (fun _ _ _ h => h) (yieldsIf_load_mid (by rfl) _ _ rfl w.heap.size 0 rfl _ _ (fun x h => FR.out x h) hu26 rfl hi26) (Below.refl _ _) ?_
  try simp only [Act.put, List.setIfInBounds_toArray, List.set_cons_zero, List.set_cons_succ]
  refine wpAnyH_take (i := 1) (oi := { dst := some 9, op := Op.move (Operand.tmp 1), type := 34, pos := "ref.go:56", after := #[], guard := none }) (v := ?va2) rfl (by kernel_rfl) (by kernel_rfl) (by kernel_rfl) (fun _ _ _ h => h) (Or.inl ⟨by rfl, ?ya2⟩) (Below.refl _ _) ?ra2
  case ya2 => (intro w hSw; go_simp; try with_reducible rfl)
  try simp only [Act.put, List.setIfInBounds_toArray, List.set_cons_zero, List.set_cons_succ]
  refine wpAnyH_take (i := 2) (oi := { dst := some 10, op := Op.convert 34 9 (Operand.tmp 9), type := 9, pos := "ref.go:56", after := #[{ on := 1, ground := Ground.data }], guard := none }) (v := ?va3) rfl (by kernel_rfl) (by kernel_rfl) (by kernel_rfl) (fun _ _ _ h => h) (Or.inl ⟨by rfl, ?ya3⟩) (Below.refl _ _) ?ra3
  case ya3 => (intro w hSw; have t := FH.out w hSw; go_simp; try with_reducible rfl)
  try simp only [Act.put, List.setIfInBounds_toArray, List.set_cons_zero, List.set_cons_succ]
  refine wpAnyH_take (i := 4) (oi := { dst := some 12, op := Op.move (Operand.tmp 2), type := 34, pos := "ref.go:56", after := #[], guard := none }) (v := ?va4) rfl (by kernel_rfl) (by kernel_rfl) (by kernel_rfl) (fun _ _ _ h => h) (Or.inl ⟨by rfl, ?ya4⟩) (Below.refl _ _) ?ra4
  case ya4 => (intro w hSw; go_simp; try with_reducible rfl)
  try simp only [Act.put, List.setIfInBounds_toArray, List.set_cons_zero, List.set_cons_succ]
  refine wpAnyH_ready (rs := [3]) (by kernel_rfl) (by simp) ?_
  refine AllReadyH.cons (o := { dst := some 11, op := Op.call { callee := Callee.value (Operand.func 42), args := #[Operand.tmp 10], argTypes := #[9] }, type := 34, pos := "ref.go:56", after := #[{ on := 2, ground := Ground.data }], guard := none }) rfl (fun KK hKK => ?_) ?_
  · go_simp
    refine (rtextB_any SH _ HSZ.out).mono ?_
    rintro e u5' ⟨v3, rfl, own3, bu5'⟩
    rw [HTX.out] at own3
    (try go_wp2_with fail)
    refine hKK.out _ _ (bu5') (fun _ => ?_)
    clear hKK KK
    try simp only [Act.put, List.setIfInBounds_toArray, List.set_cons_zero, List.set_cons_succ]
    refine wpAnyH_name (fun u5 hu5 => ?_)
    have bu5 : Below u0.heap.size u0 u5 := by rw [hu5.out]; exact (bu5')
    have O3 : Hid (u5.ownsRow u0.heap.size 5 1 v3 (textL H).length ((textL H).map (Value.int .u8))) := by unfold Hid; rw [hu5.out]; exact own3
    clear own3 bu5'
    refine wpAnyH_ready (rs := [5]) (by kernel_rfl) (by simp) ?_
    refine AllReadyH.cons (o := { dst := some 13, op := Op.call { callee := Callee.builtin Builtin.append, args := #[Operand.tmp 11, Operand.tmp 12], argTypes := #[34, 34] }, type := 34, pos := "ref.go:56", after := #[{ on := 3, ground := Ground.data }, { on := 4, ground := Ground.data }, { on := 3, ground := Ground.chain }], guard := none }) rfl (fun KK hKK => ?_) ?_
    · rw [if_pos (by rfl)]
      refine wp_append_sl _ _ rfl u0.heap.size _ _ _ rfl O3.out _ X rfl (FV.out _ bu5) (by have := HTX2.out; have := HXL.out; omega) bu5.size ?_
      intro v5 u6' own5 hg5
      rw [← List.map_append] at own5
      refine hKK.out _ _ (bu5.grown hg5 bu5.size (own_base O3.out)) (fun _ => ?_)
      clear hKK KK
      try simp only [Act.put, List.setIfInBounds_toArray, List.set_cons_zero, List.set_cons_succ]
      refine wpAnyH_name (fun u6 hu6 => ?_)
      have bu6 : Below u0.heap.size u0 u6 := by rw [hu6.out]; exact (bu5.grown hg5 bu5.size (own_base O3.out))
      have S5 : Hid (Sl u6 v5 (textL H ++ X)) := by unfold Hid; rw [hu6.out]; exact sl_owned own5 HTB.out
      clear own5 hg5 O3
      refine wpAnyH_ready (rs := [6]) (by kernel_rfl) (by simp) ?_
      refine AllReadyH.cons (o := { dst := some 14, op := Op.call { callee := Callee.value (Operand.func 85), args := #[Operand.tmp 8, Operand.tmp 13], argTypes := #[47, 34] }, type := 34, pos := "ref.go:56", after := #[{ on := 0, ground := Ground.data }, { on := 5, ground := Ground.data }, { on := 5, ground := Ground.chain }], guard := none }) rfl (fun KK hKK => ?_) ?_
      · go_simp
        refine (rtag_any KB _ (textL H ++ X) _ HKK.out HKB.out S5.out (by rw [List.length_append]; have := HTX2.out; have := HXL.out; omega)).mono ?_
        rintro e u7' ⟨v6, rfl, own6, bu7'⟩
        (try go_wp2_with fail)
        refine hKK.out _ _ (bu6.trans (Below.mono (bu7') bu6.size)) (fun _ => ?_)
        clear hKK KK
        try simp only [Act.put, List.setIfInBounds_toArray, List.set_cons_zero, List.set_cons_succ]
        refine wpAnyH_on (bu6.trans (Below.mono (bu7') bu6.size)) (fun u7 hu7 bu7 => ?_)
        replace FR := on FR bu7
        replace FV := on FV bu7
        replace FB := on FB bu7
        replace FH := on FH bu7
        have S6 : Hid (Sl u7 v6 (btag KB H X)) := by unfold Hid; rw [hu7.out]; exact sl_owned (base := u6.heap.size) (n := 16) own6 HTT.out
        clear own6 bu7' S5
        refine wpAnyH_take (i := 7) (oi := { dst := some 7, op := Op.assign (Operand.tmp 14), type := 34, pos := "ref.go:56", after := #[{ on := 6, ground := Ground.data }, { on := 6, ground := Ground.chain }, { on := 0, ground := Ground.phase }, { on := 1, ground := Ground.phase }, { on := 2, ground := Ground.phase }, { on := 3, ground := Ground.phase }, { on := 4, ground := Ground.phase }, { on := 5, ground := Ground.phase }, { on := 6, ground := Ground.phase }], guard := none }) (v := ?va8) rfl (by kernel_rfl) (by kernel_rfl) (by kernel_rfl) (fun _ _ _ h => h) (Or.inl ⟨by rfl, ?ya8⟩) (Below.refl _ _) ?ra8
        case ya8 => (intro w hSw; go_simp; try with_reducible rfl)
        try simp only [Act.put, List.setIfInBounds_toArray, List.set_cons_zero, List.set_cons_succ]
        refine wpAnyH_done (by kernel_rfl) ?_ _
        obtain ⟨a6, q6, rfl, -⟩ := id S6.out
        rw [HTL.out] at S6 ⊢
        have B6 : Hid (Below w.heap.size w u7) := FB.out _ (Below.refl _ _)
        have own0 := own_mono (own_empty u7) B6.out.size
        have b0 := al_below u7 (.cells #[] 5)
        have sv0 := FV.out _ b0
        have HB0 : Hid (Below w.heap.size w (u7.alloc (.cells #[] 5))) := B6.out.trans (b0.mono B6.out.size)
        have S60 : Hid (∀ W, Below u7.heap.size u7 W → Sl W (.slice a6 16 q6) (btag KB H X)) := fun W hW => S6.out.kept hW
        clear S6 FR FH
        go_wp2_with (at_builtin; refine wpList_append_sl rfl _ _ rfl w.heap.size _ _ _ rfl own0 _ X rfl sv0 (by have := HXL.out; omega) HB0.out.size (Hid.out ?_))
        unfold Hid
        intro v8 w8 own8 hg8
        have D8 : Below u7.heap.size u7 w8 := b0.grown hg8 b0.size (own_base (own_empty u7))
        have B8 : Hid (Below w.heap.size w w8) := B6.out.trans (D8.mono B6.out.size)
        have s8 := S60.out w8 D8
        have O8 : Hid (w8.ownsRow w.heap.size 5 1 v8 X.length (X.map (Value.int .u8))) := own8
        clear own8 own0 hg8 b0 sv0
        go_wp2_with (at_builtin; refine wpList_append_sl rfl _ _ rfl w.heap.size _ _ _ rfl O8.out _ (btag KB H X) rfl s8 (by rw [HTL.out]; have := HXL.out; omega) B8.out.size (Hid.out ?_))
        unfold Hid
        intro v9 w9 own9 hg9
        rw [← List.map_append, ← List.length_append] at own9
        have B9 : Hid (Below w.heap.size w w9) := B8.out.grown hg9 B8.out.size (own_base O8.out)
        have O9 : Hid (w9.ownsRow w.heap.size 5 1 v9 (X ++ btag KB H X).length ((X ++ btag KB H X).map (Value.int .u8))) := own9
        clear own9 hg9 s8
        go_wp2
        go_ret
        exact ⟨_, rfl, O9.out, B9.out⟩
      exact AllReadyH.nil
    exact AllReadyH.nil
  exact AllReadyH.nil
end Go.Proofs.YtiollhmbdhepkaaGreatDoor.Mc
