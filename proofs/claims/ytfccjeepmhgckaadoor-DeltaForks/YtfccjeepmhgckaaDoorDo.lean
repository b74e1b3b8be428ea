/-
  What dataAhead and opAhead answer.
-/
import Derived.Test.YtfccjeepmhgckaaDoorDn
namespace Go.Proofs.YtfccjeepmhgckaaDoor
open Go.RowKit
set_option maxRecDepth 100000

theorem sl_take {w : World} {a : Option Addr} {L c : Nat} {b : List Int} (h : SlX w (.slice a L c) b) (n : Nat) (hn : n ≤ L) : SlX w (.slice a n c) (b.take n) :=
  ⟨h.1.take n hn, fun x m k e hk => by cases e; exact h.2 x L c rfl hk⟩
set_option maxHeartbeats 4000000 in
theorem dataA_any (v : Value) (b : List Int) (w : World) (h : SlX w v b) (ht : Fi.Wid w) :
    Calls Tryd.prog 40 #[v] w fun e w' => TP (datA b) v b w e w' := by
  obtain ⟨W0, hW0⟩ : ∃ W0, W0 = w.alloc (.cells zop 46) := ⟨_, rfl⟩
  have b0 : Below w.heap.size w W0 := by rw [hW0]; exact al_below _ _
  have g0 : W0.heap[w.heap.size]? = some (.cells zop 46 (0, 0)) := by rw [hW0]; exact heap_alloc_new _ _
  have l0 : w.heap.size < W0.heap.size := by rw [hW0]; simp
  have h0 := h.kept b0
  have t0 := Wid.kept ht b0
  obtain ⟨a, c, rfl, hLc, hcm, hac, -⟩ := id h.1
  have hR : datA b = if nE b = 3 then .wait else if nE b = 0 then (if nN b = 0 then .bad 4 else if 65536 < nN b then .bad 5 else if (b.length : Int) - nU b < nN b then .wait else .op ⟨false, 0, 0, cut b (nU b).toNat (nN b).toNat⟩ ((nU b).toNat + (nN b).toNat)) else .bad (nE b) := rfl
  have B0 : Hid (Below w.heap.size w W0) := b0
  have HD : Hid (∀ W, Below W0.heap.size W0 W → W.cell? ⟨w.heap.size, 0, none⟩ = some (.bool false) ∧ W.cell? ⟨w.heap.size, 1, none⟩ = some (.int .i64 0) ∧ W.cell? ⟨w.heap.size, 2, none⟩ = some (.int .i64 0) ∧ W.cell? ⟨w.heap.size, 3, none⟩ = some (.slice none 0 0) ∧ W.heap[w.heap.size]? = some (.cells zop 46 (0, 0))) := fun W hb => by
    have g2 := (hb.block _ l0).trans g0
    exact ⟨by rw [cell_of_row _ _ _ _ _ _ g2]; rfl, by rw [cell_of_row _ _ _ _ _ _ g2]; rfl, by rw [cell_of_row _ _ _ _ _ _ g2]; rfl, by rw [cell_of_row _ _ _ _ _ _ g2]; rfl, g2⟩
  by_cases e3 : nE b = 3
  · rw [if_pos e3] at hR
    have CN := number_cut _ b W0 h0 t0 e3
    have HR : Hid (datA b = .wait) := hR
    clear h ht h0 t0 hR e3 b0 g0 l0 hac hLc hcm
    generalize datA b = R at *
    generalize b.length = L at *
    go_enter Tryd.func40, Tryd.ntmps40
    go_wp2_with fail
    rw [← hW0]
    clear hW0
    refine CN.mono ?_
    rintro e w1 ⟨rfl, hq⟩
    replace hq := hq.symm
    subst hq
    clear CN
    obtain ⟨d0, d1, d2, d3, gg⟩ := HD.out W0 (Below.refl _ _)
    have f0 : ∀ i, W0.frozen? ⟨w.heap.size, i, none⟩ = false := fun i => frozen_of_row _ _ _ _ _ gg
    have GG : Hid (W0.heap[w.heap.size]? = some (.cells zop 46 (0, 0))) := gg
    clear gg
    go_wp2
    rw [st4_eq]
    have BZ : Hid (Below w.heap.size w (st4 W0 w.heap.size (.bool false) (.int .i64 0) (.int .i64 0) (.slice none 0 0))) := B0.out.trans (st4_below _ _ _ _ _ _ _ (Nat.le_refl _))
    have gz := st4_block W0 w.heap.size (.bool false) (.int .i64 0) (.int .i64 0) (.slice none 0 0) GG.out
    obtain ⟨z0, z1, z2, z3⟩ := cell4 gz
    generalize st4 W0 w.heap.size (.bool false) (.int .i64 0) (.int .i64 0) (.slice none 0 0) = WZ at *
    refine bodyPost_ret (v := .tuple #[.agg #[.bool false, .int .i64 0, .int .i64 0, .slice none 0 0], .slice none 0 0, .bool false]) ?h rfl ?_
    case h => simp [results, Tryd.results40, go_sem, z0, z1, z2, z3]
    rw [HR.out]
    exact ⟨BZ.out, rfl⟩
  · rw [if_neg e3] at hR
    by_cases e0 : nE b = 0
    · rw [if_pos e0] at hR
      have CN := number_ok a c b W0 h0 t0 e0
      obtain ⟨n0, n1, u0, u1⟩ := nU_le b h.1.bytes
      have HSX : Hid (∀ W, Below w.heap.size w W → SlX W (cuv a b.length c (nU b).toNat) (b.drop (nU b).toNat)) := fun W hb => (h.kept hb).drop _ (by omega)
      obtain ⟨a1, c1, hcu⟩ := cuv_shape a b.length c (nU b).toNat (by omega) hLc hac
      have HO1 : Hid (∀ p q r s, (Value.slice a1 p q).ownBlock = (Value.slice a r s).ownBlock) := cuv_own hcu hac (by omega)
      rw [hcu] at CN HSX
      have HDD : Hid (∀ k, (b.drop (nU b).toNat).drop k = b.drop ((nU b).toNat + k)) := fun k => by rw [List.drop_drop]
      have HCU : Hid (∀ k, cut b (nU b).toNat k = (b.drop (nU b).toNat).take k) := fun k => rfl
      obtain ⟨u, hu⟩ : ∃ u : Nat, nU b = u := ⟨_, (Int.toNat_of_nonneg u0).symm⟩
      obtain ⟨n, hn⟩ : ∃ n : Nat, nN b = n := ⟨_, (Int.toNat_of_nonneg n0).symm⟩
      rw [hu, hn] at hR
      rw [hu] at CN HSX HDD HCU u1
      rw [hn] at CN n1
      simp only [Int.toNat_natCast] at hR CN HSX HDD HCU
      obtain ⟨L2, hL2⟩ : ∃ L2, L2 = b.length - u := ⟨_, rfl⟩
      have hL2' : (b.length : Int) - u = L2 := by omega
      rw [hL2'] at hR
      rw [← hL2] at CN HSX
      clear h ht h0 t0 e3 b0 g0 l0 e0 u0 hcu hac hn hu n0 hL2' hL2 u1
      generalize datA b = R at *
      have HR0 : Hid (R = if (n : Int) = 0 then .bad 4 else if 65536 < (n : Int) then .bad 5 else if (L2 : Int) < (n : Int) then .wait else .op ⟨false, 0, 0, cut b u n⟩ (u + n)) := hR
      clear hR hLc hcm n1
      generalize b.length = L at *
      go_enter Tryd.func40, Tryd.ntmps40
      go_wp2_with fail
      rw [← hW0]
      clear hW0
      refine CN.mono ?_
      rintro e w1 ⟨rfl, b1⟩
      clear CN
      have B1 : Hid (Below W0.heap.size W0 w1) := b1
      have BW1 : Hid (Below w.heap.size w w1) := B0.out.trans (b1.mono B0.out.size)
      clear b1
      by_cases z0 : (n : Int) = 0
      · have HR : Hid (R = .bad 4) := by unfold Hid; rw [HR0.out, if_pos z0]
        obtain rfl : n = 0 := by omega
        clear HR0 z0
        go_wp2
        refine ⟨rfl, ?_⟩
        rw [HR.out]
        exact ⟨BW1.out, rfl⟩
      · have y0 : ((n : Int) == 0) = false := by simpa using z0
        by_cases z1 : 65536 < (n : Int)
        · have HR : Hid (R = .bad 5) := by unfold Hid; rw [HR0.out, if_neg z0, if_pos z1]
          clear HR0
          go_wp2
          refine ⟨rfl, ?_⟩
          rw [HR.out]
          exact ⟨BW1.out, rfl⟩
        · by_cases z2 : (L2 : Int) < (n : Int)
          · have HR : Hid (R = .wait) := by unfold Hid; rw [HR0.out, if_neg z0, if_neg z1, if_pos z2]
            clear HR0
            have y1 : decide (65536 < (n : Int)) = false := by simpa using z1
            clear z1
            obtain ⟨d0, d1, d2, d3, gg⟩ := HD.out w1 B1.out
            have f0 : ∀ i, w1.frozen? ⟨w.heap.size, i, none⟩ = false := fun i => frozen_of_row _ _ _ _ _ gg
            have GG : Hid (w1.heap[w.heap.size]? = some (.cells zop 46 (0, 0))) := gg
            clear gg
            go_wp2
            rw [st4_eq]
            have BZ : Hid (Below w.heap.size w (st4 w1 w.heap.size (.bool false) (.int .i64 0) (.int .i64 0) (.slice none 0 0))) := BW1.out.trans (st4_below _ _ _ _ _ _ _ (Nat.le_refl _))
            have gz := st4_block w1 w.heap.size (.bool false) (.int .i64 0) (.int .i64 0) (.slice none 0 0) GG.out
            obtain ⟨z0, z1, z2, z3⟩ := cell4 gz
            generalize st4 w1 w.heap.size (.bool false) (.int .i64 0) (.int .i64 0) (.slice none 0 0) = WZ at *
            refine bodyPost_ret (v := .tuple #[.agg #[.bool false, .int .i64 0, .int .i64 0, .slice none 0 0], .slice none 0 0, .bool false]) ?h rfl ?_
            case h => simp [results, Tryd.results40, go_sem, z0, z1, z2, z3]
            rw [HR.out]
            exact ⟨BZ.out, rfl⟩
          · have HR : Hid (R = .op ⟨false, 0, 0, cut b u n⟩ (u + n)) := by unfold Hid; rw [HR0.out, if_neg z0, if_neg z1, if_neg z2]
            clear HR0
            have s1 := HSX.out w1 BW1.out
            obtain ⟨hlen2, hL2c, hc1m, hac1⟩ := s1.facts
            have CC : Hid (∀ W, Below w.heap.size w W → Calls Tryd.prog 18 #[.slice a1 n c1] W fun r w' => ∃ v', r = .returned v' ∧ Ow w' W.heap.size v' ((b.drop u).take n) ∧ Below W.heap.size W w') := fun W hb => clone_ow _ _ W (sl_take (HSX.out W hb) n (by omega)).1 (by rw [List.length_take]; omega)
            have HSV : Hid (∀ W, Below w.heap.size w W → SlX W (cuv a1 L2 c1 n) (b.drop (u + n))) := fun W hb => by rw [← HDD.out]; exact (HSX.out W hb).drop n (by omega)
            have HTL : Hid (((b.drop u).take n).length = n) := by unfold Hid; rw [List.length_take, hlen2]; omega
            have GG1 : Hid (w1.heap[w.heap.size]? = some (.cells zop 46 (0, 0))) := (HD.out w1 B1.out).2.2.2.2
            have LG1 : Hid (w.heap.size < w1.heap.size) := (Array.getElem?_eq_some_iff.1 GG1.out).1
            rw [HCU.out] at HR
            have q1 : (n : Int) ≤ (c1 : Int) := by omega
            have q2 : (0 : Int) ≤ (n : Int) := by omega
            have q3 : (n : Int) ≤ (L2 : Int) := by omega
            have q4 : (L2 : Int) ≤ (c1 : Int) := by omega
            have hsp := s1.2
            have y1 : decide (65536 < (n : Int)) = false := by simpa using z1
            have HZ1 : Hid (¬ 65536 < (n : Int)) := z1
            clear z1
            obtain ⟨x1, rfl⟩ : ∃ x1, a1 = some x1 := by
              cases a1 with
              | none => have := hac1 rfl; omega
              | some x => exact ⟨x, rfl⟩
            obtain ⟨xb, xo, sp⟩ := x1
            obtain rfl : sp = none := hsp _ _ _ rfl (by omega)
            clear s1 hac1 hsp hc1m hlen2 HCU HSX B0 B1 HDD hL2c
            generalize (b.drop u).take n = X at *
            unfold cuv at HSV
            go_wp2_with fail
            by_cases hcn : c1 = n
            · rw [if_pos hcn] at HSV
              replace hcn := hcn.symm
              subst hcn
              have hLn : n = L2 := by omega
              subst hLn
              refine wp_region_held_drew (S := From w) (by kernel_rfl) (Below.drew (BW1.out)) (fun _ => ?_)
              refine wpAnyH_name (fun u0 hu0 => ?_)
              have bu0 : Below w.heap.size w u0 := by rw [hu0.out]; exact Below.drew (BW1.out)
              have G0 : Hid (u0.heap[w.heap.size]? = some (.cells zop 46 (0, 0))) := by unfold Hid; rw [hu0.out]; exact GG1.out
              have LG0 : Hid (w.heap.size < u0.heap.size) := by unfold Hid; rw [hu0.out]; exact LG1.out
              refine wpAnyH_take (i := 0) (oi := { dst := some 31, op := Op.move (Operand.tmp 0), type := 26, pos := "delta.go:213", after := #[], guard := none }) (v := ?vr1) rfl (by kernel_rfl) (by kernel_rfl) (by kernel_rfl) (fun _ _ _ h => h) (Or.inl ⟨by rfl, ?yr1⟩) bu0 ?rr1
              case yr1 => (intro w hSw; go_simp; try with_reducible rfl)
              try simp only [Act.put, List.setIfInBounds_toArray, List.set_cons_zero, List.set_cons_succ]
              refine wpAnyH_take (i := 1) (oi := { dst := some 32, op := Op.move (Operand.tmp 5), type := 3, pos := "delta.go:213", after := #[], guard := none }) (v := ?vr2) rfl (by kernel_rfl) (by kernel_rfl) (by kernel_rfl) (fun _ _ _ h => h) (Or.inl ⟨by rfl, ?yr2⟩) bu0 ?rr2
              case yr2 => (intro w hSw; go_simp; try with_reducible rfl)
              try simp only [Act.put, List.setIfInBounds_toArray, List.set_cons_zero, List.set_cons_succ]
              refine wpAnyH_take (i := 2) (oi := { dst := some 33, op := Op.slice 26 (Operand.tmp 31) none (some (Operand.tmp 32)) none, type := 26, pos := "delta.go:213", after := #[{ on := 0, ground := Ground.data }, { on := 1, ground := Ground.data }], guard := none }) (v := ?vr3) rfl (by kernel_rfl) (by kernel_rfl) (by kernel_rfl) (fun _ _ _ h => h) (Or.inl ⟨by rfl, ?yr3⟩) bu0 ?rr3
              case yr3 => (intro w hSw; go_simp; try with_reducible rfl)
              try simp only [Act.put, List.setIfInBounds_toArray, List.set_cons_zero, List.set_cons_succ]
              refine wpAnyH_take (i := 5) (oi := { dst := some 36, op := Op.move (Operand.tmp 0), type := 26, pos := "delta.go:213", after := #[], guard := none }) (v := ?vr4) rfl (by kernel_rfl) (by kernel_rfl) (by kernel_rfl) (fun _ _ _ h => h) (Or.inl ⟨by rfl, ?yr4⟩) bu0 ?rr4
              case yr4 => (intro w hSw; go_simp; try with_reducible rfl)
              try simp only [Act.put, List.setIfInBounds_toArray, List.set_cons_zero, List.set_cons_succ]
              refine wpAnyH_take (i := 6) (oi := { dst := some 37, op := Op.move (Operand.tmp 5), type := 3, pos := "delta.go:213", after := #[], guard := none }) (v := ?vr5) rfl (by kernel_rfl) (by kernel_rfl) (by kernel_rfl) (fun _ _ _ h => h) (Or.inl ⟨by rfl, ?yr5⟩) bu0 ?rr5
              case yr5 => (intro w hSw; go_simp; try with_reducible rfl)
              try simp only [Act.put, List.setIfInBounds_toArray, List.set_cons_zero, List.set_cons_succ]
              refine wpAnyH_take (i := 7) (oi := { dst := some 38, op := Op.slice 26 (Operand.tmp 36) (some (Operand.tmp 37)) none none, type := 26, pos := "delta.go:213", after := #[{ on := 5, ground := Ground.data }, { on := 6, ground := Ground.data }], guard := none }) (v := ?vr6) rfl (by kernel_rfl) (by kernel_rfl) (by kernel_rfl) (fun _ _ _ h => h) (Or.inl ⟨by rfl, ?yr6⟩) bu0 ?rr6
              case yr6 => (intro w hSw; go_simp; try with_reducible rfl)
              try simp only [Act.put, List.setIfInBounds_toArray, List.set_cons_zero, List.set_cons_succ]
              refine wpAnyH_ready (rs := [3]) (by kernel_rfl) (by simp) ?_
              refine AllReadyH.cons (o := { dst := some 34, op := Op.call { callee := Callee.value (Operand.func 18), args := #[Operand.tmp 33], argTypes := #[26] }, type := 26, pos := "delta.go:213", after := #[{ on := 2, ground := Ground.data }], guard := none }) rfl (fun KK hKK => ?_) ?_
              · go_simp
                refine (CC.out _ bu0).mono ?_
                rintro e u7' ⟨vu7, rfl, ou7, bu7'⟩
                obtain ⟨ta, tc, rfl⟩ := Ow.shape ou7
                rw [HTL.out] at ou7
                try rw [HTL.out]
                (try go_wp2_with fail)
                refine hKK.out _ _ (bu0.trans (Below.mono (bu7') bu0.size)) (fun _ => ?_)
                clear hKK KK
                try simp only [Act.put, List.setIfInBounds_toArray, List.set_cons_zero, List.set_cons_succ]
                refine wpAnyH_name (fun u7 hu7 => ?_)
                have bu7 : Below w.heap.size w u7 := by rw [hu7.out]; exact (bu0.trans (Below.mono (bu7') bu0.size))
                have OX1 : Hid (Ow u7 u0.heap.size (.slice ta n tc) X) := by unfold Hid; rw [hu7.out]; exact ou7
                have BU : Hid (w.heap.size ≤ u0.heap.size) := Below.size bu0
                have G1 : Hid (u7.heap[w.heap.size]? = some (.cells zop 46 (0, 0))) := by unfold Hid; rw [hu7.out]; exact (bu7'.block _ LG0.out).trans G0.out
                clear ou7
                refine wpAnyH_take (i := 4) (oi := { dst := some 35, op := Op.build 46 #[(3, Operand.tmp 34)], type := 46, pos := "delta.go:213", after := #[{ on := 3, ground := Ground.data }], guard := none }) (v := ?vr8) rfl (by kernel_rfl) (by kernel_rfl) (by kernel_rfl) (fun _ _ _ h => h) (Or.inl ⟨by rfl, ?yr8⟩) bu7 ?rr8
                case yr8 => (intro w hSw; go_simp; try with_reducible rfl)
                try simp only [Act.put, List.setIfInBounds_toArray, List.set_cons_zero, List.set_cons_succ]
                refine wpAnyH_ready (rs := [8]) (by kernel_rfl) (by simp) ?_
                refine AllReadyH.cons (o := { dst := none, op := Op.store 46 (Operand.tmp 2) (Operand.tmp 35), type := 0, pos := "delta.go:213", after := #[{ on := 4, ground := Ground.data }, { on := 3, ground := Ground.chain }, { on := 0, ground := Ground.phase }, { on := 1, ground := Ground.phase }, { on := 2, ground := Ground.phase }, { on := 3, ground := Ground.phase }, { on := 4, ground := Ground.phase }, { on := 5, ground := Ground.textOnly Departure.lateStores }, { on := 6, ground := Ground.textOnly Departure.lateStores }, { on := 7, ground := Ground.textOnly Departure.lateStoresUnsure }], guard := none }) rfl (fun KK hKK => ?_) ?_
                · have fu9 : ∀ i, u7.frozen? ⟨w.heap.size, i, none⟩ = false := fun i => frozen_of_row _ _ _ _ _ G1.out
                  obtain ⟨d0, d1, d2, d3⟩ := cell4 G1.out
                  go_simp
                  try rw [st4_eq]
                  refine hKK.out _ _ (Below.trans bu7 (st4_below _ _ _ _ _ _ _ (Nat.le_refl _))) (fun _ => ?_)
                  clear hKK KK
                  try simp only [Act.put]
                  refine wpAnyH_name (fun u9 hu9 => ?_)
                  have bu9 : Below w.heap.size w u9 := by rw [hu9.out]; exact (Below.trans bu7 (st4_below _ _ _ _ _ _ _ (Nat.le_refl _)))
                  have GZ := st4_block u7 w.heap.size (.bool false) (.int .i64 0) (.int .i64 0) (.slice ta n tc) G1.out
                  have OZ : Hid (Ow u9 w.heap.size (.slice ta n tc) X) := by unfold Hid; rw [hu9.out]; exact ow_off (Ow.mono OX1.out BU.out) (fun k hk => st4_other _ _ _ _ _ _ k hk) G1.out (by decide)
                  rw [← hu9.out] at GZ
                  refine wpAnyH_take (i := 9) (oi := { dst := some 3, op := Op.assign (Operand.tmp 38), type := 26, pos := "delta.go:213", after := #[{ on := 7, ground := Ground.data }, { on := 8, ground := Ground.chain }, { on := 0, ground := Ground.phase }, { on := 1, ground := Ground.phase }, { on := 2, ground := Ground.phase }, { on := 3, ground := Ground.phase }, { on := 4, ground := Ground.phase }, { on := 5, ground := Ground.phase }, { on := 6, ground := Ground.phase }, { on := 7, ground := Ground.phase }, { on := 8, ground := Ground.phase }], guard := none }) (v := ?vr10) rfl (by kernel_rfl) (by kernel_rfl) (by kernel_rfl) (fun _ _ _ h => h) (Or.inl ⟨by rfl, ?yr10⟩) bu9 ?rr10
                  case yr10 => (intro w hSw; go_simp; try with_reducible rfl)
                  try simp only [Act.put, List.setIfInBounds_toArray, List.set_cons_zero, List.set_cons_succ]
                  refine wpAnyH_take (i := 10) (oi := { dst := some 4, op := Op.assign (Operand.const (Value.bool true)), type := 4, pos := "delta.go:213", after := #[{ on := 9, ground := Ground.chain }, { on := 0, ground := Ground.phase }, { on := 1, ground := Ground.phase }, { on := 2, ground := Ground.phase }, { on := 3, ground := Ground.phase }, { on := 4, ground := Ground.phase }, { on := 5, ground := Ground.phase }, { on := 6, ground := Ground.phase }, { on := 7, ground := Ground.phase }, { on := 8, ground := Ground.phase }, { on := 9, ground := Ground.phase }], guard := none }) (v := ?vr11) rfl (by kernel_rfl) (by kernel_rfl) (by kernel_rfl) (fun _ _ _ h => h) (Or.inl ⟨by rfl, ?yr11⟩) bu9 ?rr11
                  case yr11 => (intro w hSw; go_simp; try with_reducible rfl)
                  try simp only [Act.put, List.setIfInBounds_toArray, List.set_cons_zero, List.set_cons_succ]
                  refine wpAnyH_done (by kernel_rfl) ?_ _
                  have BZ : Hid (Below w.heap.size w u9) := bu9
                  have SZ : Hid (SlX u9 (.slice (some ⟨xb, xo, none⟩) 0 0) (b.drop (u + n))) := HSV.out _ bu9
                  obtain ⟨y0, y1, y2, y3⟩ := cell4 GZ
                  clear GZ HSV CC
                  go_wp2
                  refine bodyPost_ret (v := .tuple #[.agg #[.bool false, .int .i64 0, .int .i64 0, .slice ta n tc], (.slice (some ⟨xb, xo, none⟩) 0 0), .bool true]) ?h rfl ?_
                  case h => simp [results, Tryd.results40, go_sem, y0, y1, y2, y3]
                  rw [HR.out]
                  refine ⟨BZ.out, ta, tc, _, ?_, ?_, SZ.out, (show some xb = _ from HO1.out 0 0 _ _)⟩
                  · simp only [HTL.out]
                  · simp only [HTL.out]; exact OZ.out
                exact AllReadyH.nil
              exact AllReadyH.nil
            · rw [if_neg hcn] at HSV
              try simp only at HSV
              refine wp_region_held_drew (S := From w) (by kernel_rfl) (Below.drew (BW1.out)) (fun _ => ?_)
              refine wpAnyH_name (fun u0 hu0 => ?_)
              have bu0 : Below w.heap.size w u0 := by rw [hu0.out]; exact Below.drew (BW1.out)
              have G0 : Hid (u0.heap[w.heap.size]? = some (.cells zop 46 (0, 0))) := by unfold Hid; rw [hu0.out]; exact GG1.out
              have LG0 : Hid (w.heap.size < u0.heap.size) := by unfold Hid; rw [hu0.out]; exact LG1.out
              refine wpAnyH_take (i := 0) (oi := { dst := some 31, op := Op.move (Operand.tmp 0), type := 26, pos := "delta.go:213", after := #[], guard := none }) (v := ?vs1) rfl (by kernel_rfl) (by kernel_rfl) (by kernel_rfl) (fun _ _ _ h => h) (Or.inl ⟨by rfl, ?ys1⟩) bu0 ?rs1
              case ys1 => (intro w hSw; go_simp; try with_reducible rfl)
              try simp only [Act.put, List.setIfInBounds_toArray, List.set_cons_zero, List.set_cons_succ]
              refine wpAnyH_take (i := 1) (oi := { dst := some 32, op := Op.move (Operand.tmp 5), type := 3, pos := "delta.go:213", after := #[], guard := none }) (v := ?vs2) rfl (by kernel_rfl) (by kernel_rfl) (by kernel_rfl) (fun _ _ _ h => h) (Or.inl ⟨by rfl, ?ys2⟩) bu0 ?rs2
              case ys2 => (intro w hSw; go_simp; try with_reducible rfl)
              try simp only [Act.put, List.setIfInBounds_toArray, List.set_cons_zero, List.set_cons_succ]
              refine wpAnyH_take (i := 2) (oi := { dst := some 33, op := Op.slice 26 (Operand.tmp 31) none (some (Operand.tmp 32)) none, type := 26, pos := "delta.go:213", after := #[{ on := 0, ground := Ground.data }, { on := 1, ground := Ground.data }], guard := none }) (v := ?vs3) rfl (by kernel_rfl) (by kernel_rfl) (by kernel_rfl) (fun _ _ _ h => h) (Or.inl ⟨by rfl, ?ys3⟩) bu0 ?rs3
              case ys3 => (intro w hSw; go_simp; try with_reducible rfl)
              try simp only [Act.put, List.setIfInBounds_toArray, List.set_cons_zero, List.set_cons_succ]
              refine wpAnyH_take (i := 5) (oi := { dst := some 36, op := Op.move (Operand.tmp 0), type := 26, pos := "delta.go:213", after := #[], guard := none }) (v := ?vs4) rfl (by kernel_rfl) (by kernel_rfl) (by kernel_rfl) (fun _ _ _ h => h) (Or.inl ⟨by rfl, ?ys4⟩) bu0 ?rs4
              case ys4 => (intro w hSw; go_simp; try with_reducible rfl)
              try simp only [Act.put, List.setIfInBounds_toArray, List.set_cons_zero, List.set_cons_succ]
              refine wpAnyH_take (i := 6) (oi := { dst := some 37, op := Op.move (Operand.tmp 5), type := 3, pos := "delta.go:213", after := #[], guard := none }) (v := ?vs5) rfl (by kernel_rfl) (by kernel_rfl) (by kernel_rfl) (fun _ _ _ h => h) (Or.inl ⟨by rfl, ?ys5⟩) bu0 ?rs5
              case ys5 => (intro w hSw; go_simp; try with_reducible rfl)
              try simp only [Act.put, List.setIfInBounds_toArray, List.set_cons_zero, List.set_cons_succ]
              refine wpAnyH_take (i := 7) (oi := { dst := some 38, op := Op.slice 26 (Operand.tmp 36) (some (Operand.tmp 37)) none none, type := 26, pos := "delta.go:213", after := #[{ on := 5, ground := Ground.data }, { on := 6, ground := Ground.data }], guard := none }) (v := ?vs6) rfl (by kernel_rfl) (by kernel_rfl) (by kernel_rfl) (fun _ _ _ h => h) (Or.inl ⟨by rfl, ?ys6⟩) bu0 ?rs6
              case ys6 => (intro w hSw; go_simp; try with_reducible rfl)
              try simp only [Act.put, List.setIfInBounds_toArray, List.set_cons_zero, List.set_cons_succ]
              refine wpAnyH_ready (rs := [3]) (by kernel_rfl) (by simp) ?_
              refine AllReadyH.cons (o := { dst := some 34, op := Op.call { callee := Callee.value (Operand.func 18), args := #[Operand.tmp 33], argTypes := #[26] }, type := 26, pos := "delta.go:213", after := #[{ on := 2, ground := Ground.data }], guard := none }) rfl (fun KK hKK => ?_) ?_
              · go_simp
                refine (CC.out _ bu0).mono ?_
                rintro e u7' ⟨vu7, rfl, ou7, bu7'⟩
                obtain ⟨ta, tc, rfl⟩ := Ow.shape ou7
                rw [HTL.out] at ou7
                try rw [HTL.out]
                (try go_wp2_with fail)
                refine hKK.out _ _ (bu0.trans (Below.mono (bu7') bu0.size)) (fun _ => ?_)
                clear hKK KK
                try simp only [Act.put, List.setIfInBounds_toArray, List.set_cons_zero, List.set_cons_succ]
                refine wpAnyH_name (fun u7 hu7 => ?_)
                have bu7 : Below w.heap.size w u7 := by rw [hu7.out]; exact (bu0.trans (Below.mono (bu7') bu0.size))
                have OX1 : Hid (Ow u7 u0.heap.size (.slice ta n tc) X) := by unfold Hid; rw [hu7.out]; exact ou7
                have BU : Hid (w.heap.size ≤ u0.heap.size) := Below.size bu0
                have G1 : Hid (u7.heap[w.heap.size]? = some (.cells zop 46 (0, 0))) := by unfold Hid; rw [hu7.out]; exact (bu7'.block _ LG0.out).trans G0.out
                clear ou7
                refine wpAnyH_take (i := 4) (oi := { dst := some 35, op := Op.build 46 #[(3, Operand.tmp 34)], type := 46, pos := "delta.go:213", after := #[{ on := 3, ground := Ground.data }], guard := none }) (v := ?vs8) rfl (by kernel_rfl) (by kernel_rfl) (by kernel_rfl) (fun _ _ _ h => h) (Or.inl ⟨by rfl, ?ys8⟩) bu7 ?rs8
                case ys8 => (intro w hSw; go_simp; try with_reducible rfl)
                try simp only [Act.put, List.setIfInBounds_toArray, List.set_cons_zero, List.set_cons_succ]
                refine wpAnyH_ready (rs := [8]) (by kernel_rfl) (by simp) ?_
                refine AllReadyH.cons (o := { dst := none, op := Op.store 46 (Operand.tmp 2) (Operand.tmp 35), type := 0, pos := "delta.go:213", after := #[{ on := 4, ground := Ground.data }, { on := 3, ground := Ground.chain }, { on := 0, ground := Ground.phase }, { on := 1, ground := Ground.phase }, { on := 2, ground := Ground.phase }, { on := 3, ground := Ground.phase }, { on := 4, ground := Ground.phase }, { on := 5, ground := Ground.textOnly Departure.lateStores }, { on := 6, ground := Ground.textOnly Departure.lateStores }, { on := 7, ground := Ground.textOnly Departure.lateStoresUnsure }], guard := none }) rfl (fun KK hKK => ?_) ?_
                · have fu9 : ∀ i, u7.frozen? ⟨w.heap.size, i, none⟩ = false := fun i => frozen_of_row _ _ _ _ _ G1.out
                  obtain ⟨d0, d1, d2, d3⟩ := cell4 G1.out
                  go_simp
                  try rw [st4_eq]
                  refine hKK.out _ _ (Below.trans bu7 (st4_below _ _ _ _ _ _ _ (Nat.le_refl _))) (fun _ => ?_)
                  clear hKK KK
                  try simp only [Act.put]
                  refine wpAnyH_name (fun u9 hu9 => ?_)
                  have bu9 : Below w.heap.size w u9 := by rw [hu9.out]; exact (Below.trans bu7 (st4_below _ _ _ _ _ _ _ (Nat.le_refl _)))
                  have GZ := st4_block u7 w.heap.size (.bool false) (.int .i64 0) (.int .i64 0) (.slice ta n tc) G1.out
                  have OZ : Hid (Ow u9 w.heap.size (.slice ta n tc) X) := by unfold Hid; rw [hu9.out]; exact ow_off (Ow.mono OX1.out BU.out) (fun k hk => st4_other _ _ _ _ _ _ k hk) G1.out (by decide)
                  rw [← hu9.out] at GZ
                  refine wpAnyH_take (i := 9) (oi := { dst := some 3, op := Op.assign (Operand.tmp 38), type := 26, pos := "delta.go:213", after := #[{ on := 7, ground := Ground.data }, { on := 8, ground := Ground.chain }, { on := 0, ground := Ground.phase }, { on := 1, ground := Ground.phase }, { on := 2, ground := Ground.phase }, { on := 3, ground := Ground.phase }, { on := 4, ground := Ground.phase }, { on := 5, ground := Ground.phase }, { on := 6, ground := Ground.phase }, { on := 7, ground := Ground.phase }, { on := 8, ground := Ground.phase }], guard := none }) (v := ?vs10) rfl (by kernel_rfl) (by kernel_rfl) (by kernel_rfl) (fun _ _ _ h => h) (Or.inl ⟨by rfl, ?ys10⟩) bu9 ?rs10
                  case ys10 => (intro w hSw; go_simp; try with_reducible rfl)
                  try simp only [Act.put, List.setIfInBounds_toArray, List.set_cons_zero, List.set_cons_succ]
                  refine wpAnyH_take (i := 10) (oi := { dst := some 4, op := Op.assign (Operand.const (Value.bool true)), type := 4, pos := "delta.go:213", after := #[{ on := 9, ground := Ground.chain }, { on := 0, ground := Ground.phase }, { on := 1, ground := Ground.phase }, { on := 2, ground := Ground.phase }, { on := 3, ground := Ground.phase }, { on := 4, ground := Ground.phase }, { on := 5, ground := Ground.phase }, { on := 6, ground := Ground.phase }, { on := 7, ground := Ground.phase }, { on := 8, ground := Ground.phase }, { on := 9, ground := Ground.phase }], guard := none }) (v := ?vs11) rfl (by kernel_rfl) (by kernel_rfl) (by kernel_rfl) (fun _ _ _ h => h) (Or.inl ⟨by rfl, ?ys11⟩) bu9 ?rs11
                  case ys11 => (intro w hSw; go_simp; try with_reducible rfl)
                  try simp only [Act.put, List.setIfInBounds_toArray, List.set_cons_zero, List.set_cons_succ]
                  refine wpAnyH_done (by kernel_rfl) ?_ _
                  have BZ : Hid (Below w.heap.size w u9) := bu9
                  have SZ : Hid (SlX u9 (.slice (some ⟨xb, xo + n, none⟩) (L2 - n) (c1 - n)) (b.drop (u + n))) := HSV.out _ bu9
                  obtain ⟨y0, y1, y2, y3⟩ := cell4 GZ
                  clear GZ HSV CC
                  go_wp2
                  refine bodyPost_ret (v := .tuple #[.agg #[.bool false, .int .i64 0, .int .i64 0, .slice ta n tc], (.slice (some ⟨xb, xo + n, none⟩) (L2 - n) (c1 - n)), .bool true]) ?h rfl ?_
                  case h => simp [results, Tryd.results40, go_sem, y0, y1, y2, y3]
                  rw [HR.out]
                  refine ⟨BZ.out, ta, tc, _, ?_, ?_, SZ.out, (show some xb = _ from HO1.out 0 0 _ _)⟩
                  · simp only [HTL.out]
                  · simp only [HTL.out]; exact OZ.out
                exact AllReadyH.nil
              exact AllReadyH.nil
    · rw [if_neg e0] at hR
      have CN := number_bad _ b W0 h0 t0 e3 e0
      have HR : Hid (datA b = .bad (nE b)) := hR
      clear h ht h0 t0 hR e3 e0 b0 g0 l0 hac hLc hcm
      generalize datA b = R at *
      generalize nE b = k at *
      generalize b.length = L at *
      go_enter Tryd.func40, Tryd.ntmps40
      go_wp2_with fail
      rw [← hW0]
      clear hW0
      refine CN.mono ?_
      rintro e w1 ⟨rfl, hq⟩
      replace hq := hq.symm
      subst hq
      clear CN
      go_wp2
      refine ⟨rfl, ?_⟩
      rw [HR.out]
      exact ⟨B0.out, rfl⟩
set_option maxHeartbeats 4000000 in
theorem opA_any (v : Value) (b : List Int) (old : Int) (w : World) (h : SlX w v b) (ht : Fi.Wid w) (ho : old ≤ 9223372036854775807) :
    Calls Tryd.prog 35 #[v, .int .i64 old] w fun e w' => TP (opA old b) v b w e w' := by
  obtain ⟨W0, hW0⟩ : ∃ W0, W0 = w.alloc (.cells zop 46) := ⟨_, rfl⟩
  have b0 : Below w.heap.size w W0 := by rw [hW0]; exact al_below _ _
  have g0 : W0.heap[w.heap.size]? = some (.cells zop 46 (0, 0)) := by rw [hW0]; exact heap_alloc_new _ _
  have l0 : w.heap.size < W0.heap.size := by rw [hW0]; simp
  have h0 := h.kept b0
  have t0 := Wid.kept ht b0
  have B0 : Hid (Below w.heap.size w W0) := b0
  have HD : Hid (∀ W, Below W0.heap.size W0 W → W.cell? ⟨w.heap.size, 0, none⟩ = some (.bool false) ∧ W.cell? ⟨w.heap.size, 1, none⟩ = some (.int .i64 0) ∧ W.cell? ⟨w.heap.size, 2, none⟩ = some (.int .i64 0) ∧ W.cell? ⟨w.heap.size, 3, none⟩ = some (.slice none 0 0) ∧ W.heap[w.heap.size]? = some (.cells zop 46 (0, 0))) := fun W hb => by
    have g2 := (hb.block _ l0).trans g0
    exact ⟨by rw [cell_of_row _ _ _ _ _ _ g2]; rfl, by rw [cell_of_row _ _ _ _ _ _ g2]; rfl, by rw [cell_of_row _ _ _ _ _ _ g2]; rfl, by rw [cell_of_row _ _ _ _ _ _ g2]; rfl, g2⟩
  cases b with
  | nil =>
    obtain ⟨a, c, rfl, -⟩ := id h.1
    have HR : Hid (opA old [] = .wait) := rfl
    clear h ht h0 t0 b0 g0 l0
    generalize opA old [] = R at *
    simp only [List.length_nil]
    go_enter Tryd.func35, Tryd.ntmps35
    obtain ⟨d0, d1, d2, d3, gg⟩ := HD.out W0 (Below.refl _ _)
    have f0 : ∀ i, W0.frozen? ⟨w.heap.size, i, none⟩ = false := fun i => frozen_of_row _ _ _ _ _ gg
    have GG : Hid (W0.heap[w.heap.size]? = some (.cells zop 46 (0, 0))) := gg
    have hw0 := hW0.symm
    clear gg hW0
    go_wp2
    rw [st4_eq]
    have BZ : Hid (Below w.heap.size w (st4 W0 w.heap.size (.bool false) (.int .i64 0) (.int .i64 0) (.slice none 0 0))) := B0.out.trans (st4_below _ _ _ _ _ _ _ (Nat.le_refl _))
    have gz := st4_block W0 w.heap.size (.bool false) (.int .i64 0) (.int .i64 0) (.slice none 0 0) GG.out
    obtain ⟨z0, z1, z2, z3⟩ := cell4 gz
    generalize st4 W0 w.heap.size (.bool false) (.int .i64 0) (.int .i64 0) (.slice none 0 0) = WZ at *
    refine bodyPost_ret (v := .tuple #[.agg #[.bool false, .int .i64 0, .int .i64 0, .slice none 0 0], .slice none 0 0, .bool false]) ?h rfl ?_
    case h => simp [results, Tryd.results35, go_sem, z0, z1, z2, z3]
    rw [HR.out]
    exact ⟨BZ.out, rfl⟩
  | cons x0 r =>
    obtain ⟨a, c, rfl, -⟩ := id h.1
    obtain ⟨-, hLc, hcm, hac⟩ := h.facts
    rw [List.length_cons] at hLc h h0 ⊢
    obtain ⟨y, rfl⟩ : ∃ y, a = some y := by
      cases a with
      | none => have := hac rfl; omega
      | some y => exact ⟨y, rfl⟩
    obtain ⟨xb, xo, sp⟩ := y
    obtain rfl : sp = none := h.2 _ _ _ rfl (by omega)
    have hx0 := h.1.bytes 0
    simp only [List.getD_cons_zero] at hx0
    have k0 : W0.cell? ⟨xb, xo, none⟩ = some (.int .u8 x0) := by
      obtain ⟨_, _, e, -, -, -, q⟩ := h0.1
      cases e
      rcases q with q | ⟨-, bb, off, e, -, -, hc, -⟩
      · simp at q
      · cases e
        have := hc 0 (by simp)
        simpa using this
    have hd := h0.drop 1 (by omega)
    rw [List.drop_one, List.tail_cons] at hd
    have HDR : Hid (∀ k, (x0 :: r).drop (1 + k) = r.drop k) := fun k => by rw [Nat.add_comm]; rfl
    have HR00 : Hid (opA old (x0 :: r) = if x0 = 0 then (datA r).on 1 else if x0 = 1 then (copA old r).on 1 else .bad 4) := opA_cons old x0 r
    have HCW : Hid (∀ v, SlX W0 v r → Calls Tryd.prog 41 #[v, .int .i64 old] W0 fun e w' => TP (copA old r) v r W0 e w') := fun v hv => copyA_any v r old W0 hv t0 ho
    have HDW : Hid (∀ v, SlX W0 v r → Calls Tryd.prog 40 #[v] W0 fun e w' => TP (datA r) v r W0 e w') := fun v hv => dataA_any v r W0 hv t0
    have L0 : (1 : Int) ≤ (c : Int) := by omega
    have L1 : ((r.length + 1 : Nat) : Int) ≤ (c : Int) := by omega
    have HL1 : Hid (r.length + 1 - 1 = r.length) := by unfold Hid; omega
    clear h ht h0 t0 b0 g0 l0 hac hcm ho
    generalize opA old (x0 :: r) = R at *
    generalize hrl : r.length = L at *
    clear hrl
    have n0 : ¬ ((L + 1 : Nat) : Int) = 0 := by omega
    have n2 : (0 : Int) < ((L + 1 : Nat) : Int) := by omega
    unfold cuv at hd
    by_cases hc : c = 1
    · rw [if_pos hc] at hd
      have hc' : 1 = c := hc.symm
      subst hc'
      obtain rfl : L = 0 := by omega
      have HSD : Hid (SlX W0 (.slice (some ⟨xb, xo, none⟩) 0 0) r) := hd
      clear hd hc
      by_cases x1 : x0 = 0
      · subst x1
        have HR0 : Hid (R = (datA r).on 1) := by unfold Hid; rw [HR00.out, if_pos rfl]
        clear HR00
        have CN := HDW.out _ HSD.out
        generalize datA r = t at *
        go_enter Tryd.func35, Tryd.ntmps35
        have hk := k0
        rw [hW0] at hk
        go_wp2_with fail
        rw [← hW0]
        clear hW0
        refine CN.mono ?_
        rintro e w1 ⟨b1, hp⟩
        clear CN
        have B1 : Hid (Below W0.heap.size W0 w1) := b1
        have BW1 : Hid (Below w.heap.size w w1) := B0.out.trans (b1.mono B0.out.size)
        clear b1
        obtain ⟨d0, d1, d2, d3, gg⟩ := HD.out w1 B1.out
        have f0 : ∀ i, w1.frozen? ⟨w.heap.size, i, none⟩ = false := fun i => frozen_of_row _ _ _ _ _ gg
        have GG : Hid (w1.heap[w.heap.size]? = some (.cells zop 46 (0, 0))) := gg
        clear gg
        cases t with
        | wait =>
          simp only at hp
          subst hp
          have HR : Hid (R = .wait) := HR0.out
          clear HR0
          go_wp2
          rw [st4_eq]
          have BZ : Hid (Below w.heap.size w (st4 w1 w.heap.size (.bool false) (.int .i64 0) (.int .i64 0) (.slice none 0 0))) := BW1.out.trans (st4_below _ _ _ _ _ _ _ (Nat.le_refl _))
          have gz := st4_block w1 w.heap.size (.bool false) (.int .i64 0) (.int .i64 0) (.slice none 0 0) GG.out
          obtain ⟨z0, z1, z2, z3⟩ := cell4 gz
          generalize st4 w1 w.heap.size (.bool false) (.int .i64 0) (.int .i64 0) (.slice none 0 0) = WZ at *
          refine bodyPost_ret (v := .tuple #[.agg #[.bool false, .int .i64 0, .int .i64 0, .slice none 0 0], .slice none 0 0, .bool false]) ?h rfl ?_
          case h => simp [results, Tryd.results35, go_sem, z0, z1, z2, z3]
          rw [HR.out]
          exact ⟨BZ.out, rfl⟩
        | bad k =>
          simp only at hp
          subst hp
          have HR : Hid (R = .bad k) := HR0.out
          clear HR0
          go_wp2
          refine ⟨rfl, ?_⟩
          rw [HR.out]
          exact ⟨BW1.out, rfl⟩
        | op x k =>
          simp only at hp
          obtain ⟨ua, uc, v1, rfl, ow1, sx1, ob1⟩ := hp
          have HR : Hid (R = .op x (1 + k)) := HR0.out
          have O1 : Hid (Ow w1 w.heap.size (.slice ua x.d.length uc) x.d) := ow1.mono B0.out.size
          have S1 : Hid (SlX w1 v1 (r.drop k)) := sx1
          have OB1 : Hid (v1.ownBlock = some xb) := ob1
          obtain ⟨va, vc, rfl, -⟩ := id sx1.1
          clear ow1 sx1 HR0 ob1
          obtain ⟨nv, hnv⟩ : ∃ nv, nv = (r.drop k).length := ⟨_, rfl⟩
          rw [← hnv] at S1 OB1 ⊢
          obtain ⟨nd, hnd⟩ : ∃ nd, nd = x.d.length := ⟨_, rfl⟩
          have HND : Hid (nd = x.d.length) := hnd
          rw [← hnd] at O1 ⊢
          clear hnv hnd
          go_wp2
          rw [st4_eq]
          have gz := st4_block w1 w.heap.size (.bool x.c) (.int .i64 x.a) (.int .i64 x.n) (.slice ua nd uc) GG.out
          have BZ : Hid (Below w.heap.size w (st4 w1 w.heap.size (.bool x.c) (.int .i64 x.a) (.int .i64 x.n) (.slice ua nd uc))) := BW1.out.trans (st4_below _ _ _ _ _ _ _ (Nat.le_refl _))
          have OZ : Hid (Ow (st4 w1 w.heap.size (.bool x.c) (.int .i64 x.a) (.int .i64 x.n) (.slice ua nd uc)) w.heap.size (.slice ua nd uc) x.d) := ow_off O1.out (fun k hk => st4_other _ _ _ _ _ _ k hk) GG.out (by decide)
          have SZ : Hid (SlX (st4 w1 w.heap.size (.bool x.c) (.int .i64 x.a) (.int .i64 x.n) (.slice ua nd uc)) (.slice va nv vc) (r.drop k)) := slx_off S1.out (fun k hk => st4_other _ _ _ _ _ _ k hk) GG.out (op_u8 _ _ _ _ _ _)
          generalize st4 w1 w.heap.size (.bool x.c) (.int .i64 x.a) (.int .i64 x.n) (.slice ua nd uc) = WZ at *
          clear d0 d1 d2 d3 f0
          obtain ⟨z0, z1, z2, z3⟩ := cell4 gz
          refine bodyPost_ret (v := .tuple #[.agg #[.bool x.c, .int .i64 x.a, .int .i64 x.n, .slice ua nd uc], .slice va nv vc, .bool true]) ?h rfl ?_
          case h => simp [results, Tryd.results35, go_sem, z0, z1, z2, z3]
          rw [HR.out]
          refine ⟨BZ.out, ua, uc, .slice va nv vc, ?_, ?_, ?_, OB1.out⟩
          · rw [← HND.out]
          · rw [← HND.out]; exact OZ.out
          · rw [HDR.out]; exact SZ.out
      · by_cases x2 : x0 = 1
        · subst x2
          have HR0 : Hid (R = (copA old r).on 1) := by unfold Hid; rw [HR00.out, if_neg x1, if_pos rfl]
          clear HR00 x1
          have CN := HCW.out _ HSD.out
          generalize copA old r = t at *
          go_enter Tryd.func35, Tryd.ntmps35
          have hk := k0
          rw [hW0] at hk
          go_wp2_with fail
          rw [← hW0]
          clear hW0
          refine CN.mono ?_
          rintro e w1 ⟨b1, hp⟩
          clear CN
          have B1 : Hid (Below W0.heap.size W0 w1) := b1
          have BW1 : Hid (Below w.heap.size w w1) := B0.out.trans (b1.mono B0.out.size)
          clear b1
          obtain ⟨d0, d1, d2, d3, gg⟩ := HD.out w1 B1.out
          have f0 : ∀ i, w1.frozen? ⟨w.heap.size, i, none⟩ = false := fun i => frozen_of_row _ _ _ _ _ gg
          have GG : Hid (w1.heap[w.heap.size]? = some (.cells zop 46 (0, 0))) := gg
          clear gg
          cases t with
          | wait =>
            simp only at hp
            subst hp
            have HR : Hid (R = .wait) := HR0.out
            clear HR0
            go_wp2
            rw [st4_eq]
            have BZ : Hid (Below w.heap.size w (st4 w1 w.heap.size (.bool false) (.int .i64 0) (.int .i64 0) (.slice none 0 0))) := BW1.out.trans (st4_below _ _ _ _ _ _ _ (Nat.le_refl _))
            have gz := st4_block w1 w.heap.size (.bool false) (.int .i64 0) (.int .i64 0) (.slice none 0 0) GG.out
            obtain ⟨z0, z1, z2, z3⟩ := cell4 gz
            generalize st4 w1 w.heap.size (.bool false) (.int .i64 0) (.int .i64 0) (.slice none 0 0) = WZ at *
            refine bodyPost_ret (v := .tuple #[.agg #[.bool false, .int .i64 0, .int .i64 0, .slice none 0 0], .slice none 0 0, .bool false]) ?h rfl ?_
            case h => simp [results, Tryd.results35, go_sem, z0, z1, z2, z3]
            rw [HR.out]
            exact ⟨BZ.out, rfl⟩
          | bad k =>
            simp only at hp
            subst hp
            have HR : Hid (R = .bad k) := HR0.out
            clear HR0
            go_wp2
            refine ⟨rfl, ?_⟩
            rw [HR.out]
            exact ⟨BW1.out, rfl⟩
          | op x k =>
            simp only at hp
            obtain ⟨ua, uc, v1, rfl, ow1, sx1, ob1⟩ := hp
            have HR : Hid (R = .op x (1 + k)) := HR0.out
            have O1 : Hid (Ow w1 w.heap.size (.slice ua x.d.length uc) x.d) := ow1.mono B0.out.size
            have S1 : Hid (SlX w1 v1 (r.drop k)) := sx1
            have OB1 : Hid (v1.ownBlock = some xb) := ob1
            obtain ⟨va, vc, rfl, -⟩ := id sx1.1
            clear ow1 sx1 HR0 ob1
            obtain ⟨nv, hnv⟩ : ∃ nv, nv = (r.drop k).length := ⟨_, rfl⟩
            rw [← hnv] at S1 OB1 ⊢
            obtain ⟨nd, hnd⟩ : ∃ nd, nd = x.d.length := ⟨_, rfl⟩
            have HND : Hid (nd = x.d.length) := hnd
            rw [← hnd] at O1 ⊢
            clear hnv hnd
            go_wp2
            rw [st4_eq]
            have gz := st4_block w1 w.heap.size (.bool x.c) (.int .i64 x.a) (.int .i64 x.n) (.slice ua nd uc) GG.out
            have BZ : Hid (Below w.heap.size w (st4 w1 w.heap.size (.bool x.c) (.int .i64 x.a) (.int .i64 x.n) (.slice ua nd uc))) := BW1.out.trans (st4_below _ _ _ _ _ _ _ (Nat.le_refl _))
            have OZ : Hid (Ow (st4 w1 w.heap.size (.bool x.c) (.int .i64 x.a) (.int .i64 x.n) (.slice ua nd uc)) w.heap.size (.slice ua nd uc) x.d) := ow_off O1.out (fun k hk => st4_other _ _ _ _ _ _ k hk) GG.out (by decide)
            have SZ : Hid (SlX (st4 w1 w.heap.size (.bool x.c) (.int .i64 x.a) (.int .i64 x.n) (.slice ua nd uc)) (.slice va nv vc) (r.drop k)) := slx_off S1.out (fun k hk => st4_other _ _ _ _ _ _ k hk) GG.out (op_u8 _ _ _ _ _ _)
            generalize st4 w1 w.heap.size (.bool x.c) (.int .i64 x.a) (.int .i64 x.n) (.slice ua nd uc) = WZ at *
            clear d0 d1 d2 d3 f0
            obtain ⟨z0, z1, z2, z3⟩ := cell4 gz
            refine bodyPost_ret (v := .tuple #[.agg #[.bool x.c, .int .i64 x.a, .int .i64 x.n, .slice ua nd uc], .slice va nv vc, .bool true]) ?h rfl ?_
            case h => simp [results, Tryd.results35, go_sem, z0, z1, z2, z3]
            rw [HR.out]
            refine ⟨BZ.out, ua, uc, .slice va nv vc, ?_, ?_, ?_, OB1.out⟩
            · rw [← HND.out]
            · rw [← HND.out]; exact OZ.out
            · rw [HDR.out]; exact SZ.out
        · have HR : Hid (R = .bad 4) := by unfold Hid; rw [HR00.out, if_neg x1, if_neg x2]
          have y1 : (x0 == 0) = false := by simpa using x1
          have y2 : (x0 == 1) = false := by simpa using x2
          clear HR00 HDW HCW HSD
          go_enter Tryd.func35, Tryd.ntmps35
          have hw0 := hW0.symm
          clear hW0
          go_wp2
          refine ⟨rfl, ?_⟩
          rw [HR.out]
          exact ⟨B0.out, rfl⟩
    · rw [if_neg hc] at hd
      simp only [HL1.out] at hd
      have HSD : Hid (SlX W0 (.slice (some ⟨xb, xo + 1, none⟩) L (c - 1)) r) := hd
      clear hd
      by_cases x1 : x0 = 0
      · subst x1
        have HR0 : Hid (R = (datA r).on 1) := by unfold Hid; rw [HR00.out, if_pos rfl]
        clear HR00
        have CN := HDW.out _ HSD.out
        generalize datA r = t at *
        go_enter Tryd.func35, Tryd.ntmps35
        have hk := k0
        rw [hW0] at hk
        go_wp2_with fail
        rw [← hW0]
        clear hW0
        refine CN.mono ?_
        rintro e w1 ⟨b1, hp⟩
        clear CN
        have B1 : Hid (Below W0.heap.size W0 w1) := b1
        have BW1 : Hid (Below w.heap.size w w1) := B0.out.trans (b1.mono B0.out.size)
        clear b1
        obtain ⟨d0, d1, d2, d3, gg⟩ := HD.out w1 B1.out
        have f0 : ∀ i, w1.frozen? ⟨w.heap.size, i, none⟩ = false := fun i => frozen_of_row _ _ _ _ _ gg
        have GG : Hid (w1.heap[w.heap.size]? = some (.cells zop 46 (0, 0))) := gg
        clear gg
        cases t with
        | wait =>
          simp only at hp
          subst hp
          have HR : Hid (R = .wait) := HR0.out
          clear HR0
          go_wp2
          rw [st4_eq]
          have BZ : Hid (Below w.heap.size w (st4 w1 w.heap.size (.bool false) (.int .i64 0) (.int .i64 0) (.slice none 0 0))) := BW1.out.trans (st4_below _ _ _ _ _ _ _ (Nat.le_refl _))
          have gz := st4_block w1 w.heap.size (.bool false) (.int .i64 0) (.int .i64 0) (.slice none 0 0) GG.out
          obtain ⟨z0, z1, z2, z3⟩ := cell4 gz
          generalize st4 w1 w.heap.size (.bool false) (.int .i64 0) (.int .i64 0) (.slice none 0 0) = WZ at *
          refine bodyPost_ret (v := .tuple #[.agg #[.bool false, .int .i64 0, .int .i64 0, .slice none 0 0], .slice none 0 0, .bool false]) ?h rfl ?_
          case h => simp [results, Tryd.results35, go_sem, z0, z1, z2, z3]
          rw [HR.out]
          exact ⟨BZ.out, rfl⟩
        | bad k =>
          simp only at hp
          subst hp
          have HR : Hid (R = .bad k) := HR0.out
          clear HR0
          go_wp2
          refine ⟨rfl, ?_⟩
          rw [HR.out]
          exact ⟨BW1.out, rfl⟩
        | op x k =>
          simp only at hp
          obtain ⟨ua, uc, v1, rfl, ow1, sx1, ob1⟩ := hp
          have HR : Hid (R = .op x (1 + k)) := HR0.out
          have O1 : Hid (Ow w1 w.heap.size (.slice ua x.d.length uc) x.d) := ow1.mono B0.out.size
          have S1 : Hid (SlX w1 v1 (r.drop k)) := sx1
          have OB1 : Hid (v1.ownBlock = some xb) := ob1
          obtain ⟨va, vc, rfl, -⟩ := id sx1.1
          clear ow1 sx1 HR0 ob1
          obtain ⟨nv, hnv⟩ : ∃ nv, nv = (r.drop k).length := ⟨_, rfl⟩
          rw [← hnv] at S1 OB1 ⊢
          obtain ⟨nd, hnd⟩ : ∃ nd, nd = x.d.length := ⟨_, rfl⟩
          have HND : Hid (nd = x.d.length) := hnd
          rw [← hnd] at O1 ⊢
          clear hnv hnd
          go_wp2
          rw [st4_eq]
          have gz := st4_block w1 w.heap.size (.bool x.c) (.int .i64 x.a) (.int .i64 x.n) (.slice ua nd uc) GG.out
          have BZ : Hid (Below w.heap.size w (st4 w1 w.heap.size (.bool x.c) (.int .i64 x.a) (.int .i64 x.n) (.slice ua nd uc))) := BW1.out.trans (st4_below _ _ _ _ _ _ _ (Nat.le_refl _))
          have OZ : Hid (Ow (st4 w1 w.heap.size (.bool x.c) (.int .i64 x.a) (.int .i64 x.n) (.slice ua nd uc)) w.heap.size (.slice ua nd uc) x.d) := ow_off O1.out (fun k hk => st4_other _ _ _ _ _ _ k hk) GG.out (by decide)
          have SZ : Hid (SlX (st4 w1 w.heap.size (.bool x.c) (.int .i64 x.a) (.int .i64 x.n) (.slice ua nd uc)) (.slice va nv vc) (r.drop k)) := slx_off S1.out (fun k hk => st4_other _ _ _ _ _ _ k hk) GG.out (op_u8 _ _ _ _ _ _)
          generalize st4 w1 w.heap.size (.bool x.c) (.int .i64 x.a) (.int .i64 x.n) (.slice ua nd uc) = WZ at *
          clear d0 d1 d2 d3 f0
          obtain ⟨z0, z1, z2, z3⟩ := cell4 gz
          refine bodyPost_ret (v := .tuple #[.agg #[.bool x.c, .int .i64 x.a, .int .i64 x.n, .slice ua nd uc], .slice va nv vc, .bool true]) ?h rfl ?_
          case h => simp [results, Tryd.results35, go_sem, z0, z1, z2, z3]
          rw [HR.out]
          refine ⟨BZ.out, ua, uc, .slice va nv vc, ?_, ?_, ?_, OB1.out⟩
          · rw [← HND.out]
          · rw [← HND.out]; exact OZ.out
          · rw [HDR.out]; exact SZ.out
      · by_cases x2 : x0 = 1
        · subst x2
          have HR0 : Hid (R = (copA old r).on 1) := by unfold Hid; rw [HR00.out, if_neg x1, if_pos rfl]
          clear HR00 x1
          have CN := HCW.out _ HSD.out
          generalize copA old r = t at *
          go_enter Tryd.func35, Tryd.ntmps35
          have hk := k0
          rw [hW0] at hk
          go_wp2_with fail
          rw [← hW0]
          clear hW0
          refine CN.mono ?_
          rintro e w1 ⟨b1, hp⟩
          clear CN
          have B1 : Hid (Below W0.heap.size W0 w1) := b1
          have BW1 : Hid (Below w.heap.size w w1) := B0.out.trans (b1.mono B0.out.size)
          clear b1
          obtain ⟨d0, d1, d2, d3, gg⟩ := HD.out w1 B1.out
          have f0 : ∀ i, w1.frozen? ⟨w.heap.size, i, none⟩ = false := fun i => frozen_of_row _ _ _ _ _ gg
          have GG : Hid (w1.heap[w.heap.size]? = some (.cells zop 46 (0, 0))) := gg
          clear gg
          cases t with
          | wait =>
            simp only at hp
            subst hp
            have HR : Hid (R = .wait) := HR0.out
            clear HR0
            go_wp2
            rw [st4_eq]
            have BZ : Hid (Below w.heap.size w (st4 w1 w.heap.size (.bool false) (.int .i64 0) (.int .i64 0) (.slice none 0 0))) := BW1.out.trans (st4_below _ _ _ _ _ _ _ (Nat.le_refl _))
            have gz := st4_block w1 w.heap.size (.bool false) (.int .i64 0) (.int .i64 0) (.slice none 0 0) GG.out
            obtain ⟨z0, z1, z2, z3⟩ := cell4 gz
            generalize st4 w1 w.heap.size (.bool false) (.int .i64 0) (.int .i64 0) (.slice none 0 0) = WZ at *
            refine bodyPost_ret (v := .tuple #[.agg #[.bool false, .int .i64 0, .int .i64 0, .slice none 0 0], .slice none 0 0, .bool false]) ?h rfl ?_
            case h => simp [results, Tryd.results35, go_sem, z0, z1, z2, z3]
            rw [HR.out]
            exact ⟨BZ.out, rfl⟩
          | bad k =>
            simp only at hp
            subst hp
            have HR : Hid (R = .bad k) := HR0.out
            clear HR0
            go_wp2
            refine ⟨rfl, ?_⟩
            rw [HR.out]
            exact ⟨BW1.out, rfl⟩
          | op x k =>
            simp only at hp
            obtain ⟨ua, uc, v1, rfl, ow1, sx1, ob1⟩ := hp
            have HR : Hid (R = .op x (1 + k)) := HR0.out
            have O1 : Hid (Ow w1 w.heap.size (.slice ua x.d.length uc) x.d) := ow1.mono B0.out.size
            have S1 : Hid (SlX w1 v1 (r.drop k)) := sx1
            have OB1 : Hid (v1.ownBlock = some xb) := ob1
            obtain ⟨va, vc, rfl, -⟩ := id sx1.1
            clear ow1 sx1 HR0 ob1
            obtain ⟨nv, hnv⟩ : ∃ nv, nv = (r.drop k).length := ⟨_, rfl⟩
            rw [← hnv] at S1 OB1 ⊢
            obtain ⟨nd, hnd⟩ : ∃ nd, nd = x.d.length := ⟨_, rfl⟩
            have HND : Hid (nd = x.d.length) := hnd
            rw [← hnd] at O1 ⊢
            clear hnv hnd
            go_wp2
            rw [st4_eq]
            have gz := st4_block w1 w.heap.size (.bool x.c) (.int .i64 x.a) (.int .i64 x.n) (.slice ua nd uc) GG.out
            have BZ : Hid (Below w.heap.size w (st4 w1 w.heap.size (.bool x.c) (.int .i64 x.a) (.int .i64 x.n) (.slice ua nd uc))) := BW1.out.trans (st4_below _ _ _ _ _ _ _ (Nat.le_refl _))
            have OZ : Hid (Ow (st4 w1 w.heap.size (.bool x.c) (.int .i64 x.a) (.int .i64 x.n) (.slice ua nd uc)) w.heap.size (.slice ua nd uc) x.d) := ow_off O1.out (fun k hk => st4_other _ _ _ _ _ _ k hk) GG.out (by decide)
            have SZ : Hid (SlX (st4 w1 w.heap.size (.bool x.c) (.int .i64 x.a) (.int .i64 x.n) (.slice ua nd uc)) (.slice va nv vc) (r.drop k)) := slx_off S1.out (fun k hk => st4_other _ _ _ _ _ _ k hk) GG.out (op_u8 _ _ _ _ _ _)
            generalize st4 w1 w.heap.size (.bool x.c) (.int .i64 x.a) (.int .i64 x.n) (.slice ua nd uc) = WZ at *
            clear d0 d1 d2 d3 f0
            obtain ⟨z0, z1, z2, z3⟩ := cell4 gz
            refine bodyPost_ret (v := .tuple #[.agg #[.bool x.c, .int .i64 x.a, .int .i64 x.n, .slice ua nd uc], .slice va nv vc, .bool true]) ?h rfl ?_
            case h => simp [results, Tryd.results35, go_sem, z0, z1, z2, z3]
            rw [HR.out]
            refine ⟨BZ.out, ua, uc, .slice va nv vc, ?_, ?_, ?_, OB1.out⟩
            · rw [← HND.out]
            · rw [← HND.out]; exact OZ.out
            · rw [HDR.out]; exact SZ.out
        · have HR : Hid (R = .bad 4) := by unfold Hid; rw [HR00.out, if_neg x1, if_neg x2]
          have y1 : (x0 == 0) = false := by simpa using x1
          have y2 : (x0 == 1) = false := by simpa using x2
          clear HR00 HDW HCW HSD
          go_enter Tryd.func35, Tryd.ntmps35
          have hw0 := hW0.symm
          clear hW0
          go_wp2
          refine ⟨rfl, ?_⟩
          rw [HR.out]
          exact ⟨B0.out, rfl⟩
end Go.Proofs.YtfccjeepmhgckaaDoor
