/-
  What Sent answers.
-/
import Derived.Test.YtamjbmbflllbfaaLn
import Derived.Deep.RegionWith
import Derived.Deep.DeepCutAuto
namespace Go.Proofs.Ytamjbmbflllbfaa
open Go.RowKit
set_option maxRecDepth 100000

theorem infoP : (Try.prog.info? 48).map (fun i => (i.zero, i.size, i.bytes)) = some (some (.agg #[.int .i64 0, .int .i64 0, .int .i64 0, .bool false]), 4, 32) := by kernel_rfl
theorem flatP_snoc (l : List Pk) (p : Pk) : ((l ++ [p]).map Pk.c).flatten = (l.map Pk.c).flatten ++ p.c := by rw [List.map_append, List.flatten_append]; simp
theorem LB.set21 {w : World} {g : Nat} {v : Value} {s : Lg} (h : LB w g v s) (x y : Int) : LB ((w.setCell ⟨g, 2, none⟩ (.int .i64 y)).setCell ⟨g, 1, none⟩ (.int .i64 x)) g v ⟨s.o, x, y, s.g⟩ := by
  unfold LB at h ⊢
  simp only [World.setCell, Array.getElem?_modify, if_true, h]
  simp
theorem LU.drew {w w' : World} {g : Nat} {v v' : Value} (h : LU w w' g v v') : LU w w'.drew g v v' := ⟨h.os, h.tape, h.output, h.size, h.block, h.own⟩
theorem sent_nil (p : Pk) (w : World) : Calls Try.prog 19 #[.pointer none, p.v] w fun e w' => e = .returned (.int .i64 1) ∧ Below w.heap.size w w' := by
  have HB : Hid (Below w.heap.size w (w.alloc (.cells #[.int .i64 p.n, .int .i64 p.t, .int .i64 p.z, .bool p.a] 48))) := al_b _ _
  go_enter Try.func19, Try.ntmps19
  go_wp2
  go_ret
  exact ⟨rfl, HB.out⟩
set_option maxHeartbeats 4000000 in
theorem sent_any (w : World) (B g : Nat) (v : Value) (s : Lg) (p : Pk) (h : LS w B g v s) (hB : B ≤ w.heap.size) :
    Calls Try.prog 19 #[.pointer (some ⟨g, 0, none⟩), p.v] w fun e w' => e = .returned (.int .i64 (sendE s p)) ∧ ∃ v', LS w' B g v' (sendL s p) ∧ LU w w' g v v' := by
  obtain ⟨W1, hW1⟩ : ∃ W1, W1 = w.alloc (.cells #[.int .i64 p.n, .int .i64 p.t, .int .i64 p.z, .bool p.a] 48) := ⟨_, rfl⟩
  have b1 : Below w.heap.size w W1 := by rw [hW1]; exact al_b _ _
  have g1 : PB W1 w.heap.size 48 p := by rw [hW1]; exact PB.new _ _ _
  have cm := mayGo_any W1 g v s p (h.bk.kept b1)
  obtain ⟨d0, d1, d2, d3⟩ := g1.pc
  simp only [Nat.zero_add] at d0 d1 d2 d3
  have HB1 : Hid (Below w.heap.size w W1) := b1
  have HG1 : Hid (PB W1 w.heap.size 48 p) := g1
  have HLS : Hid (LS w B g v s) := h
  have HN : Hid (p = ⟨p.n, p.t, p.z, p.a⟩) := rfl
  cases hm : mgo s p
  · rw [(sendE_no hm).1, (sendE_no hm).2]
    rw [hm] at cm
    clear b1 g1 h hm
    go_enter Try.func19, Try.ntmps19
    go_upto_region 1 with fail
    rw [← hW1]
    clear hW1
    go_wp2_with fail
    refine cm.mono ?_
    rintro e w2 ⟨rfl, b2⟩
    have HB2 : Hid (Below w.heap.size w w2) := HB1.out.trans (b2.mono HB1.out.size)
    clear cm b2
    go_wp2
    go_ret
    exact ⟨rfl, v, HLS.out.below HB2.out, LU.of HB2.out⟩
  · by_cases hl : s.o.length = 1024
    · rw [(sendE_full hm hl).1, (sendE_full hm hl).2]
      rw [hm] at cm
      obtain ⟨la, lc, hv, -⟩ := h.rs.is.shape
      have hl2 : ((s.o.length : Nat) : Int) = 1024 := by omega
      subst hv
      obtain ⟨n9, hn9⟩ : ∃ n9, n9 = s.o.length := ⟨_, rfl⟩
      rw [← hn9] at hl hl2 HLS ⊢
      clear b1 g1 h hm hn9
      go_enter Try.func19, Try.ntmps19
      go_upto_region 1 with fail
      rw [← hW1]
      clear hW1
      go_wp2_with fail
      refine cm.mono ?_
      rintro e w2 ⟨rfl, b2⟩
      have HB2 : Hid (Below w.heap.size w w2) := HB1.out.trans (b2.mono HB1.out.size)
      have k0 := (HLS.out.bk.kept HB2.out).lc.c0
      have t1 : ((n9 : Int) == 1024) = true := by rw [hl2]; rfl
      clear cm b2 hl2 hl
      go_wp2
      go_ret
      exact ⟨rfl, _, HLS.out.below HB2.out, LU.of HB2.out⟩
    · rw [(sendE_yes hm hl).1, (sendE_yes hm hl).2]
      have HOK : Hid (Lg.ok ⟨s.o ++ [p], p.n, p.t, s.g⟩) := send_ok h.ok hm hl
      rw [hm] at cm
      obtain ⟨la, lc, hv, -⟩ := h.rs.is.shape
      have HLN : Hid (s.o.length ≤ 1024) := h.ok.ln
      have t1 : (((s.o.length : Nat) : Int) == 1024) = false := by simp; omega
      subst hv
      clear b1 g1 h hm
      obtain ⟨i0, hi, hz0, hz1, hz2⟩ := info_parts infoP
      obtain ⟨n9, hn9⟩ : ∃ n9, n9 = s.o.length := ⟨_, rfl⟩
      have HN9 : Hid (n9 = s.o.length) := hn9
      rw [← hn9] at t1 hl HLN HLS ⊢
      clear hn9 hl
      obtain ⟨hp, hhp⟩ : ∃ hp, hp = w.heap.size := ⟨_, rfl⟩
      have HHP : Hid (hp = w.heap.size) := hhp
      have HBB : Hid (B ≤ hp) := by rw [hhp]; exact hB
      rw [← hhp] at d0 d1 d2 d3 HG1
      clear hB
      go_enter Try.func19, Try.ntmps19
      go_upto_region 1 with fail
      rw [← hW1, ← hhp]
      clear hW1 hhp
      go_wp2_with fail
      refine cm.mono ?_
      rintro e w2 ⟨rfl, b2⟩
      have HB12 : Hid (Below W1.heap.size W1 w2) := b2
      have HB2 : Hid (Below w.heap.size w w2) := HB1.out.trans (b2.mono HB1.out.size)
      have k0 := (HLS.out.bk.kept HB2.out).lc.c0
      have HD : Hid (∀ W, Below w2.heap.size w2 W → LC W g (.slice la n9 lc) s ∧ RP 48 W B (.slice la n9 lc) s.o ∧ PC W hp 0 p ∧ PB W hp 48 p ∧ Below w.heap.size w W) := fun W hb => by
        have hb2 := HB2.out.trans (hb.mono HB2.out.size)
        have hpb := (HG1.out.kept HB12.out).kept hb
        exact ⟨(HLS.out.bk.kept hb2).lc, HLS.out.rs.below hb2, hpb.pc, hpb, hb2⟩
      clear cm b2
      go_upto_region 7 with fail
      go_cut [] (fun wx => ∃ v', LB wx g v' ⟨s.o ++ [p], s.n, s.t, s.g⟩ ∧ RP 48 wx B v' (s.o ++ [p]) ∧ LU w wx g (.slice la n9 lc) v' ∧ PB wx hp 48 p)
      case first =>
        refine wp_region_held_drew (S := fun _ => True) (by kernel_rfl) trivial (fun _ => ?_)
        refine wpAnyH_name (fun u0 hu0 => ?_)
        have bu0 : Below w2.heap.size w2 u0 := by rw [hu0.out]; exact (Below.refl _ _).drew
        have Du0 : Below w2.heap.size w2 u0 := by rw [hu0.out]; exact (Below.refl _ _).drew
        refine wpAnyH_take (i := 0) (oi := { dst := some 20, op := Op.move (Operand.tmp 0), type := 25, pos := "loss.go:44", after := #[], guard := none }) (v := ?va1) rfl (by kernel_rfl) (by kernel_rfl) (by kernel_rfl) (fun _ _ _ h => h) (Or.inl ⟨by rfl, ?ya1⟩) trivial ?ra1
        case ya1 => (intro w hSw; go_simp; try with_reducible rfl)
        try simp only [Act.put, List.setIfInBounds_toArray, List.set_cons_zero, List.set_cons_succ]
        refine wpAnyH_take (i := 1) (oi := { dst := some 21, op := Op.move (Operand.tmp 0), type := 25, pos := "loss.go:44", after := #[], guard := none }) (v := ?va2) rfl (by kernel_rfl) (by kernel_rfl) (by kernel_rfl) (fun _ _ _ h => h) (Or.inl ⟨by rfl, ?ya2⟩) trivial ?ra2
        case ya2 => (intro w hSw; go_simp; try with_reducible rfl)
        try simp only [Act.put, List.setIfInBounds_toArray, List.set_cons_zero, List.set_cons_succ]
        refine wpAnyH_take (i := 2) (oi := { dst := some 22, op := Op.nilCheck (Operand.tmp 21), type := 0, pos := "loss.go:44", after := #[{ on := 1, ground := Ground.data }], guard := none }) (v := ?va3) rfl (by kernel_rfl) (by kernel_rfl) (by kernel_rfl) (fun _ _ _ h => h) (Or.inl ⟨by rfl, ?ya3⟩) trivial ?ra3
        case ya3 => (intro w hSw; go_simp; try with_reducible rfl)
        try simp only [Act.put, List.setIfInBounds_toArray, List.set_cons_zero, List.set_cons_succ]
        refine wpAnyH_take (i := 3) (oi := { dst := some 23, op := Op.fieldAddr 62 (Operand.tmp 22) 0, type := 0, pos := "loss.go:44", after := #[{ on := 2, ground := Ground.data }], guard := none }) (v := ?va4) rfl (by kernel_rfl) (by kernel_rfl) (by kernel_rfl) (fun _ _ _ h => h) (Or.inl ⟨by rfl, ?ya4⟩) trivial ?ra4
        case ya4 => (intro w hSw; go_simp; try with_reducible rfl)
        try simp only [Act.put, List.setIfInBounds_toArray, List.set_cons_zero, List.set_cons_succ]
        refine wpAnyH_ready (rs := [4, 5]) (by kernel_rfl) (by simp) ?_
        refine AllReadyH.cons (o := { dst := some 24, op := Op.load 40 (Operand.tmp 23), type := 40, pos := "loss.go:44", after := #[{ on := 3, ground := Ground.data }], guard := none }) rfl (fun KK hKK => ?_) ?_
        · have xl := (HD.out u0 Du0).1.c0
          go_simp
          refine hKK.out _ _ trivial (fun _ => ?_)
          clear hKK KK
          try simp only [Act.put, List.setIfInBounds_toArray, List.set_cons_zero, List.set_cons_succ]
          refine wpAnyH_name (fun u5 hu5 => ?_)
          have Du5 := Du0
          rw [← hu5.out] at Du5
          try rw [← hu5.out] at gB
          refine wpAnyH_ready (rs := [5]) (by kernel_rfl) (by simp) ?_
          refine AllReadyH.cons (o := { dst := some 25, op := Op.load 48 (Operand.tmp 3), type := 48, pos := "loss.go:44", after := #[], guard := none }) rfl (fun KK hKK => ?_) ?_
          · obtain ⟨y0, y1, y2, y3⟩ := (HD.out u5 Du5).2.2.1
            simp only [Nat.zero_add] at y0 y1 y2 y3
            go_simp
            refine hKK.out _ _ trivial (fun _ => ?_)
            clear hKK KK
            try simp only [Act.put, List.setIfInBounds_toArray, List.set_cons_zero, List.set_cons_succ]
            refine wpAnyH_name (fun u6 hu6 => ?_)
            have Du6 := Du5
            rw [← hu6.out] at Du6
            refine wpAnyH_ready (rs := [6]) (by kernel_rfl) (by simp) ?_
            refine AllReadyH.cons (o := { dst := some 26, op := Op.buildSlice 40 1 #[(0, Operand.tmp 25)], type := 40, pos := "loss.go:44", after := #[{ on := 5, ground := Ground.data }], guard := none }) rfl (fun KK hKK => ?_) ?_
            · go_simp
              refine hKK.out _ _ trivial (fun _ => ?_)
              clear hKK KK
              try simp only [Act.put, List.setIfInBounds_toArray, List.set_cons_zero, List.set_cons_succ]
              refine wpAnyH_name (fun u7 hu7 => ?_)
              have Du7 : Below w2.heap.size w2 u7 := by rw [hu7.out]; exact Du6.trans ((al_below _ _).mono Du6.size)
              have gB : PB u7 u6.heap.size 48 p := by rw [hu7.out]; exact PB.new _ _ _
              refine wpAnyH_ready (rs := [7]) (by kernel_rfl) (by simp) ?_
              refine AllReadyH.cons (o := { dst := some 27, op := Op.call { callee := Callee.builtin Builtin.append, args := #[Operand.tmp 24, Operand.tmp 26], argTypes := #[40, 40] }, type := 40, pos := "loss.go:44", after := #[{ on := 4, ground := Ground.data }, { on := 6, ground := Ground.data }], guard := none }) rfl (fun KK hKK => ?_) ?_
              · have hown := (HD.out u7 Du7).2.1.own
                rw [← HN9.out] at hown
                refine wp_append_lies (P := Try.prog) u7 _ _ 40 rfl B 48 i0 (.agg #[.int .i64 0, .int .i64 0, .int .i64 0, .bool false]) 4 32 Try.underlying40 hi hz0 hz1 hz2 rfl (by decide) (.slice la n9 lc) n9 (s.o.map Pk.c).flatten (by simp [Act.eval]) hown ⟨u6.heap.size, 0, none⟩ 1 1 p.c (by simp [Act.eval]) rfl (fun j u hj => by rw [Addr.add_lit, Nat.zero_add]; have := gB.range j u hj; rwa [Nat.zero_add] at this) (pc_one p) (by omega) (by unfold maxLen; have := HLN.out; omega) (by have := HLN.out; omega) (Nat.le_trans HBB.out (by rw [HHP.out]; exact (HD.out u7 Du7).2.2.2.2.size)) _ rfl ?_
                intro g' cap u8' o3 g3 hv3 l3
                refine hKK.out _ _ trivial (fun _ => ?_)
                clear hKK KK
                try simp only [Act.put, List.setIfInBounds_toArray, List.set_cons_zero, List.set_cons_succ]
                refine wpAnyH_name (fun u8 hu8 => ?_)
                rw [← hu8.out] at o3 g3 l3
                obtain ⟨uu, l4⟩ := lu_grown (v' := .slice (some ⟨g', 0, none⟩) (n9 + 1) cap) HLS.out (HD.out u7 Du7).2.2.2.2 g3 (hv3.imp (fun e => e.symm) (fun e => ⟨g', rfl, by rw [e]; exact (HD.out u7 Du7).2.2.2.2.size⟩))
                obtain ⟨q0, -, -, -, f0, -, -, -⟩ := l4.lc
                have r4 : RP 48 u8 B (.slice (some ⟨g', 0, none⟩) (n9 + 1) cap) (s.o ++ [p]) := RP.of (by rw [flatP_snoc, List.length_append, List.length_singleton, ← HN9.out]; exact o3)
                have p4 : PB u8 hp 48 p := (g3.block hp (blk_lt (HD.out u7 Du7).2.2.2.1) (fun e => by have := HLS.out.rs.lt e.symm; have := HHP.out; omega)).trans (HD.out u7 Du7).2.2.2.1
                refine wpAnyH_take (i := 8) (oi := { dst := some 28, op := Op.nilCheck (Operand.tmp 20), type := 0, pos := "loss.go:44", after := #[{ on := 0, ground := Ground.data }, { on := 0, ground := Ground.phase }, { on := 1, ground := Ground.phase }, { on := 2, ground := Ground.phase }, { on := 3, ground := Ground.phase }, { on := 4, ground := Ground.phase }, { on := 5, ground := Ground.phase }, { on := 6, ground := Ground.phase }, { on := 7, ground := Ground.phase }], guard := none }) (v := ?va9) rfl (by kernel_rfl) (by kernel_rfl) (by kernel_rfl) (fun _ _ _ h => h) (Or.inl ⟨by rfl, ?ya9⟩) trivial ?ra9
                case ya9 => (intro w hSw; go_simp; try with_reducible rfl)
                try simp only [Act.put, List.setIfInBounds_toArray, List.set_cons_zero, List.set_cons_succ]
                refine wpAnyH_take (i := 9) (oi := { dst := some 29, op := Op.fieldAddr 62 (Operand.tmp 28) 0, type := 0, pos := "loss.go:44", after := #[{ on := 8, ground := Ground.data }, { on := 0, ground := Ground.phase }, { on := 1, ground := Ground.phase }, { on := 2, ground := Ground.phase }, { on := 3, ground := Ground.phase }, { on := 4, ground := Ground.phase }, { on := 5, ground := Ground.phase }, { on := 6, ground := Ground.phase }, { on := 7, ground := Ground.phase }], guard := none }) (v := ?va10) rfl (by kernel_rfl) (by kernel_rfl) (by kernel_rfl) (fun _ _ _ h => h) (Or.inl ⟨by rfl, ?ya10⟩) trivial ?ra10
                case ya10 => (intro w hSw; go_simp; try with_reducible rfl)
                try simp only [Act.put, List.setIfInBounds_toArray, List.set_cons_zero, List.set_cons_succ]
                refine wpAnyH_ready (rs := [10]) (by kernel_rfl) (by simp) ?_
                refine AllReadyH.cons (o := { dst := none, op := Op.store 40 (Operand.tmp 29) (Operand.tmp 27), type := 0, pos := "loss.go:44", after := #[{ on := 9, ground := Ground.data }, { on := 7, ground := Ground.data }, { on := 7, ground := Ground.chain }, { on := 0, ground := Ground.phase }, { on := 1, ground := Ground.phase }, { on := 2, ground := Ground.phase }, { on := 3, ground := Ground.phase }, { on := 4, ground := Ground.phase }, { on := 5, ground := Ground.phase }, { on := 6, ground := Ground.phase }, { on := 7, ground := Ground.phase }], guard := none }) rfl (fun KK hKK => ?_) ?_
                · go_simp
                  refine hKK.out _ _ trivial (fun _ => ?_)
                  clear hKK KK
                  try simp only [Act.put]
                  refine wpAnyH_name (fun u11 hu11 => ?_)
                  have Z : LB u11 g (.slice (some ⟨g', 0, none⟩) (n9 + 1) cap) ⟨s.o ++ [p], s.n, s.t, s.g⟩ := by rw [hu11.out]; exact l4.set0 _ _
                  have ng : Value.ownBlock (.slice (some ⟨g', 0, none⟩) (n9 + 1) cap) ≠ some g := fun e => by obtain ⟨cs, hh⟩ := r4.ty e; unfold LB at l4; rw [l4] at hh; simp at hh
                  have hpg : hp ≠ g := by rintro rfl; unfold LB at l4; unfold PB at p4; rw [l4] at p4; simp at p4
                  have Z2 : RP 48 u11 B (.slice (some ⟨g', 0, none⟩) (n9 + 1) cap) (s.o ++ [p]) := by rw [hu11.out]; exact r4.set ng
                  have Z3 : LU w u11 g (.slice la n9 lc) (.slice (some ⟨g', 0, none⟩) (n9 + 1) cap) := by rw [hu11.out]; exact uu.set 0 _
                  have Z4 : PB u11 hp 48 p := by rw [hu11.out]; exact (Below.heap_setCell _ _ _ _ hpg).trans p4
                  refine wpAnyH_done (by kernel_rfl) ?_ _
                  go_wp2_with fail
                  go_meet
                  exact ⟨_, Z, Z2, Z3, Z4⟩
                exact AllReadyH.nil
              exact AllReadyH.nil
            exact AllReadyH.nil
          exact AllReadyH.nil
        refine AllReadyH.cons (o := { dst := some 25, op := Op.load 48 (Operand.tmp 3), type := 48, pos := "loss.go:44", after := #[], guard := none }) rfl (fun KK hKK => ?_) ?_
        · obtain ⟨y0, y1, y2, y3⟩ := (HD.out u0 Du0).2.2.1
          simp only [Nat.zero_add] at y0 y1 y2 y3
          go_simp
          refine hKK.out _ _ trivial (fun _ => ?_)
          clear hKK KK
          try simp only [Act.put, List.setIfInBounds_toArray, List.set_cons_zero, List.set_cons_succ]
          refine wpAnyH_name (fun u12 hu12 => ?_)
          have Du12 := Du0
          rw [← hu12.out] at Du12
          refine wpAnyH_ready (rs := [4, 6]) (by kernel_rfl) (by simp) ?_
          refine AllReadyH.cons (o := { dst := some 24, op := Op.load 40 (Operand.tmp 23), type := 40, pos := "loss.go:44", after := #[{ on := 3, ground := Ground.data }], guard := none }) rfl (fun KK hKK => ?_) ?_
          · have xl := (HD.out u12 Du12).1.c0
            go_simp
            refine hKK.out _ _ trivial (fun _ => ?_)
            clear hKK KK
            try simp only [Act.put, List.setIfInBounds_toArray, List.set_cons_zero, List.set_cons_succ]
            refine wpAnyH_name (fun u13 hu13 => ?_)
            have Du13 := Du12
            rw [← hu13.out] at Du13
            try rw [← hu13.out] at gB
            refine wpAnyH_ready (rs := [6]) (by kernel_rfl) (by simp) ?_
            refine AllReadyH.cons (o := { dst := some 26, op := Op.buildSlice 40 1 #[(0, Operand.tmp 25)], type := 40, pos := "loss.go:44", after := #[{ on := 5, ground := Ground.data }], guard := none }) rfl (fun KK hKK => ?_) ?_
            · go_simp
              refine hKK.out _ _ trivial (fun _ => ?_)
              clear hKK KK
              try simp only [Act.put, List.setIfInBounds_toArray, List.set_cons_zero, List.set_cons_succ]
              refine wpAnyH_name (fun u14 hu14 => ?_)
              have Du14 : Below w2.heap.size w2 u14 := by rw [hu14.out]; exact Du13.trans ((al_below _ _).mono Du13.size)
              have gB : PB u14 u13.heap.size 48 p := by rw [hu14.out]; exact PB.new _ _ _
              refine wpAnyH_ready (rs := [7]) (by kernel_rfl) (by simp) ?_
              refine AllReadyH.cons (o := { dst := some 27, op := Op.call { callee := Callee.builtin Builtin.append, args := #[Operand.tmp 24, Operand.tmp 26], argTypes := #[40, 40] }, type := 40, pos := "loss.go:44", after := #[{ on := 4, ground := Ground.data }, { on := 6, ground := Ground.data }], guard := none }) rfl (fun KK hKK => ?_) ?_
              · have hown := (HD.out u14 Du14).2.1.own
                rw [← HN9.out] at hown
                refine wp_append_lies (P := Try.prog) u14 _ _ 40 rfl B 48 i0 (.agg #[.int .i64 0, .int .i64 0, .int .i64 0, .bool false]) 4 32 Try.underlying40 hi hz0 hz1 hz2 rfl (by decide) (.slice la n9 lc) n9 (s.o.map Pk.c).flatten (by simp [Act.eval]) hown ⟨u13.heap.size, 0, none⟩ 1 1 p.c (by simp [Act.eval]) rfl (fun j u hj => by rw [Addr.add_lit, Nat.zero_add]; have := gB.range j u hj; rwa [Nat.zero_add] at this) (pc_one p) (by omega) (by unfold maxLen; have := HLN.out; omega) (by have := HLN.out; omega) (Nat.le_trans HBB.out (by rw [HHP.out]; exact (HD.out u14 Du14).2.2.2.2.size)) _ rfl ?_
                intro g' cap u15' o3 g3 hv3 l3
                refine hKK.out _ _ trivial (fun _ => ?_)
                clear hKK KK
                try simp only [Act.put, List.setIfInBounds_toArray, List.set_cons_zero, List.set_cons_succ]
                refine wpAnyH_name (fun u15 hu15 => ?_)
                rw [← hu15.out] at o3 g3 l3
                obtain ⟨uu, l4⟩ := lu_grown (v' := .slice (some ⟨g', 0, none⟩) (n9 + 1) cap) HLS.out (HD.out u14 Du14).2.2.2.2 g3 (hv3.imp (fun e => e.symm) (fun e => ⟨g', rfl, by rw [e]; exact (HD.out u14 Du14).2.2.2.2.size⟩))
                obtain ⟨q0, -, -, -, f0, -, -, -⟩ := l4.lc
                have r4 : RP 48 u15 B (.slice (some ⟨g', 0, none⟩) (n9 + 1) cap) (s.o ++ [p]) := RP.of (by rw [flatP_snoc, List.length_append, List.length_singleton, ← HN9.out]; exact o3)
                have p4 : PB u15 hp 48 p := (g3.block hp (blk_lt (HD.out u14 Du14).2.2.2.1) (fun e => by have := HLS.out.rs.lt e.symm; have := HHP.out; omega)).trans (HD.out u14 Du14).2.2.2.1
                refine wpAnyH_take (i := 8) (oi := { dst := some 28, op := Op.nilCheck (Operand.tmp 20), type := 0, pos := "loss.go:44", after := #[{ on := 0, ground := Ground.data }, { on := 0, ground := Ground.phase }, { on := 1, ground := Ground.phase }, { on := 2, ground := Ground.phase }, { on := 3, ground := Ground.phase }, { on := 4, ground := Ground.phase }, { on := 5, ground := Ground.phase }, { on := 6, ground := Ground.phase }, { on := 7, ground := Ground.phase }], guard := none }) (v := ?va16) rfl (by kernel_rfl) (by kernel_rfl) (by kernel_rfl) (fun _ _ _ h => h) (Or.inl ⟨by rfl, ?ya16⟩) trivial ?ra16
                case ya16 => (intro w hSw; go_simp; try with_reducible rfl)
                try simp only [Act.put, List.setIfInBounds_toArray, List.set_cons_zero, List.set_cons_succ]
                refine wpAnyH_take (i := 9) (oi := { dst := some 29, op := Op.fieldAddr 62 (Operand.tmp 28) 0, type := 0, pos := "loss.go:44", after := #[{ on := 8, ground := Ground.data }, { on := 0, ground := Ground.phase }, { on := 1, ground := Ground.phase }, { on := 2, ground := Ground.phase }, { on := 3, ground := Ground.phase }, { on := 4, ground := Ground.phase }, { on := 5, ground := Ground.phase }, { on := 6, ground := Ground.phase }, { on := 7, ground := Ground.phase }], guard := none }) (v := ?va17) rfl (by kernel_rfl) (by kernel_rfl) (by kernel_rfl) (fun _ _ _ h => h) (Or.inl ⟨by rfl, ?ya17⟩) trivial ?ra17
                case ya17 => (intro w hSw; go_simp; try with_reducible rfl)
                try simp only [Act.put, List.setIfInBounds_toArray, List.set_cons_zero, List.set_cons_succ]
                refine wpAnyH_ready (rs := [10]) (by kernel_rfl) (by simp) ?_
                refine AllReadyH.cons (o := { dst := none, op := Op.store 40 (Operand.tmp 29) (Operand.tmp 27), type := 0, pos := "loss.go:44", after := #[{ on := 9, ground := Ground.data }, { on := 7, ground := Ground.data }, { on := 7, ground := Ground.chain }, { on := 0, ground := Ground.phase }, { on := 1, ground := Ground.phase }, { on := 2, ground := Ground.phase }, { on := 3, ground := Ground.phase }, { on := 4, ground := Ground.phase }, { on := 5, ground := Ground.phase }, { on := 6, ground := Ground.phase }, { on := 7, ground := Ground.phase }], guard := none }) rfl (fun KK hKK => ?_) ?_
                · go_simp
                  refine hKK.out _ _ trivial (fun _ => ?_)
                  clear hKK KK
                  try simp only [Act.put]
                  refine wpAnyH_name (fun u18 hu18 => ?_)
                  have Z : LB u18 g (.slice (some ⟨g', 0, none⟩) (n9 + 1) cap) ⟨s.o ++ [p], s.n, s.t, s.g⟩ := by rw [hu18.out]; exact l4.set0 _ _
                  have ng : Value.ownBlock (.slice (some ⟨g', 0, none⟩) (n9 + 1) cap) ≠ some g := fun e => by obtain ⟨cs, hh⟩ := r4.ty e; unfold LB at l4; rw [l4] at hh; simp at hh
                  have hpg : hp ≠ g := by rintro rfl; unfold LB at l4; unfold PB at p4; rw [l4] at p4; simp at p4
                  have Z2 : RP 48 u18 B (.slice (some ⟨g', 0, none⟩) (n9 + 1) cap) (s.o ++ [p]) := by rw [hu18.out]; exact r4.set ng
                  have Z3 : LU w u18 g (.slice la n9 lc) (.slice (some ⟨g', 0, none⟩) (n9 + 1) cap) := by rw [hu18.out]; exact uu.set 0 _
                  have Z4 : PB u18 hp 48 p := by rw [hu18.out]; exact (Below.heap_setCell _ _ _ _ hpg).trans p4
                  refine wpAnyH_done (by kernel_rfl) ?_ _
                  go_wp2_with fail
                  go_meet
                  exact ⟨_, Z, Z2, Z3, Z4⟩
                exact AllReadyH.nil
              exact AllReadyH.nil
            exact AllReadyH.nil
          refine AllReadyH.cons (o := { dst := some 26, op := Op.buildSlice 40 1 #[(0, Operand.tmp 25)], type := 40, pos := "loss.go:44", after := #[{ on := 5, ground := Ground.data }], guard := none }) rfl (fun KK hKK => ?_) ?_
          · go_simp
            refine hKK.out _ _ trivial (fun _ => ?_)
            clear hKK KK
            try simp only [Act.put, List.setIfInBounds_toArray, List.set_cons_zero, List.set_cons_succ]
            refine wpAnyH_name (fun u19 hu19 => ?_)
            have Du19 : Below w2.heap.size w2 u19 := by rw [hu19.out]; exact Du12.trans ((al_below _ _).mono Du12.size)
            have gB : PB u19 u12.heap.size 48 p := by rw [hu19.out]; exact PB.new _ _ _
            refine wpAnyH_ready (rs := [4]) (by kernel_rfl) (by simp) ?_
            refine AllReadyH.cons (o := { dst := some 24, op := Op.load 40 (Operand.tmp 23), type := 40, pos := "loss.go:44", after := #[{ on := 3, ground := Ground.data }], guard := none }) rfl (fun KK hKK => ?_) ?_
            · have xl := (HD.out u19 Du19).1.c0
              go_simp
              refine hKK.out _ _ trivial (fun _ => ?_)
              clear hKK KK
              try simp only [Act.put, List.setIfInBounds_toArray, List.set_cons_zero, List.set_cons_succ]
              refine wpAnyH_name (fun u20 hu20 => ?_)
              have Du20 := Du19
              rw [← hu20.out] at Du20
              try rw [← hu20.out] at gB
              refine wpAnyH_ready (rs := [7]) (by kernel_rfl) (by simp) ?_
              refine AllReadyH.cons (o := { dst := some 27, op := Op.call { callee := Callee.builtin Builtin.append, args := #[Operand.tmp 24, Operand.tmp 26], argTypes := #[40, 40] }, type := 40, pos := "loss.go:44", after := #[{ on := 4, ground := Ground.data }, { on := 6, ground := Ground.data }], guard := none }) rfl (fun KK hKK => ?_) ?_
              · have hown := (HD.out u20 Du20).2.1.own
                rw [← HN9.out] at hown
                refine wp_append_lies (P := Try.prog) u20 _ _ 40 rfl B 48 i0 (.agg #[.int .i64 0, .int .i64 0, .int .i64 0, .bool false]) 4 32 Try.underlying40 hi hz0 hz1 hz2 rfl (by decide) (.slice la n9 lc) n9 (s.o.map Pk.c).flatten (by simp [Act.eval]) hown ⟨u12.heap.size, 0, none⟩ 1 1 p.c (by simp [Act.eval]) rfl (fun j u hj => by rw [Addr.add_lit, Nat.zero_add]; have := gB.range j u hj; rwa [Nat.zero_add] at this) (pc_one p) (by omega) (by unfold maxLen; have := HLN.out; omega) (by have := HLN.out; omega) (Nat.le_trans HBB.out (by rw [HHP.out]; exact (HD.out u20 Du20).2.2.2.2.size)) _ rfl ?_
                intro g' cap u21' o3 g3 hv3 l3
                refine hKK.out _ _ trivial (fun _ => ?_)
                clear hKK KK
                try simp only [Act.put, List.setIfInBounds_toArray, List.set_cons_zero, List.set_cons_succ]
                refine wpAnyH_name (fun u21 hu21 => ?_)
                rw [← hu21.out] at o3 g3 l3
                obtain ⟨uu, l4⟩ := lu_grown (v' := .slice (some ⟨g', 0, none⟩) (n9 + 1) cap) HLS.out (HD.out u20 Du20).2.2.2.2 g3 (hv3.imp (fun e => e.symm) (fun e => ⟨g', rfl, by rw [e]; exact (HD.out u20 Du20).2.2.2.2.size⟩))
                obtain ⟨q0, -, -, -, f0, -, -, -⟩ := l4.lc
                have r4 : RP 48 u21 B (.slice (some ⟨g', 0, none⟩) (n9 + 1) cap) (s.o ++ [p]) := RP.of (by rw [flatP_snoc, List.length_append, List.length_singleton, ← HN9.out]; exact o3)
                have p4 : PB u21 hp 48 p := (g3.block hp (blk_lt (HD.out u20 Du20).2.2.2.1) (fun e => by have := HLS.out.rs.lt e.symm; have := HHP.out; omega)).trans (HD.out u20 Du20).2.2.2.1
                refine wpAnyH_take (i := 8) (oi := { dst := some 28, op := Op.nilCheck (Operand.tmp 20), type := 0, pos := "loss.go:44", after := #[{ on := 0, ground := Ground.data }, { on := 0, ground := Ground.phase }, { on := 1, ground := Ground.phase }, { on := 2, ground := Ground.phase }, { on := 3, ground := Ground.phase }, { on := 4, ground := Ground.phase }, { on := 5, ground := Ground.phase }, { on := 6, ground := Ground.phase }, { on := 7, ground := Ground.phase }], guard := none }) (v := ?va22) rfl (by kernel_rfl) (by kernel_rfl) (by kernel_rfl) (fun _ _ _ h => h) (Or.inl ⟨by rfl, ?ya22⟩) trivial ?ra22
                case ya22 => (intro w hSw; go_simp; try with_reducible rfl)
                try simp only [Act.put, List.setIfInBounds_toArray, List.set_cons_zero, List.set_cons_succ]
                refine wpAnyH_take (i := 9) (oi := { dst := some 29, op := Op.fieldAddr 62 (Operand.tmp 28) 0, type := 0, pos := "loss.go:44", after := #[{ on := 8, ground := Ground.data }, { on := 0, ground := Ground.phase }, { on := 1, ground := Ground.phase }, { on := 2, ground := Ground.phase }, { on := 3, ground := Ground.phase }, { on := 4, ground := Ground.phase }, { on := 5, ground := Ground.phase }, { on := 6, ground := Ground.phase }, { on := 7, ground := Ground.phase }], guard := none }) (v := ?va23) rfl (by kernel_rfl) (by kernel_rfl) (by kernel_rfl) (fun _ _ _ h => h) (Or.inl ⟨by rfl, ?ya23⟩) trivial ?ra23
                case ya23 => (intro w hSw; go_simp; try with_reducible rfl)
                try simp only [Act.put, List.setIfInBounds_toArray, List.set_cons_zero, List.set_cons_succ]
                refine wpAnyH_ready (rs := [10]) (by kernel_rfl) (by simp) ?_
                refine AllReadyH.cons (o := { dst := none, op := Op.store 40 (Operand.tmp 29) (Operand.tmp 27), type := 0, pos := "loss.go:44", after := #[{ on := 9, ground := Ground.data }, { on := 7, ground := Ground.data }, { on := 7, ground := Ground.chain }, { on := 0, ground := Ground.phase }, { on := 1, ground := Ground.phase }, { on := 2, ground := Ground.phase }, { on := 3, ground := Ground.phase }, { on := 4, ground := Ground.phase }, { on := 5, ground := Ground.phase }, { on := 6, ground := Ground.phase }, { on := 7, ground := Ground.phase }], guard := none }) rfl (fun KK hKK => ?_) ?_
                · go_simp
                  refine hKK.out _ _ trivial (fun _ => ?_)
                  clear hKK KK
                  try simp only [Act.put]
                  refine wpAnyH_name (fun u24 hu24 => ?_)
                  have Z : LB u24 g (.slice (some ⟨g', 0, none⟩) (n9 + 1) cap) ⟨s.o ++ [p], s.n, s.t, s.g⟩ := by rw [hu24.out]; exact l4.set0 _ _
                  have ng : Value.ownBlock (.slice (some ⟨g', 0, none⟩) (n9 + 1) cap) ≠ some g := fun e => by obtain ⟨cs, hh⟩ := r4.ty e; unfold LB at l4; rw [l4] at hh; simp at hh
                  have hpg : hp ≠ g := by rintro rfl; unfold LB at l4; unfold PB at p4; rw [l4] at p4; simp at p4
                  have Z2 : RP 48 u24 B (.slice (some ⟨g', 0, none⟩) (n9 + 1) cap) (s.o ++ [p]) := by rw [hu24.out]; exact r4.set ng
                  have Z3 : LU w u24 g (.slice la n9 lc) (.slice (some ⟨g', 0, none⟩) (n9 + 1) cap) := by rw [hu24.out]; exact uu.set 0 _
                  have Z4 : PB u24 hp 48 p := by rw [hu24.out]; exact (Below.heap_setCell _ _ _ _ hpg).trans p4
                  refine wpAnyH_done (by kernel_rfl) ?_ _
                  go_wp2_with fail
                  go_meet
                  exact ⟨_, Z, Z2, Z3, Z4⟩
                exact AllReadyH.nil
              exact AllReadyH.nil
            exact AllReadyH.nil
          exact AllReadyH.nil
        exact AllReadyH.nil
      case rest =>
        obtain ⟨v', l1, r1, u1, p1⟩ := hcut
        obtain ⟨e0, e1, e2, e3⟩ := p1.pc
        obtain ⟨q0, q1, q2, q3, f0, f1, f2, f3⟩ := l1.lc
        simp only [Nat.zero_add] at e0 e1 e2 e3
        have hgp : ¬ g = hp := by
          rintro rfl
          unfold LB at l1
          unfold PB at p1
          rw [l1] at p1
          simp at p1
        have HL1 : Hid (LB wc g v' ⟨s.o ++ [p], s.n, s.t, s.g⟩ ∧ RP 48 wc B v' (s.o ++ [p]) ∧ LU w wc g (.slice la n9 lc) v' ∧ v'.ownBlock ≠ some g) := ⟨l1, r1, u1, fun e => by
          obtain ⟨cs, hh⟩ := r1.ty e
          unfold LB at l1
          rw [l1] at hh
          simp at hh⟩
        clear l1 r1 u1 p1 HD HLS HB1 HB12 HB2 HG1 d0 d1 d2 d3 k0
        go_wp2_with fail
        go_region_with (fail)
        all_goals
          go_wp2
          go_ret
          exact ⟨rfl, v', ⟨by first | exact HL1.out.1.set12 _ _ | exact HL1.out.1.set21 _ _, (HL1.out.2.1.set HL1.out.2.2.2).set HL1.out.2.2.2, HOK.out⟩, ((HL1.out.2.2.1.set _ _).set _ _).drew⟩
end Go.Proofs.Ytamjbmbflllbfaa
