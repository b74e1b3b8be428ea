/-
  What body answers.
-/
import Derived.Test.YtcenchnmibdebaaDoorBr
import Derived.Test.YtcenchnmibdebaaDoorOrd
import Derived.Deep.DeepCutAuto
namespace Go.Proofs.YtcenchnmibdebaaDoor
open Go.RowKit
set_option maxRecDepth 100000

set_option maxHeartbeats 2000000 in
theorem body_any (r : Rc) (w : World) (hr : r.ok) (ht : Tb w) (hp : r.x.p.size ≤ 1000) :
    Calls Tryd.prog 21 #[r.val] w fun e w' => ∃ u, e = .returned u ∧ Sl w' u (bodyB r) ∧ Below w.heap.size w w' := by
  obtain ⟨W1, hW1⟩ : ∃ W1, W1 = w.alloc (.cells r.cells.toArray 33) := ⟨_, rfl⟩
  have b1 : Below w.heap.size w W1 := by rw [hW1]; exact al_below _ _
  have r1 : W1.rangeAt w.heap.size 0 r.cells := by rw [hW1]; exact rc_new w r
  have FK : Hid (∀ W, From W1 W → W.cell? ⟨w.heap.size, 0, none⟩ = some (.int .u8 r.k) ∧ W.cell? ⟨w.heap.size, 1, none⟩ = some (.int .i64 r.x.i) ∧ W.cell? ⟨w.heap.size, 2, none⟩ = some (.string r.x.p) ∧ W.cell? ⟨w.heap.size, 35, none⟩ = some (.int .i64 r.x.n) ∧ W.cell? ⟨w.heap.size, 36, none⟩ = some (.int .i64 r.x.o)) := fun W hb => by
    obtain ⟨c0, c1, c2, _, c4, c5⟩ := rcC (range_kept r1 hb) hr
    simp only [Nat.zero_add] at c0 c1 c2 c4 c5
    exact ⟨c0, c1, c2, c4, c5⟩
  have FB : Hid (∀ W, From W1 W → Below w.heap.size w W) := fun W h => b1.trans (Below.mono h b1.size)
  have FW : Hid (∀ W, From W1 W → Fi.Wid W) := fun W h => (ht.kept (b1.trans (Below.mono h b1.size))).2.1
  have FS : Hid (∀ W, From W1 W → Sl W (.slice (some ⟨w.heap.size, 3, none⟩) 32 32) r.x.s) := fun W hb => by
    obtain ⟨_, _, _, c3, _, _⟩ := rcC (range_kept r1 hb) hr
    simp only [Nat.zero_add] at c3
    exact sl_range c3 hr.2.2.2.1 hr.2.2.1.symm (Nat.le_refl _) (by unfold maxLen; omega)
  have CI : Hid (∀ W, Fi.Wid W → Calls Tryd.prog 32 #[.int .i64 r.x.i] W fun r' w' => ∃ v, r' = .returned v ∧ Sl w' v (Fi.numB r.x.i) ∧ Below W.heap.size W w') := fun W hw => Fi.fnum_any r.x.i W hw
  have CN : Hid (∀ W, Fi.Wid W → Calls Tryd.prog 32 #[.int .i64 r.x.n] W fun r' w' => ∃ v, r' = .returned v ∧ Sl w' v (Fi.numB r.x.n) ∧ Below W.heap.size W w') := fun W hw => Fi.fnum_any r.x.n W hw
  have CO : Hid (∀ W, Fi.Wid W → Calls Tryd.prog 32 #[.int .i64 r.x.o] W fun r' w' => ∃ v, r' = .returned v ∧ Sl w' v (Fi.numB r.x.o) ∧ Below W.heap.size W w') := fun W hw => Fi.fnum_any r.x.o W hw
  have CT : Hid (∀ W, Fi.Wid W → Calls Tryd.prog 19 #[.string r.x.p] W fun r' w' => ∃ v, r' = .returned v ∧ Sl w' v (Fi.textB r.x.p) ∧ Below W.heap.size W w') := fun W hw => Fi.ftext_any r.x.p W hw (by omega)
  have li := numB_len8 r.x.i
  have ln := numB_len8 r.x.n
  have lo := numB_len8 r.x.o
  have lt := textB_len9 r.x.p
  have ls := hr.2.2.1
  have HK : Hid (0 ≤ r.k ∧ r.k < 256) := ⟨hr.1, hr.2.1⟩
  have CJ1 : Hid (∀ W (g : Nat), Fi.Parts W (some ⟨g, 0, none⟩) [[r.k], Fi.numB r.x.i] → Calls Tryd.prog 31 #[.slice (some ⟨g, 0, none⟩) 2 2] W fun r' w' => ∃ v, r' = .returned v ∧ Sl w' v ([r.k] ++ Fi.numB r.x.i) ∧ Below W.heap.size W w') := fun W g hP => by
    have := fjoin_any (some ⟨g, 0, none⟩) 2 _ W hP (by simp; omega)
    rw [show [[r.k], Fi.numB r.x.i].flatten = [r.k] ++ Fi.numB r.x.i by simp] at this
    exact this
  have CJ2 : Hid (∀ W (g : Nat), Fi.Parts W (some ⟨g, 0, none⟩) [[r.k] ++ Fi.numB r.x.i, Fi.numB r.x.o] → Calls Tryd.prog 31 #[.slice (some ⟨g, 0, none⟩) 2 2] W fun r' w' => ∃ v, r' = .returned v ∧ Sl w' v (([r.k] ++ Fi.numB r.x.i) ++ Fi.numB r.x.o) ∧ Below W.heap.size W w') := fun W g hP => by
    have := fjoin_any (some ⟨g, 0, none⟩) 2 _ W hP (by simp; omega)
    rw [show [[r.k] ++ Fi.numB r.x.i, Fi.numB r.x.o].flatten = ([r.k] ++ Fi.numB r.x.i) ++ Fi.numB r.x.o by simp] at this
    exact this
  have CJ4 : Hid (∀ W (g : Nat), Fi.Parts W (some ⟨g, 0, none⟩) [[r.k] ++ Fi.numB r.x.i, Fi.textB r.x.p, r.x.s, Fi.numB r.x.n] → Calls Tryd.prog 31 #[.slice (some ⟨g, 0, none⟩) 4 4] W fun r' w' => ∃ v, r' = .returned v ∧ Sl w' v (([r.k] ++ Fi.numB r.x.i) ++ (Fi.textB r.x.p ++ (r.x.s ++ Fi.numB r.x.n))) ∧ Below W.heap.size W w') := fun W g hP => by
    have := fjoin_any (some ⟨g, 0, none⟩) 4 _ W hP (by simp; omega)
    rw [show [[r.k] ++ Fi.numB r.x.i, Fi.textB r.x.p, r.x.s, Fi.numB r.x.n].flatten = ([r.k] ++ Fi.numB r.x.i) ++ (Fi.textB r.x.p ++ (r.x.s ++ Fi.numB r.x.n)) by simp] at this
    exact this
  have HY : Hid (bodyB r = if r.k = 0 then ([r.k] ++ Fi.numB r.x.i) ++ (Fi.textB r.x.p ++ (r.x.s ++ Fi.numB r.x.n)) else if r.k = 1 then ([r.k] ++ Fi.numB r.x.i) ++ Fi.numB r.x.o else [r.k] ++ Fi.numB r.x.i) := rfl
  clear b1 r1 hr li ln lo lt ls ht hp
  unfold Rc.val
  generalize bodyB r = Y at *
  generalize r.x.s = S at *
  generalize r.cells.toArray = cs at *
  generalize Fi.textB r.x.p = TT at *
  generalize Fi.numB r.x.n = NN at *
  generalize Fi.numB r.x.o = NO at *
  generalize Fi.numB r.x.i = NI at *
  generalize r.x.p = pp at *
  generalize r.x.n = nn at *
  generalize r.x.o = oo at *
  generalize r.x.i = ii at *
  generalize r.k = kk at *
  have hw1 : w.alloc (.cells cs 33) = W1 := hW1.symm
  clear hW1
  go_enter Tryd.func21, Tryd.ntmps21
  go_wp2_with fail
  clear hw1
  have FF : Hid (∀ x, From W1 x → From W1 x) := fun x h => h
  go_cut [3] (fun s3 wx => (∃ ha hc, s3 = .slice ha ([kk] ++ NI).length hc ∧ Sl wx s3 ([kk] ++ NI)) ∧ From W1 wx)
  case first =>
    refine wp_region_held_drew (S := From W1) (by kernel_rfl) ((Below.refl _ _).drew) (fun _ => ?_)
    refine wpAnyH_on ((Below.refl _ _).drew) (fun u0 hu0 bu0 => ?_)
    replace FK := on FK bu0
    replace FB := on FB bu0
    replace FW := on FW bu0
    replace FS := on FS bu0
    replace FF := on FF bu0
    refine wpAnyH_take (i := 0) (oi := { dst := some 4, op := Op.fieldAddr 33 (Operand.tmp 1) 0, type := 0, pos := "record.go:173", after := #[], guard := none }) (v := ?vr1) rfl (by kernel_rfl) (by kernel_rfl) (by kernel_rfl) (fun _ _ _ h => h) (Or.inl ⟨by rfl, ?yr1⟩) (Below.refl _ _) ?rr1
    case yr1 => (intro w hSw; go_simp; try with_reducible rfl)
    try simp only [Act.put, List.setIfInBounds_toArray, List.set_cons_zero, List.set_cons_succ]
    refine wpAnyH_take (i := 1) (oi := { dst := some 5, op := Op.load 31 (Operand.tmp 4), type := 31, pos := "record.go:173", after := #[{ on := 0, ground := Ground.data }], guard := none }) (v := ?vr2) rfl (by kernel_rfl) (by kernel_rfl) (by kernel_rfl) (fun _ _ _ h => h) (Or.inl ⟨by rfl, ?yr2⟩) (Below.refl _ _) ?rr2
    case yr2 => (intro w hSw; obtain ⟨t0, t1, t2, t3, t4⟩ := FK.out w hSw; go_simp; try with_reducible rfl)
    try simp only [Act.put, List.setIfInBounds_toArray, List.set_cons_zero, List.set_cons_succ]
    refine wpAnyH_take (i := 3) (oi := { dst := some 7, op := Op.fieldAddr 33 (Operand.tmp 1) 1, type := 0, pos := "record.go:173", after := #[], guard := none }) (v := ?vr3) rfl (by kernel_rfl) (by kernel_rfl) (by kernel_rfl) (fun _ _ _ h => h) (Or.inl ⟨by rfl, ?yr3⟩) (Below.refl _ _) ?rr3
    case yr3 => (intro w hSw; go_simp; try with_reducible rfl)
    try simp only [Act.put, List.setIfInBounds_toArray, List.set_cons_zero, List.set_cons_succ]
    refine wpAnyH_take (i := 4) (oi := { dst := some 8, op := Op.load 3 (Operand.tmp 7), type := 3, pos := "record.go:173", after := #[{ on := 3, ground := Ground.data }], guard := none }) (v := ?vr4) rfl (by kernel_rfl) (by kernel_rfl) (by kernel_rfl) (fun _ _ _ h => h) (Or.inl ⟨by rfl, ?yr4⟩) (Below.refl _ _) ?rr4
    case yr4 => (intro w hSw; obtain ⟨t0, t1, t2, t3, t4⟩ := FK.out w hSw; go_simp; try with_reducible rfl)
    try simp only [Act.put, List.setIfInBounds_toArray, List.set_cons_zero, List.set_cons_succ]
    refine wpAnyH_ready (rs := [2, 5]) (by kernel_rfl) (by simp) ?_
    refine AllReadyH.cons (o := { dst := some 6, op := Op.buildSlice 27 1 #[(0, Operand.tmp 5)], type := 27, pos := "record.go:173", after := #[{ on := 1, ground := Ground.data }], guard := none }) rfl (fun KK hKK => ?_) ?_
    · have su5 := sl_lit (w := u0) kk HK.out.1 HK.out.2
      go_simp
      refine hKK.out _ _ (al_below _ _) (fun _ => ?_)
      clear hKK KK
      try simp only [Act.put, List.setIfInBounds_toArray, List.set_cons_zero, List.set_cons_succ]
      refine wpAnyH_on (al_below _ _) (fun u5 hu5 bu5 => ?_)
      replace FK := on FK bu5
      replace FB := on FB bu5
      replace FW := on FW bu5
      replace FS := on FS bu5
      replace FF := on FF bu5
      have FZ : Hid (∀ x, From u5 x → Sl x (.slice (some ⟨u0.heap.size, 0, none⟩) 1 1) [kk]) := fun x hx => Sl.kept (by rw [hu5.out]; exact su5) hx
      clear su5
      refine wpAnyH_ready (rs := [5]) (by kernel_rfl) (by simp) ?_
      refine AllReadyH.cons (o := { dst := some 9, op := Op.call { callee := Callee.value (Operand.func 32), args := #[Operand.tmp 8], argTypes := #[3] }, type := 27, pos := "record.go:173", after := #[{ on := 4, ground := Ground.data }], guard := none }) rfl (fun KK hKK => ?_) ?_
      · go_simp
        refine (CI.out _ (FW.out _ (Below.refl _ _))).mono ?_
        rintro e u6' ⟨vu6, rfl, su6, bu6'⟩
        obtain ⟨na, nc, rfl, -⟩ := id su6
        (try go_wp2_with fail)
        refine hKK.out _ _ (bu6') (fun _ => ?_)
        clear hKK KK
        try simp only [Act.put, List.setIfInBounds_toArray, List.set_cons_zero, List.set_cons_succ]
        refine wpAnyH_on (bu6') (fun u6 hu6 bu6 => ?_)
        replace FK := on FK bu6
        replace FB := on FB bu6
        replace FW := on FW bu6
        replace FS := on FS bu6
        replace FF := on FF bu6
        replace FZ := on FZ bu6
        have FN : Hid (∀ x, From u6 x → Sl x (.slice na NI.length nc) NI) := fun x hx => Sl.kept (by rw [hu6.out]; exact su6) hx
        clear su6
        refine wpAnyH_ready (rs := [6]) (by kernel_rfl) (by simp) ?_
        refine AllReadyH.cons (o := { dst := some 10, op := Op.buildSlice 91 2 #[(0, Operand.tmp 6), (1, Operand.tmp 9)], type := 91, pos := "record.go:173", after := #[{ on := 2, ground := Ground.data }, { on := 5, ground := Ground.data }], guard := none }) rfl (fun KK hKK => ?_) ?_
        · have pu7 := partsL (w := u6) [.slice (some ⟨u0.heap.size, 0, none⟩) 1 1, .slice na NI.length nc] [[kk], NI] (by simp) (two_get (P := fun u X => Sl u6 u X) (FZ.out _ (Below.refl _ _)) (FN.out _ (Below.refl _ _)))
          go_simp
          refine hKK.out _ _ (al_below _ _) (fun _ => ?_)
          clear hKK KK
          try simp only [Act.put, List.setIfInBounds_toArray, List.set_cons_zero, List.set_cons_succ]
          refine wpAnyH_on (al_below _ _) (fun u7 hu7 bu7 => ?_)
          replace FK := on FK bu7
          replace FB := on FB bu7
          replace FW := on FW bu7
          replace FS := on FS bu7
          replace FF := on FF bu7
          replace FZ := on FZ bu7
          replace FN := on FN bu7
          have FP : Hid (∀ x, From u7 x → Fi.Parts x (some ⟨u6.heap.size, 0, none⟩) [[kk], NI]) := fun x hx => fparts_kept (by rw [hu7.out]; exact pu7) hx
          clear pu7
          refine wpAnyH_ready (rs := [7]) (by kernel_rfl) (by simp) ?_
          refine AllReadyH.cons (o := { dst := some 11, op := Op.call { callee := Callee.value (Operand.func 31), args := #[Operand.tmp 10], argTypes := #[91] }, type := 27, pos := "record.go:173", after := #[{ on := 6, ground := Ground.data }, { on := 5, ground := Ground.chain }], guard := none }) rfl (fun KK hKK => ?_) ?_
          · go_simp
            refine (CJ1.out _ _ (FP.out _ (Below.refl _ _))).mono ?_
            rintro e u8' ⟨vu8, rfl, su8, bu8'⟩
            obtain ⟨ha, hc, rfl, -⟩ := id su8
            (try go_wp2_with fail)
            refine hKK.out _ _ (bu8') (fun _ => ?_)
            clear hKK KK
            try simp only [Act.put, List.setIfInBounds_toArray, List.set_cons_zero, List.set_cons_succ]
            refine wpAnyH_on (bu8') (fun u8 hu8 bu8 => ?_)
            replace FK := on FK bu8
            replace FB := on FB bu8
            replace FW := on FW bu8
            replace FS := on FS bu8
            replace FF := on FF bu8
            replace FZ := on FZ bu8
            replace FN := on FN bu8
            replace FP := on FP bu8
            have FH : Hid (∀ x, From u8 x → Sl x (.slice ha ([kk] ++ NI).length hc) ([kk] ++ NI)) := fun x hx => Sl.kept (by rw [hu8.out]; exact su8) hx
            clear su8
            refine wpAnyH_take (i := 8) (oi := { dst := some 3, op := Op.assign (Operand.tmp 11), type := 27, pos := "record.go:173", after := #[{ on := 7, ground := Ground.data }, { on := 7, ground := Ground.chain }, { on := 0, ground := Ground.phase }, { on := 1, ground := Ground.phase }, { on := 2, ground := Ground.phase }, { on := 3, ground := Ground.phase }, { on := 4, ground := Ground.phase }, { on := 5, ground := Ground.phase }, { on := 6, ground := Ground.phase }, { on := 7, ground := Ground.phase }], guard := none }) (v := ?vr9) rfl (by kernel_rfl) (by kernel_rfl) (by kernel_rfl) (fun _ _ _ h => h) (Or.inl ⟨by rfl, ?yr9⟩) (Below.refl _ _) ?rr9
            case yr9 => (intro w hSw; go_simp; try with_reducible rfl)
            try simp only [Act.put, List.setIfInBounds_toArray, List.set_cons_zero, List.set_cons_succ]
            refine wpAnyH_done (by kernel_rfl) ?_ _
            have HZ : Hid (Sl u8 (.slice ha ([kk] ++ NI).length hc) ([kk] ++ NI)) := FH.out _ (Below.refl _ _)
            have FZZ : Hid (From W1 u8) := FF.out _ (Below.refl _ _)
            clear FZ FN FP FH FK FB FW FS
            go_wp2_with fail
            go_meet
            exact ⟨⟨ha, hc, rfl, HZ.out⟩, FZZ.out⟩
          exact AllReadyH.nil
        exact AllReadyH.nil
      exact AllReadyH.nil
    refine AllReadyH.cons (o := { dst := some 9, op := Op.call { callee := Callee.value (Operand.func 32), args := #[Operand.tmp 8], argTypes := #[3] }, type := 27, pos := "record.go:173", after := #[{ on := 4, ground := Ground.data }], guard := none }) rfl (fun KK hKK => ?_) ?_
    · go_simp
      refine (CI.out _ (FW.out _ (Below.refl _ _))).mono ?_
      rintro e u10' ⟨vu10, rfl, su10, bu10'⟩
      obtain ⟨na, nc, rfl, -⟩ := id su10
      (try go_wp2_with fail)
      refine hKK.out _ _ (bu10') (fun _ => ?_)
      clear hKK KK
      try simp only [Act.put, List.setIfInBounds_toArray, List.set_cons_zero, List.set_cons_succ]
      refine wpAnyH_on (bu10') (fun u10 hu10 bu10 => ?_)
      replace FK := on FK bu10
      replace FB := on FB bu10
      replace FW := on FW bu10
      replace FS := on FS bu10
      replace FF := on FF bu10
      have FN : Hid (∀ x, From u10 x → Sl x (.slice na NI.length nc) NI) := fun x hx => Sl.kept (by rw [hu10.out]; exact su10) hx
      clear su10
      refine wpAnyH_ready (rs := [2]) (by kernel_rfl) (by simp) ?_
      refine AllReadyH.cons (o := { dst := some 6, op := Op.buildSlice 27 1 #[(0, Operand.tmp 5)], type := 27, pos := "record.go:173", after := #[{ on := 1, ground := Ground.data }], guard := none }) rfl (fun KK hKK => ?_) ?_
      · have su11 := sl_lit (w := u10) kk HK.out.1 HK.out.2
        go_simp
        refine hKK.out _ _ (al_below _ _) (fun _ => ?_)
        clear hKK KK
        try simp only [Act.put, List.setIfInBounds_toArray, List.set_cons_zero, List.set_cons_succ]
        refine wpAnyH_on (al_below _ _) (fun u11 hu11 bu11 => ?_)
        replace FK := on FK bu11
        replace FB := on FB bu11
        replace FW := on FW bu11
        replace FS := on FS bu11
        replace FF := on FF bu11
        replace FN := on FN bu11
        have FZ : Hid (∀ x, From u11 x → Sl x (.slice (some ⟨u10.heap.size, 0, none⟩) 1 1) [kk]) := fun x hx => Sl.kept (by rw [hu11.out]; exact su11) hx
        clear su11
        refine wpAnyH_ready (rs := [6]) (by kernel_rfl) (by simp) ?_
        refine AllReadyH.cons (o := { dst := some 10, op := Op.buildSlice 91 2 #[(0, Operand.tmp 6), (1, Operand.tmp 9)], type := 91, pos := "record.go:173", after := #[{ on := 2, ground := Ground.data }, { on := 5, ground := Ground.data }], guard := none }) rfl (fun KK hKK => ?_) ?_
        · have pu12 := partsL (w := u11) [.slice (some ⟨u10.heap.size, 0, none⟩) 1 1, .slice na NI.length nc] [[kk], NI] (by simp) (two_get (P := fun u X => Sl u11 u X) (FZ.out _ (Below.refl _ _)) (FN.out _ (Below.refl _ _)))
          go_simp
          refine hKK.out _ _ (al_below _ _) (fun _ => ?_)
          clear hKK KK
          try simp only [Act.put, List.setIfInBounds_toArray, List.set_cons_zero, List.set_cons_succ]
          refine wpAnyH_on (al_below _ _) (fun u12 hu12 bu12 => ?_)
          replace FK := on FK bu12
          replace FB := on FB bu12
          replace FW := on FW bu12
          replace FS := on FS bu12
          replace FF := on FF bu12
          replace FN := on FN bu12
          replace FZ := on FZ bu12
          have FP : Hid (∀ x, From u12 x → Fi.Parts x (some ⟨u11.heap.size, 0, none⟩) [[kk], NI]) := fun x hx => fparts_kept (by rw [hu12.out]; exact pu12) hx
          clear pu12
          refine wpAnyH_ready (rs := [7]) (by kernel_rfl) (by simp) ?_
          refine AllReadyH.cons (o := { dst := some 11, op := Op.call { callee := Callee.value (Operand.func 31), args := #[Operand.tmp 10], argTypes := #[91] }, type := 27, pos := "record.go:173", after := #[{ on := 6, ground := Ground.data }, { on := 5, ground := Ground.chain }], guard := none }) rfl (fun KK hKK => ?_) ?_
          · go_simp
            refine (CJ1.out _ _ (FP.out _ (Below.refl _ _))).mono ?_
            rintro e u13' ⟨vu13, rfl, su13, bu13'⟩
            obtain ⟨ha, hc, rfl, -⟩ := id su13
            (try go_wp2_with fail)
            refine hKK.out _ _ (bu13') (fun _ => ?_)
            clear hKK KK
            try simp only [Act.put, List.setIfInBounds_toArray, List.set_cons_zero, List.set_cons_succ]
            refine wpAnyH_on (bu13') (fun u13 hu13 bu13 => ?_)
            replace FK := on FK bu13
            replace FB := on FB bu13
            replace FW := on FW bu13
            replace FS := on FS bu13
            replace FF := on FF bu13
            replace FN := on FN bu13
            replace FZ := on FZ bu13
            replace FP := on FP bu13
            have FH : Hid (∀ x, From u13 x → Sl x (.slice ha ([kk] ++ NI).length hc) ([kk] ++ NI)) := fun x hx => Sl.kept (by rw [hu13.out]; exact su13) hx
            clear su13
            refine wpAnyH_take (i := 8) (oi := { dst := some 3, op := Op.assign (Operand.tmp 11), type := 27, pos := "record.go:173", after := #[{ on := 7, ground := Ground.data }, { on := 7, ground := Ground.chain }, { on := 0, ground := Ground.phase }, { on := 1, ground := Ground.phase }, { on := 2, ground := Ground.phase }, { on := 3, ground := Ground.phase }, { on := 4, ground := Ground.phase }, { on := 5, ground := Ground.phase }, { on := 6, ground := Ground.phase }, { on := 7, ground := Ground.phase }], guard := none }) (v := ?vr14) rfl (by kernel_rfl) (by kernel_rfl) (by kernel_rfl) (fun _ _ _ h => h) (Or.inl ⟨by rfl, ?yr14⟩) (Below.refl _ _) ?rr14
            case yr14 => (intro w hSw; go_simp; try with_reducible rfl)
            try simp only [Act.put, List.setIfInBounds_toArray, List.set_cons_zero, List.set_cons_succ]
            refine wpAnyH_done (by kernel_rfl) ?_ _
            have HZ : Hid (Sl u13 (.slice ha ([kk] ++ NI).length hc) ([kk] ++ NI)) := FH.out _ (Below.refl _ _)
            have FZZ : Hid (From W1 u13) := FF.out _ (Below.refl _ _)
            clear FZ FN FP FH FK FB FW FS
            go_wp2_with fail
            go_meet
            exact ⟨⟨ha, hc, rfl, HZ.out⟩, FZZ.out⟩
          exact AllReadyH.nil
        exact AllReadyH.nil
      exact AllReadyH.nil
    exact AllReadyH.nil
  case rest =>
    obtain ⟨⟨ha, hc, rfl, hs⟩, hf⟩ := hcut
    have FH : Hid (∀ x, From wc x → Sl x (.slice ha ([kk] ++ NI).length hc) ([kk] ++ NI)) := fun x hx => hs.kept hx
    replace FK := on FK hf
    replace FB := on FB hf
    replace FW := on FW hf
    replace FS := on FS hf
    clear hf hs CJ1
    generalize hX : [kk] ++ NI = HD at *
    obtain ⟨k0, -, -, -, -⟩ := FK.out wc (Below.refl _ _)
    by_cases h0 : kk = 0
    · have hY : Hid (Y = HD ++ (TT ++ (S ++ NN))) := by unfold Hid; have := HY.out; rwa [if_pos h0] at this
      rw [← hY.out] at CJ4
      rw [h0] at k0
      clear HY CJ2 hX
      go_wp2_with fail
      clear k0
      refine wp_region_held_drew (S := From wc) (by kernel_rfl) ((Below.refl _ _).drew) (fun _ => ?_)
      refine wpAnyH_on ((Below.refl _ _).drew) (fun u0 hu0 bu0 => ?_)
      replace FK := on FK bu0
      replace FB := on FB bu0
      replace FW := on FW bu0
      replace FS := on FS bu0
      replace FH := on FH bu0
      refine wpAnyH_take (i := 0) (oi := { dst := some 16, op := Op.move (Operand.tmp 3), type := 27, pos := "record.go:176", after := #[], guard := none }) (v := ?vq1) rfl (by kernel_rfl) (by kernel_rfl) (by kernel_rfl) (fun _ _ _ h => h) (Or.inl ⟨by rfl, ?yq1⟩) (Below.refl _ _) ?rq1
      case yq1 => (intro w hSw; go_simp; try with_reducible rfl)
      try simp only [Act.put, List.setIfInBounds_toArray, List.set_cons_zero, List.set_cons_succ]
      refine wpAnyH_take (i := 1) (oi := { dst := some 17, op := Op.fieldAddr 33 (Operand.tmp 1) 2, type := 0, pos := "record.go:176", after := #[], guard := none }) (v := ?vq2) rfl (by kernel_rfl) (by kernel_rfl) (by kernel_rfl) (fun _ _ _ h => h) (Or.inl ⟨by rfl, ?yq2⟩) (Below.refl _ _) ?rq2
      case yq2 => (intro w hSw; go_simp; try with_reducible rfl)
      try simp only [Act.put, List.setIfInBounds_toArray, List.set_cons_zero, List.set_cons_succ]
      refine wpAnyH_take (i := 2) (oi := { dst := some 18, op := Op.load 9 (Operand.tmp 17), type := 9, pos := "record.go:176", after := #[{ on := 1, ground := Ground.data }], guard := none }) (v := ?vq3) rfl (by kernel_rfl) (by kernel_rfl) (by kernel_rfl) (fun _ _ _ h => h) (Or.inl ⟨by rfl, ?yq3⟩) (Below.refl _ _) ?rq3
      case yq3 => (intro w hSw; obtain ⟨t0, t1, t2, t3, t4⟩ := FK.out w hSw; go_simp; try with_reducible rfl)
      try simp only [Act.put, List.setIfInBounds_toArray, List.set_cons_zero, List.set_cons_succ]
      refine wpAnyH_take (i := 4) (oi := { dst := some 20, op := Op.fieldAddr 33 (Operand.tmp 1) 3, type := 0, pos := "record.go:176", after := #[], guard := none }) (v := ?vq4) rfl (by kernel_rfl) (by kernel_rfl) (by kernel_rfl) (fun _ _ _ h => h) (Or.inl ⟨by rfl, ?yq4⟩) (Below.refl _ _) ?rq4
      case yq4 => (intro w hSw; go_simp; try with_reducible rfl)
      try simp only [Act.put, List.setIfInBounds_toArray, List.set_cons_zero, List.set_cons_succ]
      refine wpAnyH_take (i := 5) (oi := { dst := some 21, op := Op.slice 23 (Operand.tmp 20) none none none, type := 27, pos := "record.go:176", after := #[{ on := 4, ground := Ground.data }], guard := none }) (v := ?vq5) rfl (by kernel_rfl) (by kernel_rfl) (by kernel_rfl) (fun _ _ _ h => h) (Or.inl ⟨by rfl, ?yq5⟩) (Below.refl _ _) ?rq5
      case yq5 => (intro w hSw; go_simp; try with_reducible rfl)
      try simp only [Act.put, List.setIfInBounds_toArray, List.set_cons_zero, List.set_cons_succ]
      refine wpAnyH_take (i := 6) (oi := { dst := some 22, op := Op.fieldAddr 33 (Operand.tmp 1) 4, type := 0, pos := "record.go:176", after := #[], guard := none }) (v := ?vq6) rfl (by kernel_rfl) (by kernel_rfl) (by kernel_rfl) (fun _ _ _ h => h) (Or.inl ⟨by rfl, ?yq6⟩) (Below.refl _ _) ?rq6
      case yq6 => (intro w hSw; go_simp; try with_reducible rfl)
      try simp only [Act.put, List.setIfInBounds_toArray, List.set_cons_zero, List.set_cons_succ]
      refine wpAnyH_take (i := 7) (oi := { dst := some 23, op := Op.load 3 (Operand.tmp 22), type := 3, pos := "record.go:176", after := #[{ on := 6, ground := Ground.data }], guard := none }) (v := ?vq7) rfl (by kernel_rfl) (by kernel_rfl) (by kernel_rfl) (fun _ _ _ h => h) (Or.inl ⟨by rfl, ?yq7⟩) (Below.refl _ _) ?rq7
      case yq7 => (intro w hSw; obtain ⟨t0, t1, t2, t3, t4⟩ := FK.out w hSw; go_simp; try with_reducible rfl)
      try simp only [Act.put, List.setIfInBounds_toArray, List.set_cons_zero, List.set_cons_succ]
      refine wpAnyH_ready (rs := [3]) (by kernel_rfl) (by simp) ?_
      refine AllReadyH.cons (o := { dst := some 19, op := Op.call { callee := Callee.value (Operand.func 19), args := #[Operand.tmp 18], argTypes := #[9] }, type := 27, pos := "record.go:176", after := #[{ on := 2, ground := Ground.data }], guard := none }) rfl (fun KK hKK => ?_) ?_
      · go_simp
        refine (CT.out _ (FW.out _ (Below.refl _ _))).mono ?_
        rintro e u8' ⟨vu8, rfl, su8, bu8'⟩
        obtain ⟨ta, tc, rfl, -⟩ := id su8
        (try go_wp2_with fail)
        refine hKK.out _ _ (bu8') (fun _ => ?_)
        clear hKK KK
        try simp only [Act.put, List.setIfInBounds_toArray, List.set_cons_zero, List.set_cons_succ]
        refine wpAnyH_on (bu8') (fun u8 hu8 bu8 => ?_)
        replace FK := on FK bu8
        replace FB := on FB bu8
        replace FW := on FW bu8
        replace FS := on FS bu8
        replace FH := on FH bu8
        have FV : Hid (∀ x, From u8 x → Sl x (.slice ta TT.length tc) TT) := fun x hx => Sl.kept (by rw [hu8.out]; exact su8) hx
        clear su8
        refine wpAnyH_ready (rs := [8]) (by kernel_rfl) (by simp) ?_
        refine AllReadyH.cons (o := { dst := some 24, op := Op.call { callee := Callee.value (Operand.func 32), args := #[Operand.tmp 23], argTypes := #[3] }, type := 27, pos := "record.go:176", after := #[{ on := 7, ground := Ground.data }, { on := 3, ground := Ground.chain }], guard := none }) rfl (fun KK hKK => ?_) ?_
        · go_simp
          refine (CN.out _ (FW.out _ (Below.refl _ _))).mono ?_
          rintro e u9' ⟨vu9, rfl, su9, bu9'⟩
          obtain ⟨na, nc, rfl, -⟩ := id su9
          (try go_wp2_with fail)
          refine hKK.out _ _ (bu9') (fun _ => ?_)
          clear hKK KK
          try simp only [Act.put, List.setIfInBounds_toArray, List.set_cons_zero, List.set_cons_succ]
          refine wpAnyH_on (bu9') (fun u9 hu9 bu9 => ?_)
          replace FK := on FK bu9
          replace FB := on FB bu9
          replace FW := on FW bu9
          replace FS := on FS bu9
          replace FH := on FH bu9
          replace FV := on FV bu9
          have FN : Hid (∀ x, From u9 x → Sl x (.slice na NN.length nc) NN) := fun x hx => Sl.kept (by rw [hu9.out]; exact su9) hx
          clear su9
          refine wpAnyH_ready (rs := [9]) (by kernel_rfl) (by simp) ?_
          refine AllReadyH.cons (o := { dst := some 25, op := Op.buildSlice 91 4 #[(0, Operand.tmp 16), (1, Operand.tmp 19), (2, Operand.tmp 21), (3, Operand.tmp 24)], type := 91, pos := "record.go:176", after := #[{ on := 0, ground := Ground.data }, { on := 3, ground := Ground.data }, { on := 5, ground := Ground.data }, { on := 8, ground := Ground.data }], guard := none }) rfl (fun KK hKK => ?_) ?_
          · have pu10 := partsL (w := u9) [.slice ha HD.length hc, .slice ta TT.length tc, .slice (some ⟨w.heap.size, 3, none⟩) 32 32, .slice na NN.length nc] [HD, TT, S, NN] (by simp) (four_get (P := fun u X => Sl u9 u X) (FH.out _ (Below.refl _ _)) (FV.out _ (Below.refl _ _)) (FS.out _ (Below.refl _ _)) (FN.out _ (Below.refl _ _)))
            go_simp
            refine hKK.out _ _ (al_below _ _) (fun _ => ?_)
            clear hKK KK
            try simp only [Act.put, List.setIfInBounds_toArray, List.set_cons_zero, List.set_cons_succ]
            refine wpAnyH_on (al_below _ _) (fun u10 hu10 bu10 => ?_)
            replace FK := on FK bu10
            replace FB := on FB bu10
            replace FW := on FW bu10
            replace FS := on FS bu10
            replace FH := on FH bu10
            replace FV := on FV bu10
            replace FN := on FN bu10
            have FP : Hid (∀ x, From u10 x → Fi.Parts x (some ⟨u9.heap.size, 0, none⟩) [HD, TT, S, NN]) := fun x hx => fparts_kept (by rw [hu10.out]; exact pu10) hx
            clear pu10
            refine wpAnyH_ready (rs := [10]) (by kernel_rfl) (by simp) ?_
            refine AllReadyH.cons (o := { dst := some 26, op := Op.call { callee := Callee.value (Operand.func 31), args := #[Operand.tmp 25], argTypes := #[91] }, type := 27, pos := "record.go:176", after := #[{ on := 9, ground := Ground.data }, { on := 8, ground := Ground.chain }], guard := none }) rfl (fun KK hKK => ?_) ?_
            · go_simp
              refine (CJ4.out _ _ (FP.out _ (Below.refl _ _))).mono ?_
              rintro e u11' ⟨vu11, rfl, su11, bu11'⟩
              obtain ⟨ja, jc, rfl, -⟩ := id su11
              (try go_wp2_with fail)
              refine hKK.out _ _ (bu11') (fun _ => ?_)
              clear hKK KK
              try simp only [Act.put, List.setIfInBounds_toArray, List.set_cons_zero, List.set_cons_succ]
              refine wpAnyH_on (bu11') (fun u11 hu11 bu11 => ?_)
              replace FK := on FK bu11
              replace FB := on FB bu11
              replace FW := on FW bu11
              replace FS := on FS bu11
              replace FH := on FH bu11
              replace FV := on FV bu11
              replace FN := on FN bu11
              replace FP := on FP bu11
              have OZ : Hid (Sl u11 (.slice ja Y.length jc) Y) := by unfold Hid; rw [hu11.out]; exact su11
              clear su11
              refine wpAnyH_take (i := 11) (oi := { dst := some 2, op := Op.assign (Operand.tmp 26), type := 27, pos := "record.go:176", after := #[{ on := 10, ground := Ground.data }, { on := 10, ground := Ground.chain }, { on := 0, ground := Ground.phase }, { on := 1, ground := Ground.phase }, { on := 2, ground := Ground.phase }, { on := 3, ground := Ground.phase }, { on := 4, ground := Ground.phase }, { on := 5, ground := Ground.phase }, { on := 6, ground := Ground.phase }, { on := 7, ground := Ground.phase }, { on := 8, ground := Ground.phase }, { on := 9, ground := Ground.phase }, { on := 10, ground := Ground.phase }], guard := none }) (v := ?vq12) rfl (by kernel_rfl) (by kernel_rfl) (by kernel_rfl) (fun _ _ _ h => h) (Or.inl ⟨by rfl, ?yq12⟩) (Below.refl _ _) ?rq12
              case yq12 => (intro w hSw; go_simp; try with_reducible rfl)
              try simp only [Act.put, List.setIfInBounds_toArray, List.set_cons_zero, List.set_cons_succ]
              refine wpAnyH_done (by kernel_rfl) ?_ _
              have BZ : Hid (Below w.heap.size w u11) := FB.out _ (Below.refl _ _)
              go_wp2
              go_ret
              exact ⟨_, rfl, OZ.out, BZ.out⟩
            exact AllReadyH.nil
          exact AllReadyH.nil
        exact AllReadyH.nil
      exact AllReadyH.nil
    by_cases h1 : kk = 1
    · have hY : Hid (Y = HD ++ NO) := by unfold Hid; have := HY.out; rwa [if_neg h0, if_pos h1] at this
      rw [← hY.out] at CJ2
      rw [h1] at k0
      obtain ⟨-, -, -, -, k4⟩ := FK.out wc (Below.refl _ _)
      clear HY CJ4 hX h0 FK
      go_wp2_with fail
      clear k0 k4
      refine (CO.out wc (FW.out _ (Below.refl _ _))).mono ?_
      rintro e w2 ⟨v2, rfl, s2, b2⟩
      obtain ⟨a2, c2, rfl, _⟩ := id s2
      have P4 := partsL (w := w2) [.slice ha HD.length hc, .slice a2 NO.length c2] [HD, NO] (by simp) (two_get (P := fun u X => Sl w2 u X) (FH.out _ b2) s2)
      obtain ⟨W4, hW4⟩ : ∃ W4, W4 = w2.alloc (.cells #[.slice ha HD.length hc, .slice a2 NO.length c2] 27) := ⟨_, rfl⟩
      have b4 : Below w2.heap.size w2 W4 := by rw [hW4]; exact al_below _ _
      have B4 : Hid (Below w.heap.size w W4) := FB.out _ (b2.trans (b4.mono b2.size))
      have cj := CJ2.out W4 w2.heap.size (by rw [hW4]; exact P4)
      have hw4 : w2.alloc (.cells #[.slice ha HD.length hc, .slice a2 NO.length c2] 27) = W4 := hW4.symm
      clear s2 b2 P4 hW4 b4 CT CJ2 FW FB FH CO CN CI FS
      go_wp2_with fail
      try rw [hw4]
      clear hw4
      refine cj.mono ?_
      rintro e w5 ⟨v5, rfl, o5, b5⟩
      clear cj
      have OZ : Hid (Sl w5 v5 Y) := o5
      have BZ : Hid (Below w.heap.size w w5) := B4.out.trans (b5.mono B4.out.size)
      obtain ⟨ja, jc, rfl, _⟩ := id o5
      clear o5 b5
      go_wp2
      go_ret
      exact ⟨_, rfl, OZ.out, BZ.out⟩
    · have hY : Hid (Y = HD) := by unfold Hid; have := HY.out; rwa [if_neg h0, if_neg h1] at this
      have d0 : (kk == 0) = false := by simpa using h0
      have d1 : (kk == 1) = false := by simpa using h1
      have OZ : Hid (Sl wc (.slice ha HD.length hc) Y) := by unfold Hid; rw [hY.out]; exact FH.out _ (Below.refl _ _)
      have BZ : Hid (Below w.heap.size w wc) := FB.out _ (Below.refl _ _)
      clear HY CJ4 CJ2 hX FK FW FS FB FH hY
      go_wp2
      go_ret
      exact ⟨_, rfl, OZ.out, BZ.out⟩
end Go.Proofs.YtcenchnmibdebaaDoor
