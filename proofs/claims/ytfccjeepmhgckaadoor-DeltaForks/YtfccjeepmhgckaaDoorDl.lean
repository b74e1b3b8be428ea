/-
  What lay and Put answer: the bytes of operations, in a row of the call's own.
-/
import Derived.Test.YtfccjeepmhgckaaDoorLf
import Derived.Test.YtfccjeepmhgckaaDoorDc
namespace Go.Proofs.YtfccjeepmhgckaaDoor
open Go.RowKit
set_option maxRecDepth 100000

theorem sb_strB (X : List Int) (h : ∀ i, 0 ≤ X.getD i 0 ∧ X.getD i 0 < 256) : Fi.sb (strB X) = X := by
  unfold Fi.sb strB
  simp only [List.map_map]
  refine List.ext_getElem (by simp) fun i h1 h2 => ?_
  have := h i
  rw [List.getD, List.getElem?_eq_getElem h2] at this
  simp only [List.getElem_map, Function.comp, UInt8.toNat_ofNat', Option.getD_some] at this ⊢
  omega
theorem text_strB (X : List Int) (h : ∀ i, 0 ≤ X.getD i 0 ∧ X.getD i 0 < 256) : Fi.textB (strB X) = Fi.numB X.length ++ X := by
  have e : (strB X).size = X.length := by simp [strB, ByteArray.size]
  unfold Fi.textB
  rw [sb_strB X h, e]
theorem numB_len8 (n : Int) : (Fi.numB n).length ≤ 8 := by
  unfold Fi.numB
  split
  · simp
  · rename_i h0
    obtain ⟨W, hW, _, hI, _, _, hn⟩ := Fi.pos_lim n h0
    rw [hW, Int.toNat_natCast, Fi.pb_len n W hI]
    rcases hI with rfl | rfl | rfl | rfl <;> omega
theorem layX_len (x : Xp) : (layX x).length ≤ 17 + x.d.length := by
  unfold layX
  have := numB_len8 x.a
  have := numB_len8 x.n
  have := numB_len8 x.d.length
  split
  · rw [List.length_cons, List.length_append]; omega
  · rw [List.length_cons, List.length_append]; omega
theorem three_get {P : Value → List Int → Prop} {u0 u1 u2 : Value} {X0 X1 X2 : List Int} (h0 : P u0 X0) (h1 : P u1 X1) (h2 : P u2 X2) : ∀ i, i < [X0, X1, X2].length → ∃ u, [u0, u1, u2][i]? = some u ∧ P u ([X0, X1, X2].getD i []) := fun i hi => by
  rcases (show i = 0 ∨ i = 1 ∨ i = 2 by simp at hi; omega) with rfl | rfl | rfl
  · exact ⟨u0, rfl, h0⟩
  · exact ⟨u1, rfl, h1⟩
  · exact ⟨u2, rfl, h2⟩
theorem Wid.kept {w w' : World} (h : Fi.Wid w) (hb : Below w.heap.size w w') : Fi.Wid w' := h.below hb h.pos
set_option maxHeartbeats 2000000 in
theorem lay_any (x : Xp) (ua : Option Addr) (un uc : Nat) (w : World) (hs : Sl w (.slice ua un uc) x.d) (ht : Fi.Wid w) (hp : x.d.length ≤ 1000000000) :
    Calls Tryd.prog 23 #[xval x ua un uc] w fun e w' => ∃ u, e = .returned u ∧ Ow w' w.heap.size u (layX x) ∧ Below w.heap.size w w' := by
  obtain ⟨W1, hW1⟩ : ∃ W1, W1 = w.alloc (.cells #[.bool x.c, .int .i64 x.a, .int .i64 x.n, .slice ua un uc] 46) := ⟨_, rfl⟩
  have b1 : Below w.heap.size w W1 := by rw [hW1]; exact al_below _ _
  have hun : un = x.d.length := by obtain ⟨_, _, e, _⟩ := id hs; cases e; rfl
  have hlt : w.heap.size < W1.heap.size := by rw [hW1]; simp
  have g1 : W1.heap[w.heap.size]? = some (.cells #[.bool x.c, .int .i64 x.a, .int .i64 x.n, .slice ua un uc] 46 (0, 0)) := by rw [hW1]; exact heap_alloc_new _ _
  have FT : Hid (∀ W, From W1 W → W.cell? ⟨w.heap.size, 1, none⟩ = some (.int .i64 x.a) ∧ W.cell? ⟨w.heap.size, 2, none⟩ = some (.int .i64 x.n)) := fun W hb => by
    have g2 := (Below.block hb _ hlt).trans g1
    exact ⟨by rw [cell_of_row _ _ _ _ _ _ g2]; rfl, by rw [cell_of_row _ _ _ _ _ _ g2]; rfl⟩
  have FB : Hid (∀ W, From W1 W → Below w.heap.size w W) := fun W h => b1.trans (Below.mono h b1.size)
  have FW : Hid (∀ W, From W1 W → Fi.Wid W) := fun W h => Wid.kept ht (b1.trans (Below.mono h b1.size))
  have CN : Hid (∀ (k : Int) W, Fi.Wid W → Calls Tryd.prog 32 #[.int .i64 k] W fun r w' => ∃ v, r = .returned v ∧ Sl w' v (Fi.numB k) ∧ Below W.heap.size W w') := fun k W hw => Fi.fnum_any k W hw
  have ln1 := numB_len8 x.a
  have ln2 := numB_len8 x.n
  have ln3 := numB_len8 x.d.length
  cases hc : x.c with
  | true =>
    have CJ : Hid (∀ W (g : Nat), Fi.Parts W (some ⟨g, 0, none⟩) [[1], Fi.numB x.a, Fi.numB x.n] → Calls Tryd.prog 24 #[.slice (some ⟨g, 0, none⟩) 3 3] W fun r w' => ∃ v, r = .returned v ∧ Ow w' W.heap.size v (layX x) ∧ Below W.heap.size W w') := fun W g hP => by
      have := fjoin_any (some ⟨g, 0, none⟩) 3 _ W hP (by simp; omega)
      rw [show [[1], Fi.numB x.a, Fi.numB x.n].flatten = layX x by unfold layX; rw [if_pos hc]; simp] at this
      exact this
    rw [hc] at hW1
    clear b1 g1 hs hun hlt ht hp ln1 ln2 ln3
    unfold xval
    rw [hc]
    generalize layX x = Y at *
    generalize hna : Fi.numB x.a = NA at *
    generalize hnn : Fi.numB x.n = NN at *
    have CNA : Hid (∀ W, Fi.Wid W → Calls Tryd.prog 32 #[.int .i64 x.a] W fun r w' => ∃ v, r = .returned v ∧ Sl w' v NA ∧ Below W.heap.size W w') := fun W hw => by rw [← hna]; exact CN.out _ W hw
    have CNN : Hid (∀ W, Fi.Wid W → Calls Tryd.prog 32 #[.int .i64 x.n] W fun r w' => ∃ v, r = .returned v ∧ Sl w' v NN ∧ Below W.heap.size W w') := fun W hw => by rw [← hnn]; exact CN.out _ W hw
    clear CN hna hnn hc
    generalize x.a = xa at *
    generalize x.n = xn at *
    go_enter Tryd.func23, Tryd.ntmps23
    go_wp2_with fail
    rw [← hW1]
    clear hW1
    refine wp_region_held_drew (S := From W1) (by kernel_rfl) ((Below.refl _ _).drew) (fun _ => ?_)
    refine wpAnyH_on ((Below.refl _ _).drew) (fun u0 hu0 bu0 => ?_)
    replace FT := on FT bu0
    replace FB := on FB bu0
    replace FW := on FW bu0
    refine wpAnyH_take (i := 1) (oi := { dst := some 6, op := Op.fieldAddr 46 (Operand.tmp 1) 1, type := 0, pos := "delta.go:247", after := #[], guard := none }) (v := ?vr1) rfl (by kernel_rfl) (by kernel_rfl) (by kernel_rfl) (fun _ _ _ h => h) (Or.inl ⟨by rfl, ?yr1⟩) (Below.refl _ _) ?rr1
    case yr1 => (intro w hSw; go_simp; try with_reducible rfl)
    try simp only [Act.put, List.setIfInBounds_toArray, List.set_cons_zero, List.set_cons_succ]
    refine wpAnyH_take (i := 2) (oi := { dst := some 7, op := Op.load 3 (Operand.tmp 6), type := 3, pos := "delta.go:247", after := #[{ on := 1, ground := Ground.data }], guard := none }) (v := ?vr2) rfl (by kernel_rfl) (by kernel_rfl) (by kernel_rfl) (fun _ _ _ h => h) (Or.inl ⟨by rfl, ?yr2⟩) (Below.refl _ _) ?rr2
    case yr2 => (intro w hSw; obtain ⟨t0, t1⟩ := FT.out w hSw; go_simp; try with_reducible rfl)
    try simp only [Act.put, List.setIfInBounds_toArray, List.set_cons_zero, List.set_cons_succ]
    refine wpAnyH_take (i := 4) (oi := { dst := some 9, op := Op.fieldAddr 46 (Operand.tmp 1) 2, type := 0, pos := "delta.go:247", after := #[], guard := none }) (v := ?vr3) rfl (by kernel_rfl) (by kernel_rfl) (by kernel_rfl) (fun _ _ _ h => h) (Or.inl ⟨by rfl, ?yr3⟩) (Below.refl _ _) ?rr3
    case yr3 => (intro w hSw; go_simp; try with_reducible rfl)
    try simp only [Act.put, List.setIfInBounds_toArray, List.set_cons_zero, List.set_cons_succ]
    refine wpAnyH_take (i := 5) (oi := { dst := some 10, op := Op.load 3 (Operand.tmp 9), type := 3, pos := "delta.go:247", after := #[{ on := 4, ground := Ground.data }], guard := none }) (v := ?vr4) rfl (by kernel_rfl) (by kernel_rfl) (by kernel_rfl) (fun _ _ _ h => h) (Or.inl ⟨by rfl, ?yr4⟩) (Below.refl _ _) ?rr4
    case yr4 => (intro w hSw; obtain ⟨t0, t1⟩ := FT.out w hSw; go_simp; try with_reducible rfl)
    try simp only [Act.put, List.setIfInBounds_toArray, List.set_cons_zero, List.set_cons_succ]
    refine wpAnyH_ready (rs := [0, 3]) (by kernel_rfl) (by simp) ?_
    refine AllReadyH.cons (o := { dst := some 5, op := Op.buildSlice 26 1 #[(0, Operand.const (Value.int IntKind.u8 1))], type := 26, pos := "delta.go:247", after := #[], guard := none }) rfl (fun KK hKK => ?_) ?_
    · have su5 := sl_lit (w := u0) 1 (by omega) (by omega)
      go_simp
      refine hKK.out _ _ (al_below _ _) (fun _ => ?_)
      clear hKK KK
      try simp only [Act.put, List.setIfInBounds_toArray, List.set_cons_zero, List.set_cons_succ]
      refine wpAnyH_on (al_below _ _) (fun u5 hu5 bu5 => ?_)
      replace FT := on FT bu5
      replace FB := on FB bu5
      replace FW := on FW bu5
      have FZ : Hid (∀ x, From u5 x → Sl x (.slice (some ⟨u0.heap.size, 0, none⟩) 1 1) [1]) := fun x hx => Sl.kept (by rw [hu5.out]; exact su5) hx
      clear su5
      refine wpAnyH_ready (rs := [3]) (by kernel_rfl) (by simp) ?_
      refine AllReadyH.cons (o := { dst := some 8, op := Op.call { callee := Callee.value (Operand.func 32), args := #[Operand.tmp 7], argTypes := #[3] }, type := 26, pos := "delta.go:247", after := #[{ on := 2, ground := Ground.data }], guard := none }) rfl (fun KK hKK => ?_) ?_
      · go_simp
        refine (CNA.out _ (FW.out _ (Below.refl _ _))).mono ?_
        rintro e u6' ⟨vu6, rfl, su6, bu6'⟩
        obtain ⟨ta, tc, rfl, -⟩ := id su6
        (try go_wp2_with fail)
        refine hKK.out _ _ (bu6') (fun _ => ?_)
        clear hKK KK
        try simp only [Act.put, List.setIfInBounds_toArray, List.set_cons_zero, List.set_cons_succ]
        refine wpAnyH_on (bu6') (fun u6 hu6 bu6 => ?_)
        replace FT := on FT bu6
        replace FB := on FB bu6
        replace FW := on FW bu6
        replace FZ := on FZ bu6
        have FV : Hid (∀ x, From u6 x → Sl x (.slice ta NA.length tc) NA) := fun x hx => Sl.kept (by rw [hu6.out]; exact su6) hx
        clear su6
        refine wpAnyH_ready (rs := [6]) (by kernel_rfl) (by simp) ?_
        refine AllReadyH.cons (o := { dst := some 11, op := Op.call { callee := Callee.value (Operand.func 32), args := #[Operand.tmp 10], argTypes := #[3] }, type := 26, pos := "delta.go:247", after := #[{ on := 5, ground := Ground.data }, { on := 3, ground := Ground.chain }], guard := none }) rfl (fun KK hKK => ?_) ?_
        · go_simp
          refine (CNN.out _ (FW.out _ (Below.refl _ _))).mono ?_
          rintro e u7' ⟨vu7, rfl, su7, bu7'⟩
          obtain ⟨na, nc, rfl, -⟩ := id su7
          (try go_wp2_with fail)
          refine hKK.out _ _ (bu7') (fun _ => ?_)
          clear hKK KK
          try simp only [Act.put, List.setIfInBounds_toArray, List.set_cons_zero, List.set_cons_succ]
          refine wpAnyH_on (bu7') (fun u7 hu7 bu7 => ?_)
          replace FT := on FT bu7
          replace FB := on FB bu7
          replace FW := on FW bu7
          replace FZ := on FZ bu7
          replace FV := on FV bu7
          have FN : Hid (∀ x, From u7 x → Sl x (.slice na NN.length nc) NN) := fun x hx => Sl.kept (by rw [hu7.out]; exact su7) hx
          clear su7
          refine wpAnyH_ready (rs := [7]) (by kernel_rfl) (by simp) ?_
          refine AllReadyH.cons (o := { dst := some 12, op := Op.buildSlice 22 3 #[(0, Operand.tmp 5), (1, Operand.tmp 8), (2, Operand.tmp 11)], type := 22, pos := "delta.go:247", after := #[{ on := 0, ground := Ground.data }, { on := 3, ground := Ground.data }, { on := 6, ground := Ground.data }], guard := none }) rfl (fun KK hKK => ?_) ?_
          · have pu8 := partsL (w := u7) [.slice (some ⟨u0.heap.size, 0, none⟩) 1 1, .slice ta NA.length tc, .slice na NN.length nc] [[1], NA, NN] (by simp) (three_get (P := fun u X => Sl u7 u X) (FZ.out _ (Below.refl _ _)) (FV.out _ (Below.refl _ _)) (FN.out _ (Below.refl _ _)))
            go_simp
            refine hKK.out _ _ (al_below _ _) (fun _ => ?_)
            clear hKK KK
            try simp only [Act.put, List.setIfInBounds_toArray, List.set_cons_zero, List.set_cons_succ]
            refine wpAnyH_on (al_below _ _) (fun u8 hu8 bu8 => ?_)
            replace FT := on FT bu8
            replace FB := on FB bu8
            replace FW := on FW bu8
            replace FZ := on FZ bu8
            replace FV := on FV bu8
            replace FN := on FN bu8
            have FP : Hid (∀ x, From u8 x → Fi.Parts x (some ⟨u7.heap.size, 0, none⟩) [[1], NA, NN]) := fun x hx => fparts_kept (by rw [hu8.out]; exact pu8) hx
            clear pu8
            refine wpAnyH_ready (rs := [8]) (by kernel_rfl) (by simp) ?_
            refine AllReadyH.cons (o := { dst := some 13, op := Op.call { callee := Callee.value (Operand.func 24), args := #[Operand.tmp 12], argTypes := #[22] }, type := 26, pos := "delta.go:247", after := #[{ on := 7, ground := Ground.data }, { on := 6, ground := Ground.chain }], guard := none }) rfl (fun KK hKK => ?_) ?_
            · have lwu9 : w.heap.size ≤ u8.heap.size := (FB.out _ (Below.refl _ _)).size
              go_simp
              refine (CJ.out _ _ (FP.out _ (Below.refl _ _))).mono ?_
              rintro e u9' ⟨vu9, rfl, ou9, bu9'⟩
              obtain ⟨ja, jc, rfl⟩ := Ow.shape ou9
              (try go_wp2_with fail)
              refine hKK.out _ _ (bu9') (fun _ => ?_)
              clear hKK KK
              try simp only [Act.put, List.setIfInBounds_toArray, List.set_cons_zero, List.set_cons_succ]
              refine wpAnyH_on (bu9') (fun u9 hu9 bu9 => ?_)
              replace FT := on FT bu9
              replace FB := on FB bu9
              replace FW := on FW bu9
              replace FZ := on FZ bu9
              replace FV := on FV bu9
              replace FN := on FN bu9
              replace FP := on FP bu9
              have OZ : Hid (Ow u9 w.heap.size (.slice ja Y.length jc) Y) := by unfold Hid; rw [hu9.out]; exact Ow.mono ou9 lwu9
              clear ou9
              refine wpAnyH_take (i := 9) (oi := { dst := some 2, op := Op.assign (Operand.tmp 13), type := 26, pos := "delta.go:247", after := #[{ on := 8, ground := Ground.data }, { on := 8, ground := Ground.chain }, { on := 0, ground := Ground.phase }, { on := 1, ground := Ground.phase }, { on := 2, ground := Ground.phase }, { on := 3, ground := Ground.phase }, { on := 4, ground := Ground.phase }, { on := 5, ground := Ground.phase }, { on := 6, ground := Ground.phase }, { on := 7, ground := Ground.phase }, { on := 8, ground := Ground.phase }], guard := none }) (v := ?vr10) rfl (by kernel_rfl) (by kernel_rfl) (by kernel_rfl) (fun _ _ _ h => h) (Or.inl ⟨by rfl, ?yr10⟩) (Below.refl _ _) ?rr10
              case yr10 => (intro w hSw; go_simp; try with_reducible rfl)
              try simp only [Act.put, List.setIfInBounds_toArray, List.set_cons_zero, List.set_cons_succ]
              refine wpAnyH_done (by kernel_rfl) ?_ _
              have BZ : Hid (Below w.heap.size w u9) := FB.out _ (Below.refl _ _)
              go_wp2
              go_ret
              exact ⟨_, rfl, OZ.out, BZ.out⟩
            exact AllReadyH.nil
          exact AllReadyH.nil
        exact AllReadyH.nil
      exact AllReadyH.nil
    refine AllReadyH.cons (o := { dst := some 8, op := Op.call { callee := Callee.value (Operand.func 32), args := #[Operand.tmp 7], argTypes := #[3] }, type := 26, pos := "delta.go:247", after := #[{ on := 2, ground := Ground.data }], guard := none }) rfl (fun KK hKK => ?_) ?_
    · go_simp
      refine (CNA.out _ (FW.out _ (Below.refl _ _))).mono ?_
      rintro e u11' ⟨vu11, rfl, su11, bu11'⟩
      obtain ⟨ta, tc, rfl, -⟩ := id su11
      (try go_wp2_with fail)
      refine hKK.out _ _ (bu11') (fun _ => ?_)
      clear hKK KK
      try simp only [Act.put, List.setIfInBounds_toArray, List.set_cons_zero, List.set_cons_succ]
      refine wpAnyH_on (bu11') (fun u11 hu11 bu11 => ?_)
      replace FT := on FT bu11
      replace FB := on FB bu11
      replace FW := on FW bu11
      have FV : Hid (∀ x, From u11 x → Sl x (.slice ta NA.length tc) NA) := fun x hx => Sl.kept (by rw [hu11.out]; exact su11) hx
      clear su11
      refine wpAnyH_ready (rs := [0, 6]) (by kernel_rfl) (by simp) ?_
      refine AllReadyH.cons (o := { dst := some 5, op := Op.buildSlice 26 1 #[(0, Operand.const (Value.int IntKind.u8 1))], type := 26, pos := "delta.go:247", after := #[], guard := none }) rfl (fun KK hKK => ?_) ?_
      · have su12 := sl_lit (w := u11) 1 (by omega) (by omega)
        go_simp
        refine hKK.out _ _ (al_below _ _) (fun _ => ?_)
        clear hKK KK
        try simp only [Act.put, List.setIfInBounds_toArray, List.set_cons_zero, List.set_cons_succ]
        refine wpAnyH_on (al_below _ _) (fun u12 hu12 bu12 => ?_)
        replace FT := on FT bu12
        replace FB := on FB bu12
        replace FW := on FW bu12
        replace FV := on FV bu12
        have FZ : Hid (∀ x, From u12 x → Sl x (.slice (some ⟨u11.heap.size, 0, none⟩) 1 1) [1]) := fun x hx => Sl.kept (by rw [hu12.out]; exact su12) hx
        clear su12
        refine wpAnyH_ready (rs := [6]) (by kernel_rfl) (by simp) ?_
        refine AllReadyH.cons (o := { dst := some 11, op := Op.call { callee := Callee.value (Operand.func 32), args := #[Operand.tmp 10], argTypes := #[3] }, type := 26, pos := "delta.go:247", after := #[{ on := 5, ground := Ground.data }, { on := 3, ground := Ground.chain }], guard := none }) rfl (fun KK hKK => ?_) ?_
        · go_simp
          refine (CNN.out _ (FW.out _ (Below.refl _ _))).mono ?_
          rintro e u13' ⟨vu13, rfl, su13, bu13'⟩
          obtain ⟨na, nc, rfl, -⟩ := id su13
          (try go_wp2_with fail)
          refine hKK.out _ _ (bu13') (fun _ => ?_)
          clear hKK KK
          try simp only [Act.put, List.setIfInBounds_toArray, List.set_cons_zero, List.set_cons_succ]
          refine wpAnyH_on (bu13') (fun u13 hu13 bu13 => ?_)
          replace FT := on FT bu13
          replace FB := on FB bu13
          replace FW := on FW bu13
          replace FV := on FV bu13
          replace FZ := on FZ bu13
          have FN : Hid (∀ x, From u13 x → Sl x (.slice na NN.length nc) NN) := fun x hx => Sl.kept (by rw [hu13.out]; exact su13) hx
          clear su13
          refine wpAnyH_ready (rs := [7]) (by kernel_rfl) (by simp) ?_
          refine AllReadyH.cons (o := { dst := some 12, op := Op.buildSlice 22 3 #[(0, Operand.tmp 5), (1, Operand.tmp 8), (2, Operand.tmp 11)], type := 22, pos := "delta.go:247", after := #[{ on := 0, ground := Ground.data }, { on := 3, ground := Ground.data }, { on := 6, ground := Ground.data }], guard := none }) rfl (fun KK hKK => ?_) ?_
          · have pu14 := partsL (w := u13) [.slice (some ⟨u11.heap.size, 0, none⟩) 1 1, .slice ta NA.length tc, .slice na NN.length nc] [[1], NA, NN] (by simp) (three_get (P := fun u X => Sl u13 u X) (FZ.out _ (Below.refl _ _)) (FV.out _ (Below.refl _ _)) (FN.out _ (Below.refl _ _)))
            go_simp
            refine hKK.out _ _ (al_below _ _) (fun _ => ?_)
            clear hKK KK
            try simp only [Act.put, List.setIfInBounds_toArray, List.set_cons_zero, List.set_cons_succ]
            refine wpAnyH_on (al_below _ _) (fun u14 hu14 bu14 => ?_)
            replace FT := on FT bu14
            replace FB := on FB bu14
            replace FW := on FW bu14
            replace FV := on FV bu14
            replace FZ := on FZ bu14
            replace FN := on FN bu14
            have FP : Hid (∀ x, From u14 x → Fi.Parts x (some ⟨u13.heap.size, 0, none⟩) [[1], NA, NN]) := fun x hx => fparts_kept (by rw [hu14.out]; exact pu14) hx
            clear pu14
            refine wpAnyH_ready (rs := [8]) (by kernel_rfl) (by simp) ?_
            refine AllReadyH.cons (o := { dst := some 13, op := Op.call { callee := Callee.value (Operand.func 24), args := #[Operand.tmp 12], argTypes := #[22] }, type := 26, pos := "delta.go:247", after := #[{ on := 7, ground := Ground.data }, { on := 6, ground := Ground.chain }], guard := none }) rfl (fun KK hKK => ?_) ?_
            · have lwu15 : w.heap.size ≤ u14.heap.size := (FB.out _ (Below.refl _ _)).size
              go_simp
              refine (CJ.out _ _ (FP.out _ (Below.refl _ _))).mono ?_
              rintro e u15' ⟨vu15, rfl, ou15, bu15'⟩
              obtain ⟨ja, jc, rfl⟩ := Ow.shape ou15
              (try go_wp2_with fail)
              refine hKK.out _ _ (bu15') (fun _ => ?_)
              clear hKK KK
              try simp only [Act.put, List.setIfInBounds_toArray, List.set_cons_zero, List.set_cons_succ]
              refine wpAnyH_on (bu15') (fun u15 hu15 bu15 => ?_)
              replace FT := on FT bu15
              replace FB := on FB bu15
              replace FW := on FW bu15
              replace FV := on FV bu15
              replace FZ := on FZ bu15
              replace FN := on FN bu15
              replace FP := on FP bu15
              have OZ : Hid (Ow u15 w.heap.size (.slice ja Y.length jc) Y) := by unfold Hid; rw [hu15.out]; exact Ow.mono ou15 lwu15
              clear ou15
              refine wpAnyH_take (i := 9) (oi := { dst := some 2, op := Op.assign (Operand.tmp 13), type := 26, pos := "delta.go:247", after := #[{ on := 8, ground := Ground.data }, { on := 8, ground := Ground.chain }, { on := 0, ground := Ground.phase }, { on := 1, ground := Ground.phase }, { on := 2, ground := Ground.phase }, { on := 3, ground := Ground.phase }, { on := 4, ground := Ground.phase }, { on := 5, ground := Ground.phase }, { on := 6, ground := Ground.phase }, { on := 7, ground := Ground.phase }, { on := 8, ground := Ground.phase }], guard := none }) (v := ?vr16) rfl (by kernel_rfl) (by kernel_rfl) (by kernel_rfl) (fun _ _ _ h => h) (Or.inl ⟨by rfl, ?yr16⟩) (Below.refl _ _) ?rr16
              case yr16 => (intro w hSw; go_simp; try with_reducible rfl)
              try simp only [Act.put, List.setIfInBounds_toArray, List.set_cons_zero, List.set_cons_succ]
              refine wpAnyH_done (by kernel_rfl) ?_ _
              have BZ : Hid (Below w.heap.size w u15) := FB.out _ (Below.refl _ _)
              go_wp2
              go_ret
              exact ⟨_, rfl, OZ.out, BZ.out⟩
            exact AllReadyH.nil
          exact AllReadyH.nil
        exact AllReadyH.nil
      refine AllReadyH.cons (o := { dst := some 11, op := Op.call { callee := Callee.value (Operand.func 32), args := #[Operand.tmp 10], argTypes := #[3] }, type := 26, pos := "delta.go:247", after := #[{ on := 5, ground := Ground.data }, { on := 3, ground := Ground.chain }], guard := none }) rfl (fun KK hKK => ?_) ?_
      · go_simp
        refine (CNN.out _ (FW.out _ (Below.refl _ _))).mono ?_
        rintro e u17' ⟨vu17, rfl, su17, bu17'⟩
        obtain ⟨na, nc, rfl, -⟩ := id su17
        (try go_wp2_with fail)
        refine hKK.out _ _ (bu17') (fun _ => ?_)
        clear hKK KK
        try simp only [Act.put, List.setIfInBounds_toArray, List.set_cons_zero, List.set_cons_succ]
        refine wpAnyH_on (bu17') (fun u17 hu17 bu17 => ?_)
        replace FT := on FT bu17
        replace FB := on FB bu17
        replace FW := on FW bu17
        replace FV := on FV bu17
        have FN : Hid (∀ x, From u17 x → Sl x (.slice na NN.length nc) NN) := fun x hx => Sl.kept (by rw [hu17.out]; exact su17) hx
        clear su17
        refine wpAnyH_ready (rs := [0]) (by kernel_rfl) (by simp) ?_
        refine AllReadyH.cons (o := { dst := some 5, op := Op.buildSlice 26 1 #[(0, Operand.const (Value.int IntKind.u8 1))], type := 26, pos := "delta.go:247", after := #[], guard := none }) rfl (fun KK hKK => ?_) ?_
        · have su18 := sl_lit (w := u17) 1 (by omega) (by omega)
          go_simp
          refine hKK.out _ _ (al_below _ _) (fun _ => ?_)
          clear hKK KK
          try simp only [Act.put, List.setIfInBounds_toArray, List.set_cons_zero, List.set_cons_succ]
          refine wpAnyH_on (al_below _ _) (fun u18 hu18 bu18 => ?_)
          replace FT := on FT bu18
          replace FB := on FB bu18
          replace FW := on FW bu18
          replace FV := on FV bu18
          replace FN := on FN bu18
          have FZ : Hid (∀ x, From u18 x → Sl x (.slice (some ⟨u17.heap.size, 0, none⟩) 1 1) [1]) := fun x hx => Sl.kept (by rw [hu18.out]; exact su18) hx
          clear su18
          refine wpAnyH_ready (rs := [7]) (by kernel_rfl) (by simp) ?_
          refine AllReadyH.cons (o := { dst := some 12, op := Op.buildSlice 22 3 #[(0, Operand.tmp 5), (1, Operand.tmp 8), (2, Operand.tmp 11)], type := 22, pos := "delta.go:247", after := #[{ on := 0, ground := Ground.data }, { on := 3, ground := Ground.data }, { on := 6, ground := Ground.data }], guard := none }) rfl (fun KK hKK => ?_) ?_
          · have pu19 := partsL (w := u18) [.slice (some ⟨u17.heap.size, 0, none⟩) 1 1, .slice ta NA.length tc, .slice na NN.length nc] [[1], NA, NN] (by simp) (three_get (P := fun u X => Sl u18 u X) (FZ.out _ (Below.refl _ _)) (FV.out _ (Below.refl _ _)) (FN.out _ (Below.refl _ _)))
            go_simp
            refine hKK.out _ _ (al_below _ _) (fun _ => ?_)
            clear hKK KK
            try simp only [Act.put, List.setIfInBounds_toArray, List.set_cons_zero, List.set_cons_succ]
            refine wpAnyH_on (al_below _ _) (fun u19 hu19 bu19 => ?_)
            replace FT := on FT bu19
            replace FB := on FB bu19
            replace FW := on FW bu19
            replace FV := on FV bu19
            replace FN := on FN bu19
            replace FZ := on FZ bu19
            have FP : Hid (∀ x, From u19 x → Fi.Parts x (some ⟨u18.heap.size, 0, none⟩) [[1], NA, NN]) := fun x hx => fparts_kept (by rw [hu19.out]; exact pu19) hx
            clear pu19
            refine wpAnyH_ready (rs := [8]) (by kernel_rfl) (by simp) ?_
            refine AllReadyH.cons (o := { dst := some 13, op := Op.call { callee := Callee.value (Operand.func 24), args := #[Operand.tmp 12], argTypes := #[22] }, type := 26, pos := "delta.go:247", after := #[{ on := 7, ground := Ground.data }, { on := 6, ground := Ground.chain }], guard := none }) rfl (fun KK hKK => ?_) ?_
            · have lwu20 : w.heap.size ≤ u19.heap.size := (FB.out _ (Below.refl _ _)).size
              go_simp
              refine (CJ.out _ _ (FP.out _ (Below.refl _ _))).mono ?_
              rintro e u20' ⟨vu20, rfl, ou20, bu20'⟩
              obtain ⟨ja, jc, rfl⟩ := Ow.shape ou20
              (try go_wp2_with fail)
              refine hKK.out _ _ (bu20') (fun _ => ?_)
              clear hKK KK
              try simp only [Act.put, List.setIfInBounds_toArray, List.set_cons_zero, List.set_cons_succ]
              refine wpAnyH_on (bu20') (fun u20 hu20 bu20 => ?_)
              replace FT := on FT bu20
              replace FB := on FB bu20
              replace FW := on FW bu20
              replace FV := on FV bu20
              replace FN := on FN bu20
              replace FZ := on FZ bu20
              replace FP := on FP bu20
              have OZ : Hid (Ow u20 w.heap.size (.slice ja Y.length jc) Y) := by unfold Hid; rw [hu20.out]; exact Ow.mono ou20 lwu20
              clear ou20
              refine wpAnyH_take (i := 9) (oi := { dst := some 2, op := Op.assign (Operand.tmp 13), type := 26, pos := "delta.go:247", after := #[{ on := 8, ground := Ground.data }, { on := 8, ground := Ground.chain }, { on := 0, ground := Ground.phase }, { on := 1, ground := Ground.phase }, { on := 2, ground := Ground.phase }, { on := 3, ground := Ground.phase }, { on := 4, ground := Ground.phase }, { on := 5, ground := Ground.phase }, { on := 6, ground := Ground.phase }, { on := 7, ground := Ground.phase }, { on := 8, ground := Ground.phase }], guard := none }) (v := ?vr21) rfl (by kernel_rfl) (by kernel_rfl) (by kernel_rfl) (fun _ _ _ h => h) (Or.inl ⟨by rfl, ?yr21⟩) (Below.refl _ _) ?rr21
              case yr21 => (intro w hSw; go_simp; try with_reducible rfl)
              try simp only [Act.put, List.setIfInBounds_toArray, List.set_cons_zero, List.set_cons_succ]
              refine wpAnyH_done (by kernel_rfl) ?_ _
              have BZ : Hid (Below w.heap.size w u20) := FB.out _ (Below.refl _ _)
              go_wp2
              go_ret
              exact ⟨_, rfl, OZ.out, BZ.out⟩
            exact AllReadyH.nil
          exact AllReadyH.nil
        exact AllReadyH.nil
      exact AllReadyH.nil
    exact AllReadyH.nil
  | false =>
    have HBY : Hid (Fi.textB (strB x.d) = Fi.numB x.d.length ++ x.d) := text_strB x.d hs.bytes
    have hsz : (strB x.d).size = x.d.length := by simp [strB, ByteArray.size]
    have CT : Hid (∀ W, Fi.Wid W → Calls Tryd.prog 33 #[.string (strB x.d)] W fun r w' => ∃ v, r = .returned v ∧ Sl w' v (Fi.textB (strB x.d)) ∧ Below W.heap.size W w') := fun W hw => Fi.ftext_any _ W hw (by rw [hsz]; omega)
    have CJ : Hid (∀ W (g : Nat), Fi.Parts W (some ⟨g, 0, none⟩) [[0], Fi.textB (strB x.d)] → Calls Tryd.prog 24 #[.slice (some ⟨g, 0, none⟩) 2 2] W fun r w' => ∃ v, r = .returned v ∧ Ow w' W.heap.size v (layX x) ∧ Below W.heap.size W w') := fun W g hP => by
      have := fjoin_any (some ⟨g, 0, none⟩) 2 _ W hP (by rw [HBY.out]; simp; omega)
      rw [show [[0], Fi.textB (strB x.d)].flatten = layX x by rw [HBY.out]; unfold layX; rw [if_neg (by rw [hc]; simp)]; simp] at this
      exact this
    rw [hc] at hW1
    obtain ⟨W2, hW2⟩ : ∃ W2, W2 = W1.alloc (.cells #[.int .u8 0] 5) := ⟨_, rfl⟩
    have b2 : Below W1.heap.size W1 W2 := by rw [hW2]; exact al_below _ _
    have s2 : Sl W2 (.slice (some ⟨W1.heap.size, 0, none⟩) 1 1) [0] := by rw [hW2]; exact sl_lit 0 (by omega) (by omega)
    have cv := (hs.kept (b1.trans (b2.mono b1.size))).conv
    have ct := CT.out W2 (FW.out _ b2)
    have L1 : w.heap.size + 1 = W1.heap.size := by rw [hW1]; simp
    have B2 : Hid (Below w.heap.size w W2) := FB.out _ b2
    rw [hW2, hW1] at cv
    have d3 : W2.cell? ⟨w.heap.size, 3, none⟩ = some (.slice ua un uc) := by
      have g2 := (b2.block _ hlt).trans g1
      rw [cell_of_row _ _ _ _ _ _ g2]
      rfl
    have HSZ : Hid (W1.heap.size = w.heap.size + 1) := L1.symm
    have S2 : Hid (Sl W2 (.slice (some ⟨W1.heap.size, 0, none⟩) 1 1) [0]) := s2
    unfold xval
    rw [hc]
    clear b1 g1 hs hun hlt ht hp ln1 ln2 ln3 HBY hsz CT b2 s2 L1 FT FW FB CN hc
    generalize layX x = Y at *
    generalize Fi.textB (strB x.d) = TT at *
    generalize strB x.d = SS at *
    generalize x.a = xa at *
    generalize x.n = xn at *
    go_enter Tryd.func23, Tryd.ntmps23
    go_wp2_with fail
    rw [← hW1, ← hW2]
    clear hW1 hW2 cv
    refine ct.mono ?_
    rintro e w3 ⟨v3, rfl, s3, b3⟩
    clear ct
    have P4 := partsL (w := w3) [.slice (some ⟨W1.heap.size, 0, none⟩) 1 1, v3] [[0], TT] (by simp) (two_get (P := fun u X => Sl w3 u X) (S2.out.kept b3) s3)
    obtain ⟨W4, hW4⟩ : ∃ W4, W4 = w3.alloc (.cells #[.slice (some ⟨W1.heap.size, 0, none⟩) 1 1, v3] 26) := ⟨_, rfl⟩
    have b4 : Below w3.heap.size w3 W4 := by rw [hW4]; exact al_below _ _
    have B4 : Hid (Below w.heap.size w W4) := B2.out.trans ((b3.trans (b4.mono b3.size)).mono B2.out.size)
    have cj := CJ.out W4 w3.heap.size (by rw [hW4]; exact P4)
    rw [HSZ.out] at hW4
    obtain ⟨ta, tc, rfl, -⟩ := id s3
    clear s3 b3 P4 b4 CJ S2 d3 HSZ
    generalize TT.length = nt at *
    go_wp2_with fail
    rw [← hW4]
    clear hW4
    refine cj.mono ?_
    rintro e w5 ⟨v5, rfl, o5, b5⟩
    clear cj
    have OZ : Hid (Ow w5 w.heap.size v5 Y) := o5.mono B4.out.size
    have BZ : Hid (Below w.heap.size w w5) := B4.out.trans (b5.mono B4.out.size)
    obtain ⟨ja, jc, rfl⟩ := o5.shape
    clear o5 b5
    go_wp2
    go_ret
    exact ⟨_, rfl, OZ.out, BZ.out⟩
set_option maxHeartbeats 2000000 in
theorem put_any (v : Value) (l : List Xp) (w : World) (h : XS w v l) (hl : l.length ≤ 90000) (hd : ∀ x ∈ l, x.d.length ≤ 1000000) (hw : Fi.Wid w) :
    Calls Tryd.prog 15 #[v] w fun e w' => ∃ v', e = .returned v' ∧ Ow w' w.heap.size v' (putX l) ∧ Below w.heap.size w w' := by
  obtain ⟨a, c, rfl, h2, h3, h4⟩ := h.shape
  have HS : Hid (XS w (.slice a l.length c) l) := h
  have HD : Hid (∀ j, j < l.length → (atX l j).d.length ≤ 1000000) := fun j hj => hd _ (atX_mem l j hj)
  have HBIG : Hid ((l.map layX).flatten.length ≤ 200000000000000) := by
    unfold Hid
    have : ∀ m : List Xp, (∀ x ∈ m, x.d.length ≤ 1000000) → (m.map layX).flatten.length ≤ m.length * 1000017 := by
      intro m
      induction m with
      | nil => intro _; simp
      | cons x m ih =>
        intro hm
        have h1 := ih fun y hy => hm y (by simp [hy])
        have h2 := layX_len x
        have h3 := hm x (by simp)
        rw [List.map_cons, List.flatten_cons, List.length_append, List.length_cons]
        omega
    have := this l hd
    omega
  have HW : Hid (∀ W, Below w.heap.size w W → Fi.Wid W) := fun W hb => Wid.kept hw hb
  have HY : Hid (putX l = (l.map layX).flatten) := rfl
  obtain ⟨L, hn'⟩ : ∃ L, L = l.length := ⟨_, rfl⟩
  have HN : Hid (L = l.length) := hn'
  rw [← hn'] at HS HD h2 hl ⊢
  clear h h3 h4 hn' hw hd
  generalize putX l = Y at *
  go_enter Tryd.func15, Tryd.ntmps15
  go_wp2_with fail
  go_loopw [3, 8] (fun s q wr => ∃ j : Nat, j ≤ L ∧ q = .int .i64 j ∧ LP wr w.heap.size s ((l.take j).map layX) ∧ Below w.heap.size w wr) (fun _ q _ => L - (intOf q).toNat)
  case atStart => exact ⟨0, by omega, rfl, LP.nil _ _, Below.refl _ _⟩
  case round =>
    obtain ⟨j, hj, rfl, oe, bel⟩ := hrel
    have HB : Hid (Below w.heap.size w wr) := bel
    have HO : Hid (LP wr w.heap.size u3 ((l.take j).map layX)) := oe
    have hlj : ((l.take j).map layX).length = j := by rw [List.length_map, List.length_take, ← HN.out]; omega
    obtain ⟨va, vc, rfl, -⟩ := oe.parts (by rw [hlj]; omega)
    rw [hlj] at HO ⊢
    clear bel oe
    by_cases hlt : j < L
    · have lt2 : (j : Int) < (L : Int) := by omega
      obtain ⟨b, off, ua, un, uc, rfl, c0, c1, c2, c3, hun, sd⟩ := (HS.out.kept HB.out).at j (by rw [← HN.out]; exact hlt)
      have hx := HD.out j hlt
      have HT : Hid ((l.take (j + 1)).map layX = (l.take j).map layX ++ [layX (atX l j)]) := by unfold Hid; rw [takeX_at l j (by rw [← HN.out]; exact hlt)]; simp
      generalize atX l j = x at *
      obtain ⟨W1, hW1⟩ : ∃ W1, W1 = wr.alloc (.cells #[.bool x.c, .int .i64 x.a, .int .i64 x.n, .slice ua un uc] 46) := ⟨_, rfl⟩
      have b1 : Below wr.heap.size wr W1 := by rw [hW1]; exact al_below _ _
      have B1 : Hid (Below w.heap.size w W1) := HB.out.trans (b1.mono HB.out.size)
      have CO := lay_any x ua un uc W1 (sd.kept b1) (HW.out _ B1.out) (by omega)
      have O1 : Hid (LP W1 w.heap.size (.slice va j vc) ((l.take j).map layX)) := HO.out.below b1
      clear b1 HO hx hun sd
      generalize (l.take j).map layX = LL at *
      have HJ : Hid (LL.length = j) := hlj
      clear hlj
      generalize layX x = X at *
      go_wp2_with fail
      rw [← hW1]
      clear hW1
      refine CO.mono ?_
      rintro e w2 ⟨u, rfl, o2, b2⟩
      clear CO
      obtain ⟨W3, hW3⟩ : ∃ W3, W3 = w2.alloc (.cells #[u] 26) := ⟨_, rfl⟩
      have b3 : Below w2.heap.size w2 W3 := by rw [hW3]; exact al_below _ _
      have b13 : Below W1.heap.size W1 W3 := b2.trans (b3.mono b2.size)
      have B3 : Hid (Below w.heap.size w W3) := B1.out.trans (b13.mono B1.out.size)
      have L3 : Hid (LP W3 w.heap.size (.slice va j vc) LL) := O1.out.below b13
      have O3 : Hid (Ow W3 w.heap.size u X) := (o2.mono B1.out.size).below b3
      have K3 : Hid (W3.cell? ⟨w2.heap.size, 0, none⟩ = some u) := by unfold Hid; rw [hW3, World.cell?_alloc_at _ _ _ _ rfl]; rfl
      obtain ⟨ua', uc', rfl⟩ := o2.shape
      have HW3 : Hid (w2.alloc (.cells #[.slice ua' X.length uc'] 26) = W3) := hW3.symm
      clear o2 b2 b3 b13 O1 hW3
      generalize X.length = nx at *
      go_wp2_with (at_builtin; rw [HW3.out]; refine wpList_append_lp rfl _ _ rfl w.heap.size _ LL rfl L3.out w2.heap.size (.slice ua' nx uc') X 1 O3.out rfl K3.out (by rw [HJ.out]; omega) B3.out.size (Hid.out ?_))
      unfold Hid
      intro v4 w4 r4 g4
      have B4 : Hid (Below w.heap.size w w4) := B3.out.trans g4
      have O4 : Hid (LP w4 w.heap.size v4 ((l.take (j + 1)).map layX)) := by
        unfold Hid
        rw [HT.out]
        exact r4
      clear r4 g4 L3 O3 K3
      go_wp2
      go_roundw
      case rel => exact ⟨j + 1, by omega, by go_num, O4.out, B4.out⟩
      case measure => simp [intOf]; omega
    · obtain rfl : j = L := by omega
      have h1 := HO.out
      have h2 : l.take j = l := by rw [HN.out, List.take_length]
      rw [h2] at h1
      obtain ⟨p, c', e, hP⟩ := h1.parts (by rw [List.length_map, ← HN.out]; omega)
      have cj := fjoin_any p c' _ wr hP HBIG.out
      rw [← HY.out] at cj
      have e2 : (l.map layX).length = j := by rw [List.length_map, ← HN.out]
      rw [e2] at cj e
      cases e
      clear h1 h2 hP e2 hlj
      go_wp2_with fail
      refine cj.mono ?_
      rintro e w5 ⟨v5, rfl, o5, b5⟩
      clear cj
      have OZ : Hid (Ow w5 w.heap.size v5 Y) := o5.mono HB.out.size
      have BZ : Hid (Below w.heap.size w w5) := HB.out.trans (b5.mono HB.out.size)
      obtain ⟨ja, jc, rfl⟩ := o5.shape
      clear o5 b5
      go_wp2
      go_ret
      exact ⟨_, rfl, OZ.out, BZ.out⟩
end Go.Proofs.YtfccjeepmhgckaaDoor
