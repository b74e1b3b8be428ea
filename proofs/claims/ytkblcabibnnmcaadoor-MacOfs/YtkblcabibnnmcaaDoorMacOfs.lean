/-
  MacOfs answers true for every key, all bytes and every cut, and nothing that was there is changed; the three package-level tables start as the program's text lays them (the card ties them).
-/
import Derived.Test.YtkblcabibnnmcaaDoorLw
import Derived.Test.YtkblcabibnnmcaaDoorROp
namespace Go.Proofs.YtkblcabibnnmcaaDoor.macOfs
open Go.ChangeShapes Go.WideShapes Go.ChangeAt Go.RowKit Go.Deep Go.ChangeMaps

set_option maxHeartbeats 4000000 in
set_option maxRecDepth 100000 in
theorem walk (ka : Option Addr) (kl kcp : Nat) (zs : List Int) (a : Option Addr) (len cap : Nat) (ys : List Int) (c : Int) (w : World) (hw : Tabs w) (hk : Bytes w ka kl kcp zs) (hb : Bytes w a len cap ys) (wc : (Lit.int .u16 c).wf = true) :
    Calls Tryd.prog 3 #[.slice ka kl kcp, .slice a len cap, .int .u16 c] w fun e w' => e = .returned (.bool true) ∧ Below w.heap.size w w' := by
  have hc := bounds_u16 wc
  have hm1 : kl ≤ 140737488351232 := by have := hk.2.2; omega
  have hm2 : len ≤ 140737488351232 := by have := hb.2.2; omega
  have hm3 : len ≤ cap := hb.2.2.1
  have hm4 : cap ≤ 140737488351232 := hb.2.2.2.1
  clear wc
  by_cases h1 : 200 < kl
  · clear hk hb
    have g1 : (kl : Int) > 200 := by omega
    go_enter Tryd.func3, Tryd.ntmps3
    go_wp2_with (go_at_call 8; refine (awake_any _ hw).mono ?_; rintro e w' ⟨rfl, hbel⟩)
    go_ret
    exact ⟨rfl, hbel⟩
  by_cases h2 : 200 < len
  · clear hk hb
    have g1 : ¬ (kl : Int) > 200 := by omega
    have g2 : (len : Int) > 200 := by omega
    go_enter Tryd.func3, Tryd.ntmps3
    go_wp2_with (go_at_call 8; refine (awake_any _ hw).mono ?_; rintro e w' ⟨rfl, hbel⟩)
    go_ret
    exact ⟨rfl, hbel⟩
  have g1 : ¬ (kl : Int) > 200 := by omega
  have g2 : ¬ (len : Int) > 200 := by omega
  have sk := hk.sl
  have sb := hb.sl
  have hlx : (zs.take kl).length = kl := by rw [List.length_take]; have := hk.2.1; have := hk.2.2.1; omega
  have hly : (ys.take len).length = len := by rw [List.length_take]; have := hb.2.1; omega
  obtain ⟨k, hkk⟩ : ∃ k : Nat, c % ((len : Int) + 1) = k := ⟨(c % ((len : Int) + 1)).toNat, by have := Int.emod_nonneg c (show (len : Int) + 1 ≠ 0 by omega); omega⟩
  have hkl : k ≤ len := by have := Int.emod_lt_of_pos c (show 0 < (len : Int) + 1 by omega); omega
  have tm : Int.tmod c ((len : Int) + 1) = (k : Int) := by rw [Int.tmod_eq_emod_of_nonneg (by omega)]; exact hkk
  have cw : IntKind.i64.wrap c = c := by simp [IntKind.wrap, IntKind.bits, IntKind.signed]; omega
  have kw : IntKind.i64.wrap (k : Int) = (k : Int) := by simp [IntKind.wrap, IntKind.bits, IntKind.signed]; omega
  have nz : ¬ (len : Int) + 1 = 0 := by omega
  have hd := hb.drop k hkl
  have st := sb.take k hkl
  generalize zs.take kl = K at *
  generalize ys.take len = X at *
  have HLK : Hid (K.length = kl) := hlx
  have HLX : Hid (X.length = len) := hly
  have FK : Hid (∀ x, From w x → Sl x (.slice ka kl kcp) K) := fun x hx => sk.kept hx
  have FX : Hid (∀ x, From w x → Sl x (.slice a len cap) X) := fun x hx => sb.kept hx
  have FA : Hid (∀ x, From w x → Sl x (.slice a k cap) (X.take k)) := fun x hx => st.kept hx
  have FW : Hid (∀ x, From w x → Tabs x) := fun x hx => hw.kept hx
  have FZ : Hid (∀ x, From w x → Below w.heap.size w x) := fun x hx => hx
  have EQ : Hid (∀ W, (binOp BinOp.eql 26 (.agg (u8s (hmac K X))) (.agg (u8s (hmac K X)))).run Tryd.prog W = .ok (.bool true) W) := fun W => eqb_same (hmac K X) (hmac_len _ _) W
  have HFL : Hid ([X.take k, X.drop k].flatten = X) := by unfold Hid; simp
  have HXL : Hid ([X.take k, X.drop k].flatten.length ≤ 10000000000000000) := by unfold Hid; rw [HFL.out, HLX.out]; omega
  have C9 : Hid (∀ W p, Tab W → Sl W (.slice ka kl kcp) K → Parts W p [X.take k, X.drop k] → p ≠ none → Calls Tryd.prog 9 #[.slice ka kl kcp, .slice p 2 2] W fun e w' => e = .returned (.agg (u8s (hmac K X))) ∧ Below W.heap.size W w') := fun W p h1 h2 h3 h4 => by
    have := mof_any (.slice ka kl kcp) K p 2 [X.take k, X.drop k] W h1 h2 h3 (fun e => absurd e h4) (by simp) (by rw [HLK.out]; omega) HXL.out
    rw [HFL.out] at this
    exact this
  have C10 : Hid (∀ W, Sl W (.slice ka kl kcp) K → Sl W (.slice a len cap) X → Calls Tryd.prog 10 #[.slice ka kl kcp, .slice a len cap] W fun e w' => e = .returned (.agg (u8s (hmac K X))) ∧ Below W.heap.size W w') := fun W h1 h2 =>
    rmof_any _ _ K X W h1 h2 (by rw [HLK.out]; omega) (by rw [HLX.out]; omega)
  generalize u8s (hmac K X) = U at *
  clear hk hb hw sk sb hlx hly hkk st HXL HFL HLK
  rcases hd with ⟨hck, sd⟩ | ⟨hck, b, off, rfl, sd⟩
  · have hlk : k = len := by omega
    have FD : Hid (∀ x, From w x → Sl x (.slice a 0 0) (X.drop k)) := fun x hx => sd.kept hx
    clear sd
    subst hlk
    have hck' : k = cap := hck.symm
    subst hck'
    have g3 : (k : Int) ≤ (k : Int) := by omega
    go_enter Tryd.func3, Tryd.ntmps3
    go_wp2_with fail
    refine wp_region_held_drew (S := From w) (by kernel_rfl) ((Below.refl _ _).drew) (fun _ => ?_)
    refine wpAnyH_on ((Below.refl _ _).drew) (fun u0 hu0 bu0 => ?_)
    replace FK := on FK bu0
    replace FX := on FX bu0
    replace FA := on FA bu0
    replace FD := on FD bu0
    replace FW := on FW bu0
    replace FZ := on FZ bu0
    refine wpAnyH_take (i := 0) (oi := { dst := some 23, op := Op.move (Operand.tmp 0), type := 22, pos := "law.go:24", after := #[], guard := none }) (v := ?va1) rfl (by kernel_rfl) (by kernel_rfl) (by kernel_rfl) (fun _ _ _ h => h) (Or.inl ⟨by rfl, ?ya1⟩) (Below.refl _ _) ?ra1
    case ya1 => (intro w hSw; go_simp; try with_reducible rfl)
    try simp only [Act.put, List.setIfInBounds_toArray, List.set_cons_zero, List.set_cons_succ]
    refine wpAnyH_take (i := 1) (oi := { dst := some 24, op := Op.move (Operand.tmp 1), type := 22, pos := "law.go:24", after := #[], guard := none }) (v := ?va2) rfl (by kernel_rfl) (by kernel_rfl) (by kernel_rfl) (fun _ _ _ h => h) (Or.inl ⟨by rfl, ?ya2⟩) (Below.refl _ _) ?ra2
    case ya2 => (intro w hSw; go_simp; try with_reducible rfl)
    try simp only [Act.put, List.setIfInBounds_toArray, List.set_cons_zero, List.set_cons_succ]
    refine wpAnyH_take (i := 2) (oi := { dst := some 25, op := Op.move (Operand.tmp 7), type := 3, pos := "law.go:24", after := #[], guard := none }) (v := ?va3) rfl (by kernel_rfl) (by kernel_rfl) (by kernel_rfl) (fun _ _ _ h => h) (Or.inl ⟨by rfl, ?ya3⟩) (Below.refl _ _) ?ra3
    case ya3 => (intro w hSw; go_simp; try with_reducible rfl)
    try simp only [Act.put, List.setIfInBounds_toArray, List.set_cons_zero, List.set_cons_succ]
    refine wpAnyH_take (i := 3) (oi := { dst := some 26, op := Op.slice 22 (Operand.tmp 24) none (some (Operand.tmp 25)) none, type := 22, pos := "law.go:24", after := #[{ on := 1, ground := Ground.data }, { on := 2, ground := Ground.data }], guard := none }) (v := ?va4) rfl (by kernel_rfl) (by kernel_rfl) (by kernel_rfl) (fun _ _ _ h => h) (Or.inl ⟨by rfl, ?ya4⟩) (Below.refl _ _) ?ra4
    case ya4 => (intro w hSw; go_simp; try with_reducible rfl)
    try simp only [Act.put, List.setIfInBounds_toArray, List.set_cons_zero, List.set_cons_succ]
    refine wpAnyH_take (i := 4) (oi := { dst := some 27, op := Op.move (Operand.tmp 1), type := 22, pos := "law.go:24", after := #[], guard := none }) (v := ?va5) rfl (by kernel_rfl) (by kernel_rfl) (by kernel_rfl) (fun _ _ _ h => h) (Or.inl ⟨by rfl, ?ya5⟩) (Below.refl _ _) ?ra5
    case ya5 => (intro w hSw; go_simp; try with_reducible rfl)
    try simp only [Act.put, List.setIfInBounds_toArray, List.set_cons_zero, List.set_cons_succ]
    refine wpAnyH_take (i := 5) (oi := { dst := some 28, op := Op.move (Operand.tmp 7), type := 3, pos := "law.go:24", after := #[], guard := none }) (v := ?va6) rfl (by kernel_rfl) (by kernel_rfl) (by kernel_rfl) (fun _ _ _ h => h) (Or.inl ⟨by rfl, ?ya6⟩) (Below.refl _ _) ?ra6
    case ya6 => (intro w hSw; go_simp; try with_reducible rfl)
    try simp only [Act.put, List.setIfInBounds_toArray, List.set_cons_zero, List.set_cons_succ]
    refine wpAnyH_take (i := 6) (oi := { dst := some 29, op := Op.slice 22 (Operand.tmp 27) (some (Operand.tmp 28)) none none, type := 22, pos := "law.go:24", after := #[{ on := 4, ground := Ground.data }, { on := 5, ground := Ground.data }], guard := none }) (v := ?va7) rfl (by kernel_rfl) (by kernel_rfl) (by kernel_rfl) (fun _ _ _ h => h) (Or.inl ⟨by rfl, ?ya7⟩) (Below.refl _ _) ?ra7
    case ya7 => (intro w hSw; go_simp; try with_reducible rfl)
    try simp only [Act.put, List.setIfInBounds_toArray, List.set_cons_zero, List.set_cons_succ]
    refine wpAnyH_take (i := 9) (oi := { dst := some 32, op := Op.move (Operand.tmp 0), type := 22, pos := "law.go:24", after := #[], guard := none }) (v := ?va8) rfl (by kernel_rfl) (by kernel_rfl) (by kernel_rfl) (fun _ _ _ h => h) (Or.inl ⟨by rfl, ?ya8⟩) (Below.refl _ _) ?ra8
    case ya8 => (intro w hSw; go_simp; try with_reducible rfl)
    try simp only [Act.put, List.setIfInBounds_toArray, List.set_cons_zero, List.set_cons_succ]
    refine wpAnyH_take (i := 10) (oi := { dst := some 33, op := Op.move (Operand.tmp 1), type := 22, pos := "law.go:24", after := #[], guard := none }) (v := ?va9) rfl (by kernel_rfl) (by kernel_rfl) (by kernel_rfl) (fun _ _ _ h => h) (Or.inl ⟨by rfl, ?ya9⟩) (Below.refl _ _) ?ra9
    case ya9 => (intro w hSw; go_simp; try with_reducible rfl)
    try simp only [Act.put, List.setIfInBounds_toArray, List.set_cons_zero, List.set_cons_succ]
    refine wpAnyH_ready (rs := [7]) (by kernel_rfl) (by simp) ?_
    refine AllReadyH.cons (o := { dst := some 30, op := Op.buildSlice 30 2 #[(0, Operand.tmp 26), (1, Operand.tmp 29)], type := 30, pos := "law.go:24", after := #[{ on := 3, ground := Ground.data }, { on := 6, ground := Ground.data }], guard := none }) rfl (fun KK hKK => ?_) ?_
    · have pu10 := parts2 u0 _ _ (X.take k) (X.drop k) (FA.out _ (Below.refl _ _)) (FD.out _ (Below.refl _ _))
      go_simp
      refine hKK.out _ _ (al_below _ _) (fun _ => ?_)
      clear hKK KK
      try simp only [Act.put, List.setIfInBounds_toArray, List.set_cons_zero, List.set_cons_succ]
      refine wpAnyH_on (al_below _ _) (fun u10 hu10 bu10 => ?_)
      replace FK := on FK bu10
      replace FX := on FX bu10
      replace FA := on FA bu10
      replace FD := on FD bu10
      replace FW := on FW bu10
      replace FZ := on FZ bu10
      have FP : Hid (∀ x, From u10 x → Parts x (some ⟨u0.heap.size, 0, none⟩) [X.take k, X.drop k]) := fun x hx => Parts.kept (by rw [hu10.out]; exact pu10) hx
      clear pu10
      refine wpAnyH_ready (rs := [8]) (by kernel_rfl) (by simp) ?_
      refine AllReadyH.cons (o := { dst := some 31, op := Op.call { callee := Callee.value (Operand.func 9), args := #[Operand.tmp 23, Operand.tmp 30], argTypes := #[22, 30] }, type := 26, pos := "law.go:24", after := #[{ on := 0, ground := Ground.data }, { on := 7, ground := Ground.data }], guard := none }) rfl (fun KK hKK => ?_) ?_
      · go_simp
        refine (C9.out _ _ (FW.out _ (Below.refl _ _)).1 (FK.out _ (Below.refl _ _)) (FP.out _ (Below.refl _ _)) (by simp)).mono ?_
        rintro e u11' ⟨rfl, bu11'⟩
        (try go_wp2_with fail)
        refine hKK.out _ _ (bu11') (fun _ => ?_)
        clear hKK KK
        try simp only [Act.put, List.setIfInBounds_toArray, List.set_cons_zero, List.set_cons_succ]
        refine wpAnyH_on (bu11') (fun u11 hu11 bu11 => ?_)
        replace FK := on FK bu11
        replace FX := on FX bu11
        replace FA := on FA bu11
        replace FD := on FD bu11
        replace FW := on FW bu11
        replace FZ := on FZ bu11
        replace FP := on FP bu11
        refine wpAnyH_ready (rs := [11]) (by kernel_rfl) (by simp) ?_
        refine AllReadyH.cons (o := { dst := some 34, op := Op.call { callee := Callee.value (Operand.func 10), args := #[Operand.tmp 32, Operand.tmp 33], argTypes := #[22, 22] }, type := 26, pos := "law.go:24", after := #[{ on := 9, ground := Ground.data }, { on := 10, ground := Ground.data }, { on := 8, ground := Ground.chain }], guard := none }) rfl (fun KK hKK => ?_) ?_
        · go_simp
          refine (C10.out _ (FK.out _ (Below.refl _ _)) (FX.out _ (Below.refl _ _))).mono ?_
          rintro e u12' ⟨rfl, bu12'⟩
          (try go_wp2_with fail)
          refine hKK.out _ _ (bu12') (fun _ => ?_)
          clear hKK KK
          try simp only [Act.put, List.setIfInBounds_toArray, List.set_cons_zero, List.set_cons_succ]
          refine wpAnyH_on (bu12') (fun u12 hu12 bu12 => ?_)
          replace FK := on FK bu12
          replace FX := on FX bu12
          replace FA := on FA bu12
          replace FD := on FD bu12
          replace FW := on FW bu12
          replace FZ := on FZ bu12
          replace FP := on FP bu12
          refine wpAnyH_take (i := 12) (oi := { dst := some 35, op := Op.binOp BinOp.eql 26 (Operand.tmp 31) (Operand.tmp 34) 26, type := 4, pos := "law.go:24", after := #[{ on := 8, ground := Ground.data }, { on := 11, ground := Ground.data }], guard := none }) (v := .bool true) rfl (by kernel_rfl) (by kernel_rfl) (by kernel_rfl) (fun _ _ _ h => h) (yields_eql (by rfl) _ _ _ rfl U U true rfl rfl (fun w => EQ.out w)) (Below.refl _ _) ?_
          try simp only [Act.put, List.setIfInBounds_toArray, List.set_cons_zero, List.set_cons_succ]
          refine wpAnyH_take (i := 13) (oi := { dst := some 36, op := Op.move (Operand.tmp 35), type := 4, pos := "law.go:24", after := #[{ on := 12, ground := Ground.data }, { on := 11, ground := Ground.chain }], guard := none }) (v := ?va14) rfl (by kernel_rfl) (by kernel_rfl) (by kernel_rfl) (fun _ _ _ h => h) (Or.inl ⟨by rfl, ?ya14⟩) (Below.refl _ _) ?ra14
          case ya14 => (intro w hSw; go_simp; try with_reducible rfl)
          try simp only [Act.put, List.setIfInBounds_toArray, List.set_cons_zero, List.set_cons_succ]
          refine wpAnyH_ready (rs := [14]) (by kernel_rfl) (by simp) ?_
          refine AllReadyH.cons (o := { dst := some 37, op := Op.call { callee := Callee.value (Operand.func 8), args := #[], argTypes := #[] }, type := 4, pos := "law.go:24", after := #[{ on := 13, ground := Ground.chain }, { on := 13, ground := Ground.guard }], guard := some (13, true) }) rfl (fun KK hKK => ?_) ?_
          · go_simp
            refine (awake_any _ (FW.out _ (Below.refl _ _))).mono ?_
            rintro e u15' ⟨rfl, bu15'⟩
            (try go_wp2_with fail)
            refine hKK.out _ _ (bu15') (fun _ => ?_)
            clear hKK KK
            try simp only [Act.put, List.setIfInBounds_toArray, List.set_cons_zero, List.set_cons_succ]
            refine wpAnyH_on (bu15') (fun u15 hu15 bu15 => ?_)
            replace FK := on FK bu15
            replace FX := on FX bu15
            replace FA := on FA bu15
            replace FD := on FD bu15
            replace FW := on FW bu15
            replace FZ := on FZ bu15
            replace FP := on FP bu15
            refine wpAnyH_take (i := 15) (oi := { dst := some 38, op := Op.pick (Operand.tmp 36) (Operand.tmp 37) (Operand.const (Value.bool false)), type := 4, pos := "law.go:24", after := #[{ on := 13, ground := Ground.data }, { on := 14, ground := Ground.data }], guard := none }) (v := ?va16) rfl (by kernel_rfl) (by kernel_rfl) (by kernel_rfl) (fun _ _ _ h => h) (Or.inl ⟨by rfl, ?ya16⟩) (Below.refl _ _) ?ra16
            case ya16 => (intro w hSw; go_simp; try with_reducible rfl)
            try simp only [Act.put, List.setIfInBounds_toArray, List.set_cons_zero, List.set_cons_succ]
            refine wpAnyH_take (i := 16) (oi := { dst := some 6, op := Op.assign (Operand.tmp 38), type := 4, pos := "law.go:24", after := #[{ on := 15, ground := Ground.data }, { on := 14, ground := Ground.chain }, { on := 0, ground := Ground.phase }, { on := 1, ground := Ground.phase }, { on := 2, ground := Ground.phase }, { on := 3, ground := Ground.phase }, { on := 4, ground := Ground.phase }, { on := 5, ground := Ground.phase }, { on := 6, ground := Ground.phase }, { on := 7, ground := Ground.phase }, { on := 8, ground := Ground.phase }, { on := 9, ground := Ground.phase }, { on := 10, ground := Ground.phase }, { on := 11, ground := Ground.phase }, { on := 12, ground := Ground.phase }, { on := 13, ground := Ground.phase }, { on := 14, ground := Ground.phase }, { on := 15, ground := Ground.phase }], guard := none }) (v := ?va17) rfl (by kernel_rfl) (by kernel_rfl) (by kernel_rfl) (fun _ _ _ h => h) (Or.inl ⟨by rfl, ?ya17⟩) (Below.refl _ _) ?ra17
            case ya17 => (intro w hSw; go_simp; try with_reducible rfl)
            try simp only [Act.put, List.setIfInBounds_toArray, List.set_cons_zero, List.set_cons_succ]
            refine wpAnyH_done (by kernel_rfl) ?_ _
            go_wp2
            go_ret
            exact ⟨rfl, FZ.out _ (Below.refl _ _)⟩
          exact AllReadyH.nil
        exact AllReadyH.nil
      exact AllReadyH.nil
    exact AllReadyH.nil
  · have FD : Hid (∀ x, From w x → Sl x (.slice (some ⟨b, off + k, none⟩) (len - k) (cap - k)) (X.drop k)) := fun x hx => sd.kept hx
    clear sd
    have g3 : (k : Int) ≤ (len : Int) := by omega
    have g4 : (k : Int) ≤ (cap : Int) := by omega
    have g5 : k ≤ cap := by omega
    go_enter Tryd.func3, Tryd.ntmps3
    go_wp2_with fail
    refine wp_region_held_drew (S := From w) (by kernel_rfl) ((Below.refl _ _).drew) (fun _ => ?_)
    refine wpAnyH_on ((Below.refl _ _).drew) (fun u0 hu0 bu0 => ?_)
    replace FK := on FK bu0
    replace FX := on FX bu0
    replace FA := on FA bu0
    replace FD := on FD bu0
    replace FW := on FW bu0
    replace FZ := on FZ bu0
    refine wpAnyH_take (i := 0) (oi := { dst := some 23, op := Op.move (Operand.tmp 0), type := 22, pos := "law.go:24", after := #[], guard := none }) (v := ?vb1) rfl (by kernel_rfl) (by kernel_rfl) (by kernel_rfl) (fun _ _ _ h => h) (Or.inl ⟨by rfl, ?yb1⟩) (Below.refl _ _) ?rb1
    case yb1 => (intro w hSw; go_simp; try with_reducible rfl)
    try simp only [Act.put, List.setIfInBounds_toArray, List.set_cons_zero, List.set_cons_succ]
    refine wpAnyH_take (i := 1) (oi := { dst := some 24, op := Op.move (Operand.tmp 1), type := 22, pos := "law.go:24", after := #[], guard := none }) (v := ?vb2) rfl (by kernel_rfl) (by kernel_rfl) (by kernel_rfl) (fun _ _ _ h => h) (Or.inl ⟨by rfl, ?yb2⟩) (Below.refl _ _) ?rb2
    case yb2 => (intro w hSw; go_simp; try with_reducible rfl)
    try simp only [Act.put, List.setIfInBounds_toArray, List.set_cons_zero, List.set_cons_succ]
    refine wpAnyH_take (i := 2) (oi := { dst := some 25, op := Op.move (Operand.tmp 7), type := 3, pos := "law.go:24", after := #[], guard := none }) (v := ?vb3) rfl (by kernel_rfl) (by kernel_rfl) (by kernel_rfl) (fun _ _ _ h => h) (Or.inl ⟨by rfl, ?yb3⟩) (Below.refl _ _) ?rb3
    case yb3 => (intro w hSw; go_simp; try with_reducible rfl)
    try simp only [Act.put, List.setIfInBounds_toArray, List.set_cons_zero, List.set_cons_succ]
    refine wpAnyH_take (i := 3) (oi := { dst := some 26, op := Op.slice 22 (Operand.tmp 24) none (some (Operand.tmp 25)) none, type := 22, pos := "law.go:24", after := #[{ on := 1, ground := Ground.data }, { on := 2, ground := Ground.data }], guard := none }) (v := ?vb4) rfl (by kernel_rfl) (by kernel_rfl) (by kernel_rfl) (fun _ _ _ h => h) (Or.inl ⟨by rfl, ?yb4⟩) (Below.refl _ _) ?rb4
    case yb4 => (intro w hSw; go_simp; try with_reducible rfl)
    try simp only [Act.put, List.setIfInBounds_toArray, List.set_cons_zero, List.set_cons_succ]
    refine wpAnyH_take (i := 4) (oi := { dst := some 27, op := Op.move (Operand.tmp 1), type := 22, pos := "law.go:24", after := #[], guard := none }) (v := ?vb5) rfl (by kernel_rfl) (by kernel_rfl) (by kernel_rfl) (fun _ _ _ h => h) (Or.inl ⟨by rfl, ?yb5⟩) (Below.refl _ _) ?rb5
    case yb5 => (intro w hSw; go_simp; try with_reducible rfl)
    try simp only [Act.put, List.setIfInBounds_toArray, List.set_cons_zero, List.set_cons_succ]
    refine wpAnyH_take (i := 5) (oi := { dst := some 28, op := Op.move (Operand.tmp 7), type := 3, pos := "law.go:24", after := #[], guard := none }) (v := ?vb6) rfl (by kernel_rfl) (by kernel_rfl) (by kernel_rfl) (fun _ _ _ h => h) (Or.inl ⟨by rfl, ?yb6⟩) (Below.refl _ _) ?rb6
    case yb6 => (intro w hSw; go_simp; try with_reducible rfl)
    try simp only [Act.put, List.setIfInBounds_toArray, List.set_cons_zero, List.set_cons_succ]
    refine wpAnyH_take (i := 6) (oi := { dst := some 29, op := Op.slice 22 (Operand.tmp 27) (some (Operand.tmp 28)) none none, type := 22, pos := "law.go:24", after := #[{ on := 4, ground := Ground.data }, { on := 5, ground := Ground.data }], guard := none }) (v := ?vb7) rfl (by kernel_rfl) (by kernel_rfl) (by kernel_rfl) (fun _ _ _ h => h) (Or.inl ⟨by rfl, ?yb7⟩) (Below.refl _ _) ?rb7
    case yb7 => (intro w hSw; go_simp; try with_reducible rfl)
    try simp only [Act.put, List.setIfInBounds_toArray, List.set_cons_zero, List.set_cons_succ]
    refine wpAnyH_take (i := 9) (oi := { dst := some 32, op := Op.move (Operand.tmp 0), type := 22, pos := "law.go:24", after := #[], guard := none }) (v := ?vb8) rfl (by kernel_rfl) (by kernel_rfl) (by kernel_rfl) (fun _ _ _ h => h) (Or.inl ⟨by rfl, ?yb8⟩) (Below.refl _ _) ?rb8
    case yb8 => (intro w hSw; go_simp; try with_reducible rfl)
    try simp only [Act.put, List.setIfInBounds_toArray, List.set_cons_zero, List.set_cons_succ]
    refine wpAnyH_take (i := 10) (oi := { dst := some 33, op := Op.move (Operand.tmp 1), type := 22, pos := "law.go:24", after := #[], guard := none }) (v := ?vb9) rfl (by kernel_rfl) (by kernel_rfl) (by kernel_rfl) (fun _ _ _ h => h) (Or.inl ⟨by rfl, ?yb9⟩) (Below.refl _ _) ?rb9
    case yb9 => (intro w hSw; go_simp; try with_reducible rfl)
    try simp only [Act.put, List.setIfInBounds_toArray, List.set_cons_zero, List.set_cons_succ]
    refine wpAnyH_ready (rs := [7]) (by kernel_rfl) (by simp) ?_
    refine AllReadyH.cons (o := { dst := some 30, op := Op.buildSlice 30 2 #[(0, Operand.tmp 26), (1, Operand.tmp 29)], type := 30, pos := "law.go:24", after := #[{ on := 3, ground := Ground.data }, { on := 6, ground := Ground.data }], guard := none }) rfl (fun KK hKK => ?_) ?_
    · have pu10 := parts2 u0 _ _ (X.take k) (X.drop k) (FA.out _ (Below.refl _ _)) (FD.out _ (Below.refl _ _))
      go_simp
      refine hKK.out _ _ (al_below _ _) (fun _ => ?_)
      clear hKK KK
      try simp only [Act.put, List.setIfInBounds_toArray, List.set_cons_zero, List.set_cons_succ]
      refine wpAnyH_on (al_below _ _) (fun u10 hu10 bu10 => ?_)
      replace FK := on FK bu10
      replace FX := on FX bu10
      replace FA := on FA bu10
      replace FD := on FD bu10
      replace FW := on FW bu10
      replace FZ := on FZ bu10
      have FP : Hid (∀ x, From u10 x → Parts x (some ⟨u0.heap.size, 0, none⟩) [X.take k, X.drop k]) := fun x hx => Parts.kept (by rw [hu10.out]; exact pu10) hx
      clear pu10
      refine wpAnyH_ready (rs := [8]) (by kernel_rfl) (by simp) ?_
      refine AllReadyH.cons (o := { dst := some 31, op := Op.call { callee := Callee.value (Operand.func 9), args := #[Operand.tmp 23, Operand.tmp 30], argTypes := #[22, 30] }, type := 26, pos := "law.go:24", after := #[{ on := 0, ground := Ground.data }, { on := 7, ground := Ground.data }], guard := none }) rfl (fun KK hKK => ?_) ?_
      · go_simp
        refine (C9.out _ _ (FW.out _ (Below.refl _ _)).1 (FK.out _ (Below.refl _ _)) (FP.out _ (Below.refl _ _)) (by simp)).mono ?_
        rintro e u11' ⟨rfl, bu11'⟩
        (try go_wp2_with fail)
        refine hKK.out _ _ (bu11') (fun _ => ?_)
        clear hKK KK
        try simp only [Act.put, List.setIfInBounds_toArray, List.set_cons_zero, List.set_cons_succ]
        refine wpAnyH_on (bu11') (fun u11 hu11 bu11 => ?_)
        replace FK := on FK bu11
        replace FX := on FX bu11
        replace FA := on FA bu11
        replace FD := on FD bu11
        replace FW := on FW bu11
        replace FZ := on FZ bu11
        replace FP := on FP bu11
        refine wpAnyH_ready (rs := [11]) (by kernel_rfl) (by simp) ?_
        refine AllReadyH.cons (o := { dst := some 34, op := Op.call { callee := Callee.value (Operand.func 10), args := #[Operand.tmp 32, Operand.tmp 33], argTypes := #[22, 22] }, type := 26, pos := "law.go:24", after := #[{ on := 9, ground := Ground.data }, { on := 10, ground := Ground.data }, { on := 8, ground := Ground.chain }], guard := none }) rfl (fun KK hKK => ?_) ?_
        · go_simp
          refine (C10.out _ (FK.out _ (Below.refl _ _)) (FX.out _ (Below.refl _ _))).mono ?_
          rintro e u12' ⟨rfl, bu12'⟩
          (try go_wp2_with fail)
          refine hKK.out _ _ (bu12') (fun _ => ?_)
          clear hKK KK
          try simp only [Act.put, List.setIfInBounds_toArray, List.set_cons_zero, List.set_cons_succ]
          refine wpAnyH_on (bu12') (fun u12 hu12 bu12 => ?_)
          replace FK := on FK bu12
          replace FX := on FX bu12
          replace FA := on FA bu12
          replace FD := on FD bu12
          replace FW := on FW bu12
          replace FZ := on FZ bu12
          replace FP := on FP bu12
          refine wpAnyH_take (i := 12) (oi := { dst := some 35, op := Op.binOp BinOp.eql 26 (Operand.tmp 31) (Operand.tmp 34) 26, type := 4, pos := "law.go:24", after := #[{ on := 8, ground := Ground.data }, { on := 11, ground := Ground.data }], guard := none }) (v := .bool true) rfl (by kernel_rfl) (by kernel_rfl) (by kernel_rfl) (fun _ _ _ h => h) (yields_eql (by rfl) _ _ _ rfl U U true rfl rfl (fun w => EQ.out w)) (Below.refl _ _) ?_
          try simp only [Act.put, List.setIfInBounds_toArray, List.set_cons_zero, List.set_cons_succ]
          refine wpAnyH_take (i := 13) (oi := { dst := some 36, op := Op.move (Operand.tmp 35), type := 4, pos := "law.go:24", after := #[{ on := 12, ground := Ground.data }, { on := 11, ground := Ground.chain }], guard := none }) (v := ?vb14) rfl (by kernel_rfl) (by kernel_rfl) (by kernel_rfl) (fun _ _ _ h => h) (Or.inl ⟨by rfl, ?yb14⟩) (Below.refl _ _) ?rb14
          case yb14 => (intro w hSw; go_simp; try with_reducible rfl)
          try simp only [Act.put, List.setIfInBounds_toArray, List.set_cons_zero, List.set_cons_succ]
          refine wpAnyH_ready (rs := [14]) (by kernel_rfl) (by simp) ?_
          refine AllReadyH.cons (o := { dst := some 37, op := Op.call { callee := Callee.value (Operand.func 8), args := #[], argTypes := #[] }, type := 4, pos := "law.go:24", after := #[{ on := 13, ground := Ground.chain }, { on := 13, ground := Ground.guard }], guard := some (13, true) }) rfl (fun KK hKK => ?_) ?_
          · go_simp
            refine (awake_any _ (FW.out _ (Below.refl _ _))).mono ?_
            rintro e u15' ⟨rfl, bu15'⟩
            (try go_wp2_with fail)
            refine hKK.out _ _ (bu15') (fun _ => ?_)
            clear hKK KK
            try simp only [Act.put, List.setIfInBounds_toArray, List.set_cons_zero, List.set_cons_succ]
            refine wpAnyH_on (bu15') (fun u15 hu15 bu15 => ?_)
            replace FK := on FK bu15
            replace FX := on FX bu15
            replace FA := on FA bu15
            replace FD := on FD bu15
            replace FW := on FW bu15
            replace FZ := on FZ bu15
            replace FP := on FP bu15
            refine wpAnyH_take (i := 15) (oi := { dst := some 38, op := Op.pick (Operand.tmp 36) (Operand.tmp 37) (Operand.const (Value.bool false)), type := 4, pos := "law.go:24", after := #[{ on := 13, ground := Ground.data }, { on := 14, ground := Ground.data }], guard := none }) (v := ?vb16) rfl (by kernel_rfl) (by kernel_rfl) (by kernel_rfl) (fun _ _ _ h => h) (Or.inl ⟨by rfl, ?yb16⟩) (Below.refl _ _) ?rb16
            case yb16 => (intro w hSw; go_simp; try with_reducible rfl)
            try simp only [Act.put, List.setIfInBounds_toArray, List.set_cons_zero, List.set_cons_succ]
            refine wpAnyH_take (i := 16) (oi := { dst := some 6, op := Op.assign (Operand.tmp 38), type := 4, pos := "law.go:24", after := #[{ on := 15, ground := Ground.data }, { on := 14, ground := Ground.chain }, { on := 0, ground := Ground.phase }, { on := 1, ground := Ground.phase }, { on := 2, ground := Ground.phase }, { on := 3, ground := Ground.phase }, { on := 4, ground := Ground.phase }, { on := 5, ground := Ground.phase }, { on := 6, ground := Ground.phase }, { on := 7, ground := Ground.phase }, { on := 8, ground := Ground.phase }, { on := 9, ground := Ground.phase }, { on := 10, ground := Ground.phase }, { on := 11, ground := Ground.phase }, { on := 12, ground := Ground.phase }, { on := 13, ground := Ground.phase }, { on := 14, ground := Ground.phase }, { on := 15, ground := Ground.phase }], guard := none }) (v := ?vb17) rfl (by kernel_rfl) (by kernel_rfl) (by kernel_rfl) (fun _ _ _ h => h) (Or.inl ⟨by rfl, ?yb17⟩) (Below.refl _ _) ?rb17
            case yb17 => (intro w hSw; go_simp; try with_reducible rfl)
            try simp only [Act.put, List.setIfInBounds_toArray, List.set_cons_zero, List.set_cons_succ]
            refine wpAnyH_done (by kernel_rfl) ?_ _
            go_wp2
            go_ret
            exact ⟨rfl, FZ.out _ (Below.refl _ _)⟩
          exact AllReadyH.nil
        exact AllReadyH.nil
      exact AllReadyH.nil
    exact AllReadyH.nil

theorem contract (H : Type) (enc : TypeId × Value → H) (W : World) (base : Nat) (args : Array Value) (ds gs : List (DataW H)) (before : List MemPlace)
    (hval : ∀ (j : Nat) t v, Tryd.f3.params[j]? = some t → args[j]? = some v → Value.okWide Tryd.prog W .any base t v)
    (hW : DataW.Whole enc Tryd.prog Tryd.f3.params.toList Rows.macOfsSpec.vars false W args.toList ds gs before) (hL : laidMetH Tryd.prog Rows.macOfsRow.laid W)
    (hsz0 : (DataW.weightsEach Tryd.prog (Tryd.f3.params.toList ++ Rows.macOfsSpec.plain.varTypes Tryd.prog) (ds ++ gs)).all (· ≤ reachBytes) = true) :
    Calls Tryd.prog 3 args W fun e W' => ∃ v, e = .returned v ∧ Rows.macOfsSpec.post enc Tryd.prog Tryd.f3 false true false false W args v W' := by
  have hW' := hW
  obtain ⟨p, q, hA0, hV, rfl, hfz, hnd⟩ := hW
  have hA : DataW.TrodAll enc Tryd.prog W 0 (fun _ => true) true Tryd.f3.params.toList args.toList ds p := hA0
  rw [Tryd.params3] at hA hval hsz0
  obtain ⟨v0, vs0, d0, ds0, p0, q0, hargs, rfl, rfl, h0, r0⟩ := trodAll_cons hA
  obtain ⟨v1, vs1, d1, ds1, p1, q1, rfl, rfl, rfl, h1, r1⟩ := trodAll_cons r0
  obtain ⟨v2, vs2, d2, ds2, p2, q2, rfl, rfl, rfl, h2, r2⟩ := trodAll_cons r1
  obtain ⟨rfl, rfl, rfl⟩ := trodAll_nil r2
  obtain rfl : args = #[v0, v1, v2] := by cases args; simp_all
  obtain ⟨rfl, rfl⟩ := trodVars_none hV
  have hsz : (DataW.weightsEach Tryd.prog [22, 22, 23] [d0, d1, d2]).all (· ≤ reachBytes) = true := hsz0
  have k0 := h0
  have lt0 : ∀ x ∈ p0, x.block < W.heap.size := by obtain ⟨m, hm⟩ := k0; exact DataW.trod_lt m _ _ _ hm
  obtain ⟨a0, len0, cap0, z0, rfl, w0⟩ := bytes_open 0 (hval 0 22 v0 rfl rfl) h0 hsz rfl rfl
  have k1 := h1
  have lt1 : ∀ x ∈ p1, x.block < W.heap.size := by obtain ⟨m, hm⟩ := k1; exact DataW.trod_lt m _ _ _ hm
  obtain ⟨a1, len1, cap1, z1, rfl, w1⟩ := bytes_open 1 (hval 1 22 v1 rfl rfl) h1 hsz rfl rfl
  obtain ⟨a2, rfl, rfl, rfl, w2⟩ := open_int Tryd.underlying23 (hval 2 23 v2 rfl rfl) h2
  clear hA0
  refine (walk a0 len0 cap0 z0 a1 len1 cap1 z1 a2 W (tab_of hL) w0 w1 w2).mono fun e W' ⟨he, bel⟩ => ?_
  subst he
  exact ⟨_, rfl, _, _, _, [], _, [], hW', trodAll_mk1 (shut_bool Tryd.underlying4 _), (trodAll_cons_mk (Below.trod laidOut (by kernel_rfl) (of_decide_eq_true (by kernel_rfl)) k0 bel lt0) (trodAll_cons_mk (Below.trod laidOut (by kernel_rfl) (of_decide_eq_true (by kernel_rfl)) k1 bel lt1) (trodAll_cons_mk (shut_int Tryd.underlying23 w2) trodAll_mk0))), rfl, bel.frame _, fun h => by cases h⟩

theorem laid_met (os : Os) : laidMet Tryd.prog Rows.macOfsRow.laid (({ World.holding Tryd.prog os ⟨#[], #[], []⟩ with heap := ((((World.holding Tryd.prog os ⟨#[], #[], []⟩).heap.modify 0 (fun
      | .cells _ t frozen => .cells #[.int .u32 1779033703, .int .u32 3144134277, .int .u32 1013904242, .int .u32 2773480762, .int .u32 1359893119, .int .u32 2600822924, .int .u32 528734635, .int .u32 1541459225] t frozen
      | o => o)).modify 1 (fun
      | .cells _ t frozen => .cells #[.int .u32 1116352408, .int .u32 1899447441, .int .u32 3049323471, .int .u32 3921009573, .int .u32 961987163, .int .u32 1508970993, .int .u32 2453635748, .int .u32 2870763221, .int .u32 3624381080, .int .u32 310598401, .int .u32 607225278, .int .u32 1426881987, .int .u32 1925078388, .int .u32 2162078206, .int .u32 2614888103, .int .u32 3248222580, .int .u32 3835390401, .int .u32 4022224774, .int .u32 264347078, .int .u32 604807628, .int .u32 770255983, .int .u32 1249150122, .int .u32 1555081692, .int .u32 1996064986, .int .u32 2554220882, .int .u32 2821834349, .int .u32 2952996808, .int .u32 3210313671, .int .u32 3336571891, .int .u32 3584528711, .int .u32 113926993, .int .u32 338241895, .int .u32 666307205, .int .u32 773529912, .int .u32 1294757372, .int .u32 1396182291, .int .u32 1695183700, .int .u32 1986661051, .int .u32 2177026350, .int .u32 2456956037, .int .u32 2730485921, .int .u32 2820302411, .int .u32 3259730800, .int .u32 3345764771, .int .u32 3516065817, .int .u32 3600352804, .int .u32 4094571909, .int .u32 275423344, .int .u32 430227734, .int .u32 506948616, .int .u32 659060556, .int .u32 883997877, .int .u32 958139571, .int .u32 1322822218, .int .u32 1537002063, .int .u32 1747873779, .int .u32 1955562222, .int .u32 2024104815, .int .u32 2227730452, .int .u32 2361852424, .int .u32 2428436474, .int .u32 2756734187, .int .u32 3204031479, .int .u32 3329325298] t frozen
      | o => o)).modify 2 (fun
      | .cells _ t frozen => .cells #[.int .i64 1, .int .i64 2, .int .i64 4, .int .i64 8] t frozen
      | o => o)) } : World).forCall (fun _ _ => 0) ⟨#[], #[.slice none 0 0, .slice none 0 0, .int .u16 0], []⟩).memory :=
  laidMet_of_run' 8 (by kernel_rfl) (by kernel_rfl)
theorem reads (os : Os) {H : Type} (enc : TypeId × Value → H) : ∃ places, DataW.whole enc Tryd.prog (({ World.holding Tryd.prog os ⟨#[], #[], []⟩ with heap := ((((World.holding Tryd.prog os ⟨#[], #[], []⟩).heap.modify 0 (fun
      | .cells _ t frozen => .cells #[.int .u32 1779033703, .int .u32 3144134277, .int .u32 1013904242, .int .u32 2773480762, .int .u32 1359893119, .int .u32 2600822924, .int .u32 528734635, .int .u32 1541459225] t frozen
      | o => o)).modify 1 (fun
      | .cells _ t frozen => .cells #[.int .u32 1116352408, .int .u32 1899447441, .int .u32 3049323471, .int .u32 3921009573, .int .u32 961987163, .int .u32 1508970993, .int .u32 2453635748, .int .u32 2870763221, .int .u32 3624381080, .int .u32 310598401, .int .u32 607225278, .int .u32 1426881987, .int .u32 1925078388, .int .u32 2162078206, .int .u32 2614888103, .int .u32 3248222580, .int .u32 3835390401, .int .u32 4022224774, .int .u32 264347078, .int .u32 604807628, .int .u32 770255983, .int .u32 1249150122, .int .u32 1555081692, .int .u32 1996064986, .int .u32 2554220882, .int .u32 2821834349, .int .u32 2952996808, .int .u32 3210313671, .int .u32 3336571891, .int .u32 3584528711, .int .u32 113926993, .int .u32 338241895, .int .u32 666307205, .int .u32 773529912, .int .u32 1294757372, .int .u32 1396182291, .int .u32 1695183700, .int .u32 1986661051, .int .u32 2177026350, .int .u32 2456956037, .int .u32 2730485921, .int .u32 2820302411, .int .u32 3259730800, .int .u32 3345764771, .int .u32 3516065817, .int .u32 3600352804, .int .u32 4094571909, .int .u32 275423344, .int .u32 430227734, .int .u32 506948616, .int .u32 659060556, .int .u32 883997877, .int .u32 958139571, .int .u32 1322822218, .int .u32 1537002063, .int .u32 1747873779, .int .u32 1955562222, .int .u32 2024104815, .int .u32 2227730452, .int .u32 2361852424, .int .u32 2428436474, .int .u32 2756734187, .int .u32 3204031479, .int .u32 3329325298] t frozen
      | o => o)).modify 2 (fun
      | .cells _ t frozen => .cells #[.int .i64 1, .int .i64 2, .int .i64 4, .int .i64 8] t frozen
      | o => o)) } : World).forCall (fun _ _ => 0) ⟨#[], #[.slice none 0 0, .slice none 0 0, .int .u16 0], []⟩).memory Tryd.f3.params.toList Rows.macOfsSpec.vars false #[Value.slice none 0 0, .slice none 0 0, .int .u16 0].toList 8 = some ([.nil, .nil, .lit (.int .u16 0)], [], places) :=
  ⟨[], by kernel_rfl⟩

set_option maxRecDepth 100000 in
theorem lifted (os : Os) (started : os.Started) (H : Type) (enc : TypeId × Value → H) (F : Stop.Interp) :
    ReturnsInHanded {} Tryd.checked os 3 .any ((OpenSpec.ofChange Rows.macOfsSpec).preRow enc Tryd.prog Tryd.f3 Rows.macOfsRow.domain false Rows.macOfsRow.laid) (((OpenSpec.ofChange Rows.macOfsSpec).at F).post enc Tryd.prog Tryd.f3 false true false false) := by
  obtain ⟨places, hx⟩ := reads os enc
  refine returnsInHanded_of_row (C := Tryd.checked) (s := OpenSpec.ofChange Rows.macOfsSpec) own started (by kernel_rfl) Tryd.func3
    (witness_row_at (enc := enc) (C := Tryd.checked) false ({ World.holding Tryd.prog os ⟨#[], #[], []⟩ with heap := ((((World.holding Tryd.prog os ⟨#[], #[], []⟩).heap.modify 0 (fun
      | .cells _ t frozen => .cells #[.int .u32 1779033703, .int .u32 3144134277, .int .u32 1013904242, .int .u32 2773480762, .int .u32 1359893119, .int .u32 2600822924, .int .u32 528734635, .int .u32 1541459225] t frozen
      | o => o)).modify 1 (fun
      | .cells _ t frozen => .cells #[.int .u32 1116352408, .int .u32 1899447441, .int .u32 3049323471, .int .u32 3921009573, .int .u32 961987163, .int .u32 1508970993, .int .u32 2453635748, .int .u32 2870763221, .int .u32 3624381080, .int .u32 310598401, .int .u32 607225278, .int .u32 1426881987, .int .u32 1925078388, .int .u32 2162078206, .int .u32 2614888103, .int .u32 3248222580, .int .u32 3835390401, .int .u32 4022224774, .int .u32 264347078, .int .u32 604807628, .int .u32 770255983, .int .u32 1249150122, .int .u32 1555081692, .int .u32 1996064986, .int .u32 2554220882, .int .u32 2821834349, .int .u32 2952996808, .int .u32 3210313671, .int .u32 3336571891, .int .u32 3584528711, .int .u32 113926993, .int .u32 338241895, .int .u32 666307205, .int .u32 773529912, .int .u32 1294757372, .int .u32 1396182291, .int .u32 1695183700, .int .u32 1986661051, .int .u32 2177026350, .int .u32 2456956037, .int .u32 2730485921, .int .u32 2820302411, .int .u32 3259730800, .int .u32 3345764771, .int .u32 3516065817, .int .u32 3600352804, .int .u32 4094571909, .int .u32 275423344, .int .u32 430227734, .int .u32 506948616, .int .u32 659060556, .int .u32 883997877, .int .u32 958139571, .int .u32 1322822218, .int .u32 1537002063, .int .u32 1747873779, .int .u32 1955562222, .int .u32 2024104815, .int .u32 2227730452, .int .u32 2361852424, .int .u32 2428436474, .int .u32 2756734187, .int .u32 3204031479, .int .u32 3329325298] t frozen
      | o => o)).modify 2 (fun
      | .cells _ t frozen => .cells #[.int .i64 1, .int .i64 2, .int .i64 4, .int .i64 8] t frozen
      | o => o)) } : World) #[.slice none 0 0, .slice none 0 0, .int .u16 0] rfl (by kernel_rfl) (by kernel_rfl) (by kernel_rfl)
      (OpenSpec.preRow_of_cond 8 hx (by kernel_rfl) (fun k hk => by cases hk) (by kernel_rfl) (laid_met os))) ?_
  intro W base args ds gs before hval hW _ _ hsz hL _ _
  exact contract H enc W base args ds gs before hval hW hL hsz

theorem said : Rows.MacOfsSaid :=
  OpenClaim.holds_of_cond 3 Tryd.f3 rfl rfl rfl rfl rfl rfl rfl ⟨rfl, rfl, rfl, rfl, rfl⟩ rfl rfl rfl rfl rfl (by kernel_rfl) Tryd.func3 (by kernel_rfl)
    (of_decide_eq_true (by kernel_rfl)) (by unfold Func.isWrapper; first | (rw [if_pos (by decide +kernel)]; kernel_rfl) | (rw [if_neg (by decide +kernel)]; exact ⟨rfl, rfl⟩))
    (fun os started H enc _ F => by rw [OpenClaim.pre_eq_preRow]; exact lifted os started H enc F)

theorem plain (f : FuncId) (fn : Func) (hf : Tryd.pinned.checked.prog.funcNamed "sumpter/sumpterlaw05.MacOfs" = some f) (hfn : Tryd.pinned.checked.prog.funcs[f]? = some fn) :
    false = Tryd.pinned.checked.prog.looks [] ∧ ∀ (j : Nat) t, fn.params[j]? = some t → Tryd.pinned.checked.prog.wantsStandIn t = false := by
  obtain rfl : f = 3 := Option.some.inj ((show Tryd.prog.funcNamed "sumpter/sumpterlaw05.MacOfs" = some 3 by kernel_rfl).symm.trans hf) |>.symm
  obtain rfl : fn = Tryd.f3 := (Option.some.inj (Tryd.func3.symm.trans hfn)).symm
  refine ⟨by kernel_rfl, fun j t ht => ?_⟩
  rw [Tryd.params3] at ht
  have hm : t ∈ [22, 22, 23] := by simpa using Array.mem_of_getElem? ht
  have hall : ([22, 22, 23].all fun u => !Tryd.prog.wantsStandIn u) = true := by kernel_rfl
  exact (show Tryd.prog.wantsStandIn t = false by simpa using List.all_eq_true.1 hall t hm)
end Go.Proofs.YtkblcabibnnmcaaDoor.macOfs

namespace Go.Proofs.YtkblcabibnnmcaaDoor
/-- The card of MacOfs. -/
theorem macOfs_card : Rows.MacOfsCardSaid :=
  Claim7.holds_tied_plain_at .later [] _ _ _ _ macOfs.said (fun _ h => by cases h) (by kernel_rfl) (fun _ h => by cases h) macOfs_row_tie rfl ⟨rfl, rfl⟩ (by kernel_rfl) rfl macOfs.plain (by kernel_rfl)
#print axioms macOfs_card
end Go.Proofs.YtkblcabibnnmcaaDoor
