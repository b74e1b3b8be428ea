/-
  BlockFinds: where any bytes (of up to 200) are found by any sums (of up to 200), and which weak sums there are, is told as the document says, or why not; no condition.
-/
import Derived.Test.YtjiefndjgkhcjaaDoorFr
import Derived.Test.YtjiefndjgkhcjaaDoorRf
namespace Go.Proofs.YtjiefndjgkhcjaaDoor.blockFinds
open Go.ChangeShapes Go.WideShapes Go.ChangeAt Go.RowKit Go.Deep Go.ChangeMaps
set_option maxRecDepth 100000

theorem trio3 {w : World} {b : Nat} {x y z : Value} {t : TypeId} (h : w.heap[b]? = some (.cells #[x, y, z] t (0, 0))) : w.cell? ⟨b, 0, none⟩ = some x ∧ w.cell? ⟨b, 1, none⟩ = some y ∧ w.cell? ⟨b, 2, none⟩ = some z :=
  ⟨by rw [cell_of_row _ _ _ _ _ _ h]; rfl, by rw [cell_of_row _ _ _ _ _ _ h]; rfl, by rw [cell_of_row _ _ _ _ _ _ h]; rfl⟩
theorem wk_take (l : List Sg) (k : Int) (j : Nat) (hj : j < l.length) : wk (l.take (j + 1)) k = (wk (l.take j) k || decide ((atI l j).k = k)) := by
  rw [takeI_at l j hj, wk_app]
set_option maxHeartbeats 8000000 in
theorem walk (v0 : Value) (X : Sm) (v1 : Value) (b : List Int) (q : Int) (w : World) (hw : Ta w) (h0 : SM w v0 X) (h1 : Sl w v1 b) (hq : (Lit.int .u32 q).wf = true) :
    Calls Tryd.prog 5 #[v0, v1, .int .u32 q] w fun e w' => e = .returned (.bool true) ∧ Below w.heap.size w w' := by
  have q1 := bounds_u32 hq
  have CA : Hid (∀ W, Below w.heap.size w W → Calls Tryd.prog 9 #[] W fun e w' => e = .returned (.bool true) ∧ Below W.heap.size W w') := fun W hb => awake_any W (hw.kept hb)
  obtain ⟨u, rfl, hg, hz0, hn0⟩ := h0
  obtain ⟨a, c, rfl, hc, hm, h4⟩ := hg.shape
  have HG : Hid (GS w (.slice a X.l.length c) X.l) := hg
  obtain ⟨va, vc, rfl, hvc, hvm, -⟩ := id h1
  have HS : Hid (Sl w (.slice va b.length vc) b) := h1
  have HW : Hid (Ta w) := hw
  have HQ : Hid (0 ≤ q ∧ q < 4294967296) := ⟨q1.1, by omega⟩
  obtain ⟨z, n, l⟩ := X
  simp only at HG hc hz0 hn0 ⊢
  obtain ⟨L, hL⟩ : ∃ L, L = l.length := ⟨_, rfl⟩
  have HL : Hid (L = l.length) := hL
  obtain ⟨B, hB⟩ : ∃ B, B = b.length := ⟨_, rfl⟩
  have HBL : Hid (B = b.length) := hB
  rw [← hL] at HG hc ⊢
  rw [← hB] at HS hvc ⊢
  have lm : (L : Int) ≤ 9223372036854775807 := by unfold maxLen at hm; omega
  have bm : (B : Int) ≤ 9223372036854775807 := by unfold maxLen at hvm; omega
  obtain ⟨W1, hW1⟩ : ∃ W1, W1 = w.alloc (.cells #[.int .i64 z, .int .i64 n, .slice a L c] 34) := ⟨_, rfl⟩
  have b1 : Below w.heap.size w W1 := by rw [hW1]; exact al_below _ _
  have g1 : W1.heap[w.heap.size]? = some (.cells #[.int .i64 z, .int .i64 n, .slice a L c] 34 (0, 0)) := by rw [hW1]; exact heap_alloc_new _ _
  have B1 : Hid (Below w.heap.size w W1) := b1
  have FT : Hid (∀ x, Below W1.heap.size W1 x → x.cell? ⟨w.heap.size, 0, none⟩ = some (.int .i64 z) ∧ x.cell? ⟨w.heap.size, 1, none⟩ = some (.int .i64 n) ∧ x.cell? ⟨w.heap.size, 2, none⟩ = some (.slice a L c)) := fun x hx => trio3 ((hx.block _ (Array.getElem?_eq_some_iff.1 g1).1).trans g1)
  obtain ⟨k0, k1, k2⟩ := FT.out W1 (Below.refl _ _)
  clear b1 g1 h1 hg hw hq hL hB hm hvm h4 q1
  go_enter Tryd.func5, Tryd.ntmps5
  by_cases h5 : 200 < L ∨ 200 < B
  · have ca := CA.out W1 B1.out
    by_cases h6 : 200 < L
    · have h7 : 200 < (L : Int) := by omega
      clear h5
      go_wp2_with fail
      try rw [← hW1]
      clear hW1 k0 k1 k2
      refine ca.mono ?_
      rintro e w2 ⟨rfl, b2⟩
      have B2 : Hid (Below w.heap.size w w2) := B1.out.trans (b2.mono B1.out.size)
      clear ca b2
      go_wp2
      go_ret
      exact ⟨rfl, B2.out⟩
    · have h7 : ¬ 200 < (L : Int) := by omega
      have h8 : 200 < (B : Int) := by omega
      clear h5
      go_wp2_with fail
      try rw [← hW1]
      clear hW1 k0 k1 k2
      refine ca.mono ?_
      rintro e w2 ⟨rfl, b2⟩
      have B2 : Hid (Below w.heap.size w w2) := B1.out.trans (b2.mono B1.out.size)
      clear ca b2
      go_wp2
      go_ret
      exact ⟨rfl, B2.out⟩
  · have h7 : ¬ 200 < (L : Int) := by omega
    have h8 : ¬ 200 < (B : Int) := by omega
    have CN := new_any z n (.slice a L c) l W1 (HG.out.kept B1.out) (by rw [← HL.out]; omega)
    rw [← HL.out] at CN
    have HX : Hid (∀ x v, NX W1 x v z n l → if chk z n L = 0 then ∃ g m, v = .pointer (some ⟨g, 0, none⟩) ∧ IX x W1.heap.size g m z (L : Int) l else v = .pointer none) := fun x v hx => by
      unfold NX at hx
      rwa [← HL.out] at hx
    clear h5
    go_wp2_with fail
    rw [← hW1]
    clear hW1 k0 k1 k2
    refine CN.mono ?_
    rintro e w2 ⟨v2, rfl, n2, b2⟩
    clear CN
    have B2 : Hid (Below W1.heap.size W1 w2) := b2
    have BW2 : Hid (Below w.heap.size w w2) := B1.out.trans (b2.mono B1.out.size)
    have nx := HX.out w2 v2 n2
    clear n2 b2 HX
    obtain ⟨k0, k1, k2⟩ := FT.out w2 B2.out
    have CK := rcheck_any z n a L c w2 (by omega)
    generalize chk z n L = e at *
    by_cases he : e = 0
    · subst he
      rw [if_pos rfl] at nx
      obtain ⟨g, m, rfl, ix⟩ := nx
      have I2 : Hid (∀ x, Below w2.heap.size w2 x → IX x W1.heap.size g m z (L : Int) l) := fun x hx => ix.kept hx
      have CF := find_any w2 W1.heap.size g m z L l ix (.slice va B vc) b (HS.out.kept BW2.out) (HW.out.kept BW2.out) (by rw [← HBL.out]; omega)
      have CR : Hid (∀ x, Below w.heap.size w x → Calls Tryd.prog 25 #[.int .i64 z, .slice a L c, .slice va B vc] x fun e w' => e = .returned (.tuple #[.int .i64 (bfnd l z b).1, .bool (bfnd l z b).2]) ∧ Below x.heap.size x w') := fun x hx => rfind_any z _ _ l b x (HG.out.kept hx) (HS.out.kept hx) (by rw [← HL.out]; omega) (by rw [← HBL.out]; omega)
      clear ix
      generalize bfnd l z b = R at *
      obtain ⟨f1, f2⟩ := R
      simp only at CF CR
      go_wp2_with fail
      refine CK.mono ?_
      rintro e w5 ⟨rfl, hq5⟩
      replace hq5 := hq5.symm
      subst hq5
      clear CK
      go_wp2_with fail
      refine CF.mono ?_
      rintro e w3 ⟨rfl, b3⟩
      clear CF k0 k1 k2
      have B3 : Hid (Below W1.heap.size W1 w3) := B2.out.trans (b3.mono B2.out.size)
      have B23 : Hid (Below w2.heap.size w2 w3) := b3
      have BW3 : Hid (Below w.heap.size w w3) := B1.out.trans (B3.out.mono B1.out.size)
      obtain ⟨k0, k1, k2⟩ := FT.out w3 B3.out
      have cr := CR.out w3 BW3.out
      clear b3 CR
      go_wp2_with fail
      refine cr.mono ?_
      rintro e w4 ⟨rfl, b4⟩
      clear cr k0 k1 k2
      have B4 : Hid (Below W1.heap.size W1 w4) := B3.out.trans (b4.mono B3.out.size)
      have B24 : Hid (Below w2.heap.size w2 w4) := B23.out.trans (b4.mono B23.out.size)
      have BW4 : Hid (Below w.heap.size w w4) := B1.out.trans (B4.out.mono B1.out.size)
      obtain ⟨k0, k1, k2⟩ := FT.out w4 B4.out
      have HGA : Hid (GS w4 (.slice a L c) l) := HG.out.kept BW4.out
      clear b4 B3 B23 BW3
      go_wp2_with fail
      go_loop [14, 15] (fun s p => ∃ j : Nat, j ≤ L ∧ p = .int .i64 j ∧ s = .bool (wk (l.take j) q)) (fun _ p => L - (intOf p).toNat)
      case atStart => exact ⟨0, by omega, rfl, rfl⟩
      case round =>
        obtain ⟨j, hj, rfl, rfl⟩ := hrel
        by_cases hlt : j < L
        · have lt2 : (j : Int) < (L : Int) := by omega
          have HT := wk_take l q j (by rw [← HL.out]; exact hlt)
          obtain ⟨bb, off, rfl, r1⟩ := HGA.out.at j (by rw [← HL.out]; exact hlt)
          have kc := range_head r1
          clear r1
          generalize (atI l j).k = xk at *
          have HT2 : Hid (wk (l.take (j + 1)) q = (wk (l.take j) q || decide (xk = q))) := HT
          clear HT
          cases hwk : wk (l.take j) q with
          | true =>
            have HZ : Hid (wk (l.take (j + 1)) q = true) := by unfold Hid; rw [HT2.out, hwk]; rfl
            clear HT2 hwk kc
            go_wp2
            go_round
            case rel => exact ⟨j + 1, by omega, by go_num, by rw [HZ.out]⟩
            case measure => simp [intOf]; omega
          | false =>
            have HZ : Hid (wk (l.take (j + 1)) q = decide (xk = q)) := by unfold Hid; rw [HT2.out, hwk]; rfl
            have tb : (xk == q) = decide (xk = q) := by by_cases e : xk = q <;> simp [e]
            clear HT2 hwk
            generalize decide (xk = q) = tt at *
            go_wp2
            go_round
            case rel => exact ⟨j + 1, by omega, by go_num, by rw [HZ.out]⟩
            case measure => simp [intOf]; omega
        · obtain rfl : j = L := by omega
          have hT : l.take j = l := by rw [HL.out, List.take_length]
          rw [hT]
          have FC : Hid (∀ x, From w4 x → x.cell? ⟨w.heap.size, 0, none⟩ = some (.int .i64 z) ∧ x.cell? ⟨w.heap.size, 2, none⟩ = some (.slice a j c)) := fun x hx => by
            obtain ⟨t0, t1, t2⟩ := FT.out x (B4.out.trans (Below.mono hx B4.out.size))
            exact ⟨t0, t2⟩
          have FI : Hid (∀ x, From w4 x → ∃ n, IG x W1.heap.size g m z (j : Int) n (wk l) (inn l z)) := fun x hx => I2.out x (B24.out.trans (Below.mono hx B24.out.size))
          have FWK : Hid (∀ x, From w4 x → Calls Tryd.prog 21 #[.pointer (some ⟨g, 0, none⟩), .int .u32 q] x fun e w' => e = .returned (.bool (wk l q)) ∧ w' = x) := fun x hx => by
            obtain ⟨n', hi⟩ := FI.out x hx
            exact weak_any x _ _ _ _ _ _ _ _ hi q HQ.out
          have FSZ : Hid (∀ x, From w4 x → Calls Tryd.prog 22 #[.pointer (some ⟨g, 0, none⟩)] x fun e w' => e = .returned (.int .i64 z) ∧ w' = x) := fun x hx => by
            obtain ⟨n', hi⟩ := FI.out x hx
            exact isize_any x _ _ _ _ _ _ _ _ hi
          have FLN : Hid (∀ x, From w4 x → Calls Tryd.prog 23 #[.pointer (some ⟨g, 0, none⟩)] x fun e w' => e = .returned (.int .i64 (j : Int)) ∧ w' = x) := fun x hx => by
            obtain ⟨n', hi⟩ := FI.out x hx
            exact ilen_any x _ _ _ _ _ _ _ _ hi
          have FAW : Hid (∀ x, From w4 x → Calls Tryd.prog 9 #[] x fun e w' => e = .returned (.bool true) ∧ Below x.heap.size x w') := fun x hx => CA.out x (BW4.out.trans (Below.mono hx BW4.out.size))
          have FB : Hid (∀ x, From w4 x → Below w.heap.size w x) := fun x hx => BW4.out.trans (Below.mono hx BW4.out.size)
          have t1 : (f1 == f1) = true := by simp
          have t2 : (f2 == f2) = true := by simp
          have t4 : (z == z) = true := by simp
          have t5 : ((j : Int) == (j : Int)) = true := by simp
          generalize wk l q = r at *
          have t3 : (r == r) = true := by simp
          clear hT FI I2 HGA
          go_wp2_with fail
          refine wp_region_held_drew (S := From w4) (by kernel_rfl) ((Below.refl _ _).drew) (fun _ => ?_)
          refine wpAnyH_on ((Below.refl _ _).drew) (fun u0 hu0 bu0 => ?_)
          replace FC := on FC bu0
          replace FWK := on FWK bu0
          replace FSZ := on FSZ bu0
          replace FLN := on FLN bu0
          replace FAW := on FAW bu0
          replace FB := on FB bu0
          refine wpAnyH_take (i := 0) (oi := { dst := some 105, op := Op.move (Operand.tmp 10), type := 3, pos := "law.go:69", after := #[], guard := none }) (v := ?vr1) rfl (by kernel_rfl) (by kernel_rfl) (by kernel_rfl) (fun _ _ _ h => h) (Or.inl ⟨by rfl, ?yr1⟩) (Below.refl _ _) ?rr1
          case yr1 => (intro w hSw; go_simp; try with_reducible rfl)
          try simp only [Act.put, List.setIfInBounds_toArray, List.set_cons_zero, List.set_cons_succ]
          refine wpAnyH_take (i := 1) (oi := { dst := some 106, op := Op.move (Operand.tmp 12), type := 3, pos := "law.go:69", after := #[], guard := none }) (v := ?vr2) rfl (by kernel_rfl) (by kernel_rfl) (by kernel_rfl) (fun _ _ _ h => h) (Or.inl ⟨by rfl, ?yr2⟩) (Below.refl _ _) ?rr2
          case yr2 => (intro w hSw; go_simp; try with_reducible rfl)
          try simp only [Act.put, List.setIfInBounds_toArray, List.set_cons_zero, List.set_cons_succ]
          refine wpAnyH_take (i := 2) (oi := { dst := some 107, op := Op.binOp BinOp.eql 3 (Operand.tmp 105) (Operand.tmp 106) 3, type := 4, pos := "law.go:69", after := #[{ on := 0, ground := Ground.data }, { on := 1, ground := Ground.data }], guard := none }) (v := ?vr3) rfl (by kernel_rfl) (by kernel_rfl) (by kernel_rfl) (fun _ _ _ h => h) (Or.inl ⟨by rfl, ?yr3⟩) (Below.refl _ _) ?rr3
          case yr3 => (intro w hSw; go_simp; try with_reducible rfl)
          try simp only [Act.put, List.setIfInBounds_toArray, List.set_cons_zero, List.set_cons_succ]
          refine wpAnyH_take (i := 3) (oi := { dst := some 108, op := Op.move (Operand.tmp 107), type := 4, pos := "law.go:69", after := #[{ on := 2, ground := Ground.data }], guard := none }) (v := ?vr4) rfl (by kernel_rfl) (by kernel_rfl) (by kernel_rfl) (fun _ _ _ h => h) (Or.inl ⟨by rfl, ?yr4⟩) (Below.refl _ _) ?rr4
          case yr4 => (intro w hSw; go_simp; try with_reducible rfl)
          try simp only [Act.put, List.setIfInBounds_toArray, List.set_cons_zero, List.set_cons_succ]
          refine wpAnyH_take (i := 4) (oi := { dst := some 109, op := Op.move (Operand.tmp 11), type := 4, pos := "law.go:69", after := #[{ on := 3, ground := Ground.guard }], guard := some (3, true) }) (v := ?vr5) rfl (by kernel_rfl) (by kernel_rfl) (by kernel_rfl) (fun _ _ _ h => h) (Or.inl ⟨by rfl, ?yr5⟩) (Below.refl _ _) ?rr5
          case yr5 => (intro w hSw; go_simp; try with_reducible rfl)
          try simp only [Act.put, List.setIfInBounds_toArray, List.set_cons_zero, List.set_cons_succ]
          refine wpAnyH_take (i := 5) (oi := { dst := some 110, op := Op.move (Operand.tmp 13), type := 4, pos := "law.go:69", after := #[{ on := 3, ground := Ground.guard }], guard := some (3, true) }) (v := ?vr6) rfl (by kernel_rfl) (by kernel_rfl) (by kernel_rfl) (fun _ _ _ h => h) (Or.inl ⟨by rfl, ?yr6⟩) (Below.refl _ _) ?rr6
          case yr6 => (intro w hSw; go_simp; try with_reducible rfl)
          try simp only [Act.put, List.setIfInBounds_toArray, List.set_cons_zero, List.set_cons_succ]
          refine wpAnyH_take (i := 6) (oi := { dst := some 111, op := Op.binOp BinOp.eql 4 (Operand.tmp 109) (Operand.tmp 110) 4, type := 4, pos := "law.go:69", after := #[{ on := 4, ground := Ground.data }, { on := 5, ground := Ground.data }, { on := 3, ground := Ground.guard }], guard := some (3, true) }) (v := ?vr7) rfl (by kernel_rfl) (by kernel_rfl) (by kernel_rfl) (fun _ _ _ h => h) (Or.inl ⟨by rfl, ?yr7⟩) (Below.refl _ _) ?rr7
          case yr7 => (intro w hSw; go_simp; try with_reducible rfl)
          try simp only [Act.put, List.setIfInBounds_toArray, List.set_cons_zero, List.set_cons_succ]
          refine wpAnyH_take (i := 7) (oi := { dst := some 112, op := Op.pick (Operand.tmp 108) (Operand.tmp 111) (Operand.const (Value.bool false)), type := 4, pos := "law.go:69", after := #[{ on := 3, ground := Ground.data }, { on := 6, ground := Ground.data }], guard := none }) (v := ?vr8) rfl (by kernel_rfl) (by kernel_rfl) (by kernel_rfl) (fun _ _ _ h => h) (Or.inl ⟨by rfl, ?yr8⟩) (Below.refl _ _) ?rr8
          case yr8 => (intro w hSw; go_simp; try with_reducible rfl)
          try simp only [Act.put, List.setIfInBounds_toArray, List.set_cons_zero, List.set_cons_succ]
          refine wpAnyH_take (i := 8) (oi := { dst := some 113, op := Op.move (Operand.tmp 112), type := 4, pos := "law.go:69", after := #[{ on := 7, ground := Ground.data }, { on := 3, ground := Ground.chain }], guard := none }) (v := ?vr9) rfl (by kernel_rfl) (by kernel_rfl) (by kernel_rfl) (fun _ _ _ h => h) (Or.inl ⟨by rfl, ?yr9⟩) (Below.refl _ _) ?rr9
          case yr9 => (intro w hSw; go_simp; try with_reducible rfl)
          try simp only [Act.put, List.setIfInBounds_toArray, List.set_cons_zero, List.set_cons_succ]
          refine wpAnyH_take (i := 9) (oi := { dst := some 114, op := Op.move (Operand.tmp 7), type := 45, pos := "law.go:69", after := #[{ on := 8, ground := Ground.guard }], guard := some (8, true) }) (v := ?vr10) rfl (by kernel_rfl) (by kernel_rfl) (by kernel_rfl) (fun _ _ _ h => h) (Or.inl ⟨by rfl, ?yr10⟩) (Below.refl _ _) ?rr10
          case yr10 => (intro w hSw; go_simp; try with_reducible rfl)
          try simp only [Act.put, List.setIfInBounds_toArray, List.set_cons_zero, List.set_cons_succ]
          refine wpAnyH_take (i := 10) (oi := { dst := some 115, op := Op.move (Operand.tmp 2), type := 44, pos := "law.go:69", after := #[{ on := 8, ground := Ground.guard }], guard := some (8, true) }) (v := ?vr11) rfl (by kernel_rfl) (by kernel_rfl) (by kernel_rfl) (fun _ _ _ h => h) (Or.inl ⟨by rfl, ?yr11⟩) (Below.refl _ _) ?rr11
          case yr11 => (intro w hSw; go_simp; try with_reducible rfl)
          try simp only [Act.put, List.setIfInBounds_toArray, List.set_cons_zero, List.set_cons_succ]
          refine wpAnyH_take (i := 12) (oi := { dst := some 117, op := Op.move (Operand.tmp 14), type := 4, pos := "law.go:69", after := #[{ on := 8, ground := Ground.guard }], guard := some (8, true) }) (v := ?vr12) rfl (by kernel_rfl) (by kernel_rfl) (by kernel_rfl) (fun _ _ _ h => h) (Or.inl ⟨by rfl, ?yr12⟩) (Below.refl _ _) ?rr12
          case yr12 => (intro w hSw; go_simp; try with_reducible rfl)
          try simp only [Act.put, List.setIfInBounds_toArray, List.set_cons_zero, List.set_cons_succ]
          refine wpAnyH_ready (rs := [11]) (by kernel_rfl) (by simp) ?_
          refine AllReadyH.cons (o := { dst := some 116, op := Op.call { callee := Callee.value (Operand.func 21), args := #[Operand.tmp 114, Operand.tmp 115], argTypes := #[45, 44] }, type := 4, pos := "law.go:69", after := #[{ on := 9, ground := Ground.data }, { on := 10, ground := Ground.data }, { on := 8, ground := Ground.chain }, { on := 8, ground := Ground.guard }], guard := some (8, true) }) rfl (fun KK hKK => ?_) ?_
          · go_simp
            refine (FWK.out _ (Below.refl _ _)).mono ?_
            rintro e u13' ⟨rfl, hqu13⟩
            replace hqu13 := hqu13.symm
            subst hqu13
            (try go_wp2_with fail)
            refine hKK.out _ _ (Below.refl _ _) (fun _ => ?_)
            clear hKK KK
            try simp only [Act.put, List.setIfInBounds_toArray, List.set_cons_zero, List.set_cons_succ]
            refine wpAnyH_on (Below.refl _ _) (fun u13 hu13 bu13 => ?_)
            replace FC := on FC bu13
            replace FWK := on FWK bu13
            replace FSZ := on FSZ bu13
            replace FLN := on FLN bu13
            replace FAW := on FAW bu13
            replace FB := on FB bu13
            refine wpAnyH_take (i := 13) (oi := { dst := some 118, op := Op.binOp BinOp.eql 4 (Operand.tmp 116) (Operand.tmp 117) 4, type := 4, pos := "law.go:69", after := #[{ on := 11, ground := Ground.data }, { on := 12, ground := Ground.data }, { on := 8, ground := Ground.guard }], guard := some (8, true) }) (v := ?vr14) rfl (by kernel_rfl) (by kernel_rfl) (by kernel_rfl) (fun _ _ _ h => h) (Or.inl ⟨by rfl, ?yr14⟩) (Below.refl _ _) ?rr14
            case yr14 => (intro w hSw; go_simp; try with_reducible rfl)
            try simp only [Act.put, List.setIfInBounds_toArray, List.set_cons_zero, List.set_cons_succ]
            refine wpAnyH_take (i := 14) (oi := { dst := some 119, op := Op.pick (Operand.tmp 113) (Operand.tmp 118) (Operand.const (Value.bool false)), type := 4, pos := "law.go:69", after := #[{ on := 8, ground := Ground.data }, { on := 13, ground := Ground.data }], guard := none }) (v := ?vr15) rfl (by kernel_rfl) (by kernel_rfl) (by kernel_rfl) (fun _ _ _ h => h) (Or.inl ⟨by rfl, ?yr15⟩) (Below.refl _ _) ?rr15
            case yr15 => (intro w hSw; go_simp; try with_reducible rfl)
            try simp only [Act.put, List.setIfInBounds_toArray, List.set_cons_zero, List.set_cons_succ]
            refine wpAnyH_take (i := 15) (oi := { dst := some 120, op := Op.move (Operand.tmp 119), type := 4, pos := "law.go:69", after := #[{ on := 14, ground := Ground.data }, { on := 11, ground := Ground.chain }], guard := none }) (v := ?vr16) rfl (by kernel_rfl) (by kernel_rfl) (by kernel_rfl) (fun _ _ _ h => h) (Or.inl ⟨by rfl, ?yr16⟩) (Below.refl _ _) ?rr16
            case yr16 => (intro w hSw; go_simp; try with_reducible rfl)
            try simp only [Act.put, List.setIfInBounds_toArray, List.set_cons_zero, List.set_cons_succ]
            refine wpAnyH_take (i := 16) (oi := { dst := some 121, op := Op.move (Operand.tmp 7), type := 45, pos := "law.go:69", after := #[{ on := 15, ground := Ground.guard }], guard := some (15, true) }) (v := ?vr17) rfl (by kernel_rfl) (by kernel_rfl) (by kernel_rfl) (fun _ _ _ h => h) (Or.inl ⟨by rfl, ?yr17⟩) (Below.refl _ _) ?rr17
            case yr17 => (intro w hSw; go_simp; try with_reducible rfl)
            try simp only [Act.put, List.setIfInBounds_toArray, List.set_cons_zero, List.set_cons_succ]
            refine wpAnyH_take (i := 18) (oi := { dst := some 123, op := Op.fieldAddr 34 (Operand.tmp 3) 0, type := 0, pos := "law.go:69", after := #[{ on := 15, ground := Ground.guard }], guard := some (15, true) }) (v := ?vr18) rfl (by kernel_rfl) (by kernel_rfl) (by kernel_rfl) (fun _ _ _ h => h) (Or.inl ⟨by rfl, ?yr18⟩) (Below.refl _ _) ?rr18
            case yr18 => (intro w hSw; go_simp; try with_reducible rfl)
            try simp only [Act.put, List.setIfInBounds_toArray, List.set_cons_zero, List.set_cons_succ]
            refine wpAnyH_take (i := 19) (oi := { dst := some 124, op := Op.load 3 (Operand.tmp 123), type := 3, pos := "law.go:69", after := #[{ on := 18, ground := Ground.data }, { on := 15, ground := Ground.guard }], guard := some (15, true) }) (v := ?vr19) rfl (by kernel_rfl) (by kernel_rfl) (by kernel_rfl) (fun _ _ _ h => h) (Or.inl ⟨by rfl, ?yr19⟩) (Below.refl _ _) ?rr19
            case yr19 => (intro w hSw; obtain ⟨t0, t2⟩ := FC.out w hSw; go_simp; try with_reducible rfl)
            try simp only [Act.put, List.setIfInBounds_toArray, List.set_cons_zero, List.set_cons_succ]
            refine wpAnyH_ready (rs := [17]) (by kernel_rfl) (by simp) ?_
            refine AllReadyH.cons (o := { dst := some 122, op := Op.call { callee := Callee.value (Operand.func 22), args := #[Operand.tmp 121], argTypes := #[45] }, type := 3, pos := "law.go:69", after := #[{ on := 16, ground := Ground.data }, { on := 15, ground := Ground.chain }, { on := 15, ground := Ground.guard }], guard := some (15, true) }) rfl (fun KK hKK => ?_) ?_
            · go_simp
              refine (FSZ.out _ (Below.refl _ _)).mono ?_
              rintro e u20' ⟨rfl, hqu20⟩
              replace hqu20 := hqu20.symm
              subst hqu20
              (try go_wp2_with fail)
              refine hKK.out _ _ (Below.refl _ _) (fun _ => ?_)
              clear hKK KK
              try simp only [Act.put, List.setIfInBounds_toArray, List.set_cons_zero, List.set_cons_succ]
              refine wpAnyH_on (Below.refl _ _) (fun u20 hu20 bu20 => ?_)
              replace FC := on FC bu20
              replace FWK := on FWK bu20
              replace FSZ := on FSZ bu20
              replace FLN := on FLN bu20
              replace FAW := on FAW bu20
              replace FB := on FB bu20
              refine wpAnyH_take (i := 20) (oi := { dst := some 125, op := Op.binOp BinOp.eql 3 (Operand.tmp 122) (Operand.tmp 124) 3, type := 4, pos := "law.go:69", after := #[{ on := 17, ground := Ground.data }, { on := 19, ground := Ground.data }, { on := 15, ground := Ground.guard }], guard := some (15, true) }) (v := ?vr21) rfl (by kernel_rfl) (by kernel_rfl) (by kernel_rfl) (fun _ _ _ h => h) (Or.inl ⟨by rfl, ?yr21⟩) (Below.refl _ _) ?rr21
              case yr21 => (intro w hSw; go_simp; try with_reducible rfl)
              try simp only [Act.put, List.setIfInBounds_toArray, List.set_cons_zero, List.set_cons_succ]
              refine wpAnyH_take (i := 21) (oi := { dst := some 126, op := Op.pick (Operand.tmp 120) (Operand.tmp 125) (Operand.const (Value.bool false)), type := 4, pos := "law.go:69", after := #[{ on := 15, ground := Ground.data }, { on := 20, ground := Ground.data }], guard := none }) (v := ?vr22) rfl (by kernel_rfl) (by kernel_rfl) (by kernel_rfl) (fun _ _ _ h => h) (Or.inl ⟨by rfl, ?yr22⟩) (Below.refl _ _) ?rr22
              case yr22 => (intro w hSw; go_simp; try with_reducible rfl)
              try simp only [Act.put, List.setIfInBounds_toArray, List.set_cons_zero, List.set_cons_succ]
              refine wpAnyH_take (i := 22) (oi := { dst := some 127, op := Op.move (Operand.tmp 126), type := 4, pos := "law.go:69", after := #[{ on := 21, ground := Ground.data }, { on := 17, ground := Ground.chain }], guard := none }) (v := ?vr23) rfl (by kernel_rfl) (by kernel_rfl) (by kernel_rfl) (fun _ _ _ h => h) (Or.inl ⟨by rfl, ?yr23⟩) (Below.refl _ _) ?rr23
              case yr23 => (intro w hSw; go_simp; try with_reducible rfl)
              try simp only [Act.put, List.setIfInBounds_toArray, List.set_cons_zero, List.set_cons_succ]
              refine wpAnyH_take (i := 23) (oi := { dst := some 128, op := Op.move (Operand.tmp 7), type := 45, pos := "law.go:69", after := #[{ on := 22, ground := Ground.guard }], guard := some (22, true) }) (v := ?vr24) rfl (by kernel_rfl) (by kernel_rfl) (by kernel_rfl) (fun _ _ _ h => h) (Or.inl ⟨by rfl, ?yr24⟩) (Below.refl _ _) ?rr24
              case yr24 => (intro w hSw; go_simp; try with_reducible rfl)
              try simp only [Act.put, List.setIfInBounds_toArray, List.set_cons_zero, List.set_cons_succ]
              refine wpAnyH_take (i := 25) (oi := { dst := some 130, op := Op.fieldAddr 34 (Operand.tmp 3) 2, type := 0, pos := "law.go:69", after := #[{ on := 22, ground := Ground.guard }], guard := some (22, true) }) (v := ?vr25) rfl (by kernel_rfl) (by kernel_rfl) (by kernel_rfl) (fun _ _ _ h => h) (Or.inl ⟨by rfl, ?yr25⟩) (Below.refl _ _) ?rr25
              case yr25 => (intro w hSw; go_simp; try with_reducible rfl)
              try simp only [Act.put, List.setIfInBounds_toArray, List.set_cons_zero, List.set_cons_succ]
              refine wpAnyH_take (i := 26) (oi := { dst := some 131, op := Op.load 24 (Operand.tmp 130), type := 24, pos := "law.go:69", after := #[{ on := 25, ground := Ground.data }, { on := 22, ground := Ground.guard }], guard := some (22, true) }) (v := ?vr26) rfl (by kernel_rfl) (by kernel_rfl) (by kernel_rfl) (fun _ _ _ h => h) (Or.inl ⟨by rfl, ?yr26⟩) (Below.refl _ _) ?rr26
              case yr26 => (intro w hSw; obtain ⟨t0, t2⟩ := FC.out w hSw; go_simp; try with_reducible rfl)
              try simp only [Act.put, List.setIfInBounds_toArray, List.set_cons_zero, List.set_cons_succ]
              refine wpAnyH_take (i := 27) (oi := { dst := some 132, op := Op.call { callee := Callee.builtin Builtin.len, args := #[Operand.tmp 131], argTypes := #[24] }, type := 3, pos := "law.go:69", after := #[{ on := 26, ground := Ground.data }, { on := 22, ground := Ground.guard }], guard := some (22, true) }) (v := ?vr27) rfl (by kernel_rfl) (by kernel_rfl) (by kernel_rfl) (fun _ _ _ h => h) (Or.inl ⟨by rfl, ?yr27⟩) (Below.refl _ _) ?rr27
              case yr27 => (intro w hSw; go_simp; try with_reducible rfl)
              try simp only [Act.put, List.setIfInBounds_toArray, List.set_cons_zero, List.set_cons_succ]
              refine wpAnyH_ready (rs := [24]) (by kernel_rfl) (by simp) ?_
              refine AllReadyH.cons (o := { dst := some 129, op := Op.call { callee := Callee.value (Operand.func 23), args := #[Operand.tmp 128], argTypes := #[45] }, type := 3, pos := "law.go:69", after := #[{ on := 23, ground := Ground.data }, { on := 22, ground := Ground.chain }, { on := 22, ground := Ground.guard }], guard := some (22, true) }) rfl (fun KK hKK => ?_) ?_
              · go_simp
                refine (FLN.out _ (Below.refl _ _)).mono ?_
                rintro e u28' ⟨rfl, hqu28⟩
                replace hqu28 := hqu28.symm
                subst hqu28
                (try go_wp2_with fail)
                refine hKK.out _ _ (Below.refl _ _) (fun _ => ?_)
                clear hKK KK
                try simp only [Act.put, List.setIfInBounds_toArray, List.set_cons_zero, List.set_cons_succ]
                refine wpAnyH_on (Below.refl _ _) (fun u28 hu28 bu28 => ?_)
                replace FC := on FC bu28
                replace FWK := on FWK bu28
                replace FSZ := on FSZ bu28
                replace FLN := on FLN bu28
                replace FAW := on FAW bu28
                replace FB := on FB bu28
                refine wpAnyH_take (i := 28) (oi := { dst := some 133, op := Op.binOp BinOp.eql 3 (Operand.tmp 129) (Operand.tmp 132) 3, type := 4, pos := "law.go:69", after := #[{ on := 24, ground := Ground.data }, { on := 27, ground := Ground.data }, { on := 22, ground := Ground.guard }], guard := some (22, true) }) (v := ?vr29) rfl (by kernel_rfl) (by kernel_rfl) (by kernel_rfl) (fun _ _ _ h => h) (Or.inl ⟨by rfl, ?yr29⟩) (Below.refl _ _) ?rr29
                case yr29 => (intro w hSw; go_simp; try with_reducible rfl)
                try simp only [Act.put, List.setIfInBounds_toArray, List.set_cons_zero, List.set_cons_succ]
                refine wpAnyH_take (i := 29) (oi := { dst := some 134, op := Op.pick (Operand.tmp 127) (Operand.tmp 133) (Operand.const (Value.bool false)), type := 4, pos := "law.go:69", after := #[{ on := 22, ground := Ground.data }, { on := 28, ground := Ground.data }], guard := none }) (v := ?vr30) rfl (by kernel_rfl) (by kernel_rfl) (by kernel_rfl) (fun _ _ _ h => h) (Or.inl ⟨by rfl, ?yr30⟩) (Below.refl _ _) ?rr30
                case yr30 => (intro w hSw; go_simp; try with_reducible rfl)
                try simp only [Act.put, List.setIfInBounds_toArray, List.set_cons_zero, List.set_cons_succ]
                refine wpAnyH_take (i := 30) (oi := { dst := some 135, op := Op.move (Operand.tmp 134), type := 4, pos := "law.go:69", after := #[{ on := 29, ground := Ground.data }, { on := 24, ground := Ground.chain }], guard := none }) (v := ?vr31) rfl (by kernel_rfl) (by kernel_rfl) (by kernel_rfl) (fun _ _ _ h => h) (Or.inl ⟨by rfl, ?yr31⟩) (Below.refl _ _) ?rr31
                case yr31 => (intro w hSw; go_simp; try with_reducible rfl)
                try simp only [Act.put, List.setIfInBounds_toArray, List.set_cons_zero, List.set_cons_succ]
                refine wpAnyH_ready (rs := [31]) (by kernel_rfl) (by simp) ?_
                refine AllReadyH.cons (o := { dst := some 136, op := Op.call { callee := Callee.value (Operand.func 9), args := #[], argTypes := #[] }, type := 4, pos := "law.go:69", after := #[{ on := 30, ground := Ground.chain }, { on := 30, ground := Ground.guard }], guard := some (30, true) }) rfl (fun KK hKK => ?_) ?_
                · go_simp
                  refine (FAW.out _ (Below.refl _ _)).mono ?_
                  rintro e u32' ⟨rfl, bu32'⟩
                  (try go_wp2_with fail)
                  refine hKK.out _ _ (bu32') (fun _ => ?_)
                  clear hKK KK
                  try simp only [Act.put, List.setIfInBounds_toArray, List.set_cons_zero, List.set_cons_succ]
                  refine wpAnyH_on (bu32') (fun u32 hu32 bu32 => ?_)
                  replace FC := on FC bu32
                  replace FWK := on FWK bu32
                  replace FSZ := on FSZ bu32
                  replace FLN := on FLN bu32
                  replace FAW := on FAW bu32
                  replace FB := on FB bu32
                  refine wpAnyH_take (i := 32) (oi := { dst := some 137, op := Op.pick (Operand.tmp 135) (Operand.tmp 136) (Operand.const (Value.bool false)), type := 4, pos := "law.go:69", after := #[{ on := 30, ground := Ground.data }, { on := 31, ground := Ground.data }], guard := none }) (v := ?vr33) rfl (by kernel_rfl) (by kernel_rfl) (by kernel_rfl) (fun _ _ _ h => h) (Or.inl ⟨by rfl, ?yr33⟩) (Below.refl _ _) ?rr33
                  case yr33 => (intro w hSw; go_simp; try with_reducible rfl)
                  try simp only [Act.put, List.setIfInBounds_toArray, List.set_cons_zero, List.set_cons_succ]
                  refine wpAnyH_take (i := 33) (oi := { dst := some 6, op := Op.assign (Operand.tmp 137), type := 4, pos := "law.go:69", after := #[{ on := 32, ground := Ground.data }, { on := 31, ground := Ground.chain }, { on := 0, ground := Ground.phase }, { on := 1, ground := Ground.phase }, { on := 2, ground := Ground.phase }, { on := 3, ground := Ground.phase }, { on := 4, ground := Ground.phase }, { on := 5, ground := Ground.phase }, { on := 6, ground := Ground.phase }, { on := 7, ground := Ground.phase }, { on := 8, ground := Ground.phase }, { on := 9, ground := Ground.phase }, { on := 10, ground := Ground.phase }, { on := 11, ground := Ground.phase }, { on := 12, ground := Ground.phase }, { on := 13, ground := Ground.phase }, { on := 14, ground := Ground.phase }, { on := 15, ground := Ground.phase }, { on := 16, ground := Ground.phase }, { on := 17, ground := Ground.phase }, { on := 18, ground := Ground.phase }, { on := 19, ground := Ground.phase }, { on := 20, ground := Ground.phase }, { on := 21, ground := Ground.phase }, { on := 22, ground := Ground.phase }, { on := 23, ground := Ground.phase }, { on := 24, ground := Ground.phase }, { on := 25, ground := Ground.phase }, { on := 26, ground := Ground.phase }, { on := 27, ground := Ground.phase }, { on := 28, ground := Ground.phase }, { on := 29, ground := Ground.phase }, { on := 30, ground := Ground.phase }, { on := 31, ground := Ground.phase }, { on := 32, ground := Ground.phase }], guard := none }) (v := ?vr34) rfl (by kernel_rfl) (by kernel_rfl) (by kernel_rfl) (fun _ _ _ h => h) (Or.inl ⟨by rfl, ?yr34⟩) (Below.refl _ _) ?rr34
                  case yr34 => (intro w hSw; go_simp; try with_reducible rfl)
                  try simp only [Act.put, List.setIfInBounds_toArray, List.set_cons_zero, List.set_cons_succ]
                  refine wpAnyH_done (by kernel_rfl) ?_ _
                  have BZ : Hid (Below w.heap.size w u32) := FB.out _ (Below.refl _ _)
                  clear FC FWK FSZ FLN FAW FB
                  go_wp2
                  go_ret
                  exact ⟨rfl, BZ.out⟩
                exact AllReadyH.nil
              exact AllReadyH.nil
            exact AllReadyH.nil
          exact AllReadyH.nil
    · rw [if_neg he] at nx
      subst nx
      have e1 : (e != e) = false := by simp
      have e2 : (e == 0) = false := by simpa using he
      have e3 : (e != 0) = true := by simpa using he
      have CW := weak_nil w2 q
      have CZ := isize_nil w2
      have CL := ilen_nil w2
      have ca := CA.out w2 BW2.out
      clear he
      go_wp2_with fail
      refine CK.mono ?_
      rintro e' w5 ⟨rfl, hq5⟩
      replace hq5 := hq5.symm
      subst hq5
      clear CK
      go_wp2_with fail
      refine CW.mono ?_
      rintro e' w5 ⟨rfl, hq5⟩
      replace hq5 := hq5.symm
      subst hq5
      clear CW
      go_wp2_with fail
      refine CZ.mono ?_
      rintro e' w5 ⟨rfl, hq5⟩
      replace hq5 := hq5.symm
      subst hq5
      clear CZ
      go_wp2_with fail
      refine CL.mono ?_
      rintro e' w5 ⟨rfl, hq5⟩
      replace hq5 := hq5.symm
      subst hq5
      clear CL
      go_wp2_with fail
      refine ca.mono ?_
      rintro e' w6 ⟨rfl, b6⟩
      have B6 : Hid (Below w.heap.size w w6) := BW2.out.trans (b6.mono BW2.out.size)
      clear ca b6
      go_wp2
      go_ret
      exact ⟨rfl, B6.out⟩

theorem contract (H : Type) (enc : TypeId × Value → H) (W : World) (base : Nat) (args : Array Value) (ds gs : List (DataW H)) (before : List MemPlace)
    (hval : ∀ (j : Nat) t v, Tryd.f5.params[j]? = some t → args[j]? = some v → Value.okWide Tryd.prog W .any base t v)
    (hW : DataW.Whole enc Tryd.prog Tryd.f5.params.toList Rows.blockFindsSpec.vars false W args.toList ds gs before) (hL : laidMetH Tryd.prog Rows.blockFindsRow.laid W)
    (hsz0 : (DataW.weightsEach Tryd.prog (Tryd.f5.params.toList ++ Rows.blockFindsSpec.plain.varTypes Tryd.prog) (ds ++ gs)).all (· ≤ reachBytes) = true) :
    Calls Tryd.prog 5 args W fun e W' => ∃ v, e = .returned v ∧ Rows.blockFindsSpec.post enc Tryd.prog Tryd.f5 false true false false W args v W' := by
  have hW' := hW
  obtain ⟨p, q, hA0, hV, rfl, hfz, hnd⟩ := hW
  have hA : DataW.TrodAll enc Tryd.prog W 0 (fun _ => true) true Tryd.f5.params.toList args.toList ds p := hA0
  rw [Tryd.params5] at hA hval hsz0
  obtain ⟨v0, vs0, d0, ds0, p0, q0, hargs, rfl, rfl, h0, r0⟩ := trodAll_cons hA
  obtain ⟨v1, vs1, d1, ds1, p1, q1, rfl, rfl, rfl, h1, r1⟩ := trodAll_cons r0
  obtain ⟨v2, vs2, d2, ds2, p2, q2, rfl, rfl, rfl, h2, r2⟩ := trodAll_cons r1
  obtain ⟨rfl, rfl, rfl⟩ := trodAll_nil r2
  obtain rfl : args = #[v0, v1, v2] := by cases args; simp_all
  obtain ⟨rfl, rfl⟩ := trodVars_none hV
  have k0 := h0
  have lt0 : ∀ x ∈ p0, x.block < W.heap.size := by obtain ⟨m, hm⟩ := k0; exact DataW.trod_lt m _ _ _ hm
  obtain ⟨L0, w0⟩ := sums_in (hval 0 34 v0 rfl rfl) h0
  have k1 := h1
  have lt1 : ∀ x ∈ p1, x.block < W.heap.size := by obtain ⟨m, hm⟩ := k1; exact DataW.trod_lt m _ _ _ hm
  obtain ⟨L1, w1⟩ := sl_in (hval 1 22 v1 rfl rfl) h1
  obtain ⟨a2, rfl, rfl, rfl, w2⟩ := open_int Tryd.underlying44 (hval 2 44 v2 rfl rfl) h2
  clear hA0
  refine (walk v0 L0 v1 L1 a2 W (ta_of hL) w0 w1 w2).mono fun e W' ⟨he, bel⟩ => ?_
  subst he
  exact ⟨_, rfl, _, _, _, [], _, [], hW', trodAll_mk1 (shut_bool Tryd.underlying4 _), (trodAll_cons_mk (Below.trod laidOut (by kernel_rfl) (of_decide_eq_true (by kernel_rfl)) k0 bel lt0) (trodAll_cons_mk (Below.trod laidOut (by kernel_rfl) (of_decide_eq_true (by kernel_rfl)) k1 bel lt1) (trodAll_cons_mk (shut_int Tryd.underlying44 w2) trodAll_mk0))), rfl, bel.frame _, fun h => by cases h⟩

theorem laid_met (os : Os) : laidMet Tryd.prog Rows.blockFindsRow.laid (({ World.holding Tryd.prog os ⟨#[], #[], []⟩ with heap := ((((World.holding Tryd.prog os ⟨#[], #[], []⟩).heap.modify 0 (fun
      | .cells _ t frozen => .cells shaFirst t frozen
      | o => o)).modify 1 (fun
      | .cells _ t frozen => .cells #[.int .i64 1, .int .i64 2, .int .i64 4, .int .i64 8] t frozen
      | o => o)).modify 2 (fun
      | .cells _ t frozen => .cells shaRounds t frozen
      | o => o)) } : World).forCall (fun _ _ => 0) ⟨#[], #[.agg #[.int .i64 0, .int .i64 0, .slice none 0 0], .slice none 0 0, .int .u32 0], []⟩).memory :=
  laidMet_of_run' 8 (by kernel_rfl) (by kernel_rfl)
theorem reads (os : Os) {H : Type} (enc : TypeId × Value → H) : ∃ places, DataW.whole enc Tryd.prog (({ World.holding Tryd.prog os ⟨#[], #[], []⟩ with heap := ((((World.holding Tryd.prog os ⟨#[], #[], []⟩).heap.modify 0 (fun
      | .cells _ t frozen => .cells shaFirst t frozen
      | o => o)).modify 1 (fun
      | .cells _ t frozen => .cells #[.int .i64 1, .int .i64 2, .int .i64 4, .int .i64 8] t frozen
      | o => o)).modify 2 (fun
      | .cells _ t frozen => .cells shaRounds t frozen
      | o => o)) } : World).forCall (fun _ _ => 0) ⟨#[], #[.agg #[.int .i64 0, .int .i64 0, .slice none 0 0], .slice none 0 0, .int .u32 0], []⟩).memory Tryd.f5.params.toList Rows.blockFindsSpec.vars false #[Value.agg #[.int .i64 0, .int .i64 0, .slice none 0 0], .slice none 0 0, .int .u32 0].toList 8 = some ([.agg [.lit (.int .i64 0), .lit (.int .i64 0), .nil], .nil, .lit (.int .u32 0)], [], places) :=
  ⟨[], by kernel_rfl⟩

set_option maxRecDepth 100000 in
theorem lifted (os : Os) (started : os.Started) (H : Type) (enc : TypeId × Value → H) (F : Stop.Interp) :
    ReturnsInHanded {} Tryd.checked os 5 .any ((OpenSpec.ofChange Rows.blockFindsSpec).preRow enc Tryd.prog Tryd.f5 Rows.blockFindsRow.domain false Rows.blockFindsRow.laid) (((OpenSpec.ofChange Rows.blockFindsSpec).at F).post enc Tryd.prog Tryd.f5 false true false false) := by
  obtain ⟨places, hx⟩ := reads os enc
  refine returnsInHanded_of_row (C := Tryd.checked) (s := OpenSpec.ofChange Rows.blockFindsSpec) own started (by kernel_rfl) Tryd.func5
    (witness_row_at (enc := enc) (C := Tryd.checked) false ({ World.holding Tryd.prog os ⟨#[], #[], []⟩ with heap := ((((World.holding Tryd.prog os ⟨#[], #[], []⟩).heap.modify 0 (fun
      | .cells _ t frozen => .cells shaFirst t frozen
      | o => o)).modify 1 (fun
      | .cells _ t frozen => .cells #[.int .i64 1, .int .i64 2, .int .i64 4, .int .i64 8] t frozen
      | o => o)).modify 2 (fun
      | .cells _ t frozen => .cells shaRounds t frozen
      | o => o)) } : World) #[.agg #[.int .i64 0, .int .i64 0, .slice none 0 0], .slice none 0 0, .int .u32 0] rfl (by kernel_rfl) (by kernel_rfl) (by kernel_rfl)
      (OpenSpec.preRow_of_cond 8 hx (by kernel_rfl) (fun k hk => by cases hk) (by kernel_rfl) (laid_met os))) ?_
  intro W base args ds gs before hval hW _ _ hsz hL _ _
  exact contract H enc W base args ds gs before hval hW hL hsz

theorem said : Rows.BlockFindsSaid :=
  OpenClaim.holds_of_cond 5 Tryd.f5 rfl rfl rfl rfl rfl rfl rfl ⟨rfl, rfl, rfl, rfl, rfl⟩ rfl rfl rfl rfl rfl (by kernel_rfl) Tryd.func5 (by kernel_rfl)
    (of_decide_eq_true (by kernel_rfl)) (by unfold Func.isWrapper; first | (rw [if_pos (by decide +kernel)]; kernel_rfl) | (rw [if_neg (by decide +kernel)]; exact ⟨rfl, rfl⟩))
    (fun os started H enc _ F => by rw [OpenClaim.pre_eq_preRow]; exact lifted os started H enc F)

theorem plain (f : FuncId) (fn : Func) (hf : Tryd.pinned.checked.prog.funcNamed "sumpter/sumpterlaw11.BlockFinds" = some f) (hfn : Tryd.pinned.checked.prog.funcs[f]? = some fn) :
    false = Tryd.pinned.checked.prog.looks [] ∧ ∀ (j : Nat) t, fn.params[j]? = some t → Tryd.pinned.checked.prog.wantsStandIn t = false := by
  obtain rfl : f = 5 := Option.some.inj ((show Tryd.prog.funcNamed "sumpter/sumpterlaw11.BlockFinds" = some 5 by kernel_rfl).symm.trans hf) |>.symm
  obtain rfl : fn = Tryd.f5 := (Option.some.inj (Tryd.func5.symm.trans hfn)).symm
  refine ⟨by kernel_rfl, fun j t ht => ?_⟩
  rw [Tryd.params5] at ht
  have hm : t ∈ [34, 22, 44] := by simpa using Array.mem_of_getElem? ht
  have hall : ([34, 22, 44].all fun u => !Tryd.prog.wantsStandIn u) = true := by kernel_rfl
  exact (show Tryd.prog.wantsStandIn t = false by simpa using List.all_eq_true.1 hall t hm)
end Go.Proofs.YtjiefndjgkhcjaaDoor.blockFinds

namespace Go.Proofs.YtjiefndjgkhcjaaDoor
/-- The card of BlockFinds. -/
theorem blockFinds_card : Rows.BlockFindsCardSaid :=
  Claim7.holds_tied_plain_at .later [] _ _ _ _ blockFinds.said (fun _ h => by cases h) (by kernel_rfl) (fun _ h => by cases h) blockFinds_row_tie rfl ⟨rfl, rfl⟩ (by kernel_rfl) rfl blockFinds.plain (by kernel_rfl)
#print axioms blockFinds_card
end Go.Proofs.YtjiefndjgkhcjaaDoor
