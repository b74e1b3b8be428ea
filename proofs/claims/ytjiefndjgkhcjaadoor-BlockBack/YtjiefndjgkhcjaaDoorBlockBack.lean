/-
  BlockBack: sums (of up to 200) that are put are read as they were; bytes (of up to 8000) that are read are those that are put; a byte more, or less, is none; no condition.
-/
import Derived.Test.YtjiefndjgkhcjaaDoorFr
import Derived.Test.YtjiefndjgkhcjaaDoorBk
namespace Go.Proofs.YtjiefndjgkhcjaaDoor.blockBack
open Go.ChangeShapes Go.WideShapes Go.ChangeAt Go.RowKit Go.Deep Go.ChangeMaps
set_option maxRecDepth 100000

theorem trio3 {w : World} {b : Nat} {x y z : Value} {t : TypeId} (h : w.heap[b]? = some (.cells #[x, y, z] t (0, 0))) : w.cell? ⟨b, 0, none⟩ = some x ∧ w.cell? ⟨b, 1, none⟩ = some y ∧ w.cell? ⟨b, 2, none⟩ = some z :=
  ⟨by rw [cell_of_row _ _ _ _ _ _ h]; rfl, by rw [cell_of_row _ _ _ _ _ _ h]; rfl, by rw [cell_of_row _ _ _ _ _ _ h]; rfl⟩
theorem own_none (w : World) : Ow (w.alloc (.cells #[] 5)) w.heap.size (.slice (some ⟨w.heap.size, 0, none⟩) 0 0) [] :=
  ⟨World.ownsRow_made (base := w.heap.size) (e := 5) (size := 1) w #[] 0 (Nat.le_refl _) (by unfold maxLen; omega) rfl, fun k => by simp⟩
set_option maxHeartbeats 16000000 in
theorem walk (v0 : Value) (X : Sm) (v1 : Value) (raw : List Int) (w : World) (hw : Tb w) (h0 : SM w v0 X) (h1 : Sl w v1 raw) :
    Calls Tryd.prog 7 #[v0, v1] w fun e w' => e = .returned (.bool true) ∧ Below w.heap.size w w' := by
  have CA : Hid (∀ W, Below w.heap.size w W → Calls Tryd.prog 9 #[] W fun e w' => e = .returned (.bool true) ∧ Below W.heap.size W w') := fun W hb => awake_any W (hw.kept hb).1
  have CP : Hid (∀ W z n v (m : List Sg), Below w.heap.size w W → GS W v m → m.length ≤ 90000 → Calls Tryd.prog 15 #[.int .i64 z, .int .i64 n, v] W fun e w' => ∃ v', e = .returned (.tuple #[v', .int .i64 (bput z n m).2]) ∧ Ow w' W.heap.size v' (bput z n m).1 ∧ Below W.heap.size W w') := fun W z n v m hb hi hl => put_any z n v m W hi hl (hw.kept hb).2
  have CG : Hid (∀ W v (b : List Int), Below w.heap.size w W → Sl W v b → b.length ≤ 1000000 → Calls Tryd.prog 17 #[v] W fun e w' => ∃ v', e = .returned (.tuple #[.int .i64 (bget b).1, .int .i64 (bget b).2.1, v', .int .i64 (bget b).2.2.2]) ∧ RI w' W.heap.size v' (bget b).2.2.1 ∧ Below W.heap.size W w') := fun W v b hb hi hl => get_any v b W hi hl (hw.kept hb).2
  obtain ⟨u, rfl, hg, hz0, hn0⟩ := h0
  obtain ⟨a, c, rfl, hc, hm, h4⟩ := hg.shape
  have HG : Hid (GS w (.slice a X.l.length c) X.l) := hg
  have HOK : Hid (∀ x ∈ X.l, x.ok) := hg.ok
  obtain ⟨va, vc, rfl, hvc, hvm, -⟩ := id h1
  have HS : Hid (Sl w (.slice va raw.length vc) raw) := h1
  have HBT : Hid (Bt raw) := h1.bytes
  obtain ⟨z, n, l⟩ := X
  simp only at HG HOK hc hz0 hn0 ⊢
  obtain ⟨L, hL⟩ : ∃ L, L = l.length := ⟨_, rfl⟩
  have HL : Hid (L = l.length) := hL
  obtain ⟨B, hB⟩ : ∃ B, B = raw.length := ⟨_, rfl⟩
  have HBL : Hid (B = raw.length) := hB
  rw [← hL] at HG hc ⊢
  rw [← hB] at HS hvc ⊢
  have lm : (L : Int) ≤ 9223372036854775807 := by unfold maxLen at hm; omega
  have bm : (B : Int) ≤ 9223372036854775807 := by unfold maxLen at hvm; omega
  obtain ⟨W1, hW1⟩ : ∃ W1, W1 = w.alloc (.cells #[.int .i64 z, .int .i64 n, .slice a L c] 34) := ⟨_, rfl⟩
  have b1 : Below w.heap.size w W1 := by rw [hW1]; exact al_below _ _
  have g1 : W1.heap[w.heap.size]? = some (.cells #[.int .i64 z, .int .i64 n, .slice a L c] 34 (0, 0)) := by rw [hW1]; exact heap_alloc_new _ _
  have B1 : Hid (Below w.heap.size w W1) := b1
  have FT : Hid (∀ x, Below W1.heap.size W1 x → x.cell? ⟨w.heap.size, 0, none⟩ = some (.int .i64 z) ∧ x.cell? ⟨w.heap.size, 1, none⟩ = some (.int .i64 n) ∧ x.cell? ⟨w.heap.size, 2, none⟩ = some (.slice a L c)) := fun x hx => trio3 ((hx.block _ (Array.getElem?_eq_some_iff.1 g1).1).trans g1)
  obtain ⟨k0, k1, k2⟩ := FT.out W1 (Below.refl _ _)
  clear b1 g1 h1 hg hw hL hB hm hvm h4
  go_enter Tryd.func7, Tryd.ntmps7
  by_cases h5 : 200 < L ∨ 8000 < B
  · have ca := CA.out W1 B1.out
    by_cases h6 : 200 < L
    · have h7 : 200 < (L : Int) := by omega
      clear h5
      go_wp2_with fail
      try rw [← hW1]
      clear hW1 k0 k1 k2
      refine ca.mono ?_
      rintro e w2 ⟨rfl, b2⟩
      have B2 : Hid (Below w.heap.size w w2) := B1.out.trans (b2.mono B1.out.size)
      clear ca b2
      go_wp2
      go_ret
      exact ⟨rfl, B2.out⟩
    · have h7 : ¬ 200 < (L : Int) := by omega
      have h8 : 8000 < (B : Int) := by omega
      clear h5
      go_wp2_with fail
      try rw [← hW1]
      clear hW1 k0 k1 k2
      refine ca.mono ?_
      rintro e w2 ⟨rfl, b2⟩
      have B2 : Hid (Below w.heap.size w w2) := B1.out.trans (b2.mono B1.out.size)
      clear ca b2
      go_wp2
      go_ret
      exact ⟨rfl, B2.out⟩
  · have h7 : ¬ 200 < (L : Int) := by omega
    have h8 : ¬ 8000 < (B : Int) := by omega
    have cp := CP.out W1 z n (.slice a L c) l B1.out (HG.out.kept B1.out) (by rw [← HL.out]; omega)
    clear h5
    have CGR : Hid (∀ W, Below w.heap.size w W → Calls Tryd.prog 17 #[.slice va B vc] W fun e w' => ∃ v', e = .returned (.tuple #[.int .i64 (bget raw).1, .int .i64 (bget raw).2.1, v', .int .i64 (bget raw).2.2.2]) ∧ RI w' W.heap.size v' (bget raw).2.2.1 ∧ Below W.heap.size W w') := fun W hb => CG.out W _ raw hb (HS.out.kept hb) (by rw [← HBL.out]; omega)
    go_wp2_with fail
    try rw [← hW1]
    clear hW1 k0 k1 k2
    refine cp.mono ?_
    rintro e w2 ⟨v2, rfl, o2, b2⟩
    clear cp
    have B2 : Hid (Below W1.heap.size W1 w2) := b2
    have BW2 : Hid (Below w.heap.size w w2) := B1.out.trans (b2.mono B1.out.size)
    by_cases he : chk z n L = 0
    · have hel : chk z n l.length = 0 := by rw [← HL.out]; exact he
      rw [bput_ok z n l hel] at o2 ⊢
      simp only at o2
      have g1 := bget_lay z n l HOK.out hel
      have g2 := bget_more z n l 0 HOK.out hel
      have g4 := layL_two z n l hel
      have g5 := layL_len z n l HOK.out
      have g3 := bget_less z n l HOK.out hel o2.2 (by omega)
      have HPB : Hid (Bt (layL z n l)) := o2.2
      clear hel he b2
      generalize layL z n l = P at *
      have O2 : Hid (Ow w2 W1.heap.size v2 P) := o2
      obtain ⟨pa, pc, rfl⟩ := o2.shape
      obtain ⟨np, hnp⟩ : ∃ np, np = P.length := ⟨_, rfl⟩
      have HNP : Hid (np = P.length) := hnp
      have p2 : 2 ≤ np := by omega
      have p3 : np ≤ 16 + L * 36 := by rw [HL.out, hnp]; exact g5
      have CG1 := CG.out w2 (.slice pa P.length pc) P BW2.out o2.sl (by omega)
      rw [g1] at CG1
      have HG2 : Hid (bget (P ++ [0]) = (0, 0, [], 4)) := g2
      have HG3 : Hid (bget (P.take (np - 1)) = (0, 0, [], 4)) := by unfold Hid; rw [hnp]; exact g3
      rw [← hnp] at CG1 O2 ⊢
      clear o2 g1 g2 g3 g4 g5 hnp
      simp only at CG1
      go_wp2_with fail
      refine CG1.mono ?_
      rintro e w3 ⟨v3, rfl, r3, b3⟩
      clear CG1
      have B3 : Hid (Below W1.heap.size W1 w3) := B2.out.trans (b3.mono B2.out.size)
      have BW3 : Hid (Below w.heap.size w w3) := BW2.out.trans (b3.mono BW2.out.size)
      have R3 : Hid (RI w3 w2.heap.size v3 l) := r3
      have O3 : Hid (Ow w3 W1.heap.size (.slice pa np pc) P) := O2.out.below b3
      obtain ⟨la, lc, rfl, hlc, -⟩ := r3.is.shape
      rw [← HL.out] at R3 hlc ⊢
      obtain ⟨k0, k1, k2⟩ := FT.out w3 B3.out
      have t1 : (z != z) = false := by simp
      have t2 : (n != n) = false := by simp
      have t3 : ((L : Int) != (L : Int)) = false := by simp
      have t4 : ¬ (np : Int) < 2 := by omega
      clear r3 b3 O2 B2 BW2
      go_wp2_with fail
      go_loopw [11] (fun q wr => ∃ j : Nat, j ≤ L ∧ q = .int .i64 j ∧ Below w3.heap.size w3 wr) (fun q _ => L - (intOf q).toNat)
      case atStart => exact ⟨0, by omega, rfl, Below.refl _ _⟩
      case round =>
        clear k0 k1 k2
        obtain ⟨j, hj, rfl, bel⟩ := hrel
        by_cases hlt : j < L
        · have lt2 : (j : Int) < (L : Int) := by omega
          have lt3 : (0 : Int) ≤ (j : Int) := by omega
          obtain ⟨b, off, rfl, r1⟩ := ((R3.out.below bel).is).at j (by rw [← HL.out]; exact hlt)
          obtain ⟨b', off', rfl, r2⟩ := (HG.out.kept (BW3.out.trans (bel.mono BW3.out.size))).at j (by rw [← HL.out]; exact hlt)
          have hx := Sg.at l HOK.out j
          generalize atI l j = x at *
          have FX : Hid (∀ W, From wr W → W.rangeAt b (off + j * 33) x.cells) := fun W h => range_kept r1 h
          have FY : Hid (∀ W, From wr W → W.rangeAt b' (off' + j * 33) x.cells) := fun W h => range_kept r2 h
          have FK : Hid (∀ W, From wr W → W.cell? ⟨w.heap.size, 2, none⟩ = some (.slice (some ⟨b', off', none⟩) L c)) := fun W h => (FT.out W ((B3.out.trans (bel.mono B3.out.size)).trans (Below.mono h (B3.out.trans (bel.mono B3.out.size)).size))).2.2
          have FB : Hid (∀ W, From wr W → Below w3.heap.size w3 W) := fun W h => bel.trans (Below.mono h bel.size)
          have ZX : Hid ((Tryd.prog.info? 57).map (·.size) = some x.cells.length) := sizeI.trans (by rw [Sg.len hx])
          have E1 : Hid (∀ W, (binOp .neq 57 (.agg x.cells.toArray) (.agg x.cells.toArray)).run Tryd.prog W = .ok (.bool false) W) := fun W => by
            have := neq_run x x hx hx W
            rwa [(sIt_iff x x).2 rfl] at this
          have E2 : Hid (∀ (a b : Operand) W, (eqGuard .neq 57 a b (.agg x.cells.toArray) (.agg x.cells.toArray)).run Tryd.prog W = .ok () W) := fun a b W => eqg_run .neq x x a b W
          clear bel r1 r2 hx
          generalize x.cells = cs at *
          go_wp2_with fail
          refine wp_region_held_drew (S := From wr) (by kernel_rfl) ((Below.refl _ _).drew) (fun _ => ?_)
          refine wpAnyH_on ((Below.refl _ _).drew) (fun u0 hu0 bu0 => ?_)
          replace FX := on FX bu0
          replace FY := on FY bu0
          replace FK := on FK bu0
          replace FB := on FB bu0
          refine wpAnyH_take (i := 0) (oi := { dst := some 88, op := Op.move (Operand.tmp 9), type := 24, pos := "own.go:41", after := #[], guard := none }) (v := ?vr1) rfl (by kernel_rfl) (by kernel_rfl) (by kernel_rfl) (fun _ _ _ h => h) (Or.inl ⟨by rfl, ?yr1⟩) (Below.refl _ _) ?rr1
          case yr1 => (intro w hSw; go_simp; try with_reducible rfl)
          try simp only [Act.put, List.setIfInBounds_toArray, List.set_cons_zero, List.set_cons_succ]
          refine wpAnyH_take (i := 1) (oi := { dst := some 89, op := Op.move (Operand.tmp 11), type := 3, pos := "own.go:41", after := #[], guard := none }) (v := ?vr2) rfl (by kernel_rfl) (by kernel_rfl) (by kernel_rfl) (fun _ _ _ h => h) (Or.inl ⟨by rfl, ?yr2⟩) (Below.refl _ _) ?rr2
          case yr2 => (intro w hSw; go_simp; try with_reducible rfl)
          try simp only [Act.put, List.setIfInBounds_toArray, List.set_cons_zero, List.set_cons_succ]
          refine wpAnyH_take (i := 2) (oi := { dst := some 90, op := Op.indexAddr 24 (Operand.tmp 88) (Operand.tmp 89), type := 0, pos := "own.go:41", after := #[{ on := 0, ground := Ground.data }, { on := 1, ground := Ground.data }], guard := none }) (v := ?vr3) rfl (by kernel_rfl) (by kernel_rfl) (by kernel_rfl) (fun _ _ _ h => h) (Or.inl ⟨by rfl, ?yr3⟩) (Below.refl _ _) ?rr3
          case yr3 => (intro w hSw; go_simp; try with_reducible rfl)
          try simp only [Act.put, List.setIfInBounds_toArray, List.set_cons_zero, List.set_cons_succ]
          refine wpAnyH_take (i := 3) (oi := { dst := some 91, op := Op.load 57 (Operand.tmp 90), type := 57, pos := "own.go:41", after := #[{ on := 2, ground := Ground.data }], guard := none }) (v := .agg cs.toArray) rfl (by kernel_rfl) (by kernel_rfl) (by kernel_rfl) (fun _ _ _ h => h) (yieldsIf_load_mid (by rfl) 57 _ rfl b (off + j * 33) rfl cs _ (fun w hw => FX.out w hw) Tryd.underlying57 rfl ZX.out) (Below.refl _ _) ?_
          try simp only [Act.put, List.setIfInBounds_toArray, List.set_cons_zero, List.set_cons_succ]
          refine wpAnyH_take (i := 4) (oi := { dst := some 92, op := Op.fieldAddr 34 (Operand.tmp 2) 2, type := 0, pos := "own.go:41", after := #[], guard := none }) (v := ?vr5) rfl (by kernel_rfl) (by kernel_rfl) (by kernel_rfl) (fun _ _ _ h => h) (Or.inl ⟨by rfl, ?yr5⟩) (Below.refl _ _) ?rr5
          case yr5 => (intro w hSw; go_simp; try with_reducible rfl)
          try simp only [Act.put, List.setIfInBounds_toArray, List.set_cons_zero, List.set_cons_succ]
          refine wpAnyH_take (i := 5) (oi := { dst := some 93, op := Op.load 24 (Operand.tmp 92), type := 24, pos := "own.go:41", after := #[{ on := 4, ground := Ground.data }], guard := none }) (v := ?vr6) rfl (by kernel_rfl) (by kernel_rfl) (by kernel_rfl) (fun _ _ _ h => h) (Or.inl ⟨by rfl, ?yr6⟩) (Below.refl _ _) ?rr6
          case yr6 => (intro w hSw; have t0 := FK.out w hSw; go_simp; try with_reducible rfl)
          try simp only [Act.put, List.setIfInBounds_toArray, List.set_cons_zero, List.set_cons_succ]
          refine wpAnyH_take (i := 6) (oi := { dst := some 94, op := Op.move (Operand.tmp 11), type := 3, pos := "own.go:41", after := #[], guard := none }) (v := ?vr7) rfl (by kernel_rfl) (by kernel_rfl) (by kernel_rfl) (fun _ _ _ h => h) (Or.inl ⟨by rfl, ?yr7⟩) (Below.refl _ _) ?rr7
          case yr7 => (intro w hSw; go_simp; try with_reducible rfl)
          try simp only [Act.put, List.setIfInBounds_toArray, List.set_cons_zero, List.set_cons_succ]
          refine wpAnyH_take (i := 7) (oi := { dst := some 95, op := Op.indexAddr 24 (Operand.tmp 93) (Operand.tmp 94), type := 0, pos := "own.go:41", after := #[{ on := 5, ground := Ground.data }, { on := 6, ground := Ground.data }], guard := none }) (v := ?vr8) rfl (by kernel_rfl) (by kernel_rfl) (by kernel_rfl) (fun _ _ _ h => h) (Or.inl ⟨by rfl, ?yr8⟩) (Below.refl _ _) ?rr8
          case yr8 => (intro w hSw; go_simp; try with_reducible rfl)
          try simp only [Act.put, List.setIfInBounds_toArray, List.set_cons_zero, List.set_cons_succ]
          refine wpAnyH_take (i := 8) (oi := { dst := some 96, op := Op.load 57 (Operand.tmp 95), type := 57, pos := "own.go:41", after := #[{ on := 7, ground := Ground.data }], guard := none }) (v := .agg cs.toArray) rfl (by kernel_rfl) (by kernel_rfl) (by kernel_rfl) (fun _ _ _ h => h) (yieldsIf_load_mid (by rfl) 57 _ rfl b' (off' + j * 33) rfl cs _ (fun w hw => FY.out w hw) Tryd.underlying57 rfl ZX.out) (Below.refl _ _) ?_
          try simp only [Act.put, List.setIfInBounds_toArray, List.set_cons_zero, List.set_cons_succ]
          refine wpAnyH_take (i := 9) (oi := { dst := some 97, op := Op.binOp BinOp.neq 57 (Operand.tmp 91) (Operand.tmp 96) 57, type := 4, pos := "own.go:41", after := #[{ on := 3, ground := Ground.data }, { on := 8, ground := Ground.data }], guard := none }) (v := .bool false) rfl (by kernel_rfl) (by kernel_rfl) (by kernel_rfl) (fun _ _ _ h => h) (yields_eqi (by rfl) .neq _ _ _ rfl (.agg cs.toArray) (.agg cs.toArray) false rfl rfl (fun w => E2.out _ _ w) (fun w => E1.out w)) (Below.refl _ _) ?_
          try simp only [Act.put, List.setIfInBounds_toArray, List.set_cons_zero, List.set_cons_succ]
          refine wpAnyH_done (by kernel_rfl) ?_ _
          have BZ : Hid (Below w3.heap.size w3 u0) := FB.out _ (Below.refl _ _)
          clear FX FY FK FB E1 E2 ZX
          go_wp2
          go_roundw
          case rel => exact ⟨j + 1, by omega, by go_num, BZ.out⟩
          case measure => simp [intOf]; omega
        · obtain rfl : j = L := by omega
          have BR : Hid (Below w3.heap.size w3 wr) := bel
          have BWR : Hid (Below w.heap.size w wr) := BW3.out.trans (bel.mono BW3.out.size)
          have OR : Hid (Ow wr W1.heap.size (.slice pa np pc) P) := O3.out.below bel
          clear bel R3 O3
          have O4 : Hid (Ow (wr.alloc (.cells #[] 5)) wr.heap.size (.slice (some ⟨wr.heap.size, 0, none⟩) 0 0) []) := own_none wr
          have S4 : Hid (Sl (wr.alloc (.cells #[] 5)) (.slice pa np pc) P) := OR.out.sl.kept (al_below _ _)
          have L4 : Hid (wr.heap.size ≤ (wr.alloc (.cells #[] 5)).heap.size) := (al_below _ _).size
          go_wp2_with (at_builtin; refine wpList_append_ow rfl _ _ rfl wr.heap.size _ [] rfl O4.out _ P rfl S4.out (by rw [← HNP.out]; show 0 + np ≤ _; omega) L4.out (Hid.out ?_))
          unfold Hid
          intro v5 w5 o5 b5
          try rw [List.nil_append] at o5
          have b5' : Below wr.heap.size wr w5 := (al_below _ _).trans b5
          have O5 : Hid (Ow w5 wr.heap.size v5 P) := o5
          obtain ⟨a5, c5, rfl⟩ := o5.shape
          rw [← HNP.out] at O5 ⊢
          have O6 : Hid (Ow (w5.alloc (.cells #[.int .u8 0] 5)) wr.heap.size (.slice a5 np c5) P) := O5.out.below (al_below _ _)
          have S6 : Hid (Sl (w5.alloc (.cells #[.int .u8 0] 5)) (.slice (some ⟨w5.heap.size, 0, none⟩) 1 1) [0]) := sl_lit 0 (by omega) (by omega)
          have L6 : Hid (wr.heap.size ≤ (w5.alloc (.cells #[.int .u8 0] 5)).heap.size) := Nat.le_trans b5'.size (al_below _ _).size
          have B5 : Hid (Below wr.heap.size wr w5) := b5'
          clear o5 b5 b5' O5 O4 S4 L4
          go_wp2_with (at_builtin; refine wpList_append_ow rfl _ _ rfl wr.heap.size _ P rfl O6.out _ [0] rfl S6.out (by rw [← HNP.out]; show np + 1 ≤ _; omega) L6.out (Hid.out ?_))
          unfold Hid
          intro v7 w7 o7 b7
          have B7 : Hid (Below wr.heap.size wr w7) := (B5.out.trans ((al_below _ _).mono B5.out.size)).trans b7
          have BW7 : Hid (Below w.heap.size w w7) := BWR.out.trans (B7.out.mono BWR.out.size)
          have CG2 := CG.out w7 v7 (P ++ [0]) BW7.out o7.sl (by rw [List.length_append, ← HNP.out]; show np + 1 ≤ _; omega)
          rw [HG2.out] at CG2
          obtain ⟨a7, c7, e7⟩ := o7.shape
          rw [List.length_append, ← HNP.out] at e7
          obtain rfl : v7 = .slice a7 (np + 1) c7 := e7
          clear o7 b7 O6 S6 L6 B5
          simp only at CG2
          go_wp2_with fail
          refine CG2.mono ?_
          rintro e w8 ⟨v8, rfl, r8, b8⟩
          clear CG2
          have B8 : Hid (Below wr.heap.size wr w8) := B7.out.trans (b8.mono B7.out.size)
          have BW8 : Hid (Below w.heap.size w w8) := BWR.out.trans (B8.out.mono BWR.out.size)
          obtain ⟨a8, c8, rfl, -⟩ := r8.is.shape
          have O8 := OR.out.below B8.out
          have S8 : Hid (Sl w8 (.slice pa (np - 1) pc) (P.take (np - 1))) := O8.sl.take (np - 1) (by omega)
          have hpc : np ≤ pc := by
            obtain ⟨_, _, e, h1, _⟩ := O8.sl
            cases e
            rw [HNP.out]; exact h1
          have CG3 := CG.out w8 (.slice pa (np - 1) pc) (P.take (np - 1)) BW8.out S8.out (by rw [List.length_take]; omega)
          rw [HG3.out] at CG3
          have m1 : ((np : Int) - 1) = ((np - 1 : Nat) : Int) := by omega
          have m2 : (0 : Int) ≤ ((np - 1 : Nat) : Int) := by omega
          have m3 : ((np - 1 : Nat) : Int) ≤ (pc : Int) := by omega
          clear r8 b8 O8 B7 BW7
          simp only at CG3
          obtain ⟨n1, hn1⟩ : ∃ n1, n1 = np - 1 := ⟨_, rfl⟩
          rw [← hn1] at CG3 m1 m2 m3
          clear hn1 S8
          simp only [List.length_nil]
          go_wp2_with fail
          refine CG3.mono ?_
          rintro e w9 ⟨v9, rfl, r9, b9⟩
          clear CG3
          have BW9 : Hid (Below w.heap.size w w9) := BW8.out.trans (b9.mono BW8.out.size)
          obtain ⟨a9, c9, rfl, -⟩ := r9.is.shape
          simp only [List.length_nil]
          clear r9 b9 B8 BW8 OR
          have CR := CGR.out w9 BW9.out
          rcases bget_cases raw with ⟨hg, hp⟩ | hg
          · rw [hg] at CR
            simp only at CR
            have hok := rdA_ok raw HBT.out
            have HLA : Hid ((rdA raw).length ≤ 90000) := by
              have := chk_zero _ _ _ (bput_zero _ _ _ (by rw [hp]))
              unfold Hid
              omega
            have HP : Hid (bput (gz raw).1 (gn raw).1 (rdA raw) = (raw, 0)) := hp
            clear hg hp hok
            generalize (gz raw).1 = gz' at *
            generalize (gn raw).1 = gn' at *
            generalize rdA raw = ra at *
            go_wp2_with fail
            refine CR.mono ?_
            rintro e wa ⟨vA, rfl, rA, bA⟩
            clear CR
            have BWA : Hid (Below w.heap.size w wa) := BW9.out.trans (bA.mono BW9.out.size)
            have cp := CP.out wa gz' gn' vA ra BWA.out rA.is HLA.out
            rw [HP.out] at cp
            obtain ⟨aA, cA, rfl, -⟩ := rA.is.shape
            clear rA bA HLA HP
            simp only at cp
            obtain ⟨nra, hnra⟩ : ∃ nra, nra = ra.length := ⟨_, rfl⟩
            rw [← hnra] at cp ⊢
            clear hnra
            go_wp2_with fail
            refine cp.mono ?_
            rintro e wb ⟨vB, rfl, oB, bB⟩
            clear cp
            have BWB : Hid (Below w.heap.size w wb) := BWA.out.trans (bB.mono BWA.out.size)
            have sB := oB.sl
            obtain ⟨aB, cB, rfl⟩ := oB.shape
            rw [← HBL.out] at sB ⊢
            have c1 := sB.conv
            have c2 := (HS.out.kept BWB.out).conv
            generalize strB raw = SR at *
            have tS : (SR.toList == SR.toList) = true := by simp
            have ca := CA.out wb BWB.out
            clear sB oB bB BWA
            go_wp2_with fail
            refine ca.mono ?_
            rintro e wc ⟨rfl, bC⟩
            have BWC : Hid (Below w.heap.size w wc) := BWB.out.trans (bC.mono BWB.out.size)
            clear ca bC
            go_wp2
            go_ret
            exact ⟨rfl, BWC.out⟩
          · rw [hg] at CR
            simp only at CR
            clear hg
            go_wp2_with fail
            refine CR.mono ?_
            rintro e wa ⟨vA, rfl, rA, bA⟩
            clear CR
            have BWA : Hid (Below w.heap.size w wa) := BW9.out.trans (bA.mono BW9.out.size)
            obtain ⟨aA, cA, rfl, -⟩ := rA.is.shape
            have ca := CA.out wa BWA.out
            clear rA bA
            simp only [List.length_nil]
            go_wp2_with fail
            refine ca.mono ?_
            rintro e wc ⟨rfl, bC⟩
            have BWC : Hid (Below w.heap.size w wc) := BWA.out.trans (bC.mono BWA.out.size)
            clear ca bC
            go_wp2
            go_ret
            exact ⟨rfl, BWC.out⟩
    · have hel : ¬ chk z n l.length = 0 := by rw [← HL.out]; exact he
      have eb : bput z n l = ([], chk z n l.length) := by unfold bput; rw [if_pos hel]
      rw [eb] at o2 ⊢
      simp only at o2
      obtain ⟨pa, pc, rfl⟩ := o2.shape
      have he2 : (chk z n l.length == 0) = false := by simpa using hel
      clear o2 b2 hel eb he B2
      generalize chk z n l.length = ee at *
      simp only [List.length_nil]
      have CR := CGR.out w2 BW2.out
      rcases bget_cases raw with ⟨hg, hp⟩ | hg
      · rw [hg] at CR
        simp only at CR
        have hok := rdA_ok raw HBT.out
        have HLA : Hid ((rdA raw).length ≤ 90000) := by
          have := chk_zero _ _ _ (bput_zero _ _ _ (by rw [hp]))
          unfold Hid
          omega
        have HP : Hid (bput (gz raw).1 (gn raw).1 (rdA raw) = (raw, 0)) := hp
        clear hg hp hok
        generalize (gz raw).1 = gz' at *
        generalize (gn raw).1 = gn' at *
        generalize rdA raw = ra at *
        go_wp2_with fail
        refine CR.mono ?_
        rintro e wa ⟨vA, rfl, rA, bA⟩
        clear CR
        have BWA : Hid (Below w.heap.size w wa) := BW2.out.trans (bA.mono BW2.out.size)
        have cp := CP.out wa gz' gn' vA ra BWA.out rA.is HLA.out
        rw [HP.out] at cp
        obtain ⟨aA, cA, rfl, -⟩ := rA.is.shape
        clear rA bA HLA HP
        simp only at cp
        obtain ⟨nra, hnra⟩ : ∃ nra, nra = ra.length := ⟨_, rfl⟩
        rw [← hnra] at cp ⊢
        clear hnra
        go_wp2_with fail
        refine cp.mono ?_
        rintro e wb ⟨vB, rfl, oB, bB⟩
        clear cp
        have BWB : Hid (Below w.heap.size w wb) := BWA.out.trans (bB.mono BWA.out.size)
        have sB := oB.sl
        obtain ⟨aB, cB, rfl⟩ := oB.shape
        rw [← HBL.out] at sB ⊢
        have c1 := sB.conv
        have c2 := (HS.out.kept BWB.out).conv
        generalize strB raw = SR at *
        have tS : (SR.toList == SR.toList) = true := by simp
        have ca := CA.out wb BWB.out
        clear sB oB bB BWA
        go_wp2_with fail
        refine ca.mono ?_
        rintro e wc ⟨rfl, bC⟩
        have BWC : Hid (Below w.heap.size w wc) := BWB.out.trans (bC.mono BWB.out.size)
        clear ca bC
        go_wp2
        go_ret
        exact ⟨rfl, BWC.out⟩
      · rw [hg] at CR
        simp only at CR
        clear hg
        go_wp2_with fail
        refine CR.mono ?_
        rintro e wa ⟨vA, rfl, rA, bA⟩
        clear CR
        have BWA : Hid (Below w.heap.size w wa) := BW2.out.trans (bA.mono BW2.out.size)
        obtain ⟨aA, cA, rfl, -⟩ := rA.is.shape
        have ca := CA.out wa BWA.out
        clear rA bA
        simp only [List.length_nil]
        go_wp2_with fail
        refine ca.mono ?_
        rintro e wc ⟨rfl, bC⟩
        have BWC : Hid (Below w.heap.size w wc) := BWA.out.trans (bC.mono BWA.out.size)
        clear ca bC
        go_wp2
        go_ret
        exact ⟨rfl, BWC.out⟩

theorem contract (H : Type) (enc : TypeId × Value → H) (W : World) (base : Nat) (args : Array Value) (ds gs : List (DataW H)) (before : List MemPlace)
    (hval : ∀ (j : Nat) t v, Tryd.f7.params[j]? = some t → args[j]? = some v → Value.okWide Tryd.prog W .any base t v)
    (hW : DataW.Whole enc Tryd.prog Tryd.f7.params.toList Rows.blockBackSpec.vars false W args.toList ds gs before) (hL : laidMetH Tryd.prog Rows.blockBackRow.laid W)
    (hsz0 : (DataW.weightsEach Tryd.prog (Tryd.f7.params.toList ++ Rows.blockBackSpec.plain.varTypes Tryd.prog) (ds ++ gs)).all (· ≤ reachBytes) = true) :
    Calls Tryd.prog 7 args W fun e W' => ∃ v, e = .returned v ∧ Rows.blockBackSpec.post enc Tryd.prog Tryd.f7 false true false false W args v W' := by
  have hW' := hW
  obtain ⟨p, q, hA0, hV, rfl, hfz, hnd⟩ := hW
  have hA : DataW.TrodAll enc Tryd.prog W 0 (fun _ => true) true Tryd.f7.params.toList args.toList ds p := hA0
  rw [Tryd.params7] at hA hval hsz0
  obtain ⟨v0, vs0, d0, ds0, p0, q0, hargs, rfl, rfl, h0, r0⟩ := trodAll_cons hA
  obtain ⟨v1, vs1, d1, ds1, p1, q1, rfl, rfl, rfl, h1, r1⟩ := trodAll_cons r0
  obtain ⟨rfl, rfl, rfl⟩ := trodAll_nil r1
  obtain rfl : args = #[v0, v1] := by cases args; simp_all
  obtain ⟨rfl, rfl⟩ := trodVars_none hV
  have k0 := h0
  have lt0 : ∀ x ∈ p0, x.block < W.heap.size := by obtain ⟨m, hm⟩ := k0; exact DataW.trod_lt m _ _ _ hm
  obtain ⟨L0, w0⟩ := sums_in (hval 0 34 v0 rfl rfl) h0
  have k1 := h1
  have lt1 : ∀ x ∈ p1, x.block < W.heap.size := by obtain ⟨m, hm⟩ := k1; exact DataW.trod_lt m _ _ _ hm
  obtain ⟨L1, w1⟩ := sl_in (hval 1 22 v1 rfl rfl) h1
  clear hA0
  refine (walk v0 L0 v1 L1 W (tb_of hL) w0 w1).mono fun e W' ⟨he, bel⟩ => ?_
  subst he
  exact ⟨_, rfl, _, _, _, [], _, [], hW', trodAll_mk1 (shut_bool Tryd.underlying4 _), (trodAll_cons_mk (Below.trod laidOut (by kernel_rfl) (of_decide_eq_true (by kernel_rfl)) k0 bel lt0) (trodAll_cons_mk (Below.trod laidOut (by kernel_rfl) (of_decide_eq_true (by kernel_rfl)) k1 bel lt1) trodAll_mk0)), rfl, bel.frame _, fun h => by cases h⟩

theorem laid_met (os : Os) : laidMet Tryd.prog Rows.blockBackRow.laid (({ World.holding Tryd.prog os ⟨#[], #[], []⟩ with heap := ((((World.holding Tryd.prog os ⟨#[], #[], []⟩).heap.modify 0 (fun
      | .cells _ t frozen => .cells shaFirst t frozen
      | o => o)).modify 1 (fun
      | .cells _ t frozen => .cells #[.int .i64 1, .int .i64 2, .int .i64 4, .int .i64 8] t frozen
      | o => o)).modify 2 (fun
      | .cells _ t frozen => .cells shaRounds t frozen
      | o => o)) } : World).forCall (fun _ _ => 0) ⟨#[], #[.agg #[.int .i64 0, .int .i64 0, .slice none 0 0], .slice none 0 0], []⟩).memory :=
  laidMet_of_run' 8 (by kernel_rfl) (by kernel_rfl)
theorem reads (os : Os) {H : Type} (enc : TypeId × Value → H) : ∃ places, DataW.whole enc Tryd.prog (({ World.holding Tryd.prog os ⟨#[], #[], []⟩ with heap := ((((World.holding Tryd.prog os ⟨#[], #[], []⟩).heap.modify 0 (fun
      | .cells _ t frozen => .cells shaFirst t frozen
      | o => o)).modify 1 (fun
      | .cells _ t frozen => .cells #[.int .i64 1, .int .i64 2, .int .i64 4, .int .i64 8] t frozen
      | o => o)).modify 2 (fun
      | .cells _ t frozen => .cells shaRounds t frozen
      | o => o)) } : World).forCall (fun _ _ => 0) ⟨#[], #[.agg #[.int .i64 0, .int .i64 0, .slice none 0 0], .slice none 0 0], []⟩).memory Tryd.f7.params.toList Rows.blockBackSpec.vars false #[Value.agg #[.int .i64 0, .int .i64 0, .slice none 0 0], .slice none 0 0].toList 8 = some ([.agg [.lit (.int .i64 0), .lit (.int .i64 0), .nil], .nil], [], places) :=
  ⟨[], by kernel_rfl⟩

set_option maxRecDepth 100000 in
theorem lifted (os : Os) (started : os.Started) (H : Type) (enc : TypeId × Value → H) (F : Stop.Interp) :
    ReturnsInHanded {} Tryd.checked os 7 .any ((OpenSpec.ofChange Rows.blockBackSpec).preRow enc Tryd.prog Tryd.f7 Rows.blockBackRow.domain false Rows.blockBackRow.laid) (((OpenSpec.ofChange Rows.blockBackSpec).at F).post enc Tryd.prog Tryd.f7 false true false false) := by
  obtain ⟨places, hx⟩ := reads os enc
  refine returnsInHanded_of_row (C := Tryd.checked) (s := OpenSpec.ofChange Rows.blockBackSpec) own started (by kernel_rfl) Tryd.func7
    (witness_row_at (enc := enc) (C := Tryd.checked) false ({ World.holding Tryd.prog os ⟨#[], #[], []⟩ with heap := ((((World.holding Tryd.prog os ⟨#[], #[], []⟩).heap.modify 0 (fun
      | .cells _ t frozen => .cells shaFirst t frozen
      | o => o)).modify 1 (fun
      | .cells _ t frozen => .cells #[.int .i64 1, .int .i64 2, .int .i64 4, .int .i64 8] t frozen
      | o => o)).modify 2 (fun
      | .cells _ t frozen => .cells shaRounds t frozen
      | o => o)) } : World) #[.agg #[.int .i64 0, .int .i64 0, .slice none 0 0], .slice none 0 0] rfl (by kernel_rfl) (by kernel_rfl) (by kernel_rfl)
      (OpenSpec.preRow_of_cond 8 hx (by kernel_rfl) (fun k hk => by cases hk) (by kernel_rfl) (laid_met os))) ?_
  intro W base args ds gs before hval hW _ _ hsz hL _ _
  exact contract H enc W base args ds gs before hval hW hL hsz

theorem said : Rows.BlockBackSaid :=
  OpenClaim.holds_of_cond 7 Tryd.f7 rfl rfl rfl rfl rfl rfl rfl ⟨rfl, rfl, rfl, rfl, rfl⟩ rfl rfl rfl rfl rfl (by kernel_rfl) Tryd.func7 (by kernel_rfl)
    (of_decide_eq_true (by kernel_rfl)) (by unfold Func.isWrapper; first | (rw [if_pos (by decide +kernel)]; kernel_rfl) | (rw [if_neg (by decide +kernel)]; exact ⟨rfl, rfl⟩))
    (fun os started H enc _ F => by rw [OpenClaim.pre_eq_preRow]; exact lifted os started H enc F)

theorem plain (f : FuncId) (fn : Func) (hf : Tryd.pinned.checked.prog.funcNamed "sumpter/sumpterlaw11.BlockBack" = some f) (hfn : Tryd.pinned.checked.prog.funcs[f]? = some fn) :
    false = Tryd.pinned.checked.prog.looks [] ∧ ∀ (j : Nat) t, fn.params[j]? = some t → Tryd.pinned.checked.prog.wantsStandIn t = false := by
  obtain rfl : f = 7 := Option.some.inj ((show Tryd.prog.funcNamed "sumpter/sumpterlaw11.BlockBack" = some 7 by kernel_rfl).symm.trans hf) |>.symm
  obtain rfl : fn = Tryd.f7 := (Option.some.inj (Tryd.func7.symm.trans hfn)).symm
  refine ⟨by kernel_rfl, fun j t ht => ?_⟩
  rw [Tryd.params7] at ht
  have hm : t ∈ [34, 22] := by simpa using Array.mem_of_getElem? ht
  have hall : ([34, 22].all fun u => !Tryd.prog.wantsStandIn u) = true := by kernel_rfl
  exact (show Tryd.prog.wantsStandIn t = false by simpa using List.all_eq_true.1 hall t hm)
end Go.Proofs.YtjiefndjgkhcjaaDoor.blockBack

namespace Go.Proofs.YtjiefndjgkhcjaaDoor
/-- The card of BlockBack. -/
theorem blockBack_card : Rows.BlockBackCardSaid :=
  Claim7.holds_tied_plain_at .later [] _ _ _ _ blockBack.said (fun _ h => by cases h) (by kernel_rfl) (fun _ h => by cases h) blockBack_row_tie rfl ⟨rfl, rfl⟩ (by kernel_rfl) rfl blockBack.plain (by kernel_rfl)
#print axioms blockBack_card
end Go.Proofs.YtjiefndjgkhcjaaDoor
