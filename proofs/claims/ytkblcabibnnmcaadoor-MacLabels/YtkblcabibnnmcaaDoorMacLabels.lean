/-
  MacLabels answers true for every key, every label and all parts, and nothing that was there is changed; the three package-level tables start as the program's text lays them (the card ties them).
-/
import Derived.Test.YtkblcabibnnmcaaDoorMat
import Derived.Test.YtkblcabibnnmcaaDoorLw
import Derived.Test.YtkblcabibnnmcaaDoorROp
namespace Go.Proofs.YtkblcabibnnmcaaDoor.macLabels
open Go.ChangeShapes Go.WideShapes Go.ChangeAt Go.RowKit Go.Deep Go.ChangeMaps

theorem rows_parts {w : World} {a : Option Addr} {len cap : Nat} {ZZ : List (List Int)} (h : RowsIn w a len cap ZZ) (hl : len ≤ 1000) : Parts w a ZZ := by
  obtain ⟨h1, h2, h3, h4⟩ := h
  refine ⟨by omega, ?_⟩
  rcases h4 with h4 | ⟨b, off, rfl, hall⟩
  · exact .inl (List.length_eq_zero_iff.1 (by omega))
  · exact .inr ⟨b, off, rfl, fun i hi => hall i (by omega)⟩
theorem str_ne' {X Y : List Int} (hX : Pl.Byt X) (hY : Pl.Byt Y) (h : X ≠ Y) : ((strB X).toList == (strB Y).toList) = false := str_ne hX hY h

set_option maxHeartbeats 8000000 in
set_option maxRecDepth 100000 in
theorem walk (ka : Option Addr) (kl kcp : Nat) (zs : List Int) (s : ByteArray) (a : Option Addr) (len cap : Nat) (ZZ : List (List Int)) (w : World) (hw : Tabs w) (hk : Bytes w ka kl kcp zs) (hs : s.size ≤ maxLen) (hr : RowsIn w a len cap ZZ) :
    Calls Tryd.prog 4 #[.slice ka kl kcp, .string s, .slice a len cap] w fun e w' => e = .returned (.bool true) ∧ Below w.heap.size w w' := by
  have hm1 : kl ≤ 140737488351232 := by have := hk.2.2; omega
  have hm2 : len ≤ 9223372036854775807 := by have := hr.1; have := hr.2.1; unfold maxLen at *; omega
  have hm3 : s.size ≤ 9223372036854775807 := by unfold maxLen at hs; omega
  have CA : Hid (∀ W, Below w.heap.size w W → Calls Tryd.prog 8 #[] W fun r w' => r = .returned (.bool true) ∧ Below W.heap.size W w') := fun W h => awake_any W (hw.kept h)
  clear hs
  by_cases h1 : 100 < kl
  · clear hk hr hw
    have g1 : (kl : Int) > 100 := by omega
    generalize s.size = sl at *
    go_enter Tryd.func4, Tryd.ntmps4
    go_wp2_with (go_at_call 8; refine (CA.out _ (Below.refl _ _)).mono ?_; rintro e w' ⟨rfl, hbel⟩)
    go_ret
    exact ⟨rfl, hbel⟩
  have g1 : ¬ (kl : Int) > 100 := by omega
  by_cases h2 : 100 < s.size
  · clear hk hr hw
    have g2 : (s.size : Int) > 100 := by omega
    go_enter Tryd.func4, Tryd.ntmps4
    go_wp2_with (go_at_call 8; refine (CA.out _ (Below.refl _ _)).mono ?_; rintro e w' ⟨rfl, hbel⟩)
    go_ret
    exact ⟨rfl, hbel⟩
  have g2 : ¬ (s.size : Int) > 100 := by omega
  by_cases h3 : 4 < len
  · clear hk hr hw
    have g3 : (len : Int) > 4 := by omega
    go_enter Tryd.func4, Tryd.ntmps4
    go_wp2_with (go_at_call 8; refine (CA.out _ (Below.refl _ _)).mono ?_; rintro e w' ⟨rfl, hbel⟩)
    go_ret
    exact ⟨rfl, hbel⟩
  have g3 : ¬ (len : Int) > 4 := by omega
  have sk := hk.sl
  have hlk : (zs.take kl).length = kl := by rw [List.length_take]; have := hk.2.1; have := hk.2.2.1; omega
  generalize zs.take kl = K at *
  have HLK : Hid (K.length = kl) := hlk
  have HZL : Hid (ZZ.length = len) := hr.2.2.1
  have hP := rows_parts hr (by omega)
  have HPP : Hid (∀ j, j < len → ∃ b off u, a = some ⟨b, off, none⟩ ∧ ∀ W, Below w.heap.size w W → W.cell? ⟨b, off + j, none⟩ = some u ∧ Sl W u (ZZ.getD j [])) := fun j hj => by
    rcases hr.2.2.2 with h | ⟨b, off, rfl, hall⟩
    · omega
    · obtain ⟨u, h1, h2⟩ := hall j hj
      exact ⟨b, off, u, rfl, fun W hW => ⟨(hW.cell (World.block_lt_of_cell? _ _ h1)).trans h1, h2.kept hW⟩⟩
  have HC12 : Hid (∀ W, Below w.heap.size w W → (∀ i, (ZZ.getD i []).length ≤ 100) → Calls Tryd.prog 12 #[.slice ka kl kcp, .string s, .slice a len cap] W fun e w' => e = .returned (.agg (u8s (hmac K (labL s ZZ)))) ∧ Below W.heap.size W w') := fun W hW h100 => by
    have := label_any (.slice ka kl kcp) K s a cap ZZ W (hw.kept hW) (sk.kept hW) (hP.kept hW) (by rw [HLK.out]; omega) (by omega) (by rw [HZL.out]; omega) (fun i => Nat.le_trans (h100 i) (by omega))
    rwa [HZL.out] at this
  have HC13 : Hid (∀ W, Below w.heap.size w W → (∀ i, (ZZ.getD i []).length ≤ 100) → Calls Tryd.prog 13 #[.slice ka kl kcp, .string s, .slice a len cap] W fun e w' => e = .returned (.agg (u8s (hmac K (labL s ZZ)))) ∧ Below W.heap.size W w') := fun W hW h100 => by
    have := rlabel_any (.slice ka kl kcp) K s a cap ZZ W (sk.kept hW) (hP.kept hW) (by rw [HLK.out]; omega) (by omega) (by rw [HZL.out]; omega) (fun i => Nat.le_trans (h100 i) (by omega))
    rwa [HZL.out] at this
  have EQ : Hid (∀ W, (binOp BinOp.eql 26 (.agg (u8s (hmac K (labL s ZZ)))) (.agg (u8s (hmac K (labL s ZZ))))).run Tryd.prog W = .ok (.bool true) W) := fun W => eqb_same _ (hmac_len _ _) W
  generalize u8s (hmac K (labL s ZZ)) = U at *
  clear hk hr hw sk hlk hP HLK
  go_enter Tryd.func4, Tryd.ntmps4
  go_wp2_with fail
  go_loopw [7] (fun q wr => ∃ j : Nat, j ≤ len ∧ q = .int .i64 j ∧ (∀ i, i < j → (ZZ.getD i []).length ≤ 100) ∧ Below w.heap.size w wr) (fun q _ => len - (intOf q).toNat)
  case atStart => exact ⟨0, by omega, rfl, (fun i hi => by omega), Below.refl _ _⟩
  case round =>
    obtain ⟨j, hj, rfl, h100, bel⟩ := hrel
    have BE : Hid (Below w.heap.size w wr) := bel
    have H100 : Hid (∀ i, i < j → (ZZ.getD i []).length ≤ 100) := h100
    by_cases hltj : j < len
    · have lt2 : (j : Int) < (len : Int) := by omega
      obtain ⟨b, off, u, rfl, hu⟩ := HPP.out j hltj
      obtain ⟨b', off', u0, hbo, hu0⟩ := HPP.out 0 (by omega)
      obtain ⟨rfl, rfl⟩ : b = b' ∧ off = off' := by simpa using hbo
      obtain ⟨kc1, su⟩ := hu wr bel
      have hlen : (ZZ.getD j []).length ≤ 9223372036854775807 := by obtain ⟨_, _, _, _, hm, _⟩ := id su; unfold maxLen at hm; omega
      by_cases hbig : 100 < (ZZ.getD j []).length
      · obtain ⟨au, cu, rfl, -⟩ := su
        have gb : ((ZZ.getD j []).length : Int) > 100 := by omega
        generalize (ZZ.getD j []).length = ul at *
        clear bel hu hu0 h100 hbo
        go_wp2_with (go_at_call 8; refine (CA.out _ BE.out).mono ?_; rintro e w' ⟨rfl, hbel⟩)
        go_ret
        exact ⟨rfl, BE.out.trans (hbel.mono BE.out.size)⟩
      · have gb : ¬ ((ZZ.getD j []).length : Int) > 100 := by omega
        have HN : Hid (∀ i, i < j + 1 → (ZZ.getD i []).length ≤ 100) := fun i hi => by
          rcases Nat.lt_or_ge i j with h | h
          · exact H100.out i h
          · obtain rfl : i = j := by omega
            omega
        have hv0 := (hu0 wr bel).2
        have FC : Hid (∀ x, From wr x → x.cell? ⟨b, off + j, none⟩ = some u) := fun x hx => (hu x (bel.trans (Below.mono hx bel.size))).1
        have FC0 : Hid (∀ x, From wr x → x.cell? ⟨b, off, none⟩ = some u0) := fun x hx => (hu0 x (bel.trans (Below.mono hx bel.size))).1
        have FS : Hid (∀ x, From wr x → Sl x u (ZZ.getD j [])) := fun x hx => (hu x (bel.trans (Below.mono hx bel.size))).2
        have FS0 : Hid (∀ x, From wr x → Sl x u0 (ZZ.getD 0 [])) := fun x hx => (hu0 x (bel.trans (Below.mono hx bel.size))).2
        have FV : Hid (∀ x, From wr x → (convert 22 9 u).run Tryd.prog x = .ok (.string (strB (ZZ.getD j []))) x) := fun x hx => by
          have h := FS.out x hx
          obtain ⟨a', c', rfl, -⟩ := id h
          exact h.conv
        have FV0 : Hid (∀ x, From wr x → (convert 22 9 u0).run Tryd.prog x = .ok (.string (strB (ZZ.getD 0 []))) x) := fun x hx => by
          have h := FS0.out x hx
          obtain ⟨a', c', rfl, -⟩ := id h
          exact h.conv
        have FZ : Hid (∀ x, From wr x → Below w.heap.size w x) := fun x hx => bel.trans (Below.mono hx bel.size)
        have HB1 := su.bytes
        have HB0 := hv0.bytes
        have lt0 : 0 < len := by omega
        obtain ⟨au, cu, rfl, -⟩ := su
        obtain ⟨a0, c0, rfl, -⟩ := hv0
        generalize ZZ.getD j [] = Xj at *
        generalize ZZ.getD 0 [] = X0 at *
        clear bel hu hu0 h100 hbo
        by_cases he : Xj = X0
        · subst he
          have hq : (Xj == Xj) = true := by simp
          have CE : Hid (∀ W, Sl W (.slice au Xj.length cu) Xj → Sl W (.slice a0 Xj.length c0) Xj → Calls Tryd.prog 11 #[.slice au Xj.length cu, .slice a0 Xj.length c0] W fun e w' => e = .returned (.bool true) ∧ Below W.heap.size W w') := fun W s1 s2 => by
            have := equal_any _ _ Xj Xj W s1 s2
            rwa [hq] at this
          generalize strB Xj = SS at *
          generalize Xj.length = ul at *
          clear hq HB1 HB0
          go_wp2_with fail
          refine wp_region_held_drew (S := From wr) (by kernel_rfl) ((Below.refl _ _).drew) (fun _ => ?_)
          refine wpAnyH_on ((Below.refl _ _).drew) (fun u0 hu0 bu0 => ?_)
          replace FC := on FC bu0
          replace FC0 := on FC0 bu0
          replace FS := on FS bu0
          replace FS0 := on FS0 bu0
          replace FV := on FV bu0
          replace FV0 := on FV0 bu0
          replace FZ := on FZ bu0
          refine wpAnyH_take (i := 0) (oi := { dst := some 35, op := Op.move (Operand.tmp 2), type := 30, pos := "law.go:36", after := #[], guard := none }) (v := ?va1) rfl (by kernel_rfl) (by kernel_rfl) (by kernel_rfl) (fun _ _ _ h => h) (Or.inl ⟨by rfl, ?ya1⟩) (Below.refl _ _) ?ra1
          case ya1 => (intro w hSw; go_simp; try with_reducible rfl)
          try simp only [Act.put, List.setIfInBounds_toArray, List.set_cons_zero, List.set_cons_succ]
          refine wpAnyH_take (i := 1) (oi := { dst := some 36, op := Op.move (Operand.tmp 7), type := 3, pos := "law.go:36", after := #[], guard := none }) (v := ?va2) rfl (by kernel_rfl) (by kernel_rfl) (by kernel_rfl) (fun _ _ _ h => h) (Or.inl ⟨by rfl, ?ya2⟩) (Below.refl _ _) ?ra2
          case ya2 => (intro w hSw; go_simp; try with_reducible rfl)
          try simp only [Act.put, List.setIfInBounds_toArray, List.set_cons_zero, List.set_cons_succ]
          refine wpAnyH_take (i := 2) (oi := { dst := some 37, op := Op.indexAddr 30 (Operand.tmp 35) (Operand.tmp 36), type := 0, pos := "law.go:36", after := #[{ on := 0, ground := Ground.data }, { on := 1, ground := Ground.data }], guard := none }) (v := ?va3) rfl (by kernel_rfl) (by kernel_rfl) (by kernel_rfl) (fun _ _ _ h => h) (Or.inl ⟨by rfl, ?ya3⟩) (Below.refl _ _) ?ra3
          case ya3 => (intro w hSw; go_simp; try with_reducible rfl)
          try simp only [Act.put, List.setIfInBounds_toArray, List.set_cons_zero, List.set_cons_succ]
          refine wpAnyH_take (i := 3) (oi := { dst := some 38, op := Op.load 22 (Operand.tmp 37), type := 22, pos := "law.go:36", after := #[{ on := 2, ground := Ground.data }], guard := none }) (v := ?va4) rfl (by kernel_rfl) (by kernel_rfl) (by kernel_rfl) (fun _ _ _ h => h) (Or.inl ⟨by rfl, ?ya4⟩) (Below.refl _ _) ?ra4
          case ya4 => (intro w hSw; have t := FC.out w hSw; go_simp; try with_reducible rfl)
          try simp only [Act.put, List.setIfInBounds_toArray, List.set_cons_zero, List.set_cons_succ]
          refine wpAnyH_take (i := 4) (oi := { dst := some 39, op := Op.move (Operand.tmp 2), type := 30, pos := "law.go:36", after := #[], guard := none }) (v := ?va5) rfl (by kernel_rfl) (by kernel_rfl) (by kernel_rfl) (fun _ _ _ h => h) (Or.inl ⟨by rfl, ?ya5⟩) (Below.refl _ _) ?ra5
          case ya5 => (intro w hSw; go_simp; try with_reducible rfl)
          try simp only [Act.put, List.setIfInBounds_toArray, List.set_cons_zero, List.set_cons_succ]
          refine wpAnyH_take (i := 5) (oi := { dst := some 40, op := Op.indexAddr 30 (Operand.tmp 39) (Operand.const (Value.int IntKind.i64 0)), type := 0, pos := "law.go:36", after := #[{ on := 4, ground := Ground.data }], guard := none }) (v := ?va6) rfl (by kernel_rfl) (by kernel_rfl) (by kernel_rfl) (fun _ _ _ h => h) (Or.inl ⟨by rfl, ?ya6⟩) (Below.refl _ _) ?ra6
          case ya6 => (intro w hSw; go_simp; try with_reducible rfl)
          try simp only [Act.put, List.setIfInBounds_toArray, List.set_cons_zero, List.set_cons_succ]
          refine wpAnyH_take (i := 6) (oi := { dst := some 41, op := Op.load 22 (Operand.tmp 40), type := 22, pos := "law.go:36", after := #[{ on := 5, ground := Ground.data }], guard := none }) (v := ?va7) rfl (by kernel_rfl) (by kernel_rfl) (by kernel_rfl) (fun _ _ _ h => h) (Or.inl ⟨by rfl, ?ya7⟩) (Below.refl _ _) ?ra7
          case ya7 => (intro w hSw; have t := FC0.out w hSw; go_simp; try with_reducible rfl)
          try simp only [Act.put, List.setIfInBounds_toArray, List.set_cons_zero, List.set_cons_succ]
          refine wpAnyH_take (i := 8) (oi := { dst := some 43, op := Op.move (Operand.tmp 2), type := 30, pos := "law.go:36", after := #[], guard := none }) (v := ?va8) rfl (by kernel_rfl) (by kernel_rfl) (by kernel_rfl) (fun _ _ _ h => h) (Or.inl ⟨by rfl, ?ya8⟩) (Below.refl _ _) ?ra8
          case ya8 => (intro w hSw; go_simp; try with_reducible rfl)
          try simp only [Act.put, List.setIfInBounds_toArray, List.set_cons_zero, List.set_cons_succ]
          refine wpAnyH_take (i := 9) (oi := { dst := some 44, op := Op.move (Operand.tmp 7), type := 3, pos := "law.go:36", after := #[], guard := none }) (v := ?va9) rfl (by kernel_rfl) (by kernel_rfl) (by kernel_rfl) (fun _ _ _ h => h) (Or.inl ⟨by rfl, ?ya9⟩) (Below.refl _ _) ?ra9
          case ya9 => (intro w hSw; go_simp; try with_reducible rfl)
          try simp only [Act.put, List.setIfInBounds_toArray, List.set_cons_zero, List.set_cons_succ]
          refine wpAnyH_take (i := 10) (oi := { dst := some 45, op := Op.indexAddr 30 (Operand.tmp 43) (Operand.tmp 44), type := 0, pos := "law.go:36", after := #[{ on := 8, ground := Ground.data }, { on := 9, ground := Ground.data }], guard := none }) (v := ?va10) rfl (by kernel_rfl) (by kernel_rfl) (by kernel_rfl) (fun _ _ _ h => h) (Or.inl ⟨by rfl, ?ya10⟩) (Below.refl _ _) ?ra10
          case ya10 => (intro w hSw; go_simp; try with_reducible rfl)
          try simp only [Act.put, List.setIfInBounds_toArray, List.set_cons_zero, List.set_cons_succ]
          refine wpAnyH_take (i := 11) (oi := { dst := some 46, op := Op.load 22 (Operand.tmp 45), type := 22, pos := "law.go:36", after := #[{ on := 10, ground := Ground.data }], guard := none }) (v := ?va11) rfl (by kernel_rfl) (by kernel_rfl) (by kernel_rfl) (fun _ _ _ h => h) (Or.inl ⟨by rfl, ?ya11⟩) (Below.refl _ _) ?ra11
          case ya11 => (intro w hSw; have t := FC.out w hSw; go_simp; try with_reducible rfl)
          try simp only [Act.put, List.setIfInBounds_toArray, List.set_cons_zero, List.set_cons_succ]
          refine wpAnyH_take (i := 12) (oi := { dst := some 47, op := Op.convert 22 9 (Operand.tmp 46), type := 9, pos := "law.go:36", after := #[{ on := 11, ground := Ground.data }], guard := none }) (v := ?va12) rfl (by kernel_rfl) (by kernel_rfl) (by kernel_rfl) (fun _ _ _ h => h) (Or.inl ⟨by rfl, ?ya12⟩) (Below.refl _ _) ?ra12
          case ya12 => (intro w hSw; have t := FV.out w hSw; go_simp; try with_reducible rfl)
          try simp only [Act.put, List.setIfInBounds_toArray, List.set_cons_zero, List.set_cons_succ]
          refine wpAnyH_take (i := 13) (oi := { dst := some 48, op := Op.move (Operand.tmp 2), type := 30, pos := "law.go:36", after := #[], guard := none }) (v := ?va13) rfl (by kernel_rfl) (by kernel_rfl) (by kernel_rfl) (fun _ _ _ h => h) (Or.inl ⟨by rfl, ?ya13⟩) (Below.refl _ _) ?ra13
          case ya13 => (intro w hSw; go_simp; try with_reducible rfl)
          try simp only [Act.put, List.setIfInBounds_toArray, List.set_cons_zero, List.set_cons_succ]
          refine wpAnyH_take (i := 14) (oi := { dst := some 49, op := Op.indexAddr 30 (Operand.tmp 48) (Operand.const (Value.int IntKind.i64 0)), type := 0, pos := "law.go:36", after := #[{ on := 13, ground := Ground.data }], guard := none }) (v := ?va14) rfl (by kernel_rfl) (by kernel_rfl) (by kernel_rfl) (fun _ _ _ h => h) (Or.inl ⟨by rfl, ?ya14⟩) (Below.refl _ _) ?ra14
          case ya14 => (intro w hSw; go_simp; try with_reducible rfl)
          try simp only [Act.put, List.setIfInBounds_toArray, List.set_cons_zero, List.set_cons_succ]
          refine wpAnyH_take (i := 15) (oi := { dst := some 50, op := Op.load 22 (Operand.tmp 49), type := 22, pos := "law.go:36", after := #[{ on := 14, ground := Ground.data }], guard := none }) (v := ?va15) rfl (by kernel_rfl) (by kernel_rfl) (by kernel_rfl) (fun _ _ _ h => h) (Or.inl ⟨by rfl, ?ya15⟩) (Below.refl _ _) ?ra15
          case ya15 => (intro w hSw; have t := FC0.out w hSw; go_simp; try with_reducible rfl)
          try simp only [Act.put, List.setIfInBounds_toArray, List.set_cons_zero, List.set_cons_succ]
          refine wpAnyH_take (i := 16) (oi := { dst := some 51, op := Op.convert 22 9 (Operand.tmp 50), type := 9, pos := "law.go:36", after := #[{ on := 15, ground := Ground.data }], guard := none }) (v := ?va16) rfl (by kernel_rfl) (by kernel_rfl) (by kernel_rfl) (fun _ _ _ h => h) (Or.inl ⟨by rfl, ?ya16⟩) (Below.refl _ _) ?ra16
          case ya16 => (intro w hSw; have t := FV0.out w hSw; go_simp; try with_reducible rfl)
          try simp only [Act.put, List.setIfInBounds_toArray, List.set_cons_zero, List.set_cons_succ]
          refine wpAnyH_take (i := 17) (oi := { dst := some 52, op := Op.binOp BinOp.eql 9 (Operand.tmp 47) (Operand.tmp 51) 9, type := 4, pos := "law.go:36", after := #[{ on := 12, ground := Ground.data }, { on := 16, ground := Ground.data }], guard := none }) (v := ?va17) rfl (by kernel_rfl) (by kernel_rfl) (by kernel_rfl) (fun _ _ _ h => h) (Or.inl ⟨by rfl, ?ya17⟩) (Below.refl _ _) ?ra17
          case ya17 => (intro w hSw; go_simp; try with_reducible rfl)
          try simp only [Act.put, List.setIfInBounds_toArray, List.set_cons_zero, List.set_cons_succ]
          refine wpAnyH_ready (rs := [7]) (by kernel_rfl) (by simp) ?_
          refine AllReadyH.cons (o := { dst := some 42, op := Op.call { callee := Callee.value (Operand.func 11), args := #[Operand.tmp 38, Operand.tmp 41], argTypes := #[22, 22] }, type := 4, pos := "law.go:36", after := #[{ on := 3, ground := Ground.data }, { on := 6, ground := Ground.data }], guard := none }) rfl (fun KK hKK => ?_) ?_
          · go_simp
            refine (CE.out _ (FS.out _ (Below.refl _ _)) (FS0.out _ (Below.refl _ _))).mono ?_
            rintro e u18' ⟨rfl, bu18'⟩
            (try go_wp2_with fail)
            refine hKK.out _ _ (bu18') (fun _ => ?_)
            clear hKK KK
            try simp only [Act.put, List.setIfInBounds_toArray, List.set_cons_zero, List.set_cons_succ]
            refine wpAnyH_on (bu18') (fun u18 hu18 bu18 => ?_)
            replace FC := on FC bu18
            replace FC0 := on FC0 bu18
            replace FS := on FS bu18
            replace FS0 := on FS0 bu18
            replace FV := on FV bu18
            replace FV0 := on FV0 bu18
            replace FZ := on FZ bu18
            refine wpAnyH_take (i := 18) (oi := { dst := some 53, op := Op.binOp BinOp.neq 4 (Operand.tmp 42) (Operand.tmp 52) 4, type := 4, pos := "law.go:36", after := #[{ on := 7, ground := Ground.data }, { on := 17, ground := Ground.data }], guard := none }) (v := ?va19) rfl (by kernel_rfl) (by kernel_rfl) (by kernel_rfl) (fun _ _ _ h => h) (Or.inl ⟨by rfl, ?ya19⟩) (Below.refl _ _) ?ra19
            case ya19 => (intro w hSw; go_simp; try with_reducible rfl)
            try simp only [Act.put, List.setIfInBounds_toArray, List.set_cons_zero, List.set_cons_succ]
            refine wpAnyH_done (by kernel_rfl) ?_ _
            have BZ : Hid (Below w.heap.size w u18) := FZ.out _ (Below.refl _ _)
            clear FC FC0 FS FS0 FV FV0 FZ CE
            go_wp2
            go_roundw
            case rel => exact ⟨j + 1, by omega, by go_num, HN.out, BZ.out⟩
            case measure => simp [intOf]; omega
          exact AllReadyH.nil
        · have hq : (Xj == X0) = false := by simp [he]
          have CE : Hid (∀ W, Sl W (.slice au Xj.length cu) Xj → Sl W (.slice a0 X0.length c0) X0 → Calls Tryd.prog 11 #[.slice au Xj.length cu, .slice a0 X0.length c0] W fun e w' => e = .returned (.bool false) ∧ Below W.heap.size W w') := fun W s1 s2 => by
            have := equal_any _ _ Xj X0 W s1 s2
            rwa [hq] at this
          have NE : Hid (((strB Xj).toList == (strB X0).toList) = false) := str_ne HB1 HB0 he
          generalize strB Xj = SS at *
          generalize strB X0 = S0 at *
          generalize Xj.length = ul at *
          generalize X0.length = ul0 at *
          clear hq HB1 HB0 he
          go_wp2_with fail
          refine wp_region_held_drew (S := From wr) (by kernel_rfl) ((Below.refl _ _).drew) (fun _ => ?_)
          refine wpAnyH_on ((Below.refl _ _).drew) (fun u0 hu0 bu0 => ?_)
          replace FC := on FC bu0
          replace FC0 := on FC0 bu0
          replace FS := on FS bu0
          replace FS0 := on FS0 bu0
          replace FV := on FV bu0
          replace FV0 := on FV0 bu0
          replace FZ := on FZ bu0
          refine wpAnyH_take (i := 0) (oi := { dst := some 35, op := Op.move (Operand.tmp 2), type := 30, pos := "law.go:36", after := #[], guard := none }) (v := ?vb1) rfl (by kernel_rfl) (by kernel_rfl) (by kernel_rfl) (fun _ _ _ h => h) (Or.inl ⟨by rfl, ?yb1⟩) (Below.refl _ _) ?rb1
          case yb1 => (intro w hSw; go_simp; try with_reducible rfl)
          try simp only [Act.put, List.setIfInBounds_toArray, List.set_cons_zero, List.set_cons_succ]
          refine wpAnyH_take (i := 1) (oi := { dst := some 36, op := Op.move (Operand.tmp 7), type := 3, pos := "law.go:36", after := #[], guard := none }) (v := ?vb2) rfl (by kernel_rfl) (by kernel_rfl) (by kernel_rfl) (fun _ _ _ h => h) (Or.inl ⟨by rfl, ?yb2⟩) (Below.refl _ _) ?rb2
          case yb2 => (intro w hSw; go_simp; try with_reducible rfl)
          try simp only [Act.put, List.setIfInBounds_toArray, List.set_cons_zero, List.set_cons_succ]
          refine wpAnyH_take (i := 2) (oi := { dst := some 37, op := Op.indexAddr 30 (Operand.tmp 35) (Operand.tmp 36), type := 0, pos := "law.go:36", after := #[{ on := 0, ground := Ground.data }, { on := 1, ground := Ground.data }], guard := none }) (v := ?vb3) rfl (by kernel_rfl) (by kernel_rfl) (by kernel_rfl) (fun _ _ _ h => h) (Or.inl ⟨by rfl, ?yb3⟩) (Below.refl _ _) ?rb3
          case yb3 => (intro w hSw; go_simp; try with_reducible rfl)
          try simp only [Act.put, List.setIfInBounds_toArray, List.set_cons_zero, List.set_cons_succ]
          refine wpAnyH_take (i := 3) (oi := { dst := some 38, op := Op.load 22 (Operand.tmp 37), type := 22, pos := "law.go:36", after := #[{ on := 2, ground := Ground.data }], guard := none }) (v := ?vb4) rfl (by kernel_rfl) (by kernel_rfl) (by kernel_rfl) (fun _ _ _ h => h) (Or.inl ⟨by rfl, ?yb4⟩) (Below.refl _ _) ?rb4
          case yb4 => (intro w hSw; have t := FC.out w hSw; go_simp; try with_reducible rfl)
          try simp only [Act.put, List.setIfInBounds_toArray, List.set_cons_zero, List.set_cons_succ]
          refine wpAnyH_take (i := 4) (oi := { dst := some 39, op := Op.move (Operand.tmp 2), type := 30, pos := "law.go:36", after := #[], guard := none }) (v := ?vb5) rfl (by kernel_rfl) (by kernel_rfl) (by kernel_rfl) (fun _ _ _ h => h) (Or.inl ⟨by rfl, ?yb5⟩) (Below.refl _ _) ?rb5
          case yb5 => (intro w hSw; go_simp; try with_reducible rfl)
          try simp only [Act.put, List.setIfInBounds_toArray, List.set_cons_zero, List.set_cons_succ]
          refine wpAnyH_take (i := 5) (oi := { dst := some 40, op := Op.indexAddr 30 (Operand.tmp 39) (Operand.const (Value.int IntKind.i64 0)), type := 0, pos := "law.go:36", after := #[{ on := 4, ground := Ground.data }], guard := none }) (v := ?vb6) rfl (by kernel_rfl) (by kernel_rfl) (by kernel_rfl) (fun _ _ _ h => h) (Or.inl ⟨by rfl, ?yb6⟩) (Below.refl _ _) ?rb6
          case yb6 => (intro w hSw; go_simp; try with_reducible rfl)
          try simp only [Act.put, List.setIfInBounds_toArray, List.set_cons_zero, List.set_cons_succ]
          refine wpAnyH_take (i := 6) (oi := { dst := some 41, op := Op.load 22 (Operand.tmp 40), type := 22, pos := "law.go:36", after := #[{ on := 5, ground := Ground.data }], guard := none }) (v := ?vb7) rfl (by kernel_rfl) (by kernel_rfl) (by kernel_rfl) (fun _ _ _ h => h) (Or.inl ⟨by rfl, ?yb7⟩) (Below.refl _ _) ?rb7
          case yb7 => (intro w hSw; have t := FC0.out w hSw; go_simp; try with_reducible rfl)
          try simp only [Act.put, List.setIfInBounds_toArray, List.set_cons_zero, List.set_cons_succ]
          refine wpAnyH_take (i := 8) (oi := { dst := some 43, op := Op.move (Operand.tmp 2), type := 30, pos := "law.go:36", after := #[], guard := none }) (v := ?vb8) rfl (by kernel_rfl) (by kernel_rfl) (by kernel_rfl) (fun _ _ _ h => h) (Or.inl ⟨by rfl, ?yb8⟩) (Below.refl _ _) ?rb8
          case yb8 => (intro w hSw; go_simp; try with_reducible rfl)
          try simp only [Act.put, List.setIfInBounds_toArray, List.set_cons_zero, List.set_cons_succ]
          refine wpAnyH_take (i := 9) (oi := { dst := some 44, op := Op.move (Operand.tmp 7), type := 3, pos := "law.go:36", after := #[], guard := none }) (v := ?vb9) rfl (by kernel_rfl) (by kernel_rfl) (by kernel_rfl) (fun _ _ _ h => h) (Or.inl ⟨by rfl, ?yb9⟩) (Below.refl _ _) ?rb9
          case yb9 => (intro w hSw; go_simp; try with_reducible rfl)
          try simp only [Act.put, List.setIfInBounds_toArray, List.set_cons_zero, List.set_cons_succ]
          refine wpAnyH_take (i := 10) (oi := { dst := some 45, op := Op.indexAddr 30 (Operand.tmp 43) (Operand.tmp 44), type := 0, pos := "law.go:36", after := #[{ on := 8, ground := Ground.data }, { on := 9, ground := Ground.data }], guard := none }) (v := ?vb10) rfl (by kernel_rfl) (by kernel_rfl) (by kernel_rfl) (fun _ _ _ h => h) (Or.inl ⟨by rfl, ?yb10⟩) (Below.refl _ _) ?rb10
          case yb10 => (intro w hSw; go_simp; try with_reducible rfl)
          try simp only [Act.put, List.setIfInBounds_toArray, List.set_cons_zero, List.set_cons_succ]
          refine wpAnyH_take (i := 11) (oi := { dst := some 46, op := Op.load 22 (Operand.tmp 45), type := 22, pos := "law.go:36", after := #[{ on := 10, ground := Ground.data }], guard := none }) (v := ?vb11) rfl (by kernel_rfl) (by kernel_rfl) (by kernel_rfl) (fun _ _ _ h => h) (Or.inl ⟨by rfl, ?yb11⟩) (Below.refl _ _) ?rb11
          case yb11 => (intro w hSw; have t := FC.out w hSw; go_simp; try with_reducible rfl)
          try simp only [Act.put, List.setIfInBounds_toArray, List.set_cons_zero, List.set_cons_succ]
          refine wpAnyH_take (i := 12) (oi := { dst := some 47, op := Op.convert 22 9 (Operand.tmp 46), type := 9, pos := "law.go:36", after := #[{ on := 11, ground := Ground.data }], guard := none }) (v := ?vb12) rfl (by kernel_rfl) (by kernel_rfl) (by kernel_rfl) (fun _ _ _ h => h) (Or.inl ⟨by rfl, ?yb12⟩) (Below.refl _ _) ?rb12
          case yb12 => (intro w hSw; have t := FV.out w hSw; go_simp; try with_reducible rfl)
          try simp only [Act.put, List.setIfInBounds_toArray, List.set_cons_zero, List.set_cons_succ]
          refine wpAnyH_take (i := 13) (oi := { dst := some 48, op := Op.move (Operand.tmp 2), type := 30, pos := "law.go:36", after := #[], guard := none }) (v := ?vb13) rfl (by kernel_rfl) (by kernel_rfl) (by kernel_rfl) (fun _ _ _ h => h) (Or.inl ⟨by rfl, ?yb13⟩) (Below.refl _ _) ?rb13
          case yb13 => (intro w hSw; go_simp; try with_reducible rfl)
          try simp only [Act.put, List.setIfInBounds_toArray, List.set_cons_zero, List.set_cons_succ]
          refine wpAnyH_take (i := 14) (oi := { dst := some 49, op := Op.indexAddr 30 (Operand.tmp 48) (Operand.const (Value.int IntKind.i64 0)), type := 0, pos := "law.go:36", after := #[{ on := 13, ground := Ground.data }], guard := none }) (v := ?vb14) rfl (by kernel_rfl) (by kernel_rfl) (by kernel_rfl) (fun _ _ _ h => h) (Or.inl ⟨by rfl, ?yb14⟩) (Below.refl _ _) ?rb14
          case yb14 => (intro w hSw; go_simp; try with_reducible rfl)
          try simp only [Act.put, List.setIfInBounds_toArray, List.set_cons_zero, List.set_cons_succ]
          refine wpAnyH_take (i := 15) (oi := { dst := some 50, op := Op.load 22 (Operand.tmp 49), type := 22, pos := "law.go:36", after := #[{ on := 14, ground := Ground.data }], guard := none }) (v := ?vb15) rfl (by kernel_rfl) (by kernel_rfl) (by kernel_rfl) (fun _ _ _ h => h) (Or.inl ⟨by rfl, ?yb15⟩) (Below.refl _ _) ?rb15
          case yb15 => (intro w hSw; have t := FC0.out w hSw; go_simp; try with_reducible rfl)
          try simp only [Act.put, List.setIfInBounds_toArray, List.set_cons_zero, List.set_cons_succ]
          refine wpAnyH_take (i := 16) (oi := { dst := some 51, op := Op.convert 22 9 (Operand.tmp 50), type := 9, pos := "law.go:36", after := #[{ on := 15, ground := Ground.data }], guard := none }) (v := ?vb16) rfl (by kernel_rfl) (by kernel_rfl) (by kernel_rfl) (fun _ _ _ h => h) (Or.inl ⟨by rfl, ?yb16⟩) (Below.refl _ _) ?rb16
          case yb16 => (intro w hSw; have t := FV0.out w hSw; go_simp; try with_reducible rfl)
          try simp only [Act.put, List.setIfInBounds_toArray, List.set_cons_zero, List.set_cons_succ]
          refine wpAnyH_take (i := 17) (oi := { dst := some 52, op := Op.binOp BinOp.eql 9 (Operand.tmp 47) (Operand.tmp 51) 9, type := 4, pos := "law.go:36", after := #[{ on := 12, ground := Ground.data }, { on := 16, ground := Ground.data }], guard := none }) (v := ?vb17) rfl (by kernel_rfl) (by kernel_rfl) (by kernel_rfl) (fun _ _ _ h => h) (Or.inl ⟨by rfl, ?yb17⟩) (Below.refl _ _) ?rb17
          case yb17 => (intro w hSw; have t := NE.out; go_simp; try with_reducible rfl)
          try simp only [Act.put, List.setIfInBounds_toArray, List.set_cons_zero, List.set_cons_succ]
          refine wpAnyH_ready (rs := [7]) (by kernel_rfl) (by simp) ?_
          refine AllReadyH.cons (o := { dst := some 42, op := Op.call { callee := Callee.value (Operand.func 11), args := #[Operand.tmp 38, Operand.tmp 41], argTypes := #[22, 22] }, type := 4, pos := "law.go:36", after := #[{ on := 3, ground := Ground.data }, { on := 6, ground := Ground.data }], guard := none }) rfl (fun KK hKK => ?_) ?_
          · go_simp
            refine (CE.out _ (FS.out _ (Below.refl _ _)) (FS0.out _ (Below.refl _ _))).mono ?_
            rintro e u18' ⟨rfl, bu18'⟩
            (try go_wp2_with fail)
            refine hKK.out _ _ (bu18') (fun _ => ?_)
            clear hKK KK
            try simp only [Act.put, List.setIfInBounds_toArray, List.set_cons_zero, List.set_cons_succ]
            refine wpAnyH_on (bu18') (fun u18 hu18 bu18 => ?_)
            replace FC := on FC bu18
            replace FC0 := on FC0 bu18
            replace FS := on FS bu18
            replace FS0 := on FS0 bu18
            replace FV := on FV bu18
            replace FV0 := on FV0 bu18
            replace FZ := on FZ bu18
            refine wpAnyH_take (i := 18) (oi := { dst := some 53, op := Op.binOp BinOp.neq 4 (Operand.tmp 42) (Operand.tmp 52) 4, type := 4, pos := "law.go:36", after := #[{ on := 7, ground := Ground.data }, { on := 17, ground := Ground.data }], guard := none }) (v := ?vb19) rfl (by kernel_rfl) (by kernel_rfl) (by kernel_rfl) (fun _ _ _ h => h) (Or.inl ⟨by rfl, ?yb19⟩) (Below.refl _ _) ?rb19
            case yb19 => (intro w hSw; go_simp; try with_reducible rfl)
            try simp only [Act.put, List.setIfInBounds_toArray, List.set_cons_zero, List.set_cons_succ]
            refine wpAnyH_done (by kernel_rfl) ?_ _
            have BZ : Hid (Below w.heap.size w u18) := FZ.out _ (Below.refl _ _)
            clear FC FC0 FS FS0 FV FV0 FZ CE
            go_wp2
            go_roundw
            case rel => exact ⟨j + 1, by omega, by go_num, HN.out, BZ.out⟩
            case measure => simp [intOf]; omega
          exact AllReadyH.nil
    · obtain rfl : j = len := by omega
      have hall : ∀ i, (ZZ.getD i []).length ≤ 100 := fun i => by
        by_cases hi : i < j
        · exact h100 i hi
        · rw [List.getD, List.getElem?_eq_none (by rw [HZL.out]; omega)]; simp
      have c12 := HC12.out wr bel hall
      have HALL : Hid (∀ i, (ZZ.getD i []).length ≤ 100) := hall
      clear bel h100 hall
      go_wp2_with fail
      refine c12.mono ?_
      rintro e w4 ⟨rfl, b4⟩
      have HB4 : Hid (Below w.heap.size w w4) := BE.out.trans (b4.mono BE.out.size)
      have c13 := HC13.out w4 HB4.out HALL.out
      clear c12 b4
      go_wp2_with fail
      refine c13.mono ?_
      rintro e w5 ⟨rfl, b5⟩
      have HB5 : Hid (Below w.heap.size w w5) := HB4.out.trans (b5.mono HB4.out.size)
      clear c13 b5
      go_wp2_with (first | refine wpList_eql rfl _ _ _ rfl U U true rfl rfl (EQ.out _) ?_ | (go_at_call 8; refine (CA.out _ HB5.out).mono ?_; rintro e w' ⟨rfl, hbel⟩))
      go_ret
      exact ⟨rfl, HB5.out.trans (hbel.mono HB5.out.size)⟩

theorem contract (H : Type) (enc : TypeId × Value → H) (W : World) (base : Nat) (args : Array Value) (ds gs : List (DataW H)) (before : List MemPlace)
    (hval : ∀ (j : Nat) t v, Tryd.f4.params[j]? = some t → args[j]? = some v → Value.okWide Tryd.prog W .any base t v)
    (hW : DataW.Whole enc Tryd.prog Tryd.f4.params.toList Rows.macLabelsSpec.vars false W args.toList ds gs before) (hL : laidMetH Tryd.prog Rows.macLabelsRow.laid W)
    (hsz0 : (DataW.weightsEach Tryd.prog (Tryd.f4.params.toList ++ Rows.macLabelsSpec.plain.varTypes Tryd.prog) (ds ++ gs)).all (· ≤ reachBytes) = true) :
    Calls Tryd.prog 4 args W fun e W' => ∃ v, e = .returned v ∧ Rows.macLabelsSpec.post enc Tryd.prog Tryd.f4 false true false false W args v W' := by
  have hW' := hW
  obtain ⟨p, q, hA0, hV, rfl, hfz, hnd⟩ := hW
  have hA : DataW.TrodAll enc Tryd.prog W 0 (fun _ => true) true Tryd.f4.params.toList args.toList ds p := hA0
  rw [Tryd.params4] at hA hval hsz0
  obtain ⟨v0, vs0, d0, ds0, p0, q0, hargs, rfl, rfl, h0, r0⟩ := trodAll_cons hA
  obtain ⟨v1, vs1, d1, ds1, p1, q1, rfl, rfl, rfl, h1, r1⟩ := trodAll_cons r0
  obtain ⟨v2, vs2, d2, ds2, p2, q2, rfl, rfl, rfl, h2, r2⟩ := trodAll_cons r1
  obtain ⟨rfl, rfl, rfl⟩ := trodAll_nil r2
  obtain rfl : args = #[v0, v1, v2] := by cases args; simp_all
  obtain ⟨rfl, rfl⟩ := trodVars_none hV
  have hsz : (DataW.weightsEach Tryd.prog [22, 9, 30] [d0, d1, d2]).all (· ≤ reachBytes) = true := hsz0
  have k0 := h0
  have lt0 : ∀ x ∈ p0, x.block < W.heap.size := by obtain ⟨m, hm⟩ := k0; exact DataW.trod_lt m _ _ _ hm
  obtain ⟨a0, len0, cap0, z0, rfl, w0⟩ := bytes_open 0 (hval 0 22 v0 rfl rfl) h0 hsz rfl rfl
  obtain ⟨a1, rfl, rfl, rfl, w1⟩ := open_string Tryd.underlying9 (hval 1 9 v1 rfl rfl) h1
  have k2 := h2
  have lt2 : ∀ x ∈ p2, x.block < W.heap.size := by obtain ⟨m, hm⟩ := k2; exact DataW.trod_lt m _ _ _ hm
  obtain ⟨a2, len2, cap2, ZZ2, rfl, w2⟩ := rows_open (hval 2 30 v2 rfl rfl) h2
  clear hA0
  refine (walk a0 len0 cap0 z0 a1 a2 len2 cap2 ZZ2 W (tab_of hL) w0 w1 w2).mono fun e W' ⟨he, bel⟩ => ?_
  subst he
  exact ⟨_, rfl, _, _, _, [], _, [], hW', trodAll_mk1 (shut_bool Tryd.underlying4 _), (trodAll_cons_mk (Below.trod laidOut (by kernel_rfl) (of_decide_eq_true (by kernel_rfl)) k0 bel lt0) (trodAll_cons_mk (shut_string Tryd.underlying9 w1) (trodAll_cons_mk (Below.trod laidOut (by kernel_rfl) (of_decide_eq_true (by kernel_rfl)) k2 bel lt2) trodAll_mk0))), rfl, bel.frame _, fun h => by cases h⟩

theorem laid_met (os : Os) : laidMet Tryd.prog Rows.macLabelsRow.laid (({ World.holding Tryd.prog os ⟨#[], #[], []⟩ with heap := ((((World.holding Tryd.prog os ⟨#[], #[], []⟩).heap.modify 0 (fun
      | .cells _ t frozen => .cells #[.int .u32 1779033703, .int .u32 3144134277, .int .u32 1013904242, .int .u32 2773480762, .int .u32 1359893119, .int .u32 2600822924, .int .u32 528734635, .int .u32 1541459225] t frozen
      | o => o)).modify 1 (fun
      | .cells _ t frozen => .cells #[.int .u32 1116352408, .int .u32 1899447441, .int .u32 3049323471, .int .u32 3921009573, .int .u32 961987163, .int .u32 1508970993, .int .u32 2453635748, .int .u32 2870763221, .int .u32 3624381080, .int .u32 310598401, .int .u32 607225278, .int .u32 1426881987, .int .u32 1925078388, .int .u32 2162078206, .int .u32 2614888103, .int .u32 3248222580, .int .u32 3835390401, .int .u32 4022224774, .int .u32 264347078, .int .u32 604807628, .int .u32 770255983, .int .u32 1249150122, .int .u32 1555081692, .int .u32 1996064986, .int .u32 2554220882, .int .u32 2821834349, .int .u32 2952996808, .int .u32 3210313671, .int .u32 3336571891, .int .u32 3584528711, .int .u32 113926993, .int .u32 338241895, .int .u32 666307205, .int .u32 773529912, .int .u32 1294757372, .int .u32 1396182291, .int .u32 1695183700, .int .u32 1986661051, .int .u32 2177026350, .int .u32 2456956037, .int .u32 2730485921, .int .u32 2820302411, .int .u32 3259730800, .int .u32 3345764771, .int .u32 3516065817, .int .u32 3600352804, .int .u32 4094571909, .int .u32 275423344, .int .u32 430227734, .int .u32 506948616, .int .u32 659060556, .int .u32 883997877, .int .u32 958139571, .int .u32 1322822218, .int .u32 1537002063, .int .u32 1747873779, .int .u32 1955562222, .int .u32 2024104815, .int .u32 2227730452, .int .u32 2361852424, .int .u32 2428436474, .int .u32 2756734187, .int .u32 3204031479, .int .u32 3329325298] t frozen
      | o => o)).modify 2 (fun
      | .cells _ t frozen => .cells #[.int .i64 1, .int .i64 2, .int .i64 4, .int .i64 8] t frozen
      | o => o)) } : World).forCall (fun _ _ => 0) ⟨#[], #[.slice none 0 0, .string ⟨#[]⟩, .slice none 0 0], []⟩).memory :=
  laidMet_of_run' 8 (by kernel_rfl) (by kernel_rfl)
theorem reads (os : Os) {H : Type} (enc : TypeId × Value → H) : ∃ places, DataW.whole enc Tryd.prog (({ World.holding Tryd.prog os ⟨#[], #[], []⟩ with heap := ((((World.holding Tryd.prog os ⟨#[], #[], []⟩).heap.modify 0 (fun
      | .cells _ t frozen => .cells #[.int .u32 1779033703, .int .u32 3144134277, .int .u32 1013904242, .int .u32 2773480762, .int .u32 1359893119, .int .u32 2600822924, .int .u32 528734635, .int .u32 1541459225] t frozen
      | o => o)).modify 1 (fun
      | .cells _ t frozen => .cells #[.int .u32 1116352408, .int .u32 1899447441, .int .u32 3049323471, .int .u32 3921009573, .int .u32 961987163, .int .u32 1508970993, .int .u32 2453635748, .int .u32 2870763221, .int .u32 3624381080, .int .u32 310598401, .int .u32 607225278, .int .u32 1426881987, .int .u32 1925078388, .int .u32 2162078206, .int .u32 2614888103, .int .u32 3248222580, .int .u32 3835390401, .int .u32 4022224774, .int .u32 264347078, .int .u32 604807628, .int .u32 770255983, .int .u32 1249150122, .int .u32 1555081692, .int .u32 1996064986, .int .u32 2554220882, .int .u32 2821834349, .int .u32 2952996808, .int .u32 3210313671, .int .u32 3336571891, .int .u32 3584528711, .int .u32 113926993, .int .u32 338241895, .int .u32 666307205, .int .u32 773529912, .int .u32 1294757372, .int .u32 1396182291, .int .u32 1695183700, .int .u32 1986661051, .int .u32 2177026350, .int .u32 2456956037, .int .u32 2730485921, .int .u32 2820302411, .int .u32 3259730800, .int .u32 3345764771, .int .u32 3516065817, .int .u32 3600352804, .int .u32 4094571909, .int .u32 275423344, .int .u32 430227734, .int .u32 506948616, .int .u32 659060556, .int .u32 883997877, .int .u32 958139571, .int .u32 1322822218, .int .u32 1537002063, .int .u32 1747873779, .int .u32 1955562222, .int .u32 2024104815, .int .u32 2227730452, .int .u32 2361852424, .int .u32 2428436474, .int .u32 2756734187, .int .u32 3204031479, .int .u32 3329325298] t frozen
      | o => o)).modify 2 (fun
      | .cells _ t frozen => .cells #[.int .i64 1, .int .i64 2, .int .i64 4, .int .i64 8] t frozen
      | o => o)) } : World).forCall (fun _ _ => 0) ⟨#[], #[.slice none 0 0, .string ⟨#[]⟩, .slice none 0 0], []⟩).memory Tryd.f4.params.toList Rows.macLabelsSpec.vars false #[Value.slice none 0 0, .string ⟨#[]⟩, .slice none 0 0].toList 8 = some ([.nil, .lit (.string []), .nil], [], places) :=
  ⟨[], by kernel_rfl⟩

set_option maxRecDepth 100000 in
theorem lifted (os : Os) (started : os.Started) (H : Type) (enc : TypeId × Value → H) (F : Stop.Interp) :
    ReturnsInHanded {} Tryd.checked os 4 .any ((OpenSpec.ofChange Rows.macLabelsSpec).preRow enc Tryd.prog Tryd.f4 Rows.macLabelsRow.domain false Rows.macLabelsRow.laid) (((OpenSpec.ofChange Rows.macLabelsSpec).at F).post enc Tryd.prog Tryd.f4 false true false false) := by
  obtain ⟨places, hx⟩ := reads os enc
  refine returnsInHanded_of_row (C := Tryd.checked) (s := OpenSpec.ofChange Rows.macLabelsSpec) own started (by kernel_rfl) Tryd.func4
    (witness_row_at (enc := enc) (C := Tryd.checked) false ({ World.holding Tryd.prog os ⟨#[], #[], []⟩ with heap := ((((World.holding Tryd.prog os ⟨#[], #[], []⟩).heap.modify 0 (fun
      | .cells _ t frozen => .cells #[.int .u32 1779033703, .int .u32 3144134277, .int .u32 1013904242, .int .u32 2773480762, .int .u32 1359893119, .int .u32 2600822924, .int .u32 528734635, .int .u32 1541459225] t frozen
      | o => o)).modify 1 (fun
      | .cells _ t frozen => .cells #[.int .u32 1116352408, .int .u32 1899447441, .int .u32 3049323471, .int .u32 3921009573, .int .u32 961987163, .int .u32 1508970993, .int .u32 2453635748, .int .u32 2870763221, .int .u32 3624381080, .int .u32 310598401, .int .u32 607225278, .int .u32 1426881987, .int .u32 1925078388, .int .u32 2162078206, .int .u32 2614888103, .int .u32 3248222580, .int .u32 3835390401, .int .u32 4022224774, .int .u32 264347078, .int .u32 604807628, .int .u32 770255983, .int .u32 1249150122, .int .u32 1555081692, .int .u32 1996064986, .int .u32 2554220882, .int .u32 2821834349, .int .u32 2952996808, .int .u32 3210313671, .int .u32 3336571891, .int .u32 3584528711, .int .u32 113926993, .int .u32 338241895, .int .u32 666307205, .int .u32 773529912, .int .u32 1294757372, .int .u32 1396182291, .int .u32 1695183700, .int .u32 1986661051, .int .u32 2177026350, .int .u32 2456956037, .int .u32 2730485921, .int .u32 2820302411, .int .u32 3259730800, .int .u32 3345764771, .int .u32 3516065817, .int .u32 3600352804, .int .u32 4094571909, .int .u32 275423344, .int .u32 430227734, .int .u32 506948616, .int .u32 659060556, .int .u32 883997877, .int .u32 958139571, .int .u32 1322822218, .int .u32 1537002063, .int .u32 1747873779, .int .u32 1955562222, .int .u32 2024104815, .int .u32 2227730452, .int .u32 2361852424, .int .u32 2428436474, .int .u32 2756734187, .int .u32 3204031479, .int .u32 3329325298] t frozen
      | o => o)).modify 2 (fun
      | .cells _ t frozen => .cells #[.int .i64 1, .int .i64 2, .int .i64 4, .int .i64 8] t frozen
      | o => o)) } : World) #[.slice none 0 0, .string ⟨#[]⟩, .slice none 0 0] rfl (by kernel_rfl) (by kernel_rfl) (by kernel_rfl)
      (OpenSpec.preRow_of_cond 8 hx (by kernel_rfl) (fun k hk => by cases hk) (by kernel_rfl) (laid_met os))) ?_
  intro W base args ds gs before hval hW _ _ hsz hL _ _
  exact contract H enc W base args ds gs before hval hW hL hsz

theorem said : Rows.MacLabelsSaid :=
  OpenClaim.holds_of_cond 4 Tryd.f4 rfl rfl rfl rfl rfl rfl rfl ⟨rfl, rfl, rfl, rfl, rfl⟩ rfl rfl rfl rfl rfl (by kernel_rfl) Tryd.func4 (by kernel_rfl)
    (of_decide_eq_true (by kernel_rfl)) (by unfold Func.isWrapper; first | (rw [if_pos (by decide +kernel)]; kernel_rfl) | (rw [if_neg (by decide +kernel)]; exact ⟨rfl, rfl⟩))
    (fun os started H enc _ F => by rw [OpenClaim.pre_eq_preRow]; exact lifted os started H enc F)

theorem plain (f : FuncId) (fn : Func) (hf : Tryd.pinned.checked.prog.funcNamed "sumpter/sumpterlaw05.MacLabels" = some f) (hfn : Tryd.pinned.checked.prog.funcs[f]? = some fn) :
    false = Tryd.pinned.checked.prog.looks [] ∧ ∀ (j : Nat) t, fn.params[j]? = some t → Tryd.pinned.checked.prog.wantsStandIn t = false := by
  obtain rfl : f = 4 := Option.some.inj ((show Tryd.prog.funcNamed "sumpter/sumpterlaw05.MacLabels" = some 4 by kernel_rfl).symm.trans hf) |>.symm
  obtain rfl : fn = Tryd.f4 := (Option.some.inj (Tryd.func4.symm.trans hfn)).symm
  refine ⟨by kernel_rfl, fun j t ht => ?_⟩
  rw [Tryd.params4] at ht
  have hm : t ∈ [22, 9, 30] := by simpa using Array.mem_of_getElem? ht
  have hall : ([22, 9, 30].all fun u => !Tryd.prog.wantsStandIn u) = true := by kernel_rfl
  exact (show Tryd.prog.wantsStandIn t = false by simpa using List.all_eq_true.1 hall t hm)
end Go.Proofs.YtkblcabibnnmcaaDoor.macLabels

namespace Go.Proofs.YtkblcabibnnmcaaDoor
/-- The card of MacLabels. -/
theorem macLabels_card : Rows.MacLabelsCardSaid :=
  Claim7.holds_tied_plain_at .later [] _ _ _ _ macLabels.said (fun _ h => by cases h) (by kernel_rfl) (fun _ h => by cases h) macLabels_row_tie rfl ⟨rfl, rfl⟩ (by kernel_rfl) rfl macLabels.plain (by kernel_rfl)
#print axioms macLabels_card
end Go.Proofs.YtkblcabibnnmcaaDoor
