/-
  What Path answers.
  What Path answers of a path that has nothing.
-/
import Derived.Test.YtajcabfeabbknaaGreatDoorMu
import Derived.Test.YtajcabfeabbknaaGreatDoorOrd
import Derived.Deep.QuietTactic
import Derived.BigQuiet
namespace Go.Proofs.YtajcabfeabbknaaGreatDoor
open Go.RowKit Go.Deep

set_option maxHeartbeats 4000000 in
set_option maxRecDepth 100000 in
theorem pathI_any (vd vw u : Value) (d W0 : List En) (q : ByteArray) (x : En) (w : World) (hd : ES w vd d) (hld : Lt d) (hw : ES w vw W0) (hlw : Lt W0) (hu : EV w u x) :
    Calls Tryz.prog 16 #[vd, vw, .string q, u, .bool true] w fun e w' => e = .returned (.bool (pth d W0 q x true)) ∧ Below w.heap.size w w' := by
  have HV1 : Hid (∀ W g, Below w.heap.size w W → W.cell? ⟨g, 0, none⟩ = some vd → Calls Tryz.prog 64 #[u, .pointer (some ⟨g, 0, none⟩)] W fun e w' => e = .returned (.bool (hav d x)) ∧ Below W.heap.size W w') := fun W g hb hc => having1_any vd u d x g W (hd.kept hb) hld (hu.kept hb) hc
  have HV2 : Hid (∀ W g, Below w.heap.size w W → W.cell? ⟨g, 0, none⟩ = some vw → Calls Tryz.prog 64 #[u, .pointer (some ⟨g, 0, none⟩)] W fun e w' => e = .returned (.bool (hav W0 x)) ∧ Below W.heap.size W w') := fun W g hb hc => having1_any vw u W0 x g W (hw.kept hb) hlw (hu.kept hb) hc
  have HH1 : Hid (∀ W, Below w.heap.size w W → Calls Tryz.prog 31 #[vd] W fun e w' => ∃ g, e = .returned (.func (.func 64) #[] #[.pointer (some ⟨g, 0, none⟩)]) ∧ w'.cell? ⟨g, 0, none⟩ = some vd ∧ Below W.heap.size W w') := fun W hb => having_any vd d W (hd.kept hb)
  have HH2 : Hid (∀ W, Below w.heap.size w W → Calls Tryz.prog 31 #[vw] W fun e w' => ∃ g, e = .returned (.func (.func 64) #[] #[.pointer (some ⟨g, 0, none⟩)]) ∧ w'.cell? ⟨g, 0, none⟩ = some vw ∧ Below W.heap.size W w') := fun W hb => having_any vw W0 W (hw.kept hb)
  have HR : Hid (pth d W0 q x true = (decide (x.p = q) && (hav d x || hav W0 x))) := rfl
  obtain ⟨xa, xn, xc, rfl, _⟩ := hu
  obtain ⟨a, c, rfl, _, _, _⟩ := hd.shape
  obtain ⟨a2, c2, rfl, _, _, _⟩ := hw.shape
  obtain ⟨W1, hW1⟩ : ∃ W1, W1 = w.alloc (.cells #[.string x.p, .bool x.d, .slice xa xn xc] 46) := ⟨_, rfl⟩
  have b1 : Below w.heap.size w W1 := by rw [hW1]; exact (Below.refl _ _).alloc (Nat.le_refl _) _
  have K1 : W1.heap[w.heap.size]? = some (.cells #[.string x.p, .bool x.d, .slice xa xn xc] 46 (0, 0)) := by rw [hW1]; exact heap_alloc_new _ _
  have HK : Hid (∀ W, Below W1.heap.size W1 W → W.cell? ⟨w.heap.size, 0, none⟩ = some (.string x.p) ∧ W.cell? ⟨w.heap.size, 1, none⟩ = some (.bool x.d) ∧ W.cell? ⟨w.heap.size, 2, none⟩ = some (.slice xa xn xc)) := fun W hb => by
    obtain ⟨p0, p1, p2, _⟩ := trio ((hb.block _ (lt_of_block K1)).trans K1)
    exact ⟨p0, p1, p2⟩
  have B1 : Hid (Below w.heap.size w W1) := b1
  have HP : Hid ((x.p.toList == q.toList) = decide (x.p = q)) := tl_beq _ _
  generalize pth d W0 q x true = r at *
  generalize hav d x = h1 at *
  generalize hav W0 x = h2 at *
  generalize d.length = n at *
  generalize W0.length = n2 at *
  by_cases hq : x.p = q
  · have tb : (x.p.toList == q.toList) = true := by rw [HP.out]; exact decide_eq_true hq
    have HR2 : Hid (r = (h1 || h2)) := by unfold Hid; rw [HR.out, decide_eq_true hq]; rfl
    generalize x.p = xp at *
    generalize x.d = xd at *
    clear hd hld hw hlw b1 K1 HR HP
    have HQ : Hid (xp = q) := hq
    clear hq
    go_enter Tryz.func16, Tryz.ntmps16
    go_wp2
    rw [← hW1]
    clear hW1
    have FE : Hid (∀ x, From W1 x → x.cell? ⟨w.heap.size, 0, none⟩ = some (.string xp) ∧ x.cell? ⟨w.heap.size, 1, none⟩ = some (.bool xd) ∧ x.cell? ⟨w.heap.size, 2, none⟩ = some (.slice xa xn xc)) := fun x hx => HK.out x hx
    have FB : Hid (∀ x, From W1 x → Below w.heap.size w x) := fun x hx => B1.out.trans (Below.mono hx B1.out.size)
    have TB : Hid ((xp.toList == q.toList) = true) := tb
    cases h1 with
    | true =>
      refine wp_region_held_drew (S := From W1) (by kernel_rfl) ((Below.refl _ _).drew) (fun _ => ?_)
      refine wpAnyH_on ((Below.refl _ _).drew) (fun u0 hu0 bu0 => ?_)
      replace FE := on FE bu0
      replace FB := on FB bu0
      refine wpAnyH_take (i := 0) (oi := { dst := some 16, op := Op.fieldAddr 46 (Operand.tmp 8) 0, type := 0, pos := "merge.go:83", after := #[], guard := none }) (v := ?va1) rfl (by kernel_rfl) (by kernel_rfl) (by kernel_rfl) (fun _ _ _ h => h) (Or.inl ⟨by rfl, ?ya1⟩) (Below.refl _ _) ?ra1
      case ya1 => (intro w hSw; go_simp; try with_reducible rfl)
      try simp only [Act.put, List.setIfInBounds_toArray, List.set_cons_zero, List.set_cons_succ]
      refine wpAnyH_take (i := 1) (oi := { dst := some 17, op := Op.load 9 (Operand.tmp 16), type := 9, pos := "merge.go:83", after := #[{ on := 0, ground := Ground.data }], guard := none }) (v := ?va2) rfl (by kernel_rfl) (by kernel_rfl) (by kernel_rfl) (fun _ _ _ h => h) (Or.inl ⟨by rfl, ?ya2⟩) (Below.refl _ _) ?ra2
      case ya2 => (intro w hSw; have t := (FE.out w hSw).1; go_simp; try with_reducible rfl)
      try simp only [Act.put, List.setIfInBounds_toArray, List.set_cons_zero, List.set_cons_succ]
      refine wpAnyH_take (i := 2) (oi := { dst := some 18, op := Op.move (Operand.tmp 2), type := 9, pos := "merge.go:83", after := #[], guard := none }) (v := ?va3) rfl (by kernel_rfl) (by kernel_rfl) (by kernel_rfl) (fun _ _ _ h => h) (Or.inl ⟨by rfl, ?ya3⟩) (Below.refl _ _) ?ra3
      case ya3 => (intro w hSw; go_simp; try with_reducible rfl)
      try simp only [Act.put, List.setIfInBounds_toArray, List.set_cons_zero, List.set_cons_succ]
      refine wpAnyH_take (i := 3) (oi := { dst := some 19, op := Op.binOp BinOp.eql 9 (Operand.tmp 17) (Operand.tmp 18) 9, type := 4, pos := "merge.go:83", after := #[{ on := 1, ground := Ground.data }, { on := 2, ground := Ground.data }], guard := none }) (v := .bool true) rfl (by kernel_rfl) (by kernel_rfl) (by kernel_rfl) (fun _ _ _ h => h) (Or.inl ⟨by rfl, ?ya4⟩) (Below.refl _ _) ?ra4
      case ya4 => (intro w hSw; have t := TB.out; go_simp; try with_reducible rfl)
      try simp only [Act.put, List.setIfInBounds_toArray, List.set_cons_zero, List.set_cons_succ]
      refine wpAnyH_take (i := 4) (oi := { dst := some 20, op := Op.move (Operand.tmp 19), type := 4, pos := "merge.go:83", after := #[{ on := 3, ground := Ground.data }], guard := none }) (v := ?va5) rfl (by kernel_rfl) (by kernel_rfl) (by kernel_rfl) (fun _ _ _ h => h) (Or.inl ⟨by rfl, ?ya5⟩) (Below.refl _ _) ?ra5
      case ya5 => (intro w hSw; go_simp; try with_reducible rfl)
      try simp only [Act.put, List.setIfInBounds_toArray, List.set_cons_zero, List.set_cons_succ]
      refine wpAnyH_take (i := 5) (oi := { dst := some 21, op := Op.move (Operand.tmp 0), type := 22, pos := "merge.go:83", after := #[{ on := 4, ground := Ground.guard }], guard := some (4, true) }) (v := ?va6) rfl (by kernel_rfl) (by kernel_rfl) (by kernel_rfl) (fun _ _ _ h => h) (Or.inl ⟨by rfl, ?ya6⟩) (Below.refl _ _) ?ra6
      case ya6 => (intro w hSw; go_simp; try with_reducible rfl)
      try simp only [Act.put, List.setIfInBounds_toArray, List.set_cons_zero, List.set_cons_succ]
      refine wpAnyH_take (i := 7) (oi := { dst := some 23, op := Op.load 46 (Operand.tmp 8), type := 46, pos := "merge.go:83", after := #[{ on := 4, ground := Ground.guard }], guard := some (4, true) }) (v := ?va7) rfl (by kernel_rfl) (by kernel_rfl) (by kernel_rfl) (fun _ _ _ h => h) (Or.inl ⟨by rfl, ?ya7⟩) (Below.refl _ _) ?ra7
      case ya7 => (intro w hSw; obtain ⟨t0, t1, t2⟩ := FE.out w hSw; go_simp; try with_reducible rfl)
      try simp only [Act.put, List.setIfInBounds_toArray, List.set_cons_zero, List.set_cons_succ]
      refine wpAnyH_ready (rs := [6]) (by kernel_rfl) (by simp) ?_
      refine AllReadyH.cons (o := { dst := some 22, op := Op.call { callee := Callee.value (Operand.func 31), args := #[Operand.tmp 21], argTypes := #[22] }, type := 57, pos := "merge.go:83", after := #[{ on := 5, ground := Ground.data }, { on := 4, ground := Ground.chain }, { on := 4, ground := Ground.guard }], guard := some (4, true) }) rfl (fun KK hKK => ?_) ?_
      · go_simp
        refine (HH1.out _ (FB.out _ (Below.refl _ _))).mono ?_
        rintro e u8' ⟨ga, rfl, hga, bu8'⟩
        (try go_wp2_with fail)
        refine hKK.out _ _ (bu8') (fun _ => ?_)
        clear hKK KK
        try simp only [Act.put, List.setIfInBounds_toArray, List.set_cons_zero, List.set_cons_succ]
        refine wpAnyH_on (bu8') (fun u8 hu8 bu8 => ?_)
        replace FE := on FE bu8
        replace FB := on FB bu8
        have FG : Hid (∀ x, From u8 x → x.cell? ⟨ga, 0, none⟩ = some (.slice a n c)) := by rw [hu8.out]; exact fun x hx => (Below.cell hx (World.block_lt_of_cell? _ _ hga)).trans hga
        refine wpAnyH_ready (rs := [8]) (by kernel_rfl) (by simp) ?_
        refine AllReadyH.cons (o := { dst := some 24, op := Op.call { callee := Callee.value (Operand.tmp 22), args := #[Operand.tmp 23], argTypes := #[46] }, type := 4, pos := "merge.go:83", after := #[{ on := 6, ground := Ground.data }, { on := 7, ground := Ground.data }, { on := 6, ground := Ground.chain }, { on := 4, ground := Ground.guard }], guard := some (4, true) }) rfl (fun KK hKK => ?_) ?_
        · go_simp
          refine (HV1.out _ ga (FB.out _ (Below.refl _ _)) (FG.out _ (Below.refl _ _))).mono ?_
          rintro e u9' ⟨rfl, bu9'⟩
          (try go_wp2_with fail)
          refine hKK.out _ _ (bu9') (fun _ => ?_)
          clear hKK KK
          try simp only [Act.put, List.setIfInBounds_toArray, List.set_cons_zero, List.set_cons_succ]
          refine wpAnyH_on (bu9') (fun u9 hu9 bu9 => ?_)
          replace FE := on FE bu9
          replace FB := on FB bu9
          replace FG := on FG bu9
          refine wpAnyH_take (i := 9) (oi := { dst := some 25, op := Op.move (Operand.tmp 24), type := 4, pos := "merge.go:83", after := #[{ on := 8, ground := Ground.data }, { on := 8, ground := Ground.chain }, { on := 4, ground := Ground.guard }], guard := some (4, true) }) (v := ?va10) rfl (by kernel_rfl) (by kernel_rfl) (by kernel_rfl) (fun _ _ _ h => h) (Or.inl ⟨by rfl, ?ya10⟩) (Below.refl _ _) ?ra10
          case ya10 => (intro w hSw; go_simp; try with_reducible rfl)
          try simp only [Act.put, List.setIfInBounds_toArray, List.set_cons_zero, List.set_cons_succ]
          refine wpAnyH_take (i := 10) (oi := { dst := some 26, op := Op.move (Operand.tmp 1), type := 22, pos := "merge.go:83", after := #[{ on := 9, ground := Ground.guard }], guard := some (9, false) }) (v := undef) rfl (by kernel_rfl) (by kernel_rfl) (by kernel_rfl) (fun _ _ _ h => h) (Or.inr ⟨by rfl, rfl⟩) (Below.refl _ _) ?_
          try simp only [Act.put, List.setIfInBounds_toArray, List.set_cons_zero, List.set_cons_succ]
          refine wpAnyH_take (i := 11) (oi := { dst := some 27, op := Op.call { callee := Callee.value (Operand.func 31), args := #[Operand.tmp 26], argTypes := #[22] }, type := 57, pos := "merge.go:83", after := #[{ on := 10, ground := Ground.data }, { on := 9, ground := Ground.chain }, { on := 9, ground := Ground.guard }], guard := some (9, false) }) (v := undef) rfl (by kernel_rfl) (by kernel_rfl) (by kernel_rfl) (fun _ _ _ h => h) (Or.inr ⟨by rfl, rfl⟩) (Below.refl _ _) ?_
          try simp only [Act.put, List.setIfInBounds_toArray, List.set_cons_zero, List.set_cons_succ]
          refine wpAnyH_take (i := 12) (oi := { dst := some 28, op := Op.load 46 (Operand.tmp 8), type := 46, pos := "merge.go:83", after := #[{ on := 9, ground := Ground.guard }], guard := some (9, false) }) (v := undef) rfl (by kernel_rfl) (by kernel_rfl) (by kernel_rfl) (fun _ _ _ h => h) (Or.inr ⟨by rfl, rfl⟩) (Below.refl _ _) ?_
          try simp only [Act.put, List.setIfInBounds_toArray, List.set_cons_zero, List.set_cons_succ]
          refine wpAnyH_take (i := 13) (oi := { dst := some 29, op := Op.call { callee := Callee.value (Operand.tmp 27), args := #[Operand.tmp 28], argTypes := #[46] }, type := 4, pos := "merge.go:83", after := #[{ on := 11, ground := Ground.data }, { on := 12, ground := Ground.data }, { on := 11, ground := Ground.chain }, { on := 9, ground := Ground.guard }], guard := some (9, false) }) (v := undef) rfl (by kernel_rfl) (by kernel_rfl) (by kernel_rfl) (fun _ _ _ h => h) (Or.inr ⟨by rfl, rfl⟩) (Below.refl _ _) ?_
          try simp only [Act.put, List.setIfInBounds_toArray, List.set_cons_zero, List.set_cons_succ]
          refine wpAnyH_take (i := 14) (oi := { dst := some 30, op := Op.pick (Operand.tmp 25) (Operand.const (Value.bool true)) (Operand.tmp 29), type := 4, pos := "merge.go:83", after := #[{ on := 9, ground := Ground.data }, { on := 13, ground := Ground.data }, { on := 4, ground := Ground.guard }], guard := some (4, true) }) (v := ?va15) rfl (by kernel_rfl) (by kernel_rfl) (by kernel_rfl) (fun _ _ _ h => h) (Or.inl ⟨by rfl, ?ya15⟩) (Below.refl _ _) ?ra15
          case ya15 => (intro w hSw; go_simp; try with_reducible rfl)
          try simp only [Act.put, List.setIfInBounds_toArray, List.set_cons_zero, List.set_cons_succ]
          refine wpAnyH_take (i := 15) (oi := { dst := some 31, op := Op.pick (Operand.tmp 20) (Operand.tmp 30) (Operand.const (Value.bool false)), type := 4, pos := "merge.go:83", after := #[{ on := 4, ground := Ground.data }, { on := 14, ground := Ground.data }], guard := none }) (v := ?va16) rfl (by kernel_rfl) (by kernel_rfl) (by kernel_rfl) (fun _ _ _ h => h) (Or.inl ⟨by rfl, ?ya16⟩) (Below.refl _ _) ?ra16
          case ya16 => (intro w hSw; go_simp; try with_reducible rfl)
          try simp only [Act.put, List.setIfInBounds_toArray, List.set_cons_zero, List.set_cons_succ]
          refine wpAnyH_take (i := 16) (oi := { dst := some 10, op := Op.assign (Operand.tmp 31), type := 4, pos := "merge.go:83", after := #[{ on := 15, ground := Ground.data }, { on := 13, ground := Ground.chain }, { on := 0, ground := Ground.phase }, { on := 1, ground := Ground.phase }, { on := 2, ground := Ground.phase }, { on := 3, ground := Ground.phase }, { on := 4, ground := Ground.phase }, { on := 5, ground := Ground.phase }, { on := 6, ground := Ground.phase }, { on := 7, ground := Ground.phase }, { on := 8, ground := Ground.phase }, { on := 9, ground := Ground.phase }, { on := 10, ground := Ground.phase }, { on := 11, ground := Ground.phase }, { on := 12, ground := Ground.phase }, { on := 13, ground := Ground.phase }, { on := 14, ground := Ground.phase }, { on := 15, ground := Ground.phase }], guard := none }) (v := ?va17) rfl (by kernel_rfl) (by kernel_rfl) (by kernel_rfl) (fun _ _ _ h => h) (Or.inl ⟨by rfl, ?ya17⟩) (Below.refl _ _) ?ra17
          case ya17 => (intro w hSw; go_simp; try with_reducible rfl)
          try simp only [Act.put, List.setIfInBounds_toArray, List.set_cons_zero, List.set_cons_succ]
          refine wpAnyH_done (by kernel_rfl) ?_ _
          have BZ : Hid (Below w.heap.size w u9) := FB.out _ (Below.refl _ _)
          clear FE FB FG
          go_wp2
          go_ret
          exact ⟨by rw [HR2.out]; rfl, BZ.out⟩
        exact AllReadyH.nil
      exact AllReadyH.nil
    | false =>
      refine wp_region_held_drew (S := From W1) (by kernel_rfl) ((Below.refl _ _).drew) (fun _ => ?_)
      refine wpAnyH_on ((Below.refl _ _).drew) (fun u0 hu0 bu0 => ?_)
      replace FE := on FE bu0
      replace FB := on FB bu0
      refine wpAnyH_take (i := 0) (oi := { dst := some 16, op := Op.fieldAddr 46 (Operand.tmp 8) 0, type := 0, pos := "merge.go:83", after := #[], guard := none }) (v := ?vb1) rfl (by kernel_rfl) (by kernel_rfl) (by kernel_rfl) (fun _ _ _ h => h) (Or.inl ⟨by rfl, ?yb1⟩) (Below.refl _ _) ?rb1
      case yb1 => (intro w hSw; go_simp; try with_reducible rfl)
      try simp only [Act.put, List.setIfInBounds_toArray, List.set_cons_zero, List.set_cons_succ]
      refine wpAnyH_take (i := 1) (oi := { dst := some 17, op := Op.load 9 (Operand.tmp 16), type := 9, pos := "merge.go:83", after := #[{ on := 0, ground := Ground.data }], guard := none }) (v := ?vb2) rfl (by kernel_rfl) (by kernel_rfl) (by kernel_rfl) (fun _ _ _ h => h) (Or.inl ⟨by rfl, ?yb2⟩) (Below.refl _ _) ?rb2
      case yb2 => (intro w hSw; have t := (FE.out w hSw).1; go_simp; try with_reducible rfl)
      try simp only [Act.put, List.setIfInBounds_toArray, List.set_cons_zero, List.set_cons_succ]
      refine wpAnyH_take (i := 2) (oi := { dst := some 18, op := Op.move (Operand.tmp 2), type := 9, pos := "merge.go:83", after := #[], guard := none }) (v := ?vb3) rfl (by kernel_rfl) (by kernel_rfl) (by kernel_rfl) (fun _ _ _ h => h) (Or.inl ⟨by rfl, ?yb3⟩) (Below.refl _ _) ?rb3
      case yb3 => (intro w hSw; go_simp; try with_reducible rfl)
      try simp only [Act.put, List.setIfInBounds_toArray, List.set_cons_zero, List.set_cons_succ]
      refine wpAnyH_take (i := 3) (oi := { dst := some 19, op := Op.binOp BinOp.eql 9 (Operand.tmp 17) (Operand.tmp 18) 9, type := 4, pos := "merge.go:83", after := #[{ on := 1, ground := Ground.data }, { on := 2, ground := Ground.data }], guard := none }) (v := .bool true) rfl (by kernel_rfl) (by kernel_rfl) (by kernel_rfl) (fun _ _ _ h => h) (Or.inl ⟨by rfl, ?yb4⟩) (Below.refl _ _) ?rb4
      case yb4 => (intro w hSw; have t := TB.out; go_simp; try with_reducible rfl)
      try simp only [Act.put, List.setIfInBounds_toArray, List.set_cons_zero, List.set_cons_succ]
      refine wpAnyH_take (i := 4) (oi := { dst := some 20, op := Op.move (Operand.tmp 19), type := 4, pos := "merge.go:83", after := #[{ on := 3, ground := Ground.data }], guard := none }) (v := ?vb5) rfl (by kernel_rfl) (by kernel_rfl) (by kernel_rfl) (fun _ _ _ h => h) (Or.inl ⟨by rfl, ?yb5⟩) (Below.refl _ _) ?rb5
      case yb5 => (intro w hSw; go_simp; try with_reducible rfl)
      try simp only [Act.put, List.setIfInBounds_toArray, List.set_cons_zero, List.set_cons_succ]
      refine wpAnyH_take (i := 5) (oi := { dst := some 21, op := Op.move (Operand.tmp 0), type := 22, pos := "merge.go:83", after := #[{ on := 4, ground := Ground.guard }], guard := some (4, true) }) (v := ?vb6) rfl (by kernel_rfl) (by kernel_rfl) (by kernel_rfl) (fun _ _ _ h => h) (Or.inl ⟨by rfl, ?yb6⟩) (Below.refl _ _) ?rb6
      case yb6 => (intro w hSw; go_simp; try with_reducible rfl)
      try simp only [Act.put, List.setIfInBounds_toArray, List.set_cons_zero, List.set_cons_succ]
      refine wpAnyH_take (i := 7) (oi := { dst := some 23, op := Op.load 46 (Operand.tmp 8), type := 46, pos := "merge.go:83", after := #[{ on := 4, ground := Ground.guard }], guard := some (4, true) }) (v := ?vb7) rfl (by kernel_rfl) (by kernel_rfl) (by kernel_rfl) (fun _ _ _ h => h) (Or.inl ⟨by rfl, ?yb7⟩) (Below.refl _ _) ?rb7
      case yb7 => (intro w hSw; obtain ⟨t0, t1, t2⟩ := FE.out w hSw; go_simp; try with_reducible rfl)
      try simp only [Act.put, List.setIfInBounds_toArray, List.set_cons_zero, List.set_cons_succ]
      refine wpAnyH_ready (rs := [6]) (by kernel_rfl) (by simp) ?_
      refine AllReadyH.cons (o := { dst := some 22, op := Op.call { callee := Callee.value (Operand.func 31), args := #[Operand.tmp 21], argTypes := #[22] }, type := 57, pos := "merge.go:83", after := #[{ on := 5, ground := Ground.data }, { on := 4, ground := Ground.chain }, { on := 4, ground := Ground.guard }], guard := some (4, true) }) rfl (fun KK hKK => ?_) ?_
      · go_simp
        refine (HH1.out _ (FB.out _ (Below.refl _ _))).mono ?_
        rintro e u8' ⟨ga, rfl, hga, bu8'⟩
        (try go_wp2_with fail)
        refine hKK.out _ _ (bu8') (fun _ => ?_)
        clear hKK KK
        try simp only [Act.put, List.setIfInBounds_toArray, List.set_cons_zero, List.set_cons_succ]
        refine wpAnyH_on (bu8') (fun u8 hu8 bu8 => ?_)
        replace FE := on FE bu8
        replace FB := on FB bu8
        have FG : Hid (∀ x, From u8 x → x.cell? ⟨ga, 0, none⟩ = some (.slice a n c)) := by rw [hu8.out]; exact fun x hx => (Below.cell hx (World.block_lt_of_cell? _ _ hga)).trans hga
        refine wpAnyH_ready (rs := [8]) (by kernel_rfl) (by simp) ?_
        refine AllReadyH.cons (o := { dst := some 24, op := Op.call { callee := Callee.value (Operand.tmp 22), args := #[Operand.tmp 23], argTypes := #[46] }, type := 4, pos := "merge.go:83", after := #[{ on := 6, ground := Ground.data }, { on := 7, ground := Ground.data }, { on := 6, ground := Ground.chain }, { on := 4, ground := Ground.guard }], guard := some (4, true) }) rfl (fun KK hKK => ?_) ?_
        · go_simp
          refine (HV1.out _ ga (FB.out _ (Below.refl _ _)) (FG.out _ (Below.refl _ _))).mono ?_
          rintro e u9' ⟨rfl, bu9'⟩
          (try go_wp2_with fail)
          refine hKK.out _ _ (bu9') (fun _ => ?_)
          clear hKK KK
          try simp only [Act.put, List.setIfInBounds_toArray, List.set_cons_zero, List.set_cons_succ]
          refine wpAnyH_on (bu9') (fun u9 hu9 bu9 => ?_)
          replace FE := on FE bu9
          replace FB := on FB bu9
          replace FG := on FG bu9
          refine wpAnyH_take (i := 9) (oi := { dst := some 25, op := Op.move (Operand.tmp 24), type := 4, pos := "merge.go:83", after := #[{ on := 8, ground := Ground.data }, { on := 8, ground := Ground.chain }, { on := 4, ground := Ground.guard }], guard := some (4, true) }) (v := ?vb10) rfl (by kernel_rfl) (by kernel_rfl) (by kernel_rfl) (fun _ _ _ h => h) (Or.inl ⟨by rfl, ?yb10⟩) (Below.refl _ _) ?rb10
          case yb10 => (intro w hSw; go_simp; try with_reducible rfl)
          try simp only [Act.put, List.setIfInBounds_toArray, List.set_cons_zero, List.set_cons_succ]
          refine wpAnyH_take (i := 10) (oi := { dst := some 26, op := Op.move (Operand.tmp 1), type := 22, pos := "merge.go:83", after := #[{ on := 9, ground := Ground.guard }], guard := some (9, false) }) (v := ?vb11) rfl (by kernel_rfl) (by kernel_rfl) (by kernel_rfl) (fun _ _ _ h => h) (Or.inl ⟨by rfl, ?yb11⟩) (Below.refl _ _) ?rb11
          case yb11 => (intro w hSw; go_simp; try with_reducible rfl)
          try simp only [Act.put, List.setIfInBounds_toArray, List.set_cons_zero, List.set_cons_succ]
          refine wpAnyH_take (i := 12) (oi := { dst := some 28, op := Op.load 46 (Operand.tmp 8), type := 46, pos := "merge.go:83", after := #[{ on := 9, ground := Ground.guard }], guard := some (9, false) }) (v := ?vb12) rfl (by kernel_rfl) (by kernel_rfl) (by kernel_rfl) (fun _ _ _ h => h) (Or.inl ⟨by rfl, ?yb12⟩) (Below.refl _ _) ?rb12
          case yb12 => (intro w hSw; obtain ⟨t0, t1, t2⟩ := FE.out w hSw; go_simp; try with_reducible rfl)
          try simp only [Act.put, List.setIfInBounds_toArray, List.set_cons_zero, List.set_cons_succ]
          refine wpAnyH_ready (rs := [11]) (by kernel_rfl) (by simp) ?_
          refine AllReadyH.cons (o := { dst := some 27, op := Op.call { callee := Callee.value (Operand.func 31), args := #[Operand.tmp 26], argTypes := #[22] }, type := 57, pos := "merge.go:83", after := #[{ on := 10, ground := Ground.data }, { on := 9, ground := Ground.chain }, { on := 9, ground := Ground.guard }], guard := some (9, false) }) rfl (fun KK hKK => ?_) ?_
          · go_simp
            refine (HH2.out _ (FB.out _ (Below.refl _ _))).mono ?_
            rintro e u13' ⟨gb, rfl, hgb, bu13'⟩
            (try go_wp2_with fail)
            refine hKK.out _ _ (bu13') (fun _ => ?_)
            clear hKK KK
            try simp only [Act.put, List.setIfInBounds_toArray, List.set_cons_zero, List.set_cons_succ]
            refine wpAnyH_on (bu13') (fun u13 hu13 bu13 => ?_)
            replace FE := on FE bu13
            replace FB := on FB bu13
            replace FG := on FG bu13
            have FG2 : Hid (∀ x, From u13 x → x.cell? ⟨gb, 0, none⟩ = some (.slice a2 n2 c2)) := by rw [hu13.out]; exact fun x hx => (Below.cell hx (World.block_lt_of_cell? _ _ hgb)).trans hgb
            refine wpAnyH_ready (rs := [13]) (by kernel_rfl) (by simp) ?_
            refine AllReadyH.cons (o := { dst := some 29, op := Op.call { callee := Callee.value (Operand.tmp 27), args := #[Operand.tmp 28], argTypes := #[46] }, type := 4, pos := "merge.go:83", after := #[{ on := 11, ground := Ground.data }, { on := 12, ground := Ground.data }, { on := 11, ground := Ground.chain }, { on := 9, ground := Ground.guard }], guard := some (9, false) }) rfl (fun KK hKK => ?_) ?_
            · go_simp
              refine (HV2.out _ gb (FB.out _ (Below.refl _ _)) (FG2.out _ (Below.refl _ _))).mono ?_
              rintro e u14' ⟨rfl, bu14'⟩
              (try go_wp2_with fail)
              refine hKK.out _ _ (bu14') (fun _ => ?_)
              clear hKK KK
              try simp only [Act.put, List.setIfInBounds_toArray, List.set_cons_zero, List.set_cons_succ]
              refine wpAnyH_on (bu14') (fun u14 hu14 bu14 => ?_)
              replace FE := on FE bu14
              replace FB := on FB bu14
              replace FG := on FG bu14
              replace FG2 := on FG2 bu14
              refine wpAnyH_take (i := 14) (oi := { dst := some 30, op := Op.pick (Operand.tmp 25) (Operand.const (Value.bool true)) (Operand.tmp 29), type := 4, pos := "merge.go:83", after := #[{ on := 9, ground := Ground.data }, { on := 13, ground := Ground.data }, { on := 4, ground := Ground.guard }], guard := some (4, true) }) (v := ?vb15) rfl (by kernel_rfl) (by kernel_rfl) (by kernel_rfl) (fun _ _ _ h => h) (Or.inl ⟨by rfl, ?yb15⟩) (Below.refl _ _) ?rb15
              case yb15 => (intro w hSw; go_simp; try with_reducible rfl)
              try simp only [Act.put, List.setIfInBounds_toArray, List.set_cons_zero, List.set_cons_succ]
              refine wpAnyH_take (i := 15) (oi := { dst := some 31, op := Op.pick (Operand.tmp 20) (Operand.tmp 30) (Operand.const (Value.bool false)), type := 4, pos := "merge.go:83", after := #[{ on := 4, ground := Ground.data }, { on := 14, ground := Ground.data }], guard := none }) (v := ?vb16) rfl (by kernel_rfl) (by kernel_rfl) (by kernel_rfl) (fun _ _ _ h => h) (Or.inl ⟨by rfl, ?yb16⟩) (Below.refl _ _) ?rb16
              case yb16 => (intro w hSw; go_simp; try with_reducible rfl)
              try simp only [Act.put, List.setIfInBounds_toArray, List.set_cons_zero, List.set_cons_succ]
              refine wpAnyH_take (i := 16) (oi := { dst := some 10, op := Op.assign (Operand.tmp 31), type := 4, pos := "merge.go:83", after := #[{ on := 15, ground := Ground.data }, { on := 13, ground := Ground.chain }, { on := 0, ground := Ground.phase }, { on := 1, ground := Ground.phase }, { on := 2, ground := Ground.phase }, { on := 3, ground := Ground.phase }, { on := 4, ground := Ground.phase }, { on := 5, ground := Ground.phase }, { on := 6, ground := Ground.phase }, { on := 7, ground := Ground.phase }, { on := 8, ground := Ground.phase }, { on := 9, ground := Ground.phase }, { on := 10, ground := Ground.phase }, { on := 11, ground := Ground.phase }, { on := 12, ground := Ground.phase }, { on := 13, ground := Ground.phase }, { on := 14, ground := Ground.phase }, { on := 15, ground := Ground.phase }], guard := none }) (v := ?vb17) rfl (by kernel_rfl) (by kernel_rfl) (by kernel_rfl) (fun _ _ _ h => h) (Or.inl ⟨by rfl, ?yb17⟩) (Below.refl _ _) ?rb17
              case yb17 => (intro w hSw; go_simp; try with_reducible rfl)
              try simp only [Act.put, List.setIfInBounds_toArray, List.set_cons_zero, List.set_cons_succ]
              refine wpAnyH_done (by kernel_rfl) ?_ _
              have BZ : Hid (Below w.heap.size w u14) := FB.out _ (Below.refl _ _)
              clear FE FB FG
              go_wp2
              go_ret
              exact ⟨by rw [HR2.out]; cases h2 <;> rfl, BZ.out⟩
            exact AllReadyH.nil
          exact AllReadyH.nil
        exact AllReadyH.nil
      exact AllReadyH.nil
  · have tb : (x.p.toList == q.toList) = false := by rw [HP.out]; exact decide_eq_false hq
    have HR2 : Hid (r = false) := by unfold Hid; rw [HR.out, decide_eq_false hq]; rfl
    obtain ⟨k1, _, _⟩ := HK.out W1 (Below.refl _ _)
    generalize x.p = xp at *
    generalize x.d = xd at *
    clear hd hld hw hlw b1 K1 HR HP hq HV1 HV2 HH1 HH2
    go_enter Tryz.func16, Tryz.ntmps16
    go_wp2
    rw [← hW1]
    clear hW1
    have k1' : ∀ nq, (W1.drewN nq).cell? ⟨w.heap.size, 0, none⟩ = some (.string xp) := fun nq => k1
    have BQ : Hid (∀ nq, Below w.heap.size w (W1.drewN nq)) := fun nq => ⟨B1.out.os, B1.out.tape, B1.out.output, B1.out.size, B1.out.block⟩
    go_quiet (fail)
    go_wp2
    go_ret
    exact ⟨by rw [HR2.out]; rfl, BQ.out _⟩
end Go.Proofs.YtajcabfeabbknaaGreatDoor
namespace Go.Proofs.YtajcabfeabbknaaGreatDoor
open Go.RowKit

set_option maxHeartbeats 2000000 in
theorem pathO_any (vd vw u : Value) (d W0 : List En) (q : ByteArray) (x : En) (w : World) (hd : ES w vd d) (hld : Lt d) (hw : ES w vw W0) (hlw : Lt W0) (hu : EV w u x) :
    Calls Tryz.prog 16 #[vd, vw, .string q, u, .bool false] w fun e w' => e = .returned (.bool (pth d W0 q x false)) ∧ Below w.heap.size w w' := by
  obtain ⟨xa, xn, xc, rfl, _⟩ := hu
  obtain ⟨W1, hW1⟩ : ∃ W1, W1 = w.alloc (.cells #[.string x.p, .bool x.d, .slice xa xn xc] 46) := ⟨_, rfl⟩
  have b1 : Below w.heap.size w W1 := by rw [hW1]; exact (Below.refl _ _).alloc (Nat.le_refl _) _
  have B1 : Hid (Below w.heap.size w W1) := b1
  have C1 := get_any vd d q W1 (hd.kept b1) hld
  have HG2 : Hid (∀ W, Below w.heap.size w W → Calls Tryz.prog 48 #[vw, .string q] W fun e w' => ∃ u, e = .returned (.tuple #[u, .bool (gotB W0 (dl q))]) ∧ EV w' u (got W0 (dl q)) ∧ Below W.heap.size W w') := fun W hb => get_any vw W0 q W (hw.kept hb) hlw
  have HR : Hid (pth d W0 q x false = (!gotB d (dl q) || !gotB W0 (dl q) || decide ((got d (dl q)).d ≠ (got W0 (dl q)).d))) := rfl
  obtain ⟨a, c, rfl, _, _, _⟩ := hd.shape
  obtain ⟨a2, c2, rfl, _, _, _⟩ := hw.shape
  generalize pth d W0 q x false = r at *
  generalize gotB d (dl q) = gb1 at *
  generalize gotB W0 (dl q) = gb2 at *
  generalize got d (dl q) = gx1 at *
  generalize got W0 (dl q) = gx2 at *
  generalize d.length = n at *
  generalize W0.length = n2 at *
  generalize x.p = xp at *
  generalize x.d = xd at *
  clear hd hld hw hlw b1
  go_enter Tryz.func16, Tryz.ntmps16
  go_wp2_with fail
  rw [← hW1]
  clear hW1
  refine C1.mono ?_
  rintro e w2 ⟨u2, rfl, ev, b2⟩
  obtain ⟨ya, yn, yc, rfl, _⟩ := ev
  generalize gx1.p = yp at *
  generalize gx1.d = yd at *
  obtain ⟨W3, hW3⟩ : ∃ W3, W3 = w2.alloc (.cells #[.string yp, .bool yd, .slice ya yn yc] 46) := ⟨_, rfl⟩
  have b3 : Below w2.heap.size w2 W3 := by rw [hW3]; exact (Below.refl _ _).alloc (Nat.le_refl _) _
  have B3 : Hid (Below w.heap.size w W3) := B1.out.trans ((b2.trans (b3.mono b2.size)).mono B1.out.size)
  have K3 : W3.heap[w2.heap.size]? = some (.cells #[.string yp, .bool yd, .slice ya yn yc] 46 (0, 0)) := by rw [hW3]; exact heap_alloc_new _ _
  have HK : Hid (∀ W, Below W3.heap.size W3 W → W.heap[w2.heap.size]? = some (.cells #[.string yp, .bool yd, .slice ya yn yc] 46 (0, 0))) := fun W hb => (hb.block _ (lt_of_block K3)).trans K3
  have C2 := HG2.out W3 B3.out
  clear C1 b2 b3 HG2 K3
  go_wp2_with fail
  rw [← hW3]
  clear hW3
  refine C2.mono ?_
  rintro e w4 ⟨u4, rfl, ev, b4⟩
  obtain ⟨za, zn, zc, rfl, _⟩ := ev
  generalize gx2.p = zp at *
  generalize gx2.d = zd at *
  have b5 : Below w4.heap.size w4 (w4.alloc (.cells #[.string zp, .bool zd, .slice za zn zc] 46)) := (Below.refl _ _).alloc (Nat.le_refl _) _
  have B5 : Hid (Below w.heap.size w (w4.alloc (.cells #[.string zp, .bool zd, .slice za zn zc] 46))) := B3.out.trans ((b4.trans (b5.mono b4.size)).mono B3.out.size)
  obtain ⟨p0, p1, p2, f0, f1, f2⟩ := trio (HK.out _ (b4.trans (b5.mono b4.size)))
  clear C2 b4 b5 HK
  cases gb1 with
  | false =>
    go_wp2
    go_ret
    exact ⟨by rw [HR.out]; rfl, B5.out⟩
  | true =>
  cases gb2 with
  | false =>
    go_wp2
    go_ret
    exact ⟨by rw [HR.out]; rfl, B5.out⟩
  | true =>
    go_wp2
    go_ret
    exact ⟨by rw [HR.out]; cases yd <;> cases zd <;> rfl, B5.out⟩
end Go.Proofs.YtajcabfeabbknaaGreatDoor
