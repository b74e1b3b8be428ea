/-
  What the document's may, head, Room and Seal answer.
-/
import Derived.Test.YtiollhmbdhepkaaGreatDoorZby
import Derived.Test.YtiollhmbdhepkaaGreatDoorZbt
namespace Go.Proofs.YtiollhmbdhepkaaGreatDoor
open Go.RowKit Go.Proofs.YtiollhmbdhepkaaGreatDoor.Sh
set_option maxRecDepth 100000

set_option maxHeartbeats 8000000 in
theorem rpmay_any (k c n : Int) (a : Option Addr) (m cp : Nat) (w : World) : Calls Tryz.prog 60 #[.agg #[.int .u8 k, .int .i64 c, .int .i64 n, .slice a m cp]] w fun e w' => e = .returned (.bool (mb k c n)) ∧ Below w.heap.size w w' := by
  obtain ⟨W1, hW1⟩ : ∃ W1, W1 = w.alloc (.cells #[.int .u8 k, .int .i64 c, .int .i64 n, .slice a m cp] 49) := ⟨_, rfl⟩
  have b1 : Below w.heap.size w W1 := by rw [hW1]; exact al_below _ _
  have g1 : QB W1 w.heap.size k c n (.slice a m cp) := by rw [hW1]; exact QB.new _ _ _ _ _
  have HB : Hid (Below w.heap.size w W1) := b1
  have HG : Hid (QB W1 w.heap.size k c n (.slice a m cp)) := g1
  obtain ⟨c0, c1, c2, c3⟩ := g1.kc
  clear b1 g1
  by_cases h0 : k ≤ 1
  · by_cases h1 : 0 ≤ c
    · by_cases h2 : c ≤ 1099511627776
      · by_cases h3 : 0 ≤ n
        · by_cases h4 : n ≤ 1099511627776
          · have er : mb k c n = true := mb_iff.2 ⟨h0, ⟨h1, h2⟩, ⟨h3, h4⟩⟩
            rw [er]
            have t0 : decide (k ≤ 1) = true := by simpa using h0
            have t1 : decide (0 ≤ c) = true := by simpa using h1
            have t2 : decide (c ≤ 1099511627776) = true := by simpa using h2
            have t3 : decide (0 ≤ n) = true := by simpa using h3
            have t4 : decide (n ≤ 1099511627776) = true := by simpa using h4
            clear er h0 h1 h2 h3 h4
            go_enter Tryz.func60, Tryz.ntmps60
            go_upto_region 1 with fail
            rw [← hW1]
            clear hW1
            go_wp2
            go_ret
            exact ⟨rfl, HB.out⟩
          · have er : mb k c n = false := by
              rcases he : mb k c n with _ | _
              · rfl
              · exact absurd (mb_iff.1 he) (by omega)
            rw [er]
            have t0 : decide (k ≤ 1) = true := by simpa using h0
            have t1 : decide (0 ≤ c) = true := by simpa using h1
            have t2 : decide (c ≤ 1099511627776) = true := by simpa using h2
            have t3 : decide (0 ≤ n) = true := by simpa using h3
            have t4 : decide (n ≤ 1099511627776) = false := by simpa using h4
            clear er h0 h1 h2 h3 h4
            go_enter Tryz.func60, Tryz.ntmps60
            go_upto_region 1 with fail
            rw [← hW1]
            clear hW1
            go_wp2
            go_ret
            exact ⟨rfl, HB.out⟩
        · have er : mb k c n = false := by
            rcases he : mb k c n with _ | _
            · rfl
            · exact absurd (mb_iff.1 he) (by omega)
          rw [er]
          have t0 : decide (k ≤ 1) = true := by simpa using h0
          have t1 : decide (0 ≤ c) = true := by simpa using h1
          have t2 : decide (c ≤ 1099511627776) = true := by simpa using h2
          have t3 : decide (0 ≤ n) = false := by simpa using h3
          clear er h0 h1 h2 h3
          go_enter Tryz.func60, Tryz.ntmps60
          go_upto_region 1 with fail
          rw [← hW1]
          clear hW1
          go_wp2
          go_ret
          exact ⟨rfl, HB.out⟩
      · have er : mb k c n = false := by
          rcases he : mb k c n with _ | _
          · rfl
          · exact absurd (mb_iff.1 he) (by omega)
        rw [er]
        have t0 : decide (k ≤ 1) = true := by simpa using h0
        have t1 : decide (0 ≤ c) = true := by simpa using h1
        have t2 : decide (c ≤ 1099511627776) = false := by simpa using h2
        clear er h0 h1 h2
        go_enter Tryz.func60, Tryz.ntmps60
        go_upto_region 1 with fail
        rw [← hW1]
        clear hW1
        go_wp2
        go_ret
        exact ⟨rfl, HB.out⟩
    · have er : mb k c n = false := by
        rcases he : mb k c n with _ | _
        · rfl
        · exact absurd (mb_iff.1 he) (by omega)
      rw [er]
      have t0 : decide (k ≤ 1) = true := by simpa using h0
      have t1 : decide (0 ≤ c) = false := by simpa using h1
      clear er h0 h1
      go_enter Tryz.func60, Tryz.ntmps60
      go_upto_region 1 with fail
      rw [← hW1]
      clear hW1
      go_wp2
      go_ret
      exact ⟨rfl, HB.out⟩
  · have er : mb k c n = false := by
      rcases he : mb k c n with _ | _
      · rfl
      · exact absurd (mb_iff.1 he) (by omega)
    rw [er]
    have t0 : decide (k ≤ 1) = false := by simpa using h0
    clear er h0
    go_enter Tryz.func60, Tryz.ntmps60
    go_upto_region 1 with fail
    rw [← hW1]
    clear hW1
    go_wp2
    go_ret
    exact ⟨rfl, HB.out⟩
theorem numB_byt (n : Int) : Pl.Byt (Fi.numB n) := fun i => by
  have := hdL_byt (k := 0) (c := n) (n := 0) (by decide) (by decide) (i + 1)
  unfold hdL at this
  rw [List.getD_cons_succ] at this
  rcases Nat.lt_or_ge i (Fi.numB n).length with h | h
  · simpa [List.getD, List.getElem?_append_left h] using this
  · simp [List.getD, h]
theorem hown {w w' : World} {B n : Nat} {v : Value} {xs : List Value} (h : Hid (w.ownsRow B 5 1 v n xs)) (hb : Below w.heap.size w w') : Hid (w'.ownsRow B 5 1 v n xs) := own_below h.out hb
theorem hsl {w w' : World} {v : Value} {X : List Int} (h : Hid (Sl w v X)) (hb : Below w.heap.size w w') : Hid (Sl w' v X) := h.out.kept hb
theorem grow_q {w u x : World} {k c n : Int} {bv : Value} {o : Option Nat} (h : Below w.heap.size w u ∧ QB u w.heap.size k c n bv) (hg : u.grownBy x o) (ho : ∀ j, o = some j → w.heap.size + 1 ≤ j) : Below w.heap.size w x ∧ QB x w.heap.size k c n bv :=
  ⟨h.1.grown hg h.1.size (fun j hj => Nat.le_trans (Nat.le_succ _) (ho j hj)), (hg.block w.heap.size (blk_lt h.2) (fun e => by have := ho _ e.symm; omega)).trans h.2⟩
set_option maxHeartbeats 8000000 in
theorem rhead_any (k c n : Int) (a : Option Addr) (m cp : Nat) (w : World) (hk : 0 ≤ k ∧ k < 256) : Calls Tryz.prog 61 #[.agg #[.int .u8 k, .int .i64 c, .int .i64 n, .slice a m cp]] w fun e w' => ∃ v, e = .returned v ∧ w'.ownsRow w.heap.size 5 1 v (hdL k c n).length ((hdL k c n).map (Value.int .u8)) ∧ Below w.heap.size w w' := by
  obtain ⟨W1, hW1⟩ : ∃ W1, W1 = w.alloc (.cells #[.int .u8 k, .int .i64 c, .int .i64 n, .slice a m cp] 49) := ⟨_, rfl⟩
  have b1 : Below w.heap.size w W1 := by rw [hW1]; exact al_below _ _
  have g1 : QB W1 w.heap.size k c n (.slice a m cp) := by rw [hW1]; exact QB.new _ _ _ _ _
  have HB : Hid (Below w.heap.size w W1) := b1
  have HG : Hid (QB W1 w.heap.size k c n (.slice a m cp)) := g1
  have HK : Hid (0 ≤ k ∧ k < 256) := hk
  have HC : Hid (Pl.Byt (Fi.numB c)) := numB_byt c
  have HN : Hid (Pl.Byt (Fi.numB n)) := numB_byt n
  have HLC : Hid ((Fi.numB c).length ≤ 8) := numB_le c
  have HLN : Hid ((Fi.numB n).length ≤ 8) := numB_le n
  have z1 : W1.heap.size = w.heap.size + 1 := by rw [hW1]; simp
  have HZ1 : Hid (W1.heap.size = w.heap.size + 1) := z1
  have ZB : Hid (∀ x, Below W1.heap.size W1 x → w.heap.size + 1 ≤ x.heap.size) := fun x hx => by have := hx.size; omega
  clear b1 g1 hk z1
  go_enter Tryz.func61, Tryz.ntmps61
  go_upto_region 1 with fail
  rw [← hW1]
  clear hW1
  go_wp2_with fail
  refine wp_region_held_drew (S := fun x : World => Below w.heap.size w x ∧ QB x w.heap.size k c n (.slice a m cp)) (by kernel_rfl) (⟨HB.out.drew, HG.out⟩) (fun _ => ?_)
  refine wpAnyH_name (fun u0 hu0 => ?_)
  have su0 : (fun x : World => Below w.heap.size w x ∧ QB x w.heap.size k c n (.slice a m cp)) u0 := by rw [hu0.out]; exact (⟨HB.out.drew, HG.out⟩)
  refine wpAnyH_take (i := 0) (oi := { dst := some 3, op := Op.fieldAddr 49 (Operand.tmp 1) 0, type := 0, pos := "ref.go:42", after := #[], guard := none }) (v := ?vh1) rfl (by kernel_rfl) (by kernel_rfl) (by kernel_rfl) (fun _ _ _ h => h) (Or.inl ⟨by rfl, ?yh1⟩) su0 ?rh1
  case yh1 => (intro w hSw; go_simp; try with_reducible rfl)
  try simp only [Act.put, List.setIfInBounds_toArray, List.set_cons_zero, List.set_cons_succ]
  refine wpAnyH_take (i := 1) (oi := { dst := some 4, op := Op.load 5 (Operand.tmp 3), type := 5, pos := "ref.go:42", after := #[{ on := 0, ground := Ground.data }], guard := none }) (v := ?vh2) rfl (by kernel_rfl) (by kernel_rfl) (by kernel_rfl) (fun _ _ _ h => h) (Or.inl ⟨by rfl, ?yh2⟩) su0 ?rh2
  case yh2 => (intro w hSw; have t := hSw.2.kc.c0; go_simp; try with_reducible rfl)
  try simp only [Act.put, List.setIfInBounds_toArray, List.set_cons_zero, List.set_cons_succ]
  refine wpAnyH_take (i := 3) (oi := { dst := some 6, op := Op.fieldAddr 49 (Operand.tmp 1) 1, type := 0, pos := "ref.go:42", after := #[], guard := none }) (v := ?vh3) rfl (by kernel_rfl) (by kernel_rfl) (by kernel_rfl) (fun _ _ _ h => h) (Or.inl ⟨by rfl, ?yh3⟩) su0 ?rh3
  case yh3 => (intro w hSw; go_simp; try with_reducible rfl)
  try simp only [Act.put, List.setIfInBounds_toArray, List.set_cons_zero, List.set_cons_succ]
  refine wpAnyH_take (i := 4) (oi := { dst := some 7, op := Op.load 3 (Operand.tmp 6), type := 3, pos := "ref.go:42", after := #[{ on := 3, ground := Ground.data }], guard := none }) (v := ?vh4) rfl (by kernel_rfl) (by kernel_rfl) (by kernel_rfl) (fun _ _ _ h => h) (Or.inl ⟨by rfl, ?yh4⟩) su0 ?rh4
  case yh4 => (intro w hSw; have t := hSw.2.kc.c1; go_simp; try with_reducible rfl)
  try simp only [Act.put, List.setIfInBounds_toArray, List.set_cons_zero, List.set_cons_succ]
  refine wpAnyH_take (i := 7) (oi := { dst := some 10, op := Op.fieldAddr 49 (Operand.tmp 1) 2, type := 0, pos := "ref.go:42", after := #[], guard := none }) (v := ?vh5) rfl (by kernel_rfl) (by kernel_rfl) (by kernel_rfl) (fun _ _ _ h => h) (Or.inl ⟨by rfl, ?yh5⟩) su0 ?rh5
  case yh5 => (intro w hSw; go_simp; try with_reducible rfl)
  try simp only [Act.put, List.setIfInBounds_toArray, List.set_cons_zero, List.set_cons_succ]
  refine wpAnyH_take (i := 8) (oi := { dst := some 11, op := Op.load 3 (Operand.tmp 10), type := 3, pos := "ref.go:42", after := #[{ on := 7, ground := Ground.data }], guard := none }) (v := ?vh6) rfl (by kernel_rfl) (by kernel_rfl) (by kernel_rfl) (fun _ _ _ h => h) (Or.inl ⟨by rfl, ?yh6⟩) su0 ?rh6
  case yh6 => (intro w hSw; have t := hSw.2.kc.c2; go_simp; try with_reducible rfl)
  try simp only [Act.put, List.setIfInBounds_toArray, List.set_cons_zero, List.set_cons_succ]
  refine wpAnyH_ready (rs := [2, 5]) (by kernel_rfl) (by simp) ?_
  refine AllReadyH.cons (o := { dst := some 5, op := Op.buildSlice 34 1 #[(0, Operand.tmp 4)], type := 34, pos := "ref.go:42", after := #[{ on := 1, ground := Ground.data }], guard := none }) rfl (fun KK hKK => ?_) ?_
  · go_simp
    refine hKK.out _ _ (⟨su0.1.trans ((al_below u0 _).mono su0.1.size), su0.2.kept (al_below u0 _)⟩) (fun _ => ?_)
    clear hKK KK
    try simp only [Act.put, List.setIfInBounds_toArray, List.set_cons_zero, List.set_cons_succ]
    refine wpAnyH_name (fun u7 hu7 => ?_)
    have su7 : (fun x : World => Below w.heap.size w x ∧ QB x w.heap.size k c n (.slice a m cp)) u7 := by rw [hu7.out]; exact (⟨su0.1.trans ((al_below u0 _).mono su0.1.size), su0.2.kept (al_below u0 _)⟩)
    have bu7 : Below u0.heap.size u0 u7 := by rw [hu7.out]; exact al_below _ _
    have O2 : Hid (u7.ownsRow (w.heap.size + 1) 5 1 (.slice (some ⟨u0.heap.size, 0, none⟩) 1 1) 1 [Value.int .u8 k]) := by unfold Hid; rw [hu7.out]; exact ⟨rfl, .inr ⟨_, 1, _, rfl, by have := blk_lt su0.2; omega, heap_alloc_new _ _, Nat.le_refl _, by unfold maxLen; omega, rfl, rfl⟩⟩
    try replace S5 := hsl S5 bu7
    refine wpAnyH_ready (rs := [5]) (by kernel_rfl) (by simp) ?_
    refine AllReadyH.cons (o := { dst := some 8, op := Op.call { callee := Callee.value (Operand.func 38), args := #[Operand.tmp 7], argTypes := #[3] }, type := 34, pos := "ref.go:42", after := #[{ on := 4, ground := Ground.data }], guard := none }) rfl (fun KK hKK => ?_) ?_
    · go_simp
      refine (Fi.rnumB_any c _).mono ?_
      rintro e u8' ⟨v5, rfl, o5, bu8'⟩
      have s5 := sl_owned o5 HC.out
      (try go_wp2_with fail)
      refine hKK.out _ _ (⟨su7.1.trans (bu8'.mono su7.1.size), su7.2.kept bu8'⟩) (fun _ => ?_)
      clear hKK KK
      try simp only [Act.put, List.setIfInBounds_toArray, List.set_cons_zero, List.set_cons_succ]
      refine wpAnyH_name (fun u8 hu8 => ?_)
      have su8 : (fun x : World => Below w.heap.size w x ∧ QB x w.heap.size k c n (.slice a m cp)) u8 := by rw [hu8.out]; exact (⟨su7.1.trans (bu8'.mono su7.1.size), su7.2.kept bu8'⟩)
      have bu8 : Below u7.heap.size u7 u8 := by rw [hu8.out]; exact bu8'
      have S5 : Hid (Sl u8 v5 (Fi.numB c)) := by unfold Hid; rw [hu8.out]; exact s5
      try replace O2 := hown O2 bu8
      try replace O6 := hown O6 bu8
      clear s5 o5 bu8'
      refine wpAnyH_ready (rs := [6]) (by kernel_rfl) (by simp) ?_
      refine AllReadyH.cons (o := { dst := some 9, op := Op.call { callee := Callee.builtin Builtin.append, args := #[Operand.tmp 5, Operand.tmp 8], argTypes := #[34, 34] }, type := 34, pos := "ref.go:42", after := #[{ on := 2, ground := Ground.data }, { on := 5, ground := Ground.data }, { on := 5, ground := Ground.chain }], guard := none }) rfl (fun KK hKK => ?_) ?_
      · rw [if_pos (by rfl)]
        refine Mc.wp_append_sl _ _ rfl (w.heap.size + 1) _ _ _ rfl O2.out _ (Fi.numB c) rfl S5.out (by have := HLC.out; have := HLN.out; omega) (by have := blk_lt su8.2; omega) ?_
        intro v6 u9' own6 hg6
        refine hKK.out _ _ (grow_q su8 hg6 (own_base O2.out)) (fun _ => ?_)
        clear hKK KK
        try simp only [Act.put, List.setIfInBounds_toArray, List.set_cons_zero, List.set_cons_succ]
        refine wpAnyH_name (fun u9 hu9 => ?_)
        have su9 : (fun x : World => Below w.heap.size w x ∧ QB x w.heap.size k c n (.slice a m cp)) u9 := by rw [hu9.out]; exact (grow_q su8 hg6 (own_base O2.out))
        have O6 : Hid (u9.ownsRow (w.heap.size + 1) 5 1 v6 (1 + (Fi.numB c).length) ([Value.int .u8 k] ++ (Fi.numB c).map (Value.int .u8))) := by unfold Hid; rw [hu9.out]; exact own6
        refine wpAnyH_ready (rs := [9]) (by kernel_rfl) (by simp) ?_
        refine AllReadyH.cons (o := { dst := some 12, op := Op.call { callee := Callee.value (Operand.func 38), args := #[Operand.tmp 11], argTypes := #[3] }, type := 34, pos := "ref.go:42", after := #[{ on := 8, ground := Ground.data }, { on := 6, ground := Ground.chain }], guard := none }) rfl (fun KK hKK => ?_) ?_
        · go_simp
          refine (Fi.rnumB_any n _).mono ?_
          rintro e u10' ⟨v9, rfl, o9, bu10'⟩
          have s9 := sl_owned o9 HN.out
          (try go_wp2_with fail)
          refine hKK.out _ _ (⟨su9.1.trans (bu10'.mono su9.1.size), su9.2.kept bu10'⟩) (fun _ => ?_)
          clear hKK KK
          try simp only [Act.put, List.setIfInBounds_toArray, List.set_cons_zero, List.set_cons_succ]
          refine wpAnyH_name (fun u10 hu10 => ?_)
          have su10 : (fun x : World => Below w.heap.size w x ∧ QB x w.heap.size k c n (.slice a m cp)) u10 := by rw [hu10.out]; exact (⟨su9.1.trans (bu10'.mono su9.1.size), su9.2.kept bu10'⟩)
          have bu10 : Below u9.heap.size u9 u10 := by rw [hu10.out]; exact bu10'
          have S9 : Hid (Sl u10 v9 (Fi.numB n)) := by unfold Hid; rw [hu10.out]; exact s9
          try replace O2 := hown O2 bu10
          try replace O6 := hown O6 bu10
          clear s9 o9 bu10'
          refine wpAnyH_ready (rs := [10]) (by kernel_rfl) (by simp) ?_
          refine AllReadyH.cons (o := { dst := some 13, op := Op.call { callee := Callee.builtin Builtin.append, args := #[Operand.tmp 9, Operand.tmp 12], argTypes := #[34, 34] }, type := 34, pos := "ref.go:42", after := #[{ on := 6, ground := Ground.data }, { on := 9, ground := Ground.data }, { on := 9, ground := Ground.chain }], guard := none }) rfl (fun KK hKK => ?_) ?_
          · rw [if_pos (by rfl)]
            refine Mc.wp_append_sl _ _ rfl (w.heap.size + 1) _ _ _ rfl O6.out _ (Fi.numB n) rfl S9.out (by have := HLC.out; have := HLN.out; omega) (by have := blk_lt su10.2; omega) ?_
            intro v10 u11' own10 hg10
            refine hKK.out _ _ (grow_q su10 hg10 (own_base O6.out)) (fun _ => ?_)
            clear hKK KK
            try simp only [Act.put, List.setIfInBounds_toArray, List.set_cons_zero, List.set_cons_succ]
            refine wpAnyH_name (fun u11 hu11 => ?_)
            have su11 : (fun x : World => Below w.heap.size w x ∧ QB x w.heap.size k c n (.slice a m cp)) u11 := by rw [hu11.out]; exact (grow_q su10 hg10 (own_base O6.out))
            have O10 : Hid (u11.ownsRow (w.heap.size + 1) 5 1 v10 (1 + (Fi.numB c).length + (Fi.numB n).length) (([Value.int .u8 k] ++ (Fi.numB c).map (Value.int .u8)) ++ (Fi.numB n).map (Value.int .u8))) := by unfold Hid; rw [hu11.out]; exact own10
            refine wpAnyH_take (i := 11) (oi := { dst := some 2, op := Op.assign (Operand.tmp 13), type := 34, pos := "ref.go:42", after := #[{ on := 10, ground := Ground.data }, { on := 10, ground := Ground.chain }, { on := 0, ground := Ground.phase }, { on := 1, ground := Ground.phase }, { on := 2, ground := Ground.phase }, { on := 3, ground := Ground.phase }, { on := 4, ground := Ground.phase }, { on := 5, ground := Ground.phase }, { on := 6, ground := Ground.phase }, { on := 7, ground := Ground.phase }, { on := 8, ground := Ground.phase }, { on := 9, ground := Ground.phase }, { on := 10, ground := Ground.phase }], guard := none }) (v := ?vh12) rfl (by kernel_rfl) (by kernel_rfl) (by kernel_rfl) (fun _ _ _ h => h) (Or.inl ⟨by rfl, ?yh12⟩) su11 ?rh12
            case yh12 => (intro w hSw; go_simp; try with_reducible rfl)
            try simp only [Act.put, List.setIfInBounds_toArray, List.set_cons_zero, List.set_cons_succ]
            refine wpAnyH_done (by kernel_rfl) ?_ _
            go_wp2
            go_ret
            refine ⟨_, rfl, ?_, su11.1⟩
            have e1 : (hdL k c n).length = 1 + (Fi.numB c).length + (Fi.numB n).length := by unfold hdL; simp only [List.length_cons, List.length_append]; omega
            have e2 : (hdL k c n).map (Value.int .u8) = [Value.int .u8 k] ++ (Fi.numB c).map (Value.int .u8) ++ (Fi.numB n).map (Value.int .u8) := by unfold hdL; simp
            rw [e1, e2]
            exact own_mono O10.out (Nat.le_succ _)
          exact AllReadyH.nil
        exact AllReadyH.nil
      exact AllReadyH.nil
    exact AllReadyH.nil
  refine AllReadyH.cons (o := { dst := some 8, op := Op.call { callee := Callee.value (Operand.func 38), args := #[Operand.tmp 7], argTypes := #[3] }, type := 34, pos := "ref.go:42", after := #[{ on := 4, ground := Ground.data }], guard := none }) rfl (fun KK hKK => ?_) ?_
  · go_simp
    refine (Fi.rnumB_any c _).mono ?_
    rintro e u13' ⟨v5, rfl, o5, bu13'⟩
    have s5 := sl_owned o5 HC.out
    (try go_wp2_with fail)
    refine hKK.out _ _ (⟨su0.1.trans (bu13'.mono su0.1.size), su0.2.kept bu13'⟩) (fun _ => ?_)
    clear hKK KK
    try simp only [Act.put, List.setIfInBounds_toArray, List.set_cons_zero, List.set_cons_succ]
    refine wpAnyH_name (fun u13 hu13 => ?_)
    have su13 : (fun x : World => Below w.heap.size w x ∧ QB x w.heap.size k c n (.slice a m cp)) u13 := by rw [hu13.out]; exact (⟨su0.1.trans (bu13'.mono su0.1.size), su0.2.kept bu13'⟩)
    have bu13 : Below u0.heap.size u0 u13 := by rw [hu13.out]; exact bu13'
    have S5 : Hid (Sl u13 v5 (Fi.numB c)) := by unfold Hid; rw [hu13.out]; exact s5
    try replace O2 := hown O2 bu13
    try replace O6 := hown O6 bu13
    clear s5 o5 bu13'
    refine wpAnyH_ready (rs := [2]) (by kernel_rfl) (by simp) ?_
    refine AllReadyH.cons (o := { dst := some 5, op := Op.buildSlice 34 1 #[(0, Operand.tmp 4)], type := 34, pos := "ref.go:42", after := #[{ on := 1, ground := Ground.data }], guard := none }) rfl (fun KK hKK => ?_) ?_
    · go_simp
      refine hKK.out _ _ (⟨su13.1.trans ((al_below u13 _).mono su13.1.size), su13.2.kept (al_below u13 _)⟩) (fun _ => ?_)
      clear hKK KK
      try simp only [Act.put, List.setIfInBounds_toArray, List.set_cons_zero, List.set_cons_succ]
      refine wpAnyH_name (fun u14 hu14 => ?_)
      have su14 : (fun x : World => Below w.heap.size w x ∧ QB x w.heap.size k c n (.slice a m cp)) u14 := by rw [hu14.out]; exact (⟨su13.1.trans ((al_below u13 _).mono su13.1.size), su13.2.kept (al_below u13 _)⟩)
      have bu14 : Below u13.heap.size u13 u14 := by rw [hu14.out]; exact al_below _ _
      have O2 : Hid (u14.ownsRow (w.heap.size + 1) 5 1 (.slice (some ⟨u13.heap.size, 0, none⟩) 1 1) 1 [Value.int .u8 k]) := by unfold Hid; rw [hu14.out]; exact ⟨rfl, .inr ⟨_, 1, _, rfl, by have := blk_lt su13.2; omega, heap_alloc_new _ _, Nat.le_refl _, by unfold maxLen; omega, rfl, rfl⟩⟩
      try replace S5 := hsl S5 bu14
      refine wpAnyH_ready (rs := [6]) (by kernel_rfl) (by simp) ?_
      refine AllReadyH.cons (o := { dst := some 9, op := Op.call { callee := Callee.builtin Builtin.append, args := #[Operand.tmp 5, Operand.tmp 8], argTypes := #[34, 34] }, type := 34, pos := "ref.go:42", after := #[{ on := 2, ground := Ground.data }, { on := 5, ground := Ground.data }, { on := 5, ground := Ground.chain }], guard := none }) rfl (fun KK hKK => ?_) ?_
      · rw [if_pos (by rfl)]
        refine Mc.wp_append_sl _ _ rfl (w.heap.size + 1) _ _ _ rfl O2.out _ (Fi.numB c) rfl S5.out (by have := HLC.out; have := HLN.out; omega) (by have := blk_lt su14.2; omega) ?_
        intro v6 u15' own6 hg6
        refine hKK.out _ _ (grow_q su14 hg6 (own_base O2.out)) (fun _ => ?_)
        clear hKK KK
        try simp only [Act.put, List.setIfInBounds_toArray, List.set_cons_zero, List.set_cons_succ]
        refine wpAnyH_name (fun u15 hu15 => ?_)
        have su15 : (fun x : World => Below w.heap.size w x ∧ QB x w.heap.size k c n (.slice a m cp)) u15 := by rw [hu15.out]; exact (grow_q su14 hg6 (own_base O2.out))
        have O6 : Hid (u15.ownsRow (w.heap.size + 1) 5 1 v6 (1 + (Fi.numB c).length) ([Value.int .u8 k] ++ (Fi.numB c).map (Value.int .u8))) := by unfold Hid; rw [hu15.out]; exact own6
        refine wpAnyH_ready (rs := [9]) (by kernel_rfl) (by simp) ?_
        refine AllReadyH.cons (o := { dst := some 12, op := Op.call { callee := Callee.value (Operand.func 38), args := #[Operand.tmp 11], argTypes := #[3] }, type := 34, pos := "ref.go:42", after := #[{ on := 8, ground := Ground.data }, { on := 6, ground := Ground.chain }], guard := none }) rfl (fun KK hKK => ?_) ?_
        · go_simp
          refine (Fi.rnumB_any n _).mono ?_
          rintro e u16' ⟨v9, rfl, o9, bu16'⟩
          have s9 := sl_owned o9 HN.out
          (try go_wp2_with fail)
          refine hKK.out _ _ (⟨su15.1.trans (bu16'.mono su15.1.size), su15.2.kept bu16'⟩) (fun _ => ?_)
          clear hKK KK
          try simp only [Act.put, List.setIfInBounds_toArray, List.set_cons_zero, List.set_cons_succ]
          refine wpAnyH_name (fun u16 hu16 => ?_)
          have su16 : (fun x : World => Below w.heap.size w x ∧ QB x w.heap.size k c n (.slice a m cp)) u16 := by rw [hu16.out]; exact (⟨su15.1.trans (bu16'.mono su15.1.size), su15.2.kept bu16'⟩)
          have bu16 : Below u15.heap.size u15 u16 := by rw [hu16.out]; exact bu16'
          have S9 : Hid (Sl u16 v9 (Fi.numB n)) := by unfold Hid; rw [hu16.out]; exact s9
          try replace O2 := hown O2 bu16
          try replace O6 := hown O6 bu16
          clear s9 o9 bu16'
          refine wpAnyH_ready (rs := [10]) (by kernel_rfl) (by simp) ?_
          refine AllReadyH.cons (o := { dst := some 13, op := Op.call { callee := Callee.builtin Builtin.append, args := #[Operand.tmp 9, Operand.tmp 12], argTypes := #[34, 34] }, type := 34, pos := "ref.go:42", after := #[{ on := 6, ground := Ground.data }, { on := 9, ground := Ground.data }, { on := 9, ground := Ground.chain }], guard := none }) rfl (fun KK hKK => ?_) ?_
          · rw [if_pos (by rfl)]
            refine Mc.wp_append_sl _ _ rfl (w.heap.size + 1) _ _ _ rfl O6.out _ (Fi.numB n) rfl S9.out (by have := HLC.out; have := HLN.out; omega) (by have := blk_lt su16.2; omega) ?_
            intro v10 u17' own10 hg10
            refine hKK.out _ _ (grow_q su16 hg10 (own_base O6.out)) (fun _ => ?_)
            clear hKK KK
            try simp only [Act.put, List.setIfInBounds_toArray, List.set_cons_zero, List.set_cons_succ]
            refine wpAnyH_name (fun u17 hu17 => ?_)
            have su17 : (fun x : World => Below w.heap.size w x ∧ QB x w.heap.size k c n (.slice a m cp)) u17 := by rw [hu17.out]; exact (grow_q su16 hg10 (own_base O6.out))
            have O10 : Hid (u17.ownsRow (w.heap.size + 1) 5 1 v10 (1 + (Fi.numB c).length + (Fi.numB n).length) (([Value.int .u8 k] ++ (Fi.numB c).map (Value.int .u8)) ++ (Fi.numB n).map (Value.int .u8))) := by unfold Hid; rw [hu17.out]; exact own10
            refine wpAnyH_take (i := 11) (oi := { dst := some 2, op := Op.assign (Operand.tmp 13), type := 34, pos := "ref.go:42", after := #[{ on := 10, ground := Ground.data }, { on := 10, ground := Ground.chain }, { on := 0, ground := Ground.phase }, { on := 1, ground := Ground.phase }, { on := 2, ground := Ground.phase }, { on := 3, ground := Ground.phase }, { on := 4, ground := Ground.phase }, { on := 5, ground := Ground.phase }, { on := 6, ground := Ground.phase }, { on := 7, ground := Ground.phase }, { on := 8, ground := Ground.phase }, { on := 9, ground := Ground.phase }, { on := 10, ground := Ground.phase }], guard := none }) (v := ?vh18) rfl (by kernel_rfl) (by kernel_rfl) (by kernel_rfl) (fun _ _ _ h => h) (Or.inl ⟨by rfl, ?yh18⟩) su17 ?rh18
            case yh18 => (intro w hSw; go_simp; try with_reducible rfl)
            try simp only [Act.put, List.setIfInBounds_toArray, List.set_cons_zero, List.set_cons_succ]
            refine wpAnyH_done (by kernel_rfl) ?_ _
            go_wp2
            go_ret
            refine ⟨_, rfl, ?_, su17.1⟩
            have e1 : (hdL k c n).length = 1 + (Fi.numB c).length + (Fi.numB n).length := by unfold hdL; simp only [List.length_cons, List.length_append]; omega
            have e2 : (hdL k c n).map (Value.int .u8) = [Value.int .u8 k] ++ (Fi.numB c).map (Value.int .u8) ++ (Fi.numB n).map (Value.int .u8) := by unfold hdL; simp
            rw [e1, e2]
            exact own_mono O10.out (Nat.le_succ _)
          exact AllReadyH.nil
        exact AllReadyH.nil
      exact AllReadyH.nil
    exact AllReadyH.nil
  exact AllReadyH.nil
theorem rroom_any (k c n : Int) (a : Option Addr) (m cp : Nat) (w : World) (hk : 0 ≤ k ∧ k < 256) : Calls Tryz.prog 22 #[.agg #[.int .u8 k, .int .i64 c, .int .i64 n, .slice a m cp]] w fun e w' => e = .returned (.int .i64 (rmI k c n)) ∧ Below w.heap.size w w' := by
  obtain ⟨W1, hW1⟩ : ∃ W1, W1 = w.alloc (.cells #[.int .u8 k, .int .i64 c, .int .i64 n, .slice a m cp] 49) := ⟨_, rfl⟩
  have b1 : Below w.heap.size w W1 := by rw [hW1]; exact al_below _ _
  have g1 : QB W1 w.heap.size k c n (.slice a m cp) := by rw [hW1]; exact QB.new _ _ _ _ _
  have HB : Hid (Below w.heap.size w W1) := b1
  have HG : Hid (QB W1 w.heap.size k c n (.slice a m cp)) := g1
  have cm := rpmay_any k c n a m cp W1
  have HK : Hid (0 ≤ k ∧ k < 256) := hk
  clear b1 g1 hk
  cases hm : mb k c n
  · rw [hm] at cm
    rw [rmI_no hm]
    go_enter Tryz.func22, Tryz.ntmps22
    go_upto_region 1 with fail
    rw [← hW1]
    clear hW1
    go_wp2_with (refine wpList_load_row rfl 49 _ rfl w.heap.size rfl 49 #[.int .u8 k, .int .i64 c, .int .i64 n, .slice a m cp] (0, 0) _ HG.out Tryz.underlying49 rfl infoQ ?_)
    refine cm.mono ?_
    rintro e w2 ⟨rfl, b2⟩
    have HB2 : Hid (Below w.heap.size w w2) := HB.out.trans (b2.mono HB.out.size)
    clear b2 cm
    go_wp2
    go_ret
    exact ⟨rfl, HB2.out⟩
  · rw [hm] at cm
    obtain ⟨hl, hhl⟩ : ∃ hl, hl = (hdL k c n).length := ⟨_, rfl⟩
    obtain ⟨R, hR⟩ : ∃ R : Int, R = 1184 - (hl : Int) := ⟨_, rfl⟩
    have l1 := hdL_le k c n
    rw [rmI_yes hm, ← hhl, ← hR]
    rw [← hhl] at l1
    go_enter Tryz.func22, Tryz.ntmps22
    go_upto_region 1 with fail
    rw [← hW1]
    clear hW1
    go_wp2_with (refine wpList_load_row rfl 49 _ rfl w.heap.size rfl 49 #[.int .u8 k, .int .i64 c, .int .i64 n, .slice a m cp] (0, 0) _ HG.out Tryz.underlying49 rfl infoQ ?_)
    refine cm.mono ?_
    rintro e w2 ⟨rfl, b2⟩
    have HB2 : Hid (Below w.heap.size w w2) := HB.out.trans (b2.mono HB.out.size)
    have HG2 : Hid (QB w2 w.heap.size k c n (.slice a m cp)) := HG.out.kept b2
    have ch := rhead_any k c n a m cp w2 HK.out
    clear b2 cm HB HG
    go_wp2_with (refine wpList_load_row rfl 49 _ rfl w.heap.size rfl 49 #[.int .u8 k, .int .i64 c, .int .i64 n, .slice a m cp] (0, 0) _ HG2.out Tryz.underlying49 rfl infoQ ?_)
    refine ch.mono ?_
    rintro e w3 ⟨v3, rfl, o3, b3⟩
    have HB3 : Hid (Below w.heap.size w w3) := HB2.out.trans (b3.mono HB2.out.size)
    obtain ⟨a3, q3, rfl, -⟩ := sl_owned o3 (hdL_byt HK.out.1 HK.out.2)
    rw [← hhl]
    have k1 : IntKind.i64.wrap (1184 - (hl : Int)) = R := by rw [wrP (by omega) (by omega)]; omega
    clear b3 ch o3 HB2 HG2 hhl hR l1
    go_wp2
    go_ret
    exact ⟨rfl, HB3.out⟩
theorem grow_q2 {w u x : World} {k c n : Int} {bv : Value} {o : Option Nat} {K : List Int} (h : Below w.heap.size w u ∧ QB u (w.heap.size + 1) k c n bv ∧ u.heap[w.heap.size]? = some (.cells (u8s K) 47 (0, 0))) (hg : u.grownBy x o) (ho : ∀ j, o = some j → w.heap.size + 2 ≤ j) : Below w.heap.size w x ∧ QB x (w.heap.size + 1) k c n bv ∧ x.heap[w.heap.size]? = some (.cells (u8s K) 47 (0, 0)) :=
  ⟨h.1.grown hg h.1.size (fun j hj => by have := ho j hj; omega), (hg.block _ (blk_lt h.2.1) (fun e => by have := ho _ e.symm; omega)).trans h.2.1, (hg.block _ (blk_lt h.2.2) (fun e => by have := ho _ e.symm; omega)).trans h.2.2⟩
set_option maxHeartbeats 8000000 in
theorem rpseal_any (K : List Int) (k c n : Int) (a : Option Addr) (m cp : Nat) (X : List Int) (w : World) (hK : K.length = 32) (hKb : Pl.Byt K) (hk : 0 ≤ k ∧ k < 256) (sx : Sl w (.slice a m cp) X) (hm : m = X.length) :
    Calls Tryz.prog 20 #[.agg (u8s K), .agg #[.int .u8 k, .int .i64 c, .int .i64 n, .slice a m cp]] w fun e w' => ∃ v, e = .returned (.tuple #[v, .int .i64 (selE k c n X.length)]) ∧ Sl w' v (selL K k c n X) ∧ Below w.heap.size w w' := by
  obtain ⟨W1, hW1⟩ : ∃ W1, W1 = w.alloc (.cells (u8s K) 47) := ⟨_, rfl⟩
  obtain ⟨W2, hW2⟩ : ∃ W2, W2 = W1.alloc (.cells #[.int .u8 k, .int .i64 c, .int .i64 n, .slice a m cp] 49) := ⟨_, rfl⟩
  have b1 : Below w.heap.size w W1 := by rw [hW1]; exact al_below _ _
  have z1 : W1.heap.size = w.heap.size + 1 := by rw [hW1]; simp
  have b12 : Below W1.heap.size W1 W2 := by rw [hW2]; exact al_below _ _
  have b2 : Below w.heap.size w W2 := b1.trans (b12.mono b1.size)
  have g2 : QB W2 (w.heap.size + 1) k c n (.slice a m cp) := by rw [← z1, hW2]; exact QB.new _ _ _ _ _
  have hg1 : W1.heap[w.heap.size]? = some (.cells (u8s K) 47 (0, 0)) := by rw [hW1]; exact heap_alloc_new _ _
  have HB : Hid (Below w.heap.size w W2) := b2
  have HG : Hid (QB W2 (w.heap.size + 1) k c n (.slice a m cp)) := g2
  have HK1 : Hid (W2.heap[w.heap.size]? = some (.cells (u8s K) 47 (0, 0))) := blk_kept hg1 b12 (blk_lt hg1)
  have HS : Hid (Sl W2 (.slice a m cp) X) := sx.kept b2
  have HSXX : Hid (∀ x, Below w.heap.size w x → Sl x (.slice a m cp) X) := fun x hx => sx.kept hx
  have HKK : Hid (K.length = 32 ∧ Pl.Byt K) := ⟨hK, hKb⟩
  have HKK2 : Hid (0 ≤ k ∧ k < 256) := hk
  have cm := rpmay_any k c n a m cp W2
  have hW2' : W2 = (w.alloc (.cells (u8s K) 47)).alloc (.cells #[.int .u8 k, .int .i64 c, .int .i64 n, .slice a m cp] 49) := by rw [hW2, hW1]
  clear hW2 b1 b12 b2 hg1 z1 g2 sx hK hKb hk
  have hW2 := hW2'
  clear hW2' hW1
  rw [← hm]
  have HM : Hid (m = X.length) := hm
  clear hm
  rcases selE_cases k c n m with ⟨q1, q2⟩ | ⟨q1, q3, q2⟩ | ⟨q1, q3, q2⟩
  · rw [q2, selL_no (by rw [← HM.out, q2]; decide)]
    rw [q1] at cm
    clear q1 q2
    generalize hku : u8s K = KU at *
    clear hku
    go_enter Tryz.func20, Tryz.ntmps20
    go_upto_region 1 with fail
    rw [← hW2]
    clear hW2
    go_wp2_with (refine wpList_load_row rfl 49 _ rfl (w.heap.size + 1) rfl 49 #[.int .u8 k, .int .i64 c, .int .i64 n, .slice a m cp] (0, 0) _ HG.out Tryz.underlying49 rfl infoQ ?_)
    refine cm.mono ?_
    rintro e w3 ⟨rfl, b3⟩
    have HB3 : Hid (Below w.heap.size w w3) := HB.out.trans (b3.mono HB.out.size)
    clear cm b3
    go_wp2
    go_ret2
    exact ⟨_, rfl, Sl.none _, HB3.out⟩
  · rw [q2, selL_no (by rw [← HM.out, q2]; decide)]
    rw [q1] at cm
    obtain ⟨R, hR⟩ : ∃ R, R = rmI k c n := ⟨_, rfl⟩
    have QL : Hid (R < (m : Int)) := by unfold Hid; rw [hR]; exact q3
    have HR : Hid (rmI k c n = R) := hR.symm
    clear q1 q2 q3 hR
    go_enter Tryz.func20, Tryz.ntmps20
    go_upto_region 1 with fail
    rw [← hW2]
    clear hW2
    go_wp2_with (refine wpList_load_row rfl 49 _ rfl (w.heap.size + 1) rfl 49 #[.int .u8 k, .int .i64 c, .int .i64 n, .slice a m cp] (0, 0) _ HG.out Tryz.underlying49 rfl infoQ ?_)
    refine cm.mono ?_
    rintro e w3 ⟨rfl, b3⟩
    have HB3 : Hid (Below w.heap.size w w3) := HB.out.trans (b3.mono HB.out.size)
    have HG3 : Hid (QB w3 (w.heap.size + 1) k c n (.slice a m cp)) := HG.out.kept b3
    have HK3 : Hid (w3.heap[w.heap.size]? = some (.cells (u8s K) 47 (0, 0))) := blk_kept HK1.out b3 (blk_lt HK1.out)
    have HS3 : Hid (Sl w3 (.slice a m cp) X) := HS.out.kept b3
    have cl := fun x => rroom_any k c n a m cp x HKK2.out
    clear cm b3 HB HG HK1 HS
    go_wp2_with fail
    simp only [HR.out] at cl
    refine wp_region_held_drew (S := fun x : World => Below w.heap.size w x ∧ QB x (w.heap.size + 1) k c n (.slice a m cp) ∧ x.heap[w.heap.size]? = some (.cells (u8s K) 47 (0, 0))) (by kernel_rfl) (⟨HB3.out.drew, HG3.out, HK3.out⟩) (fun _ => ?_)
    refine wpAnyH_name (fun u0 hu0 => ?_)
    have su0 : (fun x : World => Below w.heap.size w x ∧ QB x (w.heap.size + 1) k c n (.slice a m cp) ∧ x.heap[w.heap.size]? = some (.cells (u8s K) 47 (0, 0))) u0 := by rw [hu0.out]; exact (⟨HB3.out.drew, HG3.out, HK3.out⟩)
    refine wpAnyH_take (i := 0) (oi := { dst := some 11, op := Op.fieldAddr 49 (Operand.tmp 3) 3, type := 0, pos := "ref.go:58", after := #[], guard := none }) (v := ?vp1) rfl (by kernel_rfl) (by kernel_rfl) (by kernel_rfl) (fun _ _ _ h => h) (Or.inl ⟨by rfl, ?yp1⟩) su0 ?rp1
    case yp1 => (intro w hSw; go_simp; try with_reducible rfl)
    try simp only [Act.put, List.setIfInBounds_toArray, List.set_cons_zero, List.set_cons_succ]
    refine wpAnyH_take (i := 1) (oi := { dst := some 12, op := Op.load 34 (Operand.tmp 11), type := 34, pos := "ref.go:58", after := #[{ on := 0, ground := Ground.data }], guard := none }) (v := ?vp2) rfl (by kernel_rfl) (by kernel_rfl) (by kernel_rfl) (fun _ _ _ h => h) (Or.inl ⟨by rfl, ?yp2⟩) su0 ?rp2
    case yp2 => (intro w hSw; have t := hSw.2.1.kc.c3; go_simp; try with_reducible rfl)
    try simp only [Act.put, List.setIfInBounds_toArray, List.set_cons_zero, List.set_cons_succ]
    refine wpAnyH_take (i := 2) (oi := { dst := some 13, op := Op.call { callee := Callee.builtin Builtin.len, args := #[Operand.tmp 12], argTypes := #[34] }, type := 3, pos := "ref.go:58", after := #[{ on := 1, ground := Ground.data }], guard := none }) (v := ?vp3) rfl (by kernel_rfl) (by kernel_rfl) (by kernel_rfl) (fun _ _ _ h => h) (Or.inl ⟨by rfl, ?yp3⟩) su0 ?rp3
    case yp3 => (intro w hSw; go_simp; try with_reducible rfl)
    try simp only [Act.put, List.setIfInBounds_toArray, List.set_cons_zero, List.set_cons_succ]
    refine wpAnyH_take (i := 3) (oi := { dst := some 14, op := Op.load 49 (Operand.tmp 3), type := 49, pos := "ref.go:58", after := #[], guard := none }) (v := .agg #[.int .u8 k, .int .i64 c, .int .i64 n, .slice a m cp]) rfl (by kernel_rfl) (by kernel_rfl) (by kernel_rfl) (fun _ _ _ h => h) (yieldsIf_load_mid (by rfl) _ _ rfl (w.heap.size + 1) 0 rfl _ _ (fun x h => blk_range h.2.1) Tryz.underlying49 rfl infoQ) su0 ?_
    try simp only [Act.put, List.setIfInBounds_toArray, List.set_cons_zero, List.set_cons_succ]
    refine wpAnyH_ready (rs := [4]) (by kernel_rfl) (by simp) ?_
    refine AllReadyH.cons (o := { dst := some 15, op := Op.call { callee := Callee.value (Operand.func 22), args := #[Operand.tmp 14], argTypes := #[49] }, type := 3, pos := "ref.go:58", after := #[{ on := 3, ground := Ground.data }], guard := none }) rfl (fun KK hKK => ?_) ?_
    · go_simp
      refine (cl _).mono ?_
      rintro e u5' ⟨rfl, bu5'⟩
      (try go_wp2_with fail)
      refine hKK.out _ _ (⟨su0.1.trans (bu5'.mono su0.1.size), su0.2.1.kept bu5', blk_kept su0.2.2 bu5' (blk_lt su0.2.2)⟩) (fun _ => ?_)
      clear hKK KK
      try simp only [Act.put, List.setIfInBounds_toArray, List.set_cons_zero, List.set_cons_succ]
      refine wpAnyH_name (fun u5 hu5 => ?_)
      have su5 : (fun x : World => Below w.heap.size w x ∧ QB x (w.heap.size + 1) k c n (.slice a m cp) ∧ x.heap[w.heap.size]? = some (.cells (u8s K) 47 (0, 0))) u5 := by rw [hu5.out]; exact (⟨su0.1.trans (bu5'.mono su0.1.size), su0.2.1.kept bu5', blk_kept su0.2.2 bu5' (blk_lt su0.2.2)⟩)
      refine wpAnyH_take (i := 5) (oi := { dst := some 16, op := Op.binOp BinOp.gtr 3 (Operand.tmp 13) (Operand.tmp 15) 3, type := 4, pos := "ref.go:58", after := #[{ on := 2, ground := Ground.data }, { on := 4, ground := Ground.data }], guard := none }) (v := ?vp6) rfl (by kernel_rfl) (by kernel_rfl) (by kernel_rfl) (fun _ _ _ h => h) (Or.inl ⟨by rfl, ?yp6⟩) su5 ?rp6
      case yp6 => (intro w hSw; go_simp; try with_reducible rfl)
      try simp only [Act.put, List.setIfInBounds_toArray, List.set_cons_zero, List.set_cons_succ]
      refine wpAnyH_take (i := 6) (oi := { dst := some 10, op := Op.assign (Operand.tmp 16), type := 4, pos := "ref.go:58", after := #[{ on := 5, ground := Ground.data }, { on := 4, ground := Ground.chain }], guard := none }) (v := ?vp7) rfl (by kernel_rfl) (by kernel_rfl) (by kernel_rfl) (fun _ _ _ h => h) (Or.inl ⟨by rfl, ?yp7⟩) su5 ?rp7
      case yp7 => (intro w hSw; go_simp; try with_reducible rfl)
      try simp only [Act.put, List.setIfInBounds_toArray, List.set_cons_zero, List.set_cons_succ]
      refine wpAnyH_done (by kernel_rfl) ?_ _
      have ql := QL.out
      go_wp2
      go_ret2
      exact ⟨_, rfl, Sl.none _, su5.1⟩
    exact AllReadyH.nil
  · rw [q2, selL_yes (by rw [← HM.out]; exact q2)]
    rw [q1] at cm
    obtain ⟨R, hR⟩ : ∃ R, R = rmI k c n := ⟨_, rfl⟩
    have QL : Hid (¬ R < (m : Int)) := by unfold Hid; rw [hR]; omega
    have HR : Hid (rmI k c n = R) := hR.symm
    have hX : X.length ≤ 1183 := by have := (rmI_bd (k := k) (c := c) (n := n)).2; have := HM.out; omega
    have HXL : Hid (X.length ≤ 1183) := hX
    have HBT : Hid ((Mc.btag K (hdL k c n) X).length = 16) := Mc.tagB_len _ _
    have HBB : Hid (Pl.Byt (X ++ Mc.btag K (hdL k c n) X)) := byt_cat HS.out.bytes (Mc.tagB_byt _ _)
    have csl := fun hv v w h2 h3 => Mc.rseal_any K hv v (hdL k c n) X w HKK.out.1 HKK.out.2 h2 h3 (by have := hdL_le k c n; omega) (by omega)
    obtain ⟨BT, hBT⟩ : ∃ BT, BT = Mc.btag K (hdL k c n) X := ⟨_, rfl⟩
    rw [← hBT] at HBT HBB csl ⊢
    have HHB : Hid (Pl.Byt (hdL k c n)) := hdL_byt HKK2.out.1 HKK2.out.2
    have HHL : Hid ((hdL k c n).length ≤ 17) := hdL_le k c n
    have chd := fun w => rhead_any k c n a m cp w HKK2.out
    obtain ⟨HL, hHL⟩ : ∃ HL, HL = hdL k c n := ⟨_, rfl⟩
    rw [← hHL] at HHB HHL csl chd ⊢
    clear q1 q2 q3 hX hBT hHL hR
    go_enter Tryz.func20, Tryz.ntmps20
    go_upto_region 1 with fail
    rw [← hW2]
    clear hW2
    go_wp2_with (refine wpList_load_row rfl 49 _ rfl (w.heap.size + 1) rfl 49 #[.int .u8 k, .int .i64 c, .int .i64 n, .slice a m cp] (0, 0) _ HG.out Tryz.underlying49 rfl infoQ ?_)
    refine cm.mono ?_
    rintro e w3 ⟨rfl, b3⟩
    have HB3 : Hid (Below w.heap.size w w3) := HB.out.trans (b3.mono HB.out.size)
    have HG3 : Hid (QB w3 (w.heap.size + 1) k c n (.slice a m cp)) := HG.out.kept b3
    have HK3 : Hid (w3.heap[w.heap.size]? = some (.cells (u8s K) 47 (0, 0))) := blk_kept HK1.out b3 (blk_lt HK1.out)
    have HS3 : Hid (Sl w3 (.slice a m cp) X) := HS.out.kept b3
    have cl := fun x => rroom_any k c n a m cp x HKK2.out
    clear cm b3 HB HG HK1 HS
    go_wp2_with fail
    simp only [HR.out] at cl
    refine wp_region_held_drew (S := fun x : World => Below w.heap.size w x ∧ QB x (w.heap.size + 1) k c n (.slice a m cp) ∧ x.heap[w.heap.size]? = some (.cells (u8s K) 47 (0, 0))) (by kernel_rfl) (⟨HB3.out.drew, HG3.out, HK3.out⟩) (fun _ => ?_)
    refine wpAnyH_name (fun u0 hu0 => ?_)
    have su0 : (fun x : World => Below w.heap.size w x ∧ QB x (w.heap.size + 1) k c n (.slice a m cp) ∧ x.heap[w.heap.size]? = some (.cells (u8s K) 47 (0, 0))) u0 := by rw [hu0.out]; exact (⟨HB3.out.drew, HG3.out, HK3.out⟩)
    refine wpAnyH_take (i := 0) (oi := { dst := some 11, op := Op.fieldAddr 49 (Operand.tmp 3) 3, type := 0, pos := "ref.go:58", after := #[], guard := none }) (v := ?vq1) rfl (by kernel_rfl) (by kernel_rfl) (by kernel_rfl) (fun _ _ _ h => h) (Or.inl ⟨by rfl, ?yq1⟩) su0 ?rq1
    case yq1 => (intro w hSw; go_simp; try with_reducible rfl)
    try simp only [Act.put, List.setIfInBounds_toArray, List.set_cons_zero, List.set_cons_succ]
    refine wpAnyH_take (i := 1) (oi := { dst := some 12, op := Op.load 34 (Operand.tmp 11), type := 34, pos := "ref.go:58", after := #[{ on := 0, ground := Ground.data }], guard := none }) (v := ?vq2) rfl (by kernel_rfl) (by kernel_rfl) (by kernel_rfl) (fun _ _ _ h => h) (Or.inl ⟨by rfl, ?yq2⟩) su0 ?rq2
    case yq2 => (intro w hSw; have t := hSw.2.1.kc.c3; go_simp; try with_reducible rfl)
    try simp only [Act.put, List.setIfInBounds_toArray, List.set_cons_zero, List.set_cons_succ]
    refine wpAnyH_take (i := 2) (oi := { dst := some 13, op := Op.call { callee := Callee.builtin Builtin.len, args := #[Operand.tmp 12], argTypes := #[34] }, type := 3, pos := "ref.go:58", after := #[{ on := 1, ground := Ground.data }], guard := none }) (v := ?vq3) rfl (by kernel_rfl) (by kernel_rfl) (by kernel_rfl) (fun _ _ _ h => h) (Or.inl ⟨by rfl, ?yq3⟩) su0 ?rq3
    case yq3 => (intro w hSw; go_simp; try with_reducible rfl)
    try simp only [Act.put, List.setIfInBounds_toArray, List.set_cons_zero, List.set_cons_succ]
    refine wpAnyH_take (i := 3) (oi := { dst := some 14, op := Op.load 49 (Operand.tmp 3), type := 49, pos := "ref.go:58", after := #[], guard := none }) (v := .agg #[.int .u8 k, .int .i64 c, .int .i64 n, .slice a m cp]) rfl (by kernel_rfl) (by kernel_rfl) (by kernel_rfl) (fun _ _ _ h => h) (yieldsIf_load_mid (by rfl) _ _ rfl (w.heap.size + 1) 0 rfl _ _ (fun x h => blk_range h.2.1) Tryz.underlying49 rfl infoQ) su0 ?_
    try simp only [Act.put, List.setIfInBounds_toArray, List.set_cons_zero, List.set_cons_succ]
    refine wpAnyH_ready (rs := [4]) (by kernel_rfl) (by simp) ?_
    refine AllReadyH.cons (o := { dst := some 15, op := Op.call { callee := Callee.value (Operand.func 22), args := #[Operand.tmp 14], argTypes := #[49] }, type := 3, pos := "ref.go:58", after := #[{ on := 3, ground := Ground.data }], guard := none }) rfl (fun KK hKK => ?_) ?_
    · go_simp
      refine (cl _).mono ?_
      rintro e u5' ⟨rfl, bu5'⟩
      (try go_wp2_with fail)
      refine hKK.out _ _ (⟨su0.1.trans (bu5'.mono su0.1.size), su0.2.1.kept bu5', blk_kept su0.2.2 bu5' (blk_lt su0.2.2)⟩) (fun _ => ?_)
      clear hKK KK
      try simp only [Act.put, List.setIfInBounds_toArray, List.set_cons_zero, List.set_cons_succ]
      refine wpAnyH_name (fun u5 hu5 => ?_)
      have su5 : (fun x : World => Below w.heap.size w x ∧ QB x (w.heap.size + 1) k c n (.slice a m cp) ∧ x.heap[w.heap.size]? = some (.cells (u8s K) 47 (0, 0))) u5 := by rw [hu5.out]; exact (⟨su0.1.trans (bu5'.mono su0.1.size), su0.2.1.kept bu5', blk_kept su0.2.2 bu5' (blk_lt su0.2.2)⟩)
      refine wpAnyH_take (i := 5) (oi := { dst := some 16, op := Op.binOp BinOp.gtr 3 (Operand.tmp 13) (Operand.tmp 15) 3, type := 4, pos := "ref.go:58", after := #[{ on := 2, ground := Ground.data }, { on := 4, ground := Ground.data }], guard := none }) (v := ?vq6) rfl (by kernel_rfl) (by kernel_rfl) (by kernel_rfl) (fun _ _ _ h => h) (Or.inl ⟨by rfl, ?yq6⟩) su5 ?rq6
      case yq6 => (intro w hSw; go_simp; try with_reducible rfl)
      try simp only [Act.put, List.setIfInBounds_toArray, List.set_cons_zero, List.set_cons_succ]
      refine wpAnyH_take (i := 6) (oi := { dst := some 10, op := Op.assign (Operand.tmp 16), type := 4, pos := "ref.go:58", after := #[{ on := 5, ground := Ground.data }, { on := 4, ground := Ground.chain }], guard := none }) (v := ?vq7) rfl (by kernel_rfl) (by kernel_rfl) (by kernel_rfl) (fun _ _ _ h => h) (Or.inl ⟨by rfl, ?yq7⟩) su5 ?rq7
      case yq7 => (intro w hSw; go_simp; try with_reducible rfl)
      try simp only [Act.put, List.setIfInBounds_toArray, List.set_cons_zero, List.set_cons_succ]
      refine wpAnyH_done (by kernel_rfl) ?_ _
      have ql := QL.out
      have HB5 : Hid (Below w.heap.size w u5) := su5.1
      have HG5 : Hid (QB u5 (w.heap.size + 1) k c n (.slice a m cp)) := su5.2.1
      have HK5 : Hid (u5.heap[w.heap.size]? = some (.cells (u8s K) 47 (0, 0))) := su5.2.2
      have HSX : Hid (∀ x, Below w.heap.size w x → Sl x (.slice a m cp) X) := HSXX
      go_upto_region 5 with fail
      refine wp_region_held_drew (S := fun x : World => Below w.heap.size w x ∧ QB x (w.heap.size + 1) k c n (.slice a m cp) ∧ x.heap[w.heap.size]? = some (.cells (u8s K) 47 (0, 0))) (by kernel_rfl) (⟨HB5.out.drew, HG5.out, HK5.out⟩) (fun _ => ?_)
      refine wpAnyH_name (fun u0 hu0 => ?_)
      have su0 : (fun x : World => Below w.heap.size w x ∧ QB x (w.heap.size + 1) k c n (.slice a m cp) ∧ x.heap[w.heap.size]? = some (.cells (u8s K) 47 (0, 0))) u0 := by rw [hu0.out]; exact (⟨HB5.out.drew, HG5.out, HK5.out⟩)
      refine wpAnyH_take (i := 0) (oi := { dst := some 17, op := Op.load 49 (Operand.tmp 3), type := 49, pos := "ref.go:61", after := #[], guard := none }) (v := .agg #[.int .u8 k, .int .i64 c, .int .i64 n, .slice a m cp]) rfl (by kernel_rfl) (by kernel_rfl) (by kernel_rfl) (fun _ _ _ h => h) (yieldsIf_load_mid (by rfl) _ _ rfl (w.heap.size + 1) 0 rfl _ _ (fun x h => blk_range h.2.1) Tryz.underlying49 rfl infoQ) su0 ?_
      try simp only [Act.put, List.setIfInBounds_toArray, List.set_cons_zero, List.set_cons_succ]
      refine wpAnyH_take (i := 2) (oi := { dst := some 19, op := Op.load 47 (Operand.tmp 2), type := 47, pos := "ref.go:61", after := #[], guard := none }) (v := .agg (K.map (Value.int .u8)).toArray) rfl (by kernel_rfl) (by kernel_rfl) (by kernel_rfl) (fun _ _ _ h => h) (yieldsIf_load_mid (by rfl) _ _ rfl w.heap.size 0 rfl _ _ (fun x h => range_sumK h.2.2) Tryz.underlying47 rfl (by rw [List.length_map, HKK.out.1]; exact size26)) su0 ?_
      try simp only [Act.put, List.setIfInBounds_toArray, List.set_cons_zero, List.set_cons_succ]
      refine wpAnyH_take (i := 3) (oi := { dst := some 20, op := Op.load 49 (Operand.tmp 3), type := 49, pos := "ref.go:61", after := #[], guard := none }) (v := .agg #[.int .u8 k, .int .i64 c, .int .i64 n, .slice a m cp]) rfl (by kernel_rfl) (by kernel_rfl) (by kernel_rfl) (fun _ _ _ h => h) (yieldsIf_load_mid (by rfl) _ _ rfl (w.heap.size + 1) 0 rfl _ _ (fun x h => blk_range h.2.1) Tryz.underlying49 rfl infoQ) su0 ?_
      try simp only [Act.put, List.setIfInBounds_toArray, List.set_cons_zero, List.set_cons_succ]
      refine wpAnyH_take (i := 5) (oi := { dst := some 22, op := Op.fieldAddr 49 (Operand.tmp 3) 3, type := 0, pos := "ref.go:61", after := #[], guard := none }) (v := ?vs4) rfl (by kernel_rfl) (by kernel_rfl) (by kernel_rfl) (fun _ _ _ h => h) (Or.inl ⟨by rfl, ?ys4⟩) su0 ?rs4
      case ys4 => (intro w hSw; go_simp; try with_reducible rfl)
      try simp only [Act.put, List.setIfInBounds_toArray, List.set_cons_zero, List.set_cons_succ]
      refine wpAnyH_take (i := 6) (oi := { dst := some 23, op := Op.load 34 (Operand.tmp 22), type := 34, pos := "ref.go:61", after := #[{ on := 5, ground := Ground.data }], guard := none }) (v := ?vs5) rfl (by kernel_rfl) (by kernel_rfl) (by kernel_rfl) (fun _ _ _ h => h) (Or.inl ⟨by rfl, ?ys5⟩) su0 ?rs5
      case ys5 => (intro w hSw; have t := hSw.2.1.kc.c3; go_simp; try with_reducible rfl)
      try simp only [Act.put, List.setIfInBounds_toArray, List.set_cons_zero, List.set_cons_succ]
      refine wpAnyH_ready (rs := [1]) (by kernel_rfl) (by simp) ?_
      refine AllReadyH.cons (o := { dst := some 18, op := Op.call { callee := Callee.value (Operand.func 61), args := #[Operand.tmp 17], argTypes := #[49] }, type := 34, pos := "ref.go:61", after := #[{ on := 0, ground := Ground.data }], guard := none }) rfl (fun KK hKK => ?_) ?_
      · go_simp
        refine (chd _).mono ?_
        rintro e u6' ⟨v1, rfl, o1, bu6'⟩
        (try go_wp2_with fail)
        refine hKK.out _ _ (⟨su0.1.trans (bu6'.mono su0.1.size), su0.2.1.kept bu6', blk_kept su0.2.2 bu6' (blk_lt su0.2.2)⟩) (fun _ => ?_)
        clear hKK KK
        try simp only [Act.put, List.setIfInBounds_toArray, List.set_cons_zero, List.set_cons_succ]
        refine wpAnyH_name (fun u6 hu6 => ?_)
        have su6 : (fun x : World => Below w.heap.size w x ∧ QB x (w.heap.size + 1) k c n (.slice a m cp) ∧ x.heap[w.heap.size]? = some (.cells (u8s K) 47 (0, 0))) u6 := by rw [hu6.out]; exact (⟨su0.1.trans (bu6'.mono su0.1.size), su0.2.1.kept bu6', blk_kept su0.2.2 bu6' (blk_lt su0.2.2)⟩)
        have O1 : Hid (u6.ownsRow (w.heap.size + 2) 5 1 v1 HL.length (HL.map (Value.int .u8))) := by unfold Hid; rw [hu6.out]; exact own_mono o1 (by have := blk_lt su0.2.1; omega)
        clear o1 bu6'
        refine wpAnyH_ready (rs := [4]) (by kernel_rfl) (by simp) ?_
        refine AllReadyH.cons (o := { dst := some 21, op := Op.call { callee := Callee.value (Operand.func 61), args := #[Operand.tmp 20], argTypes := #[49] }, type := 34, pos := "ref.go:61", after := #[{ on := 3, ground := Ground.data }, { on := 1, ground := Ground.chain }], guard := none }) rfl (fun KK hKK => ?_) ?_
        · go_simp
          refine (chd _).mono ?_
          rintro e u7' ⟨v4, rfl, o4, bu7'⟩
          have s4 := sl_owned o4 HHB.out
          (try go_wp2_with fail)
          refine hKK.out _ _ (⟨su6.1.trans (bu7'.mono su6.1.size), su6.2.1.kept bu7', blk_kept su6.2.2 bu7' (blk_lt su6.2.2)⟩) (fun _ => ?_)
          clear hKK KK
          try simp only [Act.put, List.setIfInBounds_toArray, List.set_cons_zero, List.set_cons_succ]
          refine wpAnyH_name (fun u7 hu7 => ?_)
          have su7 : (fun x : World => Below w.heap.size w x ∧ QB x (w.heap.size + 1) k c n (.slice a m cp) ∧ x.heap[w.heap.size]? = some (.cells (u8s K) 47 (0, 0))) u7 := by rw [hu7.out]; exact (⟨su6.1.trans (bu7'.mono su6.1.size), su6.2.1.kept bu7', blk_kept su6.2.2 bu7' (blk_lt su6.2.2)⟩)
          have bu7 : Below u6.heap.size u6 u7 := by rw [hu7.out]; exact bu7'
          have S4 : Hid (Sl u7 v4 HL) := by unfold Hid; rw [hu7.out]; exact s4
          replace O1 := hown O1 bu7
          have SXu7 : Hid (Sl u7 (.slice a m cp) X) := HSX.out _ su7.1
          clear s4 o4 bu7'
          refine wpAnyH_ready (rs := [7]) (by kernel_rfl) (by simp) ?_
          refine AllReadyH.cons (o := { dst := some 24, op := Op.call { callee := Callee.value (Operand.func 62), args := #[Operand.tmp 19, Operand.tmp 21, Operand.tmp 23], argTypes := #[47, 34, 34] }, type := 34, pos := "ref.go:61", after := #[{ on := 2, ground := Ground.data }, { on := 4, ground := Ground.data }, { on := 6, ground := Ground.data }, { on := 4, ground := Ground.chain }], guard := none }) rfl (fun KK hKK => ?_) ?_
          · go_simp
            refine (csl _ _ _ S4.out SXu7.out).mono ?_
            rintro e u8' ⟨v7, rfl, o7, bu8'⟩
            have s7 := sl_owned o7 HBB.out
            (try go_wp2_with fail)
            refine hKK.out _ _ (⟨su7.1.trans (bu8'.mono su7.1.size), su7.2.1.kept bu8', blk_kept su7.2.2 bu8' (blk_lt su7.2.2)⟩) (fun _ => ?_)
            clear hKK KK
            try simp only [Act.put, List.setIfInBounds_toArray, List.set_cons_zero, List.set_cons_succ]
            refine wpAnyH_name (fun u8 hu8 => ?_)
            have su8 : (fun x : World => Below w.heap.size w x ∧ QB x (w.heap.size + 1) k c n (.slice a m cp) ∧ x.heap[w.heap.size]? = some (.cells (u8s K) 47 (0, 0))) u8 := by rw [hu8.out]; exact (⟨su7.1.trans (bu8'.mono su7.1.size), su7.2.1.kept bu8', blk_kept su7.2.2 bu8' (blk_lt su7.2.2)⟩)
            have bu8 : Below u7.heap.size u7 u8 := by rw [hu8.out]; exact bu8'
            have S7 : Hid (Sl u8 v7 (X ++ BT)) := by unfold Hid; rw [hu8.out]; exact s7
            replace O1 := hown O1 bu8
            clear s7 o7 bu8'
            refine wpAnyH_ready (rs := [8]) (by kernel_rfl) (by simp) ?_
            refine AllReadyH.cons (o := { dst := some 25, op := Op.call { callee := Callee.builtin Builtin.append, args := #[Operand.tmp 18, Operand.tmp 24], argTypes := #[34, 34] }, type := 34, pos := "ref.go:61", after := #[{ on := 1, ground := Ground.data }, { on := 7, ground := Ground.data }, { on := 7, ground := Ground.chain }], guard := none }) rfl (fun KK hKK => ?_) ?_
            · rw [if_pos (by rfl)]
              refine Mc.wp_append_sl _ _ rfl (w.heap.size + 2) _ _ _ rfl O1.out _ (X ++ BT) rfl S7.out (by rw [List.length_append, HBT.out]; have := HXL.out; have := HHL.out; omega) (by have := blk_lt su8.2.1; omega) ?_
              intro v8 u9' own8 hg8
              refine hKK.out _ _ (grow_q2 su8 hg8 (own_base O1.out)) (fun _ => ?_)
              clear hKK KK
              try simp only [Act.put, List.setIfInBounds_toArray, List.set_cons_zero, List.set_cons_succ]
              refine wpAnyH_name (fun u9 hu9 => ?_)
              have su9 : (fun x : World => Below w.heap.size w x ∧ QB x (w.heap.size + 1) k c n (.slice a m cp) ∧ x.heap[w.heap.size]? = some (.cells (u8s K) 47 (0, 0))) u9 := by rw [hu9.out]; exact (grow_q2 su8 hg8 (own_base O1.out))
              rw [← List.map_append] at own8
              have S8 : Hid (Sl u9 v8 (HL ++ (X ++ BT))) := by unfold Hid; rw [hu9.out]; exact sl_owned (base := w.heap.size + 2) (n := HL.length + (X ++ BT).length) own8 (byt_cat HHB.out HBB.out)
              refine wpAnyH_take (i := 9) (oi := { dst := some 4, op := Op.assign (Operand.tmp 25), type := 34, pos := "ref.go:61", after := #[{ on := 8, ground := Ground.data }, { on := 8, ground := Ground.chain }, { on := 0, ground := Ground.phase }, { on := 1, ground := Ground.phase }, { on := 2, ground := Ground.phase }, { on := 3, ground := Ground.phase }, { on := 4, ground := Ground.phase }, { on := 5, ground := Ground.phase }, { on := 6, ground := Ground.phase }, { on := 7, ground := Ground.phase }, { on := 8, ground := Ground.phase }], guard := none }) (v := ?vs10) rfl (by kernel_rfl) (by kernel_rfl) (by kernel_rfl) (fun _ _ _ h => h) (Or.inl ⟨by rfl, ?ys10⟩) su9 ?rs10
              case ys10 => (intro w hSw; go_simp; try with_reducible rfl)
              try simp only [Act.put, List.setIfInBounds_toArray, List.set_cons_zero, List.set_cons_succ]
              refine wpAnyH_take (i := 10) (oi := { dst := some 5, op := Op.assign (Operand.const (Value.int IntKind.i64 0)), type := 3, pos := "ref.go:61", after := #[{ on := 9, ground := Ground.chain }, { on := 0, ground := Ground.phase }, { on := 1, ground := Ground.phase }, { on := 2, ground := Ground.phase }, { on := 3, ground := Ground.phase }, { on := 4, ground := Ground.phase }, { on := 5, ground := Ground.phase }, { on := 6, ground := Ground.phase }, { on := 7, ground := Ground.phase }, { on := 8, ground := Ground.phase }, { on := 9, ground := Ground.phase }], guard := none }) (v := ?vs11) rfl (by kernel_rfl) (by kernel_rfl) (by kernel_rfl) (fun _ _ _ h => h) (Or.inl ⟨by rfl, ?ys11⟩) su9 ?rs11
              case ys11 => (intro w hSw; go_simp; try with_reducible rfl)
              try simp only [Act.put, List.setIfInBounds_toArray, List.set_cons_zero, List.set_cons_succ]
              refine wpAnyH_done (by kernel_rfl) ?_ _
              go_wp2
              go_ret2
              exact ⟨_, rfl, S8.out, su9.1⟩
            exact AllReadyH.nil
          exact AllReadyH.nil
        exact AllReadyH.nil
      exact AllReadyH.nil
    exact AllReadyH.nil

end Go.Proofs.YtiollhmbdhepkaaGreatDoor
