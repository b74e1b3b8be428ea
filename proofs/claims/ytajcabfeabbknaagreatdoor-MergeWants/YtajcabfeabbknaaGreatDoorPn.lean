/-
  What Plan answers.
-/
import Derived.Test.YtajcabfeabbknaaGreatDoorWn
import Derived.Test.YtajcabfeabbknaaGreatDoorPo
import Derived.Test.YtajcabfeabbknaaGreatDoorCn
import Derived.Test.YtajcabfeabbknaaGreatDoorOrd
import Derived.Deep.CutRange
namespace Go.Proofs.YtajcabfeabbknaaGreatDoor
open Go.RowKit Go.Deep

set_option maxHeartbeats 4000000 in
set_option maxRecDepth 100000 in
theorem plan_any (vs vd : Value) (s d : List En) (P : Pol) (w : World) (hs : ES w vs s) (hls : Lt s) (hd : ES w vd d) (hld : Lt d) (hm : Mx w) :
    Calls Tryz.prog 9 #[vs, vd, .agg #[.bool P.del, .bool P.bak]] w fun e w' => ∃ v', e = .returned (.tuple #[v', .int .i64 (plan s d P).2]) ∧ SR w' w.heap.size v' (plan s d P).1 ∧ Below w.heap.size w w' := by
  have hmf : ∀ (fn : Fn) (first cap : Array Value) (w : World), (Instr.makeFunc fn first cap).run Tryz.prog w = .ok (.func fn first cap) w := fun _ _ _ _ => rfl
  obtain ⟨W1, hW1⟩ : ∃ W1, W1 = (w.alloc (.cells #[vd] 22)).alloc (.cells #[.bool P.del, .bool P.bak] 24) := ⟨_, rfl⟩
  have b1 : Below w.heap.size w W1 := by rw [hW1]; exact ((Below.refl _ _).alloc (Nat.le_refl _) _).alloc (by simp) _
  have k1 : W1.cell? ⟨w.heap.size, 0, none⟩ = some vd ∧ W1.cell? ⟨w.heap.size + 1, 0, none⟩ = some (.bool P.del) ∧ W1.cell? ⟨w.heap.size + 1, 1, none⟩ = some (.bool P.bak) := by
    rw [hW1, World.cell?_alloc_past _ _ _ (by simp), World.cell?_alloc_at _ _ _ _ rfl, World.cell?_alloc_at _ _ _ _ (by simp), World.cell?_alloc_at _ _ _ _ (by simp)]
    exact ⟨rfl, rfl, rfl⟩
  have HK : Hid (∀ W, Below W1.heap.size W1 W → W.cell? ⟨w.heap.size, 0, none⟩ = some vd ∧ W.cell? ⟨w.heap.size + 1, 0, none⟩ = some (.bool P.del) ∧ W.cell? ⟨w.heap.size + 1, 1, none⟩ = some (.bool P.bak)) := fun W hb =>
    ⟨(hb.cell (World.block_lt_of_cell? _ _ k1.1)).trans k1.1, (hb.cell (World.block_lt_of_cell? _ _ k1.2.1)).trans k1.2.1, (hb.cell (World.block_lt_of_cell? _ _ k1.2.2)).trans k1.2.2⟩
  have B1 : Hid (Below w.heap.size w W1) := b1
  have C1 := want_any vs vd s d P W1 (hs.kept b1) hls (hd.kept b1) hld (hm.kept b1)
  have HST : Hid (∀ W, Below w.heap.size w W → Calls Tryz.prog 20 #[vs, .agg #[.bool P.del, .bool P.bak]] W fun e w' => ∃ gs gh gp g, e = .returned (.func (.func 50) #[] #[.pointer (some ⟨gs, 0, none⟩), .pointer (some ⟨gh, 0, none⟩), .pointer (some ⟨gp, 0, none⟩)]) ∧
      StC w' gs gh gp g vs P.del ∧ Below W.heap.size W w') := fun W hb => staying_any vs s P W (hs.kept hb)
  have HKE : Hid (∀ W gs gh gp g, Below w.heap.size w W → StC W gs gh gp g vs P.del → Calls Tryz.prog 24 #[vs, vd, .agg #[.bool P.del, .bool P.bak], .func (.func 50) #[] #[.pointer (some ⟨gs, 0, none⟩), .pointer (some ⟨gh, 0, none⟩), .pointer (some ⟨gp, 0, none⟩)]] W fun e w' =>
      ∃ kp kt ks kd, e = .returned (.func (.func 55) #[] #[.pointer (some ⟨kp, 0, none⟩), .pointer (some ⟨kt, 0, none⟩), .pointer (some ⟨ks, 0, none⟩), .pointer (some ⟨kd, 0, none⟩)]) ∧ KpC w' kp kt ks kd gs gh gp g vs vd P ∧ Below W.heap.size W w') := fun W gs gh gp g hb hc => keeping_any vs vd P gs gh gp g W ⟨s, hs.kept hb⟩ ⟨d, hd.kept hb⟩ hc
  have HHA : Hid (∀ W, Below w.heap.size w W → Calls Tryz.prog 31 #[vd] W fun e w' => ∃ g, e = .returned (.func (.func 64) #[] #[.pointer (some ⟨g, 0, none⟩)]) ∧ w'.cell? ⟨g, 0, none⟩ = some vd ∧ Below W.heap.size W w') := fun W hb => having_any vd d W (hd.kept hb)
  have HLW0 : Hid ((want s d P).2 = 0 → Lt (want s d P).1) := fun e => by
    unfold want at e ⊢
    split at e
    · rename_i h1; exact absurd e h1
    rename_i h1
    split at e
    · rename_i h2; exact absurd e h2
    rename_i h2
    split at e
    · cases e
    rename_i h3
    rw [if_neg h1, if_neg h2, if_neg h3]
    exact wnt_lt hls hld (by omega)
  have HR : Hid (plan s d P = if (want s d P).2 ≠ 0 then ([], (want s d P).2) else (pln s d (want s d P).1 P, 0)) := rfl
  obtain ⟨a, c, rfl, _, _, _⟩ := hs.shape
  obtain ⟨a2, c2, rfl, _, _, _⟩ := hd.shape
  have HES : Hid (ES w (.slice a s.length c) s) := hs
  have HED : Hid (ES w (.slice a2 d.length c2) d) := hd
  have HLS : Hid (Lt s) := hls
  have HLD : Hid (Lt d) := hld
  have HM : Hid (Mx w) := hm
  clear hs hls hd hld hm b1
  have kk1 := k1.1
  have kk2 := k1.2.1
  have kk3 := k1.2.2
  rw [hW1] at kk1 kk2 kk3
  clear k1
  generalize hwn : want s d P = R0 at *
  generalize plan s d P = R at *
  go_enter Tryz.func9, Tryz.ntmps9
  go_wp2_with fail
  rw [← hW1]
  clear hW1 kk1 kk2 kk3
  refine C1.mono ?_
  rintro e w2 ⟨vw, rfl, o2, b2⟩
  have D2 : Hid (Below W1.heap.size W1 w2) := b2
  have B2 : Hid (Below w.heap.size w w2) := B1.out.trans (b2.mono B1.out.size)
  have E2 : Hid (ES w2 vw R0.1) := o2.es
  obtain ⟨aw, cw, rfl, _, _, _⟩ := o2.es.shape
  clear C1 b2 o2
  obtain ⟨W3, hW3⟩ : ∃ W3, W3 = w2.alloc (.cells #[.slice aw R0.1.length cw] 22) := ⟨_, rfl⟩
  have b3 : Below w2.heap.size w2 W3 := by rw [hW3]; exact (Below.refl _ _).alloc (Nat.le_refl _) _
  have B3 : Hid (Below w.heap.size w W3) := B2.out.trans (b3.mono B2.out.size)
  have D3 : Hid (Below W1.heap.size W1 W3) := D2.out.trans (b3.mono D2.out.size)
  have KW : Hid (W3.cell? ⟨w2.heap.size, 0, none⟩ = some (.slice aw R0.1.length cw)) := by unfold Hid; rw [hW3, World.cell?_alloc_at _ _ _ _ rfl]; rfl
  have E3 : Hid (ES W3 (.slice aw R0.1.length cw) R0.1) := E2.out.kept b3
  have HWN : Hid (want s d P = R0) := hwn
  clear b3 hwn
  by_cases h0 : R0.2 = 0
  case neg =>
    have HR2 : Hid (R = ([], R0.2)) := by unfold Hid; rw [HR.out, if_pos h0]
    have B3' : Hid (Below w.heap.size w (w2.alloc (.cells #[.slice aw R0.1.length cw] 22))) := by rw [← hW3]; exact B3.out
    generalize R0.2 = rk at *
    generalize R0.1.length = rn at *
    have t0 : (rk != 0) = true := by simp [h0]
    clear HR hW3
    go_wp2
    refine bodyPost_ret (v := .tuple #[.slice none 0 0, .int .i64 rk]) ?h1 rfl ?_
    case h1 => simp [results, Tryz.results9, go_sem, *]
    exact ⟨_, by rw [HR2.out], by rw [HR2.out]; exact SR.nil _ _, B3'.out⟩
  have HR2 : Hid (R = (pln s d R0.1 P, 0)) := by unfold Hid; rw [HR.out, if_neg (by simp [h0])]
  have HLW : Hid (Lt R0.1) := HLW0.out h0
  clear HR HLW0
  rw [h0]
  clear h0
  obtain ⟨ns, hns⟩ : ∃ n, n = s.length := ⟨_, rfl⟩
  obtain ⟨nd, hnd⟩ : ∃ n, n = d.length := ⟨_, rfl⟩
  obtain ⟨nw, hnw⟩ : ∃ n, n = R0.1.length := ⟨_, rfl⟩
  rw [← hns] at HES HST HKE ⊢
  rw [← hnd] at HED HKE HHA HK ⊢
  rw [← hnw] at E3 KW hW3 ⊢
  clear hns hnd hnw E2
  go_upto_region 4 with fail
  rw [← hW3]
  clear hW3
  have FD : Hid (∀ x, From W3 x → x.cell? ⟨w.heap.size, 0, none⟩ = some (.slice a2 nd c2)) := fun x hx => (HK.out x (D3.out.trans (Below.mono hx D3.out.size))).1
  have FP : Hid (∀ x, From W3 x → x.cell? ⟨w.heap.size + 1, 0, none⟩ = some (.bool P.del) ∧ x.cell? ⟨w.heap.size + 1, 1, none⟩ = some (.bool P.bak)) := fun x hx => (HK.out x (D3.out.trans (Below.mono hx D3.out.size))).2
  have FB0 : Hid (∀ x, From W3 x → Below w.heap.size w x) := fun x hx => B3.out.trans (Below.mono hx B3.out.size)
  have st1 := st_func
  go_cut [10, 11] from 26 to 34 (fun p q wx => ∃ g10 g11 g2 kp kt kz kq gs gh gp g, p = .pointer (some ⟨g10, 0, none⟩) ∧ q = .pointer (some ⟨g11, 0, none⟩) ∧ KpC wx kp kt kz kq gs gh gp g (.slice a ns c) (.slice a2 nd c2) P ∧
    wx.cell? ⟨g10, 0, none⟩ = some (.func (.func 55) #[] #[.pointer (some ⟨kp, 0, none⟩), .pointer (some ⟨kt, 0, none⟩), .pointer (some ⟨kz, 0, none⟩), .pointer (some ⟨kq, 0, none⟩)]) ∧
    wx.cell? ⟨g11, 0, none⟩ = some (.func (.func 64) #[] #[.pointer (some ⟨g2, 0, none⟩)]) ∧ wx.cell? ⟨g2, 0, none⟩ = some (.slice a2 nd c2) ∧ Below W3.heap.size W3 wx)
  case first =>
    refine wp_region_held_drew (S := From W3) (by kernel_rfl) (Below.drew (Below.refl _ _)) (fun _ => ?_)
    refine wpAnyH_name (fun u0 hu0 => ?_)
    have bu0 : Below W3.heap.size W3 u0 := by rw [hu0.out]; exact Below.drew (Below.refl _ _)
    refine wpAnyH_take (i := 0) (oi := { dst := some 26, op := Op.move (Operand.tmp 0), type := 22, pos := "merge.go:53", after := #[], guard := none }) (v := ?vr1) rfl (by kernel_rfl) (by kernel_rfl) (by kernel_rfl) (fun _ _ _ h => h) (Or.inl ⟨by rfl, ?yr1⟩) bu0 ?rr1
    case yr1 => (intro w hSw; go_simp; try with_reducible rfl)
    try simp only [Act.put, List.setIfInBounds_toArray, List.set_cons_zero, List.set_cons_succ]
    refine wpAnyH_take (i := 1) (oi := { dst := some 27, op := Op.load 22 (Operand.tmp 4), type := 22, pos := "merge.go:53", after := #[], guard := none }) (v := ?vr2) rfl (by kernel_rfl) (by kernel_rfl) (by kernel_rfl) (fun _ _ _ h => h) (Or.inl ⟨by rfl, ?yr2⟩) bu0 ?rr2
    case yr2 => (intro w hSw; have t := FD.out w hSw; go_simp; try with_reducible rfl)
    try simp only [Act.put, List.setIfInBounds_toArray, List.set_cons_zero, List.set_cons_succ]
    refine wpAnyH_take (i := 2) (oi := { dst := some 28, op := Op.load 24 (Operand.tmp 5), type := 24, pos := "merge.go:53", after := #[], guard := none }) (v := ?vr3) rfl (by kernel_rfl) (by kernel_rfl) (by kernel_rfl) (fun _ _ _ h => h) (Or.inl ⟨by rfl, ?yr3⟩) bu0 ?rr3
    case yr3 => (intro w hSw; obtain ⟨t1, t2⟩ := FP.out w hSw; go_simp; try with_reducible rfl)
    try simp only [Act.put, List.setIfInBounds_toArray, List.set_cons_zero, List.set_cons_succ]
    refine wpAnyH_take (i := 3) (oi := { dst := some 29, op := Op.move (Operand.tmp 0), type := 22, pos := "merge.go:53", after := #[], guard := none }) (v := ?vr4) rfl (by kernel_rfl) (by kernel_rfl) (by kernel_rfl) (fun _ _ _ h => h) (Or.inl ⟨by rfl, ?yr4⟩) bu0 ?rr4
    case yr4 => (intro w hSw; go_simp; try with_reducible rfl)
    try simp only [Act.put, List.setIfInBounds_toArray, List.set_cons_zero, List.set_cons_succ]
    refine wpAnyH_take (i := 4) (oi := { dst := some 30, op := Op.load 24 (Operand.tmp 5), type := 24, pos := "merge.go:53", after := #[], guard := none }) (v := ?vr5) rfl (by kernel_rfl) (by kernel_rfl) (by kernel_rfl) (fun _ _ _ h => h) (Or.inl ⟨by rfl, ?yr5⟩) bu0 ?rr5
    case yr5 => (intro w hSw; obtain ⟨t1, t2⟩ := FP.out w hSw; go_simp; try with_reducible rfl)
    try simp only [Act.put, List.setIfInBounds_toArray, List.set_cons_zero, List.set_cons_succ]
    refine wpAnyH_take (i := 7) (oi := { dst := some 33, op := Op.load 22 (Operand.tmp 4), type := 22, pos := "merge.go:53", after := #[], guard := none }) (v := ?vr6) rfl (by kernel_rfl) (by kernel_rfl) (by kernel_rfl) (fun _ _ _ h => h) (Or.inl ⟨by rfl, ?yr6⟩) bu0 ?rr6
    case yr6 => (intro w hSw; have t := FD.out w hSw; go_simp; try with_reducible rfl)
    try simp only [Act.put, List.setIfInBounds_toArray, List.set_cons_zero, List.set_cons_succ]
    refine wpAnyH_ready (rs := [5, 9, 10]) (by kernel_rfl) (by simp) ?_
    refine AllReadyH.cons (o := { dst := some 31, op := Op.call { callee := Callee.value (Operand.func 20), args := #[Operand.tmp 29, Operand.tmp 30], argTypes := #[22, 24] }, type := 57, pos := "merge.go:53", after := #[{ on := 3, ground := Ground.data }, { on := 4, ground := Ground.data }], guard := none }) rfl (fun KK hKK => ?_) ?_
    · go_simp
      refine (HST.out _ (FB0.out _ bu0)).mono ?_
      rintro e u7' ⟨gs, gh, gp, g, rfl, stu7, bu7'⟩
      (try go_wp2_with fail)
      refine hKK.out _ _ (bu0.trans (Below.mono (bu7') bu0.size)) (fun _ => ?_)
      clear hKK KK
      try simp only [Act.put, List.setIfInBounds_toArray, List.set_cons_zero, List.set_cons_succ]
      refine wpAnyH_name (fun u7 hu7 => ?_)
      have bu7 : Below W3.heap.size W3 u7 := by rw [hu7.out]; exact (bu0.trans (Below.mono (bu7') bu0.size))
      have qu7 : Below u0.heap.size u0 u7 := by rw [hu7.out]; exact (bu7')
      try replace FS := StC.kept FS qu7
      try replace FK := KpC.kept FK qu7
      try replace FV := (qu7.cell (World.block_lt_of_cell? _ _ FV)).trans FV
      try replace FA := (qu7.block _ (lt_of_block FA)).trans FA
      try replace FC := (qu7.block _ (lt_of_block FC)).trans FC
      try replace LA := Nat.lt_of_lt_of_le LA qu7.size
      try replace LC := Nat.lt_of_lt_of_le LC qu7.size
      have FS : StC u7 gs gh gp g (.slice a ns c) P.del := by rw [hu7.out]; exact stu7
      refine wpAnyH_ready (rs := [6, 9, 10]) (by kernel_rfl) (by simp) ?_
      refine AllReadyH.cons (o := { dst := some 32, op := Op.call { callee := Callee.value (Operand.func 24), args := #[Operand.tmp 26, Operand.tmp 27, Operand.tmp 28, Operand.tmp 31], argTypes := #[22, 22, 24, 57] }, type := 62, pos := "merge.go:53", after := #[{ on := 0, ground := Ground.data }, { on := 1, ground := Ground.data }, { on := 2, ground := Ground.data }, { on := 5, ground := Ground.data }, { on := 5, ground := Ground.chain }], guard := none }) rfl (fun KK hKK => ?_) ?_
      · go_simp
        refine (HKE.out _ gs gh gp g (FB0.out _ bu7) FS).mono ?_
        rintro e u8' ⟨kp, kt, kz, kq, rfl, kcu8, bu8'⟩
        (try go_wp2_with fail)
        refine hKK.out _ _ (bu7.trans (Below.mono (bu8') bu7.size)) (fun _ => ?_)
        clear hKK KK
        try simp only [Act.put, List.setIfInBounds_toArray, List.set_cons_zero, List.set_cons_succ]
        refine wpAnyH_name (fun u8 hu8 => ?_)
        have bu8 : Below W3.heap.size W3 u8 := by rw [hu8.out]; exact (bu7.trans (Below.mono (bu8') bu7.size))
        have qu8 : Below u7.heap.size u7 u8 := by rw [hu8.out]; exact (bu8')
        try replace FS := StC.kept FS qu8
        try replace FK := KpC.kept FK qu8
        try replace FV := (qu8.cell (World.block_lt_of_cell? _ _ FV)).trans FV
        try replace FA := (qu8.block _ (lt_of_block FA)).trans FA
        try replace FC := (qu8.block _ (lt_of_block FC)).trans FC
        try replace LA := Nat.lt_of_lt_of_le LA qu8.size
        try replace LC := Nat.lt_of_lt_of_le LC qu8.size
        have FK : KpC u8 kp kt kz kq gs gh gp g (.slice a ns c) (.slice a2 nd c2) P := by rw [hu8.out]; exact kcu8
        refine wpAnyH_ready (rs := [8, 9, 10]) (by kernel_rfl) (by simp) ?_
        refine AllReadyH.cons (o := { dst := some 34, op := Op.call { callee := Callee.value (Operand.func 31), args := #[Operand.tmp 33], argTypes := #[22] }, type := 57, pos := "merge.go:53", after := #[{ on := 7, ground := Ground.data }, { on := 6, ground := Ground.chain }], guard := none }) rfl (fun KK hKK => ?_) ?_
        · go_simp
          refine (HHA.out _ (FB0.out _ bu8)).mono ?_
          rintro e u9' ⟨g2, rfl, hu9', bu9'⟩
          (try go_wp2_with fail)
          refine hKK.out _ _ (bu8.trans (Below.mono (bu9') bu8.size)) (fun _ => ?_)
          clear hKK KK
          try simp only [Act.put, List.setIfInBounds_toArray, List.set_cons_zero, List.set_cons_succ]
          refine wpAnyH_name (fun u9 hu9 => ?_)
          have bu9 : Below W3.heap.size W3 u9 := by rw [hu9.out]; exact (bu8.trans (Below.mono (bu9') bu8.size))
          have qu9 : Below u8.heap.size u8 u9 := by rw [hu9.out]; exact (bu9')
          try replace FS := StC.kept FS qu9
          try replace FK := KpC.kept FK qu9
          try replace FV := (qu9.cell (World.block_lt_of_cell? _ _ FV)).trans FV
          try replace FA := (qu9.block _ (lt_of_block FA)).trans FA
          try replace FC := (qu9.block _ (lt_of_block FC)).trans FC
          try replace LA := Nat.lt_of_lt_of_le LA qu9.size
          try replace LC := Nat.lt_of_lt_of_le LC qu9.size
          have FV : u9.cell? ⟨g2, 0, none⟩ = some (.slice a2 nd c2) := by rw [hu9.out]; exact hu9'
          refine wpAnyH_ready (rs := [9, 10]) (by kernel_rfl) (by simp) ?_
          refine AllReadyH.cons (o := { dst := some 10, op := Op.alloc 62, type := 0, pos := "merge.go:53", after := #[], guard := none }) rfl (fun KK hKK => ?_) ?_
          · go_simp
            refine hKK.out _ _ (bu9.trans (Below.mono (al_below _ _) bu9.size)) (fun _ => ?_)
            clear hKK KK
            try simp only [Act.put, List.setIfInBounds_toArray, List.set_cons_zero, List.set_cons_succ]
            refine wpAnyH_name (fun u10 hu10 => ?_)
            have bu10 : Below W3.heap.size W3 u10 := by rw [hu10.out]; exact (bu9.trans (Below.mono (al_below _ _) bu9.size))
            have qu10 : Below u9.heap.size u9 u10 := by rw [hu10.out]; exact (al_below _ _)
            try replace FS := StC.kept FS qu10
            try replace FK := KpC.kept FK qu10
            try replace FV := (qu10.cell (World.block_lt_of_cell? _ _ FV)).trans FV
            try replace FA := (qu10.block _ (lt_of_block FA)).trans FA
            try replace FC := (qu10.block _ (lt_of_block FC)).trans FC
            try replace LA := Nat.lt_of_lt_of_le LA qu10.size
            try replace LC := Nat.lt_of_lt_of_le LC qu10.size
            have FA : u10.heap[u9.heap.size]? = some (.cells #[.nilFunc] 62 (0, 0)) := by rw [hu10.out]; exact heap_alloc_new _ _
            have LA : W3.heap.size ≤ u9.heap.size := bu9.size
            refine wpAnyH_ready (rs := [10]) (by kernel_rfl) (by simp) ?_
            refine AllReadyH.cons (o := { dst := some 11, op := Op.alloc 57, type := 0, pos := "merge.go:53", after := #[], guard := none }) rfl (fun KK hKK => ?_) ?_
            · go_simp
              refine hKK.out _ _ (bu10.trans (Below.mono (al_below _ _) bu10.size)) (fun _ => ?_)
              clear hKK KK
              try simp only [Act.put, List.setIfInBounds_toArray, List.set_cons_zero, List.set_cons_succ]
              refine wpAnyH_name (fun u11 hu11 => ?_)
              have bu11 : Below W3.heap.size W3 u11 := by rw [hu11.out]; exact (bu10.trans (Below.mono (al_below _ _) bu10.size))
              have qu11 : Below u10.heap.size u10 u11 := by rw [hu11.out]; exact (al_below _ _)
              try replace FS := StC.kept FS qu11
              try replace FK := KpC.kept FK qu11
              try replace FV := (qu11.cell (World.block_lt_of_cell? _ _ FV)).trans FV
              try replace FA := (qu11.block _ (lt_of_block FA)).trans FA
              try replace FC := (qu11.block _ (lt_of_block FC)).trans FC
              try replace LA := Nat.lt_of_lt_of_le LA qu11.size
              try replace LC := Nat.lt_of_lt_of_le LC qu11.size
              have FC : u11.heap[u10.heap.size]? = some (.cells #[.nilFunc] 57 (0, 0)) := by rw [hu11.out]; exact heap_alloc_new _ _
              have LC : W3.heap.size ≤ u10.heap.size := bu10.size
              refine wpAnyH_ready (rs := [11]) (by kernel_rfl) (by simp) ?_
              refine AllReadyH.cons (o := { dst := none, op := Op.store 62 (Operand.tmp 10) (Operand.tmp 32), type := 0, pos := "merge.go:53", after := #[{ on := 9, ground := Ground.data }, { on := 6, ground := Ground.data }, { on := 8, ground := Ground.chain }, { on := 0, ground := Ground.phase }, { on := 1, ground := Ground.phase }, { on := 2, ground := Ground.phase }, { on := 3, ground := Ground.phase }, { on := 4, ground := Ground.phase }, { on := 5, ground := Ground.phase }, { on := 6, ground := Ground.phase }, { on := 7, ground := Ground.textOnly Departure.lateStores }, { on := 8, ground := Ground.textOnly Departure.lateStoresUnsure }, { on := 9, ground := Ground.phase }, { on := 10, ground := Ground.phase }], guard := none }) rfl (fun KK hKK => ?_) ?_
              · have fcu12 : u11.cell? ⟨u9.heap.size, 0, none⟩ = some .nilFunc := by simp [World.cell?, FA]
                have fzu12 : u11.frozen? ⟨u9.heap.size, 0, none⟩ = false := by simp [World.frozen?, FA]
                go_simp
                refine hKK.out _ _ (bu11.setCell LA _) (fun _ => ?_)
                clear hKK KK
                try simp only [Act.put]
                refine wpAnyH_name (fun u12 hu12 => ?_)
                have bu12 : Below W3.heap.size W3 u12 := by rw [hu12.out]; exact (bu11.setCell LA _)
                have FC2 : u12.heap[u10.heap.size]? = some (.cells #[.nilFunc] 57 (0, 0)) := by rw [hu12.out, Below.heap_setCell _ _ _ _ (fun e => by rw [e, FA] at FC; cases FC)]; exact FC
                refine wpAnyH_ready (rs := [12]) (by kernel_rfl) (by simp) ?_
                refine AllReadyH.cons (o := { dst := none, op := Op.store 57 (Operand.tmp 11) (Operand.tmp 34), type := 0, pos := "merge.go:53", after := #[{ on := 10, ground := Ground.data }, { on := 8, ground := Ground.data }, { on := 11, ground := Ground.chain }, { on := 0, ground := Ground.phase }, { on := 1, ground := Ground.phase }, { on := 2, ground := Ground.phase }, { on := 3, ground := Ground.phase }, { on := 4, ground := Ground.phase }, { on := 5, ground := Ground.phase }, { on := 6, ground := Ground.phase }, { on := 7, ground := Ground.phase }, { on := 8, ground := Ground.phase }, { on := 9, ground := Ground.phase }, { on := 10, ground := Ground.phase }, { on := 11, ground := Ground.phase }], guard := none }) rfl (fun KK hKK => ?_) ?_
                · have fcu13 : u12.cell? ⟨u10.heap.size, 0, none⟩ = some .nilFunc := by simp [World.cell?, FC2]
                  have fzu13 : u12.frozen? ⟨u10.heap.size, 0, none⟩ = false := by simp [World.frozen?, FC2]
                  go_simp
                  refine hKK.out _ _ (bu12.setCell LC _) (fun _ => ?_)
                  clear hKK KK
                  try simp only [Act.put]
                  refine wpAnyH_name (fun u13 hu13 => ?_)
                  have bu13 : Below W3.heap.size W3 u13 := by rw [hu13.out]; exact (bu12.setCell LC _)
                  refine wpAnyH_done (by kernel_rfl) ?_ _
                  have Z := vars_fin (F1 := .func 55) (x1 := #[]) (y1 := #[.pointer (some ⟨kp, 0, none⟩), .pointer (some ⟨kt, 0, none⟩), .pointer (some ⟨kz, 0, none⟩), .pointer (some ⟨kq, 0, none⟩)]) (F2 := .func 64) (x2 := #[]) (y2 := #[.pointer (some ⟨g2, 0, none⟩)]) FA FC (by decide) FK FV
                  rw [← hu12.out, ← hu13.out] at Z
                  have BZ := bu13
                  go_wp2_with fail
                  go_meet
                  case rel => exact ⟨_, _, g2, kp, kt, kz, kq, gs, gh, gp, g, rfl, rfl, Z.1, Z.2.1, Z.2.2.1, Z.2.2.2, BZ⟩
                exact AllReadyH.nil
              exact AllReadyH.nil
            exact AllReadyH.nil
          refine AllReadyH.cons (o := { dst := some 11, op := Op.alloc 57, type := 0, pos := "merge.go:53", after := #[], guard := none }) rfl (fun KK hKK => ?_) ?_
          · go_simp
            refine hKK.out _ _ (bu9.trans (Below.mono (al_below _ _) bu9.size)) (fun _ => ?_)
            clear hKK KK
            try simp only [Act.put, List.setIfInBounds_toArray, List.set_cons_zero, List.set_cons_succ]
            refine wpAnyH_name (fun u14 hu14 => ?_)
            have bu14 : Below W3.heap.size W3 u14 := by rw [hu14.out]; exact (bu9.trans (Below.mono (al_below _ _) bu9.size))
            have qu14 : Below u9.heap.size u9 u14 := by rw [hu14.out]; exact (al_below _ _)
            try replace FS := StC.kept FS qu14
            try replace FK := KpC.kept FK qu14
            try replace FV := (qu14.cell (World.block_lt_of_cell? _ _ FV)).trans FV
            try replace FA := (qu14.block _ (lt_of_block FA)).trans FA
            try replace FC := (qu14.block _ (lt_of_block FC)).trans FC
            try replace LA := Nat.lt_of_lt_of_le LA qu14.size
            try replace LC := Nat.lt_of_lt_of_le LC qu14.size
            have FC : u14.heap[u9.heap.size]? = some (.cells #[.nilFunc] 57 (0, 0)) := by rw [hu14.out]; exact heap_alloc_new _ _
            have LC : W3.heap.size ≤ u9.heap.size := bu9.size
            refine wpAnyH_ready (rs := [9]) (by kernel_rfl) (by simp) ?_
            refine AllReadyH.cons (o := { dst := some 10, op := Op.alloc 62, type := 0, pos := "merge.go:53", after := #[], guard := none }) rfl (fun KK hKK => ?_) ?_
            · go_simp
              refine hKK.out _ _ (bu14.trans (Below.mono (al_below _ _) bu14.size)) (fun _ => ?_)
              clear hKK KK
              try simp only [Act.put, List.setIfInBounds_toArray, List.set_cons_zero, List.set_cons_succ]
              refine wpAnyH_name (fun u15 hu15 => ?_)
              have bu15 : Below W3.heap.size W3 u15 := by rw [hu15.out]; exact (bu14.trans (Below.mono (al_below _ _) bu14.size))
              have qu15 : Below u14.heap.size u14 u15 := by rw [hu15.out]; exact (al_below _ _)
              try replace FS := StC.kept FS qu15
              try replace FK := KpC.kept FK qu15
              try replace FV := (qu15.cell (World.block_lt_of_cell? _ _ FV)).trans FV
              try replace FA := (qu15.block _ (lt_of_block FA)).trans FA
              try replace FC := (qu15.block _ (lt_of_block FC)).trans FC
              try replace LA := Nat.lt_of_lt_of_le LA qu15.size
              try replace LC := Nat.lt_of_lt_of_le LC qu15.size
              have FA : u15.heap[u14.heap.size]? = some (.cells #[.nilFunc] 62 (0, 0)) := by rw [hu15.out]; exact heap_alloc_new _ _
              have LA : W3.heap.size ≤ u14.heap.size := bu14.size
              refine wpAnyH_ready (rs := [11]) (by kernel_rfl) (by simp) ?_
              refine AllReadyH.cons (o := { dst := none, op := Op.store 62 (Operand.tmp 10) (Operand.tmp 32), type := 0, pos := "merge.go:53", after := #[{ on := 9, ground := Ground.data }, { on := 6, ground := Ground.data }, { on := 8, ground := Ground.chain }, { on := 0, ground := Ground.phase }, { on := 1, ground := Ground.phase }, { on := 2, ground := Ground.phase }, { on := 3, ground := Ground.phase }, { on := 4, ground := Ground.phase }, { on := 5, ground := Ground.phase }, { on := 6, ground := Ground.phase }, { on := 7, ground := Ground.textOnly Departure.lateStores }, { on := 8, ground := Ground.textOnly Departure.lateStoresUnsure }, { on := 9, ground := Ground.phase }, { on := 10, ground := Ground.phase }], guard := none }) rfl (fun KK hKK => ?_) ?_
              · have fcu16 : u15.cell? ⟨u14.heap.size, 0, none⟩ = some .nilFunc := by simp [World.cell?, FA]
                have fzu16 : u15.frozen? ⟨u14.heap.size, 0, none⟩ = false := by simp [World.frozen?, FA]
                go_simp
                refine hKK.out _ _ (bu15.setCell LA _) (fun _ => ?_)
                clear hKK KK
                try simp only [Act.put]
                refine wpAnyH_name (fun u16 hu16 => ?_)
                have bu16 : Below W3.heap.size W3 u16 := by rw [hu16.out]; exact (bu15.setCell LA _)
                have FC2 : u16.heap[u9.heap.size]? = some (.cells #[.nilFunc] 57 (0, 0)) := by rw [hu16.out, Below.heap_setCell _ _ _ _ (fun e => by rw [e, FA] at FC; cases FC)]; exact FC
                refine wpAnyH_ready (rs := [12]) (by kernel_rfl) (by simp) ?_
                refine AllReadyH.cons (o := { dst := none, op := Op.store 57 (Operand.tmp 11) (Operand.tmp 34), type := 0, pos := "merge.go:53", after := #[{ on := 10, ground := Ground.data }, { on := 8, ground := Ground.data }, { on := 11, ground := Ground.chain }, { on := 0, ground := Ground.phase }, { on := 1, ground := Ground.phase }, { on := 2, ground := Ground.phase }, { on := 3, ground := Ground.phase }, { on := 4, ground := Ground.phase }, { on := 5, ground := Ground.phase }, { on := 6, ground := Ground.phase }, { on := 7, ground := Ground.phase }, { on := 8, ground := Ground.phase }, { on := 9, ground := Ground.phase }, { on := 10, ground := Ground.phase }, { on := 11, ground := Ground.phase }], guard := none }) rfl (fun KK hKK => ?_) ?_
                · have fcu17 : u16.cell? ⟨u9.heap.size, 0, none⟩ = some .nilFunc := by simp [World.cell?, FC2]
                  have fzu17 : u16.frozen? ⟨u9.heap.size, 0, none⟩ = false := by simp [World.frozen?, FC2]
                  go_simp
                  refine hKK.out _ _ (bu16.setCell LC _) (fun _ => ?_)
                  clear hKK KK
                  try simp only [Act.put]
                  refine wpAnyH_name (fun u17 hu17 => ?_)
                  have bu17 : Below W3.heap.size W3 u17 := by rw [hu17.out]; exact (bu16.setCell LC _)
                  refine wpAnyH_done (by kernel_rfl) ?_ _
                  have Z := vars_fin (F1 := .func 55) (x1 := #[]) (y1 := #[.pointer (some ⟨kp, 0, none⟩), .pointer (some ⟨kt, 0, none⟩), .pointer (some ⟨kz, 0, none⟩), .pointer (some ⟨kq, 0, none⟩)]) (F2 := .func 64) (x2 := #[]) (y2 := #[.pointer (some ⟨g2, 0, none⟩)]) FA FC (by decide) FK FV
                  rw [← hu16.out, ← hu17.out] at Z
                  have BZ := bu17
                  go_wp2_with fail
                  go_meet
                  case rel => exact ⟨_, _, g2, kp, kt, kz, kq, gs, gh, gp, g, rfl, rfl, Z.1, Z.2.1, Z.2.2.1, Z.2.2.2, BZ⟩
                exact AllReadyH.nil
              exact AllReadyH.nil
            exact AllReadyH.nil
          exact AllReadyH.nil
        refine AllReadyH.cons (o := { dst := some 10, op := Op.alloc 62, type := 0, pos := "merge.go:53", after := #[], guard := none }) rfl (fun KK hKK => ?_) ?_
        · go_simp
          refine hKK.out _ _ (bu8.trans (Below.mono (al_below _ _) bu8.size)) (fun _ => ?_)
          clear hKK KK
          try simp only [Act.put, List.setIfInBounds_toArray, List.set_cons_zero, List.set_cons_succ]
          refine wpAnyH_name (fun u18 hu18 => ?_)
          have bu18 : Below W3.heap.size W3 u18 := by rw [hu18.out]; exact (bu8.trans (Below.mono (al_below _ _) bu8.size))
          have qu18 : Below u8.heap.size u8 u18 := by rw [hu18.out]; exact (al_below _ _)
          try replace FS := StC.kept FS qu18
          try replace FK := KpC.kept FK qu18
          try replace FV := (qu18.cell (World.block_lt_of_cell? _ _ FV)).trans FV
          try replace FA := (qu18.block _ (lt_of_block FA)).trans FA
          try replace FC := (qu18.block _ (lt_of_block FC)).trans FC
          try replace LA := Nat.lt_of_lt_of_le LA qu18.size
          try replace LC := Nat.lt_of_lt_of_le LC qu18.size
          have FA : u18.heap[u8.heap.size]? = some (.cells #[.nilFunc] 62 (0, 0)) := by rw [hu18.out]; exact heap_alloc_new _ _
          have LA : W3.heap.size ≤ u8.heap.size := bu8.size
          refine wpAnyH_ready (rs := [8, 10]) (by kernel_rfl) (by simp) ?_
          refine AllReadyH.cons (o := { dst := some 34, op := Op.call { callee := Callee.value (Operand.func 31), args := #[Operand.tmp 33], argTypes := #[22] }, type := 57, pos := "merge.go:53", after := #[{ on := 7, ground := Ground.data }, { on := 6, ground := Ground.chain }], guard := none }) rfl (fun KK hKK => ?_) ?_
          · go_simp
            refine (HHA.out _ (FB0.out _ bu18)).mono ?_
            rintro e u19' ⟨g2, rfl, hu19', bu19'⟩
            (try go_wp2_with fail)
            refine hKK.out _ _ (bu18.trans (Below.mono (bu19') bu18.size)) (fun _ => ?_)
            clear hKK KK
            try simp only [Act.put, List.setIfInBounds_toArray, List.set_cons_zero, List.set_cons_succ]
            refine wpAnyH_name (fun u19 hu19 => ?_)
            have bu19 : Below W3.heap.size W3 u19 := by rw [hu19.out]; exact (bu18.trans (Below.mono (bu19') bu18.size))
            have qu19 : Below u18.heap.size u18 u19 := by rw [hu19.out]; exact (bu19')
            try replace FS := StC.kept FS qu19
            try replace FK := KpC.kept FK qu19
            try replace FV := (qu19.cell (World.block_lt_of_cell? _ _ FV)).trans FV
            try replace FA := (qu19.block _ (lt_of_block FA)).trans FA
            try replace FC := (qu19.block _ (lt_of_block FC)).trans FC
            try replace LA := Nat.lt_of_lt_of_le LA qu19.size
            try replace LC := Nat.lt_of_lt_of_le LC qu19.size
            have FV : u19.cell? ⟨g2, 0, none⟩ = some (.slice a2 nd c2) := by rw [hu19.out]; exact hu19'
            refine wpAnyH_ready (rs := [10]) (by kernel_rfl) (by simp) ?_
            refine AllReadyH.cons (o := { dst := some 11, op := Op.alloc 57, type := 0, pos := "merge.go:53", after := #[], guard := none }) rfl (fun KK hKK => ?_) ?_
            · go_simp
              refine hKK.out _ _ (bu19.trans (Below.mono (al_below _ _) bu19.size)) (fun _ => ?_)
              clear hKK KK
              try simp only [Act.put, List.setIfInBounds_toArray, List.set_cons_zero, List.set_cons_succ]
              refine wpAnyH_name (fun u20 hu20 => ?_)
              have bu20 : Below W3.heap.size W3 u20 := by rw [hu20.out]; exact (bu19.trans (Below.mono (al_below _ _) bu19.size))
              have qu20 : Below u19.heap.size u19 u20 := by rw [hu20.out]; exact (al_below _ _)
              try replace FS := StC.kept FS qu20
              try replace FK := KpC.kept FK qu20
              try replace FV := (qu20.cell (World.block_lt_of_cell? _ _ FV)).trans FV
              try replace FA := (qu20.block _ (lt_of_block FA)).trans FA
              try replace FC := (qu20.block _ (lt_of_block FC)).trans FC
              try replace LA := Nat.lt_of_lt_of_le LA qu20.size
              try replace LC := Nat.lt_of_lt_of_le LC qu20.size
              have FC : u20.heap[u19.heap.size]? = some (.cells #[.nilFunc] 57 (0, 0)) := by rw [hu20.out]; exact heap_alloc_new _ _
              have LC : W3.heap.size ≤ u19.heap.size := bu19.size
              refine wpAnyH_ready (rs := [11]) (by kernel_rfl) (by simp) ?_
              refine AllReadyH.cons (o := { dst := none, op := Op.store 62 (Operand.tmp 10) (Operand.tmp 32), type := 0, pos := "merge.go:53", after := #[{ on := 9, ground := Ground.data }, { on := 6, ground := Ground.data }, { on := 8, ground := Ground.chain }, { on := 0, ground := Ground.phase }, { on := 1, ground := Ground.phase }, { on := 2, ground := Ground.phase }, { on := 3, ground := Ground.phase }, { on := 4, ground := Ground.phase }, { on := 5, ground := Ground.phase }, { on := 6, ground := Ground.phase }, { on := 7, ground := Ground.textOnly Departure.lateStores }, { on := 8, ground := Ground.textOnly Departure.lateStoresUnsure }, { on := 9, ground := Ground.phase }, { on := 10, ground := Ground.phase }], guard := none }) rfl (fun KK hKK => ?_) ?_
              · have fcu21 : u20.cell? ⟨u8.heap.size, 0, none⟩ = some .nilFunc := by simp [World.cell?, FA]
                have fzu21 : u20.frozen? ⟨u8.heap.size, 0, none⟩ = false := by simp [World.frozen?, FA]
                go_simp
                refine hKK.out _ _ (bu20.setCell LA _) (fun _ => ?_)
                clear hKK KK
                try simp only [Act.put]
                refine wpAnyH_name (fun u21 hu21 => ?_)
                have bu21 : Below W3.heap.size W3 u21 := by rw [hu21.out]; exact (bu20.setCell LA _)
                have FC2 : u21.heap[u19.heap.size]? = some (.cells #[.nilFunc] 57 (0, 0)) := by rw [hu21.out, Below.heap_setCell _ _ _ _ (fun e => by rw [e, FA] at FC; cases FC)]; exact FC
                refine wpAnyH_ready (rs := [12]) (by kernel_rfl) (by simp) ?_
                refine AllReadyH.cons (o := { dst := none, op := Op.store 57 (Operand.tmp 11) (Operand.tmp 34), type := 0, pos := "merge.go:53", after := #[{ on := 10, ground := Ground.data }, { on := 8, ground := Ground.data }, { on := 11, ground := Ground.chain }, { on := 0, ground := Ground.phase }, { on := 1, ground := Ground.phase }, { on := 2, ground := Ground.phase }, { on := 3, ground := Ground.phase }, { on := 4, ground := Ground.phase }, { on := 5, ground := Ground.phase }, { on := 6, ground := Ground.phase }, { on := 7, ground := Ground.phase }, { on := 8, ground := Ground.phase }, { on := 9, ground := Ground.phase }, { on := 10, ground := Ground.phase }, { on := 11, ground := Ground.phase }], guard := none }) rfl (fun KK hKK => ?_) ?_
                · have fcu22 : u21.cell? ⟨u19.heap.size, 0, none⟩ = some .nilFunc := by simp [World.cell?, FC2]
                  have fzu22 : u21.frozen? ⟨u19.heap.size, 0, none⟩ = false := by simp [World.frozen?, FC2]
                  go_simp
                  refine hKK.out _ _ (bu21.setCell LC _) (fun _ => ?_)
                  clear hKK KK
                  try simp only [Act.put]
                  refine wpAnyH_name (fun u22 hu22 => ?_)
                  have bu22 : Below W3.heap.size W3 u22 := by rw [hu22.out]; exact (bu21.setCell LC _)
                  refine wpAnyH_done (by kernel_rfl) ?_ _
                  have Z := vars_fin (F1 := .func 55) (x1 := #[]) (y1 := #[.pointer (some ⟨kp, 0, none⟩), .pointer (some ⟨kt, 0, none⟩), .pointer (some ⟨kz, 0, none⟩), .pointer (some ⟨kq, 0, none⟩)]) (F2 := .func 64) (x2 := #[]) (y2 := #[.pointer (some ⟨g2, 0, none⟩)]) FA FC (by decide) FK FV
                  rw [← hu21.out, ← hu22.out] at Z
                  have BZ := bu22
                  go_wp2_with fail
                  go_meet
                  case rel => exact ⟨_, _, g2, kp, kt, kz, kq, gs, gh, gp, g, rfl, rfl, Z.1, Z.2.1, Z.2.2.1, Z.2.2.2, BZ⟩
                exact AllReadyH.nil
              exact AllReadyH.nil
            exact AllReadyH.nil
          refine AllReadyH.cons (o := { dst := some 11, op := Op.alloc 57, type := 0, pos := "merge.go:53", after := #[], guard := none }) rfl (fun KK hKK => ?_) ?_
          · go_simp
            refine hKK.out _ _ (bu18.trans (Below.mono (al_below _ _) bu18.size)) (fun _ => ?_)
            clear hKK KK
            try simp only [Act.put, List.setIfInBounds_toArray, List.set_cons_zero, List.set_cons_succ]
            refine wpAnyH_name (fun u23 hu23 => ?_)
            have bu23 : Below W3.heap.size W3 u23 := by rw [hu23.out]; exact (bu18.trans (Below.mono (al_below _ _) bu18.size))
            have qu23 : Below u18.heap.size u18 u23 := by rw [hu23.out]; exact (al_below _ _)
            try replace FS := StC.kept FS qu23
            try replace FK := KpC.kept FK qu23
            try replace FV := (qu23.cell (World.block_lt_of_cell? _ _ FV)).trans FV
            try replace FA := (qu23.block _ (lt_of_block FA)).trans FA
            try replace FC := (qu23.block _ (lt_of_block FC)).trans FC
            try replace LA := Nat.lt_of_lt_of_le LA qu23.size
            try replace LC := Nat.lt_of_lt_of_le LC qu23.size
            have FC : u23.heap[u18.heap.size]? = some (.cells #[.nilFunc] 57 (0, 0)) := by rw [hu23.out]; exact heap_alloc_new _ _
            have LC : W3.heap.size ≤ u18.heap.size := bu18.size
            refine wpAnyH_ready (rs := [8]) (by kernel_rfl) (by simp) ?_
            refine AllReadyH.cons (o := { dst := some 34, op := Op.call { callee := Callee.value (Operand.func 31), args := #[Operand.tmp 33], argTypes := #[22] }, type := 57, pos := "merge.go:53", after := #[{ on := 7, ground := Ground.data }, { on := 6, ground := Ground.chain }], guard := none }) rfl (fun KK hKK => ?_) ?_
            · go_simp
              refine (HHA.out _ (FB0.out _ bu23)).mono ?_
              rintro e u24' ⟨g2, rfl, hu24', bu24'⟩
              (try go_wp2_with fail)
              refine hKK.out _ _ (bu23.trans (Below.mono (bu24') bu23.size)) (fun _ => ?_)
              clear hKK KK
              try simp only [Act.put, List.setIfInBounds_toArray, List.set_cons_zero, List.set_cons_succ]
              refine wpAnyH_name (fun u24 hu24 => ?_)
              have bu24 : Below W3.heap.size W3 u24 := by rw [hu24.out]; exact (bu23.trans (Below.mono (bu24') bu23.size))
              have qu24 : Below u23.heap.size u23 u24 := by rw [hu24.out]; exact (bu24')
              try replace FS := StC.kept FS qu24
              try replace FK := KpC.kept FK qu24
              try replace FV := (qu24.cell (World.block_lt_of_cell? _ _ FV)).trans FV
              try replace FA := (qu24.block _ (lt_of_block FA)).trans FA
              try replace FC := (qu24.block _ (lt_of_block FC)).trans FC
              try replace LA := Nat.lt_of_lt_of_le LA qu24.size
              try replace LC := Nat.lt_of_lt_of_le LC qu24.size
              have FV : u24.cell? ⟨g2, 0, none⟩ = some (.slice a2 nd c2) := by rw [hu24.out]; exact hu24'
              refine wpAnyH_ready (rs := [11]) (by kernel_rfl) (by simp) ?_
              refine AllReadyH.cons (o := { dst := none, op := Op.store 62 (Operand.tmp 10) (Operand.tmp 32), type := 0, pos := "merge.go:53", after := #[{ on := 9, ground := Ground.data }, { on := 6, ground := Ground.data }, { on := 8, ground := Ground.chain }, { on := 0, ground := Ground.phase }, { on := 1, ground := Ground.phase }, { on := 2, ground := Ground.phase }, { on := 3, ground := Ground.phase }, { on := 4, ground := Ground.phase }, { on := 5, ground := Ground.phase }, { on := 6, ground := Ground.phase }, { on := 7, ground := Ground.textOnly Departure.lateStores }, { on := 8, ground := Ground.textOnly Departure.lateStoresUnsure }, { on := 9, ground := Ground.phase }, { on := 10, ground := Ground.phase }], guard := none }) rfl (fun KK hKK => ?_) ?_
              · have fcu25 : u24.cell? ⟨u8.heap.size, 0, none⟩ = some .nilFunc := by simp [World.cell?, FA]
                have fzu25 : u24.frozen? ⟨u8.heap.size, 0, none⟩ = false := by simp [World.frozen?, FA]
                go_simp
                refine hKK.out _ _ (bu24.setCell LA _) (fun _ => ?_)
                clear hKK KK
                try simp only [Act.put]
                refine wpAnyH_name (fun u25 hu25 => ?_)
                have bu25 : Below W3.heap.size W3 u25 := by rw [hu25.out]; exact (bu24.setCell LA _)
                have FC2 : u25.heap[u18.heap.size]? = some (.cells #[.nilFunc] 57 (0, 0)) := by rw [hu25.out, Below.heap_setCell _ _ _ _ (fun e => by rw [e, FA] at FC; cases FC)]; exact FC
                refine wpAnyH_ready (rs := [12]) (by kernel_rfl) (by simp) ?_
                refine AllReadyH.cons (o := { dst := none, op := Op.store 57 (Operand.tmp 11) (Operand.tmp 34), type := 0, pos := "merge.go:53", after := #[{ on := 10, ground := Ground.data }, { on := 8, ground := Ground.data }, { on := 11, ground := Ground.chain }, { on := 0, ground := Ground.phase }, { on := 1, ground := Ground.phase }, { on := 2, ground := Ground.phase }, { on := 3, ground := Ground.phase }, { on := 4, ground := Ground.phase }, { on := 5, ground := Ground.phase }, { on := 6, ground := Ground.phase }, { on := 7, ground := Ground.phase }, { on := 8, ground := Ground.phase }, { on := 9, ground := Ground.phase }, { on := 10, ground := Ground.phase }, { on := 11, ground := Ground.phase }], guard := none }) rfl (fun KK hKK => ?_) ?_
                · have fcu26 : u25.cell? ⟨u18.heap.size, 0, none⟩ = some .nilFunc := by simp [World.cell?, FC2]
                  have fzu26 : u25.frozen? ⟨u18.heap.size, 0, none⟩ = false := by simp [World.frozen?, FC2]
                  go_simp
                  refine hKK.out _ _ (bu25.setCell LC _) (fun _ => ?_)
                  clear hKK KK
                  try simp only [Act.put]
                  refine wpAnyH_name (fun u26 hu26 => ?_)
                  have bu26 : Below W3.heap.size W3 u26 := by rw [hu26.out]; exact (bu25.setCell LC _)
                  refine wpAnyH_done (by kernel_rfl) ?_ _
                  have Z := vars_fin (F1 := .func 55) (x1 := #[]) (y1 := #[.pointer (some ⟨kp, 0, none⟩), .pointer (some ⟨kt, 0, none⟩), .pointer (some ⟨kz, 0, none⟩), .pointer (some ⟨kq, 0, none⟩)]) (F2 := .func 64) (x2 := #[]) (y2 := #[.pointer (some ⟨g2, 0, none⟩)]) FA FC (by decide) FK FV
                  rw [← hu25.out, ← hu26.out] at Z
                  have BZ := bu26
                  go_wp2_with fail
                  go_meet
                  case rel => exact ⟨_, _, g2, kp, kt, kz, kq, gs, gh, gp, g, rfl, rfl, Z.1, Z.2.1, Z.2.2.1, Z.2.2.2, BZ⟩
                exact AllReadyH.nil
              exact AllReadyH.nil
            exact AllReadyH.nil
          exact AllReadyH.nil
        refine AllReadyH.cons (o := { dst := some 11, op := Op.alloc 57, type := 0, pos := "merge.go:53", after := #[], guard := none }) rfl (fun KK hKK => ?_) ?_
        · go_simp
          refine hKK.out _ _ (bu8.trans (Below.mono (al_below _ _) bu8.size)) (fun _ => ?_)
          clear hKK KK
          try simp only [Act.put, List.setIfInBounds_toArray, List.set_cons_zero, List.set_cons_succ]
          refine wpAnyH_name (fun u27 hu27 => ?_)
          have bu27 : Below W3.heap.size W3 u27 := by rw [hu27.out]; exact (bu8.trans (Below.mono (al_below _ _) bu8.size))
          have qu27 : Below u8.heap.size u8 u27 := by rw [hu27.out]; exact (al_below _ _)
          try replace FS := StC.kept FS qu27
          try replace FK := KpC.kept FK qu27
          try replace FV := (qu27.cell (World.block_lt_of_cell? _ _ FV)).trans FV
          try replace FA := (qu27.block _ (lt_of_block FA)).trans FA
          try replace FC := (qu27.block _ (lt_of_block FC)).trans FC
          try replace LA := Nat.lt_of_lt_of_le LA qu27.size
          try replace LC := Nat.lt_of_lt_of_le LC qu27.size
          have FC : u27.heap[u8.heap.size]? = some (.cells #[.nilFunc] 57 (0, 0)) := by rw [hu27.out]; exact heap_alloc_new _ _
          have LC : W3.heap.size ≤ u8.heap.size := bu8.size
          refine wpAnyH_ready (rs := [8, 9]) (by kernel_rfl) (by simp) ?_
          refine AllReadyH.cons (o := { dst := some 34, op := Op.call { callee := Callee.value (Operand.func 31), args := #[Operand.tmp 33], argTypes := #[22] }, type := 57, pos := "merge.go:53", after := #[{ on := 7, ground := Ground.data }, { on := 6, ground := Ground.chain }], guard := none }) rfl (fun KK hKK => ?_) ?_
          · go_simp
            refine (HHA.out _ (FB0.out _ bu27)).mono ?_
            rintro e u28' ⟨g2, rfl, hu28', bu28'⟩
            (try go_wp2_with fail)
            refine hKK.out _ _ (bu27.trans (Below.mono (bu28') bu27.size)) (fun _ => ?_)
            clear hKK KK
            try simp only [Act.put, List.setIfInBounds_toArray, List.set_cons_zero, List.set_cons_succ]
            refine wpAnyH_name (fun u28 hu28 => ?_)
            have bu28 : Below W3.heap.size W3 u28 := by rw [hu28.out]; exact (bu27.trans (Below.mono (bu28') bu27.size))
            have qu28 : Below u27.heap.size u27 u28 := by rw [hu28.out]; exact (bu28')
            try replace FS := StC.kept FS qu28
            try replace FK := KpC.kept FK qu28
            try replace FV := (qu28.cell (World.block_lt_of_cell? _ _ FV)).trans FV
            try replace FA := (qu28.block _ (lt_of_block FA)).trans FA
            try replace FC := (qu28.block _ (lt_of_block FC)).trans FC
            try replace LA := Nat.lt_of_lt_of_le LA qu28.size
            try replace LC := Nat.lt_of_lt_of_le LC qu28.size
            have FV : u28.cell? ⟨g2, 0, none⟩ = some (.slice a2 nd c2) := by rw [hu28.out]; exact hu28'
            refine wpAnyH_ready (rs := [9]) (by kernel_rfl) (by simp) ?_
            refine AllReadyH.cons (o := { dst := some 10, op := Op.alloc 62, type := 0, pos := "merge.go:53", after := #[], guard := none }) rfl (fun KK hKK => ?_) ?_
            · go_simp
              refine hKK.out _ _ (bu28.trans (Below.mono (al_below _ _) bu28.size)) (fun _ => ?_)
              clear hKK KK
              try simp only [Act.put, List.setIfInBounds_toArray, List.set_cons_zero, List.set_cons_succ]
              refine wpAnyH_name (fun u29 hu29 => ?_)
              have bu29 : Below W3.heap.size W3 u29 := by rw [hu29.out]; exact (bu28.trans (Below.mono (al_below _ _) bu28.size))
              have qu29 : Below u28.heap.size u28 u29 := by rw [hu29.out]; exact (al_below _ _)
              try replace FS := StC.kept FS qu29
              try replace FK := KpC.kept FK qu29
              try replace FV := (qu29.cell (World.block_lt_of_cell? _ _ FV)).trans FV
              try replace FA := (qu29.block _ (lt_of_block FA)).trans FA
              try replace FC := (qu29.block _ (lt_of_block FC)).trans FC
              try replace LA := Nat.lt_of_lt_of_le LA qu29.size
              try replace LC := Nat.lt_of_lt_of_le LC qu29.size
              have FA : u29.heap[u28.heap.size]? = some (.cells #[.nilFunc] 62 (0, 0)) := by rw [hu29.out]; exact heap_alloc_new _ _
              have LA : W3.heap.size ≤ u28.heap.size := bu28.size
              refine wpAnyH_ready (rs := [11]) (by kernel_rfl) (by simp) ?_
              refine AllReadyH.cons (o := { dst := none, op := Op.store 62 (Operand.tmp 10) (Operand.tmp 32), type := 0, pos := "merge.go:53", after := #[{ on := 9, ground := Ground.data }, { on := 6, ground := Ground.data }, { on := 8, ground := Ground.chain }, { on := 0, ground := Ground.phase }, { on := 1, ground := Ground.phase }, { on := 2, ground := Ground.phase }, { on := 3, ground := Ground.phase }, { on := 4, ground := Ground.phase }, { on := 5, ground := Ground.phase }, { on := 6, ground := Ground.phase }, { on := 7, ground := Ground.textOnly Departure.lateStores }, { on := 8, ground := Ground.textOnly Departure.lateStoresUnsure }, { on := 9, ground := Ground.phase }, { on := 10, ground := Ground.phase }], guard := none }) rfl (fun KK hKK => ?_) ?_
              · have fcu30 : u29.cell? ⟨u28.heap.size, 0, none⟩ = some .nilFunc := by simp [World.cell?, FA]
                have fzu30 : u29.frozen? ⟨u28.heap.size, 0, none⟩ = false := by simp [World.frozen?, FA]
                go_simp
                refine hKK.out _ _ (bu29.setCell LA _) (fun _ => ?_)
                clear hKK KK
                try simp only [Act.put]
                refine wpAnyH_name (fun u30 hu30 => ?_)
                have bu30 : Below W3.heap.size W3 u30 := by rw [hu30.out]; exact (bu29.setCell LA _)
                have FC2 : u30.heap[u8.heap.size]? = some (.cells #[.nilFunc] 57 (0, 0)) := by rw [hu30.out, Below.heap_setCell _ _ _ _ (fun e => by rw [e, FA] at FC; cases FC)]; exact FC
                refine wpAnyH_ready (rs := [12]) (by kernel_rfl) (by simp) ?_
                refine AllReadyH.cons (o := { dst := none, op := Op.store 57 (Operand.tmp 11) (Operand.tmp 34), type := 0, pos := "merge.go:53", after := #[{ on := 10, ground := Ground.data }, { on := 8, ground := Ground.data }, { on := 11, ground := Ground.chain }, { on := 0, ground := Ground.phase }, { on := 1, ground := Ground.phase }, { on := 2, ground := Ground.phase }, { on := 3, ground := Ground.phase }, { on := 4, ground := Ground.phase }, { on := 5, ground := Ground.phase }, { on := 6, ground := Ground.phase }, { on := 7, ground := Ground.phase }, { on := 8, ground := Ground.phase }, { on := 9, ground := Ground.phase }, { on := 10, ground := Ground.phase }, { on := 11, ground := Ground.phase }], guard := none }) rfl (fun KK hKK => ?_) ?_
                · have fcu31 : u30.cell? ⟨u8.heap.size, 0, none⟩ = some .nilFunc := by simp [World.cell?, FC2]
                  have fzu31 : u30.frozen? ⟨u8.heap.size, 0, none⟩ = false := by simp [World.frozen?, FC2]
                  go_simp
                  refine hKK.out _ _ (bu30.setCell LC _) (fun _ => ?_)
                  clear hKK KK
                  try simp only [Act.put]
                  refine wpAnyH_name (fun u31 hu31 => ?_)
                  have bu31 : Below W3.heap.size W3 u31 := by rw [hu31.out]; exact (bu30.setCell LC _)
                  refine wpAnyH_done (by kernel_rfl) ?_ _
                  have Z := vars_fin (F1 := .func 55) (x1 := #[]) (y1 := #[.pointer (some ⟨kp, 0, none⟩), .pointer (some ⟨kt, 0, none⟩), .pointer (some ⟨kz, 0, none⟩), .pointer (some ⟨kq, 0, none⟩)]) (F2 := .func 64) (x2 := #[]) (y2 := #[.pointer (some ⟨g2, 0, none⟩)]) FA FC (by decide) FK FV
                  rw [← hu30.out, ← hu31.out] at Z
                  have BZ := bu31
                  go_wp2_with fail
                  go_meet
                  case rel => exact ⟨_, _, g2, kp, kt, kz, kq, gs, gh, gp, g, rfl, rfl, Z.1, Z.2.1, Z.2.2.1, Z.2.2.2, BZ⟩
                exact AllReadyH.nil
              exact AllReadyH.nil
            exact AllReadyH.nil
          refine AllReadyH.cons (o := { dst := some 10, op := Op.alloc 62, type := 0, pos := "merge.go:53", after := #[], guard := none }) rfl (fun KK hKK => ?_) ?_
          · go_simp
            refine hKK.out _ _ (bu27.trans (Below.mono (al_below _ _) bu27.size)) (fun _ => ?_)
            clear hKK KK
            try simp only [Act.put, List.setIfInBounds_toArray, List.set_cons_zero, List.set_cons_succ]
            refine wpAnyH_name (fun u32 hu32 => ?_)
            have bu32 : Below W3.heap.size W3 u32 := by rw [hu32.out]; exact (bu27.trans (Below.mono (al_below _ _) bu27.size))
            have qu32 : Below u27.heap.size u27 u32 := by rw [hu32.out]; exact (al_below _ _)
            try replace FS := StC.kept FS qu32
            try replace FK := KpC.kept FK qu32
            try replace FV := (qu32.cell (World.block_lt_of_cell? _ _ FV)).trans FV
            try replace FA := (qu32.block _ (lt_of_block FA)).trans FA
            try replace FC := (qu32.block _ (lt_of_block FC)).trans FC
            try replace LA := Nat.lt_of_lt_of_le LA qu32.size
            try replace LC := Nat.lt_of_lt_of_le LC qu32.size
            have FA : u32.heap[u27.heap.size]? = some (.cells #[.nilFunc] 62 (0, 0)) := by rw [hu32.out]; exact heap_alloc_new _ _
            have LA : W3.heap.size ≤ u27.heap.size := bu27.size
            refine wpAnyH_ready (rs := [8]) (by kernel_rfl) (by simp) ?_
            refine AllReadyH.cons (o := { dst := some 34, op := Op.call { callee := Callee.value (Operand.func 31), args := #[Operand.tmp 33], argTypes := #[22] }, type := 57, pos := "merge.go:53", after := #[{ on := 7, ground := Ground.data }, { on := 6, ground := Ground.chain }], guard := none }) rfl (fun KK hKK => ?_) ?_
            · go_simp
              refine (HHA.out _ (FB0.out _ bu32)).mono ?_
              rintro e u33' ⟨g2, rfl, hu33', bu33'⟩
              (try go_wp2_with fail)
              refine hKK.out _ _ (bu32.trans (Below.mono (bu33') bu32.size)) (fun _ => ?_)
              clear hKK KK
              try simp only [Act.put, List.setIfInBounds_toArray, List.set_cons_zero, List.set_cons_succ]
              refine wpAnyH_name (fun u33 hu33 => ?_)
              have bu33 : Below W3.heap.size W3 u33 := by rw [hu33.out]; exact (bu32.trans (Below.mono (bu33') bu32.size))
              have qu33 : Below u32.heap.size u32 u33 := by rw [hu33.out]; exact (bu33')
              try replace FS := StC.kept FS qu33
              try replace FK := KpC.kept FK qu33
              try replace FV := (qu33.cell (World.block_lt_of_cell? _ _ FV)).trans FV
              try replace FA := (qu33.block _ (lt_of_block FA)).trans FA
              try replace FC := (qu33.block _ (lt_of_block FC)).trans FC
              try replace LA := Nat.lt_of_lt_of_le LA qu33.size
              try replace LC := Nat.lt_of_lt_of_le LC qu33.size
              have FV : u33.cell? ⟨g2, 0, none⟩ = some (.slice a2 nd c2) := by rw [hu33.out]; exact hu33'
              refine wpAnyH_ready (rs := [11]) (by kernel_rfl) (by simp) ?_
              refine AllReadyH.cons (o := { dst := none, op := Op.store 62 (Operand.tmp 10) (Operand.tmp 32), type := 0, pos := "merge.go:53", after := #[{ on := 9, ground := Ground.data }, { on := 6, ground := Ground.data }, { on := 8, ground := Ground.chain }, { on := 0, ground := Ground.phase }, { on := 1, ground := Ground.phase }, { on := 2, ground := Ground.phase }, { on := 3, ground := Ground.phase }, { on := 4, ground := Ground.phase }, { on := 5, ground := Ground.phase }, { on := 6, ground := Ground.phase }, { on := 7, ground := Ground.textOnly Departure.lateStores }, { on := 8, ground := Ground.textOnly Departure.lateStoresUnsure }, { on := 9, ground := Ground.phase }, { on := 10, ground := Ground.phase }], guard := none }) rfl (fun KK hKK => ?_) ?_
              · have fcu34 : u33.cell? ⟨u27.heap.size, 0, none⟩ = some .nilFunc := by simp [World.cell?, FA]
                have fzu34 : u33.frozen? ⟨u27.heap.size, 0, none⟩ = false := by simp [World.frozen?, FA]
                go_simp
                refine hKK.out _ _ (bu33.setCell LA _) (fun _ => ?_)
                clear hKK KK
                try simp only [Act.put]
                refine wpAnyH_name (fun u34 hu34 => ?_)
                have bu34 : Below W3.heap.size W3 u34 := by rw [hu34.out]; exact (bu33.setCell LA _)
                have FC2 : u34.heap[u8.heap.size]? = some (.cells #[.nilFunc] 57 (0, 0)) := by rw [hu34.out, Below.heap_setCell _ _ _ _ (fun e => by rw [e, FA] at FC; cases FC)]; exact FC
                refine wpAnyH_ready (rs := [12]) (by kernel_rfl) (by simp) ?_
                refine AllReadyH.cons (o := { dst := none, op := Op.store 57 (Operand.tmp 11) (Operand.tmp 34), type := 0, pos := "merge.go:53", after := #[{ on := 10, ground := Ground.data }, { on := 8, ground := Ground.data }, { on := 11, ground := Ground.chain }, { on := 0, ground := Ground.phase }, { on := 1, ground := Ground.phase }, { on := 2, ground := Ground.phase }, { on := 3, ground := Ground.phase }, { on := 4, ground := Ground.phase }, { on := 5, ground := Ground.phase }, { on := 6, ground := Ground.phase }, { on := 7, ground := Ground.phase }, { on := 8, ground := Ground.phase }, { on := 9, ground := Ground.phase }, { on := 10, ground := Ground.phase }, { on := 11, ground := Ground.phase }], guard := none }) rfl (fun KK hKK => ?_) ?_
                · have fcu35 : u34.cell? ⟨u8.heap.size, 0, none⟩ = some .nilFunc := by simp [World.cell?, FC2]
                  have fzu35 : u34.frozen? ⟨u8.heap.size, 0, none⟩ = false := by simp [World.frozen?, FC2]
                  go_simp
                  refine hKK.out _ _ (bu34.setCell LC _) (fun _ => ?_)
                  clear hKK KK
                  try simp only [Act.put]
                  refine wpAnyH_name (fun u35 hu35 => ?_)
                  have bu35 : Below W3.heap.size W3 u35 := by rw [hu35.out]; exact (bu34.setCell LC _)
                  refine wpAnyH_done (by kernel_rfl) ?_ _
                  have Z := vars_fin (F1 := .func 55) (x1 := #[]) (y1 := #[.pointer (some ⟨kp, 0, none⟩), .pointer (some ⟨kt, 0, none⟩), .pointer (some ⟨kz, 0, none⟩), .pointer (some ⟨kq, 0, none⟩)]) (F2 := .func 64) (x2 := #[]) (y2 := #[.pointer (some ⟨g2, 0, none⟩)]) FA FC (by decide) FK FV
                  rw [← hu34.out, ← hu35.out] at Z
                  have BZ := bu35
                  go_wp2_with fail
                  go_meet
                  case rel => exact ⟨_, _, g2, kp, kt, kz, kq, gs, gh, gp, g, rfl, rfl, Z.1, Z.2.1, Z.2.2.1, Z.2.2.2, BZ⟩
                exact AllReadyH.nil
              exact AllReadyH.nil
            exact AllReadyH.nil
          exact AllReadyH.nil
        exact AllReadyH.nil
      refine AllReadyH.cons (o := { dst := some 10, op := Op.alloc 62, type := 0, pos := "merge.go:53", after := #[], guard := none }) rfl (fun KK hKK => ?_) ?_
      · go_simp
        refine hKK.out _ _ (bu7.trans (Below.mono (al_below _ _) bu7.size)) (fun _ => ?_)
        clear hKK KK
        try simp only [Act.put, List.setIfInBounds_toArray, List.set_cons_zero, List.set_cons_succ]
        refine wpAnyH_name (fun u36 hu36 => ?_)
        have bu36 : Below W3.heap.size W3 u36 := by rw [hu36.out]; exact (bu7.trans (Below.mono (al_below _ _) bu7.size))
        have qu36 : Below u7.heap.size u7 u36 := by rw [hu36.out]; exact (al_below _ _)
        try replace FS := StC.kept FS qu36
        try replace FK := KpC.kept FK qu36
        try replace FV := (qu36.cell (World.block_lt_of_cell? _ _ FV)).trans FV
        try replace FA := (qu36.block _ (lt_of_block FA)).trans FA
        try replace FC := (qu36.block _ (lt_of_block FC)).trans FC
        try replace LA := Nat.lt_of_lt_of_le LA qu36.size
        try replace LC := Nat.lt_of_lt_of_le LC qu36.size
        have FA : u36.heap[u7.heap.size]? = some (.cells #[.nilFunc] 62 (0, 0)) := by rw [hu36.out]; exact heap_alloc_new _ _
        have LA : W3.heap.size ≤ u7.heap.size := bu7.size
        refine wpAnyH_ready (rs := [6, 10]) (by kernel_rfl) (by simp) ?_
        refine AllReadyH.cons (o := { dst := some 32, op := Op.call { callee := Callee.value (Operand.func 24), args := #[Operand.tmp 26, Operand.tmp 27, Operand.tmp 28, Operand.tmp 31], argTypes := #[22, 22, 24, 57] }, type := 62, pos := "merge.go:53", after := #[{ on := 0, ground := Ground.data }, { on := 1, ground := Ground.data }, { on := 2, ground := Ground.data }, { on := 5, ground := Ground.data }, { on := 5, ground := Ground.chain }], guard := none }) rfl (fun KK hKK => ?_) ?_
        · go_simp
          refine (HKE.out _ gs gh gp g (FB0.out _ bu36) FS).mono ?_
          rintro e u37' ⟨kp, kt, kz, kq, rfl, kcu37, bu37'⟩
          (try go_wp2_with fail)
          refine hKK.out _ _ (bu36.trans (Below.mono (bu37') bu36.size)) (fun _ => ?_)
          clear hKK KK
          try simp only [Act.put, List.setIfInBounds_toArray, List.set_cons_zero, List.set_cons_succ]
          refine wpAnyH_name (fun u37 hu37 => ?_)
          have bu37 : Below W3.heap.size W3 u37 := by rw [hu37.out]; exact (bu36.trans (Below.mono (bu37') bu36.size))
          have qu37 : Below u36.heap.size u36 u37 := by rw [hu37.out]; exact (bu37')
          try replace FS := StC.kept FS qu37
          try replace FK := KpC.kept FK qu37
          try replace FV := (qu37.cell (World.block_lt_of_cell? _ _ FV)).trans FV
          try replace FA := (qu37.block _ (lt_of_block FA)).trans FA
          try replace FC := (qu37.block _ (lt_of_block FC)).trans FC
          try replace LA := Nat.lt_of_lt_of_le LA qu37.size
          try replace LC := Nat.lt_of_lt_of_le LC qu37.size
          have FK : KpC u37 kp kt kz kq gs gh gp g (.slice a ns c) (.slice a2 nd c2) P := by rw [hu37.out]; exact kcu37
          refine wpAnyH_ready (rs := [8, 10]) (by kernel_rfl) (by simp) ?_
          refine AllReadyH.cons (o := { dst := some 34, op := Op.call { callee := Callee.value (Operand.func 31), args := #[Operand.tmp 33], argTypes := #[22] }, type := 57, pos := "merge.go:53", after := #[{ on := 7, ground := Ground.data }, { on := 6, ground := Ground.chain }], guard := none }) rfl (fun KK hKK => ?_) ?_
          · go_simp
            refine (HHA.out _ (FB0.out _ bu37)).mono ?_
            rintro e u38' ⟨g2, rfl, hu38', bu38'⟩
            (try go_wp2_with fail)
            refine hKK.out _ _ (bu37.trans (Below.mono (bu38') bu37.size)) (fun _ => ?_)
            clear hKK KK
            try simp only [Act.put, List.setIfInBounds_toArray, List.set_cons_zero, List.set_cons_succ]
            refine wpAnyH_name (fun u38 hu38 => ?_)
            have bu38 : Below W3.heap.size W3 u38 := by rw [hu38.out]; exact (bu37.trans (Below.mono (bu38') bu37.size))
            have qu38 : Below u37.heap.size u37 u38 := by rw [hu38.out]; exact (bu38')
            try replace FS := StC.kept FS qu38
            try replace FK := KpC.kept FK qu38
            try replace FV := (qu38.cell (World.block_lt_of_cell? _ _ FV)).trans FV
            try replace FA := (qu38.block _ (lt_of_block FA)).trans FA
            try replace FC := (qu38.block _ (lt_of_block FC)).trans FC
            try replace LA := Nat.lt_of_lt_of_le LA qu38.size
            try replace LC := Nat.lt_of_lt_of_le LC qu38.size
            have FV : u38.cell? ⟨g2, 0, none⟩ = some (.slice a2 nd c2) := by rw [hu38.out]; exact hu38'
            refine wpAnyH_ready (rs := [10]) (by kernel_rfl) (by simp) ?_
            refine AllReadyH.cons (o := { dst := some 11, op := Op.alloc 57, type := 0, pos := "merge.go:53", after := #[], guard := none }) rfl (fun KK hKK => ?_) ?_
            · go_simp
              refine hKK.out _ _ (bu38.trans (Below.mono (al_below _ _) bu38.size)) (fun _ => ?_)
              clear hKK KK
              try simp only [Act.put, List.setIfInBounds_toArray, List.set_cons_zero, List.set_cons_succ]
              refine wpAnyH_name (fun u39 hu39 => ?_)
              have bu39 : Below W3.heap.size W3 u39 := by rw [hu39.out]; exact (bu38.trans (Below.mono (al_below _ _) bu38.size))
              have qu39 : Below u38.heap.size u38 u39 := by rw [hu39.out]; exact (al_below _ _)
              try replace FS := StC.kept FS qu39
              try replace FK := KpC.kept FK qu39
              try replace FV := (qu39.cell (World.block_lt_of_cell? _ _ FV)).trans FV
              try replace FA := (qu39.block _ (lt_of_block FA)).trans FA
              try replace FC := (qu39.block _ (lt_of_block FC)).trans FC
              try replace LA := Nat.lt_of_lt_of_le LA qu39.size
              try replace LC := Nat.lt_of_lt_of_le LC qu39.size
              have FC : u39.heap[u38.heap.size]? = some (.cells #[.nilFunc] 57 (0, 0)) := by rw [hu39.out]; exact heap_alloc_new _ _
              have LC : W3.heap.size ≤ u38.heap.size := bu38.size
              refine wpAnyH_ready (rs := [11]) (by kernel_rfl) (by simp) ?_
              refine AllReadyH.cons (o := { dst := none, op := Op.store 62 (Operand.tmp 10) (Operand.tmp 32), type := 0, pos := "merge.go:53", after := #[{ on := 9, ground := Ground.data }, { on := 6, ground := Ground.data }, { on := 8, ground := Ground.chain }, { on := 0, ground := Ground.phase }, { on := 1, ground := Ground.phase }, { on := 2, ground := Ground.phase }, { on := 3, ground := Ground.phase }, { on := 4, ground := Ground.phase }, { on := 5, ground := Ground.phase }, { on := 6, ground := Ground.phase }, { on := 7, ground := Ground.textOnly Departure.lateStores }, { on := 8, ground := Ground.textOnly Departure.lateStoresUnsure }, { on := 9, ground := Ground.phase }, { on := 10, ground := Ground.phase }], guard := none }) rfl (fun KK hKK => ?_) ?_
              · have fcu40 : u39.cell? ⟨u7.heap.size, 0, none⟩ = some .nilFunc := by simp [World.cell?, FA]
                have fzu40 : u39.frozen? ⟨u7.heap.size, 0, none⟩ = false := by simp [World.frozen?, FA]
                go_simp
                refine hKK.out _ _ (bu39.setCell LA _) (fun _ => ?_)
                clear hKK KK
                try simp only [Act.put]
                refine wpAnyH_name (fun u40 hu40 => ?_)
                have bu40 : Below W3.heap.size W3 u40 := by rw [hu40.out]; exact (bu39.setCell LA _)
                have FC2 : u40.heap[u38.heap.size]? = some (.cells #[.nilFunc] 57 (0, 0)) := by rw [hu40.out, Below.heap_setCell _ _ _ _ (fun e => by rw [e, FA] at FC; cases FC)]; exact FC
                refine wpAnyH_ready (rs := [12]) (by kernel_rfl) (by simp) ?_
                refine AllReadyH.cons (o := { dst := none, op := Op.store 57 (Operand.tmp 11) (Operand.tmp 34), type := 0, pos := "merge.go:53", after := #[{ on := 10, ground := Ground.data }, { on := 8, ground := Ground.data }, { on := 11, ground := Ground.chain }, { on := 0, ground := Ground.phase }, { on := 1, ground := Ground.phase }, { on := 2, ground := Ground.phase }, { on := 3, ground := Ground.phase }, { on := 4, ground := Ground.phase }, { on := 5, ground := Ground.phase }, { on := 6, ground := Ground.phase }, { on := 7, ground := Ground.phase }, { on := 8, ground := Ground.phase }, { on := 9, ground := Ground.phase }, { on := 10, ground := Ground.phase }, { on := 11, ground := Ground.phase }], guard := none }) rfl (fun KK hKK => ?_) ?_
                · have fcu41 : u40.cell? ⟨u38.heap.size, 0, none⟩ = some .nilFunc := by simp [World.cell?, FC2]
                  have fzu41 : u40.frozen? ⟨u38.heap.size, 0, none⟩ = false := by simp [World.frozen?, FC2]
                  go_simp
                  refine hKK.out _ _ (bu40.setCell LC _) (fun _ => ?_)
                  clear hKK KK
                  try simp only [Act.put]
                  refine wpAnyH_name (fun u41 hu41 => ?_)
                  have bu41 : Below W3.heap.size W3 u41 := by rw [hu41.out]; exact (bu40.setCell LC _)
                  refine wpAnyH_done (by kernel_rfl) ?_ _
                  have Z := vars_fin (F1 := .func 55) (x1 := #[]) (y1 := #[.pointer (some ⟨kp, 0, none⟩), .pointer (some ⟨kt, 0, none⟩), .pointer (some ⟨kz, 0, none⟩), .pointer (some ⟨kq, 0, none⟩)]) (F2 := .func 64) (x2 := #[]) (y2 := #[.pointer (some ⟨g2, 0, none⟩)]) FA FC (by decide) FK FV
                  rw [← hu40.out, ← hu41.out] at Z
                  have BZ := bu41
                  go_wp2_with fail
                  go_meet
                  case rel => exact ⟨_, _, g2, kp, kt, kz, kq, gs, gh, gp, g, rfl, rfl, Z.1, Z.2.1, Z.2.2.1, Z.2.2.2, BZ⟩
                exact AllReadyH.nil
              exact AllReadyH.nil
            exact AllReadyH.nil
          refine AllReadyH.cons (o := { dst := some 11, op := Op.alloc 57, type := 0, pos := "merge.go:53", after := #[], guard := none }) rfl (fun KK hKK => ?_) ?_
          · go_simp
            refine hKK.out _ _ (bu37.trans (Below.mono (al_below _ _) bu37.size)) (fun _ => ?_)
            clear hKK KK
            try simp only [Act.put, List.setIfInBounds_toArray, List.set_cons_zero, List.set_cons_succ]
            refine wpAnyH_name (fun u42 hu42 => ?_)
            have bu42 : Below W3.heap.size W3 u42 := by rw [hu42.out]; exact (bu37.trans (Below.mono (al_below _ _) bu37.size))
            have qu42 : Below u37.heap.size u37 u42 := by rw [hu42.out]; exact (al_below _ _)
            try replace FS := StC.kept FS qu42
            try replace FK := KpC.kept FK qu42
            try replace FV := (qu42.cell (World.block_lt_of_cell? _ _ FV)).trans FV
            try replace FA := (qu42.block _ (lt_of_block FA)).trans FA
            try replace FC := (qu42.block _ (lt_of_block FC)).trans FC
            try replace LA := Nat.lt_of_lt_of_le LA qu42.size
            try replace LC := Nat.lt_of_lt_of_le LC qu42.size
            have FC : u42.heap[u37.heap.size]? = some (.cells #[.nilFunc] 57 (0, 0)) := by rw [hu42.out]; exact heap_alloc_new _ _
            have LC : W3.heap.size ≤ u37.heap.size := bu37.size
            refine wpAnyH_ready (rs := [8]) (by kernel_rfl) (by simp) ?_
            refine AllReadyH.cons (o := { dst := some 34, op := Op.call { callee := Callee.value (Operand.func 31), args := #[Operand.tmp 33], argTypes := #[22] }, type := 57, pos := "merge.go:53", after := #[{ on := 7, ground := Ground.data }, { on := 6, ground := Ground.chain }], guard := none }) rfl (fun KK hKK => ?_) ?_
            · go_simp
              refine (HHA.out _ (FB0.out _ bu42)).mono ?_
              rintro e u43' ⟨g2, rfl, hu43', bu43'⟩
              (try go_wp2_with fail)
              refine hKK.out _ _ (bu42.trans (Below.mono (bu43') bu42.size)) (fun _ => ?_)
              clear hKK KK
              try simp only [Act.put, List.setIfInBounds_toArray, List.set_cons_zero, List.set_cons_succ]
              refine wpAnyH_name (fun u43 hu43 => ?_)
              have bu43 : Below W3.heap.size W3 u43 := by rw [hu43.out]; exact (bu42.trans (Below.mono (bu43') bu42.size))
              have qu43 : Below u42.heap.size u42 u43 := by rw [hu43.out]; exact (bu43')
              try replace FS := StC.kept FS qu43
              try replace FK := KpC.kept FK qu43
              try replace FV := (qu43.cell (World.block_lt_of_cell? _ _ FV)).trans FV
              try replace FA := (qu43.block _ (lt_of_block FA)).trans FA
              try replace FC := (qu43.block _ (lt_of_block FC)).trans FC
              try replace LA := Nat.lt_of_lt_of_le LA qu43.size
              try replace LC := Nat.lt_of_lt_of_le LC qu43.size
              have FV : u43.cell? ⟨g2, 0, none⟩ = some (.slice a2 nd c2) := by rw [hu43.out]; exact hu43'
              refine wpAnyH_ready (rs := [11]) (by kernel_rfl) (by simp) ?_
              refine AllReadyH.cons (o := { dst := none, op := Op.store 62 (Operand.tmp 10) (Operand.tmp 32), type := 0, pos := "merge.go:53", after := #[{ on := 9, ground := Ground.data }, { on := 6, ground := Ground.data }, { on := 8, ground := Ground.chain }, { on := 0, ground := Ground.phase }, { on := 1, ground := Ground.phase }, { on := 2, ground := Ground.phase }, { on := 3, ground := Ground.phase }, { on := 4, ground := Ground.phase }, { on := 5, ground := Ground.phase }, { on := 6, ground := Ground.phase }, { on := 7, ground := Ground.textOnly Departure.lateStores }, { on := 8, ground := Ground.textOnly Departure.lateStoresUnsure }, { on := 9, ground := Ground.phase }, { on := 10, ground := Ground.phase }], guard := none }) rfl (fun KK hKK => ?_) ?_
              · have fcu44 : u43.cell? ⟨u7.heap.size, 0, none⟩ = some .nilFunc := by simp [World.cell?, FA]
                have fzu44 : u43.frozen? ⟨u7.heap.size, 0, none⟩ = false := by simp [World.frozen?, FA]
                go_simp
                refine hKK.out _ _ (bu43.setCell LA _) (fun _ => ?_)
                clear hKK KK
                try simp only [Act.put]
                refine wpAnyH_name (fun u44 hu44 => ?_)
                have bu44 : Below W3.heap.size W3 u44 := by rw [hu44.out]; exact (bu43.setCell LA _)
                have FC2 : u44.heap[u37.heap.size]? = some (.cells #[.nilFunc] 57 (0, 0)) := by rw [hu44.out, Below.heap_setCell _ _ _ _ (fun e => by rw [e, FA] at FC; cases FC)]; exact FC
                refine wpAnyH_ready (rs := [12]) (by kernel_rfl) (by simp) ?_
                refine AllReadyH.cons (o := { dst := none, op := Op.store 57 (Operand.tmp 11) (Operand.tmp 34), type := 0, pos := "merge.go:53", after := #[{ on := 10, ground := Ground.data }, { on := 8, ground := Ground.data }, { on := 11, ground := Ground.chain }, { on := 0, ground := Ground.phase }, { on := 1, ground := Ground.phase }, { on := 2, ground := Ground.phase }, { on := 3, ground := Ground.phase }, { on := 4, ground := Ground.phase }, { on := 5, ground := Ground.phase }, { on := 6, ground := Ground.phase }, { on := 7, ground := Ground.phase }, { on := 8, ground := Ground.phase }, { on := 9, ground := Ground.phase }, { on := 10, ground := Ground.phase }, { on := 11, ground := Ground.phase }], guard := none }) rfl (fun KK hKK => ?_) ?_
                · have fcu45 : u44.cell? ⟨u37.heap.size, 0, none⟩ = some .nilFunc := by simp [World.cell?, FC2]
                  have fzu45 : u44.frozen? ⟨u37.heap.size, 0, none⟩ = false := by simp [World.frozen?, FC2]
                  go_simp
                  refine hKK.out _ _ (bu44.setCell LC _) (fun _ => ?_)
                  clear hKK KK
                  try simp only [Act.put]
                  refine wpAnyH_name (fun u45 hu45 => ?_)
                  have bu45 : Below W3.heap.size W3 u45 := by rw [hu45.out]; exact (bu44.setCell LC _)
                  refine wpAnyH_done (by kernel_rfl) ?_ _
                  have Z := vars_fin (F1 := .func 55) (x1 := #[]) (y1 := #[.pointer (some ⟨kp, 0, none⟩), .pointer (some ⟨kt, 0, none⟩), .pointer (some ⟨kz, 0, none⟩), .pointer (some ⟨kq, 0, none⟩)]) (F2 := .func 64) (x2 := #[]) (y2 := #[.pointer (some ⟨g2, 0, none⟩)]) FA FC (by decide) FK FV
                  rw [← hu44.out, ← hu45.out] at Z
                  have BZ := bu45
                  go_wp2_with fail
                  go_meet
                  case rel => exact ⟨_, _, g2, kp, kt, kz, kq, gs, gh, gp, g, rfl, rfl, Z.1, Z.2.1, Z.2.2.1, Z.2.2.2, BZ⟩
                exact AllReadyH.nil
              exact AllReadyH.nil
            exact AllReadyH.nil
          exact AllReadyH.nil
        refine AllReadyH.cons (o := { dst := some 11, op := Op.alloc 57, type := 0, pos := "merge.go:53", after := #[], guard := none }) rfl (fun KK hKK => ?_) ?_
        · go_simp
          refine hKK.out _ _ (bu36.trans (Below.mono (al_below _ _) bu36.size)) (fun _ => ?_)
          clear hKK KK
          try simp only [Act.put, List.setIfInBounds_toArray, List.set_cons_zero, List.set_cons_succ]
          refine wpAnyH_name (fun u46 hu46 => ?_)
          have bu46 : Below W3.heap.size W3 u46 := by rw [hu46.out]; exact (bu36.trans (Below.mono (al_below _ _) bu36.size))
          have qu46 : Below u36.heap.size u36 u46 := by rw [hu46.out]; exact (al_below _ _)
          try replace FS := StC.kept FS qu46
          try replace FK := KpC.kept FK qu46
          try replace FV := (qu46.cell (World.block_lt_of_cell? _ _ FV)).trans FV
          try replace FA := (qu46.block _ (lt_of_block FA)).trans FA
          try replace FC := (qu46.block _ (lt_of_block FC)).trans FC
          try replace LA := Nat.lt_of_lt_of_le LA qu46.size
          try replace LC := Nat.lt_of_lt_of_le LC qu46.size
          have FC : u46.heap[u36.heap.size]? = some (.cells #[.nilFunc] 57 (0, 0)) := by rw [hu46.out]; exact heap_alloc_new _ _
          have LC : W3.heap.size ≤ u36.heap.size := bu36.size
          refine wpAnyH_ready (rs := [6]) (by kernel_rfl) (by simp) ?_
          refine AllReadyH.cons (o := { dst := some 32, op := Op.call { callee := Callee.value (Operand.func 24), args := #[Operand.tmp 26, Operand.tmp 27, Operand.tmp 28, Operand.tmp 31], argTypes := #[22, 22, 24, 57] }, type := 62, pos := "merge.go:53", after := #[{ on := 0, ground := Ground.data }, { on := 1, ground := Ground.data }, { on := 2, ground := Ground.data }, { on := 5, ground := Ground.data }, { on := 5, ground := Ground.chain }], guard := none }) rfl (fun KK hKK => ?_) ?_
          · go_simp
            refine (HKE.out _ gs gh gp g (FB0.out _ bu46) FS).mono ?_
            rintro e u47' ⟨kp, kt, kz, kq, rfl, kcu47, bu47'⟩
            (try go_wp2_with fail)
            refine hKK.out _ _ (bu46.trans (Below.mono (bu47') bu46.size)) (fun _ => ?_)
            clear hKK KK
            try simp only [Act.put, List.setIfInBounds_toArray, List.set_cons_zero, List.set_cons_succ]
            refine wpAnyH_name (fun u47 hu47 => ?_)
            have bu47 : Below W3.heap.size W3 u47 := by rw [hu47.out]; exact (bu46.trans (Below.mono (bu47') bu46.size))
            have qu47 : Below u46.heap.size u46 u47 := by rw [hu47.out]; exact (bu47')
            try replace FS := StC.kept FS qu47
            try replace FK := KpC.kept FK qu47
            try replace FV := (qu47.cell (World.block_lt_of_cell? _ _ FV)).trans FV
            try replace FA := (qu47.block _ (lt_of_block FA)).trans FA
            try replace FC := (qu47.block _ (lt_of_block FC)).trans FC
            try replace LA := Nat.lt_of_lt_of_le LA qu47.size
            try replace LC := Nat.lt_of_lt_of_le LC qu47.size
            have FK : KpC u47 kp kt kz kq gs gh gp g (.slice a ns c) (.slice a2 nd c2) P := by rw [hu47.out]; exact kcu47
            refine wpAnyH_ready (rs := [8]) (by kernel_rfl) (by simp) ?_
            refine AllReadyH.cons (o := { dst := some 34, op := Op.call { callee := Callee.value (Operand.func 31), args := #[Operand.tmp 33], argTypes := #[22] }, type := 57, pos := "merge.go:53", after := #[{ on := 7, ground := Ground.data }, { on := 6, ground := Ground.chain }], guard := none }) rfl (fun KK hKK => ?_) ?_
            · go_simp
              refine (HHA.out _ (FB0.out _ bu47)).mono ?_
              rintro e u48' ⟨g2, rfl, hu48', bu48'⟩
              (try go_wp2_with fail)
              refine hKK.out _ _ (bu47.trans (Below.mono (bu48') bu47.size)) (fun _ => ?_)
              clear hKK KK
              try simp only [Act.put, List.setIfInBounds_toArray, List.set_cons_zero, List.set_cons_succ]
              refine wpAnyH_name (fun u48 hu48 => ?_)
              have bu48 : Below W3.heap.size W3 u48 := by rw [hu48.out]; exact (bu47.trans (Below.mono (bu48') bu47.size))
              have qu48 : Below u47.heap.size u47 u48 := by rw [hu48.out]; exact (bu48')
              try replace FS := StC.kept FS qu48
              try replace FK := KpC.kept FK qu48
              try replace FV := (qu48.cell (World.block_lt_of_cell? _ _ FV)).trans FV
              try replace FA := (qu48.block _ (lt_of_block FA)).trans FA
              try replace FC := (qu48.block _ (lt_of_block FC)).trans FC
              try replace LA := Nat.lt_of_lt_of_le LA qu48.size
              try replace LC := Nat.lt_of_lt_of_le LC qu48.size
              have FV : u48.cell? ⟨g2, 0, none⟩ = some (.slice a2 nd c2) := by rw [hu48.out]; exact hu48'
              refine wpAnyH_ready (rs := [11]) (by kernel_rfl) (by simp) ?_
              refine AllReadyH.cons (o := { dst := none, op := Op.store 62 (Operand.tmp 10) (Operand.tmp 32), type := 0, pos := "merge.go:53", after := #[{ on := 9, ground := Ground.data }, { on := 6, ground := Ground.data }, { on := 8, ground := Ground.chain }, { on := 0, ground := Ground.phase }, { on := 1, ground := Ground.phase }, { on := 2, ground := Ground.phase }, { on := 3, ground := Ground.phase }, { on := 4, ground := Ground.phase }, { on := 5, ground := Ground.phase }, { on := 6, ground := Ground.phase }, { on := 7, ground := Ground.textOnly Departure.lateStores }, { on := 8, ground := Ground.textOnly Departure.lateStoresUnsure }, { on := 9, ground := Ground.phase }, { on := 10, ground := Ground.phase }], guard := none }) rfl (fun KK hKK => ?_) ?_
              · have fcu49 : u48.cell? ⟨u7.heap.size, 0, none⟩ = some .nilFunc := by simp [World.cell?, FA]
                have fzu49 : u48.frozen? ⟨u7.heap.size, 0, none⟩ = false := by simp [World.frozen?, FA]
                go_simp
                refine hKK.out _ _ (bu48.setCell LA _) (fun _ => ?_)
                clear hKK KK
                try simp only [Act.put]
                refine wpAnyH_name (fun u49 hu49 => ?_)
                have bu49 : Below W3.heap.size W3 u49 := by rw [hu49.out]; exact (bu48.setCell LA _)
                have FC2 : u49.heap[u36.heap.size]? = some (.cells #[.nilFunc] 57 (0, 0)) := by rw [hu49.out, Below.heap_setCell _ _ _ _ (fun e => by rw [e, FA] at FC; cases FC)]; exact FC
                refine wpAnyH_ready (rs := [12]) (by kernel_rfl) (by simp) ?_
                refine AllReadyH.cons (o := { dst := none, op := Op.store 57 (Operand.tmp 11) (Operand.tmp 34), type := 0, pos := "merge.go:53", after := #[{ on := 10, ground := Ground.data }, { on := 8, ground := Ground.data }, { on := 11, ground := Ground.chain }, { on := 0, ground := Ground.phase }, { on := 1, ground := Ground.phase }, { on := 2, ground := Ground.phase }, { on := 3, ground := Ground.phase }, { on := 4, ground := Ground.phase }, { on := 5, ground := Ground.phase }, { on := 6, ground := Ground.phase }, { on := 7, ground := Ground.phase }, { on := 8, ground := Ground.phase }, { on := 9, ground := Ground.phase }, { on := 10, ground := Ground.phase }, { on := 11, ground := Ground.phase }], guard := none }) rfl (fun KK hKK => ?_) ?_
                · have fcu50 : u49.cell? ⟨u36.heap.size, 0, none⟩ = some .nilFunc := by simp [World.cell?, FC2]
                  have fzu50 : u49.frozen? ⟨u36.heap.size, 0, none⟩ = false := by simp [World.frozen?, FC2]
                  go_simp
                  refine hKK.out _ _ (bu49.setCell LC _) (fun _ => ?_)
                  clear hKK KK
                  try simp only [Act.put]
                  refine wpAnyH_name (fun u50 hu50 => ?_)
                  have bu50 : Below W3.heap.size W3 u50 := by rw [hu50.out]; exact (bu49.setCell LC _)
                  refine wpAnyH_done (by kernel_rfl) ?_ _
                  have Z := vars_fin (F1 := .func 55) (x1 := #[]) (y1 := #[.pointer (some ⟨kp, 0, none⟩), .pointer (some ⟨kt, 0, none⟩), .pointer (some ⟨kz, 0, none⟩), .pointer (some ⟨kq, 0, none⟩)]) (F2 := .func 64) (x2 := #[]) (y2 := #[.pointer (some ⟨g2, 0, none⟩)]) FA FC (by decide) FK FV
                  rw [← hu49.out, ← hu50.out] at Z
                  have BZ := bu50
                  go_wp2_with fail
                  go_meet
                  case rel => exact ⟨_, _, g2, kp, kt, kz, kq, gs, gh, gp, g, rfl, rfl, Z.1, Z.2.1, Z.2.2.1, Z.2.2.2, BZ⟩
                exact AllReadyH.nil
              exact AllReadyH.nil
            exact AllReadyH.nil
          exact AllReadyH.nil
        exact AllReadyH.nil
      refine AllReadyH.cons (o := { dst := some 11, op := Op.alloc 57, type := 0, pos := "merge.go:53", after := #[], guard := none }) rfl (fun KK hKK => ?_) ?_
      · go_simp
        refine hKK.out _ _ (bu7.trans (Below.mono (al_below _ _) bu7.size)) (fun _ => ?_)
        clear hKK KK
        try simp only [Act.put, List.setIfInBounds_toArray, List.set_cons_zero, List.set_cons_succ]
        refine wpAnyH_name (fun u51 hu51 => ?_)
        have bu51 : Below W3.heap.size W3 u51 := by rw [hu51.out]; exact (bu7.trans (Below.mono (al_below _ _) bu7.size))
        have qu51 : Below u7.heap.size u7 u51 := by rw [hu51.out]; exact (al_below _ _)
        try replace FS := StC.kept FS qu51
        try replace FK := KpC.kept FK qu51
        try replace FV := (qu51.cell (World.block_lt_of_cell? _ _ FV)).trans FV
        try replace FA := (qu51.block _ (lt_of_block FA)).trans FA
        try replace FC := (qu51.block _ (lt_of_block FC)).trans FC
        try replace LA := Nat.lt_of_lt_of_le LA qu51.size
        try replace LC := Nat.lt_of_lt_of_le LC qu51.size
        have FC : u51.heap[u7.heap.size]? = some (.cells #[.nilFunc] 57 (0, 0)) := by rw [hu51.out]; exact heap_alloc_new _ _
        have LC : W3.heap.size ≤ u7.heap.size := bu7.size
        refine wpAnyH_ready (rs := [6, 9]) (by kernel_rfl) (by simp) ?_
        refine AllReadyH.cons (o := { dst := some 32, op := Op.call { callee := Callee.value (Operand.func 24), args := #[Operand.tmp 26, Operand.tmp 27, Operand.tmp 28, Operand.tmp 31], argTypes := #[22, 22, 24, 57] }, type := 62, pos := "merge.go:53", after := #[{ on := 0, ground := Ground.data }, { on := 1, ground := Ground.data }, { on := 2, ground := Ground.data }, { on := 5, ground := Ground.data }, { on := 5, ground := Ground.chain }], guard := none }) rfl (fun KK hKK => ?_) ?_
        · go_simp
          refine (HKE.out _ gs gh gp g (FB0.out _ bu51) FS).mono ?_
          rintro e u52' ⟨kp, kt, kz, kq, rfl, kcu52, bu52'⟩
          (try go_wp2_with fail)
          refine hKK.out _ _ (bu51.trans (Below.mono (bu52') bu51.size)) (fun _ => ?_)
          clear hKK KK
          try simp only [Act.put, List.setIfInBounds_toArray, List.set_cons_zero, List.set_cons_succ]
          refine wpAnyH_name (fun u52 hu52 => ?_)
          have bu52 : Below W3.heap.size W3 u52 := by rw [hu52.out]; exact (bu51.trans (Below.mono (bu52') bu51.size))
          have qu52 : Below u51.heap.size u51 u52 := by rw [hu52.out]; exact (bu52')
          try replace FS := StC.kept FS qu52
          try replace FK := KpC.kept FK qu52
          try replace FV := (qu52.cell (World.block_lt_of_cell? _ _ FV)).trans FV
          try replace FA := (qu52.block _ (lt_of_block FA)).trans FA
          try replace FC := (qu52.block _ (lt_of_block FC)).trans FC
          try replace LA := Nat.lt_of_lt_of_le LA qu52.size
          try replace LC := Nat.lt_of_lt_of_le LC qu52.size
          have FK : KpC u52 kp kt kz kq gs gh gp g (.slice a ns c) (.slice a2 nd c2) P := by rw [hu52.out]; exact kcu52
          refine wpAnyH_ready (rs := [8, 9]) (by kernel_rfl) (by simp) ?_
          refine AllReadyH.cons (o := { dst := some 34, op := Op.call { callee := Callee.value (Operand.func 31), args := #[Operand.tmp 33], argTypes := #[22] }, type := 57, pos := "merge.go:53", after := #[{ on := 7, ground := Ground.data }, { on := 6, ground := Ground.chain }], guard := none }) rfl (fun KK hKK => ?_) ?_
          · go_simp
            refine (HHA.out _ (FB0.out _ bu52)).mono ?_
            rintro e u53' ⟨g2, rfl, hu53', bu53'⟩
            (try go_wp2_with fail)
            refine hKK.out _ _ (bu52.trans (Below.mono (bu53') bu52.size)) (fun _ => ?_)
            clear hKK KK
            try simp only [Act.put, List.setIfInBounds_toArray, List.set_cons_zero, List.set_cons_succ]
            refine wpAnyH_name (fun u53 hu53 => ?_)
            have bu53 : Below W3.heap.size W3 u53 := by rw [hu53.out]; exact (bu52.trans (Below.mono (bu53') bu52.size))
            have qu53 : Below u52.heap.size u52 u53 := by rw [hu53.out]; exact (bu53')
            try replace FS := StC.kept FS qu53
            try replace FK := KpC.kept FK qu53
            try replace FV := (qu53.cell (World.block_lt_of_cell? _ _ FV)).trans FV
            try replace FA := (qu53.block _ (lt_of_block FA)).trans FA
            try replace FC := (qu53.block _ (lt_of_block FC)).trans FC
            try replace LA := Nat.lt_of_lt_of_le LA qu53.size
            try replace LC := Nat.lt_of_lt_of_le LC qu53.size
            have FV : u53.cell? ⟨g2, 0, none⟩ = some (.slice a2 nd c2) := by rw [hu53.out]; exact hu53'
            refine wpAnyH_ready (rs := [9]) (by kernel_rfl) (by simp) ?_
            refine AllReadyH.cons (o := { dst := some 10, op := Op.alloc 62, type := 0, pos := "merge.go:53", after := #[], guard := none }) rfl (fun KK hKK => ?_) ?_
            · go_simp
              refine hKK.out _ _ (bu53.trans (Below.mono (al_below _ _) bu53.size)) (fun _ => ?_)
              clear hKK KK
              try simp only [Act.put, List.setIfInBounds_toArray, List.set_cons_zero, List.set_cons_succ]
              refine wpAnyH_name (fun u54 hu54 => ?_)
              have bu54 : Below W3.heap.size W3 u54 := by rw [hu54.out]; exact (bu53.trans (Below.mono (al_below _ _) bu53.size))
              have qu54 : Below u53.heap.size u53 u54 := by rw [hu54.out]; exact (al_below _ _)
              try replace FS := StC.kept FS qu54
              try replace FK := KpC.kept FK qu54
              try replace FV := (qu54.cell (World.block_lt_of_cell? _ _ FV)).trans FV
              try replace FA := (qu54.block _ (lt_of_block FA)).trans FA
              try replace FC := (qu54.block _ (lt_of_block FC)).trans FC
              try replace LA := Nat.lt_of_lt_of_le LA qu54.size
              try replace LC := Nat.lt_of_lt_of_le LC qu54.size
              have FA : u54.heap[u53.heap.size]? = some (.cells #[.nilFunc] 62 (0, 0)) := by rw [hu54.out]; exact heap_alloc_new _ _
              have LA : W3.heap.size ≤ u53.heap.size := bu53.size
              refine wpAnyH_ready (rs := [11]) (by kernel_rfl) (by simp) ?_
              refine AllReadyH.cons (o := { dst := none, op := Op.store 62 (Operand.tmp 10) (Operand.tmp 32), type := 0, pos := "merge.go:53", after := #[{ on := 9, ground := Ground.data }, { on := 6, ground := Ground.data }, { on := 8, ground := Ground.chain }, { on := 0, ground := Ground.phase }, { on := 1, ground := Ground.phase }, { on := 2, ground := Ground.phase }, { on := 3, ground := Ground.phase }, { on := 4, ground := Ground.phase }, { on := 5, ground := Ground.phase }, { on := 6, ground := Ground.phase }, { on := 7, ground := Ground.textOnly Departure.lateStores }, { on := 8, ground := Ground.textOnly Departure.lateStoresUnsure }, { on := 9, ground := Ground.phase }, { on := 10, ground := Ground.phase }], guard := none }) rfl (fun KK hKK => ?_) ?_
              · have fcu55 : u54.cell? ⟨u53.heap.size, 0, none⟩ = some .nilFunc := by simp [World.cell?, FA]
                have fzu55 : u54.frozen? ⟨u53.heap.size, 0, none⟩ = false := by simp [World.frozen?, FA]
                go_simp
                refine hKK.out _ _ (bu54.setCell LA _) (fun _ => ?_)
                clear hKK KK
                try simp only [Act.put]
                refine wpAnyH_name (fun u55 hu55 => ?_)
                have bu55 : Below W3.heap.size W3 u55 := by rw [hu55.out]; exact (bu54.setCell LA _)
                have FC2 : u55.heap[u7.heap.size]? = some (.cells #[.nilFunc] 57 (0, 0)) := by rw [hu55.out, Below.heap_setCell _ _ _ _ (fun e => by rw [e, FA] at FC; cases FC)]; exact FC
                refine wpAnyH_ready (rs := [12]) (by kernel_rfl) (by simp) ?_
                refine AllReadyH.cons (o := { dst := none, op := Op.store 57 (Operand.tmp 11) (Operand.tmp 34), type := 0, pos := "merge.go:53", after := #[{ on := 10, ground := Ground.data }, { on := 8, ground := Ground.data }, { on := 11, ground := Ground.chain }, { on := 0, ground := Ground.phase }, { on := 1, ground := Ground.phase }, { on := 2, ground := Ground.phase }, { on := 3, ground := Ground.phase }, { on := 4, ground := Ground.phase }, { on := 5, ground := Ground.phase }, { on := 6, ground := Ground.phase }, { on := 7, ground := Ground.phase }, { on := 8, ground := Ground.phase }, { on := 9, ground := Ground.phase }, { on := 10, ground := Ground.phase }, { on := 11, ground := Ground.phase }], guard := none }) rfl (fun KK hKK => ?_) ?_
                · have fcu56 : u55.cell? ⟨u7.heap.size, 0, none⟩ = some .nilFunc := by simp [World.cell?, FC2]
                  have fzu56 : u55.frozen? ⟨u7.heap.size, 0, none⟩ = false := by simp [World.frozen?, FC2]
                  go_simp
                  refine hKK.out _ _ (bu55.setCell LC _) (fun _ => ?_)
                  clear hKK KK
                  try simp only [Act.put]
                  refine wpAnyH_name (fun u56 hu56 => ?_)
                  have bu56 : Below W3.heap.size W3 u56 := by rw [hu56.out]; exact (bu55.setCell LC _)
                  refine wpAnyH_done (by kernel_rfl) ?_ _
                  have Z := vars_fin (F1 := .func 55) (x1 := #[]) (y1 := #[.pointer (some ⟨kp, 0, none⟩), .pointer (some ⟨kt, 0, none⟩), .pointer (some ⟨kz, 0, none⟩), .pointer (some ⟨kq, 0, none⟩)]) (F2 := .func 64) (x2 := #[]) (y2 := #[.pointer (some ⟨g2, 0, none⟩)]) FA FC (by decide) FK FV
                  rw [← hu55.out, ← hu56.out] at Z
                  have BZ := bu56
                  go_wp2_with fail
                  go_meet
                  case rel => exact ⟨_, _, g2, kp, kt, kz, kq, gs, gh, gp, g, rfl, rfl, Z.1, Z.2.1, Z.2.2.1, Z.2.2.2, BZ⟩
                exact AllReadyH.nil
              exact AllReadyH.nil
            exact AllReadyH.nil
          refine AllReadyH.cons (o := { dst := some 10, op := Op.alloc 62, type := 0, pos := "merge.go:53", after := #[], guard := none }) rfl (fun KK hKK => ?_) ?_
          · go_simp
            refine hKK.out _ _ (bu52.trans (Below.mono (al_below _ _) bu52.size)) (fun _ => ?_)
            clear hKK KK
            try simp only [Act.put, List.setIfInBounds_toArray, List.set_cons_zero, List.set_cons_succ]
            refine wpAnyH_name (fun u57 hu57 => ?_)
            have bu57 : Below W3.heap.size W3 u57 := by rw [hu57.out]; exact (bu52.trans (Below.mono (al_below _ _) bu52.size))
            have qu57 : Below u52.heap.size u52 u57 := by rw [hu57.out]; exact (al_below _ _)
            try replace FS := StC.kept FS qu57
            try replace FK := KpC.kept FK qu57
            try replace FV := (qu57.cell (World.block_lt_of_cell? _ _ FV)).trans FV
            try replace FA := (qu57.block _ (lt_of_block FA)).trans FA
            try replace FC := (qu57.block _ (lt_of_block FC)).trans FC
            try replace LA := Nat.lt_of_lt_of_le LA qu57.size
            try replace LC := Nat.lt_of_lt_of_le LC qu57.size
            have FA : u57.heap[u52.heap.size]? = some (.cells #[.nilFunc] 62 (0, 0)) := by rw [hu57.out]; exact heap_alloc_new _ _
            have LA : W3.heap.size ≤ u52.heap.size := bu52.size
            refine wpAnyH_ready (rs := [8]) (by kernel_rfl) (by simp) ?_
            refine AllReadyH.cons (o := { dst := some 34, op := Op.call { callee := Callee.value (Operand.func 31), args := #[Operand.tmp 33], argTypes := #[22] }, type := 57, pos := "merge.go:53", after := #[{ on := 7, ground := Ground.data }, { on := 6, ground := Ground.chain }], guard := none }) rfl (fun KK hKK => ?_) ?_
            · go_simp
              refine (HHA.out _ (FB0.out _ bu57)).mono ?_
              rintro e u58' ⟨g2, rfl, hu58', bu58'⟩
              (try go_wp2_with fail)
              refine hKK.out _ _ (bu57.trans (Below.mono (bu58') bu57.size)) (fun _ => ?_)
              clear hKK KK
              try simp only [Act.put, List.setIfInBounds_toArray, List.set_cons_zero, List.set_cons_succ]
              refine wpAnyH_name (fun u58 hu58 => ?_)
              have bu58 : Below W3.heap.size W3 u58 := by rw [hu58.out]; exact (bu57.trans (Below.mono (bu58') bu57.size))
              have qu58 : Below u57.heap.size u57 u58 := by rw [hu58.out]; exact (bu58')
              try replace FS := StC.kept FS qu58
              try replace FK := KpC.kept FK qu58
              try replace FV := (qu58.cell (World.block_lt_of_cell? _ _ FV)).trans FV
              try replace FA := (qu58.block _ (lt_of_block FA)).trans FA
              try replace FC := (qu58.block _ (lt_of_block FC)).trans FC
              try replace LA := Nat.lt_of_lt_of_le LA qu58.size
              try replace LC := Nat.lt_of_lt_of_le LC qu58.size
              have FV : u58.cell? ⟨g2, 0, none⟩ = some (.slice a2 nd c2) := by rw [hu58.out]; exact hu58'
              refine wpAnyH_ready (rs := [11]) (by kernel_rfl) (by simp) ?_
              refine AllReadyH.cons (o := { dst := none, op := Op.store 62 (Operand.tmp 10) (Operand.tmp 32), type := 0, pos := "merge.go:53", after := #[{ on := 9, ground := Ground.data }, { on := 6, ground := Ground.data }, { on := 8, ground := Ground.chain }, { on := 0, ground := Ground.phase }, { on := 1, ground := Ground.phase }, { on := 2, ground := Ground.phase }, { on := 3, ground := Ground.phase }, { on := 4, ground := Ground.phase }, { on := 5, ground := Ground.phase }, { on := 6, ground := Ground.phase }, { on := 7, ground := Ground.textOnly Departure.lateStores }, { on := 8, ground := Ground.textOnly Departure.lateStoresUnsure }, { on := 9, ground := Ground.phase }, { on := 10, ground := Ground.phase }], guard := none }) rfl (fun KK hKK => ?_) ?_
              · have fcu59 : u58.cell? ⟨u52.heap.size, 0, none⟩ = some .nilFunc := by simp [World.cell?, FA]
                have fzu59 : u58.frozen? ⟨u52.heap.size, 0, none⟩ = false := by simp [World.frozen?, FA]
                go_simp
                refine hKK.out _ _ (bu58.setCell LA _) (fun _ => ?_)
                clear hKK KK
                try simp only [Act.put]
                refine wpAnyH_name (fun u59 hu59 => ?_)
                have bu59 : Below W3.heap.size W3 u59 := by rw [hu59.out]; exact (bu58.setCell LA _)
                have FC2 : u59.heap[u7.heap.size]? = some (.cells #[.nilFunc] 57 (0, 0)) := by rw [hu59.out, Below.heap_setCell _ _ _ _ (fun e => by rw [e, FA] at FC; cases FC)]; exact FC
                refine wpAnyH_ready (rs := [12]) (by kernel_rfl) (by simp) ?_
                refine AllReadyH.cons (o := { dst := none, op := Op.store 57 (Operand.tmp 11) (Operand.tmp 34), type := 0, pos := "merge.go:53", after := #[{ on := 10, ground := Ground.data }, { on := 8, ground := Ground.data }, { on := 11, ground := Ground.chain }, { on := 0, ground := Ground.phase }, { on := 1, ground := Ground.phase }, { on := 2, ground := Ground.phase }, { on := 3, ground := Ground.phase }, { on := 4, ground := Ground.phase }, { on := 5, ground := Ground.phase }, { on := 6, ground := Ground.phase }, { on := 7, ground := Ground.phase }, { on := 8, ground := Ground.phase }, { on := 9, ground := Ground.phase }, { on := 10, ground := Ground.phase }, { on := 11, ground := Ground.phase }], guard := none }) rfl (fun KK hKK => ?_) ?_
                · have fcu60 : u59.cell? ⟨u7.heap.size, 0, none⟩ = some .nilFunc := by simp [World.cell?, FC2]
                  have fzu60 : u59.frozen? ⟨u7.heap.size, 0, none⟩ = false := by simp [World.frozen?, FC2]
                  go_simp
                  refine hKK.out _ _ (bu59.setCell LC _) (fun _ => ?_)
                  clear hKK KK
                  try simp only [Act.put]
                  refine wpAnyH_name (fun u60 hu60 => ?_)
                  have bu60 : Below W3.heap.size W3 u60 := by rw [hu60.out]; exact (bu59.setCell LC _)
                  refine wpAnyH_done (by kernel_rfl) ?_ _
                  have Z := vars_fin (F1 := .func 55) (x1 := #[]) (y1 := #[.pointer (some ⟨kp, 0, none⟩), .pointer (some ⟨kt, 0, none⟩), .pointer (some ⟨kz, 0, none⟩), .pointer (some ⟨kq, 0, none⟩)]) (F2 := .func 64) (x2 := #[]) (y2 := #[.pointer (some ⟨g2, 0, none⟩)]) FA FC (by decide) FK FV
                  rw [← hu59.out, ← hu60.out] at Z
                  have BZ := bu60
                  go_wp2_with fail
                  go_meet
                  case rel => exact ⟨_, _, g2, kp, kt, kz, kq, gs, gh, gp, g, rfl, rfl, Z.1, Z.2.1, Z.2.2.1, Z.2.2.2, BZ⟩
                exact AllReadyH.nil
              exact AllReadyH.nil
            exact AllReadyH.nil
          exact AllReadyH.nil
        refine AllReadyH.cons (o := { dst := some 10, op := Op.alloc 62, type := 0, pos := "merge.go:53", after := #[], guard := none }) rfl (fun KK hKK => ?_) ?_
        · go_simp
          refine hKK.out _ _ (bu51.trans (Below.mono (al_below _ _) bu51.size)) (fun _ => ?_)
          clear hKK KK
          try simp only [Act.put, List.setIfInBounds_toArray, List.set_cons_zero, List.set_cons_succ]
          refine wpAnyH_name (fun u61 hu61 => ?_)
          have bu61 : Below W3.heap.size W3 u61 := by rw [hu61.out]; exact (bu51.trans (Below.mono (al_below _ _) bu51.size))
          have qu61 : Below u51.heap.size u51 u61 := by rw [hu61.out]; exact (al_below _ _)
          try replace FS := StC.kept FS qu61
          try replace FK := KpC.kept FK qu61
          try replace FV := (qu61.cell (World.block_lt_of_cell? _ _ FV)).trans FV
          try replace FA := (qu61.block _ (lt_of_block FA)).trans FA
          try replace FC := (qu61.block _ (lt_of_block FC)).trans FC
          try replace LA := Nat.lt_of_lt_of_le LA qu61.size
          try replace LC := Nat.lt_of_lt_of_le LC qu61.size
          have FA : u61.heap[u51.heap.size]? = some (.cells #[.nilFunc] 62 (0, 0)) := by rw [hu61.out]; exact heap_alloc_new _ _
          have LA : W3.heap.size ≤ u51.heap.size := bu51.size
          refine wpAnyH_ready (rs := [6]) (by kernel_rfl) (by simp) ?_
          refine AllReadyH.cons (o := { dst := some 32, op := Op.call { callee := Callee.value (Operand.func 24), args := #[Operand.tmp 26, Operand.tmp 27, Operand.tmp 28, Operand.tmp 31], argTypes := #[22, 22, 24, 57] }, type := 62, pos := "merge.go:53", after := #[{ on := 0, ground := Ground.data }, { on := 1, ground := Ground.data }, { on := 2, ground := Ground.data }, { on := 5, ground := Ground.data }, { on := 5, ground := Ground.chain }], guard := none }) rfl (fun KK hKK => ?_) ?_
          · go_simp
            refine (HKE.out _ gs gh gp g (FB0.out _ bu61) FS).mono ?_
            rintro e u62' ⟨kp, kt, kz, kq, rfl, kcu62, bu62'⟩
            (try go_wp2_with fail)
            refine hKK.out _ _ (bu61.trans (Below.mono (bu62') bu61.size)) (fun _ => ?_)
            clear hKK KK
            try simp only [Act.put, List.setIfInBounds_toArray, List.set_cons_zero, List.set_cons_succ]
            refine wpAnyH_name (fun u62 hu62 => ?_)
            have bu62 : Below W3.heap.size W3 u62 := by rw [hu62.out]; exact (bu61.trans (Below.mono (bu62') bu61.size))
            have qu62 : Below u61.heap.size u61 u62 := by rw [hu62.out]; exact (bu62')
            try replace FS := StC.kept FS qu62
            try replace FK := KpC.kept FK qu62
            try replace FV := (qu62.cell (World.block_lt_of_cell? _ _ FV)).trans FV
            try replace FA := (qu62.block _ (lt_of_block FA)).trans FA
            try replace FC := (qu62.block _ (lt_of_block FC)).trans FC
            try replace LA := Nat.lt_of_lt_of_le LA qu62.size
            try replace LC := Nat.lt_of_lt_of_le LC qu62.size
            have FK : KpC u62 kp kt kz kq gs gh gp g (.slice a ns c) (.slice a2 nd c2) P := by rw [hu62.out]; exact kcu62
            refine wpAnyH_ready (rs := [8]) (by kernel_rfl) (by simp) ?_
            refine AllReadyH.cons (o := { dst := some 34, op := Op.call { callee := Callee.value (Operand.func 31), args := #[Operand.tmp 33], argTypes := #[22] }, type := 57, pos := "merge.go:53", after := #[{ on := 7, ground := Ground.data }, { on := 6, ground := Ground.chain }], guard := none }) rfl (fun KK hKK => ?_) ?_
            · go_simp
              refine (HHA.out _ (FB0.out _ bu62)).mono ?_
              rintro e u63' ⟨g2, rfl, hu63', bu63'⟩
              (try go_wp2_with fail)
              refine hKK.out _ _ (bu62.trans (Below.mono (bu63') bu62.size)) (fun _ => ?_)
              clear hKK KK
              try simp only [Act.put, List.setIfInBounds_toArray, List.set_cons_zero, List.set_cons_succ]
              refine wpAnyH_name (fun u63 hu63 => ?_)
              have bu63 : Below W3.heap.size W3 u63 := by rw [hu63.out]; exact (bu62.trans (Below.mono (bu63') bu62.size))
              have qu63 : Below u62.heap.size u62 u63 := by rw [hu63.out]; exact (bu63')
              try replace FS := StC.kept FS qu63
              try replace FK := KpC.kept FK qu63
              try replace FV := (qu63.cell (World.block_lt_of_cell? _ _ FV)).trans FV
              try replace FA := (qu63.block _ (lt_of_block FA)).trans FA
              try replace FC := (qu63.block _ (lt_of_block FC)).trans FC
              try replace LA := Nat.lt_of_lt_of_le LA qu63.size
              try replace LC := Nat.lt_of_lt_of_le LC qu63.size
              have FV : u63.cell? ⟨g2, 0, none⟩ = some (.slice a2 nd c2) := by rw [hu63.out]; exact hu63'
              refine wpAnyH_ready (rs := [11]) (by kernel_rfl) (by simp) ?_
              refine AllReadyH.cons (o := { dst := none, op := Op.store 62 (Operand.tmp 10) (Operand.tmp 32), type := 0, pos := "merge.go:53", after := #[{ on := 9, ground := Ground.data }, { on := 6, ground := Ground.data }, { on := 8, ground := Ground.chain }, { on := 0, ground := Ground.phase }, { on := 1, ground := Ground.phase }, { on := 2, ground := Ground.phase }, { on := 3, ground := Ground.phase }, { on := 4, ground := Ground.phase }, { on := 5, ground := Ground.phase }, { on := 6, ground := Ground.phase }, { on := 7, ground := Ground.textOnly Departure.lateStores }, { on := 8, ground := Ground.textOnly Departure.lateStoresUnsure }, { on := 9, ground := Ground.phase }, { on := 10, ground := Ground.phase }], guard := none }) rfl (fun KK hKK => ?_) ?_
              · have fcu64 : u63.cell? ⟨u51.heap.size, 0, none⟩ = some .nilFunc := by simp [World.cell?, FA]
                have fzu64 : u63.frozen? ⟨u51.heap.size, 0, none⟩ = false := by simp [World.frozen?, FA]
                go_simp
                refine hKK.out _ _ (bu63.setCell LA _) (fun _ => ?_)
                clear hKK KK
                try simp only [Act.put]
                refine wpAnyH_name (fun u64 hu64 => ?_)
                have bu64 : Below W3.heap.size W3 u64 := by rw [hu64.out]; exact (bu63.setCell LA _)
                have FC2 : u64.heap[u7.heap.size]? = some (.cells #[.nilFunc] 57 (0, 0)) := by rw [hu64.out, Below.heap_setCell _ _ _ _ (fun e => by rw [e, FA] at FC; cases FC)]; exact FC
                refine wpAnyH_ready (rs := [12]) (by kernel_rfl) (by simp) ?_
                refine AllReadyH.cons (o := { dst := none, op := Op.store 57 (Operand.tmp 11) (Operand.tmp 34), type := 0, pos := "merge.go:53", after := #[{ on := 10, ground := Ground.data }, { on := 8, ground := Ground.data }, { on := 11, ground := Ground.chain }, { on := 0, ground := Ground.phase }, { on := 1, ground := Ground.phase }, { on := 2, ground := Ground.phase }, { on := 3, ground := Ground.phase }, { on := 4, ground := Ground.phase }, { on := 5, ground := Ground.phase }, { on := 6, ground := Ground.phase }, { on := 7, ground := Ground.phase }, { on := 8, ground := Ground.phase }, { on := 9, ground := Ground.phase }, { on := 10, ground := Ground.phase }, { on := 11, ground := Ground.phase }], guard := none }) rfl (fun KK hKK => ?_) ?_
                · have fcu65 : u64.cell? ⟨u7.heap.size, 0, none⟩ = some .nilFunc := by simp [World.cell?, FC2]
                  have fzu65 : u64.frozen? ⟨u7.heap.size, 0, none⟩ = false := by simp [World.frozen?, FC2]
                  go_simp
                  refine hKK.out _ _ (bu64.setCell LC _) (fun _ => ?_)
                  clear hKK KK
                  try simp only [Act.put]
                  refine wpAnyH_name (fun u65 hu65 => ?_)
                  have bu65 : Below W3.heap.size W3 u65 := by rw [hu65.out]; exact (bu64.setCell LC _)
                  refine wpAnyH_done (by kernel_rfl) ?_ _
                  have Z := vars_fin (F1 := .func 55) (x1 := #[]) (y1 := #[.pointer (some ⟨kp, 0, none⟩), .pointer (some ⟨kt, 0, none⟩), .pointer (some ⟨kz, 0, none⟩), .pointer (some ⟨kq, 0, none⟩)]) (F2 := .func 64) (x2 := #[]) (y2 := #[.pointer (some ⟨g2, 0, none⟩)]) FA FC (by decide) FK FV
                  rw [← hu64.out, ← hu65.out] at Z
                  have BZ := bu65
                  go_wp2_with fail
                  go_meet
                  case rel => exact ⟨_, _, g2, kp, kt, kz, kq, gs, gh, gp, g, rfl, rfl, Z.1, Z.2.1, Z.2.2.1, Z.2.2.2, BZ⟩
                exact AllReadyH.nil
              exact AllReadyH.nil
            exact AllReadyH.nil
          exact AllReadyH.nil
        exact AllReadyH.nil
      exact AllReadyH.nil
    refine AllReadyH.cons (o := { dst := some 10, op := Op.alloc 62, type := 0, pos := "merge.go:53", after := #[], guard := none }) rfl (fun KK hKK => ?_) ?_
    · go_simp
      refine hKK.out _ _ (bu0.trans (Below.mono (al_below _ _) bu0.size)) (fun _ => ?_)
      clear hKK KK
      try simp only [Act.put, List.setIfInBounds_toArray, List.set_cons_zero, List.set_cons_succ]
      refine wpAnyH_name (fun u66 hu66 => ?_)
      have bu66 : Below W3.heap.size W3 u66 := by rw [hu66.out]; exact (bu0.trans (Below.mono (al_below _ _) bu0.size))
      have qu66 : Below u0.heap.size u0 u66 := by rw [hu66.out]; exact (al_below _ _)
      try replace FS := StC.kept FS qu66
      try replace FK := KpC.kept FK qu66
      try replace FV := (qu66.cell (World.block_lt_of_cell? _ _ FV)).trans FV
      try replace FA := (qu66.block _ (lt_of_block FA)).trans FA
      try replace FC := (qu66.block _ (lt_of_block FC)).trans FC
      try replace LA := Nat.lt_of_lt_of_le LA qu66.size
      try replace LC := Nat.lt_of_lt_of_le LC qu66.size
      have FA : u66.heap[u0.heap.size]? = some (.cells #[.nilFunc] 62 (0, 0)) := by rw [hu66.out]; exact heap_alloc_new _ _
      have LA : W3.heap.size ≤ u0.heap.size := bu0.size
      refine wpAnyH_ready (rs := [5, 10]) (by kernel_rfl) (by simp) ?_
      refine AllReadyH.cons (o := { dst := some 31, op := Op.call { callee := Callee.value (Operand.func 20), args := #[Operand.tmp 29, Operand.tmp 30], argTypes := #[22, 24] }, type := 57, pos := "merge.go:53", after := #[{ on := 3, ground := Ground.data }, { on := 4, ground := Ground.data }], guard := none }) rfl (fun KK hKK => ?_) ?_
      · go_simp
        refine (HST.out _ (FB0.out _ bu66)).mono ?_
        rintro e u67' ⟨gs, gh, gp, g, rfl, stu67, bu67'⟩
        (try go_wp2_with fail)
        refine hKK.out _ _ (bu66.trans (Below.mono (bu67') bu66.size)) (fun _ => ?_)
        clear hKK KK
        try simp only [Act.put, List.setIfInBounds_toArray, List.set_cons_zero, List.set_cons_succ]
        refine wpAnyH_name (fun u67 hu67 => ?_)
        have bu67 : Below W3.heap.size W3 u67 := by rw [hu67.out]; exact (bu66.trans (Below.mono (bu67') bu66.size))
        have qu67 : Below u66.heap.size u66 u67 := by rw [hu67.out]; exact (bu67')
        try replace FS := StC.kept FS qu67
        try replace FK := KpC.kept FK qu67
        try replace FV := (qu67.cell (World.block_lt_of_cell? _ _ FV)).trans FV
        try replace FA := (qu67.block _ (lt_of_block FA)).trans FA
        try replace FC := (qu67.block _ (lt_of_block FC)).trans FC
        try replace LA := Nat.lt_of_lt_of_le LA qu67.size
        try replace LC := Nat.lt_of_lt_of_le LC qu67.size
        have FS : StC u67 gs gh gp g (.slice a ns c) P.del := by rw [hu67.out]; exact stu67
        refine wpAnyH_ready (rs := [6, 10]) (by kernel_rfl) (by simp) ?_
        refine AllReadyH.cons (o := { dst := some 32, op := Op.call { callee := Callee.value (Operand.func 24), args := #[Operand.tmp 26, Operand.tmp 27, Operand.tmp 28, Operand.tmp 31], argTypes := #[22, 22, 24, 57] }, type := 62, pos := "merge.go:53", after := #[{ on := 0, ground := Ground.data }, { on := 1, ground := Ground.data }, { on := 2, ground := Ground.data }, { on := 5, ground := Ground.data }, { on := 5, ground := Ground.chain }], guard := none }) rfl (fun KK hKK => ?_) ?_
        · go_simp
          refine (HKE.out _ gs gh gp g (FB0.out _ bu67) FS).mono ?_
          rintro e u68' ⟨kp, kt, kz, kq, rfl, kcu68, bu68'⟩
          (try go_wp2_with fail)
          refine hKK.out _ _ (bu67.trans (Below.mono (bu68') bu67.size)) (fun _ => ?_)
          clear hKK KK
          try simp only [Act.put, List.setIfInBounds_toArray, List.set_cons_zero, List.set_cons_succ]
          refine wpAnyH_name (fun u68 hu68 => ?_)
          have bu68 : Below W3.heap.size W3 u68 := by rw [hu68.out]; exact (bu67.trans (Below.mono (bu68') bu67.size))
          have qu68 : Below u67.heap.size u67 u68 := by rw [hu68.out]; exact (bu68')
          try replace FS := StC.kept FS qu68
          try replace FK := KpC.kept FK qu68
          try replace FV := (qu68.cell (World.block_lt_of_cell? _ _ FV)).trans FV
          try replace FA := (qu68.block _ (lt_of_block FA)).trans FA
          try replace FC := (qu68.block _ (lt_of_block FC)).trans FC
          try replace LA := Nat.lt_of_lt_of_le LA qu68.size
          try replace LC := Nat.lt_of_lt_of_le LC qu68.size
          have FK : KpC u68 kp kt kz kq gs gh gp g (.slice a ns c) (.slice a2 nd c2) P := by rw [hu68.out]; exact kcu68
          refine wpAnyH_ready (rs := [8, 10]) (by kernel_rfl) (by simp) ?_
          refine AllReadyH.cons (o := { dst := some 34, op := Op.call { callee := Callee.value (Operand.func 31), args := #[Operand.tmp 33], argTypes := #[22] }, type := 57, pos := "merge.go:53", after := #[{ on := 7, ground := Ground.data }, { on := 6, ground := Ground.chain }], guard := none }) rfl (fun KK hKK => ?_) ?_
          · go_simp
            refine (HHA.out _ (FB0.out _ bu68)).mono ?_
            rintro e u69' ⟨g2, rfl, hu69', bu69'⟩
            (try go_wp2_with fail)
            refine hKK.out _ _ (bu68.trans (Below.mono (bu69') bu68.size)) (fun _ => ?_)
            clear hKK KK
            try simp only [Act.put, List.setIfInBounds_toArray, List.set_cons_zero, List.set_cons_succ]
            refine wpAnyH_name (fun u69 hu69 => ?_)
            have bu69 : Below W3.heap.size W3 u69 := by rw [hu69.out]; exact (bu68.trans (Below.mono (bu69') bu68.size))
            have qu69 : Below u68.heap.size u68 u69 := by rw [hu69.out]; exact (bu69')
            try replace FS := StC.kept FS qu69
            try replace FK := KpC.kept FK qu69
            try replace FV := (qu69.cell (World.block_lt_of_cell? _ _ FV)).trans FV
            try replace FA := (qu69.block _ (lt_of_block FA)).trans FA
            try replace FC := (qu69.block _ (lt_of_block FC)).trans FC
            try replace LA := Nat.lt_of_lt_of_le LA qu69.size
            try replace LC := Nat.lt_of_lt_of_le LC qu69.size
            have FV : u69.cell? ⟨g2, 0, none⟩ = some (.slice a2 nd c2) := by rw [hu69.out]; exact hu69'
            refine wpAnyH_ready (rs := [10]) (by kernel_rfl) (by simp) ?_
            refine AllReadyH.cons (o := { dst := some 11, op := Op.alloc 57, type := 0, pos := "merge.go:53", after := #[], guard := none }) rfl (fun KK hKK => ?_) ?_
            · go_simp
              refine hKK.out _ _ (bu69.trans (Below.mono (al_below _ _) bu69.size)) (fun _ => ?_)
              clear hKK KK
              try simp only [Act.put, List.setIfInBounds_toArray, List.set_cons_zero, List.set_cons_succ]
              refine wpAnyH_name (fun u70 hu70 => ?_)
              have bu70 : Below W3.heap.size W3 u70 := by rw [hu70.out]; exact (bu69.trans (Below.mono (al_below _ _) bu69.size))
              have qu70 : Below u69.heap.size u69 u70 := by rw [hu70.out]; exact (al_below _ _)
              try replace FS := StC.kept FS qu70
              try replace FK := KpC.kept FK qu70
              try replace FV := (qu70.cell (World.block_lt_of_cell? _ _ FV)).trans FV
              try replace FA := (qu70.block _ (lt_of_block FA)).trans FA
              try replace FC := (qu70.block _ (lt_of_block FC)).trans FC
              try replace LA := Nat.lt_of_lt_of_le LA qu70.size
              try replace LC := Nat.lt_of_lt_of_le LC qu70.size
              have FC : u70.heap[u69.heap.size]? = some (.cells #[.nilFunc] 57 (0, 0)) := by rw [hu70.out]; exact heap_alloc_new _ _
              have LC : W3.heap.size ≤ u69.heap.size := bu69.size
              refine wpAnyH_ready (rs := [11]) (by kernel_rfl) (by simp) ?_
              refine AllReadyH.cons (o := { dst := none, op := Op.store 62 (Operand.tmp 10) (Operand.tmp 32), type := 0, pos := "merge.go:53", after := #[{ on := 9, ground := Ground.data }, { on := 6, ground := Ground.data }, { on := 8, ground := Ground.chain }, { on := 0, ground := Ground.phase }, { on := 1, ground := Ground.phase }, { on := 2, ground := Ground.phase }, { on := 3, ground := Ground.phase }, { on := 4, ground := Ground.phase }, { on := 5, ground := Ground.phase }, { on := 6, ground := Ground.phase }, { on := 7, ground := Ground.textOnly Departure.lateStores }, { on := 8, ground := Ground.textOnly Departure.lateStoresUnsure }, { on := 9, ground := Ground.phase }, { on := 10, ground := Ground.phase }], guard := none }) rfl (fun KK hKK => ?_) ?_
              · have fcu71 : u70.cell? ⟨u0.heap.size, 0, none⟩ = some .nilFunc := by simp [World.cell?, FA]
                have fzu71 : u70.frozen? ⟨u0.heap.size, 0, none⟩ = false := by simp [World.frozen?, FA]
                go_simp
                refine hKK.out _ _ (bu70.setCell LA _) (fun _ => ?_)
                clear hKK KK
                try simp only [Act.put]
                refine wpAnyH_name (fun u71 hu71 => ?_)
                have bu71 : Below W3.heap.size W3 u71 := by rw [hu71.out]; exact (bu70.setCell LA _)
                have FC2 : u71.heap[u69.heap.size]? = some (.cells #[.nilFunc] 57 (0, 0)) := by rw [hu71.out, Below.heap_setCell _ _ _ _ (fun e => by rw [e, FA] at FC; cases FC)]; exact FC
                refine wpAnyH_ready (rs := [12]) (by kernel_rfl) (by simp) ?_
                refine AllReadyH.cons (o := { dst := none, op := Op.store 57 (Operand.tmp 11) (Operand.tmp 34), type := 0, pos := "merge.go:53", after := #[{ on := 10, ground := Ground.data }, { on := 8, ground := Ground.data }, { on := 11, ground := Ground.chain }, { on := 0, ground := Ground.phase }, { on := 1, ground := Ground.phase }, { on := 2, ground := Ground.phase }, { on := 3, ground := Ground.phase }, { on := 4, ground := Ground.phase }, { on := 5, ground := Ground.phase }, { on := 6, ground := Ground.phase }, { on := 7, ground := Ground.phase }, { on := 8, ground := Ground.phase }, { on := 9, ground := Ground.phase }, { on := 10, ground := Ground.phase }, { on := 11, ground := Ground.phase }], guard := none }) rfl (fun KK hKK => ?_) ?_
                · have fcu72 : u71.cell? ⟨u69.heap.size, 0, none⟩ = some .nilFunc := by simp [World.cell?, FC2]
                  have fzu72 : u71.frozen? ⟨u69.heap.size, 0, none⟩ = false := by simp [World.frozen?, FC2]
                  go_simp
                  refine hKK.out _ _ (bu71.setCell LC _) (fun _ => ?_)
                  clear hKK KK
                  try simp only [Act.put]
                  refine wpAnyH_name (fun u72 hu72 => ?_)
                  have bu72 : Below W3.heap.size W3 u72 := by rw [hu72.out]; exact (bu71.setCell LC _)
                  refine wpAnyH_done (by kernel_rfl) ?_ _
                  have Z := vars_fin (F1 := .func 55) (x1 := #[]) (y1 := #[.pointer (some ⟨kp, 0, none⟩), .pointer (some ⟨kt, 0, none⟩), .pointer (some ⟨kz, 0, none⟩), .pointer (some ⟨kq, 0, none⟩)]) (F2 := .func 64) (x2 := #[]) (y2 := #[.pointer (some ⟨g2, 0, none⟩)]) FA FC (by decide) FK FV
                  rw [← hu71.out, ← hu72.out] at Z
                  have BZ := bu72
                  go_wp2_with fail
                  go_meet
                  case rel => exact ⟨_, _, g2, kp, kt, kz, kq, gs, gh, gp, g, rfl, rfl, Z.1, Z.2.1, Z.2.2.1, Z.2.2.2, BZ⟩
                exact AllReadyH.nil
              exact AllReadyH.nil
            exact AllReadyH.nil
          refine AllReadyH.cons (o := { dst := some 11, op := Op.alloc 57, type := 0, pos := "merge.go:53", after := #[], guard := none }) rfl (fun KK hKK => ?_) ?_
          · go_simp
            refine hKK.out _ _ (bu68.trans (Below.mono (al_below _ _) bu68.size)) (fun _ => ?_)
            clear hKK KK
            try simp only [Act.put, List.setIfInBounds_toArray, List.set_cons_zero, List.set_cons_succ]
            refine wpAnyH_name (fun u73 hu73 => ?_)
            have bu73 : Below W3.heap.size W3 u73 := by rw [hu73.out]; exact (bu68.trans (Below.mono (al_below _ _) bu68.size))
            have qu73 : Below u68.heap.size u68 u73 := by rw [hu73.out]; exact (al_below _ _)
            try replace FS := StC.kept FS qu73
            try replace FK := KpC.kept FK qu73
            try replace FV := (qu73.cell (World.block_lt_of_cell? _ _ FV)).trans FV
            try replace FA := (qu73.block _ (lt_of_block FA)).trans FA
            try replace FC := (qu73.block _ (lt_of_block FC)).trans FC
            try replace LA := Nat.lt_of_lt_of_le LA qu73.size
            try replace LC := Nat.lt_of_lt_of_le LC qu73.size
            have FC : u73.heap[u68.heap.size]? = some (.cells #[.nilFunc] 57 (0, 0)) := by rw [hu73.out]; exact heap_alloc_new _ _
            have LC : W3.heap.size ≤ u68.heap.size := bu68.size
            refine wpAnyH_ready (rs := [8]) (by kernel_rfl) (by simp) ?_
            refine AllReadyH.cons (o := { dst := some 34, op := Op.call { callee := Callee.value (Operand.func 31), args := #[Operand.tmp 33], argTypes := #[22] }, type := 57, pos := "merge.go:53", after := #[{ on := 7, ground := Ground.data }, { on := 6, ground := Ground.chain }], guard := none }) rfl (fun KK hKK => ?_) ?_
            · go_simp
              refine (HHA.out _ (FB0.out _ bu73)).mono ?_
              rintro e u74' ⟨g2, rfl, hu74', bu74'⟩
              (try go_wp2_with fail)
              refine hKK.out _ _ (bu73.trans (Below.mono (bu74') bu73.size)) (fun _ => ?_)
              clear hKK KK
              try simp only [Act.put, List.setIfInBounds_toArray, List.set_cons_zero, List.set_cons_succ]
              refine wpAnyH_name (fun u74 hu74 => ?_)
              have bu74 : Below W3.heap.size W3 u74 := by rw [hu74.out]; exact (bu73.trans (Below.mono (bu74') bu73.size))
              have qu74 : Below u73.heap.size u73 u74 := by rw [hu74.out]; exact (bu74')
              try replace FS := StC.kept FS qu74
              try replace FK := KpC.kept FK qu74
              try replace FV := (qu74.cell (World.block_lt_of_cell? _ _ FV)).trans FV
              try replace FA := (qu74.block _ (lt_of_block FA)).trans FA
              try replace FC := (qu74.block _ (lt_of_block FC)).trans FC
              try replace LA := Nat.lt_of_lt_of_le LA qu74.size
              try replace LC := Nat.lt_of_lt_of_le LC qu74.size
              have FV : u74.cell? ⟨g2, 0, none⟩ = some (.slice a2 nd c2) := by rw [hu74.out]; exact hu74'
              refine wpAnyH_ready (rs := [11]) (by kernel_rfl) (by simp) ?_
              refine AllReadyH.cons (o := { dst := none, op := Op.store 62 (Operand.tmp 10) (Operand.tmp 32), type := 0, pos := "merge.go:53", after := #[{ on := 9, ground := Ground.data }, { on := 6, ground := Ground.data }, { on := 8, ground := Ground.chain }, { on := 0, ground := Ground.phase }, { on := 1, ground := Ground.phase }, { on := 2, ground := Ground.phase }, { on := 3, ground := Ground.phase }, { on := 4, ground := Ground.phase }, { on := 5, ground := Ground.phase }, { on := 6, ground := Ground.phase }, { on := 7, ground := Ground.textOnly Departure.lateStores }, { on := 8, ground := Ground.textOnly Departure.lateStoresUnsure }, { on := 9, ground := Ground.phase }, { on := 10, ground := Ground.phase }], guard := none }) rfl (fun KK hKK => ?_) ?_
              · have fcu75 : u74.cell? ⟨u0.heap.size, 0, none⟩ = some .nilFunc := by simp [World.cell?, FA]
                have fzu75 : u74.frozen? ⟨u0.heap.size, 0, none⟩ = false := by simp [World.frozen?, FA]
                go_simp
                refine hKK.out _ _ (bu74.setCell LA _) (fun _ => ?_)
                clear hKK KK
                try simp only [Act.put]
                refine wpAnyH_name (fun u75 hu75 => ?_)
                have bu75 : Below W3.heap.size W3 u75 := by rw [hu75.out]; exact (bu74.setCell LA _)
                have FC2 : u75.heap[u68.heap.size]? = some (.cells #[.nilFunc] 57 (0, 0)) := by rw [hu75.out, Below.heap_setCell _ _ _ _ (fun e => by rw [e, FA] at FC; cases FC)]; exact FC
                refine wpAnyH_ready (rs := [12]) (by kernel_rfl) (by simp) ?_
                refine AllReadyH.cons (o := { dst := none, op := Op.store 57 (Operand.tmp 11) (Operand.tmp 34), type := 0, pos := "merge.go:53", after := #[{ on := 10, ground := Ground.data }, { on := 8, ground := Ground.data }, { on := 11, ground := Ground.chain }, { on := 0, ground := Ground.phase }, { on := 1, ground := Ground.phase }, { on := 2, ground := Ground.phase }, { on := 3, ground := Ground.phase }, { on := 4, ground := Ground.phase }, { on := 5, ground := Ground.phase }, { on := 6, ground := Ground.phase }, { on := 7, ground := Ground.phase }, { on := 8, ground := Ground.phase }, { on := 9, ground := Ground.phase }, { on := 10, ground := Ground.phase }, { on := 11, ground := Ground.phase }], guard := none }) rfl (fun KK hKK => ?_) ?_
                · have fcu76 : u75.cell? ⟨u68.heap.size, 0, none⟩ = some .nilFunc := by simp [World.cell?, FC2]
                  have fzu76 : u75.frozen? ⟨u68.heap.size, 0, none⟩ = false := by simp [World.frozen?, FC2]
                  go_simp
                  refine hKK.out _ _ (bu75.setCell LC _) (fun _ => ?_)
                  clear hKK KK
                  try simp only [Act.put]
                  refine wpAnyH_name (fun u76 hu76 => ?_)
                  have bu76 : Below W3.heap.size W3 u76 := by rw [hu76.out]; exact (bu75.setCell LC _)
                  refine wpAnyH_done (by kernel_rfl) ?_ _
                  have Z := vars_fin (F1 := .func 55) (x1 := #[]) (y1 := #[.pointer (some ⟨kp, 0, none⟩), .pointer (some ⟨kt, 0, none⟩), .pointer (some ⟨kz, 0, none⟩), .pointer (some ⟨kq, 0, none⟩)]) (F2 := .func 64) (x2 := #[]) (y2 := #[.pointer (some ⟨g2, 0, none⟩)]) FA FC (by decide) FK FV
                  rw [← hu75.out, ← hu76.out] at Z
                  have BZ := bu76
                  go_wp2_with fail
                  go_meet
                  case rel => exact ⟨_, _, g2, kp, kt, kz, kq, gs, gh, gp, g, rfl, rfl, Z.1, Z.2.1, Z.2.2.1, Z.2.2.2, BZ⟩
                exact AllReadyH.nil
              exact AllReadyH.nil
            exact AllReadyH.nil
          exact AllReadyH.nil
        refine AllReadyH.cons (o := { dst := some 11, op := Op.alloc 57, type := 0, pos := "merge.go:53", after := #[], guard := none }) rfl (fun KK hKK => ?_) ?_
        · go_simp
          refine hKK.out _ _ (bu67.trans (Below.mono (al_below _ _) bu67.size)) (fun _ => ?_)
          clear hKK KK
          try simp only [Act.put, List.setIfInBounds_toArray, List.set_cons_zero, List.set_cons_succ]
          refine wpAnyH_name (fun u77 hu77 => ?_)
          have bu77 : Below W3.heap.size W3 u77 := by rw [hu77.out]; exact (bu67.trans (Below.mono (al_below _ _) bu67.size))
          have qu77 : Below u67.heap.size u67 u77 := by rw [hu77.out]; exact (al_below _ _)
          try replace FS := StC.kept FS qu77
          try replace FK := KpC.kept FK qu77
          try replace FV := (qu77.cell (World.block_lt_of_cell? _ _ FV)).trans FV
          try replace FA := (qu77.block _ (lt_of_block FA)).trans FA
          try replace FC := (qu77.block _ (lt_of_block FC)).trans FC
          try replace LA := Nat.lt_of_lt_of_le LA qu77.size
          try replace LC := Nat.lt_of_lt_of_le LC qu77.size
          have FC : u77.heap[u67.heap.size]? = some (.cells #[.nilFunc] 57 (0, 0)) := by rw [hu77.out]; exact heap_alloc_new _ _
          have LC : W3.heap.size ≤ u67.heap.size := bu67.size
          refine wpAnyH_ready (rs := [6]) (by kernel_rfl) (by simp) ?_
          refine AllReadyH.cons (o := { dst := some 32, op := Op.call { callee := Callee.value (Operand.func 24), args := #[Operand.tmp 26, Operand.tmp 27, Operand.tmp 28, Operand.tmp 31], argTypes := #[22, 22, 24, 57] }, type := 62, pos := "merge.go:53", after := #[{ on := 0, ground := Ground.data }, { on := 1, ground := Ground.data }, { on := 2, ground := Ground.data }, { on := 5, ground := Ground.data }, { on := 5, ground := Ground.chain }], guard := none }) rfl (fun KK hKK => ?_) ?_
          · go_simp
            refine (HKE.out _ gs gh gp g (FB0.out _ bu77) FS).mono ?_
            rintro e u78' ⟨kp, kt, kz, kq, rfl, kcu78, bu78'⟩
            (try go_wp2_with fail)
            refine hKK.out _ _ (bu77.trans (Below.mono (bu78') bu77.size)) (fun _ => ?_)
            clear hKK KK
            try simp only [Act.put, List.setIfInBounds_toArray, List.set_cons_zero, List.set_cons_succ]
            refine wpAnyH_name (fun u78 hu78 => ?_)
            have bu78 : Below W3.heap.size W3 u78 := by rw [hu78.out]; exact (bu77.trans (Below.mono (bu78') bu77.size))
            have qu78 : Below u77.heap.size u77 u78 := by rw [hu78.out]; exact (bu78')
            try replace FS := StC.kept FS qu78
            try replace FK := KpC.kept FK qu78
            try replace FV := (qu78.cell (World.block_lt_of_cell? _ _ FV)).trans FV
            try replace FA := (qu78.block _ (lt_of_block FA)).trans FA
            try replace FC := (qu78.block _ (lt_of_block FC)).trans FC
            try replace LA := Nat.lt_of_lt_of_le LA qu78.size
            try replace LC := Nat.lt_of_lt_of_le LC qu78.size
            have FK : KpC u78 kp kt kz kq gs gh gp g (.slice a ns c) (.slice a2 nd c2) P := by rw [hu78.out]; exact kcu78
            refine wpAnyH_ready (rs := [8]) (by kernel_rfl) (by simp) ?_
            refine AllReadyH.cons (o := { dst := some 34, op := Op.call { callee := Callee.value (Operand.func 31), args := #[Operand.tmp 33], argTypes := #[22] }, type := 57, pos := "merge.go:53", after := #[{ on := 7, ground := Ground.data }, { on := 6, ground := Ground.chain }], guard := none }) rfl (fun KK hKK => ?_) ?_
            · go_simp
              refine (HHA.out _ (FB0.out _ bu78)).mono ?_
              rintro e u79' ⟨g2, rfl, hu79', bu79'⟩
              (try go_wp2_with fail)
              refine hKK.out _ _ (bu78.trans (Below.mono (bu79') bu78.size)) (fun _ => ?_)
              clear hKK KK
              try simp only [Act.put, List.setIfInBounds_toArray, List.set_cons_zero, List.set_cons_succ]
              refine wpAnyH_name (fun u79 hu79 => ?_)
              have bu79 : Below W3.heap.size W3 u79 := by rw [hu79.out]; exact (bu78.trans (Below.mono (bu79') bu78.size))
              have qu79 : Below u78.heap.size u78 u79 := by rw [hu79.out]; exact (bu79')
              try replace FS := StC.kept FS qu79
              try replace FK := KpC.kept FK qu79
              try replace FV := (qu79.cell (World.block_lt_of_cell? _ _ FV)).trans FV
              try replace FA := (qu79.block _ (lt_of_block FA)).trans FA
              try replace FC := (qu79.block _ (lt_of_block FC)).trans FC
              try replace LA := Nat.lt_of_lt_of_le LA qu79.size
              try replace LC := Nat.lt_of_lt_of_le LC qu79.size
              have FV : u79.cell? ⟨g2, 0, none⟩ = some (.slice a2 nd c2) := by rw [hu79.out]; exact hu79'
              refine wpAnyH_ready (rs := [11]) (by kernel_rfl) (by simp) ?_
              refine AllReadyH.cons (o := { dst := none, op := Op.store 62 (Operand.tmp 10) (Operand.tmp 32), type := 0, pos := "merge.go:53", after := #[{ on := 9, ground := Ground.data }, { on := 6, ground := Ground.data }, { on := 8, ground := Ground.chain }, { on := 0, ground := Ground.phase }, { on := 1, ground := Ground.phase }, { on := 2, ground := Ground.phase }, { on := 3, ground := Ground.phase }, { on := 4, ground := Ground.phase }, { on := 5, ground := Ground.phase }, { on := 6, ground := Ground.phase }, { on := 7, ground := Ground.textOnly Departure.lateStores }, { on := 8, ground := Ground.textOnly Departure.lateStoresUnsure }, { on := 9, ground := Ground.phase }, { on := 10, ground := Ground.phase }], guard := none }) rfl (fun KK hKK => ?_) ?_
              · have fcu80 : u79.cell? ⟨u0.heap.size, 0, none⟩ = some .nilFunc := by simp [World.cell?, FA]
                have fzu80 : u79.frozen? ⟨u0.heap.size, 0, none⟩ = false := by simp [World.frozen?, FA]
                go_simp
                refine hKK.out _ _ (bu79.setCell LA _) (fun _ => ?_)
                clear hKK KK
                try simp only [Act.put]
                refine wpAnyH_name (fun u80 hu80 => ?_)
                have bu80 : Below W3.heap.size W3 u80 := by rw [hu80.out]; exact (bu79.setCell LA _)
                have FC2 : u80.heap[u67.heap.size]? = some (.cells #[.nilFunc] 57 (0, 0)) := by rw [hu80.out, Below.heap_setCell _ _ _ _ (fun e => by rw [e, FA] at FC; cases FC)]; exact FC
                refine wpAnyH_ready (rs := [12]) (by kernel_rfl) (by simp) ?_
                refine AllReadyH.cons (o := { dst := none, op := Op.store 57 (Operand.tmp 11) (Operand.tmp 34), type := 0, pos := "merge.go:53", after := #[{ on := 10, ground := Ground.data }, { on := 8, ground := Ground.data }, { on := 11, ground := Ground.chain }, { on := 0, ground := Ground.phase }, { on := 1, ground := Ground.phase }, { on := 2, ground := Ground.phase }, { on := 3, ground := Ground.phase }, { on := 4, ground := Ground.phase }, { on := 5, ground := Ground.phase }, { on := 6, ground := Ground.phase }, { on := 7, ground := Ground.phase }, { on := 8, ground := Ground.phase }, { on := 9, ground := Ground.phase }, { on := 10, ground := Ground.phase }, { on := 11, ground := Ground.phase }], guard := none }) rfl (fun KK hKK => ?_) ?_
                · have fcu81 : u80.cell? ⟨u67.heap.size, 0, none⟩ = some .nilFunc := by simp [World.cell?, FC2]
                  have fzu81 : u80.frozen? ⟨u67.heap.size, 0, none⟩ = false := by simp [World.frozen?, FC2]
                  go_simp
                  refine hKK.out _ _ (bu80.setCell LC _) (fun _ => ?_)
                  clear hKK KK
                  try simp only [Act.put]
                  refine wpAnyH_name (fun u81 hu81 => ?_)
                  have bu81 : Below W3.heap.size W3 u81 := by rw [hu81.out]; exact (bu80.setCell LC _)
                  refine wpAnyH_done (by kernel_rfl) ?_ _
                  have Z := vars_fin (F1 := .func 55) (x1 := #[]) (y1 := #[.pointer (some ⟨kp, 0, none⟩), .pointer (some ⟨kt, 0, none⟩), .pointer (some ⟨kz, 0, none⟩), .pointer (some ⟨kq, 0, none⟩)]) (F2 := .func 64) (x2 := #[]) (y2 := #[.pointer (some ⟨g2, 0, none⟩)]) FA FC (by decide) FK FV
                  rw [← hu80.out, ← hu81.out] at Z
                  have BZ := bu81
                  go_wp2_with fail
                  go_meet
                  case rel => exact ⟨_, _, g2, kp, kt, kz, kq, gs, gh, gp, g, rfl, rfl, Z.1, Z.2.1, Z.2.2.1, Z.2.2.2, BZ⟩
                exact AllReadyH.nil
              exact AllReadyH.nil
            exact AllReadyH.nil
          exact AllReadyH.nil
        exact AllReadyH.nil
      refine AllReadyH.cons (o := { dst := some 11, op := Op.alloc 57, type := 0, pos := "merge.go:53", after := #[], guard := none }) rfl (fun KK hKK => ?_) ?_
      · go_simp
        refine hKK.out _ _ (bu66.trans (Below.mono (al_below _ _) bu66.size)) (fun _ => ?_)
        clear hKK KK
        try simp only [Act.put, List.setIfInBounds_toArray, List.set_cons_zero, List.set_cons_succ]
        refine wpAnyH_name (fun u82 hu82 => ?_)
        have bu82 : Below W3.heap.size W3 u82 := by rw [hu82.out]; exact (bu66.trans (Below.mono (al_below _ _) bu66.size))
        have qu82 : Below u66.heap.size u66 u82 := by rw [hu82.out]; exact (al_below _ _)
        try replace FS := StC.kept FS qu82
        try replace FK := KpC.kept FK qu82
        try replace FV := (qu82.cell (World.block_lt_of_cell? _ _ FV)).trans FV
        try replace FA := (qu82.block _ (lt_of_block FA)).trans FA
        try replace FC := (qu82.block _ (lt_of_block FC)).trans FC
        try replace LA := Nat.lt_of_lt_of_le LA qu82.size
        try replace LC := Nat.lt_of_lt_of_le LC qu82.size
        have FC : u82.heap[u66.heap.size]? = some (.cells #[.nilFunc] 57 (0, 0)) := by rw [hu82.out]; exact heap_alloc_new _ _
        have LC : W3.heap.size ≤ u66.heap.size := bu66.size
        refine wpAnyH_ready (rs := [5]) (by kernel_rfl) (by simp) ?_
        refine AllReadyH.cons (o := { dst := some 31, op := Op.call { callee := Callee.value (Operand.func 20), args := #[Operand.tmp 29, Operand.tmp 30], argTypes := #[22, 24] }, type := 57, pos := "merge.go:53", after := #[{ on := 3, ground := Ground.data }, { on := 4, ground := Ground.data }], guard := none }) rfl (fun KK hKK => ?_) ?_
        · go_simp
          refine (HST.out _ (FB0.out _ bu82)).mono ?_
          rintro e u83' ⟨gs, gh, gp, g, rfl, stu83, bu83'⟩
          (try go_wp2_with fail)
          refine hKK.out _ _ (bu82.trans (Below.mono (bu83') bu82.size)) (fun _ => ?_)
          clear hKK KK
          try simp only [Act.put, List.setIfInBounds_toArray, List.set_cons_zero, List.set_cons_succ]
          refine wpAnyH_name (fun u83 hu83 => ?_)
          have bu83 : Below W3.heap.size W3 u83 := by rw [hu83.out]; exact (bu82.trans (Below.mono (bu83') bu82.size))
          have qu83 : Below u82.heap.size u82 u83 := by rw [hu83.out]; exact (bu83')
          try replace FS := StC.kept FS qu83
          try replace FK := KpC.kept FK qu83
          try replace FV := (qu83.cell (World.block_lt_of_cell? _ _ FV)).trans FV
          try replace FA := (qu83.block _ (lt_of_block FA)).trans FA
          try replace FC := (qu83.block _ (lt_of_block FC)).trans FC
          try replace LA := Nat.lt_of_lt_of_le LA qu83.size
          try replace LC := Nat.lt_of_lt_of_le LC qu83.size
          have FS : StC u83 gs gh gp g (.slice a ns c) P.del := by rw [hu83.out]; exact stu83
          refine wpAnyH_ready (rs := [6]) (by kernel_rfl) (by simp) ?_
          refine AllReadyH.cons (o := { dst := some 32, op := Op.call { callee := Callee.value (Operand.func 24), args := #[Operand.tmp 26, Operand.tmp 27, Operand.tmp 28, Operand.tmp 31], argTypes := #[22, 22, 24, 57] }, type := 62, pos := "merge.go:53", after := #[{ on := 0, ground := Ground.data }, { on := 1, ground := Ground.data }, { on := 2, ground := Ground.data }, { on := 5, ground := Ground.data }, { on := 5, ground := Ground.chain }], guard := none }) rfl (fun KK hKK => ?_) ?_
          · go_simp
            refine (HKE.out _ gs gh gp g (FB0.out _ bu83) FS).mono ?_
            rintro e u84' ⟨kp, kt, kz, kq, rfl, kcu84, bu84'⟩
            (try go_wp2_with fail)
            refine hKK.out _ _ (bu83.trans (Below.mono (bu84') bu83.size)) (fun _ => ?_)
            clear hKK KK
            try simp only [Act.put, List.setIfInBounds_toArray, List.set_cons_zero, List.set_cons_succ]
            refine wpAnyH_name (fun u84 hu84 => ?_)
            have bu84 : Below W3.heap.size W3 u84 := by rw [hu84.out]; exact (bu83.trans (Below.mono (bu84') bu83.size))
            have qu84 : Below u83.heap.size u83 u84 := by rw [hu84.out]; exact (bu84')
            try replace FS := StC.kept FS qu84
            try replace FK := KpC.kept FK qu84
            try replace FV := (qu84.cell (World.block_lt_of_cell? _ _ FV)).trans FV
            try replace FA := (qu84.block _ (lt_of_block FA)).trans FA
            try replace FC := (qu84.block _ (lt_of_block FC)).trans FC
            try replace LA := Nat.lt_of_lt_of_le LA qu84.size
            try replace LC := Nat.lt_of_lt_of_le LC qu84.size
            have FK : KpC u84 kp kt kz kq gs gh gp g (.slice a ns c) (.slice a2 nd c2) P := by rw [hu84.out]; exact kcu84
            refine wpAnyH_ready (rs := [8]) (by kernel_rfl) (by simp) ?_
            refine AllReadyH.cons (o := { dst := some 34, op := Op.call { callee := Callee.value (Operand.func 31), args := #[Operand.tmp 33], argTypes := #[22] }, type := 57, pos := "merge.go:53", after := #[{ on := 7, ground := Ground.data }, { on := 6, ground := Ground.chain }], guard := none }) rfl (fun KK hKK => ?_) ?_
            · go_simp
              refine (HHA.out _ (FB0.out _ bu84)).mono ?_
              rintro e u85' ⟨g2, rfl, hu85', bu85'⟩
              (try go_wp2_with fail)
              refine hKK.out _ _ (bu84.trans (Below.mono (bu85') bu84.size)) (fun _ => ?_)
              clear hKK KK
              try simp only [Act.put, List.setIfInBounds_toArray, List.set_cons_zero, List.set_cons_succ]
              refine wpAnyH_name (fun u85 hu85 => ?_)
              have bu85 : Below W3.heap.size W3 u85 := by rw [hu85.out]; exact (bu84.trans (Below.mono (bu85') bu84.size))
              have qu85 : Below u84.heap.size u84 u85 := by rw [hu85.out]; exact (bu85')
              try replace FS := StC.kept FS qu85
              try replace FK := KpC.kept FK qu85
              try replace FV := (qu85.cell (World.block_lt_of_cell? _ _ FV)).trans FV
              try replace FA := (qu85.block _ (lt_of_block FA)).trans FA
              try replace FC := (qu85.block _ (lt_of_block FC)).trans FC
              try replace LA := Nat.lt_of_lt_of_le LA qu85.size
              try replace LC := Nat.lt_of_lt_of_le LC qu85.size
              have FV : u85.cell? ⟨g2, 0, none⟩ = some (.slice a2 nd c2) := by rw [hu85.out]; exact hu85'
              refine wpAnyH_ready (rs := [11]) (by kernel_rfl) (by simp) ?_
              refine AllReadyH.cons (o := { dst := none, op := Op.store 62 (Operand.tmp 10) (Operand.tmp 32), type := 0, pos := "merge.go:53", after := #[{ on := 9, ground := Ground.data }, { on := 6, ground := Ground.data }, { on := 8, ground := Ground.chain }, { on := 0, ground := Ground.phase }, { on := 1, ground := Ground.phase }, { on := 2, ground := Ground.phase }, { on := 3, ground := Ground.phase }, { on := 4, ground := Ground.phase }, { on := 5, ground := Ground.phase }, { on := 6, ground := Ground.phase }, { on := 7, ground := Ground.textOnly Departure.lateStores }, { on := 8, ground := Ground.textOnly Departure.lateStoresUnsure }, { on := 9, ground := Ground.phase }, { on := 10, ground := Ground.phase }], guard := none }) rfl (fun KK hKK => ?_) ?_
              · have fcu86 : u85.cell? ⟨u0.heap.size, 0, none⟩ = some .nilFunc := by simp [World.cell?, FA]
                have fzu86 : u85.frozen? ⟨u0.heap.size, 0, none⟩ = false := by simp [World.frozen?, FA]
                go_simp
                refine hKK.out _ _ (bu85.setCell LA _) (fun _ => ?_)
                clear hKK KK
                try simp only [Act.put]
                refine wpAnyH_name (fun u86 hu86 => ?_)
                have bu86 : Below W3.heap.size W3 u86 := by rw [hu86.out]; exact (bu85.setCell LA _)
                have FC2 : u86.heap[u66.heap.size]? = some (.cells #[.nilFunc] 57 (0, 0)) := by rw [hu86.out, Below.heap_setCell _ _ _ _ (fun e => by rw [e, FA] at FC; cases FC)]; exact FC
                refine wpAnyH_ready (rs := [12]) (by kernel_rfl) (by simp) ?_
                refine AllReadyH.cons (o := { dst := none, op := Op.store 57 (Operand.tmp 11) (Operand.tmp 34), type := 0, pos := "merge.go:53", after := #[{ on := 10, ground := Ground.data }, { on := 8, ground := Ground.data }, { on := 11, ground := Ground.chain }, { on := 0, ground := Ground.phase }, { on := 1, ground := Ground.phase }, { on := 2, ground := Ground.phase }, { on := 3, ground := Ground.phase }, { on := 4, ground := Ground.phase }, { on := 5, ground := Ground.phase }, { on := 6, ground := Ground.phase }, { on := 7, ground := Ground.phase }, { on := 8, ground := Ground.phase }, { on := 9, ground := Ground.phase }, { on := 10, ground := Ground.phase }, { on := 11, ground := Ground.phase }], guard := none }) rfl (fun KK hKK => ?_) ?_
                · have fcu87 : u86.cell? ⟨u66.heap.size, 0, none⟩ = some .nilFunc := by simp [World.cell?, FC2]
                  have fzu87 : u86.frozen? ⟨u66.heap.size, 0, none⟩ = false := by simp [World.frozen?, FC2]
                  go_simp
                  refine hKK.out _ _ (bu86.setCell LC _) (fun _ => ?_)
                  clear hKK KK
                  try simp only [Act.put]
                  refine wpAnyH_name (fun u87 hu87 => ?_)
                  have bu87 : Below W3.heap.size W3 u87 := by rw [hu87.out]; exact (bu86.setCell LC _)
                  refine wpAnyH_done (by kernel_rfl) ?_ _
                  have Z := vars_fin (F1 := .func 55) (x1 := #[]) (y1 := #[.pointer (some ⟨kp, 0, none⟩), .pointer (some ⟨kt, 0, none⟩), .pointer (some ⟨kz, 0, none⟩), .pointer (some ⟨kq, 0, none⟩)]) (F2 := .func 64) (x2 := #[]) (y2 := #[.pointer (some ⟨g2, 0, none⟩)]) FA FC (by decide) FK FV
                  rw [← hu86.out, ← hu87.out] at Z
                  have BZ := bu87
                  go_wp2_with fail
                  go_meet
                  case rel => exact ⟨_, _, g2, kp, kt, kz, kq, gs, gh, gp, g, rfl, rfl, Z.1, Z.2.1, Z.2.2.1, Z.2.2.2, BZ⟩
                exact AllReadyH.nil
              exact AllReadyH.nil
            exact AllReadyH.nil
          exact AllReadyH.nil
        exact AllReadyH.nil
      exact AllReadyH.nil
    refine AllReadyH.cons (o := { dst := some 11, op := Op.alloc 57, type := 0, pos := "merge.go:53", after := #[], guard := none }) rfl (fun KK hKK => ?_) ?_
    · go_simp
      refine hKK.out _ _ (bu0.trans (Below.mono (al_below _ _) bu0.size)) (fun _ => ?_)
      clear hKK KK
      try simp only [Act.put, List.setIfInBounds_toArray, List.set_cons_zero, List.set_cons_succ]
      refine wpAnyH_name (fun u88 hu88 => ?_)
      have bu88 : Below W3.heap.size W3 u88 := by rw [hu88.out]; exact (bu0.trans (Below.mono (al_below _ _) bu0.size))
      have qu88 : Below u0.heap.size u0 u88 := by rw [hu88.out]; exact (al_below _ _)
      try replace FS := StC.kept FS qu88
      try replace FK := KpC.kept FK qu88
      try replace FV := (qu88.cell (World.block_lt_of_cell? _ _ FV)).trans FV
      try replace FA := (qu88.block _ (lt_of_block FA)).trans FA
      try replace FC := (qu88.block _ (lt_of_block FC)).trans FC
      try replace LA := Nat.lt_of_lt_of_le LA qu88.size
      try replace LC := Nat.lt_of_lt_of_le LC qu88.size
      have FC : u88.heap[u0.heap.size]? = some (.cells #[.nilFunc] 57 (0, 0)) := by rw [hu88.out]; exact heap_alloc_new _ _
      have LC : W3.heap.size ≤ u0.heap.size := bu0.size
      refine wpAnyH_ready (rs := [5, 9]) (by kernel_rfl) (by simp) ?_
      refine AllReadyH.cons (o := { dst := some 31, op := Op.call { callee := Callee.value (Operand.func 20), args := #[Operand.tmp 29, Operand.tmp 30], argTypes := #[22, 24] }, type := 57, pos := "merge.go:53", after := #[{ on := 3, ground := Ground.data }, { on := 4, ground := Ground.data }], guard := none }) rfl (fun KK hKK => ?_) ?_
      · go_simp
        refine (HST.out _ (FB0.out _ bu88)).mono ?_
        rintro e u89' ⟨gs, gh, gp, g, rfl, stu89, bu89'⟩
        (try go_wp2_with fail)
        refine hKK.out _ _ (bu88.trans (Below.mono (bu89') bu88.size)) (fun _ => ?_)
        clear hKK KK
        try simp only [Act.put, List.setIfInBounds_toArray, List.set_cons_zero, List.set_cons_succ]
        refine wpAnyH_name (fun u89 hu89 => ?_)
        have bu89 : Below W3.heap.size W3 u89 := by rw [hu89.out]; exact (bu88.trans (Below.mono (bu89') bu88.size))
        have qu89 : Below u88.heap.size u88 u89 := by rw [hu89.out]; exact (bu89')
        try replace FS := StC.kept FS qu89
        try replace FK := KpC.kept FK qu89
        try replace FV := (qu89.cell (World.block_lt_of_cell? _ _ FV)).trans FV
        try replace FA := (qu89.block _ (lt_of_block FA)).trans FA
        try replace FC := (qu89.block _ (lt_of_block FC)).trans FC
        try replace LA := Nat.lt_of_lt_of_le LA qu89.size
        try replace LC := Nat.lt_of_lt_of_le LC qu89.size
        have FS : StC u89 gs gh gp g (.slice a ns c) P.del := by rw [hu89.out]; exact stu89
        refine wpAnyH_ready (rs := [6, 9]) (by kernel_rfl) (by simp) ?_
        refine AllReadyH.cons (o := { dst := some 32, op := Op.call { callee := Callee.value (Operand.func 24), args := #[Operand.tmp 26, Operand.tmp 27, Operand.tmp 28, Operand.tmp 31], argTypes := #[22, 22, 24, 57] }, type := 62, pos := "merge.go:53", after := #[{ on := 0, ground := Ground.data }, { on := 1, ground := Ground.data }, { on := 2, ground := Ground.data }, { on := 5, ground := Ground.data }, { on := 5, ground := Ground.chain }], guard := none }) rfl (fun KK hKK => ?_) ?_
        · go_simp
          refine (HKE.out _ gs gh gp g (FB0.out _ bu89) FS).mono ?_
          rintro e u90' ⟨kp, kt, kz, kq, rfl, kcu90, bu90'⟩
          (try go_wp2_with fail)
          refine hKK.out _ _ (bu89.trans (Below.mono (bu90') bu89.size)) (fun _ => ?_)
          clear hKK KK
          try simp only [Act.put, List.setIfInBounds_toArray, List.set_cons_zero, List.set_cons_succ]
          refine wpAnyH_name (fun u90 hu90 => ?_)
          have bu90 : Below W3.heap.size W3 u90 := by rw [hu90.out]; exact (bu89.trans (Below.mono (bu90') bu89.size))
          have qu90 : Below u89.heap.size u89 u90 := by rw [hu90.out]; exact (bu90')
          try replace FS := StC.kept FS qu90
          try replace FK := KpC.kept FK qu90
          try replace FV := (qu90.cell (World.block_lt_of_cell? _ _ FV)).trans FV
          try replace FA := (qu90.block _ (lt_of_block FA)).trans FA
          try replace FC := (qu90.block _ (lt_of_block FC)).trans FC
          try replace LA := Nat.lt_of_lt_of_le LA qu90.size
          try replace LC := Nat.lt_of_lt_of_le LC qu90.size
          have FK : KpC u90 kp kt kz kq gs gh gp g (.slice a ns c) (.slice a2 nd c2) P := by rw [hu90.out]; exact kcu90
          refine wpAnyH_ready (rs := [8, 9]) (by kernel_rfl) (by simp) ?_
          refine AllReadyH.cons (o := { dst := some 34, op := Op.call { callee := Callee.value (Operand.func 31), args := #[Operand.tmp 33], argTypes := #[22] }, type := 57, pos := "merge.go:53", after := #[{ on := 7, ground := Ground.data }, { on := 6, ground := Ground.chain }], guard := none }) rfl (fun KK hKK => ?_) ?_
          · go_simp
            refine (HHA.out _ (FB0.out _ bu90)).mono ?_
            rintro e u91' ⟨g2, rfl, hu91', bu91'⟩
            (try go_wp2_with fail)
            refine hKK.out _ _ (bu90.trans (Below.mono (bu91') bu90.size)) (fun _ => ?_)
            clear hKK KK
            try simp only [Act.put, List.setIfInBounds_toArray, List.set_cons_zero, List.set_cons_succ]
            refine wpAnyH_name (fun u91 hu91 => ?_)
            have bu91 : Below W3.heap.size W3 u91 := by rw [hu91.out]; exact (bu90.trans (Below.mono (bu91') bu90.size))
            have qu91 : Below u90.heap.size u90 u91 := by rw [hu91.out]; exact (bu91')
            try replace FS := StC.kept FS qu91
            try replace FK := KpC.kept FK qu91
            try replace FV := (qu91.cell (World.block_lt_of_cell? _ _ FV)).trans FV
            try replace FA := (qu91.block _ (lt_of_block FA)).trans FA
            try replace FC := (qu91.block _ (lt_of_block FC)).trans FC
            try replace LA := Nat.lt_of_lt_of_le LA qu91.size
            try replace LC := Nat.lt_of_lt_of_le LC qu91.size
            have FV : u91.cell? ⟨g2, 0, none⟩ = some (.slice a2 nd c2) := by rw [hu91.out]; exact hu91'
            refine wpAnyH_ready (rs := [9]) (by kernel_rfl) (by simp) ?_
            refine AllReadyH.cons (o := { dst := some 10, op := Op.alloc 62, type := 0, pos := "merge.go:53", after := #[], guard := none }) rfl (fun KK hKK => ?_) ?_
            · go_simp
              refine hKK.out _ _ (bu91.trans (Below.mono (al_below _ _) bu91.size)) (fun _ => ?_)
              clear hKK KK
              try simp only [Act.put, List.setIfInBounds_toArray, List.set_cons_zero, List.set_cons_succ]
              refine wpAnyH_name (fun u92 hu92 => ?_)
              have bu92 : Below W3.heap.size W3 u92 := by rw [hu92.out]; exact (bu91.trans (Below.mono (al_below _ _) bu91.size))
              have qu92 : Below u91.heap.size u91 u92 := by rw [hu92.out]; exact (al_below _ _)
              try replace FS := StC.kept FS qu92
              try replace FK := KpC.kept FK qu92
              try replace FV := (qu92.cell (World.block_lt_of_cell? _ _ FV)).trans FV
              try replace FA := (qu92.block _ (lt_of_block FA)).trans FA
              try replace FC := (qu92.block _ (lt_of_block FC)).trans FC
              try replace LA := Nat.lt_of_lt_of_le LA qu92.size
              try replace LC := Nat.lt_of_lt_of_le LC qu92.size
              have FA : u92.heap[u91.heap.size]? = some (.cells #[.nilFunc] 62 (0, 0)) := by rw [hu92.out]; exact heap_alloc_new _ _
              have LA : W3.heap.size ≤ u91.heap.size := bu91.size
              refine wpAnyH_ready (rs := [11]) (by kernel_rfl) (by simp) ?_
              refine AllReadyH.cons (o := { dst := none, op := Op.store 62 (Operand.tmp 10) (Operand.tmp 32), type := 0, pos := "merge.go:53", after := #[{ on := 9, ground := Ground.data }, { on := 6, ground := Ground.data }, { on := 8, ground := Ground.chain }, { on := 0, ground := Ground.phase }, { on := 1, ground := Ground.phase }, { on := 2, ground := Ground.phase }, { on := 3, ground := Ground.phase }, { on := 4, ground := Ground.phase }, { on := 5, ground := Ground.phase }, { on := 6, ground := Ground.phase }, { on := 7, ground := Ground.textOnly Departure.lateStores }, { on := 8, ground := Ground.textOnly Departure.lateStoresUnsure }, { on := 9, ground := Ground.phase }, { on := 10, ground := Ground.phase }], guard := none }) rfl (fun KK hKK => ?_) ?_
              · have fcu93 : u92.cell? ⟨u91.heap.size, 0, none⟩ = some .nilFunc := by simp [World.cell?, FA]
                have fzu93 : u92.frozen? ⟨u91.heap.size, 0, none⟩ = false := by simp [World.frozen?, FA]
                go_simp
                refine hKK.out _ _ (bu92.setCell LA _) (fun _ => ?_)
                clear hKK KK
                try simp only [Act.put]
                refine wpAnyH_name (fun u93 hu93 => ?_)
                have bu93 : Below W3.heap.size W3 u93 := by rw [hu93.out]; exact (bu92.setCell LA _)
                have FC2 : u93.heap[u0.heap.size]? = some (.cells #[.nilFunc] 57 (0, 0)) := by rw [hu93.out, Below.heap_setCell _ _ _ _ (fun e => by rw [e, FA] at FC; cases FC)]; exact FC
                refine wpAnyH_ready (rs := [12]) (by kernel_rfl) (by simp) ?_
                refine AllReadyH.cons (o := { dst := none, op := Op.store 57 (Operand.tmp 11) (Operand.tmp 34), type := 0, pos := "merge.go:53", after := #[{ on := 10, ground := Ground.data }, { on := 8, ground := Ground.data }, { on := 11, ground := Ground.chain }, { on := 0, ground := Ground.phase }, { on := 1, ground := Ground.phase }, { on := 2, ground := Ground.phase }, { on := 3, ground := Ground.phase }, { on := 4, ground := Ground.phase }, { on := 5, ground := Ground.phase }, { on := 6, ground := Ground.phase }, { on := 7, ground := Ground.phase }, { on := 8, ground := Ground.phase }, { on := 9, ground := Ground.phase }, { on := 10, ground := Ground.phase }, { on := 11, ground := Ground.phase }], guard := none }) rfl (fun KK hKK => ?_) ?_
                · have fcu94 : u93.cell? ⟨u0.heap.size, 0, none⟩ = some .nilFunc := by simp [World.cell?, FC2]
                  have fzu94 : u93.frozen? ⟨u0.heap.size, 0, none⟩ = false := by simp [World.frozen?, FC2]
                  go_simp
                  refine hKK.out _ _ (bu93.setCell LC _) (fun _ => ?_)
                  clear hKK KK
                  try simp only [Act.put]
                  refine wpAnyH_name (fun u94 hu94 => ?_)
                  have bu94 : Below W3.heap.size W3 u94 := by rw [hu94.out]; exact (bu93.setCell LC _)
                  refine wpAnyH_done (by kernel_rfl) ?_ _
                  have Z := vars_fin (F1 := .func 55) (x1 := #[]) (y1 := #[.pointer (some ⟨kp, 0, none⟩), .pointer (some ⟨kt, 0, none⟩), .pointer (some ⟨kz, 0, none⟩), .pointer (some ⟨kq, 0, none⟩)]) (F2 := .func 64) (x2 := #[]) (y2 := #[.pointer (some ⟨g2, 0, none⟩)]) FA FC (by decide) FK FV
                  rw [← hu93.out, ← hu94.out] at Z
                  have BZ := bu94
                  go_wp2_with fail
                  go_meet
                  case rel => exact ⟨_, _, g2, kp, kt, kz, kq, gs, gh, gp, g, rfl, rfl, Z.1, Z.2.1, Z.2.2.1, Z.2.2.2, BZ⟩
                exact AllReadyH.nil
              exact AllReadyH.nil
            exact AllReadyH.nil
          refine AllReadyH.cons (o := { dst := some 10, op := Op.alloc 62, type := 0, pos := "merge.go:53", after := #[], guard := none }) rfl (fun KK hKK => ?_) ?_
          · go_simp
            refine hKK.out _ _ (bu90.trans (Below.mono (al_below _ _) bu90.size)) (fun _ => ?_)
            clear hKK KK
            try simp only [Act.put, List.setIfInBounds_toArray, List.set_cons_zero, List.set_cons_succ]
            refine wpAnyH_name (fun u95 hu95 => ?_)
            have bu95 : Below W3.heap.size W3 u95 := by rw [hu95.out]; exact (bu90.trans (Below.mono (al_below _ _) bu90.size))
            have qu95 : Below u90.heap.size u90 u95 := by rw [hu95.out]; exact (al_below _ _)
            try replace FS := StC.kept FS qu95
            try replace FK := KpC.kept FK qu95
            try replace FV := (qu95.cell (World.block_lt_of_cell? _ _ FV)).trans FV
            try replace FA := (qu95.block _ (lt_of_block FA)).trans FA
            try replace FC := (qu95.block _ (lt_of_block FC)).trans FC
            try replace LA := Nat.lt_of_lt_of_le LA qu95.size
            try replace LC := Nat.lt_of_lt_of_le LC qu95.size
            have FA : u95.heap[u90.heap.size]? = some (.cells #[.nilFunc] 62 (0, 0)) := by rw [hu95.out]; exact heap_alloc_new _ _
            have LA : W3.heap.size ≤ u90.heap.size := bu90.size
            refine wpAnyH_ready (rs := [8]) (by kernel_rfl) (by simp) ?_
            refine AllReadyH.cons (o := { dst := some 34, op := Op.call { callee := Callee.value (Operand.func 31), args := #[Operand.tmp 33], argTypes := #[22] }, type := 57, pos := "merge.go:53", after := #[{ on := 7, ground := Ground.data }, { on := 6, ground := Ground.chain }], guard := none }) rfl (fun KK hKK => ?_) ?_
            · go_simp
              refine (HHA.out _ (FB0.out _ bu95)).mono ?_
              rintro e u96' ⟨g2, rfl, hu96', bu96'⟩
              (try go_wp2_with fail)
              refine hKK.out _ _ (bu95.trans (Below.mono (bu96') bu95.size)) (fun _ => ?_)
              clear hKK KK
              try simp only [Act.put, List.setIfInBounds_toArray, List.set_cons_zero, List.set_cons_succ]
              refine wpAnyH_name (fun u96 hu96 => ?_)
              have bu96 : Below W3.heap.size W3 u96 := by rw [hu96.out]; exact (bu95.trans (Below.mono (bu96') bu95.size))
              have qu96 : Below u95.heap.size u95 u96 := by rw [hu96.out]; exact (bu96')
              try replace FS := StC.kept FS qu96
              try replace FK := KpC.kept FK qu96
              try replace FV := (qu96.cell (World.block_lt_of_cell? _ _ FV)).trans FV
              try replace FA := (qu96.block _ (lt_of_block FA)).trans FA
              try replace FC := (qu96.block _ (lt_of_block FC)).trans FC
              try replace LA := Nat.lt_of_lt_of_le LA qu96.size
              try replace LC := Nat.lt_of_lt_of_le LC qu96.size
              have FV : u96.cell? ⟨g2, 0, none⟩ = some (.slice a2 nd c2) := by rw [hu96.out]; exact hu96'
              refine wpAnyH_ready (rs := [11]) (by kernel_rfl) (by simp) ?_
              refine AllReadyH.cons (o := { dst := none, op := Op.store 62 (Operand.tmp 10) (Operand.tmp 32), type := 0, pos := "merge.go:53", after := #[{ on := 9, ground := Ground.data }, { on := 6, ground := Ground.data }, { on := 8, ground := Ground.chain }, { on := 0, ground := Ground.phase }, { on := 1, ground := Ground.phase }, { on := 2, ground := Ground.phase }, { on := 3, ground := Ground.phase }, { on := 4, ground := Ground.phase }, { on := 5, ground := Ground.phase }, { on := 6, ground := Ground.phase }, { on := 7, ground := Ground.textOnly Departure.lateStores }, { on := 8, ground := Ground.textOnly Departure.lateStoresUnsure }, { on := 9, ground := Ground.phase }, { on := 10, ground := Ground.phase }], guard := none }) rfl (fun KK hKK => ?_) ?_
              · have fcu97 : u96.cell? ⟨u90.heap.size, 0, none⟩ = some .nilFunc := by simp [World.cell?, FA]
                have fzu97 : u96.frozen? ⟨u90.heap.size, 0, none⟩ = false := by simp [World.frozen?, FA]
                go_simp
                refine hKK.out _ _ (bu96.setCell LA _) (fun _ => ?_)
                clear hKK KK
                try simp only [Act.put]
                refine wpAnyH_name (fun u97 hu97 => ?_)
                have bu97 : Below W3.heap.size W3 u97 := by rw [hu97.out]; exact (bu96.setCell LA _)
                have FC2 : u97.heap[u0.heap.size]? = some (.cells #[.nilFunc] 57 (0, 0)) := by rw [hu97.out, Below.heap_setCell _ _ _ _ (fun e => by rw [e, FA] at FC; cases FC)]; exact FC
                refine wpAnyH_ready (rs := [12]) (by kernel_rfl) (by simp) ?_
                refine AllReadyH.cons (o := { dst := none, op := Op.store 57 (Operand.tmp 11) (Operand.tmp 34), type := 0, pos := "merge.go:53", after := #[{ on := 10, ground := Ground.data }, { on := 8, ground := Ground.data }, { on := 11, ground := Ground.chain }, { on := 0, ground := Ground.phase }, { on := 1, ground := Ground.phase }, { on := 2, ground := Ground.phase }, { on := 3, ground := Ground.phase }, { on := 4, ground := Ground.phase }, { on := 5, ground := Ground.phase }, { on := 6, ground := Ground.phase }, { on := 7, ground := Ground.phase }, { on := 8, ground := Ground.phase }, { on := 9, ground := Ground.phase }, { on := 10, ground := Ground.phase }, { on := 11, ground := Ground.phase }], guard := none }) rfl (fun KK hKK => ?_) ?_
                · have fcu98 : u97.cell? ⟨u0.heap.size, 0, none⟩ = some .nilFunc := by simp [World.cell?, FC2]
                  have fzu98 : u97.frozen? ⟨u0.heap.size, 0, none⟩ = false := by simp [World.frozen?, FC2]
                  go_simp
                  refine hKK.out _ _ (bu97.setCell LC _) (fun _ => ?_)
                  clear hKK KK
                  try simp only [Act.put]
                  refine wpAnyH_name (fun u98 hu98 => ?_)
                  have bu98 : Below W3.heap.size W3 u98 := by rw [hu98.out]; exact (bu97.setCell LC _)
                  refine wpAnyH_done (by kernel_rfl) ?_ _
                  have Z := vars_fin (F1 := .func 55) (x1 := #[]) (y1 := #[.pointer (some ⟨kp, 0, none⟩), .pointer (some ⟨kt, 0, none⟩), .pointer (some ⟨kz, 0, none⟩), .pointer (some ⟨kq, 0, none⟩)]) (F2 := .func 64) (x2 := #[]) (y2 := #[.pointer (some ⟨g2, 0, none⟩)]) FA FC (by decide) FK FV
                  rw [← hu97.out, ← hu98.out] at Z
                  have BZ := bu98
                  go_wp2_with fail
                  go_meet
                  case rel => exact ⟨_, _, g2, kp, kt, kz, kq, gs, gh, gp, g, rfl, rfl, Z.1, Z.2.1, Z.2.2.1, Z.2.2.2, BZ⟩
                exact AllReadyH.nil
              exact AllReadyH.nil
            exact AllReadyH.nil
          exact AllReadyH.nil
        refine AllReadyH.cons (o := { dst := some 10, op := Op.alloc 62, type := 0, pos := "merge.go:53", after := #[], guard := none }) rfl (fun KK hKK => ?_) ?_
        · go_simp
          refine hKK.out _ _ (bu89.trans (Below.mono (al_below _ _) bu89.size)) (fun _ => ?_)
          clear hKK KK
          try simp only [Act.put, List.setIfInBounds_toArray, List.set_cons_zero, List.set_cons_succ]
          refine wpAnyH_name (fun u99 hu99 => ?_)
          have bu99 : Below W3.heap.size W3 u99 := by rw [hu99.out]; exact (bu89.trans (Below.mono (al_below _ _) bu89.size))
          have qu99 : Below u89.heap.size u89 u99 := by rw [hu99.out]; exact (al_below _ _)
          try replace FS := StC.kept FS qu99
          try replace FK := KpC.kept FK qu99
          try replace FV := (qu99.cell (World.block_lt_of_cell? _ _ FV)).trans FV
          try replace FA := (qu99.block _ (lt_of_block FA)).trans FA
          try replace FC := (qu99.block _ (lt_of_block FC)).trans FC
          try replace LA := Nat.lt_of_lt_of_le LA qu99.size
          try replace LC := Nat.lt_of_lt_of_le LC qu99.size
          have FA : u99.heap[u89.heap.size]? = some (.cells #[.nilFunc] 62 (0, 0)) := by rw [hu99.out]; exact heap_alloc_new _ _
          have LA : W3.heap.size ≤ u89.heap.size := bu89.size
          refine wpAnyH_ready (rs := [6]) (by kernel_rfl) (by simp) ?_
          refine AllReadyH.cons (o := { dst := some 32, op := Op.call { callee := Callee.value (Operand.func 24), args := #[Operand.tmp 26, Operand.tmp 27, Operand.tmp 28, Operand.tmp 31], argTypes := #[22, 22, 24, 57] }, type := 62, pos := "merge.go:53", after := #[{ on := 0, ground := Ground.data }, { on := 1, ground := Ground.data }, { on := 2, ground := Ground.data }, { on := 5, ground := Ground.data }, { on := 5, ground := Ground.chain }], guard := none }) rfl (fun KK hKK => ?_) ?_
          · go_simp
            refine (HKE.out _ gs gh gp g (FB0.out _ bu99) FS).mono ?_
            rintro e u100' ⟨kp, kt, kz, kq, rfl, kcu100, bu100'⟩
            (try go_wp2_with fail)
            refine hKK.out _ _ (bu99.trans (Below.mono (bu100') bu99.size)) (fun _ => ?_)
            clear hKK KK
            try simp only [Act.put, List.setIfInBounds_toArray, List.set_cons_zero, List.set_cons_succ]
            refine wpAnyH_name (fun u100 hu100 => ?_)
            have bu100 : Below W3.heap.size W3 u100 := by rw [hu100.out]; exact (bu99.trans (Below.mono (bu100') bu99.size))
            have qu100 : Below u99.heap.size u99 u100 := by rw [hu100.out]; exact (bu100')
            try replace FS := StC.kept FS qu100
            try replace FK := KpC.kept FK qu100
            try replace FV := (qu100.cell (World.block_lt_of_cell? _ _ FV)).trans FV
            try replace FA := (qu100.block _ (lt_of_block FA)).trans FA
            try replace FC := (qu100.block _ (lt_of_block FC)).trans FC
            try replace LA := Nat.lt_of_lt_of_le LA qu100.size
            try replace LC := Nat.lt_of_lt_of_le LC qu100.size
            have FK : KpC u100 kp kt kz kq gs gh gp g (.slice a ns c) (.slice a2 nd c2) P := by rw [hu100.out]; exact kcu100
            refine wpAnyH_ready (rs := [8]) (by kernel_rfl) (by simp) ?_
            refine AllReadyH.cons (o := { dst := some 34, op := Op.call { callee := Callee.value (Operand.func 31), args := #[Operand.tmp 33], argTypes := #[22] }, type := 57, pos := "merge.go:53", after := #[{ on := 7, ground := Ground.data }, { on := 6, ground := Ground.chain }], guard := none }) rfl (fun KK hKK => ?_) ?_
            · go_simp
              refine (HHA.out _ (FB0.out _ bu100)).mono ?_
              rintro e u101' ⟨g2, rfl, hu101', bu101'⟩
              (try go_wp2_with fail)
              refine hKK.out _ _ (bu100.trans (Below.mono (bu101') bu100.size)) (fun _ => ?_)
              clear hKK KK
              try simp only [Act.put, List.setIfInBounds_toArray, List.set_cons_zero, List.set_cons_succ]
              refine wpAnyH_name (fun u101 hu101 => ?_)
              have bu101 : Below W3.heap.size W3 u101 := by rw [hu101.out]; exact (bu100.trans (Below.mono (bu101') bu100.size))
              have qu101 : Below u100.heap.size u100 u101 := by rw [hu101.out]; exact (bu101')
              try replace FS := StC.kept FS qu101
              try replace FK := KpC.kept FK qu101
              try replace FV := (qu101.cell (World.block_lt_of_cell? _ _ FV)).trans FV
              try replace FA := (qu101.block _ (lt_of_block FA)).trans FA
              try replace FC := (qu101.block _ (lt_of_block FC)).trans FC
              try replace LA := Nat.lt_of_lt_of_le LA qu101.size
              try replace LC := Nat.lt_of_lt_of_le LC qu101.size
              have FV : u101.cell? ⟨g2, 0, none⟩ = some (.slice a2 nd c2) := by rw [hu101.out]; exact hu101'
              refine wpAnyH_ready (rs := [11]) (by kernel_rfl) (by simp) ?_
              refine AllReadyH.cons (o := { dst := none, op := Op.store 62 (Operand.tmp 10) (Operand.tmp 32), type := 0, pos := "merge.go:53", after := #[{ on := 9, ground := Ground.data }, { on := 6, ground := Ground.data }, { on := 8, ground := Ground.chain }, { on := 0, ground := Ground.phase }, { on := 1, ground := Ground.phase }, { on := 2, ground := Ground.phase }, { on := 3, ground := Ground.phase }, { on := 4, ground := Ground.phase }, { on := 5, ground := Ground.phase }, { on := 6, ground := Ground.phase }, { on := 7, ground := Ground.textOnly Departure.lateStores }, { on := 8, ground := Ground.textOnly Departure.lateStoresUnsure }, { on := 9, ground := Ground.phase }, { on := 10, ground := Ground.phase }], guard := none }) rfl (fun KK hKK => ?_) ?_
              · have fcu102 : u101.cell? ⟨u89.heap.size, 0, none⟩ = some .nilFunc := by simp [World.cell?, FA]
                have fzu102 : u101.frozen? ⟨u89.heap.size, 0, none⟩ = false := by simp [World.frozen?, FA]
                go_simp
                refine hKK.out _ _ (bu101.setCell LA _) (fun _ => ?_)
                clear hKK KK
                try simp only [Act.put]
                refine wpAnyH_name (fun u102 hu102 => ?_)
                have bu102 : Below W3.heap.size W3 u102 := by rw [hu102.out]; exact (bu101.setCell LA _)
                have FC2 : u102.heap[u0.heap.size]? = some (.cells #[.nilFunc] 57 (0, 0)) := by rw [hu102.out, Below.heap_setCell _ _ _ _ (fun e => by rw [e, FA] at FC; cases FC)]; exact FC
                refine wpAnyH_ready (rs := [12]) (by kernel_rfl) (by simp) ?_
                refine AllReadyH.cons (o := { dst := none, op := Op.store 57 (Operand.tmp 11) (Operand.tmp 34), type := 0, pos := "merge.go:53", after := #[{ on := 10, ground := Ground.data }, { on := 8, ground := Ground.data }, { on := 11, ground := Ground.chain }, { on := 0, ground := Ground.phase }, { on := 1, ground := Ground.phase }, { on := 2, ground := Ground.phase }, { on := 3, ground := Ground.phase }, { on := 4, ground := Ground.phase }, { on := 5, ground := Ground.phase }, { on := 6, ground := Ground.phase }, { on := 7, ground := Ground.phase }, { on := 8, ground := Ground.phase }, { on := 9, ground := Ground.phase }, { on := 10, ground := Ground.phase }, { on := 11, ground := Ground.phase }], guard := none }) rfl (fun KK hKK => ?_) ?_
                · have fcu103 : u102.cell? ⟨u0.heap.size, 0, none⟩ = some .nilFunc := by simp [World.cell?, FC2]
                  have fzu103 : u102.frozen? ⟨u0.heap.size, 0, none⟩ = false := by simp [World.frozen?, FC2]
                  go_simp
                  refine hKK.out _ _ (bu102.setCell LC _) (fun _ => ?_)
                  clear hKK KK
                  try simp only [Act.put]
                  refine wpAnyH_name (fun u103 hu103 => ?_)
                  have bu103 : Below W3.heap.size W3 u103 := by rw [hu103.out]; exact (bu102.setCell LC _)
                  refine wpAnyH_done (by kernel_rfl) ?_ _
                  have Z := vars_fin (F1 := .func 55) (x1 := #[]) (y1 := #[.pointer (some ⟨kp, 0, none⟩), .pointer (some ⟨kt, 0, none⟩), .pointer (some ⟨kz, 0, none⟩), .pointer (some ⟨kq, 0, none⟩)]) (F2 := .func 64) (x2 := #[]) (y2 := #[.pointer (some ⟨g2, 0, none⟩)]) FA FC (by decide) FK FV
                  rw [← hu102.out, ← hu103.out] at Z
                  have BZ := bu103
                  go_wp2_with fail
                  go_meet
                  case rel => exact ⟨_, _, g2, kp, kt, kz, kq, gs, gh, gp, g, rfl, rfl, Z.1, Z.2.1, Z.2.2.1, Z.2.2.2, BZ⟩
                exact AllReadyH.nil
              exact AllReadyH.nil
            exact AllReadyH.nil
          exact AllReadyH.nil
        exact AllReadyH.nil
      refine AllReadyH.cons (o := { dst := some 10, op := Op.alloc 62, type := 0, pos := "merge.go:53", after := #[], guard := none }) rfl (fun KK hKK => ?_) ?_
      · go_simp
        refine hKK.out _ _ (bu88.trans (Below.mono (al_below _ _) bu88.size)) (fun _ => ?_)
        clear hKK KK
        try simp only [Act.put, List.setIfInBounds_toArray, List.set_cons_zero, List.set_cons_succ]
        refine wpAnyH_name (fun u104 hu104 => ?_)
        have bu104 : Below W3.heap.size W3 u104 := by rw [hu104.out]; exact (bu88.trans (Below.mono (al_below _ _) bu88.size))
        have qu104 : Below u88.heap.size u88 u104 := by rw [hu104.out]; exact (al_below _ _)
        try replace FS := StC.kept FS qu104
        try replace FK := KpC.kept FK qu104
        try replace FV := (qu104.cell (World.block_lt_of_cell? _ _ FV)).trans FV
        try replace FA := (qu104.block _ (lt_of_block FA)).trans FA
        try replace FC := (qu104.block _ (lt_of_block FC)).trans FC
        try replace LA := Nat.lt_of_lt_of_le LA qu104.size
        try replace LC := Nat.lt_of_lt_of_le LC qu104.size
        have FA : u104.heap[u88.heap.size]? = some (.cells #[.nilFunc] 62 (0, 0)) := by rw [hu104.out]; exact heap_alloc_new _ _
        have LA : W3.heap.size ≤ u88.heap.size := bu88.size
        refine wpAnyH_ready (rs := [5]) (by kernel_rfl) (by simp) ?_
        refine AllReadyH.cons (o := { dst := some 31, op := Op.call { callee := Callee.value (Operand.func 20), args := #[Operand.tmp 29, Operand.tmp 30], argTypes := #[22, 24] }, type := 57, pos := "merge.go:53", after := #[{ on := 3, ground := Ground.data }, { on := 4, ground := Ground.data }], guard := none }) rfl (fun KK hKK => ?_) ?_
        · go_simp
          refine (HST.out _ (FB0.out _ bu104)).mono ?_
          rintro e u105' ⟨gs, gh, gp, g, rfl, stu105, bu105'⟩
          (try go_wp2_with fail)
          refine hKK.out _ _ (bu104.trans (Below.mono (bu105') bu104.size)) (fun _ => ?_)
          clear hKK KK
          try simp only [Act.put, List.setIfInBounds_toArray, List.set_cons_zero, List.set_cons_succ]
          refine wpAnyH_name (fun u105 hu105 => ?_)
          have bu105 : Below W3.heap.size W3 u105 := by rw [hu105.out]; exact (bu104.trans (Below.mono (bu105') bu104.size))
          have qu105 : Below u104.heap.size u104 u105 := by rw [hu105.out]; exact (bu105')
          try replace FS := StC.kept FS qu105
          try replace FK := KpC.kept FK qu105
          try replace FV := (qu105.cell (World.block_lt_of_cell? _ _ FV)).trans FV
          try replace FA := (qu105.block _ (lt_of_block FA)).trans FA
          try replace FC := (qu105.block _ (lt_of_block FC)).trans FC
          try replace LA := Nat.lt_of_lt_of_le LA qu105.size
          try replace LC := Nat.lt_of_lt_of_le LC qu105.size
          have FS : StC u105 gs gh gp g (.slice a ns c) P.del := by rw [hu105.out]; exact stu105
          refine wpAnyH_ready (rs := [6]) (by kernel_rfl) (by simp) ?_
          refine AllReadyH.cons (o := { dst := some 32, op := Op.call { callee := Callee.value (Operand.func 24), args := #[Operand.tmp 26, Operand.tmp 27, Operand.tmp 28, Operand.tmp 31], argTypes := #[22, 22, 24, 57] }, type := 62, pos := "merge.go:53", after := #[{ on := 0, ground := Ground.data }, { on := 1, ground := Ground.data }, { on := 2, ground := Ground.data }, { on := 5, ground := Ground.data }, { on := 5, ground := Ground.chain }], guard := none }) rfl (fun KK hKK => ?_) ?_
          · go_simp
            refine (HKE.out _ gs gh gp g (FB0.out _ bu105) FS).mono ?_
            rintro e u106' ⟨kp, kt, kz, kq, rfl, kcu106, bu106'⟩
            (try go_wp2_with fail)
            refine hKK.out _ _ (bu105.trans (Below.mono (bu106') bu105.size)) (fun _ => ?_)
            clear hKK KK
            try simp only [Act.put, List.setIfInBounds_toArray, List.set_cons_zero, List.set_cons_succ]
            refine wpAnyH_name (fun u106 hu106 => ?_)
            have bu106 : Below W3.heap.size W3 u106 := by rw [hu106.out]; exact (bu105.trans (Below.mono (bu106') bu105.size))
            have qu106 : Below u105.heap.size u105 u106 := by rw [hu106.out]; exact (bu106')
            try replace FS := StC.kept FS qu106
            try replace FK := KpC.kept FK qu106
            try replace FV := (qu106.cell (World.block_lt_of_cell? _ _ FV)).trans FV
            try replace FA := (qu106.block _ (lt_of_block FA)).trans FA
            try replace FC := (qu106.block _ (lt_of_block FC)).trans FC
            try replace LA := Nat.lt_of_lt_of_le LA qu106.size
            try replace LC := Nat.lt_of_lt_of_le LC qu106.size
            have FK : KpC u106 kp kt kz kq gs gh gp g (.slice a ns c) (.slice a2 nd c2) P := by rw [hu106.out]; exact kcu106
            refine wpAnyH_ready (rs := [8]) (by kernel_rfl) (by simp) ?_
            refine AllReadyH.cons (o := { dst := some 34, op := Op.call { callee := Callee.value (Operand.func 31), args := #[Operand.tmp 33], argTypes := #[22] }, type := 57, pos := "merge.go:53", after := #[{ on := 7, ground := Ground.data }, { on := 6, ground := Ground.chain }], guard := none }) rfl (fun KK hKK => ?_) ?_
            · go_simp
              refine (HHA.out _ (FB0.out _ bu106)).mono ?_
              rintro e u107' ⟨g2, rfl, hu107', bu107'⟩
              (try go_wp2_with fail)
              refine hKK.out _ _ (bu106.trans (Below.mono (bu107') bu106.size)) (fun _ => ?_)
              clear hKK KK
              try simp only [Act.put, List.setIfInBounds_toArray, List.set_cons_zero, List.set_cons_succ]
              refine wpAnyH_name (fun u107 hu107 => ?_)
              have bu107 : Below W3.heap.size W3 u107 := by rw [hu107.out]; exact (bu106.trans (Below.mono (bu107') bu106.size))
              have qu107 : Below u106.heap.size u106 u107 := by rw [hu107.out]; exact (bu107')
              try replace FS := StC.kept FS qu107
              try replace FK := KpC.kept FK qu107
              try replace FV := (qu107.cell (World.block_lt_of_cell? _ _ FV)).trans FV
              try replace FA := (qu107.block _ (lt_of_block FA)).trans FA
              try replace FC := (qu107.block _ (lt_of_block FC)).trans FC
              try replace LA := Nat.lt_of_lt_of_le LA qu107.size
              try replace LC := Nat.lt_of_lt_of_le LC qu107.size
              have FV : u107.cell? ⟨g2, 0, none⟩ = some (.slice a2 nd c2) := by rw [hu107.out]; exact hu107'
              refine wpAnyH_ready (rs := [11]) (by kernel_rfl) (by simp) ?_
              refine AllReadyH.cons (o := { dst := none, op := Op.store 62 (Operand.tmp 10) (Operand.tmp 32), type := 0, pos := "merge.go:53", after := #[{ on := 9, ground := Ground.data }, { on := 6, ground := Ground.data }, { on := 8, ground := Ground.chain }, { on := 0, ground := Ground.phase }, { on := 1, ground := Ground.phase }, { on := 2, ground := Ground.phase }, { on := 3, ground := Ground.phase }, { on := 4, ground := Ground.phase }, { on := 5, ground := Ground.phase }, { on := 6, ground := Ground.phase }, { on := 7, ground := Ground.textOnly Departure.lateStores }, { on := 8, ground := Ground.textOnly Departure.lateStoresUnsure }, { on := 9, ground := Ground.phase }, { on := 10, ground := Ground.phase }], guard := none }) rfl (fun KK hKK => ?_) ?_
              · have fcu108 : u107.cell? ⟨u88.heap.size, 0, none⟩ = some .nilFunc := by simp [World.cell?, FA]
                have fzu108 : u107.frozen? ⟨u88.heap.size, 0, none⟩ = false := by simp [World.frozen?, FA]
                go_simp
                refine hKK.out _ _ (bu107.setCell LA _) (fun _ => ?_)
                clear hKK KK
                try simp only [Act.put]
                refine wpAnyH_name (fun u108 hu108 => ?_)
                have bu108 : Below W3.heap.size W3 u108 := by rw [hu108.out]; exact (bu107.setCell LA _)
                have FC2 : u108.heap[u0.heap.size]? = some (.cells #[.nilFunc] 57 (0, 0)) := by rw [hu108.out, Below.heap_setCell _ _ _ _ (fun e => by rw [e, FA] at FC; cases FC)]; exact FC
                refine wpAnyH_ready (rs := [12]) (by kernel_rfl) (by simp) ?_
                refine AllReadyH.cons (o := { dst := none, op := Op.store 57 (Operand.tmp 11) (Operand.tmp 34), type := 0, pos := "merge.go:53", after := #[{ on := 10, ground := Ground.data }, { on := 8, ground := Ground.data }, { on := 11, ground := Ground.chain }, { on := 0, ground := Ground.phase }, { on := 1, ground := Ground.phase }, { on := 2, ground := Ground.phase }, { on := 3, ground := Ground.phase }, { on := 4, ground := Ground.phase }, { on := 5, ground := Ground.phase }, { on := 6, ground := Ground.phase }, { on := 7, ground := Ground.phase }, { on := 8, ground := Ground.phase }, { on := 9, ground := Ground.phase }, { on := 10, ground := Ground.phase }, { on := 11, ground := Ground.phase }], guard := none }) rfl (fun KK hKK => ?_) ?_
                · have fcu109 : u108.cell? ⟨u0.heap.size, 0, none⟩ = some .nilFunc := by simp [World.cell?, FC2]
                  have fzu109 : u108.frozen? ⟨u0.heap.size, 0, none⟩ = false := by simp [World.frozen?, FC2]
                  go_simp
                  refine hKK.out _ _ (bu108.setCell LC _) (fun _ => ?_)
                  clear hKK KK
                  try simp only [Act.put]
                  refine wpAnyH_name (fun u109 hu109 => ?_)
                  have bu109 : Below W3.heap.size W3 u109 := by rw [hu109.out]; exact (bu108.setCell LC _)
                  refine wpAnyH_done (by kernel_rfl) ?_ _
                  have Z := vars_fin (F1 := .func 55) (x1 := #[]) (y1 := #[.pointer (some ⟨kp, 0, none⟩), .pointer (some ⟨kt, 0, none⟩), .pointer (some ⟨kz, 0, none⟩), .pointer (some ⟨kq, 0, none⟩)]) (F2 := .func 64) (x2 := #[]) (y2 := #[.pointer (some ⟨g2, 0, none⟩)]) FA FC (by decide) FK FV
                  rw [← hu108.out, ← hu109.out] at Z
                  have BZ := bu109
                  go_wp2_with fail
                  go_meet
                  case rel => exact ⟨_, _, g2, kp, kt, kz, kq, gs, gh, gp, g, rfl, rfl, Z.1, Z.2.1, Z.2.2.1, Z.2.2.2, BZ⟩
                exact AllReadyH.nil
              exact AllReadyH.nil
            exact AllReadyH.nil
          exact AllReadyH.nil
        exact AllReadyH.nil
      exact AllReadyH.nil
    exact AllReadyH.nil
  case rest =>
    obtain ⟨g10, g11, g2, kp, kt, kz, kq, gs, gh, gp, g, rfl, rfl, kc, ca, cb, cc, bx⟩ := hcut
    have B4 : Hid (Below w.heap.size w wc) := B3.out.trans (bx.mono B3.out.size)
    have D4 : Hid (Below W1.heap.size W1 wc) := D3.out.trans (bx.mono D3.out.size)
    have KD : Hid (∀ W, Below wc.heap.size wc W → W.cell? ⟨w.heap.size, 0, none⟩ = some (.slice a2 nd c2)) := fun W hb => (HK.out W (D4.out.trans (hb.mono D4.out.size))).1
    have kw4 := (bx.cell (World.block_lt_of_cell? _ _ KW.out)).trans KW.out
    have KV : Hid (∀ W, Below wc.heap.size wc W → W.cell? ⟨w2.heap.size, 0, none⟩ = some (.slice aw nw cw)) := fun W hb => (hb.cell (World.block_lt_of_cell? _ _ kw4)).trans kw4
    have E4 : Hid (∀ W, Below wc.heap.size wc W → ES W (.slice aw nw cw) R0.1) := fun W hb => (E3.out.kept bx).kept hb
    have S4 : Hid (∀ W, Below wc.heap.size wc W → ES W (.slice a ns c) s ∧ ES W (.slice a2 nd c2) d ∧ Mx W) := fun W hb => by
      have hb' := B4.out.trans (hb.mono B4.out.size)
      exact ⟨HES.out.kept hb', HED.out.kept hb', HM.out.kept hb'⟩
    have CA : Hid (∀ W, Below wc.heap.size wc W → W.cell? ⟨g11, 0, none⟩ = some (.func (.func 64) #[] #[.pointer (some ⟨g2, 0, none⟩)]) ∧ W.cell? ⟨g2, 0, none⟩ = some (.slice a2 nd c2)) := fun W hb => ⟨(hb.cell (World.block_lt_of_cell? _ _ cb)).trans cb, (hb.cell (World.block_lt_of_cell? _ _ cc)).trans cc⟩
    have rf : Below wc.heap.size wc wc := Below.refl _ _
    have C5 := stepsK 0 (.slice a2 nd c2) (.func (.func 33) #[] #[.pointer (some ⟨g10, 0, none⟩), .pointer (some ⟨g11, 0, none⟩)]) d (f1 s d P) (kpt s d P) kp kt kz kq wc HLD.out ⟨d, (S4.out wc rf).2.1⟩ ⟨_, _, _, rfl⟩
      (pick1 (.slice a2 nd c2) d (f1 s d P) g10 g11 wc (S4.out wc rf).2.1 HLD.out (fun W u x hb hu hp => plan1_any _ _ u s d x P g10 g11 kp kt kz kq gs gh gp g g2 W (S4.out W hb).1 HLS.out (S4.out W hb).2.1 HLD.out hu hp (S4.out W hb).2.2 (kc.kept hb) ((hb.cell (World.block_lt_of_cell? _ _ ca)).trans ca) (CA.out W hb).1 (CA.out W hb).2))
      (fun W u x hb hu hp => keep1_any _ _ u s d x P kp kt kz kq gs gh gp g W (S4.out W hb).1 HLS.out (S4.out W hb).2.1 HLD.out hu hp (S4.out W hb).2.2 (kc.kept hb))
    have kd := KD.out wc rf
    clear FD FP FB0 st1 kw4 rf E3 KW HST HKE HHA HK kc bx D3 D4 cb cc
    go_wp2_with fail
    refine C5.mono ?_
    rintro e w5 ⟨v5, rfl, s5, b5⟩
    have B5 : Hid (Below wc.heap.size wc w5) := b5
    have S5 : Hid (SR w5 wc.heap.size v5 ((d.filter (f1 s d P)).map (ste 0 (kpt s d P)))) := s5
    clear C5 b5 s5 kd ca
    obtain ⟨x5, y5, rfl⟩ := own_shape S5.out
    have kd := KD.out w5 B5.out
    have C6 := stepsN 1 (.slice a2 nd c2) (.func (.func 35) #[] #[.pointer (some ⟨w2.heap.size, 0, none⟩)]) d (f2 R0.1) no w5 HLD.out ⟨d, (S4.out w5 B5.out).2.1⟩ ⟨_, _, _, rfl⟩
      (pick2 (.slice a2 nd c2) d (f2 R0.1) w2.heap.size w5 (S4.out w5 B5.out).2.1 HLD.out (fun W u x hb hu hp => by
        have hb' := B5.out.trans (hb.mono B5.out.size)
        exact plan2_any _ u R0.1 x w2.heap.size W (E4.out W hb') HLW.out hu (KV.out W hb')))
      (fun W u x hb hu hp => nowhere_any u x W hu)
    go_wp2_with fail
    refine C6.mono ?_
    rintro e w6 ⟨v6, rfl, s6, b6⟩
    have C7 := reverse_any w5.heap.size v6 _ w6 s6 (by rw [List.length_map]; exact Nat.le_trans (List.length_filter_le _ _) (Nat.le_trans HLD.out.1 (by omega)))
    have B6 : Hid (Below w5.heap.size w5 w6) := b6
    have O6 : Hid (∀ y, v6.ownBlock = some y → w5.heap.size ≤ y) := own_base s6
    obtain ⟨x6, y6, hv6⟩ := own_shape s6
    clear C6 b6 s6 kd
    subst hv6
    rw [List.length_map] at O6 C7 ⊢
    go_wp2_with fail
    refine C7.mono ?_
    rintro e w7 ⟨rfl, s7, g7⟩
    have B7 : Hid (Below w5.heap.size w5 w7) := B6.out.grown g7 B6.out.size O6.out
    have D7 : Hid (Below wc.heap.size wc w7) := B5.out.trans (B7.out.mono B5.out.size)
    have S7 : Hid (SR w7 w5.heap.size (.slice x6 (d.filter (f2 R0.1)).length y6) ((d.filter (f2 R0.1)).map (ste 1 no)).reverse) := s7
    clear C7 s7 g7 B6 O6
    have kv := KV.out w7 D7.out
    have C8 := stepsN 2 (.slice aw nw cw) (.func (.func 38) #[] #[.pointer (some ⟨w.heap.size, 0, none⟩)]) R0.1 (f3 d) no w7 HLW.out ⟨_, E4.out w7 D7.out⟩ ⟨_, _, _, rfl⟩
      (pick3 (.slice aw nw cw) R0.1 (f3 d) w.heap.size w7 (E4.out w7 D7.out) HLW.out (fun W u x hb hu hp => by
        have hb' := D7.out.trans (hb.mono D7.out.size)
        exact plan3_any _ u d x w.heap.size W (S4.out W hb').2.1 HLD.out hu (KD.out W hb')))
      (fun W u x hb hu hp => nowhere_any u x W hu)
    go_wp2_with fail
    refine C8.mono ?_
    rintro e w8 ⟨v8, rfl, s8, b8⟩
    have B8 : Hid (Below w7.heap.size w7 w8) := b8
    have D8 : Hid (Below wc.heap.size wc w8) := D7.out.trans (b8.mono D7.out.size)
    have S8 : Hid (SR w8 w7.heap.size v8 ((R0.1.filter (f3 d)).map (ste 2 no))) := s8
    clear C8 b8 s8 kv
    obtain ⟨x8, y8, rfl⟩ := own_shape S8.out
    have C9 := stepsN 3 (.slice a ns c) (.func (.func 39) #[] #[.pointer (some ⟨g11, 0, none⟩)]) s (f4 d) no w8 HLS.out ⟨_, (S4.out w8 D8.out).1⟩ ⟨_, _, _, rfl⟩
      (pick4 (.slice a ns c) s (f4 d) g11 w8 (S4.out w8 D8.out).1 HLS.out (fun W u x hb hu hp => by
        have hb' := D8.out.trans (hb.mono D8.out.size)
        exact plan4_any _ u d x g11 g2 W (S4.out W hb').2.1 HLD.out hu (CA.out W hb').1 (CA.out W hb').2))
      (fun W u x hb hu hp => nowhere_any u x W hu)
    go_wp2_with fail
    refine C9.mono ?_
    rintro e w9 ⟨v9, rfl, s9, b9⟩
    obtain ⟨x9, y9, hv9⟩ := own_shape s9
    have B9 : Hid (Below w8.heap.size w8 w9) := b9
    have D9 : Hid (Below wc.heap.size wc w9) := D8.out.trans (b9.mono D8.out.size)
    have S9 : Hid (SR w9 w8.heap.size v9 ((s.filter (f4 d)).map (ste 3 no))) := s9
    subst hv9
    clear C9 b9 s9
    rw [List.length_map] at S9 S8 S5 ⊢
    obtain ⟨m5, h5⟩ : ∃ m, m = (d.filter (f1 s d P)).length := ⟨_, rfl⟩
    obtain ⟨m7, h7⟩ : ∃ m, m = (d.filter (f2 R0.1)).length := ⟨_, rfl⟩
    obtain ⟨m8, h8⟩ : ∃ m, m = (R0.1.filter (f3 d)).length := ⟨_, rfl⟩
    obtain ⟨m9, h9⟩ : ∃ m, m = (s.filter (f4 d)).length := ⟨_, rfl⟩
    rw [← h5] at S5 ⊢
    rw [← h7] at S7 ⊢
    rw [← h8] at S8 ⊢
    rw [← h9] at S9 ⊢
    obtain ⟨WX, hWX⟩ : ∃ WX, WX = w9.alloc (.cells #[.slice x5 m5 y5, .slice x6 m7 y6, .slice x8 m8 y8, .slice x9 m9 y9] 32) := ⟨_, rfl⟩
    have bX : Below w9.heap.size w9 WX := by rw [hWX]; exact (Below.refl _ _).alloc (Nat.le_refl _) _
    have K : ∀ j, WX.cell? ⟨w9.heap.size, j, none⟩ = #[Value.slice x5 m5 y5, .slice x6 m7 y6, .slice x8 m8 y8, .slice x9 m9 y9][j]? := fun j => by rw [hWX, World.cell?_alloc_at _ _ _ _ rfl]
    have b8X : Below w8.heap.size w8 WX := B9.out.trans (bX.mono B9.out.size)
    have b7X : Below w7.heap.size w7 WX := B8.out.trans (b8X.mono B8.out.size)
    have b5X : Below w5.heap.size w5 WX := B7.out.trans (b7X.mono B7.out.size)
    have BX : Hid (Below w.heap.size w WX) := by
      have := D9.out.trans (bX.mono D9.out.size)
      exact B4.out.trans (this.mono B4.out.size)
    have CX := concat_any w9.heap.size _ _ _ _ ((d.filter (f1 s d P)).map (ste 0 (kpt s d P))) ((d.filter (f2 R0.1)).map (ste 1 no)).reverse ((R0.1.filter (f3 d)).map (ste 2 no)) ((s.filter (f4 d)).map (ste 3 no)) WX (K 0) (K 1) (K 2) (K 3)
      (S5.out.below b5X).ts (S7.out.below b7X).ts (S8.out.below b8X).ts (S9.out.below bX).ts (by rw [List.length_map]; exact Nat.le_trans (List.length_filter_le _ _) HLD.out.1) (by rw [List.length_reverse, List.length_map]; exact Nat.le_trans (List.length_filter_le _ _) HLD.out.1) (by rw [List.length_map]; exact Nat.le_trans (List.length_filter_le _ _) HLW.out.1) (by rw [List.length_map]; exact Nat.le_trans (List.length_filter_le _ _) HLS.out.1)
    have HP : Hid (pln s d R0.1 P = (d.filter (f1 s d P)).map (ste 0 (kpt s d P)) ++ ((d.filter (f2 R0.1)).map (ste 1 no)).reverse ++ (R0.1.filter (f3 d)).map (ste 2 no) ++ (s.filter (f4 d)).map (ste 3 no)) := rfl
    rw [← HP.out] at CX
    clear K b8X b7X b5X bX S5 S7 S8 S9 h5 h7 h8 h9 HP
    go_wp2_with fail
    rw [← hWX]
    clear hWX
    refine CX.mono ?_
    rintro e w11 ⟨v11, rfl, s11, b11⟩
    have S11 : Hid (SR w11 w.heap.size v11 (pln s d R0.1 P)) := s11.mono BX.out.size
    have B11 : Hid (Below w.heap.size w w11) := BX.out.trans (b11.mono BX.out.size)
    obtain ⟨x11, y11, hv11⟩ := own_shape s11
    subst hv11
    generalize (pln s d R0.1 P).length = n11 at *
    clear CX b11 s11
    go_wp2
    refine bodyPost_ret (v := .tuple #[.slice x11 n11 y11, .int .i64 0]) ?hE rfl ?_
    case hE => simp [results, Tryz.results9, go_sem, *]
    exact ⟨_, by rw [HR2.out], by rw [HR2.out]; exact S11.out, B11.out⟩
end Go.Proofs.YtajcabfeabbknaaGreatDoor
