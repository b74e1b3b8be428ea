/-
  What Step answers.
-/
import Derived.Test.YtcenchnmibdebaaDoorCl
namespace Go.Proofs.YtcenchnmibdebaaDoor
open Go.RowKit
set_option maxRecDepth 100000

theorem RPt.setRow {t : TypeId} {w : World} {B : Nat} {v : Value} {l : List Pa} (h : RPt t w B v l) (g : Nat) (cs : Array Value) {cs0 : Array Value} {T : TypeId} {fr : Nat × Nat} (hg : w.heap[g]? = some (.cells cs0 T fr)) (hT : T ≠ t := by decide) : RPt t (w.setRow g cs) B v l := by
  obtain ⟨⟨⟨h1, h2⟩, h3⟩, h4⟩ := h
  have hne := own_ne ⟨h1, h2⟩ hg hT
  refine ⟨⟨⟨h1, ?_⟩, h3⟩, h4⟩
  rcases h2 with h2 | ⟨g', cap, cur, rfl, hb, hh, q⟩
  · exact .inl h2
  · refine .inr ⟨g', cap, cur, rfl, hb, ?_, q⟩
    rw [setRow_other _ _ _ _ (fun e => hne (by rw [← e]; rfl))]
    exact hh
theorem bT (a : Option Addr) (n c : Nat) (m : Int) : Tryd.prog.built 43 [(0, .slice a n c), (1, .int .i64 m)] = some #[.slice a n c, .int .i64 m] := by kernel_rfl
theorem st_ones (a : Option Addr) (n c : Nat) (m : Int) : (#[Value.slice a n c, .int .i64 m].all (·.oneCell')) = true := by simp [Value.oneCell']
theorem new_st (w : World) : (w.alloc (.cells #[.slice none 0 0, .int .i64 0] 43)).heap[w.heap.size]? = some (.cells #[.slice none 0 0, .int .i64 0] 43 (0, 0)) := heap_alloc_new _ _
theorem retS {tmps : Array Value} {w : World} {g : Nat} {v : Value} {n : Int} {b : Bool} (hp : tmps.getD 4 undef = .pointer (some ⟨g, 0, none⟩)) (he : tmps.getD 5 undef = .bool b)
    (hg : w.heap[g]? = some (.cells #[v, .int .i64 n] 43 (0, 0))) : (results Tryd.f10 tmps).run Tryd.prog w = .ok (.tuple #[.agg #[v, .int .i64 n], .bool b]) w := by
  have hld : (loadVar 43 ⟨g, 0, none⟩).run Tryd.prog w = .ok (.agg #[v, .int .i64 n]) w := run_loadVar_row w g 43 43 #[v, .int .i64 n] (0, 0) _ hg Tryd.underlying43 rfl sizeT
  rw [results_cell_tmp rfl, hp, he]
  simp [asAddr, Result.andThen, hld]
/-- What a state by value is. -/
def SVal (v : Value) (s : Ste) : Value := .agg #[v, .int .i64 s.n]
set_option maxHeartbeats 2000000 in
theorem step_any (v : Value) (s : Ste) (r : Rc) (w : World) (h : PS w v s.l) (hr : r.ok) (hi : r.x.i ≤ 4611686018427387904) (hl : s.l.length ≤ 1000) :
    Calls Tryd.prog 10 #[.agg #[v, .int .i64 s.n], r.val] w fun e w' => ∃ v', e = .returned (.tuple #[SVal v' ((step s r).getD s), .bool (step s r).isSome]) ∧ RP w' w.heap.size v' ((step s r).getD s).l ∧ Below w.heap.size w w' := by
  obtain ⟨a, c, rfl, -, -, -⟩ := h.shape
  obtain ⟨W0, hW0⟩ : ∃ W0, W0 = w.alloc (.cells #[.slice a s.l.length c, .int .i64 s.n] 43) := ⟨_, rfl⟩
  have b0 : Below w.heap.size w W0 := by rw [hW0]; exact al_below _ _
  have z0 : W0.heap.size = w.heap.size + 1 := by rw [hW0]; simp
  have g0 : W0.heap[w.heap.size]? = some (.cells #[.slice a s.l.length c, .int .i64 s.n] 43 (0, 0)) := by rw [hW0]; exact heap_alloc_new _ _
  obtain ⟨W1, hW1⟩ : ∃ W1, W1 = W0.alloc (.cells r.cells.toArray 33) := ⟨_, rfl⟩
  have b1 : Below W0.heap.size W0 W1 := by rw [hW1]; exact al_below _ _
  have z1 : W1.heap.size = W0.heap.size + 1 := by rw [hW1]; simp
  have r1 : W1.rangeAt W0.heap.size 0 r.cells := by rw [hW1]; exact rc_new W0 r
  obtain ⟨W2, hW2⟩ : ∃ W2, W2 = W1.alloc (.cells #[.slice none 0 0, .int .i64 0] 43) := ⟨_, rfl⟩
  have b2 : Below W1.heap.size W1 W2 := by rw [hW2]; exact al_below _ _
  have z2 : W2.heap.size = W1.heap.size + 1 := by rw [hW2]; simp
  have g2 : W2.heap[W1.heap.size]? = some (.cells #[.slice none 0 0, .int .i64 0] 43 (0, 0)) := by rw [hW2]; exact new_st W1
  have b02 : Below W0.heap.size W0 W2 := b1.trans (b2.mono b1.size)
  have b2' : Below w.heap.size w W2 := b0.trans (b02.mono b0.size)
  have FK : Hid (∀ W, From W2 W → W.cell? ⟨w.heap.size, 0, none⟩ = some (.slice a s.l.length c) ∧ W.cell? ⟨w.heap.size, 1, none⟩ = some (.int .i64 s.n)) := fun W hb => by
    have h1 := blk_kept (blk_kept g0 b02 (by omega)) hb (by omega)
    exact ⟨by simp [World.cell?, h1], by simp [World.cell?, h1]⟩
  have CC : Hid (∀ W, From W2 W → Calls Tryd.prog 28 #[.slice a s.l.length c] W fun r w' => ∃ v', r = .returned v' ∧ RP w' W.heap.size v' s.l ∧ Below W.heap.size W w') := fun W hb => clonep_any _ s.l W ((h.kept b2').kept hb) (by omega)
  have HE : Hid (∀ wx g v', SV wx W2.heap.size g v' s → W2.heap.size ≤ g → From W2 wx → wx.rangeAt W0.heap.size 0 r.cells ∧ Calls Tryd.prog 29 #[.pointer (some ⟨g, 0, none⟩), .agg r.cells.toArray] wx fun e w' => e = .returned (.bool (step s r).isSome) ∧ (∃ v', w'.heap[g]? = some (.cells #[v', .int .i64 ((step s r).getD s).n] 43 (0, 0)) ∧ RP w' W2.heap.size v' ((step s r).getD s).l) ∧ w'.heap[W1.heap.size]? = some (.cells #[.slice none 0 0, .int .i64 0] 43 (0, 0)) ∧ Below w.heap.size w w') := fun wx g v' hs hg hf => by
    refine ⟨range_kept (range_kept r1 b2) hf, (take_any W2.heap.size g v' s r wx hs hg hr hi hl).mono ?_⟩
    rintro e w' ⟨h1, ⟨v2, h2, h3⟩, h4⟩
    have h5 : Below W2.heap.size W2 w' := Below.trans hf h4
    exact ⟨h1, ⟨v2, h2, h3⟩, blk_kept g2 h5 (by omega), b2'.trans (h5.mono b2'.size)⟩
  have HSZ : Hid (w.heap.size ≤ W2.heap.size ∧ W1.heap.size < W2.heap.size ∧ w.heap.size ≤ W1.heap.size) := ⟨by omega, by omega, by omega⟩
  have ZR : Hid ((Tryd.prog.info? 33).map (·.size) = some r.cells.length) := Rc.infoL r hr
  unfold Rc.val
  have hw0 := hW0.symm
  have hw1 := hW1.symm
  have hw2 := hW2.symm
  clear h hr hi hl hW0 b0 z0 g0 hW1 b1 z1 r1 hW2 b2 z2 g2 b02 b2'
  generalize step s r = R at *
  generalize R.isSome = rb at *
  generalize R.getD s = t at *
  generalize r.cells = cs at *
  obtain ⟨n, hn⟩ : ∃ n, n = s.l.length := ⟨_, rfl⟩
  have HN : Hid (n = s.l.length) := hn
  rw [← hn] at FK CC hw0 ⊢
  clear hn
  have FF : Hid (∀ W, From W2 W → From W2 W) := fun W hb => hb
  go_enter Tryd.func10, Tryd.ntmps10
  go_wp2_with fail
  try rw [hw0]
  try rw [hw1]
  try rw [hw2]
  clear hw0 hw1 hw2
  go_cut [6] (fun s6 wx => ∃ g v', s6 = .pointer (some ⟨g, 0, none⟩) ∧ SV wx W2.heap.size g v' s ∧ W2.heap.size ≤ g ∧ From W2 wx)
  case first =>
    refine wp_region_held_drew (S := From W2) (by kernel_rfl) (Below.drew (Below.refl _ _)) (fun _ => ?_)
    refine wpAnyH_name (fun u0 hu0 => ?_)
    have bu0 : Below W2.heap.size W2 u0 := by rw [hu0.out]; exact Below.drew (Below.refl _ _)
    refine wpAnyH_take (i := 0) (oi := { dst := some 8, op := Op.fieldAddr 43 (Operand.tmp 2) 0, type := 0, pos := "record.go:99", after := #[], guard := none }) (v := ?vr1) rfl (by kernel_rfl) (by kernel_rfl) (by kernel_rfl) (fun _ _ _ h => h) (Or.inl ⟨by rfl, ?yr1⟩) bu0 ?rr1
    case yr1 => (intro w hSw; go_simp; try with_reducible rfl)
    try simp only [Act.put, List.setIfInBounds_toArray, List.set_cons_zero, List.set_cons_succ]
    refine wpAnyH_take (i := 1) (oi := { dst := some 9, op := Op.load 41 (Operand.tmp 8), type := 41, pos := "record.go:99", after := #[{ on := 0, ground := Ground.data }], guard := none }) (v := ?vr2) rfl (by kernel_rfl) (by kernel_rfl) (by kernel_rfl) (fun _ _ _ h => h) (Or.inl ⟨by rfl, ?yr2⟩) bu0 ?rr2
    case yr2 => (intro w hSw; obtain ⟨t0, t1⟩ := FK.out w hSw; go_simp; try with_reducible rfl)
    try simp only [Act.put, List.setIfInBounds_toArray, List.set_cons_zero, List.set_cons_succ]
    refine wpAnyH_take (i := 3) (oi := { dst := some 11, op := Op.fieldAddr 43 (Operand.tmp 2) 1, type := 0, pos := "record.go:99", after := #[], guard := none }) (v := ?vr3) rfl (by kernel_rfl) (by kernel_rfl) (by kernel_rfl) (fun _ _ _ h => h) (Or.inl ⟨by rfl, ?yr3⟩) bu0 ?rr3
    case yr3 => (intro w hSw; go_simp; try with_reducible rfl)
    try simp only [Act.put, List.setIfInBounds_toArray, List.set_cons_zero, List.set_cons_succ]
    refine wpAnyH_take (i := 4) (oi := { dst := some 12, op := Op.load 3 (Operand.tmp 11), type := 3, pos := "record.go:99", after := #[{ on := 3, ground := Ground.data }], guard := none }) (v := ?vr4) rfl (by kernel_rfl) (by kernel_rfl) (by kernel_rfl) (fun _ _ _ h => h) (Or.inl ⟨by rfl, ?yr4⟩) bu0 ?rr4
    case yr4 => (intro w hSw; obtain ⟨t0, t1⟩ := FK.out w hSw; go_simp; try with_reducible rfl)
    try simp only [Act.put, List.setIfInBounds_toArray, List.set_cons_zero, List.set_cons_succ]
    refine wpAnyH_ready (rs := [2, 6]) (by kernel_rfl) (by simp) ?_
    refine AllReadyH.cons (o := { dst := some 10, op := Op.call { callee := Callee.value (Operand.func 28), args := #[Operand.tmp 9], argTypes := #[41] }, type := 41, pos := "record.go:99", after := #[{ on := 1, ground := Ground.data }], guard := none }) rfl (fun KK hKK => ?_) ?_
    · go_simp
      refine (CC.out _ bu0).mono ?_
      rintro e u5' ⟨vu5, rfl, ou5, bu5'⟩
      obtain ⟨pa, pc, rfl, -, -, -⟩ := ou5.is.shape
      rw [← HN.out] at ou5 ⊢
      (try go_wp2_with fail)
      refine hKK.out _ _ (bu0.trans (Below.mono (bu5') bu0.size)) (fun _ => ?_)
      clear hKK KK
      try simp only [Act.put, List.setIfInBounds_toArray, List.set_cons_zero, List.set_cons_succ]
      refine wpAnyH_name (fun u5 hu5 => ?_)
      have bu5 : Below W2.heap.size W2 u5 := by rw [hu5.out]; exact (bu0.trans (Below.mono (bu5') bu0.size))
      have Pu5 : RP u5 W2.heap.size (.slice pa n pc) s.l := by rw [hu5.out]; exact ou5.mono bu0.size
      try have Gu5 := blk_kept Gu0 bu5' (blk_lt Gu0)
      try rw [← hu5.out] at Gu5
      refine wpAnyH_take (i := 5) (oi := { dst := some 13, op := Op.build 43 #[(0, Operand.tmp 10), (1, Operand.tmp 12)], type := 43, pos := "record.go:99", after := #[{ on := 2, ground := Ground.data }, { on := 4, ground := Ground.data }], guard := none }) (v := .agg #[.slice pa n pc, .int .i64 s.n]) rfl (by kernel_rfl) (by kernel_rfl) (by kernel_rfl) (fun _ _ _ h => h) (yields_built (by rfl) 43 [(0, _), (1, _)] rfl [(0, .slice pa n pc), (1, .int .i64 s.n)] rfl #[.slice pa n pc, .int .i64 s.n] (bT _ _ _ _)) bu5 ?_
      try simp only [Act.put, List.setIfInBounds_toArray, List.set_cons_zero, List.set_cons_succ]
      refine wpAnyH_ready (rs := [6]) (by kernel_rfl) (by simp) ?_
      refine AllReadyH.cons (o := { dst := some 6, op := Op.alloc 43, type := 0, pos := "record.go:99", after := #[], guard := none }) rfl (fun KK hKK => ?_) ?_
      · go_simp
        refine hKK.out _ _ (bu5.trans ((al_below _ _).mono bu5.size)) (fun _ => ?_)
        clear hKK KK
        try simp only [Act.put, List.setIfInBounds_toArray, List.set_cons_zero, List.set_cons_succ]
        refine wpAnyH_name (fun u7 hu7 => ?_)
        have bu7 : Below W2.heap.size W2 u7 := by rw [hu7.out]; exact (bu5.trans ((al_below _ _).mono bu5.size))
        have Gu7 : u7.heap[u5.heap.size]? = some (.cells #[.slice none 0 0, .int .i64 0] 43 (0, 0)) := by rw [hu7.out]; exact new_st u5
        try have Pu7 := Pu5.below (al_below _ (.cells #[.slice none 0 0, .int .i64 0] 43))
        try rw [← hu7.out] at Pu7
        refine wpAnyH_ready (rs := [7]) (by kernel_rfl) (by simp) ?_
        refine AllReadyH.cons (o := { dst := none, op := Op.store 43 (Operand.tmp 6) (Operand.tmp 13), type := 0, pos := "record.go:99", after := #[{ on := 6, ground := Ground.data }, { on := 5, ground := Ground.data }, { on := 2, ground := Ground.chain }, { on := 0, ground := Ground.phase }, { on := 1, ground := Ground.phase }, { on := 2, ground := Ground.phase }, { on := 3, ground := Ground.phase }, { on := 4, ground := Ground.phase }, { on := 5, ground := Ground.phase }, { on := 6, ground := Ground.phase }], guard := none }) rfl (fun KK hKK => ?_) ?_
        · refine wp_store_row 43 _ _ rfl u5.heap.size #[.slice pa n pc, .int .i64 s.n] rfl rfl 43 #[.slice none 0 0, .int .i64 0] Gu7 sizeT rfl (st_ones _ _ _ _) ?_
          refine hKK.out _ _ (below_setRow bu7 bu5.size _) (fun _ => ?_)
          clear hKK KK
          try simp only [Act.put]
          refine wpAnyH_name (fun u8 hu8 => ?_)
          have bu8 : Below W2.heap.size W2 u8 := by rw [hu8.out]; exact (below_setRow bu7 bu5.size _)
          have Zu8 := setRow_heap _ _ _ #[.slice pa n pc, .int .i64 s.n] _ _ Gu7
          rw [← hu8.out] at Zu8
          have Yu8 := Pu7.setRow u5.heap.size #[.slice pa n pc, .int .i64 s.n] Gu7
          rw [← hu8.out] at Yu8
          refine wpAnyH_done (by kernel_rfl) ?_ _
          have HZ : Hid (SV u8 W2.heap.size u5.heap.size (.slice pa n pc) s ∧ W2.heap.size ≤ u5.heap.size ∧ From W2 u8) := ⟨⟨Zu8, Yu8⟩, bu5.size, bu8⟩
          clear FK CC FF HE
          go_wp2_with fail
          go_meet
          exact ⟨_, _, rfl, HZ.out⟩
        exact AllReadyH.nil
      exact AllReadyH.nil
    refine AllReadyH.cons (o := { dst := some 6, op := Op.alloc 43, type := 0, pos := "record.go:99", after := #[], guard := none }) rfl (fun KK hKK => ?_) ?_
    · go_simp
      refine hKK.out _ _ (bu0.trans ((al_below _ _).mono bu0.size)) (fun _ => ?_)
      clear hKK KK
      try simp only [Act.put, List.setIfInBounds_toArray, List.set_cons_zero, List.set_cons_succ]
      refine wpAnyH_name (fun u9 hu9 => ?_)
      have bu9 : Below W2.heap.size W2 u9 := by rw [hu9.out]; exact (bu0.trans ((al_below _ _).mono bu0.size))
      have Gu9 : u9.heap[u0.heap.size]? = some (.cells #[.slice none 0 0, .int .i64 0] 43 (0, 0)) := by rw [hu9.out]; exact new_st u0
      try have Pu9 := Pu0.below (al_below _ (.cells #[.slice none 0 0, .int .i64 0] 43))
      try rw [← hu9.out] at Pu9
      refine wpAnyH_ready (rs := [2]) (by kernel_rfl) (by simp) ?_
      refine AllReadyH.cons (o := { dst := some 10, op := Op.call { callee := Callee.value (Operand.func 28), args := #[Operand.tmp 9], argTypes := #[41] }, type := 41, pos := "record.go:99", after := #[{ on := 1, ground := Ground.data }], guard := none }) rfl (fun KK hKK => ?_) ?_
      · go_simp
        refine (CC.out _ bu9).mono ?_
        rintro e u10' ⟨vu10, rfl, ou10, bu10'⟩
        obtain ⟨pa, pc, rfl, -, -, -⟩ := ou10.is.shape
        rw [← HN.out] at ou10 ⊢
        (try go_wp2_with fail)
        refine hKK.out _ _ (bu9.trans (Below.mono (bu10') bu9.size)) (fun _ => ?_)
        clear hKK KK
        try simp only [Act.put, List.setIfInBounds_toArray, List.set_cons_zero, List.set_cons_succ]
        refine wpAnyH_name (fun u10 hu10 => ?_)
        have bu10 : Below W2.heap.size W2 u10 := by rw [hu10.out]; exact (bu9.trans (Below.mono (bu10') bu9.size))
        have Pu10 : RP u10 W2.heap.size (.slice pa n pc) s.l := by rw [hu10.out]; exact ou10.mono bu9.size
        try have Gu10 := blk_kept Gu9 bu10' (blk_lt Gu9)
        try rw [← hu10.out] at Gu10
        refine wpAnyH_take (i := 5) (oi := { dst := some 13, op := Op.build 43 #[(0, Operand.tmp 10), (1, Operand.tmp 12)], type := 43, pos := "record.go:99", after := #[{ on := 2, ground := Ground.data }, { on := 4, ground := Ground.data }], guard := none }) (v := .agg #[.slice pa n pc, .int .i64 s.n]) rfl (by kernel_rfl) (by kernel_rfl) (by kernel_rfl) (fun _ _ _ h => h) (yields_built (by rfl) 43 [(0, _), (1, _)] rfl [(0, .slice pa n pc), (1, .int .i64 s.n)] rfl #[.slice pa n pc, .int .i64 s.n] (bT _ _ _ _)) bu10 ?_
        try simp only [Act.put, List.setIfInBounds_toArray, List.set_cons_zero, List.set_cons_succ]
        refine wpAnyH_ready (rs := [7]) (by kernel_rfl) (by simp) ?_
        refine AllReadyH.cons (o := { dst := none, op := Op.store 43 (Operand.tmp 6) (Operand.tmp 13), type := 0, pos := "record.go:99", after := #[{ on := 6, ground := Ground.data }, { on := 5, ground := Ground.data }, { on := 2, ground := Ground.chain }, { on := 0, ground := Ground.phase }, { on := 1, ground := Ground.phase }, { on := 2, ground := Ground.phase }, { on := 3, ground := Ground.phase }, { on := 4, ground := Ground.phase }, { on := 5, ground := Ground.phase }, { on := 6, ground := Ground.phase }], guard := none }) rfl (fun KK hKK => ?_) ?_
        · refine wp_store_row 43 _ _ rfl u0.heap.size #[.slice pa n pc, .int .i64 s.n] rfl rfl 43 #[.slice none 0 0, .int .i64 0] Gu10 sizeT rfl (st_ones _ _ _ _) ?_
          refine hKK.out _ _ (below_setRow bu10 bu0.size _) (fun _ => ?_)
          clear hKK KK
          try simp only [Act.put]
          refine wpAnyH_name (fun u12 hu12 => ?_)
          have bu12 : Below W2.heap.size W2 u12 := by rw [hu12.out]; exact (below_setRow bu10 bu0.size _)
          have Zu12 := setRow_heap _ _ _ #[.slice pa n pc, .int .i64 s.n] _ _ Gu10
          rw [← hu12.out] at Zu12
          have Yu12 := Pu10.setRow u0.heap.size #[.slice pa n pc, .int .i64 s.n] Gu10
          rw [← hu12.out] at Yu12
          refine wpAnyH_done (by kernel_rfl) ?_ _
          have HZ : Hid (SV u12 W2.heap.size u0.heap.size (.slice pa n pc) s ∧ W2.heap.size ≤ u0.heap.size ∧ From W2 u12) := ⟨⟨Zu12, Yu12⟩, bu0.size, bu12⟩
          clear FK CC FF HE
          go_wp2_with fail
          go_meet
          exact ⟨_, _, rfl, HZ.out⟩
        exact AllReadyH.nil
      exact AllReadyH.nil
    exact AllReadyH.nil
  case rest =>
    obtain ⟨g, v', rfl, hs, hg, hf⟩ := hcut
    obtain ⟨rn, ct⟩ := HE.out wc g v' hs hg hf
    have RN : Hid (wc.rangeAt W0.heap.size 0 cs) := rn
    clear HE CC FK FF hs hf rn
    go_wp2_with (refine wpList_load_mid rfl 33 _ rfl W0.heap.size 0 rfl cs _ RN.out Tryd.underlying33 rfl ZR.out ?_)
    refine ct.mono ?_
    rintro e w3 ⟨rfl, ⟨v3, h3, p3⟩, k3, b3⟩
    have HP : Hid (RP w3 W2.heap.size v3 t.l) := p3
    have HB : Hid (Below w.heap.size w w3) := b3
    have H3 : Hid (w3.heap[g]? = some (.cells #[v3, .int .i64 t.n] 43 (0, 0))) := h3
    have K3 : Hid (w3.heap[W1.heap.size]? = some (.cells #[.slice none 0 0, .int .i64 0] 43 (0, 0))) := k3
    have R3 : Hid (w3.rangeAt g 0 [v3, .int .i64 t.n]) := blk_range h3
    obtain ⟨va, vc, rfl, -, -, -⟩ := p3.is.shape
    have HW1 : Hid (W1.heap.size ≠ g) := fun e => by have := HSZ.out; omega
    clear ct h3 p3 k3 b3 RN
    generalize t.l.length = tn at *
    go_wp2_with (first
      | refine wpList_load_mid rfl 43 _ rfl g 0 rfl [.slice va tn vc, .int .i64 t.n] _ R3.out Tryd.underlying43 rfl sizeT ?_
      | refine wpList_store_row rfl 43 _ _ rfl W1.heap.size #[.slice va tn vc, .int .i64 t.n] rfl rfl 43 #[.slice none 0 0, .int .i64 0] K3.out sizeT rfl (st_ones _ _ _ _) ?_)
    refine bodyPost_ret (v := .tuple #[.agg #[.slice va tn vc, .int .i64 t.n], .bool rb]) (retS rfl rfl (setRow_heap _ _ _ _ _ _ K3.out)) rfl ⟨_, rfl, ?_, below_setRow HB.out HSZ.out.2.2 _⟩
    exact (HP.out.setRow W1.heap.size _ K3.out).mono HSZ.out.1
end Go.Proofs.YtcenchnmibdebaaDoor
