/-
  What the document's Play answers.
-/
import Derived.Test.YtcenchnmibdebaaDoorRst
import Derived.Test.YtcenchnmibdebaaDoorPla
namespace Go.Proofs.YtcenchnmibdebaaDoor
open Go.RowKit
set_option maxRecDepth 100000

theorem retPq {tmps : Array Value} {w : World} {g : Nat} {v : Value} {n : Int} {m : Int} (hp : tmps.getD 2 undef = .pointer (some ⟨g, 0, none⟩)) (he : tmps.getD 3 undef = .int .i64 m)
    (hg : w.heap[g]? = some (.cells #[v, .int .i64 n] 46 (0, 0))) : (results Tryd.f15 tmps).run Tryd.prog w = .ok (.tuple #[.agg #[v, .int .i64 n], .int .i64 m]) w := by
  have hld : (loadVar 46 ⟨g, 0, none⟩).run Tryd.prog w = .ok (.agg #[v, .int .i64 n]) w := run_loadVar_row w g 46 46 #[v, .int .i64 n] (0, 0) _ hg Tryd.underlying46 rfl sizeTq
  rw [results_cell_tmp rfl, hp, he]
  simp [asAddr, Result.andThen, hld]
theorem new_stq (w : World) : (w.alloc (.cells #[.slice none 0 0, .int .i64 0] 46)).heap[w.heap.size]? = some (.cells #[.slice none 0 0, .int .i64 0] 46 (0, 0)) := heap_alloc_new _ _
theorem SVq.turn {w : World} {B g : Nat} {v v' : Value} {s t : Ste} {x : Value} (h : SVq w B g v s) (h' : RPq w B v' t.l) (e : x = .int .i64 t.n) : SVq (w.setRow g #[v', x]) B g v' t := by
  subst e
  exact ⟨setRow_heap _ _ _ _ _ _ h.1, h'.setRow _ _ h.1⟩
set_option maxHeartbeats 4000000 in
theorem rplay_any (v : Value) (L : List Rc) (w : World) (h : RS w v L) (hl : L.length ≤ 100000) (hi : ∀ r ∈ L, r.x.i ≤ 2199023255552) :
    Calls Tryd.prog 15 #[v] w fun e w' => ∃ v', e = .returned (.tuple #[SVal v' (play st0 L).1, .int .i64 ((play st0 L).2 : Nat)]) ∧ RPq w' w.heap.size v' (play st0 L).1.l ∧ Below w.heap.size w w' := by
  obtain ⟨a, c, rfl, h2, h3, h4⟩ := h.shape
  obtain ⟨W0, hW0⟩ : ∃ W0, W0 = w.alloc (.cells #[.slice none 0 0, .int .i64 0] 46) := ⟨_, rfl⟩
  have b0 : Below w.heap.size w W0 := by rw [hW0]; exact al_below _ _
  have z0 : W0.heap.size = w.heap.size + 1 := by rw [hW0]; simp
  have g0 : W0.heap[w.heap.size]? = some (.cells #[.slice none 0 0, .int .i64 0] 46 (0, 0)) := by rw [hW0]; exact new_stq w
  obtain ⟨W1, hW1⟩ : ∃ W1, W1 = W0.alloc (.cells #[.slice none 0 0, .int .i64 0] 46) := ⟨_, rfl⟩
  have b1 : Below W0.heap.size W0 W1 := by rw [hW1]; exact al_below _ _
  have s1 : SVq W1 W0.heap.size W0.heap.size (.slice none 0 0) st0 := ⟨by rw [hW1]; exact new_stq W0, RPt.nil _ _ _⟩
  have b1' : Below w.heap.size w W1 := b0.trans (b1.mono b0.size)
  have HOK : Hid (∀ x ∈ L, x.ok) := h.2
  have HIB : Hid (∀ j, (atR L j).x.i ≤ 2199023255552) := fun j => by
    by_cases hj : j < L.length
    · exact hi _ (atR_mem L j hj)
    · have e : atR L j = rc0 := by simp [atR, List.getD, List.getElem?_eq_none (show L.length ≤ j by omega)]
      rw [e]
      show (0 : Int) ≤ _
      omega
  have HG : Hid (∀ W, Below W0.heap.size W1 W → W.heap[w.heap.size]? = some (.cells #[.slice none 0 0, .int .i64 0] 46 (0, 0)) ∧ Below w.heap.size w W) := fun W hb => ⟨blk_kept (blk_kept g0 b1 (by omega)) hb (by omega), b1'.trans (hb.mono (by omega))⟩
  have HSZ : Hid (w.heap.size < W0.heap.size ∧ w.heap.size ≤ W0.heap.size ∧ W0.heap.size ≤ W1.heap.size) := ⟨by omega, by omega, b1.size⟩
  have P0 : Hid (PJ L 0 st0) := rfl
  have HS1 : Hid (SVq W1 W0.heap.size W0.heap.size (.slice none 0 0) st0) := s1
  have hn := hl
  obtain ⟨n, hn'⟩ : ∃ n, n = L.length := ⟨_, rfl⟩
  have HN : Hid (n = L.length) := hn'
  have HRS : Hid (∀ W, Below W0.heap.size W1 W → RS W (.slice a L.length c) L) := fun W hb => h.kept (b1'.trans (hb.mono (by omega)))
  rw [← hn'] at h2 hn HRS ⊢
  have hw0 := hW0.symm
  have hw1 := hW1.symm
  have HST : Hid (∀ j s, PJ L j s → j < L.length → step s (atR L j) = none → play st0 L = (s, j)) := fun j s h1 h2 h3 => h1.stop h2 h3
  have HAL : Hid (∀ s, PJ L L.length s → play st0 L = (s, L.length)) := fun s h1 => h1.all
  clear h hl h3 h4 hn' hW0 b0 z0 g0 hW1 b1 s1 b1' hi
  generalize play st0 L = R at *
  go_enter Tryd.func15, Tryd.ntmps15
  go_wp2_with fail
  try rw [hw0]
  try rw [hw1]
  clear hw0 hw1
  go_loopw [5] (fun z wr => ∃ j : Nat, j ≤ n ∧ z = .int .i64 j ∧ (∃ s v1, PJ L j s ∧ Ris s ∧ SVq wr W0.heap.size W0.heap.size v1 s) ∧ Below W0.heap.size W1 wr) (fun z _ => n - (intOf z).toNat)
  case atStart => exact ⟨0, by omega, rfl, ⟨st0, _, P0.out, ris0, HS1.out⟩, Below.refl _ _⟩
  case round =>
    obtain ⟨j, hj, rfl, ⟨s, v1, pj, ris, sb⟩, bel⟩ := hrel
    have HB : Hid (Below W0.heap.size W1 wr) := bel
    have PJJ : Hid (PJ L j s) := pj
    have HRI : Hid (Ris s) := ris
    obtain ⟨va, vc, rfl, -, -, -⟩ := sb.2.is.shape
    have HV : Hid (SVq wr W0.heap.size W0.heap.size (.slice va s.l.length vc) s) := sb
    clear bel pj ris sb HS1 P0
    by_cases hlt : j < n
    · have lt2 : (j : Int) < (n : Int) := by omega
      have lt3 : (0 : Int) ≤ (j : Int) := by omega
      obtain ⟨b, off, rfl, hr⟩ := (HRS.out wr HB.out).at j (by rw [← HN.out]; exact hlt)
      have hx : (atR L j).ok := Rc.at L HOK.out j
      have NX : Hid ((step s (atR L j)).isSome = true → PJ L (j + 1) ((step s (atR L j)).getD s)) := fun h9 => by
        cases hst : step s (atR L j) with
        | none => rw [hst] at h9; cases h9
        | some t => exact PJJ.out.go (by rw [← HN.out]; exact hlt) hst
      have NR : Hid (Ris ((step s (atR L j)).getD s)) := ris_getD HRI.out hx (HIB.out j)
      have ST : Hid ((step s (atR L j)).isSome = false → R = (s, j)) := fun h9 => by
        cases hst : step s (atR L j) with
        | none => exact HST.out j s PJJ.out (by rw [← HN.out]; exact hlt) hst
        | some t => rw [hst] at h9; cases h9
      have CS : Hid (∀ W, Below wr.heap.size wr W → Calls Tryd.prog 11 #[.agg #[.slice va s.l.length vc, .int .i64 s.n], (atR L j).val] W fun e w' => ∃ v', e = .returned (.tuple #[SVal v' ((step s (atR L j)).getD s), .bool (step s (atR L j)).isSome]) ∧ RPq w' W0.heap.size v' ((step s (atR L j)).getD s).l ∧ Below W.heap.size W w') := fun W hb => rstep_any W0.heap.size _ s (atR L j) W (HV.out.2.below hb) (Nat.le_trans (Nat.le_of_lt HV.out.lt) hb.size) HRI.out hx (HIB.out j)
      generalize atR L j = x at *
      have FR : Hid (∀ W, From wr W → W.rangeAt b (off + j * 37) x.cells) := fun W hb => range_kept hr hb
      have ZQ : Hid ((Tryd.prog.info? 25).map (·.size) = some x.cells.length) := by unfold Hid; rw [Rc.len hx]; kernel_rfl
      have FK : Hid (∀ W, From wr W → W.cell? ⟨W0.heap.size, 0, none⟩ = some (.slice va s.l.length vc) ∧ W.cell? ⟨W0.heap.size, 1, none⟩ = some (.int .i64 s.n)) := fun W hb => ⟨(HV.out.kept hb).cells.1, (HV.out.kept hb).cells.2.1⟩
      unfold Rc.val at CS
      generalize (step s x).getD s = t at *
      generalize (step s x).isSome = sb at *
      obtain ⟨sn, hsn⟩ : ∃ sn, sn = s.l.length := ⟨_, rfl⟩
      rw [← hsn] at HV FK CS
      clear hsn hr hx
      go_wp2_with fail
      go_cut [6, 7] (fun s5 s6 wx => ∃ g v', s5 = .pointer (some ⟨g, 0, none⟩) ∧ s6 = .bool sb ∧ wx.heap[g]? = some (.cells #[v', .int .i64 t.n] 46 (0, 0)) ∧ RPq wx W0.heap.size v' t.l ∧ From wr wx)
      case first =>
        refine wp_region_held_drew (S := From wr) (by kernel_rfl) (Below.drew (Below.refl _ _)) (fun _ => ?_)
        refine wpAnyH_name (fun u0 hu0 => ?_)
        have bu0 : Below wr.heap.size wr u0 := by rw [hu0.out]; exact Below.drew (Below.refl _ _)
        refine wpAnyH_take (i := 0) (oi := { dst := some 15, op := Op.load 46 (Operand.tmp 4), type := 46, pos := "ref.go:196", after := #[], guard := none }) (v := .agg #[.slice va sn vc, .int .i64 s.n]) rfl (by kernel_rfl) (by kernel_rfl) (by kernel_rfl) (fun _ _ _ h => h) (Or.inl ⟨by rfl, ?yr1⟩) bu0 ?rr1
        case yr1 => (intro w hSw; obtain ⟨t0, t1⟩ := FK.out w hSw; go_simp; try with_reducible rfl)
        try simp only [Act.put, List.setIfInBounds_toArray, List.set_cons_zero, List.set_cons_succ]
        refine wpAnyH_take (i := 1) (oi := { dst := some 16, op := Op.move (Operand.tmp 0), type := 39, pos := "ref.go:196", after := #[], guard := none }) (v := ?vr2) rfl (by kernel_rfl) (by kernel_rfl) (by kernel_rfl) (fun _ _ _ h => h) (Or.inl ⟨by rfl, ?yr2⟩) bu0 ?rr2
        case yr2 => (intro w hSw; go_simp; try with_reducible rfl)
        try simp only [Act.put, List.setIfInBounds_toArray, List.set_cons_zero, List.set_cons_succ]
        refine wpAnyH_take (i := 2) (oi := { dst := some 17, op := Op.move (Operand.tmp 5), type := 3, pos := "ref.go:196", after := #[], guard := none }) (v := ?vr3) rfl (by kernel_rfl) (by kernel_rfl) (by kernel_rfl) (fun _ _ _ h => h) (Or.inl ⟨by rfl, ?yr3⟩) bu0 ?rr3
        case yr3 => (intro w hSw; go_simp; try with_reducible rfl)
        try simp only [Act.put, List.setIfInBounds_toArray, List.set_cons_zero, List.set_cons_succ]
        refine wpAnyH_take (i := 3) (oi := { dst := some 18, op := Op.indexAddr 39 (Operand.tmp 16) (Operand.tmp 17), type := 0, pos := "ref.go:196", after := #[{ on := 1, ground := Ground.data }, { on := 2, ground := Ground.data }], guard := none }) (v := ?vr4) rfl (by kernel_rfl) (by kernel_rfl) (by kernel_rfl) (fun _ _ _ h => h) (Or.inl ⟨by rfl, ?yr4⟩) bu0 ?rr4
        case yr4 => (intro w hSw; go_simp; try with_reducible rfl)
        try simp only [Act.put, List.setIfInBounds_toArray, List.set_cons_zero, List.set_cons_succ]
        refine wpAnyH_take (i := 4) (oi := { dst := some 19, op := Op.load 25 (Operand.tmp 18), type := 25, pos := "ref.go:196", after := #[{ on := 3, ground := Ground.data }], guard := none }) (v := .agg x.cells.toArray) rfl (by kernel_rfl) (by kernel_rfl) (by kernel_rfl) (fun _ _ _ h => h) (yieldsIf_load_mid (by rfl) 25 _ rfl b (off + j * 37) rfl x.cells _ (fun w hw => FR.out w hw) Tryd.underlying25 rfl ZQ.out) bu0 ?_
        try simp only [Act.put, List.setIfInBounds_toArray, List.set_cons_zero, List.set_cons_succ]
        refine wpAnyH_ready (rs := [5, 9]) (by kernel_rfl) (by simp) ?_
        refine AllReadyH.cons (o := { dst := some 20, op := Op.call { callee := Callee.value (Operand.func 11), args := #[Operand.tmp 15, Operand.tmp 19], argTypes := #[46, 25] }, type := 49, pos := "ref.go:196", after := #[{ on := 0, ground := Ground.data }, { on := 4, ground := Ground.data }], guard := none }) rfl (fun KK hKK => ?_) ?_
        · go_simp
          refine (CS.out _ bu0).mono ?_
          rintro e u6' ⟨v9, rfl, ou6, bu6'⟩
          obtain ⟨ta, tc, rfl, -, -, -⟩ := ou6.is.shape
          unfold SVal
          (try go_wp2_with fail)
          refine hKK.out _ _ (bu0.trans (Below.mono (bu6') bu0.size)) (fun _ => ?_)
          clear hKK KK
          try simp only [Act.put, List.setIfInBounds_toArray, List.set_cons_zero, List.set_cons_succ]
          refine wpAnyH_name (fun u6 hu6 => ?_)
          have bu6 : Below wr.heap.size wr u6 := by rw [hu6.out]; exact (bu0.trans (Below.mono (bu6') bu0.size))
          have Pu6 : RPq u6 W0.heap.size (.slice ta t.l.length tc) t.l := by rw [hu6.out]; exact ou6
          try have Gu6 := blk_kept Gu0 bu6' (blk_lt Gu0)
          try rw [← hu6.out] at Gu6
          refine wpAnyH_take (i := 6) (oi := { dst := some 14, op := Op.move (Operand.tmp 20), type := 49, pos := "ref.go:196", after := #[{ on := 5, ground := Ground.data }], guard := none }) (v := ?vr7) rfl (by kernel_rfl) (by kernel_rfl) (by kernel_rfl) (fun _ _ _ h => h) (Or.inl ⟨by rfl, ?yr7⟩) bu6 ?rr7
          case yr7 => (intro w hSw; go_simp; try with_reducible rfl)
          try simp only [Act.put, List.setIfInBounds_toArray, List.set_cons_zero, List.set_cons_succ]
          refine wpAnyH_take (i := 7) (oi := { dst := some 21, op := Op.extract (Operand.tmp 14) 0, type := 46, pos := "ref.go:196", after := #[{ on := 6, ground := Ground.data }], guard := none }) (v := ?vr8) rfl (by kernel_rfl) (by kernel_rfl) (by kernel_rfl) (fun _ _ _ h => h) (Or.inl ⟨by rfl, ?yr8⟩) bu6 ?rr8
          case yr8 => (intro w hSw; go_simp; try with_reducible rfl)
          try simp only [Act.put, List.setIfInBounds_toArray, List.set_cons_zero, List.set_cons_succ]
          refine wpAnyH_take (i := 8) (oi := { dst := some 22, op := Op.extract (Operand.tmp 14) 1, type := 4, pos := "ref.go:196", after := #[{ on := 6, ground := Ground.data }, { on := 10, ground := Ground.gcOnly Departure.lateStores }], guard := none }) (v := ?vr9) rfl (by kernel_rfl) (by kernel_rfl) (by kernel_rfl) (fun _ _ _ h => h) (Or.inl ⟨by rfl, ?yr9⟩) bu6 ?rr9
          case yr9 => (intro w hSw; go_simp; try with_reducible rfl)
          try simp only [Act.put, List.setIfInBounds_toArray, List.set_cons_zero, List.set_cons_succ]
          refine wpAnyH_ready (rs := [9]) (by kernel_rfl) (by simp) ?_
          refine AllReadyH.cons (o := { dst := some 6, op := Op.alloc 46, type := 0, pos := "ref.go:196", after := #[], guard := none }) rfl (fun KK hKK => ?_) ?_
          · go_simp
            refine hKK.out _ _ (bu6.trans ((al_below _ _).mono bu6.size)) (fun _ => ?_)
            clear hKK KK
            try simp only [Act.put, List.setIfInBounds_toArray, List.set_cons_zero, List.set_cons_succ]
            refine wpAnyH_name (fun u10 hu10 => ?_)
            have bu10 : Below wr.heap.size wr u10 := by rw [hu10.out]; exact (bu6.trans ((al_below _ _).mono bu6.size))
            have Gu10 : u10.heap[u6.heap.size]? = some (.cells #[.slice none 0 0, .int .i64 0] 46 (0, 0)) := by rw [hu10.out]; exact new_stq u6
            try have Pu10 := Pu6.below (al_below _ (.cells #[.slice none 0 0, .int .i64 0] 46))
            try rw [← hu10.out] at Pu10
            refine wpAnyH_ready (rs := [10]) (by kernel_rfl) (by simp) ?_
            refine AllReadyH.cons (o := { dst := none, op := Op.store 46 (Operand.tmp 6) (Operand.tmp 21), type := 0, pos := "ref.go:196", after := #[{ on := 9, ground := Ground.data }, { on := 7, ground := Ground.data }, { on := 5, ground := Ground.chain }, { on := 0, ground := Ground.phase }, { on := 1, ground := Ground.phase }, { on := 2, ground := Ground.phase }, { on := 3, ground := Ground.phase }, { on := 4, ground := Ground.phase }, { on := 5, ground := Ground.phase }, { on := 6, ground := Ground.phase }, { on := 7, ground := Ground.phase }, { on := 8, ground := Ground.textOnly Departure.lateStores }, { on := 9, ground := Ground.phase }], guard := none }) rfl (fun KK hKK => ?_) ?_
            · refine wp_store_row 46 _ _ rfl u6.heap.size #[.slice ta t.l.length tc, .int .i64 t.n] rfl rfl 46 #[.slice none 0 0, .int .i64 0] Gu10 sizeTq rfl (st_ones _ _ _ _) ?_
              refine hKK.out _ _ (below_setRow bu10 bu6.size _) (fun _ => ?_)
              clear hKK KK
              try simp only [Act.put]
              refine wpAnyH_name (fun u11 hu11 => ?_)
              have bu11 : Below wr.heap.size wr u11 := by rw [hu11.out]; exact (below_setRow bu10 bu6.size _)
              have Zu11 := setRow_heap _ _ _ #[.slice ta t.l.length tc, .int .i64 t.n] _ _ Gu10
              rw [← hu11.out] at Zu11
              have Yu11 := Pu10.setRow u6.heap.size #[.slice ta t.l.length tc, .int .i64 t.n] Gu10
              rw [← hu11.out] at Yu11
              refine wpAnyH_take (i := 11) (oi := { dst := some 7, op := Op.assign (Operand.tmp 22), type := 4, pos := "ref.go:196", after := #[{ on := 8, ground := Ground.data }, { on := 10, ground := Ground.chain }, { on := 0, ground := Ground.phase }, { on := 1, ground := Ground.phase }, { on := 2, ground := Ground.phase }, { on := 3, ground := Ground.phase }, { on := 4, ground := Ground.phase }, { on := 5, ground := Ground.phase }, { on := 6, ground := Ground.phase }, { on := 7, ground := Ground.phase }, { on := 8, ground := Ground.phase }, { on := 9, ground := Ground.phase }, { on := 10, ground := Ground.phase }], guard := none }) (v := ?vr12) rfl (by kernel_rfl) (by kernel_rfl) (by kernel_rfl) (fun _ _ _ h => h) (Or.inl ⟨by rfl, ?yr12⟩) bu11 ?rr12
              case yr12 => (intro w hSw; go_simp; try with_reducible rfl)
              try simp only [Act.put, List.setIfInBounds_toArray, List.set_cons_zero, List.set_cons_succ]
              refine wpAnyH_done (by kernel_rfl) ?_ _
              have HZ : Hid (u11.heap[u6.heap.size]? = some (.cells #[.slice ta t.l.length tc, .int .i64 t.n] 46 (0, 0)) ∧ RPq u11 W0.heap.size (.slice ta t.l.length tc) t.l ∧ From wr u11) := ⟨Zu11, Yu11, bu11⟩
              clear FK FR CS
              go_wp2_with fail
              go_meet
              exact ⟨_, _, rfl, rfl, HZ.out.1, HZ.out.2.1, HZ.out.2.2⟩
            exact AllReadyH.nil
          exact AllReadyH.nil
        refine AllReadyH.cons (o := { dst := some 6, op := Op.alloc 46, type := 0, pos := "ref.go:196", after := #[], guard := none }) rfl (fun KK hKK => ?_) ?_
        · go_simp
          refine hKK.out _ _ (bu0.trans ((al_below _ _).mono bu0.size)) (fun _ => ?_)
          clear hKK KK
          try simp only [Act.put, List.setIfInBounds_toArray, List.set_cons_zero, List.set_cons_succ]
          refine wpAnyH_name (fun u13 hu13 => ?_)
          have bu13 : Below wr.heap.size wr u13 := by rw [hu13.out]; exact (bu0.trans ((al_below _ _).mono bu0.size))
          have Gu13 : u13.heap[u0.heap.size]? = some (.cells #[.slice none 0 0, .int .i64 0] 46 (0, 0)) := by rw [hu13.out]; exact new_stq u0
          try have Pu13 := Pu0.below (al_below _ (.cells #[.slice none 0 0, .int .i64 0] 46))
          try rw [← hu13.out] at Pu13
          refine wpAnyH_ready (rs := [5]) (by kernel_rfl) (by simp) ?_
          refine AllReadyH.cons (o := { dst := some 20, op := Op.call { callee := Callee.value (Operand.func 11), args := #[Operand.tmp 15, Operand.tmp 19], argTypes := #[46, 25] }, type := 49, pos := "ref.go:196", after := #[{ on := 0, ground := Ground.data }, { on := 4, ground := Ground.data }], guard := none }) rfl (fun KK hKK => ?_) ?_
          · go_simp
            refine (CS.out _ bu13).mono ?_
            rintro e u14' ⟨v9, rfl, ou14, bu14'⟩
            obtain ⟨ta, tc, rfl, -, -, -⟩ := ou14.is.shape
            unfold SVal
            (try go_wp2_with fail)
            refine hKK.out _ _ (bu13.trans (Below.mono (bu14') bu13.size)) (fun _ => ?_)
            clear hKK KK
            try simp only [Act.put, List.setIfInBounds_toArray, List.set_cons_zero, List.set_cons_succ]
            refine wpAnyH_name (fun u14 hu14 => ?_)
            have bu14 : Below wr.heap.size wr u14 := by rw [hu14.out]; exact (bu13.trans (Below.mono (bu14') bu13.size))
            have Pu14 : RPq u14 W0.heap.size (.slice ta t.l.length tc) t.l := by rw [hu14.out]; exact ou14
            try have Gu14 := blk_kept Gu13 bu14' (blk_lt Gu13)
            try rw [← hu14.out] at Gu14
            refine wpAnyH_take (i := 6) (oi := { dst := some 14, op := Op.move (Operand.tmp 20), type := 49, pos := "ref.go:196", after := #[{ on := 5, ground := Ground.data }], guard := none }) (v := ?vr15) rfl (by kernel_rfl) (by kernel_rfl) (by kernel_rfl) (fun _ _ _ h => h) (Or.inl ⟨by rfl, ?yr15⟩) bu14 ?rr15
            case yr15 => (intro w hSw; go_simp; try with_reducible rfl)
            try simp only [Act.put, List.setIfInBounds_toArray, List.set_cons_zero, List.set_cons_succ]
            refine wpAnyH_take (i := 7) (oi := { dst := some 21, op := Op.extract (Operand.tmp 14) 0, type := 46, pos := "ref.go:196", after := #[{ on := 6, ground := Ground.data }], guard := none }) (v := ?vr16) rfl (by kernel_rfl) (by kernel_rfl) (by kernel_rfl) (fun _ _ _ h => h) (Or.inl ⟨by rfl, ?yr16⟩) bu14 ?rr16
            case yr16 => (intro w hSw; go_simp; try with_reducible rfl)
            try simp only [Act.put, List.setIfInBounds_toArray, List.set_cons_zero, List.set_cons_succ]
            refine wpAnyH_take (i := 8) (oi := { dst := some 22, op := Op.extract (Operand.tmp 14) 1, type := 4, pos := "ref.go:196", after := #[{ on := 6, ground := Ground.data }, { on := 10, ground := Ground.gcOnly Departure.lateStores }], guard := none }) (v := ?vr17) rfl (by kernel_rfl) (by kernel_rfl) (by kernel_rfl) (fun _ _ _ h => h) (Or.inl ⟨by rfl, ?yr17⟩) bu14 ?rr17
            case yr17 => (intro w hSw; go_simp; try with_reducible rfl)
            try simp only [Act.put, List.setIfInBounds_toArray, List.set_cons_zero, List.set_cons_succ]
            refine wpAnyH_ready (rs := [10]) (by kernel_rfl) (by simp) ?_
            refine AllReadyH.cons (o := { dst := none, op := Op.store 46 (Operand.tmp 6) (Operand.tmp 21), type := 0, pos := "ref.go:196", after := #[{ on := 9, ground := Ground.data }, { on := 7, ground := Ground.data }, { on := 5, ground := Ground.chain }, { on := 0, ground := Ground.phase }, { on := 1, ground := Ground.phase }, { on := 2, ground := Ground.phase }, { on := 3, ground := Ground.phase }, { on := 4, ground := Ground.phase }, { on := 5, ground := Ground.phase }, { on := 6, ground := Ground.phase }, { on := 7, ground := Ground.phase }, { on := 8, ground := Ground.textOnly Departure.lateStores }, { on := 9, ground := Ground.phase }], guard := none }) rfl (fun KK hKK => ?_) ?_
            · refine wp_store_row 46 _ _ rfl u0.heap.size #[.slice ta t.l.length tc, .int .i64 t.n] rfl rfl 46 #[.slice none 0 0, .int .i64 0] Gu14 sizeTq rfl (st_ones _ _ _ _) ?_
              refine hKK.out _ _ (below_setRow bu14 bu0.size _) (fun _ => ?_)
              clear hKK KK
              try simp only [Act.put]
              refine wpAnyH_name (fun u18 hu18 => ?_)
              have bu18 : Below wr.heap.size wr u18 := by rw [hu18.out]; exact (below_setRow bu14 bu0.size _)
              have Zu18 := setRow_heap _ _ _ #[.slice ta t.l.length tc, .int .i64 t.n] _ _ Gu14
              rw [← hu18.out] at Zu18
              have Yu18 := Pu14.setRow u0.heap.size #[.slice ta t.l.length tc, .int .i64 t.n] Gu14
              rw [← hu18.out] at Yu18
              refine wpAnyH_take (i := 11) (oi := { dst := some 7, op := Op.assign (Operand.tmp 22), type := 4, pos := "ref.go:196", after := #[{ on := 8, ground := Ground.data }, { on := 10, ground := Ground.chain }, { on := 0, ground := Ground.phase }, { on := 1, ground := Ground.phase }, { on := 2, ground := Ground.phase }, { on := 3, ground := Ground.phase }, { on := 4, ground := Ground.phase }, { on := 5, ground := Ground.phase }, { on := 6, ground := Ground.phase }, { on := 7, ground := Ground.phase }, { on := 8, ground := Ground.phase }, { on := 9, ground := Ground.phase }, { on := 10, ground := Ground.phase }], guard := none }) (v := ?vr19) rfl (by kernel_rfl) (by kernel_rfl) (by kernel_rfl) (fun _ _ _ h => h) (Or.inl ⟨by rfl, ?yr19⟩) bu18 ?rr19
              case yr19 => (intro w hSw; go_simp; try with_reducible rfl)
              try simp only [Act.put, List.setIfInBounds_toArray, List.set_cons_zero, List.set_cons_succ]
              refine wpAnyH_done (by kernel_rfl) ?_ _
              have HZ : Hid (u18.heap[u0.heap.size]? = some (.cells #[.slice ta t.l.length tc, .int .i64 t.n] 46 (0, 0)) ∧ RPq u18 W0.heap.size (.slice ta t.l.length tc) t.l ∧ From wr u18) := ⟨Zu18, Yu18, bu18⟩
              clear FK FR CS
              go_wp2_with fail
              go_meet
              exact ⟨_, _, rfl, rfl, HZ.out.1, HZ.out.2.1, HZ.out.2.2⟩
            exact AllReadyH.nil
          exact AllReadyH.nil
        exact AllReadyH.nil
      case rest =>
        obtain ⟨g, v', rfl, rfl, hg, hp, hf⟩ := hcut
        have BX : Hid (Below W0.heap.size W1 wc) := HB.out.trans (Below.mono hf (Nat.le_trans HSZ.out.2.2 HB.out.size))
        have HV2 : Hid (SVq wc W0.heap.size W0.heap.size (.slice va sn vc) s) := HV.out.kept hf
        have RS0 : Hid (wc.rangeAt W0.heap.size 0 [.slice va sn vc, .int .i64 s.n]) := blk_range HV2.out.1
        have GG : Hid (wc.heap[w.heap.size]? = some (.cells #[.slice none 0 0, .int .i64 0] 46 (0, 0)) ∧ Below w.heap.size w wc) := HG.out wc BX.out
        obtain ⟨ta, tc, rfl, -, -, -⟩ := hp.is.shape
        have HPT : Hid (RPq wc W0.heap.size (.slice ta t.l.length tc) t.l) := hp
        obtain ⟨tn, htn⟩ : ∃ tn, tn = t.l.length := ⟨_, rfl⟩
        rw [← htn] at hg HPT
        have RT0 : Hid (wc.rangeAt g 0 [.slice ta tn tc, .int .i64 t.n]) := blk_range hg
        clear hg hp hf FK FR CS HV HB htn
        cases sb with
        | false =>
          have HR : Hid (R = (s, j)) := ST.out rfl
          clear ST NX NR
          go_wp2_with (first
            | refine wpList_load_mid rfl 46 _ rfl W0.heap.size 0 rfl [.slice va sn vc, .int .i64 s.n] _ RS0.out Tryd.underlying46 rfl sizeTq ?_
            | refine wpList_store_row rfl 46 _ _ rfl w.heap.size #[.slice va sn vc, .int .i64 s.n] rfl rfl 46 #[.slice none 0 0, .int .i64 0] GG.out.1 sizeTq rfl (st_ones _ _ _ _) ?_)
          exact bodyPost_ret (v := .tuple #[.agg #[.slice va sn vc, .int .i64 s.n], .int .i64 j]) (retPq rfl rfl (setRow_heap _ _ _ _ _ _ GG.out.1)) rfl ⟨_, by rw [HR.out]; rfl, by rw [HR.out]; exact (HV2.out.2.setRow _ _ GG.out.1).mono HSZ.out.2.1, below_setRow GG.out.2 (Nat.le_refl _) _⟩
        | true =>
          have HNX : Hid (PJ L (j + 1) t) := NX.out rfl
          clear ST NX
          go_wp2_with (first
            | refine wpList_load_mid rfl 46 _ rfl g 0 rfl [.slice ta tn tc, .int .i64 t.n] _ RT0.out Tryd.underlying46 rfl sizeTq ?_
            | refine wpList_store_row rfl 46 _ _ rfl W0.heap.size #[.slice ta tn tc, .int .i64 t.n] rfl rfl 46 #[.slice va sn vc, .int .i64 s.n] HV2.out.1 sizeTq rfl (st_ones _ _ _ _) ?_)
          go_roundw
          case rel => exact ⟨j + 1, by omega, by go_num, ⟨t, _, HNX.out, NR.out, HV2.out.turn HPT.out rfl⟩, below_setRow BX.out (Nat.le_refl _) _⟩
          case measure => simp [intOf]; omega
    · obtain rfl : j = n := by omega
      have HR : Hid (R = (s, j)) := by
        unfold Hid
        rw [HN.out]
        exact HAL.out s (by rw [← HN.out]; exact PJJ.out)
      have RS0 : Hid (wr.rangeAt W0.heap.size 0 [.slice va s.l.length vc, .int .i64 s.n]) := blk_range HV.out.1
      have GG : Hid (wr.heap[w.heap.size]? = some (.cells #[.slice none 0 0, .int .i64 0] 46 (0, 0)) ∧ Below w.heap.size w wr) := HG.out wr HB.out
      obtain ⟨sn, hsn⟩ : ∃ sn, sn = s.l.length := ⟨_, rfl⟩
      rw [← hsn] at HV RS0
      clear hsn HAL HST
      go_wp2_with (first
            | refine wpList_load_mid rfl 46 _ rfl W0.heap.size 0 rfl [.slice va sn vc, .int .i64 s.n] _ RS0.out Tryd.underlying46 rfl sizeTq ?_
            | refine wpList_store_row rfl 46 _ _ rfl w.heap.size #[.slice va sn vc, .int .i64 s.n] rfl rfl 46 #[.slice none 0 0, .int .i64 0] GG.out.1 sizeTq rfl (st_ones _ _ _ _) ?_)
      exact bodyPost_ret (v := .tuple #[.agg #[.slice va sn vc, .int .i64 s.n], .int .i64 j]) (retPq rfl rfl (setRow_heap _ _ _ _ _ _ GG.out.1)) rfl ⟨_, by rw [HR.out]; rfl, by rw [HR.out]; exact (HV.out.2.setRow _ _ GG.out.1).mono HSZ.out.2.1, below_setRow GG.out.2 (Nat.le_refl _) _⟩
end Go.Proofs.YtcenchnmibdebaaDoor
