/-
  RecordImaged: the image of what records left plays just that, and each of its records may be; at most 200 records, paths of at most 300 bytes, else the closed case alone is asked. It holds for every input of the row; varint's table of widths, crc's table of halves and Go's tables of utf8 (first, acceptRanges) hold what their declarations lay when the call begins.
-/
import Derived.Test.YtpkobpdiddjnpaaDoorPkT
import Derived.Test.YtpkobpdiddjnpaaDoorStp
namespace Go.Proofs.YtpkobpdiddjnpaaDoor.recordImaged
open Go.ChangeShapes Go.WideShapes Go.ChangeAt Go.RowKit Go.Deep Go.ChangeMaps
set_option maxRecDepth 100000

/-- What the first loop holds: the state in the variable s. -/
def VS (w0 : World) (S : Nat) (wr : World) (s : Ste) : Prop := ∃ v, wr.heap[S]? = some (.cells #[v, .int .i64 s.n] 43 (0, 0)) ∧ RP wr S v s.l ∧ Inv s ∧ Below w0.heap.size w0 wr
set_option maxHeartbeats 8000000 in
theorem walk (v : Value) (L : List Rc) (w : World) (ht : Tb w) (h : RS w v L) :
    Calls Tryd.prog 6 #[v] w fun e w' => e = .returned (.bool true) ∧ Below w.heap.size w w' := by
  obtain ⟨a, c, rfl, h2, h3, h4⟩ := h.shape
  have HAW : Hid (∀ W, Below w.heap.size w W → Calls Tryd.prog 7 #[] W fun e w' => e = .returned (.bool true) ∧ Below W.heap.size W w') := fun W hb => awake_any W (ht.kept hb)
  by_cases h200 : 200 < L.length
  · have d0 : decide ((200 : Int) < (L.length : Int)) = true := by simp; omega
    have aw := HAW.out w (Below.refl _ _)
    clear h ht h2 h3 h4 HAW
    generalize L.length = n at *
    go_enter Tryd.func6, Tryd.ntmps6
    go_wp2_with fail
    refine aw.mono ?_
    rintro e w1 ⟨rfl, b1⟩
    clear aw
    have B1 : Hid (Below w.heap.size w w1) := b1
    clear b1
    go_wp2
    go_ret
    exact ⟨rfl, B1.out⟩
  have d0 : decide ((200 : Int) < (L.length : Int)) = false := by simp; omega
  obtain ⟨W0, hW0⟩ : ∃ W0, W0 = w.alloc (.cells #[.slice none 0 0, .int .i64 0] 43) := ⟨_, rfl⟩
  have b0 : Below w.heap.size w W0 := by rw [hW0]; exact al_below _ _
  have g0 : W0.heap[w.heap.size]? = some (.cells #[.slice none 0 0, .int .i64 0] 43 (0, 0)) := by rw [hW0]; exact new_st w
  have HV0 : Hid (VS w w.heap.size W0 st0) := ⟨_, g0, RPt.nil _ _ _, inv0, b0⟩
  have HRS : Hid (∀ W, Below w.heap.size w W → RS W (.slice a L.length c) L) := fun W hb => h.kept hb
  have HOK : Hid (∀ x ∈ L, x.ok) := h.2
  have HTB : Hid (Tb w) := ht
  have hn : L.length ≤ 200 := by omega
  obtain ⟨n, hn'⟩ : ∃ n, n = L.length := ⟨_, rfl⟩
  have HN : Hid (n = L.length) := hn'
  have hw0 := hW0.symm
  rw [← hn'] at h2 hn HRS d0 ⊢
  clear h ht h3 h4 hn' hW0 b0 g0 h200
  go_enter Tryd.func6, Tryd.ntmps6
  go_wp2_with fail
  try rw [hw0]
  clear hw0
  go_loopw [4] (fun z wr => ∃ j : Nat, j ≤ n ∧ z = .int .i64 j ∧ ∃ s, VS w w.heap.size wr s) (fun z _ => n - (intOf z).toNat)
  case atStart => exact ⟨0, by omega, rfl, st0, HV0.out⟩
  case round =>
    obtain ⟨j, hj, rfl, s, vs, hg, hp, hinv, hb⟩ := hrel
    have HB : Hid (Below w.heap.size w wr) := hb
    have HG : Hid (wr.heap[w.heap.size]? = some (.cells #[vs, .int .i64 s.n] 43 (0, 0))) := hg
    have HP : Hid (RP wr w.heap.size vs s.l) := hp
    have HI : Hid (Inv s) := hinv
    clear hg hp hinv hb HV0
    by_cases hlt : j < n
    · have lt2 : (j : Int) < (n : Int) := by omega
      have lt3 : (0 : Int) ≤ (j : Int) := by omega
      obtain ⟨b, off, rfl, hr⟩ := (HRS.out wr HB.out).at j (by rw [← HN.out]; exact hlt)
      have hx : (atR L j).ok := Rc.at L HOK.out j
      generalize atR L j = x at *
      obtain ⟨-, -, k2, -, -, -⟩ := rcC hr hx
      by_cases h300 : 300 < x.x.p.size
      · have d3 : decide ((300 : Int) < (x.x.p.size : Int)) = true := by simp; omega
        have aw := HAW.out wr HB.out
        clear hr hx HAW
        go_wp2_with fail
        refine aw.mono ?_
        rintro e w1 ⟨rfl, b1⟩
        have B1 : Hid (Below w.heap.size w w1) := HB.out.trans (b1.mono HB.out.size)
        clear aw b1
        go_wp2
        go_ret
        exact ⟨rfl, B1.out⟩
      · have d3 : decide ((300 : Int) < (x.x.p.size : Int)) = false := by simp; omega
        have hps : x.x.p.size ≤ 300 := by omega
        have co := own_any x wr hx
        have RN : Hid (∀ W, Below wr.heap.size wr W → W.rangeAt b (off + j * 37) x.cells) := fun W hb => range_kept hr hb
        have ZQ : Hid ((Tryd.prog.info? 25).map (·.size) = some x.cells.length) := by unfold Hid; rw [Rc.len hx]; kernel_rfl
        have HXO : Hid x.ok := hx
        have CC : Hid (∀ W, Below w.heap.size w W → Calls Tryd.prog 11 #[x.val] W fun e w' => e = .returned (.int .i64 (rck x)) ∧ Below W.heap.size W w') := fun W hb => rcheck_any x W hx (HTB.out.kept hb).2.2 (by unfold maxLen; omega)
        have HPS : Hid (x.x.p.size ≤ 300) := hps
        unfold Rc.val at co CC
        clear hr hx hps
        go_wp2_with (refine wpList_load_mid rfl 25 _ rfl b (off + j * 37) rfl x.cells _ (RN.out wr (Below.refl _ _)) Tryd.underlying25 rfl ZQ.out ?_)
        refine co.mono ?_
        rintro e w1 ⟨rfl, b1⟩
        have Q1 : Hid (Below wr.heap.size wr w1) := b1
        have B1 : Hid (Below w.heap.size w w1) := HB.out.trans (b1.mono HB.out.size)
        have cc := CC.out w1 B1.out
        clear co b1 CC
        go_wp2_with fail
        refine cc.mono ?_
        rintro e w2 ⟨rfl, b2⟩
        have Q2 : Hid (Below wr.heap.size wr w2) := Q1.out.trans (b2.mono Q1.out.size)
        have B2 : Hid (Below w.heap.size w w2) := B1.out.trans (b2.mono B1.out.size)
        have g2 := blk_kept HG.out Q2.out (blk_lt HG.out)
        have G2 : Hid (w2.heap[w.heap.size]? = some (.cells #[vs, .int .i64 s.n] 43 (0, 0))) := g2
        have P2 : Hid (RP w2 w.heap.size vs s.l) := HP.out.below Q2.out
        clear cc b2 Q1 B1 HG HP g2
        by_cases hck : rck x = 0
        · rw [hck]
          have hle := rck_ok hck
          have CO : Hid (∀ W, Calls Tryd.prog 9 #[.agg x.cells.toArray] W fun e w' => e = .returned (.agg x.cells.toArray) ∧ Below W.heap.size W w') := fun W => own_any x W HXO.out
          have CS : Hid (∀ W, Below w2.heap.size w2 W → Calls Tryd.prog 12 #[.agg #[vs, .int .i64 s.n], .agg x.cells.toArray] W fun e w' => ∃ v', e = .returned (.tuple #[SVal v' ((step s x).getD s), .bool (step s x).isSome]) ∧ RP w' W.heap.size v' ((step s x).getD s).l ∧ Below W.heap.size W w') := fun W hb => step_any vs s x W (P2.out.below hb).is HXO.out (by omega) (by have := HI.out.ln; omega)
          have HI2 : Hid (Inv ((step s x).getD s)) := by
            unfold Hid
            cases hst : step s x with
            | none => exact HI.out
            | some t => exact inv_step HI.out HXO.out hck hst
          have HSO : Hid ((step s x).isSome = false → (step s x).getD s = s) := fun hh => by cases hst : step s x with
            | none => rfl
            | some t => rw [hst] at hh; cases hh
          generalize (step s x).getD s = t at *
          generalize (step s x).isSome = sb at *
          obtain ⟨va, vc, rfl, -, -, -⟩ := P2.out.is.shape
          generalize s.l.length = sn at *
          have FK : Hid (∀ W, From w2 W → W.cell? ⟨w.heap.size, 0, none⟩ = some (.slice va sn vc) ∧ W.cell? ⟨w.heap.size, 1, none⟩ = some (.int .i64 s.n)) := fun W hb => by
            have g := blk_kept G2.out hb (blk_lt G2.out)
            exact ⟨by simp [World.cell?, g], by simp [World.cell?, g]⟩
          have FR : Hid (∀ W, From w2 W → W.rangeAt b (off + j * 37) x.cells) := fun W hb => RN.out W (Q2.out.trans (Below.mono hb Q2.out.size))
          go_wp2_with fail
          go_cut [5, 6] (fun s5 s6 wx => ∃ g v' m, s5 = .pointer (some ⟨g, 0, none⟩) ∧ s6 = .bool sb ∧ wx.heap[g]? = some (.cells #[v', .int .i64 t.n] 43 (0, 0)) ∧ m = t.l.length ∧ RP wx w2.heap.size v' t.l ∧ From w2 wx)
          case first =>
            refine wp_region_held_drew (S := From w2) (by kernel_rfl) (Below.drew (Below.refl _ _)) (fun _ => ?_)
            refine wpAnyH_name (fun u0 hu0 => ?_)
            have bu0 : Below w2.heap.size w2 u0 := by rw [hu0.out]; exact Below.drew (Below.refl _ _)
            refine wpAnyH_take (i := 0) (oi := { dst := some 37, op := Op.load 43 (Operand.tmp 3), type := 43, pos := "own.go:56", after := #[], guard := none }) (v := .agg #[.slice va sn vc, .int .i64 s.n]) rfl (by kernel_rfl) (by kernel_rfl) (by kernel_rfl) (fun _ _ _ h => h) (Or.inl ⟨by rfl, ?yr1⟩) bu0 ?rr1
            case yr1 => (intro w hSw; obtain ⟨t0, t1⟩ := FK.out w hSw; go_simp; try with_reducible rfl)
            try simp only [Act.put, List.setIfInBounds_toArray, List.set_cons_zero, List.set_cons_succ]
            refine wpAnyH_take (i := 1) (oi := { dst := some 38, op := Op.move (Operand.tmp 0), type := 39, pos := "own.go:56", after := #[], guard := none }) (v := ?vr2) rfl (by kernel_rfl) (by kernel_rfl) (by kernel_rfl) (fun _ _ _ h => h) (Or.inl ⟨by rfl, ?yr2⟩) bu0 ?rr2
            case yr2 => (intro w hSw; go_simp; try with_reducible rfl)
            try simp only [Act.put, List.setIfInBounds_toArray, List.set_cons_zero, List.set_cons_succ]
            refine wpAnyH_take (i := 2) (oi := { dst := some 39, op := Op.move (Operand.tmp 4), type := 3, pos := "own.go:56", after := #[], guard := none }) (v := ?vr3) rfl (by kernel_rfl) (by kernel_rfl) (by kernel_rfl) (fun _ _ _ h => h) (Or.inl ⟨by rfl, ?yr3⟩) bu0 ?rr3
            case yr3 => (intro w hSw; go_simp; try with_reducible rfl)
            try simp only [Act.put, List.setIfInBounds_toArray, List.set_cons_zero, List.set_cons_succ]
            refine wpAnyH_take (i := 3) (oi := { dst := some 40, op := Op.indexAddr 39 (Operand.tmp 38) (Operand.tmp 39), type := 0, pos := "own.go:56", after := #[{ on := 1, ground := Ground.data }, { on := 2, ground := Ground.data }], guard := none }) (v := ?vr4) rfl (by kernel_rfl) (by kernel_rfl) (by kernel_rfl) (fun _ _ _ h => h) (Or.inl ⟨by rfl, ?yr4⟩) bu0 ?rr4
            case yr4 => (intro w hSw; go_simp; try with_reducible rfl)
            try simp only [Act.put, List.setIfInBounds_toArray, List.set_cons_zero, List.set_cons_succ]
            refine wpAnyH_take (i := 4) (oi := { dst := some 41, op := Op.load 25 (Operand.tmp 40), type := 25, pos := "own.go:56", after := #[{ on := 3, ground := Ground.data }], guard := none }) (v := .agg x.cells.toArray) rfl (by kernel_rfl) (by kernel_rfl) (by kernel_rfl) (fun _ _ _ h => h) (yieldsIf_load_mid (by rfl) 25 _ rfl b (off + j * 37) rfl x.cells _ (fun w hw => FR.out w hw) Tryd.underlying25 rfl ZQ.out) bu0 ?_
            try simp only [Act.put, List.setIfInBounds_toArray, List.set_cons_zero, List.set_cons_succ]
            refine wpAnyH_ready (rs := [5, 10]) (by kernel_rfl) (by simp) ?_
            refine AllReadyH.cons (o := { dst := some 42, op := Op.call { callee := Callee.value (Operand.func 9), args := #[Operand.tmp 41], argTypes := #[25] }, type := 33, pos := "own.go:56", after := #[{ on := 4, ground := Ground.data }], guard := none }) rfl (fun KK hKK => ?_) ?_
            · go_simp
              refine (CO.out _).mono ?_
              rintro e u6' ⟨rfl, bu6'⟩
              (try go_wp2_with fail)
              refine hKK.out _ _ (bu0.trans (Below.mono (bu6') bu0.size)) (fun _ => ?_)
              clear hKK KK
              try simp only [Act.put, List.setIfInBounds_toArray, List.set_cons_zero, List.set_cons_succ]
              refine wpAnyH_name (fun u6 hu6 => ?_)
              have bu6 : Below w2.heap.size w2 u6 := by rw [hu6.out]; exact (bu0.trans (Below.mono (bu6') bu0.size))
              try have Gu6 := blk_kept Gu0 bu6' (blk_lt Gu0)
              try rw [← hu6.out] at Gu6
              refine wpAnyH_ready (rs := [6, 10]) (by kernel_rfl) (by simp) ?_
              refine AllReadyH.cons (o := { dst := some 43, op := Op.call { callee := Callee.value (Operand.func 12), args := #[Operand.tmp 37, Operand.tmp 42], argTypes := #[43, 33] }, type := 47, pos := "own.go:56", after := #[{ on := 0, ground := Ground.data }, { on := 5, ground := Ground.data }, { on := 5, ground := Ground.chain }], guard := none }) rfl (fun KK hKK => ?_) ?_
              · go_simp
                refine (CS.out _ bu6).mono ?_
                rintro e u7' ⟨v9, rfl, ou7, bu7'⟩
                obtain ⟨ta, tc, rfl, -, -, -⟩ := ou7.is.shape
                unfold SVal
                (try go_wp2_with fail)
                refine hKK.out _ _ (bu6.trans (Below.mono (bu7') bu6.size)) (fun _ => ?_)
                clear hKK KK
                try simp only [Act.put, List.setIfInBounds_toArray, List.set_cons_zero, List.set_cons_succ]
                refine wpAnyH_name (fun u7 hu7 => ?_)
                have bu7 : Below w2.heap.size w2 u7 := by rw [hu7.out]; exact (bu6.trans (Below.mono (bu7') bu6.size))
                have Pu7 : RP u7 w2.heap.size (.slice ta t.l.length tc) t.l := by rw [hu7.out]; exact ou7.mono bu6.size
                try have Gu7 := blk_kept Gu6 bu7' (blk_lt Gu6)
                try rw [← hu7.out] at Gu7
                refine wpAnyH_take (i := 7) (oi := { dst := some 36, op := Op.move (Operand.tmp 43), type := 47, pos := "own.go:56", after := #[{ on := 6, ground := Ground.data }], guard := none }) (v := ?vr8) rfl (by kernel_rfl) (by kernel_rfl) (by kernel_rfl) (fun _ _ _ h => h) (Or.inl ⟨by rfl, ?yr8⟩) bu7 ?rr8
                case yr8 => (intro w hSw; go_simp; try with_reducible rfl)
                try simp only [Act.put, List.setIfInBounds_toArray, List.set_cons_zero, List.set_cons_succ]
                refine wpAnyH_take (i := 8) (oi := { dst := some 44, op := Op.extract (Operand.tmp 36) 0, type := 43, pos := "own.go:56", after := #[{ on := 7, ground := Ground.data }], guard := none }) (v := ?vr9) rfl (by kernel_rfl) (by kernel_rfl) (by kernel_rfl) (fun _ _ _ h => h) (Or.inl ⟨by rfl, ?yr9⟩) bu7 ?rr9
                case yr9 => (intro w hSw; go_simp; try with_reducible rfl)
                try simp only [Act.put, List.setIfInBounds_toArray, List.set_cons_zero, List.set_cons_succ]
                refine wpAnyH_take (i := 9) (oi := { dst := some 45, op := Op.extract (Operand.tmp 36) 1, type := 4, pos := "own.go:56", after := #[{ on := 7, ground := Ground.data }, { on := 11, ground := Ground.gcOnly Departure.lateStores }], guard := none }) (v := ?vr10) rfl (by kernel_rfl) (by kernel_rfl) (by kernel_rfl) (fun _ _ _ h => h) (Or.inl ⟨by rfl, ?yr10⟩) bu7 ?rr10
                case yr10 => (intro w hSw; go_simp; try with_reducible rfl)
                try simp only [Act.put, List.setIfInBounds_toArray, List.set_cons_zero, List.set_cons_succ]
                refine wpAnyH_ready (rs := [10]) (by kernel_rfl) (by simp) ?_
                refine AllReadyH.cons (o := { dst := some 5, op := Op.alloc 43, type := 0, pos := "own.go:56", after := #[], guard := none }) rfl (fun KK hKK => ?_) ?_
                · go_simp
                  refine hKK.out _ _ (bu7.trans ((al_below _ _).mono bu7.size)) (fun _ => ?_)
                  clear hKK KK
                  try simp only [Act.put, List.setIfInBounds_toArray, List.set_cons_zero, List.set_cons_succ]
                  refine wpAnyH_name (fun u11 hu11 => ?_)
                  have bu11 : Below w2.heap.size w2 u11 := by rw [hu11.out]; exact (bu7.trans ((al_below _ _).mono bu7.size))
                  have Gu11 : u11.heap[u7.heap.size]? = some (.cells #[.slice none 0 0, .int .i64 0] 43 (0, 0)) := by rw [hu11.out]; exact new_st u7
                  try have Pu11 := Pu7.below (al_below _ (.cells #[.slice none 0 0, .int .i64 0] 43))
                  try rw [← hu11.out] at Pu11
                  refine wpAnyH_ready (rs := [11]) (by kernel_rfl) (by simp) ?_
                  refine AllReadyH.cons (o := { dst := none, op := Op.store 43 (Operand.tmp 5) (Operand.tmp 44), type := 0, pos := "own.go:56", after := #[{ on := 10, ground := Ground.data }, { on := 8, ground := Ground.data }, { on := 6, ground := Ground.chain }, { on := 0, ground := Ground.phase }, { on := 1, ground := Ground.phase }, { on := 2, ground := Ground.phase }, { on := 3, ground := Ground.phase }, { on := 4, ground := Ground.phase }, { on := 5, ground := Ground.phase }, { on := 6, ground := Ground.phase }, { on := 7, ground := Ground.phase }, { on := 8, ground := Ground.phase }, { on := 9, ground := Ground.textOnly Departure.lateStores }, { on := 10, ground := Ground.phase }], guard := none }) rfl (fun KK hKK => ?_) ?_
                  · refine wp_store_row 43 _ _ rfl u7.heap.size #[.slice ta t.l.length tc, .int .i64 t.n] rfl rfl 43 #[.slice none 0 0, .int .i64 0] Gu11 sizeT rfl (st_ones _ _ _ _) ?_
                    refine hKK.out _ _ (below_setRow bu11 bu7.size _) (fun _ => ?_)
                    clear hKK KK
                    try simp only [Act.put]
                    refine wpAnyH_name (fun u12 hu12 => ?_)
                    have bu12 : Below w2.heap.size w2 u12 := by rw [hu12.out]; exact (below_setRow bu11 bu7.size _)
                    have Zu12 := setRow_heap _ _ _ #[.slice ta t.l.length tc, .int .i64 t.n] _ _ Gu11
                    rw [← hu12.out] at Zu12
                    have Yu12 := Pu11.setRow u7.heap.size #[.slice ta t.l.length tc, .int .i64 t.n] Gu11
                    rw [← hu12.out] at Yu12
                    refine wpAnyH_take (i := 12) (oi := { dst := some 6, op := Op.assign (Operand.tmp 45), type := 4, pos := "own.go:56", after := #[{ on := 9, ground := Ground.data }, { on := 11, ground := Ground.chain }, { on := 0, ground := Ground.phase }, { on := 1, ground := Ground.phase }, { on := 2, ground := Ground.phase }, { on := 3, ground := Ground.phase }, { on := 4, ground := Ground.phase }, { on := 5, ground := Ground.phase }, { on := 6, ground := Ground.phase }, { on := 7, ground := Ground.phase }, { on := 8, ground := Ground.phase }, { on := 9, ground := Ground.phase }, { on := 10, ground := Ground.phase }, { on := 11, ground := Ground.phase }], guard := none }) (v := ?vr13) rfl (by kernel_rfl) (by kernel_rfl) (by kernel_rfl) (fun _ _ _ h => h) (Or.inl ⟨by rfl, ?yr13⟩) bu12 ?rr13
                    case yr13 => (intro w hSw; go_simp; try with_reducible rfl)
                    try simp only [Act.put, List.setIfInBounds_toArray, List.set_cons_zero, List.set_cons_succ]
                    refine wpAnyH_done (by kernel_rfl) ?_ _
                    have HZ : Hid (u12.heap[u7.heap.size]? = some (.cells #[.slice ta t.l.length tc, .int .i64 t.n] 43 (0, 0)) ∧ RP u12 w2.heap.size (.slice ta t.l.length tc) t.l ∧ From w2 u12) := ⟨Zu12, Yu12, bu12⟩
                    clear FK FR CO CS
                    go_wp2_with fail
                    go_meet
                    exact ⟨_, _, _, rfl, rfl, HZ.out.1, rfl, HZ.out.2.1, HZ.out.2.2⟩
                  exact AllReadyH.nil
                exact AllReadyH.nil
              refine AllReadyH.cons (o := { dst := some 5, op := Op.alloc 43, type := 0, pos := "own.go:56", after := #[], guard := none }) rfl (fun KK hKK => ?_) ?_
              · go_simp
                refine hKK.out _ _ (bu6.trans ((al_below _ _).mono bu6.size)) (fun _ => ?_)
                clear hKK KK
                try simp only [Act.put, List.setIfInBounds_toArray, List.set_cons_zero, List.set_cons_succ]
                refine wpAnyH_name (fun u14 hu14 => ?_)
                have bu14 : Below w2.heap.size w2 u14 := by rw [hu14.out]; exact (bu6.trans ((al_below _ _).mono bu6.size))
                have Gu14 : u14.heap[u6.heap.size]? = some (.cells #[.slice none 0 0, .int .i64 0] 43 (0, 0)) := by rw [hu14.out]; exact new_st u6
                try have Pu14 := Pu6.below (al_below _ (.cells #[.slice none 0 0, .int .i64 0] 43))
                try rw [← hu14.out] at Pu14
                refine wpAnyH_ready (rs := [6]) (by kernel_rfl) (by simp) ?_
                refine AllReadyH.cons (o := { dst := some 43, op := Op.call { callee := Callee.value (Operand.func 12), args := #[Operand.tmp 37, Operand.tmp 42], argTypes := #[43, 33] }, type := 47, pos := "own.go:56", after := #[{ on := 0, ground := Ground.data }, { on := 5, ground := Ground.data }, { on := 5, ground := Ground.chain }], guard := none }) rfl (fun KK hKK => ?_) ?_
                · go_simp
                  refine (CS.out _ bu14).mono ?_
                  rintro e u15' ⟨v9, rfl, ou15, bu15'⟩
                  obtain ⟨ta, tc, rfl, -, -, -⟩ := ou15.is.shape
                  unfold SVal
                  (try go_wp2_with fail)
                  refine hKK.out _ _ (bu14.trans (Below.mono (bu15') bu14.size)) (fun _ => ?_)
                  clear hKK KK
                  try simp only [Act.put, List.setIfInBounds_toArray, List.set_cons_zero, List.set_cons_succ]
                  refine wpAnyH_name (fun u15 hu15 => ?_)
                  have bu15 : Below w2.heap.size w2 u15 := by rw [hu15.out]; exact (bu14.trans (Below.mono (bu15') bu14.size))
                  have Pu15 : RP u15 w2.heap.size (.slice ta t.l.length tc) t.l := by rw [hu15.out]; exact ou15.mono bu14.size
                  try have Gu15 := blk_kept Gu14 bu15' (blk_lt Gu14)
                  try rw [← hu15.out] at Gu15
                  refine wpAnyH_take (i := 7) (oi := { dst := some 36, op := Op.move (Operand.tmp 43), type := 47, pos := "own.go:56", after := #[{ on := 6, ground := Ground.data }], guard := none }) (v := ?vr16) rfl (by kernel_rfl) (by kernel_rfl) (by kernel_rfl) (fun _ _ _ h => h) (Or.inl ⟨by rfl, ?yr16⟩) bu15 ?rr16
                  case yr16 => (intro w hSw; go_simp; try with_reducible rfl)
                  try simp only [Act.put, List.setIfInBounds_toArray, List.set_cons_zero, List.set_cons_succ]
                  refine wpAnyH_take (i := 8) (oi := { dst := some 44, op := Op.extract (Operand.tmp 36) 0, type := 43, pos := "own.go:56", after := #[{ on := 7, ground := Ground.data }], guard := none }) (v := ?vr17) rfl (by kernel_rfl) (by kernel_rfl) (by kernel_rfl) (fun _ _ _ h => h) (Or.inl ⟨by rfl, ?yr17⟩) bu15 ?rr17
                  case yr17 => (intro w hSw; go_simp; try with_reducible rfl)
                  try simp only [Act.put, List.setIfInBounds_toArray, List.set_cons_zero, List.set_cons_succ]
                  refine wpAnyH_take (i := 9) (oi := { dst := some 45, op := Op.extract (Operand.tmp 36) 1, type := 4, pos := "own.go:56", after := #[{ on := 7, ground := Ground.data }, { on := 11, ground := Ground.gcOnly Departure.lateStores }], guard := none }) (v := ?vr18) rfl (by kernel_rfl) (by kernel_rfl) (by kernel_rfl) (fun _ _ _ h => h) (Or.inl ⟨by rfl, ?yr18⟩) bu15 ?rr18
                  case yr18 => (intro w hSw; go_simp; try with_reducible rfl)
                  try simp only [Act.put, List.setIfInBounds_toArray, List.set_cons_zero, List.set_cons_succ]
                  refine wpAnyH_ready (rs := [11]) (by kernel_rfl) (by simp) ?_
                  refine AllReadyH.cons (o := { dst := none, op := Op.store 43 (Operand.tmp 5) (Operand.tmp 44), type := 0, pos := "own.go:56", after := #[{ on := 10, ground := Ground.data }, { on := 8, ground := Ground.data }, { on := 6, ground := Ground.chain }, { on := 0, ground := Ground.phase }, { on := 1, ground := Ground.phase }, { on := 2, ground := Ground.phase }, { on := 3, ground := Ground.phase }, { on := 4, ground := Ground.phase }, { on := 5, ground := Ground.phase }, { on := 6, ground := Ground.phase }, { on := 7, ground := Ground.phase }, { on := 8, ground := Ground.phase }, { on := 9, ground := Ground.textOnly Departure.lateStores }, { on := 10, ground := Ground.phase }], guard := none }) rfl (fun KK hKK => ?_) ?_
                  · refine wp_store_row 43 _ _ rfl u6.heap.size #[.slice ta t.l.length tc, .int .i64 t.n] rfl rfl 43 #[.slice none 0 0, .int .i64 0] Gu15 sizeT rfl (st_ones _ _ _ _) ?_
                    refine hKK.out _ _ (below_setRow bu15 bu6.size _) (fun _ => ?_)
                    clear hKK KK
                    try simp only [Act.put]
                    refine wpAnyH_name (fun u19 hu19 => ?_)
                    have bu19 : Below w2.heap.size w2 u19 := by rw [hu19.out]; exact (below_setRow bu15 bu6.size _)
                    have Zu19 := setRow_heap _ _ _ #[.slice ta t.l.length tc, .int .i64 t.n] _ _ Gu15
                    rw [← hu19.out] at Zu19
                    have Yu19 := Pu15.setRow u6.heap.size #[.slice ta t.l.length tc, .int .i64 t.n] Gu15
                    rw [← hu19.out] at Yu19
                    refine wpAnyH_take (i := 12) (oi := { dst := some 6, op := Op.assign (Operand.tmp 45), type := 4, pos := "own.go:56", after := #[{ on := 9, ground := Ground.data }, { on := 11, ground := Ground.chain }, { on := 0, ground := Ground.phase }, { on := 1, ground := Ground.phase }, { on := 2, ground := Ground.phase }, { on := 3, ground := Ground.phase }, { on := 4, ground := Ground.phase }, { on := 5, ground := Ground.phase }, { on := 6, ground := Ground.phase }, { on := 7, ground := Ground.phase }, { on := 8, ground := Ground.phase }, { on := 9, ground := Ground.phase }, { on := 10, ground := Ground.phase }, { on := 11, ground := Ground.phase }], guard := none }) (v := ?vr20) rfl (by kernel_rfl) (by kernel_rfl) (by kernel_rfl) (fun _ _ _ h => h) (Or.inl ⟨by rfl, ?yr20⟩) bu19 ?rr20
                    case yr20 => (intro w hSw; go_simp; try with_reducible rfl)
                    try simp only [Act.put, List.setIfInBounds_toArray, List.set_cons_zero, List.set_cons_succ]
                    refine wpAnyH_done (by kernel_rfl) ?_ _
                    have HZ : Hid (u19.heap[u6.heap.size]? = some (.cells #[.slice ta t.l.length tc, .int .i64 t.n] 43 (0, 0)) ∧ RP u19 w2.heap.size (.slice ta t.l.length tc) t.l ∧ From w2 u19) := ⟨Zu19, Yu19, bu19⟩
                    clear FK FR CO CS
                    go_wp2_with fail
                    go_meet
                    exact ⟨_, _, _, rfl, rfl, HZ.out.1, rfl, HZ.out.2.1, HZ.out.2.2⟩
                  exact AllReadyH.nil
                exact AllReadyH.nil
              exact AllReadyH.nil
            refine AllReadyH.cons (o := { dst := some 5, op := Op.alloc 43, type := 0, pos := "own.go:56", after := #[], guard := none }) rfl (fun KK hKK => ?_) ?_
            · go_simp
              refine hKK.out _ _ (bu0.trans ((al_below _ _).mono bu0.size)) (fun _ => ?_)
              clear hKK KK
              try simp only [Act.put, List.setIfInBounds_toArray, List.set_cons_zero, List.set_cons_succ]
              refine wpAnyH_name (fun u21 hu21 => ?_)
              have bu21 : Below w2.heap.size w2 u21 := by rw [hu21.out]; exact (bu0.trans ((al_below _ _).mono bu0.size))
              have Gu21 : u21.heap[u0.heap.size]? = some (.cells #[.slice none 0 0, .int .i64 0] 43 (0, 0)) := by rw [hu21.out]; exact new_st u0
              try have Pu21 := Pu0.below (al_below _ (.cells #[.slice none 0 0, .int .i64 0] 43))
              try rw [← hu21.out] at Pu21
              refine wpAnyH_ready (rs := [5]) (by kernel_rfl) (by simp) ?_
              refine AllReadyH.cons (o := { dst := some 42, op := Op.call { callee := Callee.value (Operand.func 9), args := #[Operand.tmp 41], argTypes := #[25] }, type := 33, pos := "own.go:56", after := #[{ on := 4, ground := Ground.data }], guard := none }) rfl (fun KK hKK => ?_) ?_
              · go_simp
                refine (CO.out _).mono ?_
                rintro e u22' ⟨rfl, bu22'⟩
                (try go_wp2_with fail)
                refine hKK.out _ _ (bu21.trans (Below.mono (bu22') bu21.size)) (fun _ => ?_)
                clear hKK KK
                try simp only [Act.put, List.setIfInBounds_toArray, List.set_cons_zero, List.set_cons_succ]
                refine wpAnyH_name (fun u22 hu22 => ?_)
                have bu22 : Below w2.heap.size w2 u22 := by rw [hu22.out]; exact (bu21.trans (Below.mono (bu22') bu21.size))
                try have Gu22 := blk_kept Gu21 bu22' (blk_lt Gu21)
                try rw [← hu22.out] at Gu22
                refine wpAnyH_ready (rs := [6]) (by kernel_rfl) (by simp) ?_
                refine AllReadyH.cons (o := { dst := some 43, op := Op.call { callee := Callee.value (Operand.func 12), args := #[Operand.tmp 37, Operand.tmp 42], argTypes := #[43, 33] }, type := 47, pos := "own.go:56", after := #[{ on := 0, ground := Ground.data }, { on := 5, ground := Ground.data }, { on := 5, ground := Ground.chain }], guard := none }) rfl (fun KK hKK => ?_) ?_
                · go_simp
                  refine (CS.out _ bu22).mono ?_
                  rintro e u23' ⟨v9, rfl, ou23, bu23'⟩
                  obtain ⟨ta, tc, rfl, -, -, -⟩ := ou23.is.shape
                  unfold SVal
                  (try go_wp2_with fail)
                  refine hKK.out _ _ (bu22.trans (Below.mono (bu23') bu22.size)) (fun _ => ?_)
                  clear hKK KK
                  try simp only [Act.put, List.setIfInBounds_toArray, List.set_cons_zero, List.set_cons_succ]
                  refine wpAnyH_name (fun u23 hu23 => ?_)
                  have bu23 : Below w2.heap.size w2 u23 := by rw [hu23.out]; exact (bu22.trans (Below.mono (bu23') bu22.size))
                  have Pu23 : RP u23 w2.heap.size (.slice ta t.l.length tc) t.l := by rw [hu23.out]; exact ou23.mono bu22.size
                  try have Gu23 := blk_kept Gu22 bu23' (blk_lt Gu22)
                  try rw [← hu23.out] at Gu23
                  refine wpAnyH_take (i := 7) (oi := { dst := some 36, op := Op.move (Operand.tmp 43), type := 47, pos := "own.go:56", after := #[{ on := 6, ground := Ground.data }], guard := none }) (v := ?vr24) rfl (by kernel_rfl) (by kernel_rfl) (by kernel_rfl) (fun _ _ _ h => h) (Or.inl ⟨by rfl, ?yr24⟩) bu23 ?rr24
                  case yr24 => (intro w hSw; go_simp; try with_reducible rfl)
                  try simp only [Act.put, List.setIfInBounds_toArray, List.set_cons_zero, List.set_cons_succ]
                  refine wpAnyH_take (i := 8) (oi := { dst := some 44, op := Op.extract (Operand.tmp 36) 0, type := 43, pos := "own.go:56", after := #[{ on := 7, ground := Ground.data }], guard := none }) (v := ?vr25) rfl (by kernel_rfl) (by kernel_rfl) (by kernel_rfl) (fun _ _ _ h => h) (Or.inl ⟨by rfl, ?yr25⟩) bu23 ?rr25
                  case yr25 => (intro w hSw; go_simp; try with_reducible rfl)
                  try simp only [Act.put, List.setIfInBounds_toArray, List.set_cons_zero, List.set_cons_succ]
                  refine wpAnyH_take (i := 9) (oi := { dst := some 45, op := Op.extract (Operand.tmp 36) 1, type := 4, pos := "own.go:56", after := #[{ on := 7, ground := Ground.data }, { on := 11, ground := Ground.gcOnly Departure.lateStores }], guard := none }) (v := ?vr26) rfl (by kernel_rfl) (by kernel_rfl) (by kernel_rfl) (fun _ _ _ h => h) (Or.inl ⟨by rfl, ?yr26⟩) bu23 ?rr26
                  case yr26 => (intro w hSw; go_simp; try with_reducible rfl)
                  try simp only [Act.put, List.setIfInBounds_toArray, List.set_cons_zero, List.set_cons_succ]
                  refine wpAnyH_ready (rs := [11]) (by kernel_rfl) (by simp) ?_
                  refine AllReadyH.cons (o := { dst := none, op := Op.store 43 (Operand.tmp 5) (Operand.tmp 44), type := 0, pos := "own.go:56", after := #[{ on := 10, ground := Ground.data }, { on := 8, ground := Ground.data }, { on := 6, ground := Ground.chain }, { on := 0, ground := Ground.phase }, { on := 1, ground := Ground.phase }, { on := 2, ground := Ground.phase }, { on := 3, ground := Ground.phase }, { on := 4, ground := Ground.phase }, { on := 5, ground := Ground.phase }, { on := 6, ground := Ground.phase }, { on := 7, ground := Ground.phase }, { on := 8, ground := Ground.phase }, { on := 9, ground := Ground.textOnly Departure.lateStores }, { on := 10, ground := Ground.phase }], guard := none }) rfl (fun KK hKK => ?_) ?_
                  · refine wp_store_row 43 _ _ rfl u0.heap.size #[.slice ta t.l.length tc, .int .i64 t.n] rfl rfl 43 #[.slice none 0 0, .int .i64 0] Gu23 sizeT rfl (st_ones _ _ _ _) ?_
                    refine hKK.out _ _ (below_setRow bu23 bu0.size _) (fun _ => ?_)
                    clear hKK KK
                    try simp only [Act.put]
                    refine wpAnyH_name (fun u27 hu27 => ?_)
                    have bu27 : Below w2.heap.size w2 u27 := by rw [hu27.out]; exact (below_setRow bu23 bu0.size _)
                    have Zu27 := setRow_heap _ _ _ #[.slice ta t.l.length tc, .int .i64 t.n] _ _ Gu23
                    rw [← hu27.out] at Zu27
                    have Yu27 := Pu23.setRow u0.heap.size #[.slice ta t.l.length tc, .int .i64 t.n] Gu23
                    rw [← hu27.out] at Yu27
                    refine wpAnyH_take (i := 12) (oi := { dst := some 6, op := Op.assign (Operand.tmp 45), type := 4, pos := "own.go:56", after := #[{ on := 9, ground := Ground.data }, { on := 11, ground := Ground.chain }, { on := 0, ground := Ground.phase }, { on := 1, ground := Ground.phase }, { on := 2, ground := Ground.phase }, { on := 3, ground := Ground.phase }, { on := 4, ground := Ground.phase }, { on := 5, ground := Ground.phase }, { on := 6, ground := Ground.phase }, { on := 7, ground := Ground.phase }, { on := 8, ground := Ground.phase }, { on := 9, ground := Ground.phase }, { on := 10, ground := Ground.phase }, { on := 11, ground := Ground.phase }], guard := none }) (v := ?vr28) rfl (by kernel_rfl) (by kernel_rfl) (by kernel_rfl) (fun _ _ _ h => h) (Or.inl ⟨by rfl, ?yr28⟩) bu27 ?rr28
                    case yr28 => (intro w hSw; go_simp; try with_reducible rfl)
                    try simp only [Act.put, List.setIfInBounds_toArray, List.set_cons_zero, List.set_cons_succ]
                    refine wpAnyH_done (by kernel_rfl) ?_ _
                    have HZ : Hid (u27.heap[u0.heap.size]? = some (.cells #[.slice ta t.l.length tc, .int .i64 t.n] 43 (0, 0)) ∧ RP u27 w2.heap.size (.slice ta t.l.length tc) t.l ∧ From w2 u27) := ⟨Zu27, Yu27, bu27⟩
                    clear FK FR CO CS
                    go_wp2_with fail
                    go_meet
                    exact ⟨_, _, _, rfl, rfl, HZ.out.1, rfl, HZ.out.2.1, HZ.out.2.2⟩
                  exact AllReadyH.nil
                exact AllReadyH.nil
              exact AllReadyH.nil
            exact AllReadyH.nil
          case rest =>
            obtain ⟨g, v', m, rfl, rfl, hg, rfl, hp, hf⟩ := hcut
            have BX : Hid (Below w.heap.size w wc) := B2.out.trans (Below.mono hf B2.out.size)
            have GX : Hid (wc.heap[w.heap.size]? = some (.cells #[.slice va sn vc, .int .i64 s.n] 43 (0, 0))) := blk_kept G2.out hf (blk_lt G2.out)
            have PX : Hid (RP wc w.heap.size (.slice va sn vc) s.l) := P2.out.below hf
            have PT : Hid (RP wc w.heap.size v' t.l) := hp.mono B2.out.size
            have RT : Hid (wc.rangeAt g 0 [v', .int .i64 t.n]) := blk_range hg
            obtain ⟨ta, tc, rfl, -, -, -⟩ := hp.is.shape
            clear hg hp hf CS CO FK FR G2 P2 RN B2 Q2
            cases sb with
            | false =>
              have hts : t = s := HSO.out rfl
              have HZ : Hid (∃ s', VS w w.heap.size wc s') := ⟨s, _, GX.out, PX.out, HI.out, BX.out⟩
              clear GX PX HI HSO
              go_wp2
              go_roundw
              case rel => exact ⟨j + 1, by omega, by go_num, HZ.out⟩
              case measure => simp [intOf]; omega
            | true =>
              generalize t.l.length = tn at *
              have st1 := st_ones ta tn tc t.n
              have HZ : Hid (∃ s', VS w w.heap.size (wc.setRow w.heap.size #[.slice ta tn tc, .int .i64 t.n]) s') := ⟨t, _, setRow_heap _ _ _ _ _ _ GX.out, PT.out.setRow _ _ GX.out, HI2.out, below_setRow BX.out (Nat.le_refl _) _⟩
              go_wp2_with (first
                | refine wpList_load_mid rfl 43 _ rfl g 0 rfl [.slice ta tn tc, .int .i64 t.n] _ RT.out Tryd.underlying43 rfl sizeT ?_
                | refine wpList_store_row rfl 43 _ _ rfl w.heap.size #[.slice ta tn tc, .int .i64 t.n] rfl rfl 43 #[.slice va sn vc, .int .i64 s.n] GX.out sizeT rfl st1 (Hid.out ?_))
              unfold Hid
              generalize wc.setRow w.heap.size #[.slice ta tn tc, .int .i64 t.n] = wz at *
              go_wp2
              go_roundw
              case rel => exact ⟨j + 1, by omega, by go_num, HZ.out⟩
              case measure => simp [intOf]; omega
        · have dck : (rck x != 0) = true := by simpa using hck
          have HZ : Hid (∃ s', VS w w.heap.size w2 s') := ⟨s, _, G2.out, P2.out, HI.out, B2.out⟩
          generalize rck x = k at *
          clear hck G2 P2 HI RN
          go_wp2
          go_roundw
          case rel => exact ⟨j + 1, by omega, by go_num, HZ.out⟩
          case measure => simp [intOf]; omega
    · obtain rfl : j = n := by omega
      have hinv := HI.out
      have ci := image_any vs s wr HP.out.is (by have := hinv.ln; omega) (fun y hy => by have := hinv.lt y hy; have := hinv.n1; omega) (by have := hinv.n0; have := hinv.n1; omega)
      have ISP := img_spec hinv
      have HIC : Hid (∀ r ∈ img s, rck r = 0 ∧ r.x.p.size ≤ 1000) := fun r hr => ⟨img_ck hinv r hr, img_ps hinv r hr⟩
      have HIL : Hid ((img s).length ≤ 130) := img_ok hinv
      have CPl : Hid (∀ W v', RR W wr.heap.size v' (img s) → Calls Tryd.prog 16 #[v'] W fun e w' => ∃ v2, e = .returned (.tuple #[.agg #[v2, .int .i64 s.n], .int .i64 ((img s).length : Nat)]) ∧ RP w' W.heap.size v2 s.l ∧ Below W.heap.size W w') := fun W v' hr => by
        have := play_any v' (img s) W hr.is (by have := img_ok hinv; omega) (fun r hr => by have := rck_ok (img_ck hinv r hr); omega)
        rw [ISP] at this
        exact this
      have R3 : Hid (wr.rangeAt w.heap.size 0 [vs, .int .i64 s.n]) := blk_range HG.out
      obtain ⟨va, vc, rfl, -, -, -⟩ := HP.out.is.shape
      have HSL : Hid (s.l.length ≤ 1000) := by unfold Hid; have := hinv.ln; omega
      have CSm : Hid (∀ W v2, RP W w.heap.size (.slice va s.l.length vc) s.l → RP W w.heap.size v2 s.l → Calls Tryd.prog 23 #[.agg #[.slice va s.l.length vc, .int .i64 s.n], .agg #[v2, .int .i64 s.n]] W fun e w' => e = .returned (.bool true) ∧ Below W.heap.size W w') := fun W v2 h1 h2 => by
        have := same_any _ v2 s s W h1.is h2.is (by have := hinv.ln; omega) (by have := hinv.ln; omega)
        rw [saS_self] at this
        exact this
      clear ISP hinv HI HRS HOK
      generalize img s = IM at *
      obtain ⟨sn, hsn⟩ : ∃ sn, sn = s.l.length := ⟨_, rfl⟩
      rw [← hsn] at ci HP HG R3 CSm
      clear hsn
      go_wp2_with (refine wpList_load_mid rfl 43 _ rfl w.heap.size 0 rfl [.slice va sn vc, .int .i64 s.n] _ R3.out Tryd.underlying43 rfl sizeT ?_)
      refine ci.mono ?_
      rintro e w2 ⟨v2, rfl, r2, b2⟩
      have B2 : Hid (Below w.heap.size w w2) := HB.out.trans (b2.mono HB.out.size)
      have G2 : Hid (w2.heap[w.heap.size]? = some (.cells #[.slice va sn vc, .int .i64 s.n] 43 (0, 0))) := blk_kept HG.out b2 (blk_lt HG.out)
      have P2 : Hid (RP w2 w.heap.size (.slice va sn vc) s.l) := HP.out.below b2
      have M2 : Hid (RR w2 wr.heap.size v2 IM) := r2
      have cp := CPl.out w2 v2 r2
      obtain ⟨ma, mc, rfl, -, -, -⟩ := r2.is.shape
      have HWS : Hid (w.heap.size ≤ wr.heap.size ∧ w.heap.size < wr.heap.size) := ⟨HB.out.size, blk_lt HG.out⟩
      clear ci r2 b2 CPl HG HP R3 HB
      obtain ⟨mn, hmn⟩ : ∃ mn, mn = IM.length := ⟨_, rfl⟩
      have HMN : Hid (mn = IM.length) := hmn
      rw [← hmn] at cp M2 HIL ⊢
      clear hmn
      go_wp2_with fail
      refine cp.mono ?_
      rintro e w3 ⟨v3, rfl, p3, b3⟩
      have B3 : Hid (Below w.heap.size w w3) := B2.out.trans (b3.mono B2.out.size)
      have G3 : Hid (w3.heap[w.heap.size]? = some (.cells #[.slice va sn vc, .int .i64 s.n] 43 (0, 0))) := blk_kept G2.out b3 (blk_lt G2.out)
      have P3 : Hid (RP w3 w.heap.size (.slice va sn vc) s.l) := P2.out.below b3
      have M3 : Hid (RR w3 wr.heap.size (.slice ma mn mc) IM) := M2.out.below b3
      have T3 : Hid (RP w3 w.heap.size v3 s.l) := p3.mono B2.out.size
      obtain ⟨ta, tc, e3, -, -, -⟩ := p3.is.shape
      clear cp b3 p3 G2 P2 M2 B2
      subst e3
      obtain ⟨tn, htn⟩ : ∃ tn, tn = s.l.length := ⟨_, rfl⟩
      rw [← htn] at T3 ⊢
      clear htn
      obtain ⟨W4, hW4⟩ : ∃ W4, W4 = w3.alloc (.cells #[.slice ta tn tc, .int .i64 s.n] 43) := ⟨_, rfl⟩
      have b4 : Below w3.heap.size w3 W4 := by rw [hW4]; exact al_below _ _
      have g4 : W4.heap[w3.heap.size]? = some (.cells #[.slice ta tn tc, .int .i64 s.n] 43 (0, 0)) := by rw [hW4]; exact heap_alloc_new _ _
      have HE4 : Hid ((w3.alloc (.cells #[.slice none 0 0, .int .i64 0] 43)).setRow w3.heap.size #[.slice ta tn tc, .int .i64 s.n] = W4) := by unfold Hid; rw [hW4]; exact World.setRow_alloc_new _ _ _ _
      have F4 : Hid (∀ W, Below W4.heap.size W4 W → W.heap[w3.heap.size]? = some (.cells #[.slice ta tn tc, .int .i64 s.n] 43 (0, 0)) ∧ W.heap[w.heap.size]? = some (.cells #[.slice va sn vc, .int .i64 s.n] 43 (0, 0)) ∧ RP W w.heap.size (.slice va sn vc) s.l ∧ RP W w.heap.size (.slice ta tn tc) s.l ∧ RR W wr.heap.size (.slice ma mn mc) IM ∧ Below w.heap.size w W) := fun W hb => by
        have b34 : Below w3.heap.size w3 W := b4.trans (hb.mono b4.size)
        exact ⟨blk_kept g4 hb (blk_lt g4), blk_kept G3.out b34 (blk_lt G3.out), P3.out.below b34, T3.out.below b34, M3.out.below b34, B3.out.trans (b34.mono B3.out.size)⟩
      clear hW4 b4 g4 G3 P3 M3 T3 B3
      go_wp2_with (refine wpList_store_row rfl 43 _ _ rfl w3.heap.size #[.slice ta tn tc, .int .i64 s.n] rfl rfl 43 #[.slice none 0 0, .int .i64 0] (new_st w3) sizeT rfl (st_ones _ _ _ _) (Hid.out ?_))
      unfold Hid
      rw [HE4.out]
      clear HE4
      have HB4 : Hid (∃ B, B = wr) := ⟨_, rfl⟩
      go_wp2_with fail
      generalize hWR : wr.heap.size = WRS at *
      clear hWR HB4
      have hm130 : mn ≤ 130 := HIL.out
      go_loopw [10] (fun z wq => ∃ j : Nat, j ≤ mn ∧ z = .int .i64 j ∧ Below W4.heap.size W4 wq) (fun z _ => mn - (intOf z).toNat)
      case atStart => exact ⟨0, by omega, rfl, Below.refl _ _⟩
      case round =>
        obtain ⟨i, hi, rfl, hbq⟩ := hrel
        have HQ : Hid (Below W4.heap.size W4 wr) := hbq
        obtain ⟨q1, q2, q3, q4, q5, q6⟩ := F4.out wr hbq
        clear hbq
        by_cases hli : i < mn
        · have li2 : (i : Int) < (mn : Int) := by omega
          obtain ⟨b, off, rfl, hr⟩ := q5.is.at i (by rw [← HMN.out]; exact hli)
          have hx : (atR IM i).ok := Rc.at IM q5.2 i
          obtain ⟨hk0, hk1⟩ := HIC.out (atR IM i) (atR_mem IM i (by rw [← HMN.out]; exact hli))
          have cc := rcheck_any (atR IM i) wr hx (HTB.out.kept q6).2.2 (by unfold maxLen; omega)
          rw [hk0] at cc
          have RN : Hid (wr.rangeAt b (off + i * 37) (atR IM i).cells) := hr
          have ZR : Hid ((Tryd.prog.info? 33).map (·.size) = some (atR IM i).cells.length) := Rc.infoL _ hx
          unfold Rc.val at cc
          clear hr hx hk0 hk1 q1 q2 q3 q4 q5 q6
          generalize (atR IM i).cells = cs at *
          go_wp2_with (refine wpList_load_mid rfl 33 _ rfl b (off + i * 37) rfl cs _ RN.out Tryd.underlying33 rfl ZR.out ?_)
          refine cc.mono ?_
          rintro e wk ⟨rfl, bk⟩
          have BK9 : Hid (Below W4.heap.size W4 wk) := HQ.out.trans (bk.mono HQ.out.size)
          clear cc bk HQ
          go_wp2
          go_roundw
          case rel => exact ⟨i + 1, by omega, by go_num, BK9.out⟩
          case measure => simp [intOf]; omega
        · obtain rfl : i = mn := by omega
          have cs := CSm.out wr _ q3 q4
          have c20 : wr.cell? ⟨w.heap.size, 0, none⟩ = some (.slice va sn vc) := by simp [World.cell?, q2]
          have c21 : wr.cell? ⟨w.heap.size, 1, none⟩ = some (.int .i64 s.n) := by simp [World.cell?, q2]
          have c30 : wr.cell? ⟨w3.heap.size, 0, none⟩ = some (.slice ta tn tc) := by simp [World.cell?, q1]
          have c31 : wr.cell? ⟨w3.heap.size, 1, none⟩ = some (.int .i64 s.n) := by simp [World.cell?, q1]
          have BQ : Hid (Below w.heap.size w wr) := q6
          have dm : ((i : Int) == (i : Int)) = true := by simp
          clear q1 q2 q3 q4 q5 q6 HIC
          go_wp2_with fail
          refine cs.mono ?_
          rintro e w5 ⟨rfl, b5⟩
          have B5 : Hid (Below w.heap.size w w5) := BQ.out.trans (b5.mono BQ.out.size)
          have aw := HAW.out w5 B5.out
          clear cs b5 HAW
          go_wp2_with fail
          refine aw.mono ?_
          rintro e w6 ⟨rfl, b6⟩
          have B6 : Hid (Below w.heap.size w w6) := B5.out.trans (b6.mono B5.out.size)
          clear aw b6
          go_wp2
          go_ret
          exact ⟨rfl, B6.out⟩

theorem contract (H : Type) (enc : TypeId × Value → H) (W : World) (base : Nat) (args : Array Value) (ds gs : List (DataW H)) (before : List MemPlace)
    (hval : ∀ (j : Nat) t v, Tryd.f6.params[j]? = some t → args[j]? = some v → Value.okWide Tryd.prog W .any base t v)
    (hW : DataW.Whole enc Tryd.prog Tryd.f6.params.toList Rows.recordImagedSpec.vars false W args.toList ds gs before) (hL : laidMetH Tryd.prog Rows.recordImagedRow.laid W) (hsh : W.ShapedOpen Tryd.prog)
    (hsz0 : (DataW.weightsEach Tryd.prog (Tryd.f6.params.toList ++ Rows.recordImagedSpec.plain.varTypes Tryd.prog) (ds ++ gs)).all (· ≤ reachBytes) = true) :
    Calls Tryd.prog 6 args W fun e W' => ∃ v, e = .returned v ∧ Rows.recordImagedSpec.post enc Tryd.prog Tryd.f6 false true false false W args v W' := by
  have hW' := hW
  obtain ⟨p, q, hA0, hV, rfl, hfz, hnd⟩ := hW
  have hA : DataW.TrodAll enc Tryd.prog W 0 (fun _ => true) true Tryd.f6.params.toList args.toList ds p := hA0
  rw [Tryd.params6] at hA hval hsz0
  obtain ⟨v0, vs0, d0, ds0, p0, q0, hargs, rfl, rfl, h0, r0⟩ := trodAll_cons hA
  obtain ⟨rfl, rfl, rfl⟩ := trodAll_nil r0
  obtain rfl : args = #[v0] := by cases args; simp_all
  obtain ⟨rfl, rfl⟩ := trodVars_none hV
  have k0 := h0
  have lt0 : ∀ x ∈ p0, x.block < W.heap.size := by obtain ⟨m, hm⟩ := k0; exact DataW.trod_lt m _ _ _ hm
  obtain ⟨L0, w0⟩ := recs_in (hval 0 39 v0 rfl rfl) h0
  clear hA0
  refine (walk v0 L0 W (tb_of hL hsh) w0).mono fun e W' ⟨he, bel⟩ => ?_
  subst he
  exact ⟨_, rfl, _, _, _, [], _, [], hW', trodAll_mk1 (shut_bool Tryd.underlying4 _), (trodAll_cons_mk (Below.trod laidOut (by kernel_rfl) (of_decide_eq_true (by kernel_rfl)) k0 bel lt0) trodAll_mk0), rfl, bel.frame _, fun h => by cases h⟩

theorem laid_met (os : Os) : laidMet Tryd.prog Rows.recordImagedRow.laid (({ World.holding Tryd.prog os ⟨#[], #[], []⟩ with heap := ((((((World.holding Tryd.prog os ⟨#[], #[], []⟩).heap.modify 0 (fun
      | .cells _ t frozen => .cells #[.int .i64 1, .int .i64 2, .int .i64 4, .int .i64 8] t frozen
      | o => o)).modify 1 (fun
      | .cells _ t frozen => .cells halfCells t frozen
      | o => o)).modify 2 (fun
      | .cells _ t frozen => .cells #[.int .i64 0] t frozen
      | o => o)).modify 3 (fun
      | .cells _ t frozen => .cells firstCells t frozen
      | o => o)).modify 4 (fun
      | .cells _ t frozen => .cells rangeCells t frozen
      | o => o)) } : World).forCall (fun _ _ => 0) ⟨#[], #[.slice none 0 0], []⟩).memory :=
  laidMet_of_run' 8 (by kernel_rfl) (by kernel_rfl)
theorem reads (os : Os) {H : Type} (enc : TypeId × Value → H) : ∃ places, DataW.whole enc Tryd.prog (({ World.holding Tryd.prog os ⟨#[], #[], []⟩ with heap := ((((((World.holding Tryd.prog os ⟨#[], #[], []⟩).heap.modify 0 (fun
      | .cells _ t frozen => .cells #[.int .i64 1, .int .i64 2, .int .i64 4, .int .i64 8] t frozen
      | o => o)).modify 1 (fun
      | .cells _ t frozen => .cells halfCells t frozen
      | o => o)).modify 2 (fun
      | .cells _ t frozen => .cells #[.int .i64 0] t frozen
      | o => o)).modify 3 (fun
      | .cells _ t frozen => .cells firstCells t frozen
      | o => o)).modify 4 (fun
      | .cells _ t frozen => .cells rangeCells t frozen
      | o => o)) } : World).forCall (fun _ _ => 0) ⟨#[], #[.slice none 0 0], []⟩).memory Tryd.f6.params.toList Rows.recordImagedSpec.vars false #[Value.slice none 0 0].toList 8 = some ([.nil], [], places) :=
  ⟨[], by kernel_rfl⟩

set_option maxRecDepth 100000 in
theorem lifted (os : Os) (started : os.Started) (H : Type) (enc : TypeId × Value → H) (F : Stop.Interp) :
    ReturnsInHanded {} Tryd.checked os 6 .any ((OpenSpec.ofChange Rows.recordImagedSpec).preRow enc Tryd.prog Tryd.f6 Rows.recordImagedRow.domain false Rows.recordImagedRow.laid) (((OpenSpec.ofChange Rows.recordImagedSpec).at F).post enc Tryd.prog Tryd.f6 false true false false) := by
  obtain ⟨places, hx⟩ := reads os enc
  refine returnsInHanded_of_row (C := Tryd.checked) (s := OpenSpec.ofChange Rows.recordImagedSpec) own started (by kernel_rfl) Tryd.func6
    (witness_row_at (enc := enc) (C := Tryd.checked) false ({ World.holding Tryd.prog os ⟨#[], #[], []⟩ with heap := ((((((World.holding Tryd.prog os ⟨#[], #[], []⟩).heap.modify 0 (fun
      | .cells _ t frozen => .cells #[.int .i64 1, .int .i64 2, .int .i64 4, .int .i64 8] t frozen
      | o => o)).modify 1 (fun
      | .cells _ t frozen => .cells halfCells t frozen
      | o => o)).modify 2 (fun
      | .cells _ t frozen => .cells #[.int .i64 0] t frozen
      | o => o)).modify 3 (fun
      | .cells _ t frozen => .cells firstCells t frozen
      | o => o)).modify 4 (fun
      | .cells _ t frozen => .cells rangeCells t frozen
      | o => o)) } : World) #[.slice none 0 0] rfl (by kernel_rfl) (by kernel_rfl) (by kernel_rfl)
      (OpenSpec.preRow_of_cond 8 hx (by kernel_rfl) (fun k hk => by cases hk) (by kernel_rfl) (laid_met os))) ?_
  intro W base args ds gs before hval hW _ _ hsz hL hsh _
  exact contract H enc W base args ds gs before hval hW hL hsh hsz

theorem said : Rows.RecordImagedSaid :=
  OpenClaim.holds_of_cond 6 Tryd.f6 rfl rfl rfl rfl rfl rfl rfl ⟨rfl, rfl, rfl, rfl, rfl⟩ rfl rfl rfl rfl rfl (by kernel_rfl) Tryd.func6 (by kernel_rfl)
    (of_decide_eq_true (by kernel_rfl)) (by unfold Func.isWrapper; first | (rw [if_pos (by decide +kernel)]; kernel_rfl) | (rw [if_neg (by decide +kernel)]; exact ⟨rfl, rfl⟩))
    (fun os started H enc _ F => by rw [OpenClaim.pre_eq_preRow]; exact lifted os started H enc F)

theorem plain (f : FuncId) (fn : Func) (hf : Tryd.pinned.checked.prog.funcNamed "sumpter/sumpterlaw15.RecordImaged" = some f) (hfn : Tryd.pinned.checked.prog.funcs[f]? = some fn) :
    false = Tryd.pinned.checked.prog.looks [] ∧ ∀ (j : Nat) t, fn.params[j]? = some t → Tryd.pinned.checked.prog.wantsStandIn t = false := by
  obtain rfl : f = 6 := Option.some.inj ((show Tryd.prog.funcNamed "sumpter/sumpterlaw15.RecordImaged" = some 6 by kernel_rfl).symm.trans hf) |>.symm
  obtain rfl : fn = Tryd.f6 := (Option.some.inj (Tryd.func6.symm.trans hfn)).symm
  refine ⟨by kernel_rfl, fun j t ht => ?_⟩
  rw [Tryd.params6] at ht
  have hm : t ∈ [39] := by simpa using Array.mem_of_getElem? ht
  have hall : ([39].all fun u => !Tryd.prog.wantsStandIn u) = true := by kernel_rfl
  exact (show Tryd.prog.wantsStandIn t = false by simpa using List.all_eq_true.1 hall t hm)
end Go.Proofs.YtpkobpdiddjnpaaDoor.recordImaged

namespace Go.Proofs.YtpkobpdiddjnpaaDoor
/-- The card of RecordImaged. -/
theorem recordImaged_card : Rows.RecordImagedCardSaid :=
  Claim7.holds_tied_plain_at .later [] _ _ _ _ recordImaged.said (fun _ h => by cases h) (by kernel_rfl) (fun _ h => by cases h) recordImaged_row_tie rfl ⟨rfl, rfl⟩ (by kernel_rfl) rfl recordImaged.plain (by kernel_rfl)
#print axioms recordImaged_card
end Go.Proofs.YtpkobpdiddjnpaaDoor
