/-
  RecordRises: parts have rising IDs below the next one, unlike paths, and an offset up to their size that never falls; what is refused changes nothing; at most 200 records, IDs up to 2^41, paths of at most 300 bytes, else the closed case alone is asked. It holds for every input of the row; varint's table of widths, crc's table of halves and Go's tables of utf8 (first, acceptRanges) hold what their declarations lay when the call begins.
-/
import Derived.Test.YtpkobpdiddjnpabDoorPkT
import Derived.Test.YtpkobpdiddjnpabDoorStp
import Derived.Deep.QuietTactic
import Derived.BigQuiet
namespace Go.Proofs.YtpkobpdiddjnpabDoor.recordRises
open Go.ChangeShapes Go.WideShapes Go.ChangeAt Go.RowKit Go.Deep Go.ChangeMaps
set_option maxRecDepth 100000

/-- What the loop holds: the state in the variable s. -/
def VS (w0 : World) (S : Nat) (wr : World) (s : Ste) : Prop := ∃ v, wr.heap[S]? = some (.cells #[v, .int .i64 s.n] 26 (0, 0)) ∧ RP wr S v s.l ∧ Inv s ∧ Below w0.heap.size w0 wr
set_option maxHeartbeats 8000000 in
theorem walk (v : Value) (L : List Rc) (w : World) (ht : Tb w) (h : RS w v L) :
    Calls Tryd.prog 3 #[v] w fun e w' => e = .returned (.bool true) ∧ Below w.heap.size w w' := by
  obtain ⟨a, c, rfl, h2, h3, h4⟩ := h.shape
  have HAW : Hid (∀ W, Below w.heap.size w W → Calls Tryd.prog 4 #[] W fun e w' => e = .returned (.bool true) ∧ Below W.heap.size W w') := fun W hb => awake_any W (ht.kept hb)
  by_cases h200 : 200 < L.length
  · have d0 : decide ((200 : Int) < (L.length : Int)) = true := by simp; omega
    have aw := HAW.out w (Below.refl _ _)
    clear h ht h2 h3 h4 HAW
    generalize L.length = n at *
    go_enter Tryd.func3, Tryd.ntmps3
    go_wp2_with fail
    refine aw.mono ?_
    rintro e w1 ⟨rfl, b1⟩
    clear aw
    have B1 : Hid (Below w.heap.size w w1) := b1
    clear b1
    go_wp2
    go_ret
    exact ⟨rfl, B1.out⟩
  have d0 : decide ((200 : Int) < (L.length : Int)) = false := by simp; omega
  obtain ⟨W0, hW0⟩ : ∃ W0, W0 = w.alloc (.cells #[.slice none 0 0, .int .i64 0] 26) := ⟨_, rfl⟩
  have b0 : Below w.heap.size w W0 := by rw [hW0]; exact al_below _ _
  have g0 : W0.heap[w.heap.size]? = some (.cells #[.slice none 0 0, .int .i64 0] 26 (0, 0)) := by rw [hW0]; exact new_st w
  have HV0 : Hid (VS w w.heap.size W0 st0) := ⟨_, g0, RPt.nil _ _ _, inv0, b0⟩
  have HRS : Hid (∀ W, Below w.heap.size w W → RS W (.slice a L.length c) L) := fun W hb => h.kept hb
  have HOK : Hid (∀ x ∈ L, x.ok) := h.2
  have HTB : Hid (Tb w) := ht
  have hn : L.length ≤ 200 := by omega
  obtain ⟨n, hn'⟩ : ∃ n, n = L.length := ⟨_, rfl⟩
  have HN : Hid (n = L.length) := hn'
  have hw0 := hW0.symm
  rw [← hn'] at h2 hn HRS d0 ⊢
  clear h ht h3 h4 hn' hW0 b0 g0 h200
  go_enter Tryd.func3, Tryd.ntmps3
  go_wp2_with fail
  try rw [hw0]
  clear hw0
  go_loopw [4] (fun z wr => ∃ j : Nat, j ≤ n ∧ z = .int .i64 j ∧ ∃ s, VS w w.heap.size wr s) (fun z _ => n - (intOf z).toNat)
  case atStart => exact ⟨0, by omega, rfl, st0, HV0.out⟩
  case round =>
    obtain ⟨j, hj, rfl, s, vs, hg, hp, hinv, hb⟩ := hrel
    have HB : Hid (Below w.heap.size w wr) := hb
    have HG : Hid (wr.heap[w.heap.size]? = some (.cells #[vs, .int .i64 s.n] 26 (0, 0))) := hg
    have HP : Hid (RP wr w.heap.size vs s.l) := hp
    have HI : Hid (Inv s) := hinv
    clear hg hp hinv hb HV0
    by_cases hlt : j < n
    · have lt2 : (j : Int) < (n : Int) := by omega
      have lt3 : (0 : Int) ≤ (j : Int) := by omega
      obtain ⟨b, off, rfl, hr⟩ := (HRS.out wr HB.out).at j (by rw [← HN.out]; exact hlt)
      have hx : (atR L j).ok := Rc.at L HOK.out j
      generalize atR L j = x at *
      obtain ⟨-, k1, k2, -, -, -⟩ := rcC hr hx
      by_cases h300 : 300 < x.x.p.size
      · have d3 : decide ((300 : Int) < (x.x.p.size : Int)) = true := by simp; omega
        have aw := HAW.out wr HB.out
        clear hr hx HAW
        go_wp2_with fail
        refine aw.mono ?_
        rintro e w1 ⟨rfl, b1⟩
        have B1 : Hid (Below w.heap.size w w1) := HB.out.trans (b1.mono HB.out.size)
        clear aw b1
        go_wp2
        go_ret
        exact ⟨rfl, B1.out⟩
      by_cases h41 : 2199023255552 < x.x.i
      · have d3 : decide ((300 : Int) < (x.x.p.size : Int)) = false := by simp; omega
        have d4 : decide (2199023255552 < x.x.i) = true := by simpa using h41
        have aw := HAW.out wr HB.out
        clear hr hx HAW
        go_wp2_with fail
        refine aw.mono ?_
        rintro e w1 ⟨rfl, b1⟩
        have B1 : Hid (Below w.heap.size w w1) := HB.out.trans (b1.mono HB.out.size)
        clear aw b1
        go_wp2
        go_ret
        exact ⟨rfl, B1.out⟩
      · have d3 : decide ((300 : Int) < (x.x.p.size : Int)) = false := by simp; omega
        have d4 : decide (2199023255552 < x.x.i) = false := by simpa using h41
        have hps : x.x.p.size ≤ 300 := by omega
        have co := own_any x wr hx
        have RN : Hid (∀ W, Below wr.heap.size wr W → W.rangeAt b (off + j * 37) x.cells) := fun W hb => range_kept hr hb
        have ZQ : Hid ((Tryd.prog.info? 30).map (·.size) = some x.cells.length) := by unfold Hid; rw [Rc.len hx]; kernel_rfl
        have HXO : Hid x.ok := hx
        have CC : Hid (∀ W, Below w.heap.size w W → Calls Tryd.prog 5 #[x.val] W fun e w' => e = .returned (.int .i64 (rck x)) ∧ Below W.heap.size W w') := fun W hb => rcheck_any x W hx (HTB.out.kept hb).2.2 (by unfold maxLen; omega)
        have HPS : Hid (x.x.p.size ≤ 300) := hps
        unfold Rc.val at co CC
        clear hr hx hps
        go_wp2_with (refine wpList_load_mid rfl 30 _ rfl b (off + j * 37) rfl x.cells _ (RN.out wr (Below.refl _ _)) Tryd.underlying30 rfl ZQ.out ?_)
        refine co.mono ?_
        rintro e w1 ⟨rfl, b1⟩
        have Q1 : Hid (Below wr.heap.size wr w1) := b1
        have B1 : Hid (Below w.heap.size w w1) := HB.out.trans (b1.mono HB.out.size)
        have cc := CC.out w1 B1.out
        clear co b1 CC
        go_wp2_with fail
        refine cc.mono ?_
        rintro e w2 ⟨rfl, b2⟩
        have Q2 : Hid (Below wr.heap.size wr w2) := Q1.out.trans (b2.mono Q1.out.size)
        have B2 : Hid (Below w.heap.size w w2) := B1.out.trans (b2.mono B1.out.size)
        have g2 := blk_kept HG.out Q2.out (blk_lt HG.out)
        have G2 : Hid (w2.heap[w.heap.size]? = some (.cells #[vs, .int .i64 s.n] 26 (0, 0))) := g2
        have P2 : Hid (RP w2 w.heap.size vs s.l) := HP.out.below Q2.out
        clear cc b2 Q1 B1 HG HP g2
        by_cases hck : rck x = 0
        · rw [hck]
          have hle := rck_ok hck
          have CO : Hid (∀ W, Calls Tryd.prog 6 #[.agg x.cells.toArray] W fun e w' => e = .returned (.agg x.cells.toArray) ∧ Below W.heap.size W w') := fun W => own_any x W HXO.out
          have CS : Hid (∀ W, Below w2.heap.size w2 W → Calls Tryd.prog 7 #[.agg #[vs, .int .i64 s.n], .agg x.cells.toArray] W fun e w' => ∃ v', e = .returned (.tuple #[SVal v' ((step s x).getD s), .bool (step s x).isSome]) ∧ RP w' W.heap.size v' ((step s x).getD s).l ∧ Below W.heap.size W w') := fun W hb => step_any vs s x W (P2.out.below hb).is HXO.out (by omega) (by have := HI.out.ln; omega)
          have HNX : Hid (Nxt s ((step s x).getD s)) := nxt_of HI.out HXO.out hck
          have HSO : Hid ((step s x).isSome = false → (step s x).getD s = s) := fun hh => by cases hst : step s x with
            | none => rfl
            | some t => rw [hst] at hh; cases hh
          generalize (step s x).getD s = t at *
          generalize (step s x).isSome = sb at *
          obtain ⟨va, vc, rfl, -, -, -⟩ := P2.out.is.shape
          obtain ⟨sn, hsn⟩ : ∃ sn, sn = s.l.length := ⟨_, rfl⟩
          rw [← hsn] at P2 G2 CS
          clear hsn
          have FK : Hid (∀ W, From w2 W → W.cell? ⟨w.heap.size, 0, none⟩ = some (.slice va sn vc) ∧ W.cell? ⟨w.heap.size, 1, none⟩ = some (.int .i64 s.n)) := fun W hb => by
            have g := blk_kept G2.out hb (blk_lt G2.out)
            exact ⟨by simp [World.cell?, g], by simp [World.cell?, g]⟩
          have FR : Hid (∀ W, From w2 W → W.rangeAt b (off + j * 37) x.cells) := fun W hb => RN.out W (Q2.out.trans (Below.mono hb Q2.out.size))
          go_wp2_with fail
          go_cut [5, 6] (fun s5 s6 wx => ∃ g v' m, s5 = .pointer (some ⟨g, 0, none⟩) ∧ s6 = .bool sb ∧ wx.heap[g]? = some (.cells #[v', .int .i64 t.n] 26 (0, 0)) ∧ m = t.l.length ∧ RP wx w2.heap.size v' t.l ∧ From w2 wx)
          case first =>
            refine wp_region_held_drew (S := From w2) (by kernel_rfl) (Below.drew (Below.refl _ _)) (fun _ => ?_)
            refine wpAnyH_name (fun u0 hu0 => ?_)
            have bu0 : Below w2.heap.size w2 u0 := by rw [hu0.out]; exact Below.drew (Below.refl _ _)
            refine wpAnyH_take (i := 0) (oi := { dst := some 47, op := Op.load 26 (Operand.tmp 3), type := 26, pos := "own.go:84", after := #[], guard := none }) (v := .agg #[.slice va sn vc, .int .i64 s.n]) rfl (by kernel_rfl) (by kernel_rfl) (by kernel_rfl) (fun _ _ _ h => h) (Or.inl ⟨by rfl, ?yr1⟩) bu0 ?rr1
            case yr1 => (intro w hSw; obtain ⟨t0, t1⟩ := FK.out w hSw; go_simp; try with_reducible rfl)
            try simp only [Act.put, List.setIfInBounds_toArray, List.set_cons_zero, List.set_cons_succ]
            refine wpAnyH_take (i := 1) (oi := { dst := some 48, op := Op.move (Operand.tmp 0), type := 22, pos := "own.go:84", after := #[], guard := none }) (v := ?vr2) rfl (by kernel_rfl) (by kernel_rfl) (by kernel_rfl) (fun _ _ _ h => h) (Or.inl ⟨by rfl, ?yr2⟩) bu0 ?rr2
            case yr2 => (intro w hSw; go_simp; try with_reducible rfl)
            try simp only [Act.put, List.setIfInBounds_toArray, List.set_cons_zero, List.set_cons_succ]
            refine wpAnyH_take (i := 2) (oi := { dst := some 49, op := Op.move (Operand.tmp 4), type := 3, pos := "own.go:84", after := #[], guard := none }) (v := ?vr3) rfl (by kernel_rfl) (by kernel_rfl) (by kernel_rfl) (fun _ _ _ h => h) (Or.inl ⟨by rfl, ?yr3⟩) bu0 ?rr3
            case yr3 => (intro w hSw; go_simp; try with_reducible rfl)
            try simp only [Act.put, List.setIfInBounds_toArray, List.set_cons_zero, List.set_cons_succ]
            refine wpAnyH_take (i := 3) (oi := { dst := some 50, op := Op.indexAddr 22 (Operand.tmp 48) (Operand.tmp 49), type := 0, pos := "own.go:84", after := #[{ on := 1, ground := Ground.data }, { on := 2, ground := Ground.data }], guard := none }) (v := ?vr4) rfl (by kernel_rfl) (by kernel_rfl) (by kernel_rfl) (fun _ _ _ h => h) (Or.inl ⟨by rfl, ?yr4⟩) bu0 ?rr4
            case yr4 => (intro w hSw; go_simp; try with_reducible rfl)
            try simp only [Act.put, List.setIfInBounds_toArray, List.set_cons_zero, List.set_cons_succ]
            refine wpAnyH_take (i := 4) (oi := { dst := some 51, op := Op.load 30 (Operand.tmp 50), type := 30, pos := "own.go:84", after := #[{ on := 3, ground := Ground.data }], guard := none }) (v := .agg x.cells.toArray) rfl (by kernel_rfl) (by kernel_rfl) (by kernel_rfl) (fun _ _ _ h => h) (yieldsIf_load_mid (by rfl) 30 _ rfl b (off + j * 37) rfl x.cells _ (fun w hw => FR.out w hw) Tryd.underlying30 rfl ZQ.out) bu0 ?_
            try simp only [Act.put, List.setIfInBounds_toArray, List.set_cons_zero, List.set_cons_succ]
            refine wpAnyH_ready (rs := [5, 10]) (by kernel_rfl) (by simp) ?_
            refine AllReadyH.cons (o := { dst := some 52, op := Op.call { callee := Callee.value (Operand.func 6), args := #[Operand.tmp 51], argTypes := #[30] }, type := 35, pos := "own.go:84", after := #[{ on := 4, ground := Ground.data }], guard := none }) rfl (fun KK hKK => ?_) ?_
            · go_simp
              refine (CO.out _).mono ?_
              rintro e u6' ⟨rfl, bu6'⟩
              (try go_wp2_with fail)
              refine hKK.out _ _ (bu0.trans (Below.mono (bu6') bu0.size)) (fun _ => ?_)
              clear hKK KK
              try simp only [Act.put, List.setIfInBounds_toArray, List.set_cons_zero, List.set_cons_succ]
              refine wpAnyH_name (fun u6 hu6 => ?_)
              have bu6 : Below w2.heap.size w2 u6 := by rw [hu6.out]; exact (bu0.trans (Below.mono (bu6') bu0.size))
              try have Gu6 := blk_kept Gu0 bu6' (blk_lt Gu0)
              try rw [← hu6.out] at Gu6
              refine wpAnyH_ready (rs := [6, 10]) (by kernel_rfl) (by simp) ?_
              refine AllReadyH.cons (o := { dst := some 53, op := Op.call { callee := Callee.value (Operand.func 7), args := #[Operand.tmp 47, Operand.tmp 52], argTypes := #[26, 35] }, type := 37, pos := "own.go:84", after := #[{ on := 0, ground := Ground.data }, { on := 5, ground := Ground.data }, { on := 5, ground := Ground.chain }], guard := none }) rfl (fun KK hKK => ?_) ?_
              · go_simp
                refine (CS.out _ bu6).mono ?_
                rintro e u7' ⟨v9, rfl, ou7, bu7'⟩
                obtain ⟨ta, tc, rfl, -, -, -⟩ := ou7.is.shape
                unfold SVal
                (try go_wp2_with fail)
                refine hKK.out _ _ (bu6.trans (Below.mono (bu7') bu6.size)) (fun _ => ?_)
                clear hKK KK
                try simp only [Act.put, List.setIfInBounds_toArray, List.set_cons_zero, List.set_cons_succ]
                refine wpAnyH_name (fun u7 hu7 => ?_)
                have bu7 : Below w2.heap.size w2 u7 := by rw [hu7.out]; exact (bu6.trans (Below.mono (bu7') bu6.size))
                have Pu7 : RP u7 w2.heap.size (.slice ta t.l.length tc) t.l := by rw [hu7.out]; exact ou7.mono bu6.size
                try have Gu7 := blk_kept Gu6 bu7' (blk_lt Gu6)
                try rw [← hu7.out] at Gu7
                refine wpAnyH_take (i := 7) (oi := { dst := some 46, op := Op.move (Operand.tmp 53), type := 37, pos := "own.go:84", after := #[{ on := 6, ground := Ground.data }], guard := none }) (v := ?vr8) rfl (by kernel_rfl) (by kernel_rfl) (by kernel_rfl) (fun _ _ _ h => h) (Or.inl ⟨by rfl, ?yr8⟩) bu7 ?rr8
                case yr8 => (intro w hSw; go_simp; try with_reducible rfl)
                try simp only [Act.put, List.setIfInBounds_toArray, List.set_cons_zero, List.set_cons_succ]
                refine wpAnyH_take (i := 8) (oi := { dst := some 54, op := Op.extract (Operand.tmp 46) 0, type := 26, pos := "own.go:84", after := #[{ on := 7, ground := Ground.data }], guard := none }) (v := ?vr9) rfl (by kernel_rfl) (by kernel_rfl) (by kernel_rfl) (fun _ _ _ h => h) (Or.inl ⟨by rfl, ?yr9⟩) bu7 ?rr9
                case yr9 => (intro w hSw; go_simp; try with_reducible rfl)
                try simp only [Act.put, List.setIfInBounds_toArray, List.set_cons_zero, List.set_cons_succ]
                refine wpAnyH_take (i := 9) (oi := { dst := some 55, op := Op.extract (Operand.tmp 46) 1, type := 4, pos := "own.go:84", after := #[{ on := 7, ground := Ground.data }, { on := 11, ground := Ground.gcOnly Departure.lateStores }], guard := none }) (v := ?vr10) rfl (by kernel_rfl) (by kernel_rfl) (by kernel_rfl) (fun _ _ _ h => h) (Or.inl ⟨by rfl, ?yr10⟩) bu7 ?rr10
                case yr10 => (intro w hSw; go_simp; try with_reducible rfl)
                try simp only [Act.put, List.setIfInBounds_toArray, List.set_cons_zero, List.set_cons_succ]
                refine wpAnyH_ready (rs := [10]) (by kernel_rfl) (by simp) ?_
                refine AllReadyH.cons (o := { dst := some 5, op := Op.alloc 26, type := 0, pos := "own.go:84", after := #[], guard := none }) rfl (fun KK hKK => ?_) ?_
                · go_simp
                  refine hKK.out _ _ (bu7.trans ((al_below _ _).mono bu7.size)) (fun _ => ?_)
                  clear hKK KK
                  try simp only [Act.put, List.setIfInBounds_toArray, List.set_cons_zero, List.set_cons_succ]
                  refine wpAnyH_name (fun u11 hu11 => ?_)
                  have bu11 : Below w2.heap.size w2 u11 := by rw [hu11.out]; exact (bu7.trans ((al_below _ _).mono bu7.size))
                  have Gu11 : u11.heap[u7.heap.size]? = some (.cells #[.slice none 0 0, .int .i64 0] 26 (0, 0)) := by rw [hu11.out]; exact new_st u7
                  try have Pu11 := Pu7.below (al_below _ (.cells #[.slice none 0 0, .int .i64 0] 26))
                  try rw [← hu11.out] at Pu11
                  refine wpAnyH_ready (rs := [11]) (by kernel_rfl) (by simp) ?_
                  refine AllReadyH.cons (o := { dst := none, op := Op.store 26 (Operand.tmp 5) (Operand.tmp 54), type := 0, pos := "own.go:84", after := #[{ on := 10, ground := Ground.data }, { on := 8, ground := Ground.data }, { on := 6, ground := Ground.chain }, { on := 0, ground := Ground.phase }, { on := 1, ground := Ground.phase }, { on := 2, ground := Ground.phase }, { on := 3, ground := Ground.phase }, { on := 4, ground := Ground.phase }, { on := 5, ground := Ground.phase }, { on := 6, ground := Ground.phase }, { on := 7, ground := Ground.phase }, { on := 8, ground := Ground.phase }, { on := 9, ground := Ground.textOnly Departure.lateStores }, { on := 10, ground := Ground.phase }], guard := none }) rfl (fun KK hKK => ?_) ?_
                  · refine wp_store_row 26 _ _ rfl u7.heap.size #[.slice ta t.l.length tc, .int .i64 t.n] rfl rfl 26 #[.slice none 0 0, .int .i64 0] Gu11 sizeT rfl (st_ones _ _ _ _) ?_
                    refine hKK.out _ _ (below_setRow bu11 bu7.size _) (fun _ => ?_)
                    clear hKK KK
                    try simp only [Act.put]
                    refine wpAnyH_name (fun u12 hu12 => ?_)
                    have bu12 : Below w2.heap.size w2 u12 := by rw [hu12.out]; exact (below_setRow bu11 bu7.size _)
                    have Zu12 := setRow_heap _ _ _ #[.slice ta t.l.length tc, .int .i64 t.n] _ _ Gu11
                    rw [← hu12.out] at Zu12
                    have Yu12 := Pu11.setRow u7.heap.size #[.slice ta t.l.length tc, .int .i64 t.n] Gu11
                    rw [← hu12.out] at Yu12
                    refine wpAnyH_take (i := 12) (oi := { dst := some 6, op := Op.assign (Operand.tmp 55), type := 4, pos := "own.go:84", after := #[{ on := 9, ground := Ground.data }, { on := 11, ground := Ground.chain }, { on := 0, ground := Ground.phase }, { on := 1, ground := Ground.phase }, { on := 2, ground := Ground.phase }, { on := 3, ground := Ground.phase }, { on := 4, ground := Ground.phase }, { on := 5, ground := Ground.phase }, { on := 6, ground := Ground.phase }, { on := 7, ground := Ground.phase }, { on := 8, ground := Ground.phase }, { on := 9, ground := Ground.phase }, { on := 10, ground := Ground.phase }, { on := 11, ground := Ground.phase }], guard := none }) (v := ?vr13) rfl (by kernel_rfl) (by kernel_rfl) (by kernel_rfl) (fun _ _ _ h => h) (Or.inl ⟨by rfl, ?yr13⟩) bu12 ?rr13
                    case yr13 => (intro w hSw; go_simp; try with_reducible rfl)
                    try simp only [Act.put, List.setIfInBounds_toArray, List.set_cons_zero, List.set_cons_succ]
                    refine wpAnyH_done (by kernel_rfl) ?_ _
                    have HZ : Hid (u12.heap[u7.heap.size]? = some (.cells #[.slice ta t.l.length tc, .int .i64 t.n] 26 (0, 0)) ∧ RP u12 w2.heap.size (.slice ta t.l.length tc) t.l ∧ From w2 u12) := ⟨Zu12, Yu12, bu12⟩
                    clear FK FR CO CS
                    go_wp2_with fail
                    go_meet
                    exact ⟨_, _, _, rfl, rfl, HZ.out.1, rfl, HZ.out.2.1, HZ.out.2.2⟩
                  exact AllReadyH.nil
                exact AllReadyH.nil
              refine AllReadyH.cons (o := { dst := some 5, op := Op.alloc 26, type := 0, pos := "own.go:84", after := #[], guard := none }) rfl (fun KK hKK => ?_) ?_
              · go_simp
                refine hKK.out _ _ (bu6.trans ((al_below _ _).mono bu6.size)) (fun _ => ?_)
                clear hKK KK
                try simp only [Act.put, List.setIfInBounds_toArray, List.set_cons_zero, List.set_cons_succ]
                refine wpAnyH_name (fun u14 hu14 => ?_)
                have bu14 : Below w2.heap.size w2 u14 := by rw [hu14.out]; exact (bu6.trans ((al_below _ _).mono bu6.size))
                have Gu14 : u14.heap[u6.heap.size]? = some (.cells #[.slice none 0 0, .int .i64 0] 26 (0, 0)) := by rw [hu14.out]; exact new_st u6
                try have Pu14 := Pu6.below (al_below _ (.cells #[.slice none 0 0, .int .i64 0] 26))
                try rw [← hu14.out] at Pu14
                refine wpAnyH_ready (rs := [6]) (by kernel_rfl) (by simp) ?_
                refine AllReadyH.cons (o := { dst := some 53, op := Op.call { callee := Callee.value (Operand.func 7), args := #[Operand.tmp 47, Operand.tmp 52], argTypes := #[26, 35] }, type := 37, pos := "own.go:84", after := #[{ on := 0, ground := Ground.data }, { on := 5, ground := Ground.data }, { on := 5, ground := Ground.chain }], guard := none }) rfl (fun KK hKK => ?_) ?_
                · go_simp
                  refine (CS.out _ bu14).mono ?_
                  rintro e u15' ⟨v9, rfl, ou15, bu15'⟩
                  obtain ⟨ta, tc, rfl, -, -, -⟩ := ou15.is.shape
                  unfold SVal
                  (try go_wp2_with fail)
                  refine hKK.out _ _ (bu14.trans (Below.mono (bu15') bu14.size)) (fun _ => ?_)
                  clear hKK KK
                  try simp only [Act.put, List.setIfInBounds_toArray, List.set_cons_zero, List.set_cons_succ]
                  refine wpAnyH_name (fun u15 hu15 => ?_)
                  have bu15 : Below w2.heap.size w2 u15 := by rw [hu15.out]; exact (bu14.trans (Below.mono (bu15') bu14.size))
                  have Pu15 : RP u15 w2.heap.size (.slice ta t.l.length tc) t.l := by rw [hu15.out]; exact ou15.mono bu14.size
                  try have Gu15 := blk_kept Gu14 bu15' (blk_lt Gu14)
                  try rw [← hu15.out] at Gu15
                  refine wpAnyH_take (i := 7) (oi := { dst := some 46, op := Op.move (Operand.tmp 53), type := 37, pos := "own.go:84", after := #[{ on := 6, ground := Ground.data }], guard := none }) (v := ?vr16) rfl (by kernel_rfl) (by kernel_rfl) (by kernel_rfl) (fun _ _ _ h => h) (Or.inl ⟨by rfl, ?yr16⟩) bu15 ?rr16
                  case yr16 => (intro w hSw; go_simp; try with_reducible rfl)
                  try simp only [Act.put, List.setIfInBounds_toArray, List.set_cons_zero, List.set_cons_succ]
                  refine wpAnyH_take (i := 8) (oi := { dst := some 54, op := Op.extract (Operand.tmp 46) 0, type := 26, pos := "own.go:84", after := #[{ on := 7, ground := Ground.data }], guard := none }) (v := ?vr17) rfl (by kernel_rfl) (by kernel_rfl) (by kernel_rfl) (fun _ _ _ h => h) (Or.inl ⟨by rfl, ?yr17⟩) bu15 ?rr17
                  case yr17 => (intro w hSw; go_simp; try with_reducible rfl)
                  try simp only [Act.put, List.setIfInBounds_toArray, List.set_cons_zero, List.set_cons_succ]
                  refine wpAnyH_take (i := 9) (oi := { dst := some 55, op := Op.extract (Operand.tmp 46) 1, type := 4, pos := "own.go:84", after := #[{ on := 7, ground := Ground.data }, { on := 11, ground := Ground.gcOnly Departure.lateStores }], guard := none }) (v := ?vr18) rfl (by kernel_rfl) (by kernel_rfl) (by kernel_rfl) (fun _ _ _ h => h) (Or.inl ⟨by rfl, ?yr18⟩) bu15 ?rr18
                  case yr18 => (intro w hSw; go_simp; try with_reducible rfl)
                  try simp only [Act.put, List.setIfInBounds_toArray, List.set_cons_zero, List.set_cons_succ]
                  refine wpAnyH_ready (rs := [11]) (by kernel_rfl) (by simp) ?_
                  refine AllReadyH.cons (o := { dst := none, op := Op.store 26 (Operand.tmp 5) (Operand.tmp 54), type := 0, pos := "own.go:84", after := #[{ on := 10, ground := Ground.data }, { on := 8, ground := Ground.data }, { on := 6, ground := Ground.chain }, { on := 0, ground := Ground.phase }, { on := 1, ground := Ground.phase }, { on := 2, ground := Ground.phase }, { on := 3, ground := Ground.phase }, { on := 4, ground := Ground.phase }, { on := 5, ground := Ground.phase }, { on := 6, ground := Ground.phase }, { on := 7, ground := Ground.phase }, { on := 8, ground := Ground.phase }, { on := 9, ground := Ground.textOnly Departure.lateStores }, { on := 10, ground := Ground.phase }], guard := none }) rfl (fun KK hKK => ?_) ?_
                  · refine wp_store_row 26 _ _ rfl u6.heap.size #[.slice ta t.l.length tc, .int .i64 t.n] rfl rfl 26 #[.slice none 0 0, .int .i64 0] Gu15 sizeT rfl (st_ones _ _ _ _) ?_
                    refine hKK.out _ _ (below_setRow bu15 bu6.size _) (fun _ => ?_)
                    clear hKK KK
                    try simp only [Act.put]
                    refine wpAnyH_name (fun u19 hu19 => ?_)
                    have bu19 : Below w2.heap.size w2 u19 := by rw [hu19.out]; exact (below_setRow bu15 bu6.size _)
                    have Zu19 := setRow_heap _ _ _ #[.slice ta t.l.length tc, .int .i64 t.n] _ _ Gu15
                    rw [← hu19.out] at Zu19
                    have Yu19 := Pu15.setRow u6.heap.size #[.slice ta t.l.length tc, .int .i64 t.n] Gu15
                    rw [← hu19.out] at Yu19
                    refine wpAnyH_take (i := 12) (oi := { dst := some 6, op := Op.assign (Operand.tmp 55), type := 4, pos := "own.go:84", after := #[{ on := 9, ground := Ground.data }, { on := 11, ground := Ground.chain }, { on := 0, ground := Ground.phase }, { on := 1, ground := Ground.phase }, { on := 2, ground := Ground.phase }, { on := 3, ground := Ground.phase }, { on := 4, ground := Ground.phase }, { on := 5, ground := Ground.phase }, { on := 6, ground := Ground.phase }, { on := 7, ground := Ground.phase }, { on := 8, ground := Ground.phase }, { on := 9, ground := Ground.phase }, { on := 10, ground := Ground.phase }, { on := 11, ground := Ground.phase }], guard := none }) (v := ?vr20) rfl (by kernel_rfl) (by kernel_rfl) (by kernel_rfl) (fun _ _ _ h => h) (Or.inl ⟨by rfl, ?yr20⟩) bu19 ?rr20
                    case yr20 => (intro w hSw; go_simp; try with_reducible rfl)
                    try simp only [Act.put, List.setIfInBounds_toArray, List.set_cons_zero, List.set_cons_succ]
                    refine wpAnyH_done (by kernel_rfl) ?_ _
                    have HZ : Hid (u19.heap[u6.heap.size]? = some (.cells #[.slice ta t.l.length tc, .int .i64 t.n] 26 (0, 0)) ∧ RP u19 w2.heap.size (.slice ta t.l.length tc) t.l ∧ From w2 u19) := ⟨Zu19, Yu19, bu19⟩
                    clear FK FR CO CS
                    go_wp2_with fail
                    go_meet
                    exact ⟨_, _, _, rfl, rfl, HZ.out.1, rfl, HZ.out.2.1, HZ.out.2.2⟩
                  exact AllReadyH.nil
                exact AllReadyH.nil
              exact AllReadyH.nil
            refine AllReadyH.cons (o := { dst := some 5, op := Op.alloc 26, type := 0, pos := "own.go:84", after := #[], guard := none }) rfl (fun KK hKK => ?_) ?_
            · go_simp
              refine hKK.out _ _ (bu0.trans ((al_below _ _).mono bu0.size)) (fun _ => ?_)
              clear hKK KK
              try simp only [Act.put, List.setIfInBounds_toArray, List.set_cons_zero, List.set_cons_succ]
              refine wpAnyH_name (fun u21 hu21 => ?_)
              have bu21 : Below w2.heap.size w2 u21 := by rw [hu21.out]; exact (bu0.trans ((al_below _ _).mono bu0.size))
              have Gu21 : u21.heap[u0.heap.size]? = some (.cells #[.slice none 0 0, .int .i64 0] 26 (0, 0)) := by rw [hu21.out]; exact new_st u0
              try have Pu21 := Pu0.below (al_below _ (.cells #[.slice none 0 0, .int .i64 0] 26))
              try rw [← hu21.out] at Pu21
              refine wpAnyH_ready (rs := [5]) (by kernel_rfl) (by simp) ?_
              refine AllReadyH.cons (o := { dst := some 52, op := Op.call { callee := Callee.value (Operand.func 6), args := #[Operand.tmp 51], argTypes := #[30] }, type := 35, pos := "own.go:84", after := #[{ on := 4, ground := Ground.data }], guard := none }) rfl (fun KK hKK => ?_) ?_
              · go_simp
                refine (CO.out _).mono ?_
                rintro e u22' ⟨rfl, bu22'⟩
                (try go_wp2_with fail)
                refine hKK.out _ _ (bu21.trans (Below.mono (bu22') bu21.size)) (fun _ => ?_)
                clear hKK KK
                try simp only [Act.put, List.setIfInBounds_toArray, List.set_cons_zero, List.set_cons_succ]
                refine wpAnyH_name (fun u22 hu22 => ?_)
                have bu22 : Below w2.heap.size w2 u22 := by rw [hu22.out]; exact (bu21.trans (Below.mono (bu22') bu21.size))
                try have Gu22 := blk_kept Gu21 bu22' (blk_lt Gu21)
                try rw [← hu22.out] at Gu22
                refine wpAnyH_ready (rs := [6]) (by kernel_rfl) (by simp) ?_
                refine AllReadyH.cons (o := { dst := some 53, op := Op.call { callee := Callee.value (Operand.func 7), args := #[Operand.tmp 47, Operand.tmp 52], argTypes := #[26, 35] }, type := 37, pos := "own.go:84", after := #[{ on := 0, ground := Ground.data }, { on := 5, ground := Ground.data }, { on := 5, ground := Ground.chain }], guard := none }) rfl (fun KK hKK => ?_) ?_
                · go_simp
                  refine (CS.out _ bu22).mono ?_
                  rintro e u23' ⟨v9, rfl, ou23, bu23'⟩
                  obtain ⟨ta, tc, rfl, -, -, -⟩ := ou23.is.shape
                  unfold SVal
                  (try go_wp2_with fail)
                  refine hKK.out _ _ (bu22.trans (Below.mono (bu23') bu22.size)) (fun _ => ?_)
                  clear hKK KK
                  try simp only [Act.put, List.setIfInBounds_toArray, List.set_cons_zero, List.set_cons_succ]
                  refine wpAnyH_name (fun u23 hu23 => ?_)
                  have bu23 : Below w2.heap.size w2 u23 := by rw [hu23.out]; exact (bu22.trans (Below.mono (bu23') bu22.size))
                  have Pu23 : RP u23 w2.heap.size (.slice ta t.l.length tc) t.l := by rw [hu23.out]; exact ou23.mono bu22.size
                  try have Gu23 := blk_kept Gu22 bu23' (blk_lt Gu22)
                  try rw [← hu23.out] at Gu23
                  refine wpAnyH_take (i := 7) (oi := { dst := some 46, op := Op.move (Operand.tmp 53), type := 37, pos := "own.go:84", after := #[{ on := 6, ground := Ground.data }], guard := none }) (v := ?vr24) rfl (by kernel_rfl) (by kernel_rfl) (by kernel_rfl) (fun _ _ _ h => h) (Or.inl ⟨by rfl, ?yr24⟩) bu23 ?rr24
                  case yr24 => (intro w hSw; go_simp; try with_reducible rfl)
                  try simp only [Act.put, List.setIfInBounds_toArray, List.set_cons_zero, List.set_cons_succ]
                  refine wpAnyH_take (i := 8) (oi := { dst := some 54, op := Op.extract (Operand.tmp 46) 0, type := 26, pos := "own.go:84", after := #[{ on := 7, ground := Ground.data }], guard := none }) (v := ?vr25) rfl (by kernel_rfl) (by kernel_rfl) (by kernel_rfl) (fun _ _ _ h => h) (Or.inl ⟨by rfl, ?yr25⟩) bu23 ?rr25
                  case yr25 => (intro w hSw; go_simp; try with_reducible rfl)
                  try simp only [Act.put, List.setIfInBounds_toArray, List.set_cons_zero, List.set_cons_succ]
                  refine wpAnyH_take (i := 9) (oi := { dst := some 55, op := Op.extract (Operand.tmp 46) 1, type := 4, pos := "own.go:84", after := #[{ on := 7, ground := Ground.data }, { on := 11, ground := Ground.gcOnly Departure.lateStores }], guard := none }) (v := ?vr26) rfl (by kernel_rfl) (by kernel_rfl) (by kernel_rfl) (fun _ _ _ h => h) (Or.inl ⟨by rfl, ?yr26⟩) bu23 ?rr26
                  case yr26 => (intro w hSw; go_simp; try with_reducible rfl)
                  try simp only [Act.put, List.setIfInBounds_toArray, List.set_cons_zero, List.set_cons_succ]
                  refine wpAnyH_ready (rs := [11]) (by kernel_rfl) (by simp) ?_
                  refine AllReadyH.cons (o := { dst := none, op := Op.store 26 (Operand.tmp 5) (Operand.tmp 54), type := 0, pos := "own.go:84", after := #[{ on := 10, ground := Ground.data }, { on := 8, ground := Ground.data }, { on := 6, ground := Ground.chain }, { on := 0, ground := Ground.phase }, { on := 1, ground := Ground.phase }, { on := 2, ground := Ground.phase }, { on := 3, ground := Ground.phase }, { on := 4, ground := Ground.phase }, { on := 5, ground := Ground.phase }, { on := 6, ground := Ground.phase }, { on := 7, ground := Ground.phase }, { on := 8, ground := Ground.phase }, { on := 9, ground := Ground.textOnly Departure.lateStores }, { on := 10, ground := Ground.phase }], guard := none }) rfl (fun KK hKK => ?_) ?_
                  · refine wp_store_row 26 _ _ rfl u0.heap.size #[.slice ta t.l.length tc, .int .i64 t.n] rfl rfl 26 #[.slice none 0 0, .int .i64 0] Gu23 sizeT rfl (st_ones _ _ _ _) ?_
                    refine hKK.out _ _ (below_setRow bu23 bu0.size _) (fun _ => ?_)
                    clear hKK KK
                    try simp only [Act.put]
                    refine wpAnyH_name (fun u27 hu27 => ?_)
                    have bu27 : Below w2.heap.size w2 u27 := by rw [hu27.out]; exact (below_setRow bu23 bu0.size _)
                    have Zu27 := setRow_heap _ _ _ #[.slice ta t.l.length tc, .int .i64 t.n] _ _ Gu23
                    rw [← hu27.out] at Zu27
                    have Yu27 := Pu23.setRow u0.heap.size #[.slice ta t.l.length tc, .int .i64 t.n] Gu23
                    rw [← hu27.out] at Yu27
                    refine wpAnyH_take (i := 12) (oi := { dst := some 6, op := Op.assign (Operand.tmp 55), type := 4, pos := "own.go:84", after := #[{ on := 9, ground := Ground.data }, { on := 11, ground := Ground.chain }, { on := 0, ground := Ground.phase }, { on := 1, ground := Ground.phase }, { on := 2, ground := Ground.phase }, { on := 3, ground := Ground.phase }, { on := 4, ground := Ground.phase }, { on := 5, ground := Ground.phase }, { on := 6, ground := Ground.phase }, { on := 7, ground := Ground.phase }, { on := 8, ground := Ground.phase }, { on := 9, ground := Ground.phase }, { on := 10, ground := Ground.phase }, { on := 11, ground := Ground.phase }], guard := none }) (v := ?vr28) rfl (by kernel_rfl) (by kernel_rfl) (by kernel_rfl) (fun _ _ _ h => h) (Or.inl ⟨by rfl, ?yr28⟩) bu27 ?rr28
                    case yr28 => (intro w hSw; go_simp; try with_reducible rfl)
                    try simp only [Act.put, List.setIfInBounds_toArray, List.set_cons_zero, List.set_cons_succ]
                    refine wpAnyH_done (by kernel_rfl) ?_ _
                    have HZ : Hid (u27.heap[u0.heap.size]? = some (.cells #[.slice ta t.l.length tc, .int .i64 t.n] 26 (0, 0)) ∧ RP u27 w2.heap.size (.slice ta t.l.length tc) t.l ∧ From w2 u27) := ⟨Zu27, Yu27, bu27⟩
                    clear FK FR CO CS
                    go_wp2_with fail
                    go_meet
                    exact ⟨_, _, _, rfl, rfl, HZ.out.1, rfl, HZ.out.2.1, HZ.out.2.2⟩
                  exact AllReadyH.nil
                exact AllReadyH.nil
              exact AllReadyH.nil
            exact AllReadyH.nil
          case rest =>
            obtain ⟨g, v', m, rfl, rfl, hg, rfl, hp, hf⟩ := hcut
            obtain ⟨WX, hWX⟩ : ∃ WX, WX = wc := ⟨_, rfl⟩
            subst hWX
            have BX : Hid (Below w.heap.size w WX) := B2.out.trans (Below.mono hf B2.out.size)
            have PX0 : RP WX w.heap.size (.slice va sn vc) s.l := P2.out.below hf
            have PT0 : RP WX w.heap.size v' t.l := hp.mono B2.out.size
            have GX0 := blk_kept G2.out hf (blk_lt G2.out)
            obtain ⟨ta, tc, rfl, -, -, -⟩ := hp.is.shape
            obtain ⟨tn, htn⟩ : ∃ tn, tn = t.l.length := ⟨_, rfl⟩
            have HTN : Hid (tn = t.l.length) := htn
            rw [← htn] at hg hp PT0
            have FX : Hid (∀ W, From WX W → W.heap[w.heap.size]? = some (.cells #[.slice va sn vc, .int .i64 s.n] 26 (0, 0)) ∧ W.heap[g]? = some (.cells #[.slice ta tn tc, .int .i64 t.n] 26 (0, 0)) ∧ RP W w.heap.size (.slice va sn vc) s.l ∧ RP W w.heap.size (.slice ta tn tc) t.l ∧ Below w.heap.size w W) := fun W hb => ⟨blk_kept GX0 hb (blk_lt GX0), blk_kept hg hb (blk_lt hg), PX0.below hb, PT0.below hb, BX.out.trans (Below.mono hb BX.out.size)⟩
            have FK2 : Hid (∀ W, From WX W → W.cell? ⟨w.heap.size, 0, none⟩ = some (.slice va sn vc) ∧ W.cell? ⟨w.heap.size, 1, none⟩ = some (.int .i64 s.n) ∧ W.cell? ⟨g, 0, none⟩ = some (.slice ta tn tc) ∧ W.cell? ⟨g, 1, none⟩ = some (.int .i64 t.n)) := fun W hb => by
              have q1 := (FX.out W hb).1
              have q2 := (FX.out W hb).2.1
              exact ⟨by simp [World.cell?, q1], by simp [World.cell?, q1], by simp [World.cell?, q2], by simp [World.cell?, q2]⟩
            have HSL : Hid (s.l.length ≤ 64) := HI.out.ln
            have tn64 : tn ≤ 64 := by rw [htn]; exact HNX.out.inv.ln
            have dN : decide (t.n < s.n) = false := by have := HNX.out.n; simp; omega
            have CSm : Hid (sb = false → ∀ W, From WX W → Calls Tryd.prog 8 #[.agg #[.slice va sn vc, .int .i64 s.n], .agg #[.slice ta tn tc, .int .i64 t.n]] W fun e w' => e = .returned (.bool true) ∧ Below W.heap.size W w') := fun h0 W hb => by
              have hts := HSO.out h0
              have := same_any _ _ s t W (FX.out W hb).2.2.1.is (FX.out W hb).2.2.2.1.is (by have := HSL.out; omega) (by rw [← HTN.out]; omega)
              rw [show saS s t = true by rw [hts]; exact saS_self s] at this
              exact this
            clear hg hp hf CS CO FK FR G2 P2 RN B2 Q2 PX0 PT0 GX0 htn HSO BX
            obtain ⟨c20, c21, c30, c31⟩ := FK2.out WX (Below.refl _ _)
            go_upto_region 11 with fail
            go_cut [70] (fun s70 wx => s70 = .bool false ∧ From WX wx)
            case first =>
              cases sb with
              | true =>
                go_wp2_with fail
                go_meet
                exact ⟨rfl, Below.refl _ _⟩
              | false =>
                have cs := CSm.out rfl WX (Below.refl _ _)
                go_wp2_with fail
                refine cs.mono ?_
                rintro e w5 ⟨rfl, b5⟩
                have B5 : Hid (Below WX.heap.size WX w5) := b5
                obtain ⟨-, q21, -, q31⟩ := FK2.out w5 b5
                clear cs b5 c20 c21 c30 c31
                go_wp2_with fail
                go_meet
                exact ⟨rfl, B5.out⟩
            case rest =>
              obtain ⟨rfl, hf⟩ := hcut
              have HF : Hid (From WX wc) := hf
              clear hf c20 c21 c30 c31 CSm
              go_wp2_with fail
              go_loopw [7] (fun z wq => ∃ k : Nat, k ≤ tn ∧ z = .int .i64 k ∧ From WX wq) (fun z _ => tn - (intOf z).toNat)
              case atStart => exact ⟨0, by omega, rfl, HF.out⟩
              case round =>
                obtain ⟨k, hk, rfl, hq⟩ := hrel
                have HQ : Hid (From WX wr) := hq
                obtain ⟨g1, g2, p1, p2, bw⟩ := FX.out wr hq
                obtain ⟨-, -, c30, c31⟩ := FK2.out wr hq
                clear hq HF
                by_cases hkt : k < tn
                · have kt2 : (k : Int) < (tn : Int) := by omega
                  have kt0 : (0 : Int) ≤ (k : Int) := by omega
                  have hkl : k < t.l.length := by rw [← HTN.out]; exact hkt
                  obtain ⟨tb, to', rfl, hr⟩ := p2.is.at k hkl
                  have hy : (atP t.l k).ok := Pa.at t.l p2.2 k
                  have YP := HNX.out.inv.po _ (atP_mem t.l k hkl)
                  have YL := HNX.out.inv.lt _ (atP_mem t.l k hkl)
                  have YF := HNX.out.fnd k hkl
                  have YU := HNX.out.up k hkl
                  have YO := HNX.out.old k hkl
                  have hprev : 0 < k → wr.cell? ⟨tb, to' + (k - 1) * 36, none⟩ = some (.int .i64 (atP t.l (k - 1)).i) := fun h0 => by
                    obtain ⟨tb', to2, e2, hr2⟩ := p2.is.at (k - 1) (by omega)
                    cases e2
                    exact (paC hr2 (Pa.at t.l p2.2 (k - 1))).1
                  generalize atP t.l k = y at *
                  have HPV : Hid (0 < k → wr.cell? ⟨tb, to' + (k - 1) * 36, none⟩ = some (.int .i64 (atP t.l (k - 1)).i) ∧ (atP t.l (k - 1)).i < y.i) := fun h0 => ⟨hprev h0, YU h0⟩
                  have RY9 : Hid (wr.rangeAt tb (to' + k * 36) y.cells) := hr
                  have ZP : Hid ((Tryd.prog.info? 41).map (·.size) = some y.cells.length) := Pa.infoL y hy
                  have HIy : Hid ((Tryd.prog.info? 41).map (·.size) = some y.cells.toArray.size) := Pa.infoA y hy
                  have HEy : Hid (pzc.size = y.cells.toArray.size) := pzc_size.trans (Pa.size y hy).symm
                  have H1y : Hid (y.cells.toArray.all (·.oneCell') = true) := Pa.ones y
                  obtain ⟨W8, hW8⟩ : ∃ W8, W8 = wr.alloc (.cells y.cells.toArray 41) := ⟨_, rfl⟩
                  have b8 : Below wr.heap.size wr W8 := by rw [hW8]; exact al_below _ _
                  have e8 := alloc_pa wr y
                  rw [← hW8] at e8
                  have HE8 : Hid ((wr.alloc (.cells #[.int .i64 0, .string ⟨#[]⟩, .int .u8 0, .int .u8 0, .int .u8 0, .int .u8 0, .int .u8 0, .int .u8 0, .int .u8 0, .int .u8 0, .int .u8 0, .int .u8 0, .int .u8 0, .int .u8 0, .int .u8 0, .int .u8 0, .int .u8 0, .int .u8 0, .int .u8 0, .int .u8 0, .int .u8 0, .int .u8 0, .int .u8 0, .int .u8 0, .int .u8 0, .int .u8 0, .int .u8 0, .int .u8 0, .int .u8 0, .int .u8 0, .int .u8 0, .int .u8 0, .int .u8 0, .int .u8 0, .int .i64 0, .int .i64 0] 41)).setRow wr.heap.size y.cells.toArray = W8) := e8
                  have gy8 : W8.heap[wr.heap.size]? = some (.cells y.cells.toArray 41 (0, 0)) := by rw [hW8]; exact heap_alloc_new _ _
                  have Q8 : Hid (From WX W8) := HQ.out.trans (b8.mono HQ.out.size)
                  have FY : Hid (∀ W, Below W8.heap.size W8 W → W.rangeAt wr.heap.size 0 y.cells ∧ W.cell? ⟨wr.heap.size, 0, none⟩ = some (.int .i64 y.i) ∧ W.cell? ⟨wr.heap.size, 1, none⟩ = some (.string y.p) ∧ W.cell? ⟨wr.heap.size, 34, none⟩ = some (.int .i64 y.n) ∧ W.cell? ⟨wr.heap.size, 35, none⟩ = some (.int .i64 y.o)) := fun W hb => by
                    have gg := blk_kept gy8 hb (blk_lt gy8)
                    obtain ⟨x0, x1, -, x3, x4⟩ := paC (blk_range gg) hy
                    simp only [Nat.zero_add] at x0 x1 x3 x4
                    exact ⟨blk_range gg, x0, x1, x3, x4⟩
                  have FP8 : Hid (∀ W, Below W8.heap.size W8 W → 0 < k → W.cell? ⟨tb, to' + (k - 1) * 36, none⟩ = some (.int .i64 (atP t.l (k - 1)).i)) := fun W hb h0 => by
                    have q0 := (HPV.out h0).1
                    have b9 := b8.trans (hb.mono b8.size)
                    exact (b9.cell (World.block_lt_of_cell? _ _ q0)).trans q0
                  clear hr hy e8 hW8 b8 gy8 hprev YU g1 g2 p1 p2 bw
                  go_wp2_with (refine wpList_load_mid rfl 41 _ rfl tb (to' + k * 36) rfl y.cells _ RY9.out Tryd.underlying41 rfl ZP.out (Hid.out ?_))
                  unfold Hid
                  go_wp2_with (refine wpList_store_row rfl 41 _ _ rfl wr.heap.size y.cells.toArray rfl rfl 41 pzc (new_pa wr) HIy.out HEy.out H1y.out (Hid.out ?_))
                  unfold Hid
                  rw [HE8.out]
                  clear HE8 RY9 c30 c31
                  have dA : decide (t.n ≤ y.i) = false := by simp; omega
                  have dB : decide (y.o < 0) = false := by have := YP.2.2.2.2.1; simp; omega
                  have dC : decide (y.n < y.o) = false := by have := YP.2.2.2.2.2.1; simp; omega
                  have CF1 : Hid (∀ W, Below W8.heap.size W8 W → Calls Tryd.prog 9 #[.agg #[.slice (some ⟨tb, to', none⟩) tn tc, .int .i64 t.n], .string y.p] W fun e w' => e = .returned (.tuple #[.agg y.cells.toArray, .bool true]) ∧ Below W.heap.size W w') := fun W hb => by
                    have := find_any _ t.l t.n y.p W (FX.out W (Q8.out.trans (hb.mono Q8.out.size))).2.2.2.1.is (by rw [← HTN.out]; omega)
                    rw [YF] at this
                    exact this
                  obtain ⟨q, hq9⟩ : ∃ q, q = (fnd s.l y.p).getD pa0 := ⟨_, rfl⟩
                  have HQO : Hid q.ok := by
                    unfold Hid
                    rw [hq9]
                    cases hf9 : fnd s.l y.p with
                    | none => exact pa0_ok
                    | some z => exact HI.out.ok z (List.mem_of_find?_eq_some hf9)
                  have HQI : Hid ((fnd s.l y.p).isSome = true → q.o ≤ y.o) := fun hh => by
                    rw [hq9]
                    cases hf9 : fnd s.l y.p with
                    | none => rw [hf9] at hh; cases hh
                    | some z => exact YO z hf9
                  have CF2 : Hid (∀ W, Below W8.heap.size W8 W → Calls Tryd.prog 9 #[.agg #[.slice va sn vc, .int .i64 s.n], .string y.p] W fun e w' => e = .returned (.tuple #[.agg q.cells.toArray, .bool (fnd s.l y.p).isSome]) ∧ Below W.heap.size W w') := fun W hb => by
                    have := find_any _ s.l s.n y.p W (FX.out W (Q8.out.trans (hb.mono Q8.out.size))).2.2.1.is (by have := HSL.out; omega)
                    rw [← hq9] at this
                    exact this
                  have EQ9 : Hid (∀ W, (Op.equalIn 10000 41 (.agg y.cells.toArray) (.agg y.cells.toArray)).run Tryd.prog W = .ok true W) := fun W => by
                    have := eqP y y (HNX.out.inv.ok y (by have := List.mem_of_find?_eq_some YF; exact this)) (HNX.out.inv.ok y (by have := List.mem_of_find?_eq_some YF; exact this)) W
                    rw [(sPa_iff y y).2 rfl] at this
                    exact this
                  clear YF YO hq9 YP YL
                  generalize (fnd s.l y.p).isSome = qb at *
                  have FK8 : Hid (∀ W, Below W8.heap.size W8 W → W.cell? ⟨w.heap.size, 0, none⟩ = some (.slice va sn vc) ∧ W.cell? ⟨w.heap.size, 1, none⟩ = some (.int .i64 s.n) ∧ W.cell? ⟨g, 0, none⟩ = some (.slice (some ⟨tb, to', none⟩) tn tc) ∧ W.cell? ⟨g, 1, none⟩ = some (.int .i64 t.n)) := fun W hb => FK2.out W (Q8.out.trans (hb.mono Q8.out.size))
                  obtain ⟨-, y0, y1, y3, y4⟩ := FY.out W8 (Below.refl _ _)
                  obtain ⟨-, -, c30, c31⟩ := FK8.out W8 (Below.refl _ _)
                  go_wp2_with fail
                  go_cut [115] (fun s115 wx => s115 = .bool false ∧ Below W8.heap.size W8 wx)
                  case first =>
                    by_cases hk0 : k = 0
                    · subst hk0
                      go_quiet (fail)
                      have BD : Hid (Below W8.heap.size W8 (W8.drewN nq)) := ⟨rfl, rfl, rfl, Nat.le_refl _, fun _ _ => rfl⟩
                      generalize W8.drewN nq = DW at *
                      go_wp2_with fail
                      go_meet
                      exact ⟨rfl, BD.out⟩
                    · have k0' : decide (0 < (k : Int)) = true := by simp; omega
                      have k0'' : (0 : Int) < (k : Int) := by omega
                      have hkn : 0 < k := by omega
                      have k0d : decide (0 < k) = true := by simpa using hkn
                      have km : (k : Int) - 1 = ((k - 1 : Nat) : Int) := by omega
                      have xw : wrap64 ((k : Int) - 1) = ((k - 1 : Nat) : Int) := by unfold wrap64; omega
                      have xp : IntKind.i64.wrap ((k : Int) - 1) = ((k - 1 : Nat) : Int) := by rw [IntKind.wrap_i64]; omega
                      have kb1 : ((k - 1 : Nat) : Int) < (tn : Int) := by omega
                      have kb0 : (0 : Int) ≤ ((k - 1 : Nat) : Int) := by omega
                      have cp := FP8.out W8 (Below.refl _ _) (by omega)
                      have hup := (HPV.out (by omega)).2
                      generalize (atP t.l (k - 1)).i = pi at *
                      have dD : decide (y.i ≤ pi) = false := by simp; omega
                      clear hup km
                      go_quiet (fail)
                      have BD : Hid (Below W8.heap.size W8 (W8.drewN nq)) := ⟨rfl, rfl, rfl, Nat.le_refl _, fun _ _ => rfl⟩
                      generalize W8.drewN nq = DW at *
                      go_wp2_with fail
                      go_meet
                      exact ⟨rfl, BD.out⟩
                  case rest =>
                    obtain ⟨rfl, hd⟩ := hcut
                    have HD : Hid (Below W8.heap.size W8 wc) := hd
                    obtain ⟨-, -, y1', -, -⟩ := FY.out wc hd
                    obtain ⟨-, -, d30, d31⟩ := FK8.out wc hd
                    have cf := CF1.out wc hd
                    clear hd y0 y1 y3 y4 c30 c31 CF1
                    go_wp2_with fail
                    refine cf.mono ?_
                    rintro e w9 ⟨rfl, b9⟩
                    have B9 : Hid (Below W8.heap.size W8 w9) := HD.out.trans (b9.mono HD.out.size)
                    clear cf b9 HD y1' d30 d31
                    obtain ⟨Wa, hWa⟩ : ∃ Wa, Wa = w9.alloc (.cells y.cells.toArray 41) := ⟨_, rfl⟩
                    have ba : Below w9.heap.size w9 Wa := by rw [hWa]; exact al_below _ _
                    have ea := alloc_pa w9 y
                    rw [← hWa] at ea
                    have HEa : Hid ((w9.alloc (.cells #[.int .i64 0, .string ⟨#[]⟩, .int .u8 0, .int .u8 0, .int .u8 0, .int .u8 0, .int .u8 0, .int .u8 0, .int .u8 0, .int .u8 0, .int .u8 0, .int .u8 0, .int .u8 0, .int .u8 0, .int .u8 0, .int .u8 0, .int .u8 0, .int .u8 0, .int .u8 0, .int .u8 0, .int .u8 0, .int .u8 0, .int .u8 0, .int .u8 0, .int .u8 0, .int .u8 0, .int .u8 0, .int .u8 0, .int .u8 0, .int .u8 0, .int .u8 0, .int .u8 0, .int .u8 0, .int .u8 0, .int .i64 0, .int .i64 0] 41)).setRow w9.heap.size y.cells.toArray = Wa) := ea
                    have RA : Hid (Wa.rangeAt w9.heap.size 0 y.cells) := by unfold Hid; rw [hWa]; exact pa_new w9 y
                    have Ba : Hid (Below W8.heap.size W8 Wa) := B9.out.trans (ba.mono B9.out.size)
                    have RB : Hid (Wa.rangeAt wr.heap.size 0 y.cells) := (FY.out Wa Ba.out).1
                    obtain ⟨-, -, y1', -, -⟩ := FY.out Wa Ba.out
                    obtain ⟨d20, d21, -, -⟩ := FK8.out Wa Ba.out
                    have cf := CF2.out Wa Ba.out
                    clear ea hWa ba B9 CF2
                    go_wp2_with (refine wpList_store_row rfl 41 _ _ rfl w9.heap.size y.cells.toArray rfl rfl 41 pzc (new_pa w9) HIy.out HEy.out H1y.out (Hid.out ?_))
                    unfold Hid
                    rw [HEa.out]
                    clear HEa
                    go_wp2_with (first
                      | refine wpList_load_midG (by rfl) 41 _ rfl w9.heap.size 0 rfl y.cells _ RA.out Tryd.underlying41 rfl ZP.out ?_
                      | refine wpList_load_midG (by rfl) 41 _ rfl wr.heap.size 0 rfl y.cells _ RB.out Tryd.underlying41 rfl ZP.out ?_
                      | refine wpList_eqiG (by rfl) 41 _ _ _ rfl y.cells.toArray y.cells.toArray true guardP (EQ9.out _) rfl rfl ?_)
                    refine cf.mono ?_
                    rintro e wb ⟨rfl, bb⟩
                    have Bb : Hid (Below W8.heap.size W8 wb) := Ba.out.trans (bb.mono Ba.out.size)
                    clear cf bb Ba RA RB y1' d20 d21
                    have HIq : Hid ((Tryd.prog.info? 41).map (·.size) = some q.cells.toArray.size) := Pa.infoA q HQO.out
                    have HEq : Hid (pzc.size = q.cells.toArray.size) := pzc_size.trans (Pa.size q HQO.out).symm
                    have H1q : Hid (q.cells.toArray.all (·.oneCell') = true) := Pa.ones q
                    obtain ⟨Wd, hWd⟩ : ∃ Wd, Wd = wb.alloc (.cells q.cells.toArray 41) := ⟨_, rfl⟩
                    have bd : Below wb.heap.size wb Wd := by rw [hWd]; exact al_below _ _
                    have ed := alloc_pa wb q
                    rw [← hWd] at ed
                    have HEd : Hid ((wb.alloc (.cells #[.int .i64 0, .string ⟨#[]⟩, .int .u8 0, .int .u8 0, .int .u8 0, .int .u8 0, .int .u8 0, .int .u8 0, .int .u8 0, .int .u8 0, .int .u8 0, .int .u8 0, .int .u8 0, .int .u8 0, .int .u8 0, .int .u8 0, .int .u8 0, .int .u8 0, .int .u8 0, .int .u8 0, .int .u8 0, .int .u8 0, .int .u8 0, .int .u8 0, .int .u8 0, .int .u8 0, .int .u8 0, .int .u8 0, .int .u8 0, .int .u8 0, .int .u8 0, .int .u8 0, .int .u8 0, .int .u8 0, .int .i64 0, .int .i64 0] 41)).setRow wb.heap.size q.cells.toArray = Wd) := ed
                    have rd := paC (by rw [hWd]; exact pa_new wb q : Wd.rangeAt wb.heap.size 0 q.cells) HQO.out
                    simp only [Nat.zero_add] at rd
                    obtain ⟨z0, -, -, -, z4⟩ := rd
                    have Bd : Hid (Below W8.heap.size W8 Wd) := Bb.out.trans (bd.mono Bb.out.size)
                    obtain ⟨-, y0, -, -, y4⟩ := FY.out Wd Bd.out
                    have HZZ : Hid (From WX Wd) := Q8.out.trans (Bd.out.mono Q8.out.size)
                    clear ed hWd bd Bb
                    go_wp2_with (refine wpList_store_row rfl 41 _ _ rfl wb.heap.size q.cells.toArray rfl rfl 41 pzc (new_pa wb) HIq.out HEq.out H1q.out (Hid.out ?_))
                    unfold Hid
                    rw [HEd.out]
                    clear HEd
                    cases qb with
                    | false =>
                      go_wp2
                      go_roundw
                      case rel => exact ⟨k + 1, by omega, by go_num, HZZ.out⟩
                      case measure => simp [intOf]; omega
                    | true =>
                      have hqo := HQI.out rfl
                      have dE : decide (y.o < q.o) = false := by simp; omega
                      by_cases hqi : q.i = y.i
                      · have dF : (q.i == y.i) = true := by simpa using hqi
                        generalize q.i = qi at *
                        clear hqi hqo
                        go_wp2
                        go_roundw
                        case rel => exact ⟨k + 1, by omega, by go_num, HZZ.out⟩
                        case measure => simp [intOf]; omega
                      · have dF : (q.i == y.i) = false := by simpa using hqi
                        clear hqo
                        go_wp2
                        go_roundw
                        case rel => exact ⟨k + 1, by omega, by go_num, HZZ.out⟩
                        case measure => simp [intOf]; omega
                · obtain rfl : k = tn := by omega
                  have st1 := st_ones ta k tc t.n
                  have RT : Hid (wr.rangeAt g 0 [.slice ta k tc, .int .i64 t.n]) := blk_range g2
                  have GX : Hid (wr.heap[w.heap.size]? = some (.cells #[.slice va sn vc, .int .i64 s.n] 26 (0, 0))) := g1
                  have HZ : Hid (∃ s', VS w w.heap.size (wr.setRow w.heap.size #[.slice ta k tc, .int .i64 t.n]) s') := ⟨t, _, setRow_heap _ _ _ _ _ _ g1, p2.setRow _ _ g1, HNX.out.inv, below_setRow bw (Nat.le_refl _) _⟩
                  clear g1 g2 p1 p2 bw
                  go_wp2_with (first
                    | refine wpList_load_mid rfl 26 _ rfl g 0 rfl [.slice ta k tc, .int .i64 t.n] _ RT.out Tryd.underlying26 rfl sizeT ?_
                    | refine wpList_store_row rfl 26 _ _ rfl w.heap.size #[.slice ta k tc, .int .i64 t.n] rfl rfl 26 #[.slice va sn vc, .int .i64 s.n] GX.out sizeT rfl st1 (Hid.out ?_))
                  unfold Hid
                  generalize wr.setRow w.heap.size #[.slice ta k tc, .int .i64 t.n] = wz at *
                  go_wp2
                  go_roundw
                  case rel => exact ⟨j + 1, by omega, by go_num, HZ.out⟩
                  case measure => simp [intOf]; omega
        · have dck : (rck x != 0) = true := by simpa using hck
          have HZ : Hid (∃ s', VS w w.heap.size w2 s') := ⟨s, _, G2.out, P2.out, HI.out, B2.out⟩
          generalize rck x = k at *
          clear hck G2 P2 HI RN
          go_wp2
          go_roundw
          case rel => exact ⟨j + 1, by omega, by go_num, HZ.out⟩
          case measure => simp [intOf]; omega
    · obtain rfl : j = n := by omega
      have aw := HAW.out wr HB.out
      clear HAW
      go_wp2_with fail
      refine aw.mono ?_
      rintro e w1 ⟨rfl, b1⟩
      have B1 : Hid (Below w.heap.size w w1) := HB.out.trans (b1.mono HB.out.size)
      clear aw b1
      go_wp2
      go_ret
      exact ⟨rfl, B1.out⟩

theorem contract (H : Type) (enc : TypeId × Value → H) (W : World) (base : Nat) (args : Array Value) (ds gs : List (DataW H)) (before : List MemPlace)
    (hval : ∀ (j : Nat) t v, Tryd.f3.params[j]? = some t → args[j]? = some v → Value.okWide Tryd.prog W .any base t v)
    (hW : DataW.Whole enc Tryd.prog Tryd.f3.params.toList Rows.recordRisesSpec.vars false W args.toList ds gs before) (hL : laidMetH Tryd.prog Rows.recordRisesRow.laid W) (hsh : W.ShapedOpen Tryd.prog)
    (hsz0 : (DataW.weightsEach Tryd.prog (Tryd.f3.params.toList ++ Rows.recordRisesSpec.plain.varTypes Tryd.prog) (ds ++ gs)).all (· ≤ reachBytes) = true) :
    Calls Tryd.prog 3 args W fun e W' => ∃ v, e = .returned v ∧ Rows.recordRisesSpec.post enc Tryd.prog Tryd.f3 false true false false W args v W' := by
  have hW' := hW
  obtain ⟨p, q, hA0, hV, rfl, hfz, hnd⟩ := hW
  have hA : DataW.TrodAll enc Tryd.prog W 0 (fun _ => true) true Tryd.f3.params.toList args.toList ds p := hA0
  rw [Tryd.params3] at hA hval hsz0
  obtain ⟨v0, vs0, d0, ds0, p0, q0, hargs, rfl, rfl, h0, r0⟩ := trodAll_cons hA
  obtain ⟨rfl, rfl, rfl⟩ := trodAll_nil r0
  obtain rfl : args = #[v0] := by cases args; simp_all
  obtain ⟨rfl, rfl⟩ := trodVars_none hV
  have k0 := h0
  have lt0 : ∀ x ∈ p0, x.block < W.heap.size := by obtain ⟨m, hm⟩ := k0; exact DataW.trod_lt m _ _ _ hm
  obtain ⟨L0, w0⟩ := recs_in (hval 0 22 v0 rfl rfl) h0
  clear hA0
  refine (walk v0 L0 W (tb_of hL hsh) w0).mono fun e W' ⟨he, bel⟩ => ?_
  subst he
  exact ⟨_, rfl, _, _, _, [], _, [], hW', trodAll_mk1 (shut_bool Tryd.underlying4 _), (trodAll_cons_mk (Below.trod laidOut (by kernel_rfl) (of_decide_eq_true (by kernel_rfl)) k0 bel lt0) trodAll_mk0), rfl, bel.frame _, fun h => by cases h⟩

theorem laid_met (os : Os) : laidMet Tryd.prog Rows.recordRisesRow.laid (({ World.holding Tryd.prog os ⟨#[], #[], []⟩ with heap := ((((((World.holding Tryd.prog os ⟨#[], #[], []⟩).heap.modify 0 (fun
      | .cells _ t frozen => .cells #[.int .i64 1, .int .i64 2, .int .i64 4, .int .i64 8] t frozen
      | o => o)).modify 1 (fun
      | .cells _ t frozen => .cells halfCells t frozen
      | o => o)).modify 2 (fun
      | .cells _ t frozen => .cells #[.int .i64 0] t frozen
      | o => o)).modify 3 (fun
      | .cells _ t frozen => .cells firstCells t frozen
      | o => o)).modify 4 (fun
      | .cells _ t frozen => .cells rangeCells t frozen
      | o => o)) } : World).forCall (fun _ _ => 0) ⟨#[], #[.slice none 0 0], []⟩).memory :=
  laidMet_of_run' 8 (by kernel_rfl) (by kernel_rfl)
theorem reads (os : Os) {H : Type} (enc : TypeId × Value → H) : ∃ places, DataW.whole enc Tryd.prog (({ World.holding Tryd.prog os ⟨#[], #[], []⟩ with heap := ((((((World.holding Tryd.prog os ⟨#[], #[], []⟩).heap.modify 0 (fun
      | .cells _ t frozen => .cells #[.int .i64 1, .int .i64 2, .int .i64 4, .int .i64 8] t frozen
      | o => o)).modify 1 (fun
      | .cells _ t frozen => .cells halfCells t frozen
      | o => o)).modify 2 (fun
      | .cells _ t frozen => .cells #[.int .i64 0] t frozen
      | o => o)).modify 3 (fun
      | .cells _ t frozen => .cells firstCells t frozen
      | o => o)).modify 4 (fun
      | .cells _ t frozen => .cells rangeCells t frozen
      | o => o)) } : World).forCall (fun _ _ => 0) ⟨#[], #[.slice none 0 0], []⟩).memory Tryd.f3.params.toList Rows.recordRisesSpec.vars false #[Value.slice none 0 0].toList 8 = some ([.nil], [], places) :=
  ⟨[], by kernel_rfl⟩

set_option maxRecDepth 100000 in
theorem lifted (os : Os) (started : os.Started) (H : Type) (enc : TypeId × Value → H) (F : Stop.Interp) :
    ReturnsInHanded {} Tryd.checked os 3 .any ((OpenSpec.ofChange Rows.recordRisesSpec).preRow enc Tryd.prog Tryd.f3 Rows.recordRisesRow.domain false Rows.recordRisesRow.laid) (((OpenSpec.ofChange Rows.recordRisesSpec).at F).post enc Tryd.prog Tryd.f3 false true false false) := by
  obtain ⟨places, hx⟩ := reads os enc
  refine returnsInHanded_of_row (C := Tryd.checked) (s := OpenSpec.ofChange Rows.recordRisesSpec) own started (by kernel_rfl) Tryd.func3
    (witness_row_at (enc := enc) (C := Tryd.checked) false ({ World.holding Tryd.prog os ⟨#[], #[], []⟩ with heap := ((((((World.holding Tryd.prog os ⟨#[], #[], []⟩).heap.modify 0 (fun
      | .cells _ t frozen => .cells #[.int .i64 1, .int .i64 2, .int .i64 4, .int .i64 8] t frozen
      | o => o)).modify 1 (fun
      | .cells _ t frozen => .cells halfCells t frozen
      | o => o)).modify 2 (fun
      | .cells _ t frozen => .cells #[.int .i64 0] t frozen
      | o => o)).modify 3 (fun
      | .cells _ t frozen => .cells firstCells t frozen
      | o => o)).modify 4 (fun
      | .cells _ t frozen => .cells rangeCells t frozen
      | o => o)) } : World) #[.slice none 0 0] rfl (by kernel_rfl) (by kernel_rfl) (by kernel_rfl)
      (OpenSpec.preRow_of_cond 8 hx (by kernel_rfl) (fun k hk => by cases hk) (by kernel_rfl) (laid_met os))) ?_
  intro W base args ds gs before hval hW _ _ hsz hL hsh _
  exact contract H enc W base args ds gs before hval hW hL hsh hsz

theorem said : Rows.RecordRisesSaid :=
  OpenClaim.holds_of_cond 3 Tryd.f3 rfl rfl rfl rfl rfl rfl rfl ⟨rfl, rfl, rfl, rfl, rfl⟩ rfl rfl rfl rfl rfl (by kernel_rfl) Tryd.func3 (by kernel_rfl)
    (of_decide_eq_true (by kernel_rfl)) (by unfold Func.isWrapper; first | (rw [if_pos (by decide +kernel)]; kernel_rfl) | (rw [if_neg (by decide +kernel)]; exact ⟨rfl, rfl⟩))
    (fun os started H enc _ F => by rw [OpenClaim.pre_eq_preRow]; exact lifted os started H enc F)

theorem plain (f : FuncId) (fn : Func) (hf : Tryd.pinned.checked.prog.funcNamed "sumpter/sumpterlaw15.RecordRises" = some f) (hfn : Tryd.pinned.checked.prog.funcs[f]? = some fn) :
    false = Tryd.pinned.checked.prog.looks [] ∧ ∀ (j : Nat) t, fn.params[j]? = some t → Tryd.pinned.checked.prog.wantsStandIn t = false := by
  obtain rfl : f = 3 := Option.some.inj ((show Tryd.prog.funcNamed "sumpter/sumpterlaw15.RecordRises" = some 3 by kernel_rfl).symm.trans hf) |>.symm
  obtain rfl : fn = Tryd.f3 := (Option.some.inj (Tryd.func3.symm.trans hfn)).symm
  refine ⟨by kernel_rfl, fun j t ht => ?_⟩
  rw [Tryd.params3] at ht
  have hm : t ∈ [22] := by simpa using Array.mem_of_getElem? ht
  have hall : ([22].all fun u => !Tryd.prog.wantsStandIn u) = true := by kernel_rfl
  exact (show Tryd.prog.wantsStandIn t = false by simpa using List.all_eq_true.1 hall t hm)
end Go.Proofs.YtpkobpdiddjnpabDoor.recordRises

namespace Go.Proofs.YtpkobpdiddjnpabDoor
/-- The card of RecordRises. -/
theorem recordRises_card : Rows.RecordRisesCardSaid :=
  Claim7.holds_tied_plain_at .later [] _ _ _ _ recordRises.said (fun _ h => by cases h) (by kernel_rfl) (fun _ h => by cases h) recordRises_row_tie rfl ⟨rfl, rfl⟩ (by kernel_rfl) rfl recordRises.plain (by kernel_rfl)
#print axioms recordRises_card
end Go.Proofs.YtpkobpdiddjnpabDoor
