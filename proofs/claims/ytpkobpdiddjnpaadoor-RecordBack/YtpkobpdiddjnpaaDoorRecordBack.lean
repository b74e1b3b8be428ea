/-
  RecordBack: records that are put one behind the other are scanned as they were; cut off anywhere, those are that are whole, and it is told that one is cut; at most 40 records, paths of at most 300 bytes, else the closed case alone is asked. It holds for every input of the row; varint's table of widths, crc's table of halves and Go's tables of utf8 (first, acceptRanges) hold what their declarations lay when the call begins.
-/
import Derived.Test.YtpkobpdiddjnpaaDoorPkB
import Derived.Deep.QuietTactic
import Derived.BigQuiet
namespace Go.Proofs.YtpkobpdiddjnpaaDoor.recordBack
open Go.ChangeShapes Go.WideShapes Go.ChangeAt Go.RowKit Go.Deep Go.ChangeMaps
set_option maxRecDepth 100000

/-- What the first loop holds. -/
structure BL (w0 : World) (M : List Rc) (v5 v6 v7 : Value) (w : World) : Prop where
  b : w.ownsRow w0.heap.size 5 1 v5 (puts M).length ((puts M).map (Value.int .u8))
  e : IO w w0.heap.size v6 (ends M)
  m : RQ w w0.heap.size v7 M
  bel : Below w0.heap.size w0 w
theorem BL.kept {w0 w w' : World} {M : List Rc} {v5 v6 v7 : Value} (h : BL w0 M v5 v6 v7 w) (hb : Below w.heap.size w w') : BL w0 M v5 v6 v7 w' :=
  ⟨own_below h.b hb, own_below h.e hb, h.m.below hb, h.bel.trans (hb.mono h.bel.size)⟩
set_option maxHeartbeats 8000000 in
theorem walk (v : Value) (L : List Rc) (ct : Int) (w : World) (ht : Tb w) (h : RS w v L) (hct : (Lit.int .u16 ct).wf = true) :
    Calls Tryd.prog 5 #[v, .int .u16 ct] w fun e w' => e = .returned (.bool true) ∧ Below w.heap.size w w' := by
  obtain ⟨a, c, rfl, h2, h3, h4⟩ := h.shape
  have ctb := bounds_u16 hct
  have HAW : Hid (∀ W, Below w.heap.size w W → Calls Tryd.prog 7 #[] W fun e w' => e = .returned (.bool true) ∧ Below W.heap.size W w') := fun W hb => awake_any W (ht.kept hb)
  by_cases h40 : 40 < L.length
  · have d0 : decide ((40 : Int) < (L.length : Int)) = true := by simp; omega
    have aw := HAW.out w (Below.refl _ _)
    clear h ht h2 h3 h4 HAW
    generalize L.length = n at *
    go_enter Tryd.func5, Tryd.ntmps5
    go_wp2_with fail
    refine aw.mono ?_
    rintro e w1 ⟨rfl, b1⟩
    clear aw
    have B1 : Hid (Below w.heap.size w w1) := b1
    clear b1
    go_wp2
    go_ret
    exact ⟨rfl, B1.out⟩
  have d0 : decide ((40 : Int) < (L.length : Int)) = false := by simp; omega
  have HRS : Hid (∀ W, Below w.heap.size w W → RS W (.slice a L.length c) L) := fun W hb => h.kept hb
  have HOK : Hid (∀ x ∈ L, x.ok) := h.2
  have HTB : Hid (Tb w) := ht
  have hn : L.length ≤ 40 := by omega
  obtain ⟨n, hn'⟩ : ∃ n, n = L.length := ⟨_, rfl⟩
  have HN : Hid (n = L.length) := hn'
  rw [← hn'] at h2 hn HRS d0 ⊢
  have HB0 : Hid (BL w (md L 0) (.slice none 0 0) (.slice none 0 0) (.slice none 0 0) w) := ⟨⟨by simp [md, puts], .inl ⟨rfl, by simp [md, puts]⟩⟩, ⟨by simp [md, ends], .inl ⟨rfl, by simp [md, ends]⟩⟩, by rw [show md L 0 = [] by simp [md]]; exact RRt.nil _ _ _, Below.refl _ _⟩
  clear h ht h3 h4 hn' h40 hct
  go_enter Tryd.func5, Tryd.ntmps5
  go_wp2_with fail
  go_loopw [5, 6, 7, 8] (fun s5 s6 s7 z wr => ∃ j : Nat, j ≤ n ∧ z = .int .i64 j ∧ BL w (md L j) s5 s6 s7 wr) (fun _ _ _ z _ => n - (intOf z).toNat)
  case atStart => exact ⟨0, by omega, rfl, HB0.out⟩
  case round =>
    obtain ⟨j, hj, rfl, bl⟩ := hrel
    have HL0 : Hid (BL w (md L j) u5 u6 u7 wr) := bl
    have HB : Hid (Below w.heap.size w wr) := bl.bel
    obtain ⟨a5, c5, rfl⟩ := own_shape bl.b
    obtain ⟨a6, c6, rfl⟩ := own_shape bl.e
    obtain ⟨a7, c7, rfl, -, -, -⟩ := bl.m.is.shape
    rw [ends_len] at HL0 ⊢
    have HOM : Hid (Ok2 (md L j)) := md_ok HOK.out j
    have HML : Hid ((md L j).length ≤ j) := md_len L j
    have HPL : Hid ((puts (md L j)).length ≤ 210 * (md L j).length) := puts_len (md_ok HOK.out j)
    clear bl HB0
    by_cases hlt : j < n
    · have lt2 : (j : Int) < (n : Int) := by omega
      have lt3 : (0 : Int) ≤ (j : Int) := by omega
      obtain ⟨b, off, rfl, hr⟩ := (HRS.out wr HB.out).at j (by rw [← HN.out]; exact hlt)
      have hx : (atR L j).ok := Rc.at L HOK.out j
      have HMD : Hid (md L (j + 1) = if rck (atR L j) = 0 then md L j ++ [atR L j] else md L j) := md_next L j (by rw [← HN.out]; exact hlt)
      have FX : Hid (∀ W, From w W → W.rangeAt b (off + j * 37) (atR L j).cells) := fun W hb => by
        obtain ⟨b', off', e', hr'⟩ := (HRS.out W hb).at j (by rw [← HN.out]; exact hlt)
        cases e'
        exact hr'
      generalize atR L j = x at *
      generalize md L j = M at *
      obtain ⟨-, -, k2, -, -, -⟩ := rcC hr hx
      by_cases h300 : 300 < x.x.p.size
      · have d3 : decide ((300 : Int) < (x.x.p.size : Int)) = true := by simp; omega
        have aw := HAW.out wr HB.out
        clear hr hx HAW
        go_wp2_with fail
        refine aw.mono ?_
        rintro e w1 ⟨rfl, b1⟩
        have B1 : Hid (Below w.heap.size w w1) := HB.out.trans (b1.mono HB.out.size)
        clear aw b1
        go_wp2
        go_ret
        exact ⟨rfl, B1.out⟩
      · have d3 : decide ((300 : Int) < (x.x.p.size : Int)) = false := by simp; omega
        have co := own_any x wr hx
        have RN : Hid (wr.rangeAt b (off + j * 37) x.cells) := hr
        have ZQ : Hid ((Tryd.prog.info? 25).map (·.size) = some x.cells.length) := infoQL x hx
        have HXO : Hid x.ok := hx
        have CP : Hid (∀ W, Below w.heap.size w W → Calls Tryd.prog 8 #[.agg x.cells.toArray] W fun e w' => ∃ v, e = .returned (.tuple #[v, .int .i64 (rck x)]) ∧ Sl w' v (putB x) ∧ Below W.heap.size W w') := fun W hb => put_any x W hx (HTB.out.kept hb) (by omega)
        unfold Rc.val at co
        clear hr hx
        obtain ⟨ml, hml⟩ : ∃ ml, ml = M.length := ⟨_, rfl⟩
        have HMN : Hid (ml = M.length) := hml
        obtain ⟨pl, hpl⟩ : ∃ pl, pl = (puts M).length := ⟨_, rfl⟩
        have HPN : Hid (pl = (puts M).length) := hpl
        rw [← hml, ← hpl] at HL0 ⊢
        clear hml hpl
        go_wp2_with (refine wpList_load_mid rfl 25 _ rfl b (off + j * 37) rfl x.cells _ RN.out Tryd.underlying25 rfl ZQ.out ?_)
        refine co.mono ?_
        rintro e w1 ⟨rfl, b1⟩
        have L1 : Hid (BL w M (.slice a5 pl c5) (.slice a6 ml c6) (.slice a7 ml c7) w1) := HL0.out.kept b1
        have cp := CP.out w1 L1.out.bel
        clear co b1 CP HL0
        go_wp2_with fail
        refine cp.mono ?_
        rintro e w2 ⟨v2, rfl, s2, b2⟩
        have L2 : Hid (BL w M (.slice a5 pl c5) (.slice a6 ml c6) (.slice a7 ml c7) w2) := L1.out.kept b2
        have S2 : Hid (Sl w2 v2 (putB x)) := s2
        obtain ⟨a2, c2, rfl, -⟩ := id s2
        clear cp s2 b2 L1
        by_cases hck : rck x = 0
        · rw [hck]
          have HM1 : Hid (md L (j + 1) = M ++ [x]) := by unfold Hid; rw [HMD.out, if_pos hck]
          have hpp := put_pos HXO.out hck
          obtain ⟨ql, hql⟩ : ∃ ql, ql = (putB x).length := ⟨_, rfl⟩
          have HQL : Hid (ql = (putB x).length) := hql
          rw [← hql] at S2 hpp ⊢
          clear hql
          go_wp2_with (at_builtin; refine wpList_append_sl rfl _ _ rfl w.heap.size _ pl ((puts M).map (Value.int .u8)) rfl (by have := L2.out.b; rw [← HPN.out] at this; exact this) _ (putB x) rfl S2.out (by have := HPL.out; have := HML.out; have := HPN.out; have := HQL.out; omega) L2.out.bel.size (Hid.out ?_))
          unfold Hid
          intro v3 w3 o3 g3
          have e3 : IO w3 w.heap.size (.slice a6 ml c6) (ends M) := own_apart L2.out.b L2.out.e (by decide) g3
          have m3 : RQ w3 w.heap.size (.slice a7 ml c7) M := ⟨⟨own_apart L2.out.b L2.out.m.1.1 (by decide) g3, L2.out.m.1.2⟩, L2.out.m.2⟩
          have b3 : Below w.heap.size w w3 := L2.out.bel.grown g3 L2.out.bel.size (own_base L2.out.b)
          have HP2 : Hid (puts (M ++ [x]) = puts M ++ putB x) := by unfold Hid; rw [puts_app]; simp [puts]
          have o3' : w3.ownsRow w.heap.size 5 1 v3 (puts (M ++ [x])).length ((puts (M ++ [x])).map (Value.int .u8)) := by
            rw [HP2.out, List.length_append, List.map_append, ← HPN.out]
            exact o3
          obtain ⟨a3, c3, rfl⟩ := own_shape o3
          rw [← HQL.out] at o3 ⊢
          have HSM : Hid (((pl + ql : Nat) : Int) = ((puts (M ++ [x])).length : Int)) := by unfold Hid; rw [HP2.out, List.length_append, HPN.out, HQL.out]
          have HE3 : Hid (IO w3 w.heap.size (.slice a6 ml c6) (ends M)) := e3
          have HQ3 : Hid (RQ w3 w.heap.size (.slice a7 ml c7) M) := m3
          have HO3 : Hid (w3.ownsRow w.heap.size 5 1 (.slice a3 (pl + ql) c3) (puts (M ++ [x])).length ((puts (M ++ [x])).map (Value.int .u8))) := by have := o3'; rw [← HQL.out] at this; exact this
          have HB3 : Hid (Below w.heap.size w w3) := b3
          have ML40 : Hid (M.length ≤ 40) := by unfold Hid; have := HML.out; omega
          clear o3 g3 e3 m3 b3 o3' L2 S2
          generalize pl + ql = tl at *
          go_wp2_with fail
          refine wp_region_held_drew (S := From w) (by kernel_rfl) (Below.drew (HB3.out)) (fun _ => ?_)
          refine wpAnyH_name (fun u0 hu0 => ?_)
          have bu0 : Below w.heap.size w u0 := by rw [hu0.out]; exact Below.drew (HB3.out)
          have Ou0 : u0.ownsRow w.heap.size 5 1 (.slice a3 tl c3) (puts (M ++ [x])).length ((puts (M ++ [x])).map (Value.int .u8)) := by rw [hu0.out]; exact own_below HO3.out (Below.refl _ _).drew
          have Iu0 : IO u0 w.heap.size (.slice a6 ml c6) (ends M) := by rw [hu0.out]; exact own_below HE3.out (Below.refl _ _).drew
          have Qu0 : RQ u0 w.heap.size (.slice a7 ml c7) M := by rw [hu0.out]; exact HQ3.out.below (Below.refl _ _).drew
          refine wpAnyH_take (i := 0) (oi := { dst := some 50, op := Op.move (Operand.tmp 6), type := 66, pos := "own.go:26", after := #[], guard := none }) (v := ?vr1) rfl (by kernel_rfl) (by kernel_rfl) (by kernel_rfl) (fun _ _ _ h => h) (Or.inl ⟨by rfl, ?yr1⟩) bu0 ?rr1
          case yr1 => (intro w hSw; go_simp; try with_reducible rfl)
          try simp only [Act.put, List.setIfInBounds_toArray, List.set_cons_zero, List.set_cons_succ]
          refine wpAnyH_take (i := 1) (oi := { dst := some 51, op := Op.move (Operand.tmp 5), type := 27, pos := "own.go:26", after := #[], guard := none }) (v := ?vr2) rfl (by kernel_rfl) (by kernel_rfl) (by kernel_rfl) (fun _ _ _ h => h) (Or.inl ⟨by rfl, ?yr2⟩) bu0 ?rr2
          case yr2 => (intro w hSw; go_simp; try with_reducible rfl)
          try simp only [Act.put, List.setIfInBounds_toArray, List.set_cons_zero, List.set_cons_succ]
          refine wpAnyH_take (i := 2) (oi := { dst := some 52, op := Op.call { callee := Callee.builtin Builtin.len, args := #[Operand.tmp 51], argTypes := #[27] }, type := 3, pos := "own.go:26", after := #[{ on := 1, ground := Ground.data }], guard := none }) (v := ?vr3) rfl (by kernel_rfl) (by kernel_rfl) (by kernel_rfl) (fun _ _ _ h => h) (Or.inl ⟨by rfl, ?yr3⟩) bu0 ?rr3
          case yr3 => (intro w hSw; go_simp; try with_reducible rfl)
          try simp only [Act.put, List.setIfInBounds_toArray, List.set_cons_zero, List.set_cons_succ]
          refine wpAnyH_take (i := 5) (oi := { dst := some 55, op := Op.move (Operand.tmp 7), type := 39, pos := "own.go:26", after := #[], guard := none }) (v := ?vr4) rfl (by kernel_rfl) (by kernel_rfl) (by kernel_rfl) (fun _ _ _ h => h) (Or.inl ⟨by rfl, ?yr4⟩) bu0 ?rr4
          case yr4 => (intro w hSw; go_simp; try with_reducible rfl)
          try simp only [Act.put, List.setIfInBounds_toArray, List.set_cons_zero, List.set_cons_succ]
          refine wpAnyH_take (i := 6) (oi := { dst := some 56, op := Op.move (Operand.tmp 0), type := 39, pos := "own.go:26", after := #[], guard := none }) (v := ?vr5) rfl (by kernel_rfl) (by kernel_rfl) (by kernel_rfl) (fun _ _ _ h => h) (Or.inl ⟨by rfl, ?yr5⟩) bu0 ?rr5
          case yr5 => (intro w hSw; go_simp; try with_reducible rfl)
          try simp only [Act.put, List.setIfInBounds_toArray, List.set_cons_zero, List.set_cons_succ]
          refine wpAnyH_take (i := 7) (oi := { dst := some 57, op := Op.move (Operand.tmp 8), type := 3, pos := "own.go:26", after := #[], guard := none }) (v := ?vr6) rfl (by kernel_rfl) (by kernel_rfl) (by kernel_rfl) (fun _ _ _ h => h) (Or.inl ⟨by rfl, ?yr6⟩) bu0 ?rr6
          case yr6 => (intro w hSw; go_simp; try with_reducible rfl)
          try simp only [Act.put, List.setIfInBounds_toArray, List.set_cons_zero, List.set_cons_succ]
          refine wpAnyH_take (i := 8) (oi := { dst := some 58, op := Op.indexAddr 39 (Operand.tmp 56) (Operand.tmp 57), type := 0, pos := "own.go:26", after := #[{ on := 6, ground := Ground.data }, { on := 7, ground := Ground.data }], guard := none }) (v := ?vr7) rfl (by kernel_rfl) (by kernel_rfl) (by kernel_rfl) (fun _ _ _ h => h) (Or.inl ⟨by rfl, ?yr7⟩) bu0 ?rr7
          case yr7 => (intro w hSw; go_simp; try with_reducible rfl)
          try simp only [Act.put, List.setIfInBounds_toArray, List.set_cons_zero, List.set_cons_succ]
          refine wpAnyH_take (i := 9) (oi := { dst := some 59, op := Op.load 25 (Operand.tmp 58), type := 25, pos := "own.go:26", after := #[{ on := 8, ground := Ground.data }], guard := none }) (v := .agg x.cells.toArray) rfl (by kernel_rfl) (by kernel_rfl) (by kernel_rfl) (fun _ _ _ h => h) (yieldsIf_load_mid (by rfl) 25 _ rfl b (off + j * 37) rfl x.cells _ (fun w hw => FX.out w hw) Tryd.underlying25 rfl ZQ.out) bu0 ?_
          try simp only [Act.put, List.setIfInBounds_toArray, List.set_cons_zero, List.set_cons_succ]
          refine wpAnyH_ready (rs := [3, 10]) (by kernel_rfl) (by simp) ?_
          refine AllReadyH.cons (o := { dst := some 53, op := Op.buildSlice 66 1 #[(0, Operand.tmp 52)], type := 66, pos := "own.go:26", after := #[{ on := 2, ground := Ground.data }], guard := none }) rfl (fun KK hKK => ?_) ?_
          · have Ku9 : (u0.alloc (.cells #[.int .i64 (tl : Int)] 3)).cell? ⟨u0.heap.size, 0, none⟩ = some (.int .i64 (tl : Int)) := by rw [World.cell?_alloc_at _ _ _ _ rfl]; rfl
            go_simp
            refine hKK.out _ _ (bu0.trans ((al_below _ _).mono bu0.size)) (fun _ => ?_)
            clear hKK KK
            try simp only [Act.put, List.setIfInBounds_toArray, List.set_cons_zero, List.set_cons_succ]
            refine wpAnyH_name (fun u9 hu9 => ?_)
            have bu9 : Below w.heap.size w u9 := by rw [hu9.out]; exact (bu0.trans ((al_below _ _).mono bu0.size))
            rw [← hu9.out] at Ku9
            have Ou9 := own_below Ou0 (al_below u0 (.cells #[.int .i64 (tl : Int)] 3))
            rw [← hu9.out] at Ou9
            have Iu9 : IO u9 w.heap.size (.slice a6 ml c6) (ends M) := by rw [hu9.out]; exact own_below Iu0 (al_below _ _)
            have Qu9 := Qu0.below (al_below u0 (.cells #[.int .i64 (tl : Int)] 3))
            rw [← hu9.out] at Qu9
            try have Tu9 := blk_kept Tu0 (al_below u0 (.cells #[.int .i64 (tl : Int)] 3)) (blk_lt Tu0)
            try rw [← hu9.out] at Tu9
            refine wpAnyH_ready (rs := [4, 10]) (by kernel_rfl) (by simp) ?_
            refine AllReadyH.cons (o := { dst := some 54, op := Op.call { callee := Callee.builtin Builtin.append, args := #[Operand.tmp 50, Operand.tmp 53], argTypes := #[66, 66] }, type := 66, pos := "own.go:26", after := #[{ on := 0, ground := Ground.data }, { on := 3, ground := Ground.data }], guard := none }) rfl (fun KK hKK => ?_) ?_
            · refine wp_append_i _ _ rfl w.heap.size _ (ends M) rfl Iu9 u0.heap.size (tl : Int) 1 rfl Ku9 (by rw [ends_len]; have := ML40.out; omega) bu9.size ?_
              intro v9 u10' i9 g9
              obtain ⟨ja, jc, rfl⟩ := own_shape i9
              rw [List.length_append, ends_len, List.length_singleton] at i9 ⊢
              refine hKK.out _ _ (bu9.grown g9 bu9.size (own_base Iu9)) (fun _ => ?_)
              clear hKK KK
              try simp only [Act.put, List.setIfInBounds_toArray, List.set_cons_zero, List.set_cons_succ]
              refine wpAnyH_name (fun u10 hu10 => ?_)
              have bu10 : Below w.heap.size w u10 := by rw [hu10.out]; exact (bu9.grown g9 bu9.size (own_base Iu9))
              rw [← hu10.out] at i9 g9
              have Ju10 : IO u10 w.heap.size (.slice ja (M.length + 1) jc) (ends (M ++ [x])) := by rw [ends_app, ← HSM.out]; exact i9
              have Ou10 := own_apart Iu9 Ou9 (by decide) g9
              have Qu10 : RQ u10 w.heap.size (.slice a7 ml c7) M := ⟨⟨own_apart Iu9 Qu9.1.1 (by decide) g9, Qu9.1.2⟩, Qu9.2⟩
              try have Tu10 := (g9.block _ (blk_lt Tu9) (fun e => own_ne Iu9 Tu9 (by decide) e.symm)).trans Tu9
              clear i9 g9
              refine wpAnyH_ready (rs := [10]) (by kernel_rfl) (by simp) ?_
              refine AllReadyH.cons (o := { dst := some 60, op := Op.buildSlice 39 1 #[(0, Operand.tmp 59)], type := 39, pos := "own.go:26", after := #[{ on := 9, ground := Ground.data }], guard := none }) rfl (fun KK hKK => ?_) ?_
              · refine wp_bsQ _ rfl x HXO.out rfl ?_
                refine hKK.out _ _ (bu10.trans ((al_below _ _).mono bu10.size)) (fun _ => ?_)
                clear hKK KK
                try simp only [Act.put, List.setIfInBounds_toArray, List.set_cons_zero, List.set_cons_succ]
                refine wpAnyH_name (fun u11 hu11 => ?_)
                have bu11 : Below w.heap.size w u11 := by rw [hu11.out]; exact (bu10.trans ((al_below _ _).mono bu10.size))
                have Tu11 : u11.heap[u10.heap.size]? = some (.cells x.cells.toArray 25 (0, 0)) := by rw [hu11.out]; exact heap_alloc_new _ _
                have Ou11 := own_below Ou10 (al_below u10 (.cells x.cells.toArray 25))
                rw [← hu11.out] at Ou11
                have Qu11 := Qu10.below (al_below u10 (.cells x.cells.toArray 25))
                rw [← hu11.out] at Qu11
                try have Iu11 : IO u11 w.heap.size (.slice a6 ml c6) (ends M) := by rw [hu11.out]; exact own_below Iu10 (al_below _ _)
                try have Ju11 : IO u11 w.heap.size (.slice ja (M.length + 1) jc) (ends (M ++ [x])) := by rw [hu11.out]; exact own_below Ju10 (al_below _ _)
                try have Ku11 := ((al_below u10 (.cells x.cells.toArray 25)).cell (World.block_lt_of_cell? _ _ Ku10)).trans Ku10
                try rw [← hu11.out] at Ku11
                refine wpAnyH_ready (rs := [11]) (by kernel_rfl) (by simp) ?_
                refine AllReadyH.cons (o := { dst := some 61, op := Op.call { callee := Callee.builtin Builtin.append, args := #[Operand.tmp 55, Operand.tmp 60], argTypes := #[39, 39] }, type := 39, pos := "own.go:26", after := #[{ on := 5, ground := Ground.data }, { on := 10, ground := Ground.data }, { on := 4, ground := Ground.chain }], guard := none }) rfl (fun KK hKK => ?_) ?_
                · refine wp_append_q _ _ rfl w.heap.size _ M rfl Qu11 u10.heap.size x 1 HXO.out rfl (blk_range Tu11) (by have := ML40.out; omega) bu11.size ?_
                  intro v8 u12' q8 g8
                  obtain ⟨qa, qc, rfl, -, -, -⟩ := q8.is.shape
                  rw [List.length_append, List.length_singleton] at q8 ⊢
                  refine hKK.out _ _ (bu11.grown g8 bu11.size (own_base Qu11.1.1)) (fun _ => ?_)
                  clear hKK KK
                  try simp only [Act.put, List.setIfInBounds_toArray, List.set_cons_zero, List.set_cons_succ]
                  refine wpAnyH_name (fun u12 hu12 => ?_)
                  have bu12 : Below w.heap.size w u12 := by rw [hu12.out]; exact (bu11.grown g8 bu11.size (own_base Qu11.1.1))
                  rw [← hu12.out] at q8 g8
                  have Ju12 : IO u12 w.heap.size (.slice ja (M.length + 1) jc) (ends (M ++ [x])) := own_apart Qu11.1.1 Ju11 (by decide) g8
                  have Ou12 := own_apart Qu11.1.1 Ou11 (by decide) g8
                  have Zu12 : RQ u12 w.heap.size (.slice qa (M.length + 1) qc) (M ++ [x]) := q8
                  clear q8 g8
                  refine wpAnyH_take (i := 12) (oi := { dst := some 6, op := Op.assign (Operand.tmp 54), type := 66, pos := "own.go:26", after := #[{ on := 4, ground := Ground.data }, { on := 11, ground := Ground.chain }, { on := 0, ground := Ground.phase }, { on := 1, ground := Ground.phase }, { on := 2, ground := Ground.phase }, { on := 3, ground := Ground.phase }, { on := 4, ground := Ground.phase }, { on := 5, ground := Ground.textOnly Departure.lateStores }, { on := 6, ground := Ground.textOnly Departure.lateStores }, { on := 7, ground := Ground.textOnly Departure.lateStores }, { on := 8, ground := Ground.textOnly Departure.lateStores }, { on := 9, ground := Ground.textOnly Departure.lateStores }, { on := 10, ground := Ground.textOnly Departure.lateStores }, { on := 11, ground := Ground.textOnly Departure.lateStoresUnsure }], guard := none }) (v := ?vr13) rfl (by kernel_rfl) (by kernel_rfl) (by kernel_rfl) (fun _ _ _ h => h) (Or.inl ⟨by rfl, ?yr13⟩) bu12 ?rr13
                  case yr13 => (intro w hSw; go_simp; try with_reducible rfl)
                  try simp only [Act.put, List.setIfInBounds_toArray, List.set_cons_zero, List.set_cons_succ]
                  refine wpAnyH_take (i := 13) (oi := { dst := some 7, op := Op.assign (Operand.tmp 61), type := 39, pos := "own.go:26", after := #[{ on := 11, ground := Ground.data }, { on := 12, ground := Ground.chain }, { on := 0, ground := Ground.phase }, { on := 1, ground := Ground.phase }, { on := 2, ground := Ground.phase }, { on := 3, ground := Ground.phase }, { on := 4, ground := Ground.phase }, { on := 5, ground := Ground.phase }, { on := 6, ground := Ground.phase }, { on := 7, ground := Ground.phase }, { on := 8, ground := Ground.phase }, { on := 9, ground := Ground.phase }, { on := 10, ground := Ground.phase }, { on := 11, ground := Ground.phase }, { on := 12, ground := Ground.phase }], guard := none }) (v := ?vr14) rfl (by kernel_rfl) (by kernel_rfl) (by kernel_rfl) (fun _ _ _ h => h) (Or.inl ⟨by rfl, ?yr14⟩) bu12 ?rr14
                  case yr14 => (intro w hSw; go_simp; try with_reducible rfl)
                  try simp only [Act.put, List.setIfInBounds_toArray, List.set_cons_zero, List.set_cons_succ]
                  refine wpAnyH_done (by kernel_rfl) ?_ _
                  have HZ : Hid (BL w (md L (j + 1)) (.slice a3 tl c3) (.slice ja (M.length + 1) jc) (.slice qa (M.length + 1) qc) u12) := by unfold Hid; rw [HM1.out]; exact ⟨Ou12, Ju12, Zu12, bu12⟩
                  clear FX HE3 HQ3 HO3
                  go_wp2
                  go_roundw
                  case rel => exact ⟨j + 1, by omega, by go_num, HZ.out⟩
                  case measure => simp [intOf]; omega
                exact AllReadyH.nil
              exact AllReadyH.nil
            refine AllReadyH.cons (o := { dst := some 60, op := Op.buildSlice 39 1 #[(0, Operand.tmp 59)], type := 39, pos := "own.go:26", after := #[{ on := 9, ground := Ground.data }], guard := none }) rfl (fun KK hKK => ?_) ?_
            · refine wp_bsQ _ rfl x HXO.out rfl ?_
              refine hKK.out _ _ (bu9.trans ((al_below _ _).mono bu9.size)) (fun _ => ?_)
              clear hKK KK
              try simp only [Act.put, List.setIfInBounds_toArray, List.set_cons_zero, List.set_cons_succ]
              refine wpAnyH_name (fun u15 hu15 => ?_)
              have bu15 : Below w.heap.size w u15 := by rw [hu15.out]; exact (bu9.trans ((al_below _ _).mono bu9.size))
              have Tu15 : u15.heap[u9.heap.size]? = some (.cells x.cells.toArray 25 (0, 0)) := by rw [hu15.out]; exact heap_alloc_new _ _
              have Ou15 := own_below Ou9 (al_below u9 (.cells x.cells.toArray 25))
              rw [← hu15.out] at Ou15
              have Qu15 := Qu9.below (al_below u9 (.cells x.cells.toArray 25))
              rw [← hu15.out] at Qu15
              try have Iu15 : IO u15 w.heap.size (.slice a6 ml c6) (ends M) := by rw [hu15.out]; exact own_below Iu9 (al_below _ _)
              try have Ju15 : IO u15 w.heap.size (.slice ja (M.length + 1) jc) (ends (M ++ [x])) := by rw [hu15.out]; exact own_below Ju9 (al_below _ _)
              try have Ku15 := ((al_below u9 (.cells x.cells.toArray 25)).cell (World.block_lt_of_cell? _ _ Ku9)).trans Ku9
              try rw [← hu15.out] at Ku15
              refine wpAnyH_ready (rs := [4]) (by kernel_rfl) (by simp) ?_
              refine AllReadyH.cons (o := { dst := some 54, op := Op.call { callee := Callee.builtin Builtin.append, args := #[Operand.tmp 50, Operand.tmp 53], argTypes := #[66, 66] }, type := 66, pos := "own.go:26", after := #[{ on := 0, ground := Ground.data }, { on := 3, ground := Ground.data }], guard := none }) rfl (fun KK hKK => ?_) ?_
              · refine wp_append_i _ _ rfl w.heap.size _ (ends M) rfl Iu15 u0.heap.size (tl : Int) 1 rfl Ku15 (by rw [ends_len]; have := ML40.out; omega) bu15.size ?_
                intro v9 u16' i9 g9
                obtain ⟨ja, jc, rfl⟩ := own_shape i9
                rw [List.length_append, ends_len, List.length_singleton] at i9 ⊢
                refine hKK.out _ _ (bu15.grown g9 bu15.size (own_base Iu15)) (fun _ => ?_)
                clear hKK KK
                try simp only [Act.put, List.setIfInBounds_toArray, List.set_cons_zero, List.set_cons_succ]
                refine wpAnyH_name (fun u16 hu16 => ?_)
                have bu16 : Below w.heap.size w u16 := by rw [hu16.out]; exact (bu15.grown g9 bu15.size (own_base Iu15))
                rw [← hu16.out] at i9 g9
                have Ju16 : IO u16 w.heap.size (.slice ja (M.length + 1) jc) (ends (M ++ [x])) := by rw [ends_app, ← HSM.out]; exact i9
                have Ou16 := own_apart Iu15 Ou15 (by decide) g9
                have Qu16 : RQ u16 w.heap.size (.slice a7 ml c7) M := ⟨⟨own_apart Iu15 Qu15.1.1 (by decide) g9, Qu15.1.2⟩, Qu15.2⟩
                try have Tu16 := (g9.block _ (blk_lt Tu15) (fun e => own_ne Iu15 Tu15 (by decide) e.symm)).trans Tu15
                clear i9 g9
                refine wpAnyH_ready (rs := [11]) (by kernel_rfl) (by simp) ?_
                refine AllReadyH.cons (o := { dst := some 61, op := Op.call { callee := Callee.builtin Builtin.append, args := #[Operand.tmp 55, Operand.tmp 60], argTypes := #[39, 39] }, type := 39, pos := "own.go:26", after := #[{ on := 5, ground := Ground.data }, { on := 10, ground := Ground.data }, { on := 4, ground := Ground.chain }], guard := none }) rfl (fun KK hKK => ?_) ?_
                · refine wp_append_q _ _ rfl w.heap.size _ M rfl Qu16 u9.heap.size x 1 HXO.out rfl (blk_range Tu16) (by have := ML40.out; omega) bu16.size ?_
                  intro v8 u17' q8 g8
                  obtain ⟨qa, qc, rfl, -, -, -⟩ := q8.is.shape
                  rw [List.length_append, List.length_singleton] at q8 ⊢
                  refine hKK.out _ _ (bu16.grown g8 bu16.size (own_base Qu16.1.1)) (fun _ => ?_)
                  clear hKK KK
                  try simp only [Act.put, List.setIfInBounds_toArray, List.set_cons_zero, List.set_cons_succ]
                  refine wpAnyH_name (fun u17 hu17 => ?_)
                  have bu17 : Below w.heap.size w u17 := by rw [hu17.out]; exact (bu16.grown g8 bu16.size (own_base Qu16.1.1))
                  rw [← hu17.out] at q8 g8
                  have Ju17 : IO u17 w.heap.size (.slice ja (M.length + 1) jc) (ends (M ++ [x])) := own_apart Qu16.1.1 Ju16 (by decide) g8
                  have Ou17 := own_apart Qu16.1.1 Ou16 (by decide) g8
                  have Zu17 : RQ u17 w.heap.size (.slice qa (M.length + 1) qc) (M ++ [x]) := q8
                  clear q8 g8
                  refine wpAnyH_take (i := 12) (oi := { dst := some 6, op := Op.assign (Operand.tmp 54), type := 66, pos := "own.go:26", after := #[{ on := 4, ground := Ground.data }, { on := 11, ground := Ground.chain }, { on := 0, ground := Ground.phase }, { on := 1, ground := Ground.phase }, { on := 2, ground := Ground.phase }, { on := 3, ground := Ground.phase }, { on := 4, ground := Ground.phase }, { on := 5, ground := Ground.textOnly Departure.lateStores }, { on := 6, ground := Ground.textOnly Departure.lateStores }, { on := 7, ground := Ground.textOnly Departure.lateStores }, { on := 8, ground := Ground.textOnly Departure.lateStores }, { on := 9, ground := Ground.textOnly Departure.lateStores }, { on := 10, ground := Ground.textOnly Departure.lateStores }, { on := 11, ground := Ground.textOnly Departure.lateStoresUnsure }], guard := none }) (v := ?vr18) rfl (by kernel_rfl) (by kernel_rfl) (by kernel_rfl) (fun _ _ _ h => h) (Or.inl ⟨by rfl, ?yr18⟩) bu17 ?rr18
                  case yr18 => (intro w hSw; go_simp; try with_reducible rfl)
                  try simp only [Act.put, List.setIfInBounds_toArray, List.set_cons_zero, List.set_cons_succ]
                  refine wpAnyH_take (i := 13) (oi := { dst := some 7, op := Op.assign (Operand.tmp 61), type := 39, pos := "own.go:26", after := #[{ on := 11, ground := Ground.data }, { on := 12, ground := Ground.chain }, { on := 0, ground := Ground.phase }, { on := 1, ground := Ground.phase }, { on := 2, ground := Ground.phase }, { on := 3, ground := Ground.phase }, { on := 4, ground := Ground.phase }, { on := 5, ground := Ground.phase }, { on := 6, ground := Ground.phase }, { on := 7, ground := Ground.phase }, { on := 8, ground := Ground.phase }, { on := 9, ground := Ground.phase }, { on := 10, ground := Ground.phase }, { on := 11, ground := Ground.phase }, { on := 12, ground := Ground.phase }], guard := none }) (v := ?vr19) rfl (by kernel_rfl) (by kernel_rfl) (by kernel_rfl) (fun _ _ _ h => h) (Or.inl ⟨by rfl, ?yr19⟩) bu17 ?rr19
                  case yr19 => (intro w hSw; go_simp; try with_reducible rfl)
                  try simp only [Act.put, List.setIfInBounds_toArray, List.set_cons_zero, List.set_cons_succ]
                  refine wpAnyH_done (by kernel_rfl) ?_ _
                  have HZ : Hid (BL w (md L (j + 1)) (.slice a3 tl c3) (.slice ja (M.length + 1) jc) (.slice qa (M.length + 1) qc) u17) := by unfold Hid; rw [HM1.out]; exact ⟨Ou17, Ju17, Zu17, bu17⟩
                  clear FX HE3 HQ3 HO3
                  go_wp2
                  go_roundw
                  case rel => exact ⟨j + 1, by omega, by go_num, HZ.out⟩
                  case measure => simp [intOf]; omega
                exact AllReadyH.nil
              exact AllReadyH.nil
            exact AllReadyH.nil
          refine AllReadyH.cons (o := { dst := some 60, op := Op.buildSlice 39 1 #[(0, Operand.tmp 59)], type := 39, pos := "own.go:26", after := #[{ on := 9, ground := Ground.data }], guard := none }) rfl (fun KK hKK => ?_) ?_
          · refine wp_bsQ _ rfl x HXO.out rfl ?_
            refine hKK.out _ _ (bu0.trans ((al_below _ _).mono bu0.size)) (fun _ => ?_)
            clear hKK KK
            try simp only [Act.put, List.setIfInBounds_toArray, List.set_cons_zero, List.set_cons_succ]
            refine wpAnyH_name (fun u20 hu20 => ?_)
            have bu20 : Below w.heap.size w u20 := by rw [hu20.out]; exact (bu0.trans ((al_below _ _).mono bu0.size))
            have Tu20 : u20.heap[u0.heap.size]? = some (.cells x.cells.toArray 25 (0, 0)) := by rw [hu20.out]; exact heap_alloc_new _ _
            have Ou20 := own_below Ou0 (al_below u0 (.cells x.cells.toArray 25))
            rw [← hu20.out] at Ou20
            have Qu20 := Qu0.below (al_below u0 (.cells x.cells.toArray 25))
            rw [← hu20.out] at Qu20
            try have Iu20 : IO u20 w.heap.size (.slice a6 ml c6) (ends M) := by rw [hu20.out]; exact own_below Iu0 (al_below _ _)
            try have Ju20 : IO u20 w.heap.size (.slice ja (M.length + 1) jc) (ends (M ++ [x])) := by rw [hu20.out]; exact own_below Ju0 (al_below _ _)
            try have Ku20 := ((al_below u0 (.cells x.cells.toArray 25)).cell (World.block_lt_of_cell? _ _ Ku0)).trans Ku0
            try rw [← hu20.out] at Ku20
            refine wpAnyH_ready (rs := [3]) (by kernel_rfl) (by simp) ?_
            refine AllReadyH.cons (o := { dst := some 53, op := Op.buildSlice 66 1 #[(0, Operand.tmp 52)], type := 66, pos := "own.go:26", after := #[{ on := 2, ground := Ground.data }], guard := none }) rfl (fun KK hKK => ?_) ?_
            · have Ku21 : (u20.alloc (.cells #[.int .i64 (tl : Int)] 3)).cell? ⟨u20.heap.size, 0, none⟩ = some (.int .i64 (tl : Int)) := by rw [World.cell?_alloc_at _ _ _ _ rfl]; rfl
              go_simp
              refine hKK.out _ _ (bu20.trans ((al_below _ _).mono bu20.size)) (fun _ => ?_)
              clear hKK KK
              try simp only [Act.put, List.setIfInBounds_toArray, List.set_cons_zero, List.set_cons_succ]
              refine wpAnyH_name (fun u21 hu21 => ?_)
              have bu21 : Below w.heap.size w u21 := by rw [hu21.out]; exact (bu20.trans ((al_below _ _).mono bu20.size))
              rw [← hu21.out] at Ku21
              have Ou21 := own_below Ou20 (al_below u20 (.cells #[.int .i64 (tl : Int)] 3))
              rw [← hu21.out] at Ou21
              have Iu21 : IO u21 w.heap.size (.slice a6 ml c6) (ends M) := by rw [hu21.out]; exact own_below Iu20 (al_below _ _)
              have Qu21 := Qu20.below (al_below u20 (.cells #[.int .i64 (tl : Int)] 3))
              rw [← hu21.out] at Qu21
              try have Tu21 := blk_kept Tu20 (al_below u20 (.cells #[.int .i64 (tl : Int)] 3)) (blk_lt Tu20)
              try rw [← hu21.out] at Tu21
              refine wpAnyH_ready (rs := [4]) (by kernel_rfl) (by simp) ?_
              refine AllReadyH.cons (o := { dst := some 54, op := Op.call { callee := Callee.builtin Builtin.append, args := #[Operand.tmp 50, Operand.tmp 53], argTypes := #[66, 66] }, type := 66, pos := "own.go:26", after := #[{ on := 0, ground := Ground.data }, { on := 3, ground := Ground.data }], guard := none }) rfl (fun KK hKK => ?_) ?_
              · refine wp_append_i _ _ rfl w.heap.size _ (ends M) rfl Iu21 u20.heap.size (tl : Int) 1 rfl Ku21 (by rw [ends_len]; have := ML40.out; omega) bu21.size ?_
                intro v9 u22' i9 g9
                obtain ⟨ja, jc, rfl⟩ := own_shape i9
                rw [List.length_append, ends_len, List.length_singleton] at i9 ⊢
                refine hKK.out _ _ (bu21.grown g9 bu21.size (own_base Iu21)) (fun _ => ?_)
                clear hKK KK
                try simp only [Act.put, List.setIfInBounds_toArray, List.set_cons_zero, List.set_cons_succ]
                refine wpAnyH_name (fun u22 hu22 => ?_)
                have bu22 : Below w.heap.size w u22 := by rw [hu22.out]; exact (bu21.grown g9 bu21.size (own_base Iu21))
                rw [← hu22.out] at i9 g9
                have Ju22 : IO u22 w.heap.size (.slice ja (M.length + 1) jc) (ends (M ++ [x])) := by rw [ends_app, ← HSM.out]; exact i9
                have Ou22 := own_apart Iu21 Ou21 (by decide) g9
                have Qu22 : RQ u22 w.heap.size (.slice a7 ml c7) M := ⟨⟨own_apart Iu21 Qu21.1.1 (by decide) g9, Qu21.1.2⟩, Qu21.2⟩
                try have Tu22 := (g9.block _ (blk_lt Tu21) (fun e => own_ne Iu21 Tu21 (by decide) e.symm)).trans Tu21
                clear i9 g9
                refine wpAnyH_ready (rs := [11]) (by kernel_rfl) (by simp) ?_
                refine AllReadyH.cons (o := { dst := some 61, op := Op.call { callee := Callee.builtin Builtin.append, args := #[Operand.tmp 55, Operand.tmp 60], argTypes := #[39, 39] }, type := 39, pos := "own.go:26", after := #[{ on := 5, ground := Ground.data }, { on := 10, ground := Ground.data }, { on := 4, ground := Ground.chain }], guard := none }) rfl (fun KK hKK => ?_) ?_
                · refine wp_append_q _ _ rfl w.heap.size _ M rfl Qu22 u0.heap.size x 1 HXO.out rfl (blk_range Tu22) (by have := ML40.out; omega) bu22.size ?_
                  intro v8 u23' q8 g8
                  obtain ⟨qa, qc, rfl, -, -, -⟩ := q8.is.shape
                  rw [List.length_append, List.length_singleton] at q8 ⊢
                  refine hKK.out _ _ (bu22.grown g8 bu22.size (own_base Qu22.1.1)) (fun _ => ?_)
                  clear hKK KK
                  try simp only [Act.put, List.setIfInBounds_toArray, List.set_cons_zero, List.set_cons_succ]
                  refine wpAnyH_name (fun u23 hu23 => ?_)
                  have bu23 : Below w.heap.size w u23 := by rw [hu23.out]; exact (bu22.grown g8 bu22.size (own_base Qu22.1.1))
                  rw [← hu23.out] at q8 g8
                  have Ju23 : IO u23 w.heap.size (.slice ja (M.length + 1) jc) (ends (M ++ [x])) := own_apart Qu22.1.1 Ju22 (by decide) g8
                  have Ou23 := own_apart Qu22.1.1 Ou22 (by decide) g8
                  have Zu23 : RQ u23 w.heap.size (.slice qa (M.length + 1) qc) (M ++ [x]) := q8
                  clear q8 g8
                  refine wpAnyH_take (i := 12) (oi := { dst := some 6, op := Op.assign (Operand.tmp 54), type := 66, pos := "own.go:26", after := #[{ on := 4, ground := Ground.data }, { on := 11, ground := Ground.chain }, { on := 0, ground := Ground.phase }, { on := 1, ground := Ground.phase }, { on := 2, ground := Ground.phase }, { on := 3, ground := Ground.phase }, { on := 4, ground := Ground.phase }, { on := 5, ground := Ground.textOnly Departure.lateStores }, { on := 6, ground := Ground.textOnly Departure.lateStores }, { on := 7, ground := Ground.textOnly Departure.lateStores }, { on := 8, ground := Ground.textOnly Departure.lateStores }, { on := 9, ground := Ground.textOnly Departure.lateStores }, { on := 10, ground := Ground.textOnly Departure.lateStores }, { on := 11, ground := Ground.textOnly Departure.lateStoresUnsure }], guard := none }) (v := ?vr24) rfl (by kernel_rfl) (by kernel_rfl) (by kernel_rfl) (fun _ _ _ h => h) (Or.inl ⟨by rfl, ?yr24⟩) bu23 ?rr24
                  case yr24 => (intro w hSw; go_simp; try with_reducible rfl)
                  try simp only [Act.put, List.setIfInBounds_toArray, List.set_cons_zero, List.set_cons_succ]
                  refine wpAnyH_take (i := 13) (oi := { dst := some 7, op := Op.assign (Operand.tmp 61), type := 39, pos := "own.go:26", after := #[{ on := 11, ground := Ground.data }, { on := 12, ground := Ground.chain }, { on := 0, ground := Ground.phase }, { on := 1, ground := Ground.phase }, { on := 2, ground := Ground.phase }, { on := 3, ground := Ground.phase }, { on := 4, ground := Ground.phase }, { on := 5, ground := Ground.phase }, { on := 6, ground := Ground.phase }, { on := 7, ground := Ground.phase }, { on := 8, ground := Ground.phase }, { on := 9, ground := Ground.phase }, { on := 10, ground := Ground.phase }, { on := 11, ground := Ground.phase }, { on := 12, ground := Ground.phase }], guard := none }) (v := ?vr25) rfl (by kernel_rfl) (by kernel_rfl) (by kernel_rfl) (fun _ _ _ h => h) (Or.inl ⟨by rfl, ?yr25⟩) bu23 ?rr25
                  case yr25 => (intro w hSw; go_simp; try with_reducible rfl)
                  try simp only [Act.put, List.setIfInBounds_toArray, List.set_cons_zero, List.set_cons_succ]
                  refine wpAnyH_done (by kernel_rfl) ?_ _
                  have HZ : Hid (BL w (md L (j + 1)) (.slice a3 tl c3) (.slice ja (M.length + 1) jc) (.slice qa (M.length + 1) qc) u23) := by unfold Hid; rw [HM1.out]; exact ⟨Ou23, Ju23, Zu23, bu23⟩
                  clear FX HE3 HQ3 HO3
                  go_wp2
                  go_roundw
                  case rel => exact ⟨j + 1, by omega, by go_num, HZ.out⟩
                  case measure => simp [intOf]; omega
                exact AllReadyH.nil
              exact AllReadyH.nil
            exact AllReadyH.nil
          exact AllReadyH.nil
        · have dck : (rck x != 0) = true := by simpa using hck
          have HZ : Hid (BL w (md L (j + 1)) (.slice a5 pl c5) (.slice a6 ml c6) (.slice a7 ml c7) w2) := by unfold Hid; rw [HMD.out, if_neg hck]; exact L2.out
          generalize rck x = k at *
          clear hck L2 S2
          go_wp2
          go_roundw
          case rel => exact ⟨j + 1, by omega, by go_num, HZ.out⟩
          case measure => simp [intOf]; omega
    · obtain rfl : j = n := by omega
      have OM := HOM.out
      have SP := scn_puts OM
      have BP := puts_bts OM
      have hpl : (puts (md L j)).length ≤ 8400 := by have := HPL.out; have := HML.out; omega
      have HL40 : Hid ((md L j).length ≤ 40) := by unfold Hid; have := HML.out; omega
      have sl := sl_owned HL0.out.b BP
      have cs := scan_any _ (puts (md L j)) wr sl (HTB.out.kept HB.out) (by omega)
      rw [SP] at cs
      have CUT : Hid (∀ k, k ≤ (puts (md L j)).length → ∀ W, Below w.heap.size w W → Sl W (.slice a5 (puts (md L j)).length c5) (puts (md L j)) → Calls Tryd.prog 20 #[.slice a5 k c5] W fun e w' => ∃ v', e = .returned (.tuple #[v', .int .i64 ((puts ((md L j).take (whole (md L j) k))).length : Nat), .int .i64 (if (puts ((md L j).take (whole (md L j) k))).length = k then 0 else 3)]) ∧ RR w' W.heap.size v' ((md L j).take (whole (md L j) k)) ∧ Below W.heap.size W w') := fun k hk W hb hs => by
        have st := hs.take k hk
        have := scan_any _ _ W st (HTB.out.kept hb) (by rw [List.length_take]; omega)
        rw [scn_cut _ k OM hk] at this
        exact this
      have WI := fun k => whole_iff (md L j) k
      have WL := fun k => whole_le (md L j) k
      have EA := ends_at (md L j)
      have HSL : Hid (Sl wr (.slice a5 (puts (md L j)).length c5) (puts (md L j))) := sl
      clear sl SP BP HRS HOK OM
      generalize md L j = M at *
      obtain ⟨pl, hpl'⟩ : ∃ pl, pl = (puts M).length := ⟨_, rfl⟩
      have HPN : Hid (pl = (puts M).length) := hpl'
      obtain ⟨ml, hml⟩ : ∃ ml, ml = M.length := ⟨_, rfl⟩
      have HMN : Hid (ml = M.length) := hml
      rw [← hpl'] at cs CUT HSL HL0 hpl ⊢
      rw [← hml] at HL0 HL40 ⊢
      clear hpl' hml HML HPL
      obtain ⟨kk, hkk⟩ : ∃ kk : Nat, kk = ct.toNat % (pl + 1) := ⟨_, rfl⟩
      have hkl : kk ≤ pl := by rw [hkk]; have := Nat.mod_lt ct.toNat (show 0 < pl + 1 by omega); omega
      have hrem : Int.tmod ct ((pl : Int) + 1) = (kk : Int) := by
        have e : ct = ((ct.toNat : Nat) : Int) := by omega
        rw [e, show ((pl : Int) + 1) = ((pl + 1 : Nat) : Int) by omega, ← Int.ofNat_tmod, hkk]
      have hrem2 : ct % ((pl : Int) + 1) = (kk : Int) := by
        have e : ct = ((ct.toNat : Nat) : Int) := by omega
        rw [e, show ((pl : Int) + 1) = ((pl + 1 : Nat) : Int) by omega, hkk]
        omega
      have y1 : IntKind.i64.wrap ((pl : Int) + 1) = (pl : Int) + 1 := by rw [IntKind.wrap_i64]; omega
      have y1' : wrap64 ((pl : Int) + 1) = (pl : Int) + 1 := by unfold wrap64; omega
      have y2 : IntKind.i64.wrap ct = ct := by rw [IntKind.wrap_i64]; omega
      have y2' : wrap64 ct = ct := by unfold wrap64; omega
      have y3 : ¬ (pl : Int) + 1 = 0 := by omega
      have dn : ((pl : Int) != (pl : Int)) = false := by simp
      have m40 : ml ≤ 40 := HL40.out
      clear hkk
      go_wp2_with fail
      refine cs.mono ?_
      rintro e w2 ⟨v2, rfl, r2, b2⟩
      have L2 : Hid (BL w M (.slice a5 pl c5) (.slice a6 ml c6) (.slice a7 ml c7) w2) := HL0.out.kept b2
      have S2 : Hid (Sl w2 (.slice a5 pl c5) (puts M)) := HSL.out.kept b2
      have cm := sameR_any v2 _ M w2 r2.is L2.out.m.is (by have := HMN.out; omega)
      obtain ⟨a2, c2, rfl, -, -, -⟩ := r2.is.shape
      rw [← HMN.out] at cm ⊢
      clear cs r2 b2 HL0 HSL HB
      go_wp2_with fail
      refine cm.mono ?_
      rintro e w3 ⟨rfl, b3⟩
      have L3 : Hid (BL w M (.slice a5 pl c5) (.slice a6 ml c6) (.slice a7 ml c7) w3) := L2.out.kept b3
      have S3 : Hid (Sl w3 (.slice a5 pl c5) (puts M)) := S2.out.kept b3
      clear cm b3 L2 S2
      go_wp2_with fail
      obtain ⟨WW, hWW⟩ : ∃ WW, WW = whole M kk := ⟨_, rfl⟩
      have HWW : Hid (WW = whole M kk) := hWW
      have HWL : Hid (WW ≤ ml) := by unfold Hid; rw [hWW, HMN.out]; exact WL kk
      have HWI : Hid (∀ i, i < ml → ((ends M).getD i 0 ≤ (kk : Int) ↔ i + 1 ≤ WW)) := fun i hi => by
        rw [EA i (by rw [← HMN.out]; exact hi), hWW]
        have := WI kk i (by rw [← HMN.out]; exact hi)
        omega
      have HEA : Hid (∀ i, i < ml → (ends M).getD i 0 = ((puts (M.take (i + 1))).length : Int)) := fun i hi => EA i (by rw [← HMN.out]; exact hi)
      clear hWW WI WL EA
      clear hrem hrem2 y1 y1' y2 y2' y3 dn ctb
      go_loopw [15, 16, 17] (fun s15 s16 s17 wq => ∃ i : Nat, i ≤ ml ∧ s17 = .int .i64 i ∧ s15 = .int .i64 ((min i WW : Nat) : Int) ∧ s16 = .int .i64 ((puts (M.take (min i WW))).length : Int) ∧ Below w3.heap.size w3 wq) (fun _ _ z _ => ml - (intOf z).toNat)
      case atStart => exact ⟨0, by omega, rfl, by simp, by simp [puts], Below.refl _ _⟩
      case round =>
        obtain ⟨i, hi, rfl, rfl, rfl, hbq⟩ := hrel
        have HQ : Hid (Below w3.heap.size w3 wr) := hbq
        have LQ : Hid (BL w M (.slice a5 pl c5) (.slice a6 ml c6) (.slice a7 ml c7) wr) := L3.out.kept hbq
        have SQ : Hid (Sl wr (.slice a5 pl c5) (puts M)) := S3.out.kept hbq
        clear hbq
        by_cases hli : i < ml
        · have li2 : (i : Int) < (ml : Int) := by omega
          have li0 : (0 : Int) ≤ (i : Int) := by omega
          obtain ⟨eg, rfl, ce⟩ := LQ.out.e.at i (by rw [ends_len, ← HMN.out]; exact hli)
          have wi := HWI.out i hli
          have ea := HEA.out i hli
          have q1 : IntKind.i64.wrap ((i : Int) + 1) = ((i + 1 : Nat) : Int) := by rw [IntKind.wrap_i64]; omega
          have q1' : wrap64 ((i : Int) + 1) = ((i + 1 : Nat) : Int) := by unfold wrap64; omega
          generalize (ends M).getD i 0 = ei at *
          by_cases hle : ei ≤ (kk : Int)
          · have hw1 := wi.1 hle
            have dl2 : decide (ei ≤ (kk : Int)) = true := by simpa using hle
            have HZ1 : Hid (((min (i + 1) WW : Nat) : Int) = ((i + 1 : Nat) : Int)) := by unfold Hid; rw [Nat.min_eq_left hw1]
            have HZ2 : Hid (((puts (M.take (min (i + 1) WW))).length : Int) = ei) := by unfold Hid; rw [Nat.min_eq_left hw1, ea]
            clear wi ea
            go_wp2_with fail
            go_quiet (fail)
            have BD : Hid (Below w3.heap.size w3 (wr.drewN nq)) := ⟨HQ.out.os, HQ.out.tape, HQ.out.output, HQ.out.size, HQ.out.block⟩
            generalize wr.drewN nq = DW at *
            go_wp2
            go_roundw
            case rel => exact ⟨i + 1, by omega, by first | rfl | go_num, by rw [HZ1.out]; first | rfl | (congr 1; push_cast; rfl) | go_num, by rw [HZ2.out], BD.out⟩
            case measure => simp [intOf]; omega
          · have hw1 : ¬ i + 1 ≤ WW := fun q => hle (wi.2 q)
            have dl2 : decide (ei ≤ (kk : Int)) = false := by simpa using hle
            have hwi : WW ≤ i := Nat.le_of_lt_succ (Nat.lt_of_not_le hw1)
            have HZ1 : Hid (min (i + 1) WW = min i WW) := (Nat.min_eq_right (Nat.le_succ_of_le hwi)).trans (Nat.min_eq_right hwi).symm
            clear hwi hw1
            clear wi ea
            go_wp2
            go_roundw
            case rel => exact ⟨i + 1, by omega, by first | rfl | go_num, by rw [HZ1.out], by rw [HZ1.out], HQ.out⟩
            case measure => simp [intOf]; omega
        · obtain rfl : i = ml := by omega
          have hmin : min i WW = WW := Nat.min_eq_right HWL.out
          rw [hmin]
          have cc := CUT.out kk hkl wr LQ.out.bel SQ.out
          rw [← HWW.out] at cc
          have k1 : (kk : Int) ≤ (c5 : Int) := by
            obtain ⟨_, _, e9, h9, _⟩ := SQ.out
            cases e9
            have h10 : kk ≤ c5 := Nat.le_trans hkl (by rw [HPN.out]; exact h9)
            exact Int.ofNat_le.2 h10
          have k0 : (0 : Int) ≤ (kk : Int) := Int.natCast_nonneg _
          have w1' : (WW : Int) ≤ (c7 : Int) := by
            have h9 := LQ.out.m.is.1
            obtain ⟨_, _, e9, h8, _⟩ := h9
            cases e9
            rw [List.length_map] at h8
            exact Int.ofNat_le.2 (Nat.le_trans HWL.out (by rw [HMN.out]; exact h8))
          have w0' : (0 : Int) ≤ (WW : Int) := Int.natCast_nonneg _
          clear hmin CUT HWI HEA HQ
          obtain ⟨al, hal⟩ : ∃ al, al = (puts (M.take WW)).length := ⟨_, rfl⟩
          rw [← hal] at cc ⊢
          clear hal
          go_wp2_with fail
          refine cc.mono ?_
          rintro e w5 ⟨v5, rfl, r5, b5⟩
          have L5 := LQ.out.kept b5
          have mt : RS w5 (.slice a7 WW c7) (M.take WW) := L5.m.is.take WW HWL.out
          have cm := sameR_any v5 _ (M.take WW) w5 r5.is mt (by rw [List.length_take]; exact Nat.le_trans (Nat.min_le_right _ _) (by rw [← HMN.out]; exact Nat.le_trans m40 (by decide)))
          have B5 : Hid (Below w.heap.size w w5) := L5.bel
          obtain ⟨a9, c9, rfl, -, -, -⟩ := r5.is.shape
          clear cc r5 b5 L5 mt LQ SQ
          generalize (M.take WW).length = tl9 at *
          by_cases hk9 : al = kk
          · rw [if_pos hk9]
            have d9 : ((al : Int) == (kk : Int)) = true := by rw [hk9]; simp
            clear hk9
            go_wp2_with fail
            refine cm.mono ?_
            rintro e w6 ⟨rfl, b6⟩
            have B6 : Hid (Below w.heap.size w w6) := B5.out.trans (b6.mono B5.out.size)
            have aw := HAW.out w6 B6.out
            clear cm b6 HAW
            go_wp2_with fail
            refine aw.mono ?_
            rintro e w7 ⟨rfl, b7⟩
            have B7 : Hid (Below w.heap.size w w7) := B6.out.trans (b7.mono B6.out.size)
            clear aw b7
            go_wp2
            go_ret
            exact ⟨rfl, B7.out⟩
          · rw [if_neg hk9]
            have d9 : ((al : Int) == (kk : Int)) = false := by rw [beq_eq_false_iff_ne]; intro q; exact hk9 (Int.ofNat_inj.1 q)
            clear hk9
            go_wp2_with fail
            refine cm.mono ?_
            rintro e w6 ⟨rfl, b6⟩
            have B6 : Hid (Below w.heap.size w w6) := B5.out.trans (b6.mono B5.out.size)
            have aw := HAW.out w6 B6.out
            clear cm b6 HAW
            go_wp2_with fail
            refine aw.mono ?_
            rintro e w7 ⟨rfl, b7⟩
            have B7 : Hid (Below w.heap.size w w7) := B6.out.trans (b7.mono B6.out.size)
            clear aw b7
            go_wp2
            go_ret
            exact ⟨rfl, B7.out⟩

theorem contract (H : Type) (enc : TypeId × Value → H) (W : World) (base : Nat) (args : Array Value) (ds gs : List (DataW H)) (before : List MemPlace)
    (hval : ∀ (j : Nat) t v, Tryd.f5.params[j]? = some t → args[j]? = some v → Value.okWide Tryd.prog W .any base t v)
    (hW : DataW.Whole enc Tryd.prog Tryd.f5.params.toList Rows.recordBackSpec.vars false W args.toList ds gs before) (hL : laidMetH Tryd.prog Rows.recordBackRow.laid W) (hsh : W.ShapedOpen Tryd.prog)
    (hsz0 : (DataW.weightsEach Tryd.prog (Tryd.f5.params.toList ++ Rows.recordBackSpec.plain.varTypes Tryd.prog) (ds ++ gs)).all (· ≤ reachBytes) = true) :
    Calls Tryd.prog 5 args W fun e W' => ∃ v, e = .returned v ∧ Rows.recordBackSpec.post enc Tryd.prog Tryd.f5 false true false false W args v W' := by
  have hW' := hW
  obtain ⟨p, q, hA0, hV, rfl, hfz, hnd⟩ := hW
  have hA : DataW.TrodAll enc Tryd.prog W 0 (fun _ => true) true Tryd.f5.params.toList args.toList ds p := hA0
  rw [Tryd.params5] at hA hval hsz0
  obtain ⟨v0, vs0, d0, ds0, p0, q0, hargs, rfl, rfl, h0, r0⟩ := trodAll_cons hA
  obtain ⟨v1, vs1, d1, ds1, p1, q1, rfl, rfl, rfl, h1, r1⟩ := trodAll_cons r0
  obtain ⟨rfl, rfl, rfl⟩ := trodAll_nil r1
  obtain rfl : args = #[v0, v1] := by cases args; simp_all
  obtain ⟨rfl, rfl⟩ := trodVars_none hV
  have k0 := h0
  have lt0 : ∀ x ∈ p0, x.block < W.heap.size := by obtain ⟨m, hm⟩ := k0; exact DataW.trod_lt m _ _ _ hm
  obtain ⟨L0, w0⟩ := recs_in (hval 0 39 v0 rfl rfl) h0
  obtain ⟨a1, rfl, rfl, rfl, w1⟩ := open_int Tryd.underlying65 (hval 1 65 v1 rfl rfl) h1
  clear hA0
  refine (walk v0 L0 a1 W (tb_of hL hsh) w0 w1).mono fun e W' ⟨he, bel⟩ => ?_
  subst he
  exact ⟨_, rfl, _, _, _, [], _, [], hW', trodAll_mk1 (shut_bool Tryd.underlying4 _), (trodAll_cons_mk (Below.trod laidOut (by kernel_rfl) (of_decide_eq_true (by kernel_rfl)) k0 bel lt0) (trodAll_cons_mk (shut_int Tryd.underlying65 w1) trodAll_mk0)), rfl, bel.frame _, fun h => by cases h⟩

theorem laid_met (os : Os) : laidMet Tryd.prog Rows.recordBackRow.laid (({ World.holding Tryd.prog os ⟨#[], #[], []⟩ with heap := ((((((World.holding Tryd.prog os ⟨#[], #[], []⟩).heap.modify 0 (fun
      | .cells _ t frozen => .cells #[.int .i64 1, .int .i64 2, .int .i64 4, .int .i64 8] t frozen
      | o => o)).modify 1 (fun
      | .cells _ t frozen => .cells halfCells t frozen
      | o => o)).modify 2 (fun
      | .cells _ t frozen => .cells #[.int .i64 0] t frozen
      | o => o)).modify 3 (fun
      | .cells _ t frozen => .cells firstCells t frozen
      | o => o)).modify 4 (fun
      | .cells _ t frozen => .cells rangeCells t frozen
      | o => o)) } : World).forCall (fun _ _ => 0) ⟨#[], #[.slice none 0 0, .int .u16 0], []⟩).memory :=
  laidMet_of_run' 8 (by kernel_rfl) (by kernel_rfl)
theorem reads (os : Os) {H : Type} (enc : TypeId × Value → H) : ∃ places, DataW.whole enc Tryd.prog (({ World.holding Tryd.prog os ⟨#[], #[], []⟩ with heap := ((((((World.holding Tryd.prog os ⟨#[], #[], []⟩).heap.modify 0 (fun
      | .cells _ t frozen => .cells #[.int .i64 1, .int .i64 2, .int .i64 4, .int .i64 8] t frozen
      | o => o)).modify 1 (fun
      | .cells _ t frozen => .cells halfCells t frozen
      | o => o)).modify 2 (fun
      | .cells _ t frozen => .cells #[.int .i64 0] t frozen
      | o => o)).modify 3 (fun
      | .cells _ t frozen => .cells firstCells t frozen
      | o => o)).modify 4 (fun
      | .cells _ t frozen => .cells rangeCells t frozen
      | o => o)) } : World).forCall (fun _ _ => 0) ⟨#[], #[.slice none 0 0, .int .u16 0], []⟩).memory Tryd.f5.params.toList Rows.recordBackSpec.vars false #[Value.slice none 0 0, .int .u16 0].toList 8 = some ([.nil, .lit (.int .u16 0)], [], places) :=
  ⟨[], by kernel_rfl⟩

set_option maxRecDepth 100000 in
theorem lifted (os : Os) (started : os.Started) (H : Type) (enc : TypeId × Value → H) (F : Stop.Interp) :
    ReturnsInHanded {} Tryd.checked os 5 .any ((OpenSpec.ofChange Rows.recordBackSpec).preRow enc Tryd.prog Tryd.f5 Rows.recordBackRow.domain false Rows.recordBackRow.laid) (((OpenSpec.ofChange Rows.recordBackSpec).at F).post enc Tryd.prog Tryd.f5 false true false false) := by
  obtain ⟨places, hx⟩ := reads os enc
  refine returnsInHanded_of_row (C := Tryd.checked) (s := OpenSpec.ofChange Rows.recordBackSpec) own started (by kernel_rfl) Tryd.func5
    (witness_row_at (enc := enc) (C := Tryd.checked) false ({ World.holding Tryd.prog os ⟨#[], #[], []⟩ with heap := ((((((World.holding Tryd.prog os ⟨#[], #[], []⟩).heap.modify 0 (fun
      | .cells _ t frozen => .cells #[.int .i64 1, .int .i64 2, .int .i64 4, .int .i64 8] t frozen
      | o => o)).modify 1 (fun
      | .cells _ t frozen => .cells halfCells t frozen
      | o => o)).modify 2 (fun
      | .cells _ t frozen => .cells #[.int .i64 0] t frozen
      | o => o)).modify 3 (fun
      | .cells _ t frozen => .cells firstCells t frozen
      | o => o)).modify 4 (fun
      | .cells _ t frozen => .cells rangeCells t frozen
      | o => o)) } : World) #[.slice none 0 0, .int .u16 0] rfl (by kernel_rfl) (by kernel_rfl) (by kernel_rfl)
      (OpenSpec.preRow_of_cond 8 hx (by kernel_rfl) (fun k hk => by cases hk) (by kernel_rfl) (laid_met os))) ?_
  intro W base args ds gs before hval hW _ _ hsz hL hsh _
  exact contract H enc W base args ds gs before hval hW hL hsh hsz

theorem said : Rows.RecordBackSaid :=
  OpenClaim.holds_of_cond 5 Tryd.f5 rfl rfl rfl rfl rfl rfl rfl ⟨rfl, rfl, rfl, rfl, rfl⟩ rfl rfl rfl rfl rfl (by kernel_rfl) Tryd.func5 (by kernel_rfl)
    (of_decide_eq_true (by kernel_rfl)) (by unfold Func.isWrapper; first | (rw [if_pos (by decide +kernel)]; kernel_rfl) | (rw [if_neg (by decide +kernel)]; exact ⟨rfl, rfl⟩))
    (fun os started H enc _ F => by rw [OpenClaim.pre_eq_preRow]; exact lifted os started H enc F)

theorem plain (f : FuncId) (fn : Func) (hf : Tryd.pinned.checked.prog.funcNamed "sumpter/sumpterlaw15.RecordBack" = some f) (hfn : Tryd.pinned.checked.prog.funcs[f]? = some fn) :
    false = Tryd.pinned.checked.prog.looks [] ∧ ∀ (j : Nat) t, fn.params[j]? = some t → Tryd.pinned.checked.prog.wantsStandIn t = false := by
  obtain rfl : f = 5 := Option.some.inj ((show Tryd.prog.funcNamed "sumpter/sumpterlaw15.RecordBack" = some 5 by kernel_rfl).symm.trans hf) |>.symm
  obtain rfl : fn = Tryd.f5 := (Option.some.inj (Tryd.func5.symm.trans hfn)).symm
  refine ⟨by kernel_rfl, fun j t ht => ?_⟩
  rw [Tryd.params5] at ht
  have hm : t ∈ [39, 65] := by simpa using Array.mem_of_getElem? ht
  have hall : ([39, 65].all fun u => !Tryd.prog.wantsStandIn u) = true := by kernel_rfl
  exact (show Tryd.prog.wantsStandIn t = false by simpa using List.all_eq_true.1 hall t hm)
end Go.Proofs.YtpkobpdiddjnpaaDoor.recordBack

namespace Go.Proofs.YtpkobpdiddjnpaaDoor
/-- The card of RecordBack. -/
theorem recordBack_card : Rows.RecordBackCardSaid :=
  Claim7.holds_tied_plain_at .later [] _ _ _ _ recordBack.said (fun _ h => by cases h) (by kernel_rfl) (fun _ h => by cases h) recordBack_row_tie rfl ⟨rfl, rfl⟩ (by kernel_rfl) rfl recordBack.plain (by kernel_rfl)
#print axioms recordBack_card
end Go.Proofs.YtpkobpdiddjnpaaDoor
