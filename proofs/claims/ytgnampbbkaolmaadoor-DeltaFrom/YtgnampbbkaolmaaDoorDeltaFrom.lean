/-
  DeltaFrom: what is left of operations makes what is left of what they make; where they make nothing that may be, nothing is told; old files of at most 3000 bytes, at most 60 operations of 3000 bytes, else the closed case alone is asked. It holds for every input of the row; varint's table of widths holds what its declaration lays when the call begins.
-/
import Derived.Test.YtgnampbbkaolmaaDoorFr
import Derived.Test.YtgnampbbkaolmaaDoorCm
namespace Go.Proofs.YtgnampbbkaolmaaDoor.deltaFrom
open Go.ChangeShapes Go.WideShapes Go.ChangeAt Go.RowKit Go.Deep Go.ChangeMaps
set_option maxRecDepth 100000

theorem byt_mem : ∀ (l : List Xp) (x : Xp), x ∈ l → x.d.length ≤ byt l
  | [], x, h => by cases h
  | y :: l, x, h => by
    have e : byt (y :: l) = y.d.length + byt l := by simp [byt]
    rcases List.mem_cons.1 h with rfl | h
    · omega
    · have := byt_mem l x h
      omega
theorem may_bounds {x : Xp} {old : Int} (h : mayX x old = true) (h0 : 0 ≤ old := by omega) : 0 ≤ x.a ∧ x.a ≤ old ∧ 0 ≤ x.n ∧ x.n ≤ old := by
  cases hc : x.c with
  | true => obtain ⟨-, h1, h2, h3, h4⟩ := (mayX_copy hc).1 h; omega
  | false => obtain ⟨-, h1, h2⟩ := (mayX_data hc).1 h; omega
set_option maxHeartbeats 8000000 in
theorem walk (v0 : Value) (old : List Int) (v1 : Value) (l : List Xp) (n : Int) (w : World) (hw : Fi.Wid w) (h0 : SlX w v0 old) (h1 : XS w v1 l) (hn : (Lit.int .u16 n).wf = true) :
    Calls Tryd.prog 6 #[v0, v1, .int .u16 n] w fun e w' => e = .returned (.bool true) ∧ Below w.heap.size w w' := by
  have s1 := bounds_u16 hn
  have CA : Hid (∀ W, Below w.heap.size w W → Calls Tryd.prog 9 #[] W fun e w' => e = .returned (.bool true) ∧ Below W.heap.size W w') := fun W hb => awake_any W (Wid.kept hw hb)
  obtain ⟨a0, c0, rfl, hc0, hm0, hn0, -⟩ := id h0.1
  obtain ⟨a1, c1, rfl, hc1, hm1, hn1⟩ := h1.shape
  have H0 : Hid (SlX w (.slice a0 old.length c0) old) := h0
  have H1 : Hid (XS w (.slice a1 l.length c1) l) := h1
  have CL := light_any _ l 60 3000 w h1 (by decide) (by decide)
  have CP : Hid (∀ W, Below w.heap.size w W → l.length ≤ 1000000 → Calls Tryd.prog 10 #[.slice a0 old.length c0, .slice a1 l.length c1] W fun e w' => ∃ v', e = .returned (.tuple #[v', .int .i64 (appX old l).2]) ∧ Ow w' W.heap.size v' (appX old l).1 ∧ Below W.heap.size W w') := fun W hb hl => apply_any _ _ old l W (h0.kept hb) (h1.kept hb) hl
  have CP2 : Hid (∀ W u m, Below w.heap.size w W → XS W u m → m.length ≤ 1000000 → Calls Tryd.prog 10 #[.slice a0 old.length c0, u] W fun e w' => ∃ v', e = .returned (.tuple #[v', .int .i64 (appX old m).2]) ∧ Ow w' W.heap.size v' (appX old m).1 ∧ Below W.heap.size W w') := fun W u m hb hu hl => apply_any _ _ old m W (h0.kept hb) hu hl
  have CF : Hid (∀ W k, Below w.heap.size w W → l.length ≤ 90000 → k ≤ 1099511627776 → (∀ x ∈ l, 0 ≤ x.a ∧ x.a ≤ 1099511627776 ∧ 0 ≤ x.n ∧ x.n ≤ 9223372036854775807 ∧ x.d.length ≤ 1000000000) → Calls Tryd.prog 23 #[.slice a1 l.length c1, .int .i64 k] W fun e w' => ∃ v', e = .returned v' ∧ OX w' W.heap.size v' (froX l k) ∧ Below W.heap.size W w') := fun W k hb hl hk hx => from_any _ l k W (h1.kept hb) hl hk hx
  obtain ⟨LO, hLO⟩ : ∃ LO, LO = old.length := ⟨_, rfl⟩
  obtain ⟨LL, hLL⟩ : ∃ LL, LL = l.length := ⟨_, rfl⟩
  have HLO : Hid (LO = old.length) := hLO
  have HLL : Hid (LL = l.length) := hLL
  rw [← hLO] at H0 CP CP2 hc0 ⊢
  rw [← hLL] at H1 CL CP CF hc1 ⊢
  unfold maxLen at hm0 hm1
  clear h0 h1 hw hn hLO hLL hn0 hn1
  by_cases h3 : 3000 < LO
  · have h4 : 3000 < (LO : Int) := by omega
    have ca := CA.out w (Below.refl _ _)
    go_enter Tryd.func6, Tryd.ntmps6
    go_wp2_with fail
    refine ca.mono ?_
    rintro e wz ⟨rfl, bz⟩
    have BZ : Hid (Below w.heap.size w wz) := bz
    clear ca bz
    go_wp2
    go_ret
    exact ⟨rfl, BZ.out⟩
  · have h4 : ¬ 3000 < (LO : Int) := by omega
    go_enter Tryd.func6, Tryd.ntmps6
    go_wp2_with fail
    refine CL.mono ?_
    rintro e wq ⟨lb, rfl, hq, hlg⟩
    replace hq := hq.symm
    subst hq
    clear CL
    cases lb with
    | false =>
      have ca := CA.out w (Below.refl _ _)
      go_wp2_with fail
      refine ca.mono ?_
      rintro e wz ⟨rfl, bz⟩
      have BZ : Hid (Below w.heap.size w wz) := bz
      clear ca bz
      go_wp2
      go_ret
      exact ⟨rfl, BZ.out⟩
    | true =>
      obtain ⟨g1, g2, g3⟩ := hlg rfl
      rw [← HLL.out] at g1
      have HDB : Hid (∀ x ∈ l, x.d.length ≤ 1000000000) := fun x hx => by have := byt_mem l x hx; omega
      have c := CP.out w (Below.refl _ _) (by omega)
      have HR : Hid (appX old l = if chkX l LO = 0 then (makeX old l, 0) else ([], chkX l LO)) := by unfold Hid appX; rw [HLO.out]
      have HOK : Hid (chkX l LO = 0 → ((makeX old l).length : Int) ≤ 65536 ∧ (∀ x ∈ l, 0 ≤ x.a ∧ x.a ≤ 1099511627776 ∧ 0 ≤ x.n ∧ x.n ≤ 9223372036854775807 ∧ x.d.length ≤ 1000000000) ∧ (∀ k : Int, appX old (froX l k) = ((makeX old l).drop k.toNat, 0) ∧ (froX l k).length ≤ 1000000)) := fun e => by
        rw [HLO.out] at e
        obtain ⟨e1, e2, e3⟩ := chkX_ok e
        refine ⟨by rw [makeX_len old l e2]; exact e3, fun x hx => ?_, fun k => ⟨fro_apply old l k e, ?_⟩⟩
        · have h5 := may_bounds (e2 x hx)
          have h6 := HDB.out x hx
          have h7 := HLO.out
          exact ⟨h5.1, by omega, h5.2.2.1, by omega, h6⟩
        · have := (fro_make old l k e2).2.1
          omega
      clear hlg g2 g3 CP HDB
      generalize appX old l = R at *
      generalize chkX l (LO : Int) = kk at *
      go_wp2_with fail
      refine c.mono ?_
      rintro e w1 ⟨v1, rfl, o1, b1⟩
      clear c
      have B1 : Hid (Below w.heap.size w w1) := b1
      by_cases hk : kk = 0
      · obtain rfl : R = (makeX old l, 0) := by have := HR.out; rwa [if_pos hk] at this
        obtain ⟨e1, e2, e3⟩ := HOK.out hk
        have HE3 : Hid (∀ k : Int, appX old (froX l k) = ((makeX old l).drop k.toNat, 0) ∧ (froX l k).length ≤ 1000000) := e3
        clear HOK HR hk e3
        obtain ⟨aa, ca, rfl⟩ := o1.shape
        simp only at o1 e1 ⊢
        have O1 : Hid (∀ W, Below w1.heap.size w1 W → SlX W (.slice aa (makeX old l).length ca) (makeX old l)) := fun W hb => (o1.below hb).slx
        obtain ⟨-, hLc, hcm, hac⟩ := o1.slx.facts
        unfold maxLen at hcm
        obtain ⟨LA, hLA⟩ : ∃ LA, LA = (makeX old l).length := ⟨_, rfl⟩
        have HLA : Hid (LA = (makeX old l).length) := hLA
        rw [← hLA] at O1 e1 hLc ⊢
        clear hLA o1 b1
        obtain ⟨k, hkk⟩ : ∃ k : Nat, n % ((LA : Int) + 2) = k := ⟨(n % ((LA : Int) + 2)).toNat, by rw [Int.toNat_of_nonneg (Int.emod_nonneg _ (by omega))]⟩
        have hk2 : (k : Int) < (LA : Int) + 2 := by rw [← hkk]; exact Int.emod_lt_of_pos _ (by omega)
        have hkt : Int.tmod n ((LA : Int) + 2) = k := by rw [Int.tmod_eq_emod_of_nonneg s1.1]; exact hkk
        have z0 : ¬ (LA : Int) + 2 = 0 := by omega
        have z1 : (((LA : Int) + 2) == 0) = false := by simpa using z0
        have c := CF.out w1 k B1.out (by omega) (by omega) e2
        obtain ⟨e4, e5⟩ := HE3.out k
        rw [Int.toNat_natCast] at e4
        have HE4 : Hid (appX old (froX l k) = ((makeX old l).drop k, 0)) := e4
        have HE5 : Hid ((froX l k).length ≤ 1000000) := e5
        clear e4 e5 HE3 e2 CF
        go_wp2_with fail
        refine c.mono ?_
        rintro e w2 ⟨v2, rfl, o2, b2⟩
        clear c
        have B2 : Hid (Below w.heap.size w w2) := B1.out.trans (b2.mono B1.out.size)
        have B12 : Hid (Below w1.heap.size w1 w2) := b2
        have c := CP2.out w2 v2 _ B2.out o2.xs HE5.out
        rw [HE4.out] at c
        obtain ⟨fa, fc, rfl, -⟩ := o2.shape
        clear o2 b2 CP2
        generalize (froX l (k : Int)).length = nf at *
        simp only at c
        go_wp2_with fail
        refine c.mono ?_
        rintro e w3 ⟨v3, rfl, o3, b3⟩
        clear c
        have B3 : Hid (Below w.heap.size w w3) := B2.out.trans (b3.mono B2.out.size)
        have b13 := B12.out.trans (b3.mono B12.out.size)
        obtain ⟨p, hp⟩ : ∃ p : Nat, (if (LA : Int) < (k : Int) then (LA : Int) else (k : Int)) = p := by split <;> exact ⟨_, rfl⟩
        have hpk : (makeX old l).drop p = (makeX old l).drop k := by
          have h9 := HLA.out
          by_cases h : (LA : Int) < (k : Int)
          · rw [if_pos h] at hp
            rw [List.drop_of_length_le (by omega), List.drop_of_length_le (by omega)]
          · rw [if_neg h] at hp
            congr 1
            omega
        have hpl : p ≤ LA := by split at hp <;> omega
        have HMN : Hid (min (k : Int) (LA : Int) = p) := by unfold Hid; split at hp <;> omega
        have sA := fun W (hb : Below w3.heap.size w3 W) => (O1.out W (b13.trans (hb.mono b13.size))).drop p hpl
        rw [hpk] at sA
        obtain ⟨ra, rc, rfl⟩ := o3.shape
        have FC : Hid (∀ W, From w3 W → (convert 22 9 (.slice ra ((makeX old l).drop k).length rc)).run Tryd.prog W = .ok (.string (strB ((makeX old l).drop k))) W) := fun W hb => (o3.below hb).sl.conv
        have FB : Hid (∀ W, From w3 W → Below w.heap.size w W) := fun W hb => B3.out.trans (Below.mono hb B3.out.size)
        have q1 : (p : Int) ≤ (ca : Int) := by omega
        have q2 : (0 : Int) ≤ (p : Int) := by omega
        have q3 : (p : Int) ≤ (LA : Int) := by omega
        have q4 : (LA : Int) ≤ (ca : Int) := by omega
        have hsp : ∀ x, aa = some x → 0 < ca → x.spot = none := fun x hx hc => (O1.out w1 (Below.refl _ _)).2 x LA ca (by rw [hx]) hc
        clear o3 b3 b13 B12 O1 hp hpk HE4 HE5 B1 B2 hkk hkt z0 z1
        generalize ((makeX old l).drop k).length = nr at *
        unfold cuv at sA
        go_wp2_with fail
        by_cases hcp : ca = p
        · have FD : Hid (∀ W, From w3 W → (convert 22 9 (.slice aa 0 0)).run Tryd.prog W = .ok (.string (strB ((makeX old l).drop k))) W) := fun W hb => by
            have := sA W hb
            rw [if_pos hcp] at this
            exact this.1.conv
          replace hcp := hcp.symm
          subst hcp
          have hLp : p = LA := by omega
          subst hLp
          clear sA
          generalize strB ((makeX old l).drop k) = S at *
          refine wp_region_held_drew (S := From w3) (by kernel_rfl) ((Below.refl _ _).drew) (fun _ => ?_)
          refine wpAnyH_on ((Below.refl _ _).drew) (fun u0 hu0 bu0 => ?_)
          replace FC := on FC bu0
          replace FD := on FD bu0
          replace FB := on FB bu0
          refine wpAnyH_take (i := 0) (oi := { dst := some 49, op := Op.move (Operand.tmp 11), type := 26, pos := "own.go:47", after := #[], guard := none }) (v := ?vr1) rfl (by kernel_rfl) (by kernel_rfl) (by kernel_rfl) (fun _ _ _ h => h) (Or.inl ⟨by rfl, ?yr1⟩) (Below.refl _ _) ?rr1
          case yr1 => (intro w hSw; go_simp; try with_reducible rfl)
          try simp only [Act.put, List.setIfInBounds_toArray, List.set_cons_zero, List.set_cons_succ]
          refine wpAnyH_take (i := 1) (oi := { dst := some 50, op := Op.binOp BinOp.eql 26 (Operand.tmp 49) (Operand.const (Value.int IntKind.i64 0)) 26, type := 4, pos := "own.go:47", after := #[{ on := 0, ground := Ground.data }], guard := none }) (v := ?vr2) rfl (by kernel_rfl) (by kernel_rfl) (by kernel_rfl) (fun _ _ _ h => h) (Or.inl ⟨by rfl, ?yr2⟩) (Below.refl _ _) ?rr2
          case yr2 => (intro w hSw; go_simp; try with_reducible rfl)
          try simp only [Act.put, List.setIfInBounds_toArray, List.set_cons_zero, List.set_cons_succ]
          refine wpAnyH_take (i := 2) (oi := { dst := some 51, op := Op.move (Operand.tmp 50), type := 4, pos := "own.go:47", after := #[{ on := 1, ground := Ground.data }], guard := none }) (v := ?vr3) rfl (by kernel_rfl) (by kernel_rfl) (by kernel_rfl) (fun _ _ _ h => h) (Or.inl ⟨by rfl, ?yr3⟩) (Below.refl _ _) ?rr3
          case yr3 => (intro w hSw; go_simp; try with_reducible rfl)
          try simp only [Act.put, List.setIfInBounds_toArray, List.set_cons_zero, List.set_cons_succ]
          refine wpAnyH_take (i := 3) (oi := { dst := some 52, op := Op.move (Operand.tmp 10), type := 22, pos := "own.go:47", after := #[{ on := 2, ground := Ground.guard }], guard := some (2, true) }) (v := ?vr4) rfl (by kernel_rfl) (by kernel_rfl) (by kernel_rfl) (fun _ _ _ h => h) (Or.inl ⟨by rfl, ?yr4⟩) (Below.refl _ _) ?rr4
          case yr4 => (intro w hSw; go_simp; try with_reducible rfl)
          try simp only [Act.put, List.setIfInBounds_toArray, List.set_cons_zero, List.set_cons_succ]
          refine wpAnyH_take (i := 4) (oi := { dst := some 53, op := Op.convert 22 9 (Operand.tmp 52), type := 9, pos := "own.go:47", after := #[{ on := 3, ground := Ground.data }, { on := 2, ground := Ground.guard }], guard := some (2, true) }) (v := .string S) rfl (by kernel_rfl) (by kernel_rfl) (by kernel_rfl) (fun _ _ _ h => h) (Or.inl ⟨by rfl, ?yr5⟩) (Below.refl _ _) ?rr5
          case yr5 => (intro w hSw; have t := FC.out w hSw; go_simp; try with_reducible rfl)
          try simp only [Act.put, List.setIfInBounds_toArray, List.set_cons_zero, List.set_cons_succ]
          refine wpAnyH_take (i := 5) (oi := { dst := some 54, op := Op.move (Operand.tmp 7), type := 22, pos := "own.go:47", after := #[{ on := 2, ground := Ground.guard }], guard := some (2, true) }) (v := ?vr6) rfl (by kernel_rfl) (by kernel_rfl) (by kernel_rfl) (fun _ _ _ h => h) (Or.inl ⟨by rfl, ?yr6⟩) (Below.refl _ _) ?rr6
          case yr6 => (intro w hSw; go_simp; try with_reducible rfl)
          try simp only [Act.put, List.setIfInBounds_toArray, List.set_cons_zero, List.set_cons_succ]
          refine wpAnyH_take (i := 6) (oi := { dst := some 55, op := Op.move (Operand.tmp 9), type := 3, pos := "own.go:47", after := #[{ on := 2, ground := Ground.guard }], guard := some (2, true) }) (v := ?vr7) rfl (by kernel_rfl) (by kernel_rfl) (by kernel_rfl) (fun _ _ _ h => h) (Or.inl ⟨by rfl, ?yr7⟩) (Below.refl _ _) ?rr7
          case yr7 => (intro w hSw; go_simp; try with_reducible rfl)
          try simp only [Act.put, List.setIfInBounds_toArray, List.set_cons_zero, List.set_cons_succ]
          refine wpAnyH_take (i := 7) (oi := { dst := some 56, op := Op.move (Operand.tmp 7), type := 22, pos := "own.go:47", after := #[{ on := 2, ground := Ground.guard }], guard := some (2, true) }) (v := ?vr8) rfl (by kernel_rfl) (by kernel_rfl) (by kernel_rfl) (fun _ _ _ h => h) (Or.inl ⟨by rfl, ?yr8⟩) (Below.refl _ _) ?rr8
          case yr8 => (intro w hSw; go_simp; try with_reducible rfl)
          try simp only [Act.put, List.setIfInBounds_toArray, List.set_cons_zero, List.set_cons_succ]
          refine wpAnyH_take (i := 8) (oi := { dst := some 57, op := Op.call { callee := Callee.builtin Builtin.len, args := #[Operand.tmp 56], argTypes := #[22] }, type := 3, pos := "own.go:47", after := #[{ on := 7, ground := Ground.data }, { on := 2, ground := Ground.guard }], guard := some (2, true) }) (v := ?vr9) rfl (by kernel_rfl) (by kernel_rfl) (by kernel_rfl) (fun _ _ _ h => h) (Or.inl ⟨by rfl, ?yr9⟩) (Below.refl _ _) ?rr9
          case yr9 => (intro w hSw; go_simp; try with_reducible rfl)
          try simp only [Act.put, List.setIfInBounds_toArray, List.set_cons_zero, List.set_cons_succ]
          refine wpAnyH_take (i := 9) (oi := { dst := some 58, op := Op.call { callee := Callee.builtin Builtin.min, args := #[Operand.tmp 55, Operand.tmp 57], argTypes := #[3, 3] }, type := 3, pos := "own.go:47", after := #[{ on := 6, ground := Ground.data }, { on := 8, ground := Ground.data }, { on := 2, ground := Ground.guard }], guard := some (2, true) }) (v := .int .i64 (p : Int)) rfl (by kernel_rfl) (by kernel_rfl) (by kernel_rfl) (fun _ _ _ h => h) (Or.inl ⟨by rfl, ?yr10⟩) (Below.refl _ _) ?rr10
          case yr10 => (intro w hSw; have t := HMN.out; go_simp; try with_reducible rfl)
          try simp only [Act.put, List.setIfInBounds_toArray, List.set_cons_zero, List.set_cons_succ]
          refine wpAnyH_take (i := 10) (oi := { dst := some 59, op := Op.slice 22 (Operand.tmp 54) (some (Operand.tmp 58)) none none, type := 22, pos := "own.go:47", after := #[{ on := 5, ground := Ground.data }, { on := 9, ground := Ground.data }, { on := 2, ground := Ground.guard }], guard := some (2, true) }) (v := .slice aa 0 0) rfl (by kernel_rfl) (by kernel_rfl) (by kernel_rfl) (fun _ _ _ h => h) (Or.inl ⟨by rfl, ?yr11⟩) (Below.refl _ _) ?rr11
          case yr11 => (intro w hSw; go_simp; try with_reducible rfl)
          try simp only [Act.put, List.setIfInBounds_toArray, List.set_cons_zero, List.set_cons_succ]
          refine wpAnyH_take (i := 11) (oi := { dst := some 60, op := Op.convert 22 9 (Operand.tmp 59), type := 9, pos := "own.go:47", after := #[{ on := 10, ground := Ground.data }, { on := 2, ground := Ground.guard }], guard := some (2, true) }) (v := .string S) rfl (by kernel_rfl) (by kernel_rfl) (by kernel_rfl) (fun _ _ _ h => h) (Or.inl ⟨by rfl, ?yr12⟩) (Below.refl _ _) ?rr12
          case yr12 => (intro w hSw; have t := FD.out w hSw; go_simp; try with_reducible rfl)
          try simp only [Act.put, List.setIfInBounds_toArray, List.set_cons_zero, List.set_cons_succ]
          refine wpAnyH_take (i := 12) (oi := { dst := some 61, op := Op.binOp BinOp.eql 9 (Operand.tmp 53) (Operand.tmp 60) 9, type := 4, pos := "own.go:47", after := #[{ on := 4, ground := Ground.data }, { on := 11, ground := Ground.data }, { on := 2, ground := Ground.guard }], guard := some (2, true) }) (v := .bool true) rfl (by kernel_rfl) (by kernel_rfl) (by kernel_rfl) (fun _ _ _ h => h) (Or.inl ⟨by rfl, ?yr13⟩) (Below.refl _ _) ?rr13
          case yr13 => (intro w hSw; go_simp; try with_reducible rfl)
          try simp only [Act.put, List.setIfInBounds_toArray, List.set_cons_zero, List.set_cons_succ]
          refine wpAnyH_take (i := 13) (oi := { dst := some 62, op := Op.pick (Operand.tmp 51) (Operand.tmp 61) (Operand.const (Value.bool false)), type := 4, pos := "own.go:47", after := #[{ on := 2, ground := Ground.data }, { on := 12, ground := Ground.data }], guard := none }) (v := .bool true) rfl (by kernel_rfl) (by kernel_rfl) (by kernel_rfl) (fun _ _ _ h => h) (Or.inl ⟨by rfl, ?yr14⟩) (Below.refl _ _) ?rr14
          case yr14 => (intro w hSw; go_simp; try with_reducible rfl)
          try simp only [Act.put, List.setIfInBounds_toArray, List.set_cons_zero, List.set_cons_succ]
          refine wpAnyH_take (i := 14) (oi := { dst := some 63, op := Op.move (Operand.tmp 62), type := 4, pos := "own.go:47", after := #[{ on := 13, ground := Ground.data }, { on := 2, ground := Ground.chain }], guard := none }) (v := .bool true) rfl (by kernel_rfl) (by kernel_rfl) (by kernel_rfl) (fun _ _ _ h => h) (Or.inl ⟨by rfl, ?yr15⟩) (Below.refl _ _) ?rr15
          case yr15 => (intro w hSw; go_simp; try with_reducible rfl)
          try simp only [Act.put, List.setIfInBounds_toArray, List.set_cons_zero, List.set_cons_succ]
          refine wpAnyH_ready (rs := [15]) (by kernel_rfl) (by simp) ?_
          refine AllReadyH.cons (o := { dst := some 64, op := Op.call { callee := Callee.value (Operand.func 9), args := #[], argTypes := #[] }, type := 4, pos := "own.go:47", after := #[{ on := 14, ground := Ground.chain }, { on := 14, ground := Ground.guard }], guard := some (14, true) }) rfl (fun KK hKK => ?_) ?_
          · go_simp
            refine (CA.out _ (FB.out _ (Below.refl _ _))).mono ?_
            rintro e u16' ⟨rfl, bu16'⟩
            (try go_wp2_with fail)
            refine hKK.out _ _ (bu16') (fun _ => ?_)
            clear hKK KK
            try simp only [Act.put, List.setIfInBounds_toArray, List.set_cons_zero, List.set_cons_succ]
            refine wpAnyH_on (bu16') (fun u16 hu16 bu16 => ?_)
            replace FC := on FC bu16
            replace FD := on FD bu16
            replace FB := on FB bu16
            refine wpAnyH_take (i := 16) (oi := { dst := some 65, op := Op.pick (Operand.tmp 63) (Operand.tmp 64) (Operand.const (Value.bool false)), type := 4, pos := "own.go:47", after := #[{ on := 14, ground := Ground.data }, { on := 15, ground := Ground.data }], guard := none }) (v := ?vr17) rfl (by kernel_rfl) (by kernel_rfl) (by kernel_rfl) (fun _ _ _ h => h) (Or.inl ⟨by rfl, ?yr17⟩) (Below.refl _ _) ?rr17
            case yr17 => (intro w hSw; go_simp; try with_reducible rfl)
            try simp only [Act.put, List.setIfInBounds_toArray, List.set_cons_zero, List.set_cons_succ]
            refine wpAnyH_take (i := 17) (oi := { dst := some 6, op := Op.assign (Operand.tmp 65), type := 4, pos := "own.go:47", after := #[{ on := 16, ground := Ground.data }, { on := 15, ground := Ground.chain }, { on := 0, ground := Ground.phase }, { on := 1, ground := Ground.phase }, { on := 2, ground := Ground.phase }, { on := 3, ground := Ground.phase }, { on := 4, ground := Ground.phase }, { on := 5, ground := Ground.phase }, { on := 6, ground := Ground.phase }, { on := 7, ground := Ground.phase }, { on := 8, ground := Ground.phase }, { on := 9, ground := Ground.phase }, { on := 10, ground := Ground.phase }, { on := 11, ground := Ground.phase }, { on := 12, ground := Ground.phase }, { on := 13, ground := Ground.phase }, { on := 14, ground := Ground.phase }, { on := 15, ground := Ground.phase }, { on := 16, ground := Ground.phase }], guard := none }) (v := ?vr18) rfl (by kernel_rfl) (by kernel_rfl) (by kernel_rfl) (fun _ _ _ h => h) (Or.inl ⟨by rfl, ?yr18⟩) (Below.refl _ _) ?rr18
            case yr18 => (intro w hSw; go_simp; try with_reducible rfl)
            try simp only [Act.put, List.setIfInBounds_toArray, List.set_cons_zero, List.set_cons_succ]
            refine wpAnyH_done (by kernel_rfl) ?_ _
            have BZ : Hid (Below w.heap.size w u16) := FB.out _ (Below.refl _ _)
            clear FC FD FB
            go_wp2
            go_ret
            exact ⟨rfl, BZ.out⟩
          exact AllReadyH.nil
        · obtain ⟨x1, rfl⟩ : ∃ x1, aa = some x1 := by
            cases aa with
            | none => have := hac rfl; omega
            | some x => exact ⟨x, rfl⟩
          obtain ⟨xb, xo, sp⟩ := x1
          obtain rfl : sp = none := hsp _ rfl (by omega)
          have FD : Hid (∀ W, From w3 W → (convert 22 9 (.slice (some ⟨xb, xo + p, none⟩) (LA - p) (ca - p))).run Tryd.prog W = .ok (.string (strB ((makeX old l).drop k))) W) := fun W hb => by
            have := sA W hb
            rw [if_neg hcp] at this
            exact this.1.conv
          clear sA hsp
          generalize strB ((makeX old l).drop k) = S at *
          refine wp_region_held_drew (S := From w3) (by kernel_rfl) ((Below.refl _ _).drew) (fun _ => ?_)
          refine wpAnyH_on ((Below.refl _ _).drew) (fun u0 hu0 bu0 => ?_)
          replace FC := on FC bu0
          replace FD := on FD bu0
          replace FB := on FB bu0
          refine wpAnyH_take (i := 0) (oi := { dst := some 49, op := Op.move (Operand.tmp 11), type := 26, pos := "own.go:47", after := #[], guard := none }) (v := ?vs1) rfl (by kernel_rfl) (by kernel_rfl) (by kernel_rfl) (fun _ _ _ h => h) (Or.inl ⟨by rfl, ?ys1⟩) (Below.refl _ _) ?rs1
          case ys1 => (intro w hSw; go_simp; try with_reducible rfl)
          try simp only [Act.put, List.setIfInBounds_toArray, List.set_cons_zero, List.set_cons_succ]
          refine wpAnyH_take (i := 1) (oi := { dst := some 50, op := Op.binOp BinOp.eql 26 (Operand.tmp 49) (Operand.const (Value.int IntKind.i64 0)) 26, type := 4, pos := "own.go:47", after := #[{ on := 0, ground := Ground.data }], guard := none }) (v := ?vs2) rfl (by kernel_rfl) (by kernel_rfl) (by kernel_rfl) (fun _ _ _ h => h) (Or.inl ⟨by rfl, ?ys2⟩) (Below.refl _ _) ?rs2
          case ys2 => (intro w hSw; go_simp; try with_reducible rfl)
          try simp only [Act.put, List.setIfInBounds_toArray, List.set_cons_zero, List.set_cons_succ]
          refine wpAnyH_take (i := 2) (oi := { dst := some 51, op := Op.move (Operand.tmp 50), type := 4, pos := "own.go:47", after := #[{ on := 1, ground := Ground.data }], guard := none }) (v := ?vs3) rfl (by kernel_rfl) (by kernel_rfl) (by kernel_rfl) (fun _ _ _ h => h) (Or.inl ⟨by rfl, ?ys3⟩) (Below.refl _ _) ?rs3
          case ys3 => (intro w hSw; go_simp; try with_reducible rfl)
          try simp only [Act.put, List.setIfInBounds_toArray, List.set_cons_zero, List.set_cons_succ]
          refine wpAnyH_take (i := 3) (oi := { dst := some 52, op := Op.move (Operand.tmp 10), type := 22, pos := "own.go:47", after := #[{ on := 2, ground := Ground.guard }], guard := some (2, true) }) (v := ?vs4) rfl (by kernel_rfl) (by kernel_rfl) (by kernel_rfl) (fun _ _ _ h => h) (Or.inl ⟨by rfl, ?ys4⟩) (Below.refl _ _) ?rs4
          case ys4 => (intro w hSw; go_simp; try with_reducible rfl)
          try simp only [Act.put, List.setIfInBounds_toArray, List.set_cons_zero, List.set_cons_succ]
          refine wpAnyH_take (i := 4) (oi := { dst := some 53, op := Op.convert 22 9 (Operand.tmp 52), type := 9, pos := "own.go:47", after := #[{ on := 3, ground := Ground.data }, { on := 2, ground := Ground.guard }], guard := some (2, true) }) (v := .string S) rfl (by kernel_rfl) (by kernel_rfl) (by kernel_rfl) (fun _ _ _ h => h) (Or.inl ⟨by rfl, ?ys5⟩) (Below.refl _ _) ?rs5
          case ys5 => (intro w hSw; have t := FC.out w hSw; go_simp; try with_reducible rfl)
          try simp only [Act.put, List.setIfInBounds_toArray, List.set_cons_zero, List.set_cons_succ]
          refine wpAnyH_take (i := 5) (oi := { dst := some 54, op := Op.move (Operand.tmp 7), type := 22, pos := "own.go:47", after := #[{ on := 2, ground := Ground.guard }], guard := some (2, true) }) (v := ?vs6) rfl (by kernel_rfl) (by kernel_rfl) (by kernel_rfl) (fun _ _ _ h => h) (Or.inl ⟨by rfl, ?ys6⟩) (Below.refl _ _) ?rs6
          case ys6 => (intro w hSw; go_simp; try with_reducible rfl)
          try simp only [Act.put, List.setIfInBounds_toArray, List.set_cons_zero, List.set_cons_succ]
          refine wpAnyH_take (i := 6) (oi := { dst := some 55, op := Op.move (Operand.tmp 9), type := 3, pos := "own.go:47", after := #[{ on := 2, ground := Ground.guard }], guard := some (2, true) }) (v := ?vs7) rfl (by kernel_rfl) (by kernel_rfl) (by kernel_rfl) (fun _ _ _ h => h) (Or.inl ⟨by rfl, ?ys7⟩) (Below.refl _ _) ?rs7
          case ys7 => (intro w hSw; go_simp; try with_reducible rfl)
          try simp only [Act.put, List.setIfInBounds_toArray, List.set_cons_zero, List.set_cons_succ]
          refine wpAnyH_take (i := 7) (oi := { dst := some 56, op := Op.move (Operand.tmp 7), type := 22, pos := "own.go:47", after := #[{ on := 2, ground := Ground.guard }], guard := some (2, true) }) (v := ?vs8) rfl (by kernel_rfl) (by kernel_rfl) (by kernel_rfl) (fun _ _ _ h => h) (Or.inl ⟨by rfl, ?ys8⟩) (Below.refl _ _) ?rs8
          case ys8 => (intro w hSw; go_simp; try with_reducible rfl)
          try simp only [Act.put, List.setIfInBounds_toArray, List.set_cons_zero, List.set_cons_succ]
          refine wpAnyH_take (i := 8) (oi := { dst := some 57, op := Op.call { callee := Callee.builtin Builtin.len, args := #[Operand.tmp 56], argTypes := #[22] }, type := 3, pos := "own.go:47", after := #[{ on := 7, ground := Ground.data }, { on := 2, ground := Ground.guard }], guard := some (2, true) }) (v := ?vs9) rfl (by kernel_rfl) (by kernel_rfl) (by kernel_rfl) (fun _ _ _ h => h) (Or.inl ⟨by rfl, ?ys9⟩) (Below.refl _ _) ?rs9
          case ys9 => (intro w hSw; go_simp; try with_reducible rfl)
          try simp only [Act.put, List.setIfInBounds_toArray, List.set_cons_zero, List.set_cons_succ]
          refine wpAnyH_take (i := 9) (oi := { dst := some 58, op := Op.call { callee := Callee.builtin Builtin.min, args := #[Operand.tmp 55, Operand.tmp 57], argTypes := #[3, 3] }, type := 3, pos := "own.go:47", after := #[{ on := 6, ground := Ground.data }, { on := 8, ground := Ground.data }, { on := 2, ground := Ground.guard }], guard := some (2, true) }) (v := .int .i64 (p : Int)) rfl (by kernel_rfl) (by kernel_rfl) (by kernel_rfl) (fun _ _ _ h => h) (Or.inl ⟨by rfl, ?ys10⟩) (Below.refl _ _) ?rs10
          case ys10 => (intro w hSw; have t := HMN.out; go_simp; try with_reducible rfl)
          try simp only [Act.put, List.setIfInBounds_toArray, List.set_cons_zero, List.set_cons_succ]
          refine wpAnyH_take (i := 10) (oi := { dst := some 59, op := Op.slice 22 (Operand.tmp 54) (some (Operand.tmp 58)) none none, type := 22, pos := "own.go:47", after := #[{ on := 5, ground := Ground.data }, { on := 9, ground := Ground.data }, { on := 2, ground := Ground.guard }], guard := some (2, true) }) (v := .slice (some ⟨xb, xo + p, none⟩) (LA - p) (ca - p)) rfl (by kernel_rfl) (by kernel_rfl) (by kernel_rfl) (fun _ _ _ h => h) (Or.inl ⟨by rfl, ?ys11⟩) (Below.refl _ _) ?rs11
          case ys11 => (intro w hSw; go_simp; try with_reducible rfl)
          try simp only [Act.put, List.setIfInBounds_toArray, List.set_cons_zero, List.set_cons_succ]
          refine wpAnyH_take (i := 11) (oi := { dst := some 60, op := Op.convert 22 9 (Operand.tmp 59), type := 9, pos := "own.go:47", after := #[{ on := 10, ground := Ground.data }, { on := 2, ground := Ground.guard }], guard := some (2, true) }) (v := .string S) rfl (by kernel_rfl) (by kernel_rfl) (by kernel_rfl) (fun _ _ _ h => h) (Or.inl ⟨by rfl, ?ys12⟩) (Below.refl _ _) ?rs12
          case ys12 => (intro w hSw; have t := FD.out w hSw; go_simp; try with_reducible rfl)
          try simp only [Act.put, List.setIfInBounds_toArray, List.set_cons_zero, List.set_cons_succ]
          refine wpAnyH_take (i := 12) (oi := { dst := some 61, op := Op.binOp BinOp.eql 9 (Operand.tmp 53) (Operand.tmp 60) 9, type := 4, pos := "own.go:47", after := #[{ on := 4, ground := Ground.data }, { on := 11, ground := Ground.data }, { on := 2, ground := Ground.guard }], guard := some (2, true) }) (v := .bool true) rfl (by kernel_rfl) (by kernel_rfl) (by kernel_rfl) (fun _ _ _ h => h) (Or.inl ⟨by rfl, ?ys13⟩) (Below.refl _ _) ?rs13
          case ys13 => (intro w hSw; go_simp; try with_reducible rfl)
          try simp only [Act.put, List.setIfInBounds_toArray, List.set_cons_zero, List.set_cons_succ]
          refine wpAnyH_take (i := 13) (oi := { dst := some 62, op := Op.pick (Operand.tmp 51) (Operand.tmp 61) (Operand.const (Value.bool false)), type := 4, pos := "own.go:47", after := #[{ on := 2, ground := Ground.data }, { on := 12, ground := Ground.data }], guard := none }) (v := .bool true) rfl (by kernel_rfl) (by kernel_rfl) (by kernel_rfl) (fun _ _ _ h => h) (Or.inl ⟨by rfl, ?ys14⟩) (Below.refl _ _) ?rs14
          case ys14 => (intro w hSw; go_simp; try with_reducible rfl)
          try simp only [Act.put, List.setIfInBounds_toArray, List.set_cons_zero, List.set_cons_succ]
          refine wpAnyH_take (i := 14) (oi := { dst := some 63, op := Op.move (Operand.tmp 62), type := 4, pos := "own.go:47", after := #[{ on := 13, ground := Ground.data }, { on := 2, ground := Ground.chain }], guard := none }) (v := .bool true) rfl (by kernel_rfl) (by kernel_rfl) (by kernel_rfl) (fun _ _ _ h => h) (Or.inl ⟨by rfl, ?ys15⟩) (Below.refl _ _) ?rs15
          case ys15 => (intro w hSw; go_simp; try with_reducible rfl)
          try simp only [Act.put, List.setIfInBounds_toArray, List.set_cons_zero, List.set_cons_succ]
          refine wpAnyH_ready (rs := [15]) (by kernel_rfl) (by simp) ?_
          refine AllReadyH.cons (o := { dst := some 64, op := Op.call { callee := Callee.value (Operand.func 9), args := #[], argTypes := #[] }, type := 4, pos := "own.go:47", after := #[{ on := 14, ground := Ground.chain }, { on := 14, ground := Ground.guard }], guard := some (14, true) }) rfl (fun KK hKK => ?_) ?_
          · go_simp
            refine (CA.out _ (FB.out _ (Below.refl _ _))).mono ?_
            rintro e u16' ⟨rfl, bu16'⟩
            (try go_wp2_with fail)
            refine hKK.out _ _ (bu16') (fun _ => ?_)
            clear hKK KK
            try simp only [Act.put, List.setIfInBounds_toArray, List.set_cons_zero, List.set_cons_succ]
            refine wpAnyH_on (bu16') (fun u16 hu16 bu16 => ?_)
            replace FC := on FC bu16
            replace FD := on FD bu16
            replace FB := on FB bu16
            refine wpAnyH_take (i := 16) (oi := { dst := some 65, op := Op.pick (Operand.tmp 63) (Operand.tmp 64) (Operand.const (Value.bool false)), type := 4, pos := "own.go:47", after := #[{ on := 14, ground := Ground.data }, { on := 15, ground := Ground.data }], guard := none }) (v := ?vs17) rfl (by kernel_rfl) (by kernel_rfl) (by kernel_rfl) (fun _ _ _ h => h) (Or.inl ⟨by rfl, ?ys17⟩) (Below.refl _ _) ?rs17
            case ys17 => (intro w hSw; go_simp; try with_reducible rfl)
            try simp only [Act.put, List.setIfInBounds_toArray, List.set_cons_zero, List.set_cons_succ]
            refine wpAnyH_take (i := 17) (oi := { dst := some 6, op := Op.assign (Operand.tmp 65), type := 4, pos := "own.go:47", after := #[{ on := 16, ground := Ground.data }, { on := 15, ground := Ground.chain }, { on := 0, ground := Ground.phase }, { on := 1, ground := Ground.phase }, { on := 2, ground := Ground.phase }, { on := 3, ground := Ground.phase }, { on := 4, ground := Ground.phase }, { on := 5, ground := Ground.phase }, { on := 6, ground := Ground.phase }, { on := 7, ground := Ground.phase }, { on := 8, ground := Ground.phase }, { on := 9, ground := Ground.phase }, { on := 10, ground := Ground.phase }, { on := 11, ground := Ground.phase }, { on := 12, ground := Ground.phase }, { on := 13, ground := Ground.phase }, { on := 14, ground := Ground.phase }, { on := 15, ground := Ground.phase }, { on := 16, ground := Ground.phase }], guard := none }) (v := ?vs18) rfl (by kernel_rfl) (by kernel_rfl) (by kernel_rfl) (fun _ _ _ h => h) (Or.inl ⟨by rfl, ?ys18⟩) (Below.refl _ _) ?rs18
            case ys18 => (intro w hSw; go_simp; try with_reducible rfl)
            try simp only [Act.put, List.setIfInBounds_toArray, List.set_cons_zero, List.set_cons_succ]
            refine wpAnyH_done (by kernel_rfl) ?_ _
            have BZ : Hid (Below w.heap.size w u16) := FB.out _ (Below.refl _ _)
            clear FC FD FB
            go_wp2
            go_ret
            exact ⟨rfl, BZ.out⟩
          exact AllReadyH.nil
      · obtain rfl : R = ([], kk) := by have := HR.out; rwa [if_neg hk] at this
        have hk2 : (kk != 0) = true := by simpa using hk
        obtain ⟨aa, ca, rfl⟩ := o1.shape
        clear HR HOK o1 b1 CP2 CF
        simp only [List.length_nil]
        have ca' := CA.out w1 B1.out
        go_wp2_with fail
        refine ca'.mono ?_
        rintro e wz ⟨rfl, bz⟩
        have BZ : Hid (Below w.heap.size w wz) := B1.out.trans (bz.mono B1.out.size)
        clear ca' bz
        go_wp2
        go_ret
        exact ⟨rfl, BZ.out⟩

theorem contract (H : Type) (enc : TypeId × Value → H) (W : World) (base : Nat) (args : Array Value) (ds gs : List (DataW H)) (before : List MemPlace)
    (hval : ∀ (j : Nat) t v, Tryd.f6.params[j]? = some t → args[j]? = some v → Value.okWide Tryd.prog W .any base t v)
    (hW : DataW.Whole enc Tryd.prog Tryd.f6.params.toList Rows.deltaFromSpec.vars false W args.toList ds gs before) (hL : laidMetH Tryd.prog Rows.deltaFromRow.laid W)
    (hsz0 : (DataW.weightsEach Tryd.prog (Tryd.f6.params.toList ++ Rows.deltaFromSpec.plain.varTypes Tryd.prog) (ds ++ gs)).all (· ≤ reachBytes) = true) :
    Calls Tryd.prog 6 args W fun e W' => ∃ v, e = .returned v ∧ Rows.deltaFromSpec.post enc Tryd.prog Tryd.f6 false true false false W args v W' := by
  have hW' := hW
  obtain ⟨p, q, hA0, hV, rfl, hfz, hnd⟩ := hW
  have hA : DataW.TrodAll enc Tryd.prog W 0 (fun _ => true) true Tryd.f6.params.toList args.toList ds p := hA0
  rw [Tryd.params6] at hA hval hsz0
  obtain ⟨v0, vs0, d0, ds0, p0, q0, hargs, rfl, rfl, h0, r0⟩ := trodAll_cons hA
  obtain ⟨v1, vs1, d1, ds1, p1, q1, rfl, rfl, rfl, h1, r1⟩ := trodAll_cons r0
  obtain ⟨v2, vs2, d2, ds2, p2, q2, rfl, rfl, rfl, h2, r2⟩ := trodAll_cons r1
  obtain ⟨rfl, rfl, rfl⟩ := trodAll_nil r2
  obtain rfl : args = #[v0, v1, v2] := by cases args; simp_all
  obtain ⟨rfl, rfl⟩ := trodVars_none hV
  have k0 := h0
  have lt0 : ∀ x ∈ p0, x.block < W.heap.size := by obtain ⟨m, hm⟩ := k0; exact DataW.trod_lt m _ _ _ hm
  obtain ⟨L0, w0⟩ := slx_in (hval 0 22 v0 rfl rfl) h0
  have k1 := h1
  have lt1 : ∀ x ∈ p1, x.block < W.heap.size := by obtain ⟨m, hm⟩ := k1; exact DataW.trod_lt m _ _ _ hm
  obtain ⟨L1, w1⟩ := ops_in (hval 1 23 v1 rfl rfl) h1
  obtain ⟨a2, rfl, rfl, rfl, w2⟩ := open_int Tryd.underlying48 (hval 2 48 v2 rfl rfl) h2
  clear hA0
  refine (walk v0 L0 v1 L1 a2 W (wi_of hL) w0 w1 w2).mono fun e W' ⟨he, bel⟩ => ?_
  subst he
  exact ⟨_, rfl, _, _, _, [], _, [], hW', trodAll_mk1 (shut_bool Tryd.underlying4 _), (trodAll_cons_mk (Below.trod laidOut (by kernel_rfl) (of_decide_eq_true (by kernel_rfl)) k0 bel lt0) (trodAll_cons_mk (Below.trod laidOut (by kernel_rfl) (of_decide_eq_true (by kernel_rfl)) k1 bel lt1) (trodAll_cons_mk (shut_int Tryd.underlying48 w2) trodAll_mk0))), rfl, bel.frame _, fun h => by cases h⟩

theorem laid_met (os : Os) : laidMet Tryd.prog Rows.deltaFromRow.laid (({ World.holding Tryd.prog os ⟨#[], #[], []⟩ with heap := ((World.holding Tryd.prog os ⟨#[], #[], []⟩).heap.modify 2 (fun
      | .cells _ t frozen => .cells widT t frozen
      | o => o)) } : World).forCall (fun _ _ => 0) ⟨#[], #[.slice none 0 0, .slice none 0 0, .int .u16 0], []⟩).memory :=
  laidMet_of_run' 8 (by kernel_rfl) (by kernel_rfl)
theorem reads (os : Os) {H : Type} (enc : TypeId × Value → H) : ∃ places, DataW.whole enc Tryd.prog (({ World.holding Tryd.prog os ⟨#[], #[], []⟩ with heap := ((World.holding Tryd.prog os ⟨#[], #[], []⟩).heap.modify 2 (fun
      | .cells _ t frozen => .cells widT t frozen
      | o => o)) } : World).forCall (fun _ _ => 0) ⟨#[], #[.slice none 0 0, .slice none 0 0, .int .u16 0], []⟩).memory Tryd.f6.params.toList Rows.deltaFromSpec.vars false #[Value.slice none 0 0, .slice none 0 0, .int .u16 0].toList 8 = some ([.nil, .nil, .lit (.int .u16 0)], [], places) :=
  ⟨[], by kernel_rfl⟩

set_option maxRecDepth 100000 in
theorem lifted (os : Os) (started : os.Started) (H : Type) (enc : TypeId × Value → H) (F : Stop.Interp) :
    ReturnsInHanded {} Tryd.checked os 6 .any ((OpenSpec.ofChange Rows.deltaFromSpec).preRow enc Tryd.prog Tryd.f6 Rows.deltaFromRow.domain false Rows.deltaFromRow.laid) (((OpenSpec.ofChange Rows.deltaFromSpec).at F).post enc Tryd.prog Tryd.f6 false true false false) := by
  obtain ⟨places, hx⟩ := reads os enc
  refine returnsInHanded_of_row (C := Tryd.checked) (s := OpenSpec.ofChange Rows.deltaFromSpec) own started (by kernel_rfl) Tryd.func6
    (witness_row_at (enc := enc) (C := Tryd.checked) false ({ World.holding Tryd.prog os ⟨#[], #[], []⟩ with heap := ((World.holding Tryd.prog os ⟨#[], #[], []⟩).heap.modify 2 (fun
      | .cells _ t frozen => .cells widT t frozen
      | o => o)) } : World) #[.slice none 0 0, .slice none 0 0, .int .u16 0] rfl (by kernel_rfl) (by kernel_rfl) (by kernel_rfl)
      (OpenSpec.preRow_of_cond 8 hx (by kernel_rfl) (fun k hk => by cases hk) (by kernel_rfl) (laid_met os))) ?_
  intro W base args ds gs before hval hW _ _ hsz hL _ _
  exact contract H enc W base args ds gs before hval hW hL hsz

theorem said : Rows.DeltaFromSaid :=
  OpenClaim.holds_of_cond 6 Tryd.f6 rfl rfl rfl rfl rfl rfl rfl ⟨rfl, rfl, rfl, rfl, rfl⟩ rfl rfl rfl rfl rfl (by kernel_rfl) Tryd.func6 (by kernel_rfl)
    (of_decide_eq_true (by kernel_rfl)) (by unfold Func.isWrapper; first | (rw [if_pos (by decide +kernel)]; kernel_rfl) | (rw [if_neg (by decide +kernel)]; exact ⟨rfl, rfl⟩))
    (fun os started H enc _ F => by rw [OpenClaim.pre_eq_preRow]; exact lifted os started H enc F)

theorem plain (f : FuncId) (fn : Func) (hf : Tryd.pinned.checked.prog.funcNamed "sumpter/sumpterlaw13.DeltaFrom" = some f) (hfn : Tryd.pinned.checked.prog.funcs[f]? = some fn) :
    true = Tryd.pinned.checked.prog.looks [] ∧ ∀ (j : Nat) t, fn.params[j]? = some t → Tryd.pinned.checked.prog.wantsStandIn t = false := by
  obtain rfl : f = 6 := Option.some.inj ((show Tryd.prog.funcNamed "sumpter/sumpterlaw13.DeltaFrom" = some 6 by kernel_rfl).symm.trans hf) |>.symm
  obtain rfl : fn = Tryd.f6 := (Option.some.inj (Tryd.func6.symm.trans hfn)).symm
  refine ⟨by kernel_rfl, fun j t ht => ?_⟩
  rw [Tryd.params6] at ht
  have hm : t ∈ [22, 23, 48] := by simpa using Array.mem_of_getElem? ht
  have hall : ([22, 23, 48].all fun u => !Tryd.prog.wantsStandIn u) = true := by kernel_rfl
  exact (show Tryd.prog.wantsStandIn t = false by simpa using List.all_eq_true.1 hall t hm)
end Go.Proofs.YtgnampbbkaolmaaDoor.deltaFrom

namespace Go.Proofs.YtgnampbbkaolmaaDoor
/-- The card of DeltaFrom. -/
theorem deltaFrom_card : Rows.DeltaFromCardSaid :=
  Claim7.holds_tied_plain_at .later [] _ _ _ _ deltaFrom.said (fun _ h => by cases h) (by kernel_rfl) (fun _ h => by cases h) deltaFrom_row_tie rfl ⟨rfl, rfl⟩ (by kernel_rfl) rfl deltaFrom.plain (by kernel_rfl)
#print axioms deltaFrom_card
end Go.Proofs.YtgnampbbkaolmaaDoor
