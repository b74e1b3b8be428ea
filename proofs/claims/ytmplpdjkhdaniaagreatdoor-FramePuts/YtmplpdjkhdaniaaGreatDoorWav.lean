/-
  What Check answers.
-/
import Derived.Test.YtmplpdjkhdaniaaGreatDoorWat
import Derived.Test.YtmplpdjkhdaniaaGreatDoorWau
namespace Go.Proofs.YtmplpdjkhdaniaaGreatDoor
open Go.RowKit
set_option maxRecDepth 100000

/-- What the walks ask of a plain form that is handed in. -/
structure FI (w : World) (p : Fm) (sv : Value) : Prop where
  k : FK p
  s : SSp w sv p.sp
  l : p.sp.length ≤ 100000
  t : p.tx.size ≤ 140737488355328
theorem FI.kept {w w' : World} {p : Fm} {sv : Value} (h : FI w p sv) (hb : Below w.heap.size w w') : FI w' p sv := ⟨h.k, h.s.kept hb, h.l, h.t⟩
set_option maxHeartbeats 8000000 in
theorem checkF_any (p : Fm) (sv : Value) (w : World) (ht : Tb w) (hi : FI w p sv) :
    Calls Tryz.prog 8 #[.agg (plA p sv)] w fun e w' => e = .returned (.int .i64 (chkM p)) ∧ Below w.heap.size w w' := by
  obtain ⟨kn, hkn⟩ : ∃ kn : Nat, p.k = kn := ⟨p.k.toNat, by have := hi.k.k0; omega⟩
  obtain ⟨W1, hW1⟩ : ∃ W1, W1 = w.alloc (.cells (plA p sv) 33) := ⟨_, rfl⟩
  have b1 : Below w.heap.size w W1 := by rw [hW1]; exact al_below _ _
  have s1 : W1.heap.size = w.heap.size + 1 := by rw [hW1]; simp
  have g1 : PF W1 w.heap.size 33 p sv := by rw [hW1]; exact PF.new w _ p sv
  have FK1 : Hid (∀ x, Below W1.heap.size W1 x → x.cell? ⟨w.heap.size, 0, none⟩ = some (.int .u8 (kn : Int)) ∧ x.cell? ⟨w.heap.size, 1, none⟩ = some (.int .i64 p.id) ∧ x.cell? ⟨w.heap.size, 2, none⟩ = some (.int .i64 p.n) ∧ x.cell? ⟨w.heap.size, 3, none⟩ = some (.int .i64 p.cd) ∧ x.cell? ⟨w.heap.size, 5, none⟩ = some (.string p.tx) ∧ x.cell? ⟨w.heap.size, 22, none⟩ = some sv) := fun x hx => by
    have q := (g1.kept hx).pc hi.k.nl
    exact ⟨by rw [q.c0, hkn], q.c1, q.c2, q.c3, q.c5, q.c22⟩
  have FR1 : Hid (∀ x, Below W1.heap.size W1 x → x.rangeAt w.heap.size 0 (plL p sv)) := fun x hx => (g1.kept hx).range
  have HB1 : Hid (Below w.heap.size w W1) := b1
  have HS1 : Hid (W1.heap.size = w.heap.size + 1) := s1
  have HI : Hid (FI w p sv) := hi
  have HLN : Hid ((Tryz.prog.info? 33).map (·.size) = some (plL p sv).length) := by unfold Hid; rw [plL_len hi.k.nl]; exact infoP
  obtain ⟨sa, sc, rfl, hs2, hs3, hs4⟩ := hi.s.shape
  have CF : Hid (∀ W, Calls Tryz.prog 26 #[.agg (plA p (.slice sa p.sp.length sc))] W fun e w' => e = .returned (.int .i64 (filM p)) ∧ Below W.heap.size W w') := fun W => filled_any p _ sa sc rfl hi.k.nl W
  have hn0 := hi.k.n0
  have hn1 := hi.k.n1
  clear b1 s1 g1 hs2 hs3 hs4
  have ck := isK_any (kn : Int) W1
  by_cases hK : isK p.k = true
  · have HK : Hid (isK p.k = true) := hK
    have hk10 : kn ≤ 10 := by unfold isK at hK; simp at hK; omega
    have htb := (ht.below HB1.out ht.pos).s kn hk10
    have HFB := fil_bad p (by omega) (by omega)
    rw [hkn] at hK HFB
    rw [hK] at ck
    have CH : Hid (∀ W, Calls Tryz.prog 28 #[.agg #[.int .i64 (pkN kn), .int .i64 (mT kn)], .int .i64 64] W fun e w' => e = .returned (.bool (hS kn)) ∧ Below W.heap.size W w') := fun W => has_k kn (by omega) (by omega) W 64 _ (by simp)
    have hmt := mT_le (kn : Int)
    obtain ⟨t0, t1⟩ := htb
    obtain ⟨W2, hW2⟩ : ∃ W2, W2 = W1.alloc (.cells #[.int .i64 (pkN kn), .int .i64 (mT kn)] 57) := ⟨_, rfl⟩
    have b2 : Below W1.heap.size W1 W2 := by rw [hW2]; exact al_below _ _
    have g2 : W2.heap[W1.heap.size]? = some (.cells #[.int .i64 (pkN kn), .int .i64 (mT kn)] 57 (0, 0)) := by rw [hW2]; exact heap_alloc_new _ _
    have FS : Hid (∀ x, From W2 x → x.cell? ⟨W1.heap.size, 0, none⟩ = some (.int .i64 (pkN kn)) ∧ x.cell? ⟨W1.heap.size, 1, none⟩ = some (.int .i64 (mT kn))) := fun x hx => by
      have := blk_kept g2 hx (blk_lt g2)
      exact ⟨by simp [World.cell?, this], by simp [World.cell?, this]⟩
    have HB2 : Hid (Below W1.heap.size W1 W2) := b2
    have FK : Hid (∀ x, From W2 x → x.cell? ⟨w.heap.size, 0, none⟩ = some (.int .u8 (kn : Int)) ∧ x.cell? ⟨w.heap.size, 1, none⟩ = some (.int .i64 p.id) ∧ x.cell? ⟨w.heap.size, 2, none⟩ = some (.int .i64 p.n) ∧ x.cell? ⟨w.heap.size, 3, none⟩ = some (.int .i64 p.cd) ∧ x.cell? ⟨w.heap.size, 5, none⟩ = some (.string p.tx) ∧ x.cell? ⟨w.heap.size, 22, none⟩ = some (.slice sa p.sp.length sc)) := fun x hx => FK1.out x (HB2.out.trans (Below.mono hx HB2.out.size))
    have FR : Hid (∀ x, From W2 x → x.rangeAt w.heap.size 0 (plL p (.slice sa p.sp.length sc))) := fun x hx => FR1.out x (HB2.out.trans (Below.mono hx HB2.out.size))
    have hks := (FK1.out W1 (Below.refl _ _)).1
    obtain ⟨bb, hbb⟩ : ∃ bb, bb = (bits .andNot .i64 (filM p) (pkN kn) != 0) := ⟨_, rfl⟩
    have HBB : Hid (bb = (bits .andNot .i64 (filM p) (pkN kn) != 0)) := hbb
    have HBQ : Hid (bb = decide (badF p)) := hbb.trans HFB
    have hk11 : (kn : Int) < 11 := by omega
    have HM : Hid (kn ≤ 10 ∧ p.k = kn) := ⟨hk10, hkn⟩
    clear hK b2 g2 hbb HFB hkn ht hi hk10
    generalize pkN (kn : Int) = pk at *
    have HMT0 : Hid (mT (kn : Int) = mT (kn : Int)) := rfl
    obtain ⟨mt, hmt0⟩ : ∃ mt, mt = mT (kn : Int) := ⟨_, rfl⟩
    have HMT : Hid (mT (kn : Int) = mt) := hmt0.symm
    rw [← hmt0] at t1 CH hW2 FS hmt
    clear HMT0 hmt0
    go_enter Tryz.func8, Tryz.ntmps8
    go_upto_region 1 with fail
    rw [← hW1]
    clear hW1
    go_wp2_with fail
    refine ck.mono ?_
    rintro e wq ⟨rfl, eq⟩
    rw [eq]
    clear ck eq wq
    go_upto_region 4 with fail
    rw [← hW2]
    clear hW2
    refine wp_region_held_drew (S := From W2) (by kernel_rfl) (Below.drew (Below.refl _ _)) (fun _ => ?_)
    refine wpAnyH_name (fun u0 hu0 => ?_)
    have bu0 : Below W2.heap.size W2 u0 := by rw [hu0.out]; exact Below.drew (Below.refl _ _)
    refine wpAnyH_take (i := 0) (oi := { dst := some 14, op := Op.load 33 (Operand.tmp 1), type := 33, pos := "frame.go:147", after := #[], guard := none }) (v := .agg (plA p (.slice sa p.sp.length sc))) rfl (by kernel_rfl) (by kernel_rfl) (by kernel_rfl) (fun _ _ _ h => h) (yieldsIf_load_mid (by rfl) 33 _ rfl w.heap.size 0 rfl (plL p (.slice sa p.sp.length sc)) _ (fun x hx => FR.out x hx) Tryz.underlying33 rfl HLN.out) bu0 ?_
    try simp only [Act.put, List.setIfInBounds_toArray, List.set_cons_zero, List.set_cons_succ]
    refine wpAnyH_take (i := 2) (oi := { dst := some 16, op := Op.fieldAddr 57 (Operand.tmp 3) 0, type := 0, pos := "frame.go:147", after := #[], guard := none }) (v := ?vr2) rfl (by kernel_rfl) (by kernel_rfl) (by kernel_rfl) (fun _ _ _ h => h) (Or.inl ⟨by rfl, ?yr2⟩) bu0 ?rr2
    case yr2 => (intro w hSw; go_simp; try with_reducible rfl)
    try simp only [Act.put, List.setIfInBounds_toArray, List.set_cons_zero, List.set_cons_succ]
    refine wpAnyH_take (i := 3) (oi := { dst := some 17, op := Op.load 3 (Operand.tmp 16), type := 3, pos := "frame.go:147", after := #[{ on := 2, ground := Ground.data }], guard := none }) (v := .int .i64 pk) rfl (by kernel_rfl) (by kernel_rfl) (by kernel_rfl) (fun _ _ _ h => h) (Or.inl ⟨by rfl, ?yr3⟩) bu0 ?rr3
    case yr3 => (intro w hSw; have := (FS.out w hSw).1; go_simp; try with_reducible rfl)
    try simp only [Act.put, List.setIfInBounds_toArray, List.set_cons_zero, List.set_cons_succ]
    refine wpAnyH_ready (rs := [1]) (by kernel_rfl) (by simp) ?_
    refine AllReadyH.cons (o := { dst := some 15, op := Op.call { callee := Callee.value (Operand.func 26), args := #[Operand.tmp 14], argTypes := #[33] }, type := 3, pos := "frame.go:147", after := #[{ on := 0, ground := Ground.data }], guard := none }) rfl (fun KK hKK => ?_) ?_
    · go_simp
      refine (CF.out _).mono ?_
      rintro e u4' ⟨rfl, bu4'⟩
      (try go_wp2_with fail)
      refine hKK.out _ _ (bu0.trans (Below.mono (bu4') bu0.size)) (fun _ => ?_)
      clear hKK KK
      try simp only [Act.put, List.setIfInBounds_toArray, List.set_cons_zero, List.set_cons_succ]
      refine wpAnyH_name (fun u4 hu4 => ?_)
      have bu4 : Below W2.heap.size W2 u4 := by rw [hu4.out]; exact (bu0.trans (Below.mono (bu4') bu0.size))
      refine wpAnyH_take (i := 4) (oi := { dst := some 18, op := Op.binOp BinOp.andNot 3 (Operand.tmp 15) (Operand.tmp 17) 3, type := 3, pos := "frame.go:147", after := #[{ on := 1, ground := Ground.data }, { on := 3, ground := Ground.data }], guard := none }) (v := .int .i64 (bits .andNot .i64 (filM p) pk)) rfl (by kernel_rfl) (by kernel_rfl) (by kernel_rfl) (fun _ _ _ h => h) (Or.inl ⟨by rfl, ?yr5⟩) bu4 ?rr5
      case yr5 => (intro w hSw; go_simp; try with_reducible rfl)
      try simp only [Act.put, List.setIfInBounds_toArray, List.set_cons_zero, List.set_cons_succ]
      refine wpAnyH_take (i := 5) (oi := { dst := some 19, op := Op.binOp BinOp.neq 3 (Operand.tmp 18) (Operand.const (Value.int IntKind.i64 0)) 3, type := 4, pos := "frame.go:147", after := #[{ on := 4, ground := Ground.data }], guard := none }) (v := .bool bb) rfl (by kernel_rfl) (by kernel_rfl) (by kernel_rfl) (fun _ _ _ h => h) (Or.inl ⟨by rfl, ?yr6⟩) bu4 ?rr6
      case yr6 => (intro w hSw; rw [HBB.out]; go_simp; try with_reducible rfl)
      try simp only [Act.put, List.setIfInBounds_toArray, List.set_cons_zero, List.set_cons_succ]
      refine wpAnyH_take (i := 6) (oi := { dst := some 13, op := Op.assign (Operand.tmp 19), type := 4, pos := "frame.go:147", after := #[{ on := 5, ground := Ground.data }, { on := 1, ground := Ground.chain }], guard := none }) (v := ?vr7) rfl (by kernel_rfl) (by kernel_rfl) (by kernel_rfl) (fun _ _ _ h => h) (Or.inl ⟨by rfl, ?yr7⟩) bu4 ?rr7
      case yr7 => (intro w hSw; go_simp; try with_reducible rfl)
      try simp only [Act.put, List.setIfInBounds_toArray, List.set_cons_zero, List.set_cons_succ]
      refine wpAnyH_done (by kernel_rfl) ?_ _
      have BZ0 : Hid (From W2 u4) := bu4
      have HW5 : Hid (∀ x, From W2 x → Below w.heap.size w x) := fun x hx => HB1.out.trans ((HB2.out.trans (Below.mono hx HB2.out.size)).mono HB1.out.size)
      generalize hu : u4 = U0 at *
      have BZ : Hid (From W2 U0) := BZ0.out
      have BW : Hid (Below w.heap.size w U0) := HW5.out U0 BZ.out
      obtain ⟨k0, k1, k2, k3, k5, k22⟩ := FK.out U0 BZ.out
      obtain ⟨s0, s1⟩ := FS.out U0 BZ.out
      clear BZ0
      by_cases hb : badF p
      · have HR : Hid (chkM p = 4) := by unfold Hid chkM; rw [if_neg (by rw [HK.out]; decide), if_pos hb]
        obtain rfl : bb = true := by rw [HBQ.out]; simpa using hb
        go_wp2
        go_ret
        exact ⟨by rw [HR.out]; rfl, BW.out⟩
      · obtain rfl : bb = false := by rw [HBQ.out]; simpa using hb
        have cu1 := upTo_any p.id 1048576 U0
        by_cases q1 : 0 ≤ p.id ∧ p.id ≤ 1048576
        · have e1 : (decide (0 ≤ p.id) && decide (p.id ≤ 1048576)) = true := by simp [q1.1, q1.2]
          have Q1 : Hid (0 ≤ p.id ∧ p.id ≤ 1048576) := q1
          rw [e1] at cu1
          clear e1 q1
          go_wp2_with fail
          refine cu1.mono ?_
          rintro e wq ⟨rfl, eq⟩
          rw [eq]
          clear cu1 eq wq
          have cu2 := upTo_any p.cd 65536 U0
          by_cases q2 : 0 ≤ p.cd ∧ p.cd ≤ 65536
          · have e2 : (decide (0 ≤ p.cd) && decide (p.cd ≤ 65536)) = true := by simp [q2.1, q2.2]
            have Q2 : Hid (0 ≤ p.cd ∧ p.cd ≤ 65536) := q2
            rw [e2] at cu2
            clear e2 q2
            go_wp2_with fail
            refine cu2.mono ?_
            rintro e wq ⟨rfl, eq⟩
            rw [eq]
            clear cu2 eq wq
            have cu3 := upTo_any p.n 1099511627776 U0
            by_cases q3 : 0 ≤ p.n ∧ p.n ≤ 1099511627776
            · have e3 : (decide (0 ≤ p.n) && decide (p.n ≤ 1099511627776)) = true := by simp [q3.1, q3.2]
              have Q3 : Hid (0 ≤ p.n ∧ p.n ≤ 1099511627776) := q3
              rw [e3] at cu3
              clear e3 q3
              go_wp2_with fail
              refine cu3.mono ?_
              rintro e wq ⟨rfl, eq⟩
              rw [eq]
              clear cu3 eq wq
              have HNB : Hid (¬ badF p) := hb
              have HNO : Hid (¬ outF p) := by have := Q1.out; have := Q2.out; have := Q3.out; unfold Hid outF; omega
              have HNN : Hid (0 ≤ p.n ∧ p.n ≤ 1099511627776) := Q3.out
              clear hb Q1 Q2 Q3
              have ch := CH.out U0
              by_cases hs : hS (kn : Int) = true
              · rw [hs] at ch
                go_wp2_with fail
                refine ch.mono ?_
                rintro e w5 ⟨rfl, b5⟩
                have F5 : Hid (From W2 w5) := BZ.out.trans (Below.mono b5 BZ.out.size)
                have cc := check_any w5 _ p.sp (HI.out.s.kept (HW5.out w5 F5.out)) HI.out.l
                obtain ⟨k0, k1, k2, k3, k5, k22⟩ := FK.out w5 F5.out
                obtain ⟨s0, s1⟩ := FS.out w5 F5.out
                clear ch b5
                go_wp2_with fail
                refine cc.mono ?_
                rintro e w6 ⟨rfl, b6⟩
                have F6 : Hid (From W2 w6) := F5.out.trans (Below.mono b6 F5.out.size)
                clear cc b6 k0 k1 k2 k3 k5 k22 s0 s1
                obtain ⟨k0, k1, k2, k3, k5, k22⟩ := FK.out w6 F6.out
                obtain ⟨s0, s1⟩ := FS.out w6 F6.out
                have BX : Hid (Below w.heap.size w w6) := HW5.out w6 F6.out
                by_cases hc : chkL p.sp = 0
                · have HNS : Hid (¬ (hS p.k = true ∧ chkL p.sp ≠ 0)) := fun q => q.2 hc
                  have tc : (chkL p.sp != 0) = false := by rw [hc]; rfl
                  clear hc
                  by_cases h5 : mt < (p.tx.size : Int)
                  · have HR : Hid (chkM p = 5) := by unfold Hid chkM; rw [if_neg (by rw [HK.out]; decide), if_neg HNB.out, if_neg HNO.out, if_neg HNS.out, if_pos (by rw [HM.out.2, HMT.out]; exact h5)]
                    go_wp2
                    go_ret
                    exact ⟨by rw [HR.out]; rfl, BX.out⟩
                  · have h5' : ¬ mt < (p.tx.size : Int) := h5
                    by_cases h3 : (kn : Int) = 3
                    · have t3 : ((kn : Int) == 3) = true := by rw [h3]; rfl
                      have hno := HNN.out
                      have sw : IntKind.i64.wrap (p.n + (p.tx.size : Int)) = p.n + (p.tx.size : Int) := by rw [IntKind.wrap_i64]; omega
                      by_cases h6 : 1099511627776 < p.n + (p.tx.size : Int)
                      · have HR : Hid (chkM p = 13) := by unfold Hid chkM; rw [if_neg (by rw [HK.out]; decide), if_neg HNB.out, if_neg HNO.out, if_neg HNS.out, if_neg (by rw [HM.out.2, HMT.out]; exact h5), if_pos (by rw [HM.out.2]; exact ⟨h3, h6⟩)]
                        have t6 : decide (p.n + (p.tx.size : Int) > 1099511627776) = true := by simp; omega
                        clear h3
                        go_wp2
                        go_ret
                        exact ⟨by rw [HR.out]; rfl, BX.out⟩
                      · have HR : Hid (chkM p = 0) := by unfold Hid chkM; rw [if_neg (by rw [HK.out]; decide), if_neg HNB.out, if_neg HNO.out, if_neg HNS.out, if_neg (by rw [HM.out.2, HMT.out]; exact h5), if_neg (fun q => h6 q.2)]
                        have t6 : decide (p.n + (p.tx.size : Int) > 1099511627776) = false := by simp; omega
                        clear h3
                        go_wp2
                        go_ret
                        exact ⟨by rw [HR.out]; rfl, BX.out⟩
                    · have t3 : ((kn : Int) == 3) = false := by simpa using h3
                      have HR : Hid (chkM p = 0) := by unfold Hid chkM; rw [if_neg (by rw [HK.out]; decide), if_neg HNB.out, if_neg HNO.out, if_neg HNS.out, if_neg (by rw [HM.out.2, HMT.out]; exact h5), if_neg (by rw [HM.out.2]; exact fun q => h3 q.1)]
                      clear h3
                      go_wp2
                      go_ret
                      exact ⟨by rw [HR.out]; rfl, BX.out⟩
                · have HR : Hid (chkM p = chkL p.sp) := by unfold Hid chkM; rw [if_neg (by rw [HK.out]; decide), if_neg HNB.out, if_neg HNO.out, if_pos ⟨by rw [HM.out.2]; exact hs, hc⟩]
                  have tc : (chkL p.sp != 0) = true := by simpa using hc
                  clear hc
                  go_wp2
                  go_ret
                  exact ⟨by rw [HR.out]; rfl, BX.out⟩
              · have hs' : hS (kn : Int) = false := by simpa using hs
                have HNS : Hid (¬ (hS p.k = true ∧ chkL p.sp ≠ 0)) := by rw [HM.out.2]; exact fun q => hs q.1
                rw [hs'] at ch
                go_wp2_with fail
                refine ch.mono ?_
                rintro e w6 ⟨rfl, b6⟩
                have F6 : Hid (From W2 w6) := BZ.out.trans (Below.mono b6 BZ.out.size)
                clear ch b6 k0 k1 k2 k3 k5 k22 s0 s1
                obtain ⟨k0, k1, k2, k3, k5, k22⟩ := FK.out w6 F6.out
                obtain ⟨s0, s1⟩ := FS.out w6 F6.out
                have BX : Hid (Below w.heap.size w w6) := HW5.out w6 F6.out
                by_cases h5 : mt < (p.tx.size : Int)
                · have HR : Hid (chkM p = 5) := by unfold Hid chkM; rw [if_neg (by rw [HK.out]; decide), if_neg HNB.out, if_neg HNO.out, if_neg HNS.out, if_pos (by rw [HM.out.2, HMT.out]; exact h5)]
                  go_wp2
                  go_ret
                  exact ⟨by rw [HR.out]; rfl, BX.out⟩
                · have h5' : ¬ mt < (p.tx.size : Int) := h5
                  by_cases h3 : (kn : Int) = 3
                  · have t3 : ((kn : Int) == 3) = true := by rw [h3]; rfl
                    have hno := HNN.out
                    have sw : IntKind.i64.wrap (p.n + (p.tx.size : Int)) = p.n + (p.tx.size : Int) := by rw [IntKind.wrap_i64]; omega
                    by_cases h6 : 1099511627776 < p.n + (p.tx.size : Int)
                    · have HR : Hid (chkM p = 13) := by unfold Hid chkM; rw [if_neg (by rw [HK.out]; decide), if_neg HNB.out, if_neg HNO.out, if_neg HNS.out, if_neg (by rw [HM.out.2, HMT.out]; exact h5), if_pos (by rw [HM.out.2]; exact ⟨h3, h6⟩)]
                      have t6 : decide (p.n + (p.tx.size : Int) > 1099511627776) = true := by simp; omega
                      clear h3
                      go_wp2
                      go_ret
                      exact ⟨by rw [HR.out]; rfl, BX.out⟩
                    · have HR : Hid (chkM p = 0) := by unfold Hid chkM; rw [if_neg (by rw [HK.out]; decide), if_neg HNB.out, if_neg HNO.out, if_neg HNS.out, if_neg (by rw [HM.out.2, HMT.out]; exact h5), if_neg (fun q => h6 q.2)]
                      have t6 : decide (p.n + (p.tx.size : Int) > 1099511627776) = false := by simp; omega
                      clear h3
                      go_wp2
                      go_ret
                      exact ⟨by rw [HR.out]; rfl, BX.out⟩
                  · have t3 : ((kn : Int) == 3) = false := by simpa using h3
                    have HR : Hid (chkM p = 0) := by unfold Hid chkM; rw [if_neg (by rw [HK.out]; decide), if_neg HNB.out, if_neg HNO.out, if_neg HNS.out, if_neg (by rw [HM.out.2, HMT.out]; exact h5), if_neg (by rw [HM.out.2]; exact fun q => h3 q.1)]
                    clear h3
                    go_wp2
                    go_ret
                    exact ⟨by rw [HR.out]; rfl, BX.out⟩
            · have e3 : (decide (0 ≤ p.n) && decide (p.n ≤ 1099511627776)) = false := by simp; omega
              have HR : Hid (chkM p = 13) := by unfold Hid chkM; rw [if_neg (by rw [HK.out]; decide), if_neg hb, if_pos (by unfold outF; omega)]
              rw [e3] at cu3
              clear e3 q3 hb
              go_wp2_with fail
              refine cu3.mono ?_
              rintro e wq ⟨rfl, eq⟩
              rw [eq]
              clear cu3 eq wq
              go_wp2
              go_ret
              exact ⟨by rw [HR.out]; rfl, BW.out⟩
          · have e2 : (decide (0 ≤ p.cd) && decide (p.cd ≤ 65536)) = false := by simp; omega
            have HR : Hid (chkM p = 13) := by unfold Hid chkM; rw [if_neg (by rw [HK.out]; decide), if_neg hb, if_pos (by unfold outF; omega)]
            rw [e2] at cu2
            clear e2 q2 hb
            go_wp2_with fail
            refine cu2.mono ?_
            rintro e wq ⟨rfl, eq⟩
            rw [eq]
            clear cu2 eq wq
            go_wp2
            go_ret
            exact ⟨by rw [HR.out]; rfl, BW.out⟩
        · have e1 : (decide (0 ≤ p.id) && decide (p.id ≤ 1048576)) = false := by simp; omega
          have HR : Hid (chkM p = 13) := by unfold Hid chkM; rw [if_neg (by rw [HK.out]; decide), if_neg hb, if_pos (by unfold outF; omega)]
          rw [e1] at cu1
          clear e1 q1 hb
          go_wp2_with fail
          refine cu1.mono ?_
          rintro e wq ⟨rfl, eq⟩
          rw [eq]
          clear cu1 eq wq
          go_wp2
          go_ret
          exact ⟨by rw [HR.out]; rfl, BW.out⟩
    exact AllReadyH.nil
  · have hK' : isK p.k = false := by simpa using hK
    have HR : Hid (chkM p = 9) := by unfold Hid chkM; rw [if_pos hK']
    have hks := (FK1.out W1 (Below.refl _ _)).1
    rw [hkn] at hK'
    rw [hK'] at ck
    clear hK hK' hkn ht hi
    go_enter Tryz.func8, Tryz.ntmps8
    go_upto_region 1 with fail
    rw [← hW1]
    clear hW1
    go_wp2_with fail
    refine ck.mono ?_
    rintro e wq ⟨rfl, eq⟩
    rw [eq]
    clear ck eq wq
    go_wp2
    go_ret
    exact ⟨by rw [HR.out]; rfl, HB1.out⟩
end Go.Proofs.YtmplpdjkhdaniaaGreatDoor
