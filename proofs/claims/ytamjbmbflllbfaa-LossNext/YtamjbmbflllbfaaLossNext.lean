/-
  At the time that Next tells, the packet that was open longest below the largest is lost, a tick sooner none: for every at most 200 calls (of at most 70 spans each) and every span of time below 2^20.
-/
import Derived.Test.YtamjbmbflllbfaaPkN
import Derived.Test.YtamjbmbflllbfaaPkN
import Derived.Test.YtamjbmbflllbfaaPkN
namespace Go.Proofs.Ytamjbmbflllbfaa.lossNext
open Go.ChangeShapes Go.WideShapes Go.ChangeAt Go.RowKit Go.Deep Go.ChangeMaps
set_option maxRecDepth 100000

set_option maxHeartbeats 8000000 in
theorem walk (v0 : Value) (l : List Atc) (a1 : Int) (w : World) (hq : AQ w v0 l) (h1 : (Lit.int .u32 a1).wf = true) :
    Calls Try.prog 7 #[v0, .int .u32 a1] w fun e w' => e = .returned (.bool true) ∧ Below w.heap.size w w' := by
  have nb1 := bounds_u32 h1
  clear h1
  have cf := few_any w v0 l hq
  obtain ⟨a, c, rfl, -⟩ := id hq.shape
  have CA : Hid (∀ W, Calls Try.prog 9 #[] W fun e w' => e = .returned (.bool true) ∧ Below W.heap.size W w') := awake_any
  cases hf : fewB l with
  | false =>
    rw [hf] at cf
    generalize l.length = n9 at *
    clear hq hf
    go_enter Try.func7, Try.ntmps7
    go_wp2_with fail
    refine cf.mono ?_
    rintro e w1 ⟨rfl, b1⟩
    have HB1 : Hid (Below w.heap.size w w1) := b1
    have ca := CA.out w1
    clear cf b1
    go_wp2_with fail
    refine ca.mono ?_
    rintro e w2 ⟨rfl, b2⟩
    have HB2 : Hid (Below w.heap.size w w2) := HB1.out.trans (b2.mono HB1.out.size)
    clear ca b2
    go_wp2
    go_ret
    exact ⟨rfl, HB2.out⟩
  | true =>
    rw [hf] at cf
    obtain ⟨hn200, h70⟩ := fewB_iff.1 hf
    have HQ : Hid (∀ i, i < l.length → okA w (atA l i) ∧ (atA l i).L.length ≤ 70 ∧ plS l (i + 1) = nxS (plS l i) (atA l i)) := fun i hi => ⟨hq.ok _ (atA_mem l i hi), h70 _ (atA_mem l i hi), plS_succ l i hi⟩
    have HAT : Hid (∀ j, j < l.length → ∀ W, Below w.heap.size w W → ∃ b off, a = some ⟨b, off, none⟩ ∧ AC W b (off + j * 8) (atA l j)) := fun j hj W hb => by
      obtain ⟨b, off, e, q⟩ := AQ.at (hq.kept hb) j hj
      exact ⟨b, off, e, aC q⟩
    have HEND : Hid ((plS l l.length).ok) := plS_ok l _ (Nat.le_refl _)
    clear hf hq h70
    generalize hn9 : l.length = n9 at *
    clear hn9
    obtain ⟨r1, rfl⟩ : ∃ m : Nat, a1 = m := ⟨a1.toNat, by omega⟩
    have c1 : IntKind.i64.wrap (r1 : Int) = (r1 : Int) := by rw [IntKind.wrap_i64]; omega
    obtain ⟨la, hla, m1⟩ : ∃ la : Nat, la < 1048576 ∧ Int.tmod (r1 : Int) 1048576 = (la : Int) := ⟨r1 % 1048576, Nat.mod_lt _ (by decide), rfl⟩
    have e1 : IntKind.i64.wrap (la : Int) = (la : Int) := by rw [IntKind.wrap_i64]; omega
    have HC : Hid (IntKind.i64.wrap (r1 : Int) = (r1 : Int) ∧ Int.tmod (r1 : Int) 1048576 = (la : Int) ∧ IntKind.i64.wrap (la : Int) = (la : Int) ∧ la < 1048576) := ⟨c1, m1, e1, hla⟩
    clear c1 m1 e1 hla nb1
    go_enter Try.func7, Try.ntmps7
    go_wp2_with fail
    refine cf.mono ?_
    rintro e w1 ⟨rfl, b1⟩
    have cn := lnew_any w1 w.heap.size
    obtain ⟨g, eg⟩ : ∃ x, x = w1.heap.size := ⟨_, rfl⟩
    rw [← eg] at cn
    have HB1 : Hid (Below w.heap.size w w1) := b1
    have HGW : Hid (w.heap.size ≤ g) := by rw [eg]; exact b1.size
    clear cf b1 eg
    go_wp2_with fail
    refine cn.mono ?_
    rintro e w2 ⟨rfl, q2, ls⟩
    have b2 : Below w1.heap.size w1 w2 := by rw [q2]; exact al_b _ _
    have HB2 : Hid (Below w.heap.size w w2) := HB1.out.trans (b2.mono HB1.out.size)
    have HL2 : Hid (LS w2 w.heap.size g (.slice none 0 0) lg0) := ls
    have cr := rnew_any w2 w.heap.size
    clear cn q2 ls b2
    go_wp2_with fail
    refine cr.mono ?_
    rintro e w3 ⟨rfl, b3, ds⟩
    obtain ⟨W4, hW4⟩ : ∃ W4, W4 = w3.alloc (.cells #[.slice none 0 0, .int .i64 0, .int .i64 0, .int .i64 0, .int .i64 0, .bool false, .int .i64 0] 31) := ⟨_, rfl⟩
    obtain ⟨W5, hW5⟩ : ∃ W5, W5 = W4.setRow w3.heap.size (dc (.slice none 0 0) 0 pk0 (-1)) := ⟨_, rfl⟩
    have b4 : Below w3.heap.size w3 W4 := by rw [hW4]; exact al_b _ _
    have b5 : Below w3.heap.size w3 W5 := by rw [hW5]; exact below_setRow b4 (Nat.le_refl _) _
    have HG4 : Hid ((w3.alloc (.cells #[.slice none 0 0, .int .i64 0, .int .i64 0, .int .i64 0, .int .i64 0, .bool false, .int .i64 0] 31)).heap[w3.heap.size]? = some (.cells #[.slice none 0 0, .int .i64 0, .int .i64 0, .int .i64 0, .int .i64 0, .bool false, .int .i64 0] 31 (0, 0))) := heap_alloc_new _ _
    have HG5 : Hid (W5.heap[w3.heap.size]? = some (.cells (dc (.slice none 0 0) 0 pk0 (-1)) 31 (0, 0))) := by unfold Hid; rw [hW5, hW4]; exact setRow_heap _ _ _ _ _ _ HG4.out
    have HT5 : Hid (TW W5 w.heap.size g (.slice none 0 0) (.slice none 0 0) 0 pk0 lg0) := (TW.mk (HL2.out.below b3) ds).below b5
    have HB3 : Hid (Below w.heap.size w w3) := HB2.out.trans (b3.mono HB2.out.size)
    have HB5 : Hid (Below w.heap.size w W5) := HB3.out.trans (b5.mono HB3.out.size)
    have HDW : Hid (w.heap.size ≤ w3.heap.size) := HB3.out.size
    clear cr b3 ds b4 b5
    go_wp2_with (refine wpList_store_row rfl 31 _ _ rfl w3.heap.size (dc (.slice none 0 0) 0 pk0 (-1)) rfl rfl 31 _ HG4.out sizeD rfl (dc_one _ _ _ _ _ _) (Hid.out ?_))
    unfold Hid
    rw [← hW4, ← hW5]
    clear hW4 hW5 HG4
    generalize w3.heap.size = hD at *
    go_wp2_with fail
    go_loopw [7] (fun u wr => ∃ (i : Nat) (v dv : Value) (k : Int) (d : Pk), i ≤ n9 ∧ u = .int .i64 i ∧ TW wr w.heap.size g v dv k d (plS l i) ∧ k ≤ (i : Int) ∧ wr.heap[hD]? = some (.cells (dc dv k d (plS l i).g) 31 (0, 0)) ∧ Below w.heap.size w wr) (fun u _ => n9 - (intOf u).toNat)
    case atStart => exact ⟨0, _, _, _, _, by omega, rfl, HT5.out, by omega, HG5.out, HB5.out⟩
    case round =>
      obtain ⟨i, v, dv, k, d, hi, rfl, tw, hk, hgd, bel⟩ := hrel
      have HB : Hid (Below w.heap.size w wr) := bel
      have HT : Hid (TW wr w.heap.size g v dv k d (plS l i)) := tw
      have HGD : Hid (wr.heap[hD]? = some (.cells (dc dv k d (plS l i).g) 31 (0, 0))) := hgd
      clear HB1 HB2 HB3 HB5 HT5 HG5 HL2 bel tw hgd
      by_cases hin : i < n9
      · have lt2 : (i : Int) < (n9 : Int) := by omega
        obtain ⟨b, off, rfl, hac⟩ := HAT.out i hin wr HB.out
        obtain ⟨oq, l7, es⟩ := HQ.out i hin
        obtain ⟨da, dk, rfl, -⟩ := id HT.out.ds.rs.is.shape
        have HAC : Hid (∀ x, Below wr.heap.size wr x → AC x b (off + i * 8) (atA l i)) := fun x hx => by
          obtain ⟨b', off', e, q⟩ := HAT.out i hin x (HB.out.trans (hx.mono HB.out.size))
          cases e
          exact q
        have HES : Hid (plS l (i + 1) = nxS (plS l i) (atA l i)) := es
        have CD : Hid (∀ x, Below wr.heap.size wr x → Calls Try.prog 12 #[.pointer (some ⟨g, 0, none⟩), .agg (dc (.slice da (plS l i).o.length dk) k d (plS l i).g), .agg #[.int .u8 (atA l i).k, .int .i64 (atA l i).p.n, .int .i64 (atA l i).p.t, .int .i64 (atA l i).p.z, .bool (atA l i).p.a, (atA l i).u, .int .i64 (atA l i).n, .int .i64 (atA l i).l]] x fun e w' => ∃ dv' v' k' d', e = .returned (.tuple #[.agg (dc dv' k' d' (nxS (plS l i) (atA l i)).g), .bool true]) ∧ TW w' w.heap.size g v' dv' k' d' (nxS (plS l i) (atA l i)) ∧ LU x w' g v v' ∧ k' ≤ k + 1) := fun x hx => do_any x w g v _ (plS l i) k d (atA l i) (HT.out.below hx) HGW.out (HB.out.trans (hx.mono HB.out.size)) oq l7 (by omega)
        have HDC : Hid (∀ x, Below wr.heap.size wr x → DC x hD (.slice da (plS l i).o.length dk) k d (plS l i).g) := fun x hx => DB.dc (blk_kept HGD.out hx (blk_lt HGD.out))
        have HKI : Hid (k ≤ (i : Int)) := hk
        clear oq l7 es hk hac
        rw [← HES.out] at CD
        generalize hs9 : plS l (i + 1) = s9 at *
        have HS9 : Hid (plS l (i + 1) = s9) := hs9
        clear hs9
        generalize plS l i = s at *
        generalize atA l i = q at *
        generalize s.o.length = n8 at *
        go_wp2_with fail
        refine wp_region_held_drew (S := fun _ => True) (by kernel_rfl) trivial (fun _ => ?_)
        refine wpAnyH_name (fun u0 hu0 => ?_)
        have bu0 : Below wr.heap.size wr u0 := by rw [hu0.out]; exact (Below.refl _ _).drew
        have Du0 : Below wr.heap.size wr u0 := by rw [hu0.out]; exact (Below.refl _ _).drew
        refine wpAnyH_take (i := 0) (oi := { dst := some 24, op := Op.move (Operand.tmp 5), type := 25, pos := "own.go:80", after := #[], guard := none }) (v := ?vr1) rfl (by kernel_rfl) (by kernel_rfl) (by kernel_rfl) (fun _ _ _ h => h) (Or.inl ⟨by rfl, ?yr1⟩) trivial ?rr1
        case yr1 => (intro w hSw; go_simp; try with_reducible rfl)
        try simp only [Act.put, List.setIfInBounds_toArray, List.set_cons_zero, List.set_cons_succ]
        refine wpAnyH_take (i := 2) (oi := { dst := some 26, op := Op.move (Operand.tmp 0), type := 22, pos := "own.go:80", after := #[], guard := none }) (v := ?vr2) rfl (by kernel_rfl) (by kernel_rfl) (by kernel_rfl) (fun _ _ _ h => h) (Or.inl ⟨by rfl, ?yr2⟩) trivial ?rr2
        case yr2 => (intro w hSw; go_simp; try with_reducible rfl)
        try simp only [Act.put, List.setIfInBounds_toArray, List.set_cons_zero, List.set_cons_succ]
        refine wpAnyH_take (i := 3) (oi := { dst := some 27, op := Op.move (Operand.tmp 7), type := 3, pos := "own.go:80", after := #[], guard := none }) (v := ?vr3) rfl (by kernel_rfl) (by kernel_rfl) (by kernel_rfl) (fun _ _ _ h => h) (Or.inl ⟨by rfl, ?yr3⟩) trivial ?rr3
        case yr3 => (intro w hSw; go_simp; try with_reducible rfl)
        try simp only [Act.put, List.setIfInBounds_toArray, List.set_cons_zero, List.set_cons_succ]
        refine wpAnyH_take (i := 4) (oi := { dst := some 28, op := Op.indexAddr 22 (Operand.tmp 26) (Operand.tmp 27), type := 0, pos := "own.go:80", after := #[{ on := 2, ground := Ground.data }, { on := 3, ground := Ground.data }], guard := none }) (v := ?vr4) rfl (by kernel_rfl) (by kernel_rfl) (by kernel_rfl) (fun _ _ _ h => h) (Or.inl ⟨by rfl, ?yr4⟩) trivial ?rr4
        case yr4 => (intro w hSw; go_simp; try with_reducible rfl)
        try simp only [Act.put, List.setIfInBounds_toArray, List.set_cons_zero, List.set_cons_succ]
        refine wpAnyH_ready (rs := [1, 5]) (by kernel_rfl) (by simp) ?_
        refine AllReadyH.cons (o := { dst := some 25, op := Op.load 31 (Operand.tmp 6), type := 31, pos := "own.go:80", after := #[], guard := none }) rfl (fun KK hKK => ?_) ?_
        · obtain ⟨c0, c1, c2, c3, c4, c5, c6, -, -, -, -, -, -, -⟩ := HDC.out u0 Du0
          go_simp
          refine hKK.out _ _ trivial (fun _ => ?_)
          clear hKK KK
          try simp only [Act.put, List.setIfInBounds_toArray, List.set_cons_zero, List.set_cons_succ]
          refine wpAnyH_name (fun u5 hu5 => ?_)
          have Du5 := Du0
          rw [← hu5.out] at Du5
          refine wpAnyH_ready (rs := [5]) (by kernel_rfl) (by simp) ?_
          refine AllReadyH.cons (o := { dst := some 29, op := Op.load 37 (Operand.tmp 28), type := 37, pos := "own.go:80", after := #[{ on := 4, ground := Ground.data }], guard := none }) rfl (fun KK hKK => ?_) ?_
          · obtain ⟨y0, y1, y2, y3, y4, y5, y6, y7⟩ := HAC.out u5 Du5
            go_simp
            refine hKK.out _ _ trivial (fun _ => ?_)
            clear hKK KK
            try simp only [Act.put, List.setIfInBounds_toArray, List.set_cons_zero, List.set_cons_succ]
            refine wpAnyH_name (fun u6 hu6 => ?_)
            have Du6 := Du5
            rw [← hu6.out] at Du6
            refine wpAnyH_ready (rs := [6]) (by kernel_rfl) (by simp) ?_
            refine AllReadyH.cons (o := { dst := some 30, op := Op.call { callee := Callee.value (Operand.func 12), args := #[Operand.tmp 24, Operand.tmp 25, Operand.tmp 29], argTypes := #[25, 31, 37] }, type := 33, pos := "own.go:80", after := #[{ on := 0, ground := Ground.data }, { on := 1, ground := Ground.data }, { on := 5, ground := Ground.data }], guard := none }) rfl (fun KK hKK => ?_) ?_
            · go_simp
              refine (CD.out u6 Du6).mono ?_
              rintro e u7' ⟨dv2, v2, k2, d2, rfl, t2, u2, hk2⟩
              obtain ⟨za, zc, rfl, -⟩ := id t2.ds.rs.is.shape
              generalize s9.o.length = n6 at *
              (try go_wp2_with fail)
              refine hKK.out _ _ trivial (fun _ => ?_)
              clear hKK KK
              try simp only [Act.put, List.setIfInBounds_toArray, List.set_cons_zero, List.set_cons_succ]
              refine wpAnyH_name (fun u7 hu7 => ?_)
              rw [← hu7.out] at t2 u2
              have f2 := blk_apart (HT.out.below Du6).ls u2 (blk_kept HGD.out Du6 (blk_lt HGD.out)) (by decide) (by decide)
              have HT2 : Hid (TW u7 w.heap.size g v2 (.slice za n6 zc) k2 d2 s9) := t2
              have HBX : Hid (Below w.heap.size w u7) := u2.below (HB.out.trans (Du6.mono HB.out.size)) (Nat.le_trans HB.out.size Du6.size) HGW.out (fun k hk => (HT.out.below Du6).ls.rs.base hk)
              clear t2 u2
              refine wpAnyH_take (i := 7) (oi := { dst := some 23, op := Op.move (Operand.tmp 30), type := 33, pos := "own.go:80", after := #[{ on := 6, ground := Ground.data }], guard := none }) (v := ?vr8) rfl (by kernel_rfl) (by kernel_rfl) (by kernel_rfl) (fun _ _ _ h => h) (Or.inl ⟨by rfl, ?yr8⟩) trivial ?rr8
              case yr8 => (intro w hSw; go_simp; try with_reducible rfl)
              try simp only [Act.put, List.setIfInBounds_toArray, List.set_cons_zero, List.set_cons_succ]
              refine wpAnyH_take (i := 8) (oi := { dst := some 31, op := Op.extract (Operand.tmp 23) 0, type := 31, pos := "own.go:80", after := #[{ on := 7, ground := Ground.data }], guard := none }) (v := ?vr9) rfl (by kernel_rfl) (by kernel_rfl) (by kernel_rfl) (fun _ _ _ h => h) (Or.inl ⟨by rfl, ?yr9⟩) trivial ?rr9
              case yr9 => (intro w hSw; go_simp; try with_reducible rfl)
              try simp only [Act.put, List.setIfInBounds_toArray, List.set_cons_zero, List.set_cons_succ]
              refine wpAnyH_take (i := 9) (oi := { dst := some 32, op := Op.extract (Operand.tmp 23) 1, type := 4, pos := "own.go:80", after := #[{ on := 7, ground := Ground.data }, { on := 10, ground := Ground.gcOnly Departure.lateStores }], guard := none }) (v := ?vr10) rfl (by kernel_rfl) (by kernel_rfl) (by kernel_rfl) (fun _ _ _ h => h) (Or.inl ⟨by rfl, ?yr10⟩) trivial ?rr10
              case yr10 => (intro w hSw; go_simp; try with_reducible rfl)
              try simp only [Act.put, List.setIfInBounds_toArray, List.set_cons_zero, List.set_cons_succ]
              refine wpAnyH_ready (rs := [10]) (by kernel_rfl) (by simp) ?_
              refine AllReadyH.cons (o := { dst := none, op := Op.store 31 (Operand.tmp 6) (Operand.tmp 31), type := 0, pos := "own.go:80", after := #[{ on := 8, ground := Ground.data }, { on := 6, ground := Ground.chain }, { on := 0, ground := Ground.phase }, { on := 1, ground := Ground.phase }, { on := 2, ground := Ground.phase }, { on := 3, ground := Ground.phase }, { on := 4, ground := Ground.phase }, { on := 5, ground := Ground.phase }, { on := 6, ground := Ground.phase }, { on := 7, ground := Ground.phase }, { on := 8, ground := Ground.phase }, { on := 9, ground := Ground.textOnly Departure.lateStores }], guard := none }) rfl (fun KK hKK => ?_) ?_
              · refine wp_store_row 31 _ _ rfl hD (dc (.slice za n6 zc) k2 d2 s9.g) rfl rfl 31 _ f2 sizeD rfl (dc_one _ _ _ _ _ _) ?_
                refine hKK.out _ _ trivial (fun _ => ?_)
                clear hKK KK
                try simp only [Act.put]
                refine wpAnyH_name (fun u11 hu11 => ?_)
                have HGN : Hid (u11.heap[hD]? = some (.cells (dc (.slice za n6 zc) k2 d2 s9.g) 31 (0, 0))) := by unfold Hid; rw [hu11.out]; exact setRow_heap _ _ _ _ _ _ f2
                have HTN : Hid (TW u11 w.heap.size g v2 (.slice za n6 zc) k2 d2 s9) := by unfold Hid; rw [hu11.out]; exact HT2.out.bt (Bt.row _ _ _) f2
                have HBN : Hid (Below w.heap.size w u11) := by unfold Hid; rw [hu11.out]; exact below_setRow HBX.out HDW.out _
                refine wpAnyH_done (by kernel_rfl) ?_ _
                clear CD HDC HAC HT2 HBX f2
                go_wp2
                go_roundw
                case rel => exact ⟨i + 1, _, _, _, _, by omega, by go_num, by rw [HS9.out]; exact HTN.out, by have := HKI.out; omega, by rw [HS9.out]; exact HGN.out, HBN.out⟩
                case measure => simp [intOf]; omega
              exact AllReadyH.nil
            exact AllReadyH.nil
          exact AllReadyH.nil
        refine AllReadyH.cons (o := { dst := some 29, op := Op.load 37 (Operand.tmp 28), type := 37, pos := "own.go:80", after := #[{ on := 4, ground := Ground.data }], guard := none }) rfl (fun KK hKK => ?_) ?_
        · obtain ⟨y0, y1, y2, y3, y4, y5, y6, y7⟩ := HAC.out u0 Du0
          go_simp
          refine hKK.out _ _ trivial (fun _ => ?_)
          clear hKK KK
          try simp only [Act.put, List.setIfInBounds_toArray, List.set_cons_zero, List.set_cons_succ]
          refine wpAnyH_name (fun u12 hu12 => ?_)
          have Du12 := Du0
          rw [← hu12.out] at Du12
          refine wpAnyH_ready (rs := [1]) (by kernel_rfl) (by simp) ?_
          refine AllReadyH.cons (o := { dst := some 25, op := Op.load 31 (Operand.tmp 6), type := 31, pos := "own.go:80", after := #[], guard := none }) rfl (fun KK hKK => ?_) ?_
          · obtain ⟨c0, c1, c2, c3, c4, c5, c6, -, -, -, -, -, -, -⟩ := HDC.out u12 Du12
            go_simp
            refine hKK.out _ _ trivial (fun _ => ?_)
            clear hKK KK
            try simp only [Act.put, List.setIfInBounds_toArray, List.set_cons_zero, List.set_cons_succ]
            refine wpAnyH_name (fun u13 hu13 => ?_)
            have Du13 := Du12
            rw [← hu13.out] at Du13
            refine wpAnyH_ready (rs := [6]) (by kernel_rfl) (by simp) ?_
            refine AllReadyH.cons (o := { dst := some 30, op := Op.call { callee := Callee.value (Operand.func 12), args := #[Operand.tmp 24, Operand.tmp 25, Operand.tmp 29], argTypes := #[25, 31, 37] }, type := 33, pos := "own.go:80", after := #[{ on := 0, ground := Ground.data }, { on := 1, ground := Ground.data }, { on := 5, ground := Ground.data }], guard := none }) rfl (fun KK hKK => ?_) ?_
            · go_simp
              refine (CD.out u13 Du13).mono ?_
              rintro e u14' ⟨dv2, v2, k2, d2, rfl, t2, u2, hk2⟩
              obtain ⟨za, zc, rfl, -⟩ := id t2.ds.rs.is.shape
              generalize s9.o.length = n6 at *
              (try go_wp2_with fail)
              refine hKK.out _ _ trivial (fun _ => ?_)
              clear hKK KK
              try simp only [Act.put, List.setIfInBounds_toArray, List.set_cons_zero, List.set_cons_succ]
              refine wpAnyH_name (fun u14 hu14 => ?_)
              rw [← hu14.out] at t2 u2
              have f2 := blk_apart (HT.out.below Du13).ls u2 (blk_kept HGD.out Du13 (blk_lt HGD.out)) (by decide) (by decide)
              have HT2 : Hid (TW u14 w.heap.size g v2 (.slice za n6 zc) k2 d2 s9) := t2
              have HBX : Hid (Below w.heap.size w u14) := u2.below (HB.out.trans (Du13.mono HB.out.size)) (Nat.le_trans HB.out.size Du13.size) HGW.out (fun k hk => (HT.out.below Du13).ls.rs.base hk)
              clear t2 u2
              refine wpAnyH_take (i := 7) (oi := { dst := some 23, op := Op.move (Operand.tmp 30), type := 33, pos := "own.go:80", after := #[{ on := 6, ground := Ground.data }], guard := none }) (v := ?vr15) rfl (by kernel_rfl) (by kernel_rfl) (by kernel_rfl) (fun _ _ _ h => h) (Or.inl ⟨by rfl, ?yr15⟩) trivial ?rr15
              case yr15 => (intro w hSw; go_simp; try with_reducible rfl)
              try simp only [Act.put, List.setIfInBounds_toArray, List.set_cons_zero, List.set_cons_succ]
              refine wpAnyH_take (i := 8) (oi := { dst := some 31, op := Op.extract (Operand.tmp 23) 0, type := 31, pos := "own.go:80", after := #[{ on := 7, ground := Ground.data }], guard := none }) (v := ?vr16) rfl (by kernel_rfl) (by kernel_rfl) (by kernel_rfl) (fun _ _ _ h => h) (Or.inl ⟨by rfl, ?yr16⟩) trivial ?rr16
              case yr16 => (intro w hSw; go_simp; try with_reducible rfl)
              try simp only [Act.put, List.setIfInBounds_toArray, List.set_cons_zero, List.set_cons_succ]
              refine wpAnyH_take (i := 9) (oi := { dst := some 32, op := Op.extract (Operand.tmp 23) 1, type := 4, pos := "own.go:80", after := #[{ on := 7, ground := Ground.data }, { on := 10, ground := Ground.gcOnly Departure.lateStores }], guard := none }) (v := ?vr17) rfl (by kernel_rfl) (by kernel_rfl) (by kernel_rfl) (fun _ _ _ h => h) (Or.inl ⟨by rfl, ?yr17⟩) trivial ?rr17
              case yr17 => (intro w hSw; go_simp; try with_reducible rfl)
              try simp only [Act.put, List.setIfInBounds_toArray, List.set_cons_zero, List.set_cons_succ]
              refine wpAnyH_ready (rs := [10]) (by kernel_rfl) (by simp) ?_
              refine AllReadyH.cons (o := { dst := none, op := Op.store 31 (Operand.tmp 6) (Operand.tmp 31), type := 0, pos := "own.go:80", after := #[{ on := 8, ground := Ground.data }, { on := 6, ground := Ground.chain }, { on := 0, ground := Ground.phase }, { on := 1, ground := Ground.phase }, { on := 2, ground := Ground.phase }, { on := 3, ground := Ground.phase }, { on := 4, ground := Ground.phase }, { on := 5, ground := Ground.phase }, { on := 6, ground := Ground.phase }, { on := 7, ground := Ground.phase }, { on := 8, ground := Ground.phase }, { on := 9, ground := Ground.textOnly Departure.lateStores }], guard := none }) rfl (fun KK hKK => ?_) ?_
              · refine wp_store_row 31 _ _ rfl hD (dc (.slice za n6 zc) k2 d2 s9.g) rfl rfl 31 _ f2 sizeD rfl (dc_one _ _ _ _ _ _) ?_
                refine hKK.out _ _ trivial (fun _ => ?_)
                clear hKK KK
                try simp only [Act.put]
                refine wpAnyH_name (fun u18 hu18 => ?_)
                have HGN : Hid (u18.heap[hD]? = some (.cells (dc (.slice za n6 zc) k2 d2 s9.g) 31 (0, 0))) := by unfold Hid; rw [hu18.out]; exact setRow_heap _ _ _ _ _ _ f2
                have HTN : Hid (TW u18 w.heap.size g v2 (.slice za n6 zc) k2 d2 s9) := by unfold Hid; rw [hu18.out]; exact HT2.out.bt (Bt.row _ _ _) f2
                have HBN : Hid (Below w.heap.size w u18) := by unfold Hid; rw [hu18.out]; exact below_setRow HBX.out HDW.out _
                refine wpAnyH_done (by kernel_rfl) ?_ _
                clear CD HDC HAC HT2 HBX f2
                go_wp2
                go_roundw
                case rel => exact ⟨i + 1, _, _, _, _, by omega, by go_num, by rw [HS9.out]; exact HTN.out, by have := HKI.out; omega, by rw [HS9.out]; exact HGN.out, HBN.out⟩
                case measure => simp [intOf]; omega
              exact AllReadyH.nil
            exact AllReadyH.nil
          exact AllReadyH.nil
        exact AllReadyH.nil
      · obtain rfl : i = n9 := by omega
        have lt2 : ¬ (i : Int) < (i : Int) := by omega
        obtain ⟨c1, m1, e1, hla⟩ := HC.out
        have cl := lost_any wr w.heap.size g v (plS l i) 0 1099511627776 HT.out.ls HB.out.size
        obtain ⟨lo1, lo2, lo3⟩ := lostL_low HEND.out
        have HBA : Hid (∀ v : Value, ∀ w' s, LS w' w.heap.size g v s → ∀ k, v.ownBlock = some k → w.heap.size ≤ k) := fun v w' s ls k hk => ls.rs.base hk
        have HLV : Hid (∀ k, v.ownBlock = some k → w.heap.size ≤ k) := HBA.out _ _ _ HT.out.ls
        rw [← lo2] at lo1
        clear HT HGD hk HQ HAT HEND lo2
        generalize lostL (plS l i) 0 1099511627776 = s1 at *
        generalize lostP (plS l i) 0 1099511627776 = G1 at *
        have HLO : Hid ((∀ p ∈ s1.o, ¬ p.n ≤ s1.g - 3) ∧ s1.ok) := ⟨lo1, lo3⟩
        clear lo1 lo3
        go_wp2_with fail
        refine cl.mono ?_
        rintro e w4 ⟨vt, v4, rfl, rt, l4, u4⟩
        have b4 : Below w.heap.size w w4 := u4.below HB.out HB.out.size HGW.out HLV.out
        have HB4 : Hid (Below w.heap.size w w4) := b4
        have HL4 : Hid (LS w4 w.heap.size g v4 s1) := l4
        have cx := next_any w4 w.heap.size g v4 s1 (la : Int) l4
        cases hnx : (nxt s1 (la : Int)).2 with
        | false =>
          have hno := nx_no HLO.out.2 (by omega) (by omega) hnx
          rw [hnx] at cx
          clear cl rt l4 u4 b4 hnx
          generalize (nxt s1 (la : Int)).1 = AT at *
          have HNO : Hid (lostP s1 1099511627776 0 = []) := hno
          clear hno
          go_wp2_with fail
          refine cx.mono ?_
          rintro e w5 ⟨rfl, b5⟩
          have HB5 : Hid (Below w.heap.size w w5) := HB4.out.trans (b5.mono HB4.out.size)
          have HL5 : Hid (LS w5 w.heap.size g v4 s1) := HL4.out.below b5
          have cl := lost_any w5 w.heap.size g v4 s1 1099511627776 0 HL5.out HB5.out.size
          rw [HNO.out] at cl
          have HLV5 : Hid (∀ k, v4.ownBlock = some k → w.heap.size ≤ k) := HBA.out _ _ _ HL5.out
          clear cx b5
          go_wp2_with fail
          refine cl.mono ?_
          rintro e w6 ⟨vt6, v6, rfl, rt6, l6, u6⟩
          obtain ⟨ta, tc, rfl, -⟩ := id rt6.is.shape
          have b6 : Below w.heap.size w w6 := u6.below HB5.out HB5.out.size HGW.out HLV5.out
          have HB6 : Hid (Below w.heap.size w w6) := b6
          have ca := CA.out w6
          simp only [List.length_nil] at *
          clear cl rt6 l6 u6 b6
          go_wp2_with fail
          refine ca.mono ?_
          rintro e w7 ⟨rfl, b7⟩
          have HB7 : Hid (Below w.heap.size w w7) := HB6.out.trans (b7.mono HB6.out.size)
          clear ca b7
          go_wp2
          go_ret
          exact ⟨rfl, HB7.out⟩
        | true =>
          obtain ⟨x0, x1, x2⟩ := nx_yes HLO.out.2 (fun p hp => Int.not_le.2 (HLO.out.1 p hp)) (by omega) (by omega) hnx
          rw [hnx] at cx
          clear cl rt l4 u4 b4 hnx
          generalize (nxt s1 (la : Int)).1 = AT at *
          have HX2 : Hid (AT ≤ 1099511627776 → (0 < AT → lostP s1 (AT - 1) (la : Int) = [] ∧ lostL s1 (AT - 1) (la : Int) = s1) ∧ 0 < (lostP s1 AT (la : Int)).length) := x2
          clear x2
          go_wp2_with fail
          refine cx.mono ?_
          rintro e w5 ⟨rfl, b5⟩
          have HB5 : Hid (Below w.heap.size w w5) := HB4.out.trans (b5.mono HB4.out.size)
          have HL5 : Hid (LS w5 w.heap.size g v4 s1) := HL4.out.below b5
          have HLV5 : Hid (∀ k, v4.ownBlock = some k → w.heap.size ≤ k) := HBA.out _ _ _ HL5.out
          clear cx b5
          by_cases hbig : 1099511627776 < AT
          · have ca := CA.out w5
            have hb1 : (1099511627776 : Int) < AT := hbig
            clear HX2
            go_wp2_with fail
            refine ca.mono ?_
            rintro e w6 ⟨rfl, b6⟩
            have HB6 : Hid (Below w.heap.size w w6) := HB5.out.trans (b6.mono HB5.out.size)
            clear ca b6
            go_wp2
            go_ret
            exact ⟨rfl, HB6.out⟩
          · obtain ⟨y1, y2⟩ := HX2.out (by omega)
            have HY2 : Hid (0 < (lostP s1 AT (la : Int)).length) := y2
            by_cases hpos : 0 < AT
            · obtain ⟨z1, z2⟩ := y1 hpos
              have cl := lost_any w5 w.heap.size g v4 s1 (AT - 1) (la : Int) HL5.out HB5.out.size
              rw [z1, z2] at cl
              have sw : IntKind.i64.wrap (AT - 1) = AT - 1 := by rw [IntKind.wrap_i64]; omega
              clear y1 y2 z1 z2 HX2
              go_wp2_with fail
              refine cl.mono ?_
              rintro e w6 ⟨vt6, v6, rfl, rt6, l6, u6⟩
              obtain ⟨ta, tc, rfl, -⟩ := id rt6.is.shape
              have b6 : Below w.heap.size w w6 := u6.below HB5.out HB5.out.size HGW.out HLV5.out
              have HB6 : Hid (Below w.heap.size w w6) := b6
              have cl2 := lost_any w6 w.heap.size g v6 s1 AT (la : Int) l6 b6.size
              have HLV6 : Hid (∀ k, v6.ownBlock = some k → w.heap.size ≤ k) := HBA.out _ _ _ l6
              simp only [List.length_nil] at *
              clear cl rt6 l6 u6 b6
              go_wp2_with fail
              refine cl2.mono ?_
              rintro e w7 ⟨vt7, v7, rfl, rt7, l7, u7⟩
              obtain ⟨tb, td, rfl, -⟩ := id rt7.is.shape
              have b7 : Below w.heap.size w w7 := u7.below HB6.out HB6.out.size HGW.out HLV6.out
              have HB7 : Hid (Below w.heap.size w w7) := b7
              have ca := CA.out w7
              have y2 := HY2.out
              generalize (lostP s1 AT (la : Int)).length = nz at *
              have yz : (0 : Int) < (nz : Int) := by omega
              clear cl2 rt7 l7 u7 b7 HY2
              go_wp2_with fail
              refine ca.mono ?_
              rintro e w8 ⟨rfl, b8⟩
              have HB8 : Hid (Below w.heap.size w w8) := HB7.out.trans (b8.mono HB7.out.size)
              clear ca b8
              go_wp2
              go_ret
              exact ⟨rfl, HB8.out⟩
            · obtain rfl : AT = 0 := by omega
              have cl2 := lost_any w5 w.heap.size g v4 s1 0 (la : Int) HL5.out HB5.out.size
              clear y1 y2 HX2 x0 x1
              go_wp2_with fail
              refine cl2.mono ?_
              rintro e w7 ⟨vt7, v7, rfl, rt7, l7, u7⟩
              obtain ⟨tb, td, rfl, -⟩ := id rt7.is.shape
              have b7 : Below w.heap.size w w7 := u7.below HB5.out HB5.out.size HGW.out HLV5.out
              have HB7 : Hid (Below w.heap.size w w7) := b7
              have ca := CA.out w7
              have y2 := HY2.out
              generalize (lostP s1 0 (la : Int)).length = nz at *
              have yz : (0 : Int) < (nz : Int) := by omega
              clear cl2 rt7 l7 u7 b7 HY2
              go_wp2_with fail
              refine ca.mono ?_
              rintro e w8 ⟨rfl, b8⟩
              have HB8 : Hid (Below w.heap.size w w8) := HB7.out.trans (b8.mono HB7.out.size)
              clear ca b8
              go_wp2
              go_ret
              exact ⟨rfl, HB8.out⟩

theorem contract (H : Type) (enc : TypeId × Value → H) (W : World) (base : Nat) (args : Array Value) (ds gs : List (DataW H)) (before : List MemPlace)
    (hval : ∀ (j : Nat) t v, Try.f7.params[j]? = some t → args[j]? = some v → Value.okWide Try.prog W .any base t v)
    (hW : DataW.Whole enc Try.prog Try.f7.params.toList Rows.lossNextSpec.vars false W args.toList ds gs before) (_hL : laidMetH Try.prog Rows.lossNextRow.laid W)
    (hsz0 : (DataW.weightsEach Try.prog (Try.f7.params.toList ++ Rows.lossNextSpec.plain.varTypes Try.prog) (ds ++ gs)).all (· ≤ reachBytes) = true) :
    Calls Try.prog 7 args W fun e W' => ∃ v, e = .returned v ∧ Rows.lossNextSpec.post enc Try.prog Try.f7 false true false false W args v W' := by
  have hW' := hW
  obtain ⟨p, q, hA0, hV, rfl, hfz, hnd⟩ := hW
  have hA : DataW.TrodAll enc Try.prog W 0 (fun _ => true) true Try.f7.params.toList args.toList ds p := hA0
  rw [Try.params7] at hA hval hsz0
  obtain ⟨v0, vs0, d0, ds0, p0, q0, hargs, rfl, rfl, h0, r0⟩ := trodAll_cons hA
  obtain ⟨v1, vs1, d1, ds1, p1, q1, rfl, rfl, rfl, h1, r1⟩ := trodAll_cons r0
  obtain ⟨rfl, rfl, rfl⟩ := trodAll_nil r1
  obtain rfl : args = #[v0, v1] := by cases args; simp_all
  obtain ⟨rfl, rfl⟩ := trodVars_none hV
  have k0 := h0
  have lt0 : ∀ x ∈ p0, x.block < W.heap.size := by obtain ⟨m, hm⟩ := k0; exact DataW.trod_lt m _ _ _ hm
  obtain ⟨L0, w0⟩ := aqs_in (hval 0 22 v0 rfl rfl) h0
  obtain ⟨a1, rfl, rfl, rfl, w1⟩ := open_int Try.underlying59 (hval 1 59 v1 rfl rfl) h1
  clear hA0
  refine (walk v0 L0 a1 W w0 w1).mono fun e W' ⟨he, bel⟩ => ?_
  subst he
  exact ⟨_, rfl, _, _, _, [], _, [], hW', trodAll_mk1 (shut_bool Try.underlying4 _), (trodAll_cons_mk (Below.trod laidOut (by kernel_rfl) (of_decide_eq_true (by kernel_rfl)) k0 bel lt0) (trodAll_cons_mk (shut_int Try.underlying59 w1) trodAll_mk0)), rfl, bel.frame _, fun h => by cases h⟩

theorem laid_met (os : Os) : laidMet Try.prog Rows.lossNextRow.laid ((World.holding Try.prog os ⟨#[], #[], []⟩).forCall (fun _ _ => 0) ⟨#[], #[.slice none 0 0, .int .u32 0], []⟩).memory :=
  laidMet_of_run' 8 (by kernel_rfl) (by kernel_rfl)
theorem reads (os : Os) {H : Type} (enc : TypeId × Value → H) : ∃ places, DataW.whole enc Try.prog ((World.holding Try.prog os ⟨#[], #[], []⟩).forCall (fun _ _ => 0) ⟨#[], #[.slice none 0 0, .int .u32 0], []⟩).memory Try.f7.params.toList Rows.lossNextSpec.vars false #[Value.slice none 0 0, .int .u32 0].toList 8 = some ([.nil, .lit (.int .u32 0)], [], places) :=
  ⟨[], by kernel_rfl⟩

set_option maxRecDepth 100000 in
theorem lifted (os : Os) (started : os.Started) (H : Type) (enc : TypeId × Value → H) (F : Stop.Interp) :
    ReturnsInHanded {} Try.checked os 7 .any ((OpenSpec.ofChange Rows.lossNextSpec).preRow enc Try.prog Try.f7 Rows.lossNextRow.domain false Rows.lossNextRow.laid) (((OpenSpec.ofChange Rows.lossNextSpec).at F).post enc Try.prog Try.f7 false true false false) := by
  obtain ⟨places, hx⟩ := reads os enc
  refine returnsInHanded_of_row (C := Try.checked) (s := OpenSpec.ofChange Rows.lossNextSpec) own started (by kernel_rfl) Try.func7
    (witness_row_at (enc := enc) (C := Try.checked) false (World.holding Try.prog os ⟨#[], #[], []⟩) #[.slice none 0 0, .int .u32 0] rfl (by kernel_rfl) (by kernel_rfl) (by kernel_rfl)
      (OpenSpec.preRow_of_cond 8 hx (by kernel_rfl) (fun k hk => by cases hk) (by kernel_rfl) (laid_met os))) ?_
  intro W base args ds gs before hval hW _ _ hsz hL _ _
  exact contract H enc W base args ds gs before hval hW hL hsz

theorem said : Rows.LossNextSaid :=
  OpenClaim.holds_of_cond 7 Try.f7 rfl rfl rfl rfl rfl rfl rfl ⟨rfl, rfl, rfl, rfl, rfl⟩ rfl rfl rfl rfl rfl (by kernel_rfl) Try.func7 (by kernel_rfl)
    (of_decide_eq_true (by kernel_rfl)) (by unfold Func.isWrapper; first | (rw [if_pos (by decide +kernel)]; kernel_rfl) | (rw [if_neg (by decide +kernel)]; exact ⟨rfl, rfl⟩))
    (fun os started H enc _ F => by rw [OpenClaim.pre_eq_preRow]; exact lifted os started H enc F)

end Go.Proofs.Ytamjbmbflllbfaa.lossNext

namespace Go.Proofs.Ytamjbmbflllbfaa
/-- LossNext. -/
theorem lossNext_holds : Rows.LossNextSaid := lossNext.said
#print axioms lossNext_holds
end Go.Proofs.Ytamjbmbflllbfaa
