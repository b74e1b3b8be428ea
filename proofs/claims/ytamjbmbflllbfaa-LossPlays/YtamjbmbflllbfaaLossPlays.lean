/-
  Any packets that are sent, acknowledged and lost are told, and leave what is open, as the document says: for every at most 200 calls of at most 70 spans each.
-/
import Derived.Test.YtamjbmbflllbfaaPkP
import Derived.Test.YtamjbmbflllbfaaPkP
import Derived.Test.YtamjbmbflllbfaaPkP
namespace Go.Proofs.Ytamjbmbflllbfaa.lossPlays
open Go.ChangeShapes Go.WideShapes Go.ChangeAt Go.RowKit Go.Deep Go.ChangeMaps
set_option maxRecDepth 100000

set_option maxHeartbeats 8000000 in
theorem walk (v0 : Value) (l : List Atc) (a1 : Int) (w : World) (hq : AQ w v0 l) (_ : (Lit.int .i64 a1).wf = true) :
    Calls Try.prog 3 #[v0, .int .i64 a1] w fun e w' => e = .returned (.bool true) ∧ Below w.heap.size w w' := by
  have cf := few_any w v0 l hq
  obtain ⟨a, c, rfl, -⟩ := id hq.shape
  have CA : Hid (∀ W, Calls Try.prog 9 #[] W fun e w' => e = .returned (.bool true) ∧ Below W.heap.size W w') := awake_any
  cases hf : fewB l with
  | false =>
    rw [hf] at cf
    generalize l.length = n9 at *
    clear hq hf
    go_enter Try.func3, Try.ntmps3
    go_wp2_with fail
    refine cf.mono ?_
    rintro e w1 ⟨rfl, b1⟩
    have HB1 : Hid (Below w.heap.size w w1) := b1
    have ca := CA.out w1
    clear cf b1
    go_wp2_with fail
    refine ca.mono ?_
    rintro e w2 ⟨rfl, b2⟩
    have HB2 : Hid (Below w.heap.size w w2) := HB1.out.trans (b2.mono HB1.out.size)
    clear ca b2
    go_wp2
    go_ret
    exact ⟨rfl, HB2.out⟩
  | true =>
    rw [hf] at cf
    obtain ⟨hn200, h70⟩ := fewB_iff.1 hf
    have HQ : Hid (∀ i, i < l.length → okA w (atA l i) ∧ (atA l i).L.length ≤ 70 ∧ plS l (i + 1) = nxS (plS l i) (atA l i)) := fun i hi => ⟨hq.ok _ (atA_mem l i hi), h70 _ (atA_mem l i hi), plS_succ l i hi⟩
    have HAT : Hid (∀ j, j < l.length → ∀ W, Below w.heap.size w W → ∃ b off, a = some ⟨b, off, none⟩ ∧ AC W b (off + j * 8) (atA l j)) := fun j hj W hb => by
      obtain ⟨b, off, e, q⟩ := AQ.at (hq.kept hb) j hj
      exact ⟨b, off, e, aC q⟩
    have HEND : Hid ((plS l l.length).ok) := plS_ok l _ (Nat.le_refl _)
    clear hf hq h70
    generalize hn9 : l.length = n9 at *
    clear hn9
    go_enter Try.func3, Try.ntmps3
    go_wp2_with fail
    refine cf.mono ?_
    rintro e w1 ⟨rfl, b1⟩
    have cn := lnew_any w1 w.heap.size
    obtain ⟨g, eg⟩ : ∃ x, x = w1.heap.size := ⟨_, rfl⟩
    rw [← eg] at cn
    have HB1 : Hid (Below w.heap.size w w1) := b1
    have HGW : Hid (w.heap.size ≤ g) := by rw [eg]; exact b1.size
    clear cf b1 eg
    go_wp2_with fail
    refine cn.mono ?_
    rintro e w2 ⟨rfl, q2, ls⟩
    have b2 : Below w1.heap.size w1 w2 := by rw [q2]; exact al_b _ _
    have HB2 : Hid (Below w.heap.size w w2) := HB1.out.trans (b2.mono HB1.out.size)
    have HL2 : Hid (LS w2 w.heap.size g (.slice none 0 0) lg0) := ls
    have cr := rnew_any w2 w.heap.size
    clear cn q2 ls b2
    go_wp2_with fail
    refine cr.mono ?_
    rintro e w3 ⟨rfl, b3, ds⟩
    obtain ⟨W4, hW4⟩ : ∃ W4, W4 = w3.alloc (.cells #[.slice none 0 0, .int .i64 0, .int .i64 0, .int .i64 0, .int .i64 0, .bool false, .int .i64 0] 31) := ⟨_, rfl⟩
    obtain ⟨W5, hW5⟩ : ∃ W5, W5 = W4.setRow w3.heap.size (dc (.slice none 0 0) 0 pk0 (-1)) := ⟨_, rfl⟩
    have b4 : Below w3.heap.size w3 W4 := by rw [hW4]; exact al_b _ _
    have b5 : Below w3.heap.size w3 W5 := by rw [hW5]; exact below_setRow b4 (Nat.le_refl _) _
    have HG4 : Hid ((w3.alloc (.cells #[.slice none 0 0, .int .i64 0, .int .i64 0, .int .i64 0, .int .i64 0, .bool false, .int .i64 0] 31)).heap[w3.heap.size]? = some (.cells #[.slice none 0 0, .int .i64 0, .int .i64 0, .int .i64 0, .int .i64 0, .bool false, .int .i64 0] 31 (0, 0))) := heap_alloc_new _ _
    have HG5 : Hid (W5.heap[w3.heap.size]? = some (.cells (dc (.slice none 0 0) 0 pk0 (-1)) 31 (0, 0))) := by unfold Hid; rw [hW5, hW4]; exact setRow_heap _ _ _ _ _ _ HG4.out
    have HT5 : Hid (TW W5 w.heap.size g (.slice none 0 0) (.slice none 0 0) 0 pk0 lg0) := (TW.mk (HL2.out.below b3) ds).below b5
    have HB3 : Hid (Below w.heap.size w w3) := HB2.out.trans (b3.mono HB2.out.size)
    have HB5 : Hid (Below w.heap.size w W5) := HB3.out.trans (b5.mono HB3.out.size)
    have HDW : Hid (w.heap.size ≤ w3.heap.size) := HB3.out.size
    clear cr b3 ds b4 b5
    go_wp2_with (refine wpList_store_row rfl 31 _ _ rfl w3.heap.size (dc (.slice none 0 0) 0 pk0 (-1)) rfl rfl 31 _ HG4.out sizeD rfl (dc_one _ _ _ _ _ _) (Hid.out ?_))
    unfold Hid
    rw [← hW4, ← hW5]
    clear hW4 hW5 HG4
    generalize w3.heap.size = hD at *
    go_wp2_with fail
    go_loopw [7, 8] (fun u7 u wr => ∃ (i : Nat) (v dv : Value) (k : Int) (d : Pk), i ≤ n9 ∧ u7 = .bool true ∧ u = .int .i64 i ∧ TW wr w.heap.size g v dv k d (plS l i) ∧ k ≤ (i : Int) ∧ wr.heap[hD]? = some (.cells (dc dv k d (plS l i).g) 31 (0, 0)) ∧ Below w.heap.size w wr) (fun _ u _ => n9 - (intOf u).toNat)
    case atStart => exact ⟨0, _, _, _, _, by omega, rfl, rfl, HT5.out, by omega, HG5.out, HB5.out⟩
    case round =>
      obtain ⟨i, v, dv, k, d, hi, rfl, rfl, tw, hk, hgd, bel⟩ := hrel
      have HB : Hid (Below w.heap.size w wr) := bel
      have HT : Hid (TW wr w.heap.size g v dv k d (plS l i)) := tw
      have HGD : Hid (wr.heap[hD]? = some (.cells (dc dv k d (plS l i).g) 31 (0, 0))) := hgd
      clear HB1 HB2 HB3 HB5 HT5 HG5 HL2 bel tw hgd
      by_cases hin : i < n9
      · have lt2 : (i : Int) < (n9 : Int) := by omega
        obtain ⟨b, off, rfl, hac⟩ := HAT.out i hin wr HB.out
        obtain ⟨oq, l7, es⟩ := HQ.out i hin
        obtain ⟨da, dk, rfl, -⟩ := id HT.out.ds.rs.is.shape
        have HAC : Hid (∀ x, Below wr.heap.size wr x → AC x b (off + i * 8) (atA l i)) := fun x hx => by
          obtain ⟨b', off', e, q⟩ := HAT.out i hin x (HB.out.trans (hx.mono HB.out.size))
          cases e
          exact q
        have HES : Hid (plS l (i + 1) = nxS (plS l i) (atA l i)) := es
        have CD : Hid (∀ x, Below wr.heap.size wr x → Calls Try.prog 12 #[.pointer (some ⟨g, 0, none⟩), .agg (dc (.slice da (plS l i).o.length dk) k d (plS l i).g), .agg #[.int .u8 (atA l i).k, .int .i64 (atA l i).p.n, .int .i64 (atA l i).p.t, .int .i64 (atA l i).p.z, .bool (atA l i).p.a, (atA l i).u, .int .i64 (atA l i).n, .int .i64 (atA l i).l]] x fun e w' => ∃ dv' v' k' d', e = .returned (.tuple #[.agg (dc dv' k' d' (nxS (plS l i) (atA l i)).g), .bool true]) ∧ TW w' w.heap.size g v' dv' k' d' (nxS (plS l i) (atA l i)) ∧ LU x w' g v v' ∧ k' ≤ k + 1) := fun x hx => do_any x w g v _ (plS l i) k d (atA l i) (HT.out.below hx) HGW.out (HB.out.trans (hx.mono HB.out.size)) oq l7 (by omega)
        have HDC : Hid (∀ x, Below wr.heap.size wr x → DC x hD (.slice da (plS l i).o.length dk) k d (plS l i).g) := fun x hx => DB.dc (blk_kept HGD.out hx (blk_lt HGD.out))
        have HKI : Hid (k ≤ (i : Int)) := hk
        clear oq l7 es hk hac
        rw [← HES.out] at CD
        generalize hs9 : plS l (i + 1) = s9 at *
        have HS9 : Hid (plS l (i + 1) = s9) := hs9
        clear hs9
        generalize plS l i = s at *
        generalize hqi : atA l i = q at *
        have HQI : Hid (atA l i = q) := hqi
        clear hqi
        generalize s.o.length = n8 at *
        go_wp2_with fail
        refine wp_region_held_drew (S := fun _ => True) (by kernel_rfl) trivial (fun _ => ?_)
        refine wpAnyH_name (fun u0 hu0 => ?_)
        have bu0 : Below wr.heap.size wr u0 := by rw [hu0.out]; exact (Below.refl _ _).drew
        have Du0 : Below wr.heap.size wr u0 := by rw [hu0.out]; exact (Below.refl _ _).drew
        refine wpAnyH_take (i := 0) (oi := { dst := some 22, op := Op.move (Operand.tmp 5), type := 25, pos := "law.go:97", after := #[], guard := none }) (v := ?vr1) rfl (by kernel_rfl) (by kernel_rfl) (by kernel_rfl) (fun _ _ _ h => h) (Or.inl ⟨by rfl, ?yr1⟩) trivial ?rr1
        case yr1 => (intro w hSw; go_simp; try with_reducible rfl)
        try simp only [Act.put, List.setIfInBounds_toArray, List.set_cons_zero, List.set_cons_succ]
        refine wpAnyH_take (i := 2) (oi := { dst := some 24, op := Op.move (Operand.tmp 0), type := 22, pos := "law.go:97", after := #[], guard := none }) (v := ?vr2) rfl (by kernel_rfl) (by kernel_rfl) (by kernel_rfl) (fun _ _ _ h => h) (Or.inl ⟨by rfl, ?yr2⟩) trivial ?rr2
        case yr2 => (intro w hSw; go_simp; try with_reducible rfl)
        try simp only [Act.put, List.setIfInBounds_toArray, List.set_cons_zero, List.set_cons_succ]
        refine wpAnyH_take (i := 3) (oi := { dst := some 25, op := Op.move (Operand.tmp 8), type := 3, pos := "law.go:97", after := #[], guard := none }) (v := ?vr3) rfl (by kernel_rfl) (by kernel_rfl) (by kernel_rfl) (fun _ _ _ h => h) (Or.inl ⟨by rfl, ?yr3⟩) trivial ?rr3
        case yr3 => (intro w hSw; go_simp; try with_reducible rfl)
        try simp only [Act.put, List.setIfInBounds_toArray, List.set_cons_zero, List.set_cons_succ]
        refine wpAnyH_take (i := 4) (oi := { dst := some 26, op := Op.indexAddr 22 (Operand.tmp 24) (Operand.tmp 25), type := 0, pos := "law.go:97", after := #[{ on := 2, ground := Ground.data }, { on := 3, ground := Ground.data }], guard := none }) (v := ?vr4) rfl (by kernel_rfl) (by kernel_rfl) (by kernel_rfl) (fun _ _ _ h => h) (Or.inl ⟨by rfl, ?yr4⟩) trivial ?rr4
        case yr4 => (intro w hSw; go_simp; try with_reducible rfl)
        try simp only [Act.put, List.setIfInBounds_toArray, List.set_cons_zero, List.set_cons_succ]
        refine wpAnyH_ready (rs := [1, 5]) (by kernel_rfl) (by simp) ?_
        refine AllReadyH.cons (o := { dst := some 23, op := Op.load 31 (Operand.tmp 6), type := 31, pos := "law.go:97", after := #[], guard := none }) rfl (fun KK hKK => ?_) ?_
        · obtain ⟨c0, c1, c2, c3, c4, c5, c6, -, -, -, -, -, -, -⟩ := HDC.out u0 Du0
          go_simp
          refine hKK.out _ _ trivial (fun _ => ?_)
          clear hKK KK
          try simp only [Act.put, List.setIfInBounds_toArray, List.set_cons_zero, List.set_cons_succ]
          refine wpAnyH_name (fun u5 hu5 => ?_)
          have Du5 := Du0
          rw [← hu5.out] at Du5
          refine wpAnyH_ready (rs := [5]) (by kernel_rfl) (by simp) ?_
          refine AllReadyH.cons (o := { dst := some 27, op := Op.load 37 (Operand.tmp 26), type := 37, pos := "law.go:97", after := #[{ on := 4, ground := Ground.data }], guard := none }) rfl (fun KK hKK => ?_) ?_
          · obtain ⟨y0, y1, y2, y3, y4, y5, y6, y7⟩ := HAC.out u5 Du5
            go_simp
            refine hKK.out _ _ trivial (fun _ => ?_)
            clear hKK KK
            try simp only [Act.put, List.setIfInBounds_toArray, List.set_cons_zero, List.set_cons_succ]
            refine wpAnyH_name (fun u6 hu6 => ?_)
            have Du6 := Du5
            rw [← hu6.out] at Du6
            refine wpAnyH_ready (rs := [6]) (by kernel_rfl) (by simp) ?_
            refine AllReadyH.cons (o := { dst := some 28, op := Op.call { callee := Callee.value (Operand.func 12), args := #[Operand.tmp 22, Operand.tmp 23, Operand.tmp 27], argTypes := #[25, 31, 37] }, type := 33, pos := "law.go:97", after := #[{ on := 0, ground := Ground.data }, { on := 1, ground := Ground.data }, { on := 5, ground := Ground.data }], guard := none }) rfl (fun KK hKK => ?_) ?_
            · go_simp
              refine (CD.out u6 Du6).mono ?_
              rintro e u7' ⟨dv2, v2, k2, d2, rfl, t2, u2, hk2⟩
              obtain ⟨za, zc, rfl, -⟩ := id t2.ds.rs.is.shape
              generalize s9.o.length = n6 at *
              (try go_wp2_with fail)
              refine hKK.out _ _ trivial (fun _ => ?_)
              clear hKK KK
              try simp only [Act.put, List.setIfInBounds_toArray, List.set_cons_zero, List.set_cons_succ]
              refine wpAnyH_name (fun u7 hu7 => ?_)
              rw [← hu7.out] at t2 u2
              have f2 := blk_apart (HT.out.below Du6).ls u2 (blk_kept HGD.out Du6 (blk_lt HGD.out)) (by decide) (by decide)
              have HT2 : Hid (TW u7 w.heap.size g v2 (.slice za n6 zc) k2 d2 s9) := t2
              have HBX : Hid (Below w.heap.size w u7) := u2.below (HB.out.trans (Du6.mono HB.out.size)) (Nat.le_trans HB.out.size Du6.size) HGW.out (fun k hk => (HT.out.below Du6).ls.rs.base hk)
              clear t2 u2
              refine wpAnyH_take (i := 7) (oi := { dst := some 21, op := Op.move (Operand.tmp 28), type := 33, pos := "law.go:97", after := #[{ on := 6, ground := Ground.data }], guard := none }) (v := ?vr8) rfl (by kernel_rfl) (by kernel_rfl) (by kernel_rfl) (fun _ _ _ h => h) (Or.inl ⟨by rfl, ?yr8⟩) trivial ?rr8
              case yr8 => (intro w hSw; go_simp; try with_reducible rfl)
              try simp only [Act.put, List.setIfInBounds_toArray, List.set_cons_zero, List.set_cons_succ]
              refine wpAnyH_take (i := 8) (oi := { dst := some 29, op := Op.extract (Operand.tmp 21) 0, type := 31, pos := "law.go:97", after := #[{ on := 7, ground := Ground.data }], guard := none }) (v := ?vr9) rfl (by kernel_rfl) (by kernel_rfl) (by kernel_rfl) (fun _ _ _ h => h) (Or.inl ⟨by rfl, ?yr9⟩) trivial ?rr9
              case yr9 => (intro w hSw; go_simp; try with_reducible rfl)
              try simp only [Act.put, List.setIfInBounds_toArray, List.set_cons_zero, List.set_cons_succ]
              refine wpAnyH_take (i := 9) (oi := { dst := some 30, op := Op.extract (Operand.tmp 21) 1, type := 4, pos := "law.go:97", after := #[{ on := 7, ground := Ground.data }, { on := 10, ground := Ground.gcOnly Departure.lateStores }], guard := none }) (v := ?vr10) rfl (by kernel_rfl) (by kernel_rfl) (by kernel_rfl) (fun _ _ _ h => h) (Or.inl ⟨by rfl, ?yr10⟩) trivial ?rr10
              case yr10 => (intro w hSw; go_simp; try with_reducible rfl)
              try simp only [Act.put, List.setIfInBounds_toArray, List.set_cons_zero, List.set_cons_succ]
              refine wpAnyH_ready (rs := [10]) (by kernel_rfl) (by simp) ?_
              refine AllReadyH.cons (o := { dst := none, op := Op.store 31 (Operand.tmp 6) (Operand.tmp 29), type := 0, pos := "law.go:97", after := #[{ on := 8, ground := Ground.data }, { on := 6, ground := Ground.chain }, { on := 0, ground := Ground.phase }, { on := 1, ground := Ground.phase }, { on := 2, ground := Ground.phase }, { on := 3, ground := Ground.phase }, { on := 4, ground := Ground.phase }, { on := 5, ground := Ground.phase }, { on := 6, ground := Ground.phase }, { on := 7, ground := Ground.phase }, { on := 8, ground := Ground.phase }, { on := 9, ground := Ground.textOnly Departure.lateStores }], guard := none }) rfl (fun KK hKK => ?_) ?_
              · refine wp_store_row 31 _ _ rfl hD (dc (.slice za n6 zc) k2 d2 s9.g) rfl rfl 31 _ f2 sizeD rfl (dc_one _ _ _ _ _ _) ?_
                refine hKK.out _ _ trivial (fun _ => ?_)
                clear hKK KK
                try simp only [Act.put]
                refine wpAnyH_name (fun u11 hu11 => ?_)
                have HGN : Hid (u11.heap[hD]? = some (.cells (dc (.slice za n6 zc) k2 d2 s9.g) 31 (0, 0))) := by unfold Hid; rw [hu11.out]; exact setRow_heap _ _ _ _ _ _ f2
                have HTN : Hid (TW u11 w.heap.size g v2 (.slice za n6 zc) k2 d2 s9) := by unfold Hid; rw [hu11.out]; exact HT2.out.bt (Bt.row _ _ _) f2
                have HBN : Hid (Below w.heap.size w u11) := by unfold Hid; rw [hu11.out]; exact below_setRow HBX.out HDW.out _
                refine wpAnyH_take (i := 11) (oi := { dst := some 7, op := Op.assign (Operand.tmp 30), type := 4, pos := "law.go:97", after := #[{ on := 9, ground := Ground.data }, { on := 10, ground := Ground.chain }, { on := 0, ground := Ground.phase }, { on := 1, ground := Ground.phase }, { on := 2, ground := Ground.phase }, { on := 3, ground := Ground.phase }, { on := 4, ground := Ground.phase }, { on := 5, ground := Ground.phase }, { on := 6, ground := Ground.phase }, { on := 7, ground := Ground.phase }, { on := 8, ground := Ground.phase }, { on := 9, ground := Ground.phase }, { on := 10, ground := Ground.phase }], guard := none }) (v := ?vr12) rfl (by kernel_rfl) (by kernel_rfl) (by kernel_rfl) (fun _ _ _ h => h) (Or.inl ⟨by rfl, ?yr12⟩) trivial ?rr12
                case yr12 => (intro w hSw; go_simp; try with_reducible rfl)
                try simp only [Act.put, List.setIfInBounds_toArray, List.set_cons_zero, List.set_cons_succ]
                refine wpAnyH_done (by kernel_rfl) ?_ _
                clear CD HDC HT2 HBX f2 HT HGD
                obtain ⟨WS, rfl⟩ : ∃ WS, WS = u11 := ⟨_, rfl⟩
                have FA : Hid (∀ x, Below WS.heap.size WS x → DC x hD (.slice za n6 zc) k2 d2 s9.g) := fun x hx => DB.dc (blk_kept HGN.out hx (blk_lt HGN.out))
                have FQ : Hid (∀ x, Below WS.heap.size WS x → x.cell? ⟨b, off + i * 8 + 7, none⟩ = some (.int .i64 q.l)) := fun x hx => by
                  obtain ⟨b', off', e, y⟩ := HAT.out i hin x (HBN.out.trans (hx.mono HBN.out.size))
                  cases e
                  have := y.c7
                  rw [HQI.out] at this
                  exact this
                have CS : Hid (∀ x, Below WS.heap.size WS x → Calls Try.prog 13 #[.pointer (some ⟨g, 0, none⟩), .agg (dc (.slice za n6 zc) k2 d2 s9.g), .int .i64 q.l] x fun e w' => e = .returned (.bool true) ∧ Below x.heap.size x w') := fun x hx => same_any x w.heap.size g v2 _ s9 k2 d2 q.l (HTN.out.below hx)
                go_upto_region 9 with fail
                refine wp_region_held_drew (S := Below WS.heap.size WS) (by kernel_rfl) ((Below.refl _ _).drew) (fun _ => ?_)
                refine wpAnyH_name (fun u0 hu0 => ?_)
                have su0 : (Below WS.heap.size WS) u0 := by rw [hu0.out]; exact ((Below.refl _ _).drew)
                refine wpAnyH_take (i := 0) (oi := { dst := some 31, op := Op.move (Operand.tmp 7), type := 4, pos := "law.go:98", after := #[], guard := none }) (v := ?vqa1) rfl (by kernel_rfl) (by kernel_rfl) (by kernel_rfl) (fun _ _ _ h => h) (Or.inl ⟨by rfl, ?yqa1⟩) su0 ?rqa1
                case yqa1 => (intro w hSw; go_simp; try with_reducible rfl)
                try simp only [Act.put, List.setIfInBounds_toArray, List.set_cons_zero, List.set_cons_succ]
                refine wpAnyH_take (i := 1) (oi := { dst := some 32, op := Op.unOp UnOp.not 4 (Operand.tmp 31), type := 4, pos := "law.go:98", after := #[{ on := 0, ground := Ground.data }], guard := none }) (v := .bool false) rfl (by kernel_rfl) (by kernel_rfl) (by kernel_rfl) (fun _ _ _ h => h) (Or.inl ⟨by rfl, ?yqa2⟩) su0 ?rqa2
                case yqa2 => (intro w hSw; go_simp; try with_reducible rfl)
                try simp only [Act.put, List.setIfInBounds_toArray, List.set_cons_zero, List.set_cons_succ]
                refine wpAnyH_take (i := 2) (oi := { dst := some 33, op := Op.move (Operand.tmp 32), type := 4, pos := "law.go:98", after := #[{ on := 1, ground := Ground.data }], guard := none }) (v := ?vqa3) rfl (by kernel_rfl) (by kernel_rfl) (by kernel_rfl) (fun _ _ _ h => h) (Or.inl ⟨by rfl, ?yqa3⟩) su0 ?rqa3
                case yqa3 => (intro w hSw; go_simp; try with_reducible rfl)
                try simp only [Act.put, List.setIfInBounds_toArray, List.set_cons_zero, List.set_cons_succ]
                refine wpAnyH_take (i := 3) (oi := { dst := some 34, op := Op.move (Operand.tmp 5), type := 25, pos := "law.go:98", after := #[{ on := 2, ground := Ground.guard }], guard := some (2, false) }) (v := ?vqa4) rfl (by kernel_rfl) (by kernel_rfl) (by kernel_rfl) (fun _ _ _ h => h) (Or.inl ⟨by rfl, ?yqa4⟩) su0 ?rqa4
                case yqa4 => (intro w hSw; go_simp; try with_reducible rfl)
                try simp only [Act.put, List.setIfInBounds_toArray, List.set_cons_zero, List.set_cons_succ]
                refine wpAnyH_take (i := 4) (oi := { dst := some 35, op := Op.load 31 (Operand.tmp 6), type := 31, pos := "law.go:98", after := #[{ on := 2, ground := Ground.guard }], guard := some (2, false) }) (v := .agg (dc (.slice za n6 zc) k2 d2 s9.g)) rfl (by kernel_rfl) (by kernel_rfl) (by kernel_rfl) (fun _ _ _ h => h) (Or.inl ⟨by rfl, ?yqa5⟩) su0 ?rqa5
                case yqa5 => (intro w hSw; obtain ⟨c0, c1, c2, c3, c4, c5, c6, -, -, -, -, -, -, -⟩ := FA.out w hSw; go_simp; try with_reducible rfl)
                try simp only [Act.put, List.setIfInBounds_toArray, List.set_cons_zero, List.set_cons_succ]
                refine wpAnyH_take (i := 5) (oi := { dst := some 36, op := Op.move (Operand.tmp 0), type := 22, pos := "law.go:98", after := #[{ on := 2, ground := Ground.guard }], guard := some (2, false) }) (v := ?vqa6) rfl (by kernel_rfl) (by kernel_rfl) (by kernel_rfl) (fun _ _ _ h => h) (Or.inl ⟨by rfl, ?yqa6⟩) su0 ?rqa6
                case yqa6 => (intro w hSw; go_simp; try with_reducible rfl)
                try simp only [Act.put, List.setIfInBounds_toArray, List.set_cons_zero, List.set_cons_succ]
                refine wpAnyH_take (i := 6) (oi := { dst := some 37, op := Op.move (Operand.tmp 8), type := 3, pos := "law.go:98", after := #[{ on := 2, ground := Ground.guard }], guard := some (2, false) }) (v := ?vqa7) rfl (by kernel_rfl) (by kernel_rfl) (by kernel_rfl) (fun _ _ _ h => h) (Or.inl ⟨by rfl, ?yqa7⟩) su0 ?rqa7
                case yqa7 => (intro w hSw; go_simp; try with_reducible rfl)
                try simp only [Act.put, List.setIfInBounds_toArray, List.set_cons_zero, List.set_cons_succ]
                refine wpAnyH_take (i := 7) (oi := { dst := some 38, op := Op.indexAddr 22 (Operand.tmp 36) (Operand.tmp 37), type := 0, pos := "law.go:98", after := #[{ on := 5, ground := Ground.data }, { on := 6, ground := Ground.data }, { on := 2, ground := Ground.guard }], guard := some (2, false) }) (v := ?vqa8) rfl (by kernel_rfl) (by kernel_rfl) (by kernel_rfl) (fun _ _ _ h => h) (Or.inl ⟨by rfl, ?yqa8⟩) su0 ?rqa8
                case yqa8 => (intro w hSw; go_simp; try with_reducible rfl)
                try simp only [Act.put, List.setIfInBounds_toArray, List.set_cons_zero, List.set_cons_succ]
                refine wpAnyH_take (i := 8) (oi := { dst := some 39, op := Op.fieldAddr 37 (Operand.tmp 38) 4, type := 0, pos := "law.go:98", after := #[{ on := 7, ground := Ground.data }, { on := 2, ground := Ground.guard }], guard := some (2, false) }) (v := ?vqa9) rfl (by kernel_rfl) (by kernel_rfl) (by kernel_rfl) (fun _ _ _ h => h) (Or.inl ⟨by rfl, ?yqa9⟩) su0 ?rqa9
                case yqa9 => (intro w hSw; go_simp; try with_reducible rfl)
                try simp only [Act.put, List.setIfInBounds_toArray, List.set_cons_zero, List.set_cons_succ]
                refine wpAnyH_take (i := 9) (oi := { dst := some 40, op := Op.load 3 (Operand.tmp 39), type := 3, pos := "law.go:98", after := #[{ on := 8, ground := Ground.data }, { on := 2, ground := Ground.guard }], guard := some (2, false) }) (v := .int .i64 q.l) rfl (by kernel_rfl) (by kernel_rfl) (by kernel_rfl) (fun _ _ _ h => h) (Or.inl ⟨by rfl, ?yqa10⟩) su0 ?rqa10
                case yqa10 => (intro w hSw; have c7 := FQ.out w hSw; go_simp; try with_reducible rfl)
                try simp only [Act.put, List.setIfInBounds_toArray, List.set_cons_zero, List.set_cons_succ]
                refine wpAnyH_ready (rs := [10]) (by kernel_rfl) (by simp) ?_
                refine AllReadyH.cons (o := { dst := some 41, op := Op.call { callee := Callee.value (Operand.func 13), args := #[Operand.tmp 34, Operand.tmp 35, Operand.tmp 40], argTypes := #[25, 31, 3] }, type := 4, pos := "law.go:98", after := #[{ on := 3, ground := Ground.data }, { on := 4, ground := Ground.data }, { on := 9, ground := Ground.data }, { on := 2, ground := Ground.chain }, { on := 2, ground := Ground.guard }], guard := some (2, false) }) rfl (fun KK hKK => ?_) ?_
                · go_simp
                  refine (CS.out _ su0).mono ?_
                  rintro e u11' ⟨rfl, bu11'⟩
                  (try go_wp2_with fail)
                  refine hKK.out _ _ (su0.trans (bu11'.mono su0.size)) (fun _ => ?_)
                  clear hKK KK
                  try simp only [Act.put, List.setIfInBounds_toArray, List.set_cons_zero, List.set_cons_succ]
                  refine wpAnyH_name (fun u11 hu11 => ?_)
                  have su11 : (Below WS.heap.size WS) u11 := by rw [hu11.out]; exact (su0.trans (bu11'.mono su0.size))
                  refine wpAnyH_take (i := 11) (oi := { dst := some 42, op := Op.unOp UnOp.not 4 (Operand.tmp 41), type := 4, pos := "law.go:98", after := #[{ on := 10, ground := Ground.data }, { on := 2, ground := Ground.guard }], guard := some (2, false) }) (v := .bool false) rfl (by kernel_rfl) (by kernel_rfl) (by kernel_rfl) (fun _ _ _ h => h) (Or.inl ⟨by rfl, ?yqa12⟩) su11 ?rqa12
                  case yqa12 => (intro w hSw; go_simp; try with_reducible rfl)
                  try simp only [Act.put, List.setIfInBounds_toArray, List.set_cons_zero, List.set_cons_succ]
                  refine wpAnyH_take (i := 12) (oi := { dst := some 43, op := Op.pick (Operand.tmp 33) (Operand.const (Value.bool true)) (Operand.tmp 42), type := 4, pos := "law.go:98", after := #[{ on := 2, ground := Ground.data }, { on := 11, ground := Ground.data }], guard := none }) (v := .bool false) rfl (by kernel_rfl) (by kernel_rfl) (by kernel_rfl) (fun _ _ _ h => h) (Or.inl ⟨by rfl, ?yqa13⟩) su11 ?rqa13
                  case yqa13 => (intro w hSw; go_simp; try with_reducible rfl)
                  try simp only [Act.put, List.setIfInBounds_toArray, List.set_cons_zero, List.set_cons_succ]
                  refine wpAnyH_done (by kernel_rfl) ?_ _
                  have HTX : Hid (TW u11 w.heap.size g v2 (.slice za n6 zc) k2 d2 s9) := HTN.out.below su11
                  have HGX : Hid (u11.heap[hD]? = some (.cells (dc (.slice za n6 zc) k2 d2 s9.g) 31 (0, 0))) := blk_kept HGN.out su11 (blk_lt HGN.out)
                  have HBY : Hid (Below w.heap.size w u11) := HBN.out.trans (su11.mono HBN.out.size)
                  clear FA FQ CS HTN HGN HBN HAC
                  go_wp2
                  go_roundw
                  case rel => exact ⟨i + 1, _, _, _, _, by omega, rfl, by go_num, by rw [HS9.out]; exact HTX.out, by have := HKI.out; omega, by rw [HS9.out]; exact HGX.out, HBY.out⟩
                  case measure => simp [intOf]; omega
                exact AllReadyH.nil
              exact AllReadyH.nil
            exact AllReadyH.nil
          exact AllReadyH.nil
        refine AllReadyH.cons (o := { dst := some 27, op := Op.load 37 (Operand.tmp 26), type := 37, pos := "law.go:97", after := #[{ on := 4, ground := Ground.data }], guard := none }) rfl (fun KK hKK => ?_) ?_
        · obtain ⟨y0, y1, y2, y3, y4, y5, y6, y7⟩ := HAC.out u0 Du0
          go_simp
          refine hKK.out _ _ trivial (fun _ => ?_)
          clear hKK KK
          try simp only [Act.put, List.setIfInBounds_toArray, List.set_cons_zero, List.set_cons_succ]
          refine wpAnyH_name (fun u13 hu13 => ?_)
          have Du13 := Du0
          rw [← hu13.out] at Du13
          refine wpAnyH_ready (rs := [1]) (by kernel_rfl) (by simp) ?_
          refine AllReadyH.cons (o := { dst := some 23, op := Op.load 31 (Operand.tmp 6), type := 31, pos := "law.go:97", after := #[], guard := none }) rfl (fun KK hKK => ?_) ?_
          · obtain ⟨c0, c1, c2, c3, c4, c5, c6, -, -, -, -, -, -, -⟩ := HDC.out u13 Du13
            go_simp
            refine hKK.out _ _ trivial (fun _ => ?_)
            clear hKK KK
            try simp only [Act.put, List.setIfInBounds_toArray, List.set_cons_zero, List.set_cons_succ]
            refine wpAnyH_name (fun u14 hu14 => ?_)
            have Du14 := Du13
            rw [← hu14.out] at Du14
            refine wpAnyH_ready (rs := [6]) (by kernel_rfl) (by simp) ?_
            refine AllReadyH.cons (o := { dst := some 28, op := Op.call { callee := Callee.value (Operand.func 12), args := #[Operand.tmp 22, Operand.tmp 23, Operand.tmp 27], argTypes := #[25, 31, 37] }, type := 33, pos := "law.go:97", after := #[{ on := 0, ground := Ground.data }, { on := 1, ground := Ground.data }, { on := 5, ground := Ground.data }], guard := none }) rfl (fun KK hKK => ?_) ?_
            · go_simp
              refine (CD.out u14 Du14).mono ?_
              rintro e u15' ⟨dv2, v2, k2, d2, rfl, t2, u2, hk2⟩
              obtain ⟨za, zc, rfl, -⟩ := id t2.ds.rs.is.shape
              generalize s9.o.length = n6 at *
              (try go_wp2_with fail)
              refine hKK.out _ _ trivial (fun _ => ?_)
              clear hKK KK
              try simp only [Act.put, List.setIfInBounds_toArray, List.set_cons_zero, List.set_cons_succ]
              refine wpAnyH_name (fun u15 hu15 => ?_)
              rw [← hu15.out] at t2 u2
              have f2 := blk_apart (HT.out.below Du14).ls u2 (blk_kept HGD.out Du14 (blk_lt HGD.out)) (by decide) (by decide)
              have HT2 : Hid (TW u15 w.heap.size g v2 (.slice za n6 zc) k2 d2 s9) := t2
              have HBX : Hid (Below w.heap.size w u15) := u2.below (HB.out.trans (Du14.mono HB.out.size)) (Nat.le_trans HB.out.size Du14.size) HGW.out (fun k hk => (HT.out.below Du14).ls.rs.base hk)
              clear t2 u2
              refine wpAnyH_take (i := 7) (oi := { dst := some 21, op := Op.move (Operand.tmp 28), type := 33, pos := "law.go:97", after := #[{ on := 6, ground := Ground.data }], guard := none }) (v := ?vr16) rfl (by kernel_rfl) (by kernel_rfl) (by kernel_rfl) (fun _ _ _ h => h) (Or.inl ⟨by rfl, ?yr16⟩) trivial ?rr16
              case yr16 => (intro w hSw; go_simp; try with_reducible rfl)
              try simp only [Act.put, List.setIfInBounds_toArray, List.set_cons_zero, List.set_cons_succ]
              refine wpAnyH_take (i := 8) (oi := { dst := some 29, op := Op.extract (Operand.tmp 21) 0, type := 31, pos := "law.go:97", after := #[{ on := 7, ground := Ground.data }], guard := none }) (v := ?vr17) rfl (by kernel_rfl) (by kernel_rfl) (by kernel_rfl) (fun _ _ _ h => h) (Or.inl ⟨by rfl, ?yr17⟩) trivial ?rr17
              case yr17 => (intro w hSw; go_simp; try with_reducible rfl)
              try simp only [Act.put, List.setIfInBounds_toArray, List.set_cons_zero, List.set_cons_succ]
              refine wpAnyH_take (i := 9) (oi := { dst := some 30, op := Op.extract (Operand.tmp 21) 1, type := 4, pos := "law.go:97", after := #[{ on := 7, ground := Ground.data }, { on := 10, ground := Ground.gcOnly Departure.lateStores }], guard := none }) (v := ?vr18) rfl (by kernel_rfl) (by kernel_rfl) (by kernel_rfl) (fun _ _ _ h => h) (Or.inl ⟨by rfl, ?yr18⟩) trivial ?rr18
              case yr18 => (intro w hSw; go_simp; try with_reducible rfl)
              try simp only [Act.put, List.setIfInBounds_toArray, List.set_cons_zero, List.set_cons_succ]
              refine wpAnyH_ready (rs := [10]) (by kernel_rfl) (by simp) ?_
              refine AllReadyH.cons (o := { dst := none, op := Op.store 31 (Operand.tmp 6) (Operand.tmp 29), type := 0, pos := "law.go:97", after := #[{ on := 8, ground := Ground.data }, { on := 6, ground := Ground.chain }, { on := 0, ground := Ground.phase }, { on := 1, ground := Ground.phase }, { on := 2, ground := Ground.phase }, { on := 3, ground := Ground.phase }, { on := 4, ground := Ground.phase }, { on := 5, ground := Ground.phase }, { on := 6, ground := Ground.phase }, { on := 7, ground := Ground.phase }, { on := 8, ground := Ground.phase }, { on := 9, ground := Ground.textOnly Departure.lateStores }], guard := none }) rfl (fun KK hKK => ?_) ?_
              · refine wp_store_row 31 _ _ rfl hD (dc (.slice za n6 zc) k2 d2 s9.g) rfl rfl 31 _ f2 sizeD rfl (dc_one _ _ _ _ _ _) ?_
                refine hKK.out _ _ trivial (fun _ => ?_)
                clear hKK KK
                try simp only [Act.put]
                refine wpAnyH_name (fun u19 hu19 => ?_)
                have HGN : Hid (u19.heap[hD]? = some (.cells (dc (.slice za n6 zc) k2 d2 s9.g) 31 (0, 0))) := by unfold Hid; rw [hu19.out]; exact setRow_heap _ _ _ _ _ _ f2
                have HTN : Hid (TW u19 w.heap.size g v2 (.slice za n6 zc) k2 d2 s9) := by unfold Hid; rw [hu19.out]; exact HT2.out.bt (Bt.row _ _ _) f2
                have HBN : Hid (Below w.heap.size w u19) := by unfold Hid; rw [hu19.out]; exact below_setRow HBX.out HDW.out _
                refine wpAnyH_take (i := 11) (oi := { dst := some 7, op := Op.assign (Operand.tmp 30), type := 4, pos := "law.go:97", after := #[{ on := 9, ground := Ground.data }, { on := 10, ground := Ground.chain }, { on := 0, ground := Ground.phase }, { on := 1, ground := Ground.phase }, { on := 2, ground := Ground.phase }, { on := 3, ground := Ground.phase }, { on := 4, ground := Ground.phase }, { on := 5, ground := Ground.phase }, { on := 6, ground := Ground.phase }, { on := 7, ground := Ground.phase }, { on := 8, ground := Ground.phase }, { on := 9, ground := Ground.phase }, { on := 10, ground := Ground.phase }], guard := none }) (v := ?vr20) rfl (by kernel_rfl) (by kernel_rfl) (by kernel_rfl) (fun _ _ _ h => h) (Or.inl ⟨by rfl, ?yr20⟩) trivial ?rr20
                case yr20 => (intro w hSw; go_simp; try with_reducible rfl)
                try simp only [Act.put, List.setIfInBounds_toArray, List.set_cons_zero, List.set_cons_succ]
                refine wpAnyH_done (by kernel_rfl) ?_ _
                clear CD HDC HT2 HBX f2 HT HGD
                obtain ⟨WS, rfl⟩ : ∃ WS, WS = u19 := ⟨_, rfl⟩
                have FA : Hid (∀ x, Below WS.heap.size WS x → DC x hD (.slice za n6 zc) k2 d2 s9.g) := fun x hx => DB.dc (blk_kept HGN.out hx (blk_lt HGN.out))
                have FQ : Hid (∀ x, Below WS.heap.size WS x → x.cell? ⟨b, off + i * 8 + 7, none⟩ = some (.int .i64 q.l)) := fun x hx => by
                  obtain ⟨b', off', e, y⟩ := HAT.out i hin x (HBN.out.trans (hx.mono HBN.out.size))
                  cases e
                  have := y.c7
                  rw [HQI.out] at this
                  exact this
                have CS : Hid (∀ x, Below WS.heap.size WS x → Calls Try.prog 13 #[.pointer (some ⟨g, 0, none⟩), .agg (dc (.slice za n6 zc) k2 d2 s9.g), .int .i64 q.l] x fun e w' => e = .returned (.bool true) ∧ Below x.heap.size x w') := fun x hx => same_any x w.heap.size g v2 _ s9 k2 d2 q.l (HTN.out.below hx)
                go_upto_region 9 with fail
                refine wp_region_held_drew (S := Below WS.heap.size WS) (by kernel_rfl) ((Below.refl _ _).drew) (fun _ => ?_)
                refine wpAnyH_name (fun u0 hu0 => ?_)
                have su0 : (Below WS.heap.size WS) u0 := by rw [hu0.out]; exact ((Below.refl _ _).drew)
                refine wpAnyH_take (i := 0) (oi := { dst := some 31, op := Op.move (Operand.tmp 7), type := 4, pos := "law.go:98", after := #[], guard := none }) (v := ?vqb1) rfl (by kernel_rfl) (by kernel_rfl) (by kernel_rfl) (fun _ _ _ h => h) (Or.inl ⟨by rfl, ?yqb1⟩) su0 ?rqb1
                case yqb1 => (intro w hSw; go_simp; try with_reducible rfl)
                try simp only [Act.put, List.setIfInBounds_toArray, List.set_cons_zero, List.set_cons_succ]
                refine wpAnyH_take (i := 1) (oi := { dst := some 32, op := Op.unOp UnOp.not 4 (Operand.tmp 31), type := 4, pos := "law.go:98", after := #[{ on := 0, ground := Ground.data }], guard := none }) (v := .bool false) rfl (by kernel_rfl) (by kernel_rfl) (by kernel_rfl) (fun _ _ _ h => h) (Or.inl ⟨by rfl, ?yqb2⟩) su0 ?rqb2
                case yqb2 => (intro w hSw; go_simp; try with_reducible rfl)
                try simp only [Act.put, List.setIfInBounds_toArray, List.set_cons_zero, List.set_cons_succ]
                refine wpAnyH_take (i := 2) (oi := { dst := some 33, op := Op.move (Operand.tmp 32), type := 4, pos := "law.go:98", after := #[{ on := 1, ground := Ground.data }], guard := none }) (v := ?vqb3) rfl (by kernel_rfl) (by kernel_rfl) (by kernel_rfl) (fun _ _ _ h => h) (Or.inl ⟨by rfl, ?yqb3⟩) su0 ?rqb3
                case yqb3 => (intro w hSw; go_simp; try with_reducible rfl)
                try simp only [Act.put, List.setIfInBounds_toArray, List.set_cons_zero, List.set_cons_succ]
                refine wpAnyH_take (i := 3) (oi := { dst := some 34, op := Op.move (Operand.tmp 5), type := 25, pos := "law.go:98", after := #[{ on := 2, ground := Ground.guard }], guard := some (2, false) }) (v := ?vqb4) rfl (by kernel_rfl) (by kernel_rfl) (by kernel_rfl) (fun _ _ _ h => h) (Or.inl ⟨by rfl, ?yqb4⟩) su0 ?rqb4
                case yqb4 => (intro w hSw; go_simp; try with_reducible rfl)
                try simp only [Act.put, List.setIfInBounds_toArray, List.set_cons_zero, List.set_cons_succ]
                refine wpAnyH_take (i := 4) (oi := { dst := some 35, op := Op.load 31 (Operand.tmp 6), type := 31, pos := "law.go:98", after := #[{ on := 2, ground := Ground.guard }], guard := some (2, false) }) (v := .agg (dc (.slice za n6 zc) k2 d2 s9.g)) rfl (by kernel_rfl) (by kernel_rfl) (by kernel_rfl) (fun _ _ _ h => h) (Or.inl ⟨by rfl, ?yqb5⟩) su0 ?rqb5
                case yqb5 => (intro w hSw; obtain ⟨c0, c1, c2, c3, c4, c5, c6, -, -, -, -, -, -, -⟩ := FA.out w hSw; go_simp; try with_reducible rfl)
                try simp only [Act.put, List.setIfInBounds_toArray, List.set_cons_zero, List.set_cons_succ]
                refine wpAnyH_take (i := 5) (oi := { dst := some 36, op := Op.move (Operand.tmp 0), type := 22, pos := "law.go:98", after := #[{ on := 2, ground := Ground.guard }], guard := some (2, false) }) (v := ?vqb6) rfl (by kernel_rfl) (by kernel_rfl) (by kernel_rfl) (fun _ _ _ h => h) (Or.inl ⟨by rfl, ?yqb6⟩) su0 ?rqb6
                case yqb6 => (intro w hSw; go_simp; try with_reducible rfl)
                try simp only [Act.put, List.setIfInBounds_toArray, List.set_cons_zero, List.set_cons_succ]
                refine wpAnyH_take (i := 6) (oi := { dst := some 37, op := Op.move (Operand.tmp 8), type := 3, pos := "law.go:98", after := #[{ on := 2, ground := Ground.guard }], guard := some (2, false) }) (v := ?vqb7) rfl (by kernel_rfl) (by kernel_rfl) (by kernel_rfl) (fun _ _ _ h => h) (Or.inl ⟨by rfl, ?yqb7⟩) su0 ?rqb7
                case yqb7 => (intro w hSw; go_simp; try with_reducible rfl)
                try simp only [Act.put, List.setIfInBounds_toArray, List.set_cons_zero, List.set_cons_succ]
                refine wpAnyH_take (i := 7) (oi := { dst := some 38, op := Op.indexAddr 22 (Operand.tmp 36) (Operand.tmp 37), type := 0, pos := "law.go:98", after := #[{ on := 5, ground := Ground.data }, { on := 6, ground := Ground.data }, { on := 2, ground := Ground.guard }], guard := some (2, false) }) (v := ?vqb8) rfl (by kernel_rfl) (by kernel_rfl) (by kernel_rfl) (fun _ _ _ h => h) (Or.inl ⟨by rfl, ?yqb8⟩) su0 ?rqb8
                case yqb8 => (intro w hSw; go_simp; try with_reducible rfl)
                try simp only [Act.put, List.setIfInBounds_toArray, List.set_cons_zero, List.set_cons_succ]
                refine wpAnyH_take (i := 8) (oi := { dst := some 39, op := Op.fieldAddr 37 (Operand.tmp 38) 4, type := 0, pos := "law.go:98", after := #[{ on := 7, ground := Ground.data }, { on := 2, ground := Ground.guard }], guard := some (2, false) }) (v := ?vqb9) rfl (by kernel_rfl) (by kernel_rfl) (by kernel_rfl) (fun _ _ _ h => h) (Or.inl ⟨by rfl, ?yqb9⟩) su0 ?rqb9
                case yqb9 => (intro w hSw; go_simp; try with_reducible rfl)
                try simp only [Act.put, List.setIfInBounds_toArray, List.set_cons_zero, List.set_cons_succ]
                refine wpAnyH_take (i := 9) (oi := { dst := some 40, op := Op.load 3 (Operand.tmp 39), type := 3, pos := "law.go:98", after := #[{ on := 8, ground := Ground.data }, { on := 2, ground := Ground.guard }], guard := some (2, false) }) (v := .int .i64 q.l) rfl (by kernel_rfl) (by kernel_rfl) (by kernel_rfl) (fun _ _ _ h => h) (Or.inl ⟨by rfl, ?yqb10⟩) su0 ?rqb10
                case yqb10 => (intro w hSw; have c7 := FQ.out w hSw; go_simp; try with_reducible rfl)
                try simp only [Act.put, List.setIfInBounds_toArray, List.set_cons_zero, List.set_cons_succ]
                refine wpAnyH_ready (rs := [10]) (by kernel_rfl) (by simp) ?_
                refine AllReadyH.cons (o := { dst := some 41, op := Op.call { callee := Callee.value (Operand.func 13), args := #[Operand.tmp 34, Operand.tmp 35, Operand.tmp 40], argTypes := #[25, 31, 3] }, type := 4, pos := "law.go:98", after := #[{ on := 3, ground := Ground.data }, { on := 4, ground := Ground.data }, { on := 9, ground := Ground.data }, { on := 2, ground := Ground.chain }, { on := 2, ground := Ground.guard }], guard := some (2, false) }) rfl (fun KK hKK => ?_) ?_
                · go_simp
                  refine (CS.out _ su0).mono ?_
                  rintro e u11' ⟨rfl, bu11'⟩
                  (try go_wp2_with fail)
                  refine hKK.out _ _ (su0.trans (bu11'.mono su0.size)) (fun _ => ?_)
                  clear hKK KK
                  try simp only [Act.put, List.setIfInBounds_toArray, List.set_cons_zero, List.set_cons_succ]
                  refine wpAnyH_name (fun u11 hu11 => ?_)
                  have su11 : (Below WS.heap.size WS) u11 := by rw [hu11.out]; exact (su0.trans (bu11'.mono su0.size))
                  refine wpAnyH_take (i := 11) (oi := { dst := some 42, op := Op.unOp UnOp.not 4 (Operand.tmp 41), type := 4, pos := "law.go:98", after := #[{ on := 10, ground := Ground.data }, { on := 2, ground := Ground.guard }], guard := some (2, false) }) (v := .bool false) rfl (by kernel_rfl) (by kernel_rfl) (by kernel_rfl) (fun _ _ _ h => h) (Or.inl ⟨by rfl, ?yqb12⟩) su11 ?rqb12
                  case yqb12 => (intro w hSw; go_simp; try with_reducible rfl)
                  try simp only [Act.put, List.setIfInBounds_toArray, List.set_cons_zero, List.set_cons_succ]
                  refine wpAnyH_take (i := 12) (oi := { dst := some 43, op := Op.pick (Operand.tmp 33) (Operand.const (Value.bool true)) (Operand.tmp 42), type := 4, pos := "law.go:98", after := #[{ on := 2, ground := Ground.data }, { on := 11, ground := Ground.data }], guard := none }) (v := .bool false) rfl (by kernel_rfl) (by kernel_rfl) (by kernel_rfl) (fun _ _ _ h => h) (Or.inl ⟨by rfl, ?yqb13⟩) su11 ?rqb13
                  case yqb13 => (intro w hSw; go_simp; try with_reducible rfl)
                  try simp only [Act.put, List.setIfInBounds_toArray, List.set_cons_zero, List.set_cons_succ]
                  refine wpAnyH_done (by kernel_rfl) ?_ _
                  have HTX : Hid (TW u11 w.heap.size g v2 (.slice za n6 zc) k2 d2 s9) := HTN.out.below su11
                  have HGX : Hid (u11.heap[hD]? = some (.cells (dc (.slice za n6 zc) k2 d2 s9.g) 31 (0, 0))) := blk_kept HGN.out su11 (blk_lt HGN.out)
                  have HBY : Hid (Below w.heap.size w u11) := HBN.out.trans (su11.mono HBN.out.size)
                  clear FA FQ CS HTN HGN HBN HAC
                  go_wp2
                  go_roundw
                  case rel => exact ⟨i + 1, _, _, _, _, by omega, rfl, by go_num, by rw [HS9.out]; exact HTX.out, by have := HKI.out; omega, by rw [HS9.out]; exact HGX.out, HBY.out⟩
                  case measure => simp [intOf]; omega
                exact AllReadyH.nil
              exact AllReadyH.nil
            exact AllReadyH.nil
          exact AllReadyH.nil
        exact AllReadyH.nil
      · obtain rfl : i = n9 := by omega
        have lt2 : ¬ (i : Int) < (i : Int) := by omega
        obtain ⟨da, dk, rfl, -⟩ := id HT.out.ds.rs.is.shape
        obtain ⟨c0, c1, c2, c3, c4, c5, c6, -, -, -, -, -, -, -⟩ := DB.dc HGD.out
        have cs := same_any wr w.heap.size g v _ (plS l i) k d a1 HT.out
        clear HT HGD hk HQ HAT HEND
        generalize (plS l i).o.length = n8 at *
        generalize (plS l i).g = GG at *
        go_upto_region 11 with fail
        go_wp2_with fail
        refine cs.mono ?_
        rintro e w5 ⟨rfl, b5⟩
        have HB5 : Hid (Below w.heap.size w w5) := HB.out.trans (b5.mono HB.out.size)
        have ca := CA.out w5
        clear cs b5 c0 c1 c2 c3 c4 c5 c6
        go_wp2_with fail
        refine ca.mono ?_
        rintro e w6 ⟨rfl, b6⟩
        have HB6 : Hid (Below w.heap.size w w6) := HB5.out.trans (b6.mono HB5.out.size)
        clear ca b6
        go_wp2
        go_ret
        exact ⟨rfl, HB6.out⟩

theorem contract (H : Type) (enc : TypeId × Value → H) (W : World) (base : Nat) (args : Array Value) (ds gs : List (DataW H)) (before : List MemPlace)
    (hval : ∀ (j : Nat) t v, Try.f3.params[j]? = some t → args[j]? = some v → Value.okWide Try.prog W .any base t v)
    (hW : DataW.Whole enc Try.prog Try.f3.params.toList Rows.lossPlaysSpec.vars false W args.toList ds gs before) (_hL : laidMetH Try.prog Rows.lossPlaysRow.laid W)
    (hsz0 : (DataW.weightsEach Try.prog (Try.f3.params.toList ++ Rows.lossPlaysSpec.plain.varTypes Try.prog) (ds ++ gs)).all (· ≤ reachBytes) = true) :
    Calls Try.prog 3 args W fun e W' => ∃ v, e = .returned v ∧ Rows.lossPlaysSpec.post enc Try.prog Try.f3 false true false false W args v W' := by
  have hW' := hW
  obtain ⟨p, q, hA0, hV, rfl, hfz, hnd⟩ := hW
  have hA : DataW.TrodAll enc Try.prog W 0 (fun _ => true) true Try.f3.params.toList args.toList ds p := hA0
  rw [Try.params3] at hA hval hsz0
  obtain ⟨v0, vs0, d0, ds0, p0, q0, hargs, rfl, rfl, h0, r0⟩ := trodAll_cons hA
  obtain ⟨v1, vs1, d1, ds1, p1, q1, rfl, rfl, rfl, h1, r1⟩ := trodAll_cons r0
  obtain ⟨rfl, rfl, rfl⟩ := trodAll_nil r1
  obtain rfl : args = #[v0, v1] := by cases args; simp_all
  obtain ⟨rfl, rfl⟩ := trodVars_none hV
  have k0 := h0
  have lt0 : ∀ x ∈ p0, x.block < W.heap.size := by obtain ⟨m, hm⟩ := k0; exact DataW.trod_lt m _ _ _ hm
  obtain ⟨L0, w0⟩ := aqs_in (hval 0 22 v0 rfl rfl) h0
  obtain ⟨a1, rfl, rfl, rfl, w1⟩ := open_int Try.underlying3 (hval 1 3 v1 rfl rfl) h1
  clear hA0
  refine (walk v0 L0 a1 W w0 w1).mono fun e W' ⟨he, bel⟩ => ?_
  subst he
  exact ⟨_, rfl, _, _, _, [], _, [], hW', trodAll_mk1 (shut_bool Try.underlying4 _), (trodAll_cons_mk (Below.trod laidOut (by kernel_rfl) (of_decide_eq_true (by kernel_rfl)) k0 bel lt0) (trodAll_cons_mk (shut_int Try.underlying3 w1) trodAll_mk0)), rfl, bel.frame _, fun h => by cases h⟩

theorem laid_met (os : Os) : laidMet Try.prog Rows.lossPlaysRow.laid ((World.holding Try.prog os ⟨#[], #[], []⟩).forCall (fun _ _ => 0) ⟨#[], #[.slice none 0 0, .int .i64 0], []⟩).memory :=
  laidMet_of_run' 8 (by kernel_rfl) (by kernel_rfl)
theorem reads (os : Os) {H : Type} (enc : TypeId × Value → H) : ∃ places, DataW.whole enc Try.prog ((World.holding Try.prog os ⟨#[], #[], []⟩).forCall (fun _ _ => 0) ⟨#[], #[.slice none 0 0, .int .i64 0], []⟩).memory Try.f3.params.toList Rows.lossPlaysSpec.vars false #[Value.slice none 0 0, .int .i64 0].toList 8 = some ([.nil, .lit (.int .i64 0)], [], places) :=
  ⟨[], by kernel_rfl⟩

set_option maxRecDepth 100000 in
theorem lifted (os : Os) (started : os.Started) (H : Type) (enc : TypeId × Value → H) (F : Stop.Interp) :
    ReturnsInHanded {} Try.checked os 3 .any ((OpenSpec.ofChange Rows.lossPlaysSpec).preRow enc Try.prog Try.f3 Rows.lossPlaysRow.domain false Rows.lossPlaysRow.laid) (((OpenSpec.ofChange Rows.lossPlaysSpec).at F).post enc Try.prog Try.f3 false true false false) := by
  obtain ⟨places, hx⟩ := reads os enc
  refine returnsInHanded_of_row (C := Try.checked) (s := OpenSpec.ofChange Rows.lossPlaysSpec) own started (by kernel_rfl) Try.func3
    (witness_row_at (enc := enc) (C := Try.checked) false (World.holding Try.prog os ⟨#[], #[], []⟩) #[.slice none 0 0, .int .i64 0] rfl (by kernel_rfl) (by kernel_rfl) (by kernel_rfl)
      (OpenSpec.preRow_of_cond 8 hx (by kernel_rfl) (fun k hk => by cases hk) (by kernel_rfl) (laid_met os))) ?_
  intro W base args ds gs before hval hW _ _ hsz hL _ _
  exact contract H enc W base args ds gs before hval hW hL hsz

theorem said : Rows.LossPlaysSaid :=
  OpenClaim.holds_of_cond 3 Try.f3 rfl rfl rfl rfl rfl rfl rfl ⟨rfl, rfl, rfl, rfl, rfl⟩ rfl rfl rfl rfl rfl (by kernel_rfl) Try.func3 (by kernel_rfl)
    (of_decide_eq_true (by kernel_rfl)) (by unfold Func.isWrapper; first | (rw [if_pos (by decide +kernel)]; kernel_rfl) | (rw [if_neg (by decide +kernel)]; exact ⟨rfl, rfl⟩))
    (fun os started H enc _ F => by rw [OpenClaim.pre_eq_preRow]; exact lifted os started H enc F)

end Go.Proofs.Ytamjbmbflllbfaa.lossPlays

namespace Go.Proofs.Ytamjbmbflllbfaa
/-- LossPlays. -/
theorem lossPlays_holds : Rows.LossPlaysSaid := lossPlays.said
#print axioms lossPlays_holds
end Go.Proofs.Ytamjbmbflllbfaa
