/-
  A fork goes its own way, as the document says, and a ledger that is not there has nothing: for every two rows of at most 200 calls of at most 70 spans each.
-/
import Derived.Test.YtamjbmbflllbfaaPkF
import Derived.Test.YtamjbmbflllbfaaPkF
import Derived.Test.YtamjbmbflllbfaaPkF
namespace Go.Proofs.Ytamjbmbflllbfaa.lossForks
open Go.ChangeShapes Go.WideShapes Go.ChangeAt Go.RowKit Go.Deep Go.ChangeMaps
set_option maxRecDepth 100000

set_option maxHeartbeats 8000000 in
theorem walk (v0 : Value) (l : List Atc) (v1 : Value) (m : List Atc) (w : World) (hq : AQ w v0 l) (hm : AQ w v1 m) :
    Calls Try.prog 4 #[v0, v1] w fun e w' => e = .returned (.bool true) ∧ Below w.heap.size w w' := by
  have cf := few_any w v0 l hq
  obtain ⟨a, c, rfl, -⟩ := id hq.shape
  obtain ⟨a2, c2, rfl, -⟩ := id hm.shape
  have CA : Hid (∀ W, Calls Try.prog 9 #[] W fun e w' => e = .returned (.bool true) ∧ Below W.heap.size W w') := awake_any
  have CM : Hid (∀ W, Below w.heap.size w W → Calls Try.prog 8 #[.slice a2 m.length c2] W fun e w' => e = .returned (.bool (fewB m)) ∧ Below W.heap.size W w') := fun W hb => few_any W _ m (hm.kept hb)
  cases hf : fewB l with
  | false =>
    rw [hf] at cf
    generalize l.length = n9 at *
    clear hq hm hf CM
    generalize m.length = m9 at *
    go_enter Try.func4, Try.ntmps4
    go_wp2_with fail
    refine cf.mono ?_
    rintro e w1 ⟨rfl, b1⟩
    have HB1 : Hid (Below w.heap.size w w1) := b1
    have ca := CA.out w1
    clear cf b1
    go_wp2_with fail
    refine ca.mono ?_
    rintro e w2 ⟨rfl, b2⟩
    have HB2 : Hid (Below w.heap.size w w2) := HB1.out.trans (b2.mono HB1.out.size)
    clear ca b2
    go_wp2
    go_ret
    exact ⟨rfl, HB2.out⟩
  | true =>
    rw [hf] at cf
    cases hf2 : fewB m with
    | false =>
      rw [hf2] at CM
      generalize l.length = n9 at *
      clear hq hm hf hf2
      generalize m.length = m9 at *
      go_enter Try.func4, Try.ntmps4
      go_wp2_with fail
      refine cf.mono ?_
      rintro e w1 ⟨rfl, b1⟩
      have HB1 : Hid (Below w.heap.size w w1) := b1
      have cm := CM.out w1 b1
      clear cf b1
      go_wp2_with fail
      refine cm.mono ?_
      rintro e w2 ⟨rfl, b2⟩
      have HB2 : Hid (Below w.heap.size w w2) := HB1.out.trans (b2.mono HB1.out.size)
      have ca := CA.out w2
      clear cm b2 CM
      go_wp2_with fail
      refine ca.mono ?_
      rintro e w3 ⟨rfl, b3⟩
      have HB3 : Hid (Below w.heap.size w w3) := HB2.out.trans (b3.mono HB2.out.size)
      clear ca b3
      go_wp2
      go_ret
      exact ⟨rfl, HB3.out⟩
    | true =>
      rw [hf2] at CM
      obtain ⟨hn200, h70⟩ := fewB_iff.1 hf
      obtain ⟨hm200, g70⟩ := fewB_iff.1 hf2
      have HQ2 : Hid (∀ i, i < m.length → okA w (atA m i) ∧ (atA m i).L.length ≤ 70 ∧ ∀ s, plF s m (i + 1) = nxS (plF s m i) (atA m i)) := fun i hi => ⟨hm.ok _ (atA_mem m i hi), g70 _ (atA_mem m i hi), fun s => plF_succ s m i hi⟩
      have HAT2 : Hid (∀ j, j < m.length → ∀ W, Below w.heap.size w W → ∃ b off, a2 = some ⟨b, off, none⟩ ∧ AC W b (off + j * 8) (atA m j)) := fun j hj W hb => by
        obtain ⟨b, off, e, q⟩ := AQ.at (hm.kept hb) j hj
        exact ⟨b, off, e, aC q⟩
      have HQ : Hid (∀ i, i < l.length → okA w (atA l i) ∧ (atA l i).L.length ≤ 70 ∧ plS l (i + 1) = nxS (plS l i) (atA l i)) := fun i hi => ⟨hq.ok _ (atA_mem l i hi), h70 _ (atA_mem l i hi), plS_succ l i hi⟩
      have HAT : Hid (∀ j, j < l.length → ∀ W, Below w.heap.size w W → ∃ b off, a = some ⟨b, off, none⟩ ∧ AC W b (off + j * 8) (atA l j)) := fun j hj W hb => by
        obtain ⟨b, off, e, q⟩ := AQ.at (hq.kept hb) j hj
        exact ⟨b, off, e, aC q⟩
      have HEND : Hid ((plS l l.length).ok) := plS_ok l _ (Nat.le_refl _)
      clear hf hf2 hq hm h70 g70
      generalize hn9 : l.length = n9 at *
      clear hn9
      generalize hm9 : m.length = m9 at *
      clear hm9
      go_enter Try.func4, Try.ntmps4
      go_wp2_with fail
      refine cf.mono ?_
      rintro e w1 ⟨rfl, b1⟩
      have cm := CM.out w1 b1
      have HB1 : Hid (Below w.heap.size w w1) := b1
      clear cf b1 CM
      go_wp2_with fail
      refine cm.mono ?_
      rintro e w1' ⟨rfl, b1'⟩
      have HB1' : Hid (Below w.heap.size w w1') := HB1.out.trans (b1'.mono HB1.out.size)
      clear cm b1' HB1
      have cn := lnew_any w1' w.heap.size
      obtain ⟨g, eg⟩ : ∃ x, x = w1'.heap.size := ⟨_, rfl⟩
      rw [← eg] at cn
      have HGW : Hid (w.heap.size ≤ g) := by rw [eg]; exact HB1'.out.size
      clear eg
      go_wp2_with fail
      refine cn.mono ?_
      rintro e w2 ⟨rfl, q2, ls⟩
      have b2 : Below w1'.heap.size w1' w2 := by rw [q2]; exact al_b _ _
      have HB2 : Hid (Below w.heap.size w w2) := HB1'.out.trans (b2.mono HB1'.out.size)
      have HL2 : Hid (LS w2 w.heap.size g (.slice none 0 0) lg0) := ls
      have cr := rnew_any w2 w.heap.size
      clear cn q2 ls b2
      go_wp2_with fail
      refine cr.mono ?_
      rintro e w3 ⟨rfl, b3, ds⟩
      obtain ⟨W4, hW4⟩ : ∃ W4, W4 = w3.alloc (.cells #[.slice none 0 0, .int .i64 0, .int .i64 0, .int .i64 0, .int .i64 0, .bool false, .int .i64 0] 31) := ⟨_, rfl⟩
      obtain ⟨W5, hW5⟩ : ∃ W5, W5 = W4.setRow w3.heap.size (dc (.slice none 0 0) 0 pk0 (-1)) := ⟨_, rfl⟩
      have b4 : Below w3.heap.size w3 W4 := by rw [hW4]; exact al_b _ _
      have b5 : Below w3.heap.size w3 W5 := by rw [hW5]; exact below_setRow b4 (Nat.le_refl _) _
      have HG4 : Hid ((w3.alloc (.cells #[.slice none 0 0, .int .i64 0, .int .i64 0, .int .i64 0, .int .i64 0, .bool false, .int .i64 0] 31)).heap[w3.heap.size]? = some (.cells #[.slice none 0 0, .int .i64 0, .int .i64 0, .int .i64 0, .int .i64 0, .bool false, .int .i64 0] 31 (0, 0))) := heap_alloc_new _ _
      have HG5 : Hid (W5.heap[w3.heap.size]? = some (.cells (dc (.slice none 0 0) 0 pk0 (-1)) 31 (0, 0))) := by unfold Hid; rw [hW5, hW4]; exact setRow_heap _ _ _ _ _ _ HG4.out
      have HT5 : Hid (TW W5 w.heap.size g (.slice none 0 0) (.slice none 0 0) 0 pk0 lg0) := (TW.mk (HL2.out.below b3) ds).below b5
      have HB3 : Hid (Below w.heap.size w w3) := HB2.out.trans (b3.mono HB2.out.size)
      have HB5 : Hid (Below w.heap.size w W5) := HB3.out.trans (b5.mono HB3.out.size)
      have HDW : Hid (w.heap.size ≤ w3.heap.size) := HB3.out.size
      clear cr b3 ds b4 b5
      go_wp2_with (refine wpList_store_row rfl 31 _ _ rfl w3.heap.size (dc (.slice none 0 0) 0 pk0 (-1)) rfl rfl 31 _ HG4.out sizeD rfl (dc_one _ _ _ _ _ _) (Hid.out ?_))
      unfold Hid
      rw [← hW4, ← hW5]
      clear hW4 hW5 HG4
      generalize w3.heap.size = hD at *
      go_wp2_with fail
      go_loopw [7] (fun u wr => ∃ (i : Nat) (v dv : Value) (k : Int) (d : Pk), i ≤ n9 ∧ u = .int .i64 i ∧ TW wr w.heap.size g v dv k d (plS l i) ∧ k ≤ (i : Int) ∧ wr.heap[hD]? = some (.cells (dc dv k d (plS l i).g) 31 (0, 0)) ∧ Below w.heap.size w wr) (fun u _ => n9 - (intOf u).toNat)
      case atStart => exact ⟨0, _, _, _, _, by omega, rfl, HT5.out, by omega, HG5.out, HB5.out⟩
      case round =>
        obtain ⟨i, v, dv, k, d, hi, rfl, tw, hk, hgd, bel⟩ := hrel
        have HB : Hid (Below w.heap.size w wr) := bel
        have HT : Hid (TW wr w.heap.size g v dv k d (plS l i)) := tw
        have HGD : Hid (wr.heap[hD]? = some (.cells (dc dv k d (plS l i).g) 31 (0, 0))) := hgd
        clear HB1' HB2 HB3 HB5 HT5 HG5 HL2 bel tw hgd
        by_cases hin : i < n9
        · have lt2 : (i : Int) < (n9 : Int) := by omega
          obtain ⟨b, off, rfl, hac⟩ := HAT.out i hin wr HB.out
          obtain ⟨oq, l7, es⟩ := HQ.out i hin
          obtain ⟨da, dk, rfl, -⟩ := id HT.out.ds.rs.is.shape
          have HAC : Hid (∀ x, Below wr.heap.size wr x → AC x b (off + i * 8) (atA l i)) := fun x hx => by
            obtain ⟨b', off', e, q⟩ := HAT.out i hin x (HB.out.trans (hx.mono HB.out.size))
            cases e
            exact q
          have HES : Hid (plS l (i + 1) = nxS (plS l i) (atA l i)) := es
          have CD : Hid (∀ x, Below wr.heap.size wr x → Calls Try.prog 12 #[.pointer (some ⟨g, 0, none⟩), .agg (dc (.slice da (plS l i).o.length dk) k d (plS l i).g), .agg #[.int .u8 (atA l i).k, .int .i64 (atA l i).p.n, .int .i64 (atA l i).p.t, .int .i64 (atA l i).p.z, .bool (atA l i).p.a, (atA l i).u, .int .i64 (atA l i).n, .int .i64 (atA l i).l]] x fun e w' => ∃ dv' v' k' d', e = .returned (.tuple #[.agg (dc dv' k' d' (nxS (plS l i) (atA l i)).g), .bool true]) ∧ TW w' w.heap.size g v' dv' k' d' (nxS (plS l i) (atA l i)) ∧ LU x w' g v v' ∧ k' ≤ k + 1) := fun x hx => do_any x w g v _ (plS l i) k d (atA l i) (HT.out.below hx) HGW.out (HB.out.trans (hx.mono HB.out.size)) oq l7 (by omega)
          have HDC : Hid (∀ x, Below wr.heap.size wr x → DC x hD (.slice da (plS l i).o.length dk) k d (plS l i).g) := fun x hx => DB.dc (blk_kept HGD.out hx (blk_lt HGD.out))
          have HKI : Hid (k ≤ (i : Int)) := hk
          clear oq l7 es hk hac
          rw [← HES.out] at CD
          generalize hs9 : plS l (i + 1) = s9 at *
          have HS9 : Hid (plS l (i + 1) = s9) := hs9
          clear hs9
          generalize plS l i = s at *
          generalize atA l i = q at *
          generalize s.o.length = n8 at *
          go_wp2_with fail
          refine wp_region_held_drew (S := fun _ => True) (by kernel_rfl) trivial (fun _ => ?_)
          refine wpAnyH_name (fun u0 hu0 => ?_)
          have bu0 : Below wr.heap.size wr u0 := by rw [hu0.out]; exact (Below.refl _ _).drew
          have Du0 : Below wr.heap.size wr u0 := by rw [hu0.out]; exact (Below.refl _ _).drew
          refine wpAnyH_take (i := 0) (oi := { dst := some 42, op := Op.move (Operand.tmp 5), type := 25, pos := "law.go:112", after := #[], guard := none }) (v := ?vr1) rfl (by kernel_rfl) (by kernel_rfl) (by kernel_rfl) (fun _ _ _ h => h) (Or.inl ⟨by rfl, ?yr1⟩) trivial ?rr1
          case yr1 => (intro w hSw; go_simp; try with_reducible rfl)
          try simp only [Act.put, List.setIfInBounds_toArray, List.set_cons_zero, List.set_cons_succ]
          refine wpAnyH_take (i := 2) (oi := { dst := some 44, op := Op.move (Operand.tmp 0), type := 22, pos := "law.go:112", after := #[], guard := none }) (v := ?vr2) rfl (by kernel_rfl) (by kernel_rfl) (by kernel_rfl) (fun _ _ _ h => h) (Or.inl ⟨by rfl, ?yr2⟩) trivial ?rr2
          case yr2 => (intro w hSw; go_simp; try with_reducible rfl)
          try simp only [Act.put, List.setIfInBounds_toArray, List.set_cons_zero, List.set_cons_succ]
          refine wpAnyH_take (i := 3) (oi := { dst := some 45, op := Op.move (Operand.tmp 7), type := 3, pos := "law.go:112", after := #[], guard := none }) (v := ?vr3) rfl (by kernel_rfl) (by kernel_rfl) (by kernel_rfl) (fun _ _ _ h => h) (Or.inl ⟨by rfl, ?yr3⟩) trivial ?rr3
          case yr3 => (intro w hSw; go_simp; try with_reducible rfl)
          try simp only [Act.put, List.setIfInBounds_toArray, List.set_cons_zero, List.set_cons_succ]
          refine wpAnyH_take (i := 4) (oi := { dst := some 46, op := Op.indexAddr 22 (Operand.tmp 44) (Operand.tmp 45), type := 0, pos := "law.go:112", after := #[{ on := 2, ground := Ground.data }, { on := 3, ground := Ground.data }], guard := none }) (v := ?vr4) rfl (by kernel_rfl) (by kernel_rfl) (by kernel_rfl) (fun _ _ _ h => h) (Or.inl ⟨by rfl, ?yr4⟩) trivial ?rr4
          case yr4 => (intro w hSw; go_simp; try with_reducible rfl)
          try simp only [Act.put, List.setIfInBounds_toArray, List.set_cons_zero, List.set_cons_succ]
          refine wpAnyH_ready (rs := [1, 5]) (by kernel_rfl) (by simp) ?_
          refine AllReadyH.cons (o := { dst := some 43, op := Op.load 31 (Operand.tmp 6), type := 31, pos := "law.go:112", after := #[], guard := none }) rfl (fun KK hKK => ?_) ?_
          · obtain ⟨c0, c1, c2, c3, c4, c5, c6, -, -, -, -, -, -, -⟩ := HDC.out u0 Du0
            go_simp
            refine hKK.out _ _ trivial (fun _ => ?_)
            clear hKK KK
            try simp only [Act.put, List.setIfInBounds_toArray, List.set_cons_zero, List.set_cons_succ]
            refine wpAnyH_name (fun u5 hu5 => ?_)
            have Du5 := Du0
            rw [← hu5.out] at Du5
            refine wpAnyH_ready (rs := [5]) (by kernel_rfl) (by simp) ?_
            refine AllReadyH.cons (o := { dst := some 47, op := Op.load 37 (Operand.tmp 46), type := 37, pos := "law.go:112", after := #[{ on := 4, ground := Ground.data }], guard := none }) rfl (fun KK hKK => ?_) ?_
            · obtain ⟨y0, y1, y2, y3, y4, y5, y6, y7⟩ := HAC.out u5 Du5
              go_simp
              refine hKK.out _ _ trivial (fun _ => ?_)
              clear hKK KK
              try simp only [Act.put, List.setIfInBounds_toArray, List.set_cons_zero, List.set_cons_succ]
              refine wpAnyH_name (fun u6 hu6 => ?_)
              have Du6 := Du5
              rw [← hu6.out] at Du6
              refine wpAnyH_ready (rs := [6]) (by kernel_rfl) (by simp) ?_
              refine AllReadyH.cons (o := { dst := some 48, op := Op.call { callee := Callee.value (Operand.func 12), args := #[Operand.tmp 42, Operand.tmp 43, Operand.tmp 47], argTypes := #[25, 31, 37] }, type := 33, pos := "law.go:112", after := #[{ on := 0, ground := Ground.data }, { on := 1, ground := Ground.data }, { on := 5, ground := Ground.data }], guard := none }) rfl (fun KK hKK => ?_) ?_
              · go_simp
                refine (CD.out u6 Du6).mono ?_
                rintro e u7' ⟨dv2, v2, k2, d2, rfl, t2, u2, hk2⟩
                obtain ⟨za, zc, rfl, -⟩ := id t2.ds.rs.is.shape
                generalize s9.o.length = n6 at *
                (try go_wp2_with fail)
                refine hKK.out _ _ trivial (fun _ => ?_)
                clear hKK KK
                try simp only [Act.put, List.setIfInBounds_toArray, List.set_cons_zero, List.set_cons_succ]
                refine wpAnyH_name (fun u7 hu7 => ?_)
                rw [← hu7.out] at t2 u2
                have f2 := blk_apart (HT.out.below Du6).ls u2 (blk_kept HGD.out Du6 (blk_lt HGD.out)) (by decide) (by decide)
                have HT2 : Hid (TW u7 w.heap.size g v2 (.slice za n6 zc) k2 d2 s9) := t2
                have HBX : Hid (Below w.heap.size w u7) := u2.below (HB.out.trans (Du6.mono HB.out.size)) (Nat.le_trans HB.out.size Du6.size) HGW.out (fun k hk => (HT.out.below Du6).ls.rs.base hk)
                clear t2 u2
                refine wpAnyH_take (i := 7) (oi := { dst := some 41, op := Op.move (Operand.tmp 48), type := 33, pos := "law.go:112", after := #[{ on := 6, ground := Ground.data }], guard := none }) (v := ?vr8) rfl (by kernel_rfl) (by kernel_rfl) (by kernel_rfl) (fun _ _ _ h => h) (Or.inl ⟨by rfl, ?yr8⟩) trivial ?rr8
                case yr8 => (intro w hSw; go_simp; try with_reducible rfl)
                try simp only [Act.put, List.setIfInBounds_toArray, List.set_cons_zero, List.set_cons_succ]
                refine wpAnyH_take (i := 8) (oi := { dst := some 49, op := Op.extract (Operand.tmp 41) 0, type := 31, pos := "law.go:112", after := #[{ on := 7, ground := Ground.data }], guard := none }) (v := ?vr9) rfl (by kernel_rfl) (by kernel_rfl) (by kernel_rfl) (fun _ _ _ h => h) (Or.inl ⟨by rfl, ?yr9⟩) trivial ?rr9
                case yr9 => (intro w hSw; go_simp; try with_reducible rfl)
                try simp only [Act.put, List.setIfInBounds_toArray, List.set_cons_zero, List.set_cons_succ]
                refine wpAnyH_take (i := 9) (oi := { dst := some 50, op := Op.extract (Operand.tmp 41) 1, type := 4, pos := "law.go:112", after := #[{ on := 7, ground := Ground.data }, { on := 10, ground := Ground.gcOnly Departure.lateStores }], guard := none }) (v := ?vr10) rfl (by kernel_rfl) (by kernel_rfl) (by kernel_rfl) (fun _ _ _ h => h) (Or.inl ⟨by rfl, ?yr10⟩) trivial ?rr10
                case yr10 => (intro w hSw; go_simp; try with_reducible rfl)
                try simp only [Act.put, List.setIfInBounds_toArray, List.set_cons_zero, List.set_cons_succ]
                refine wpAnyH_ready (rs := [10]) (by kernel_rfl) (by simp) ?_
                refine AllReadyH.cons (o := { dst := none, op := Op.store 31 (Operand.tmp 6) (Operand.tmp 49), type := 0, pos := "law.go:112", after := #[{ on := 8, ground := Ground.data }, { on := 6, ground := Ground.chain }, { on := 0, ground := Ground.phase }, { on := 1, ground := Ground.phase }, { on := 2, ground := Ground.phase }, { on := 3, ground := Ground.phase }, { on := 4, ground := Ground.phase }, { on := 5, ground := Ground.phase }, { on := 6, ground := Ground.phase }, { on := 7, ground := Ground.phase }, { on := 8, ground := Ground.phase }, { on := 9, ground := Ground.textOnly Departure.lateStores }], guard := none }) rfl (fun KK hKK => ?_) ?_
                · refine wp_store_row 31 _ _ rfl hD (dc (.slice za n6 zc) k2 d2 s9.g) rfl rfl 31 _ f2 sizeD rfl (dc_one _ _ _ _ _ _) ?_
                  refine hKK.out _ _ trivial (fun _ => ?_)
                  clear hKK KK
                  try simp only [Act.put]
                  refine wpAnyH_name (fun u11 hu11 => ?_)
                  have HGN : Hid (u11.heap[hD]? = some (.cells (dc (.slice za n6 zc) k2 d2 s9.g) 31 (0, 0))) := by unfold Hid; rw [hu11.out]; exact setRow_heap _ _ _ _ _ _ f2
                  have HTN : Hid (TW u11 w.heap.size g v2 (.slice za n6 zc) k2 d2 s9) := by unfold Hid; rw [hu11.out]; exact HT2.out.bt (Bt.row _ _ _) f2
                  have HBN : Hid (Below w.heap.size w u11) := by unfold Hid; rw [hu11.out]; exact below_setRow HBX.out HDW.out _
                  refine wpAnyH_done (by kernel_rfl) ?_ _
                  clear CD HDC HAC HT2 HBX f2
                  go_wp2
                  go_roundw
                  case rel => exact ⟨i + 1, _, _, _, _, by omega, by go_num, by rw [HS9.out]; exact HTN.out, by have := HKI.out; omega, by rw [HS9.out]; exact HGN.out, HBN.out⟩
                  case measure => simp [intOf]; omega
                exact AllReadyH.nil
              exact AllReadyH.nil
            exact AllReadyH.nil
          refine AllReadyH.cons (o := { dst := some 47, op := Op.load 37 (Operand.tmp 46), type := 37, pos := "law.go:112", after := #[{ on := 4, ground := Ground.data }], guard := none }) rfl (fun KK hKK => ?_) ?_
          · obtain ⟨y0, y1, y2, y3, y4, y5, y6, y7⟩ := HAC.out u0 Du0
            go_simp
            refine hKK.out _ _ trivial (fun _ => ?_)
            clear hKK KK
            try simp only [Act.put, List.setIfInBounds_toArray, List.set_cons_zero, List.set_cons_succ]
            refine wpAnyH_name (fun u12 hu12 => ?_)
            have Du12 := Du0
            rw [← hu12.out] at Du12
            refine wpAnyH_ready (rs := [1]) (by kernel_rfl) (by simp) ?_
            refine AllReadyH.cons (o := { dst := some 43, op := Op.load 31 (Operand.tmp 6), type := 31, pos := "law.go:112", after := #[], guard := none }) rfl (fun KK hKK => ?_) ?_
            · obtain ⟨c0, c1, c2, c3, c4, c5, c6, -, -, -, -, -, -, -⟩ := HDC.out u12 Du12
              go_simp
              refine hKK.out _ _ trivial (fun _ => ?_)
              clear hKK KK
              try simp only [Act.put, List.setIfInBounds_toArray, List.set_cons_zero, List.set_cons_succ]
              refine wpAnyH_name (fun u13 hu13 => ?_)
              have Du13 := Du12
              rw [← hu13.out] at Du13
              refine wpAnyH_ready (rs := [6]) (by kernel_rfl) (by simp) ?_
              refine AllReadyH.cons (o := { dst := some 48, op := Op.call { callee := Callee.value (Operand.func 12), args := #[Operand.tmp 42, Operand.tmp 43, Operand.tmp 47], argTypes := #[25, 31, 37] }, type := 33, pos := "law.go:112", after := #[{ on := 0, ground := Ground.data }, { on := 1, ground := Ground.data }, { on := 5, ground := Ground.data }], guard := none }) rfl (fun KK hKK => ?_) ?_
              · go_simp
                refine (CD.out u13 Du13).mono ?_
                rintro e u14' ⟨dv2, v2, k2, d2, rfl, t2, u2, hk2⟩
                obtain ⟨za, zc, rfl, -⟩ := id t2.ds.rs.is.shape
                generalize s9.o.length = n6 at *
                (try go_wp2_with fail)
                refine hKK.out _ _ trivial (fun _ => ?_)
                clear hKK KK
                try simp only [Act.put, List.setIfInBounds_toArray, List.set_cons_zero, List.set_cons_succ]
                refine wpAnyH_name (fun u14 hu14 => ?_)
                rw [← hu14.out] at t2 u2
                have f2 := blk_apart (HT.out.below Du13).ls u2 (blk_kept HGD.out Du13 (blk_lt HGD.out)) (by decide) (by decide)
                have HT2 : Hid (TW u14 w.heap.size g v2 (.slice za n6 zc) k2 d2 s9) := t2
                have HBX : Hid (Below w.heap.size w u14) := u2.below (HB.out.trans (Du13.mono HB.out.size)) (Nat.le_trans HB.out.size Du13.size) HGW.out (fun k hk => (HT.out.below Du13).ls.rs.base hk)
                clear t2 u2
                refine wpAnyH_take (i := 7) (oi := { dst := some 41, op := Op.move (Operand.tmp 48), type := 33, pos := "law.go:112", after := #[{ on := 6, ground := Ground.data }], guard := none }) (v := ?vr15) rfl (by kernel_rfl) (by kernel_rfl) (by kernel_rfl) (fun _ _ _ h => h) (Or.inl ⟨by rfl, ?yr15⟩) trivial ?rr15
                case yr15 => (intro w hSw; go_simp; try with_reducible rfl)
                try simp only [Act.put, List.setIfInBounds_toArray, List.set_cons_zero, List.set_cons_succ]
                refine wpAnyH_take (i := 8) (oi := { dst := some 49, op := Op.extract (Operand.tmp 41) 0, type := 31, pos := "law.go:112", after := #[{ on := 7, ground := Ground.data }], guard := none }) (v := ?vr16) rfl (by kernel_rfl) (by kernel_rfl) (by kernel_rfl) (fun _ _ _ h => h) (Or.inl ⟨by rfl, ?yr16⟩) trivial ?rr16
                case yr16 => (intro w hSw; go_simp; try with_reducible rfl)
                try simp only [Act.put, List.setIfInBounds_toArray, List.set_cons_zero, List.set_cons_succ]
                refine wpAnyH_take (i := 9) (oi := { dst := some 50, op := Op.extract (Operand.tmp 41) 1, type := 4, pos := "law.go:112", after := #[{ on := 7, ground := Ground.data }, { on := 10, ground := Ground.gcOnly Departure.lateStores }], guard := none }) (v := ?vr17) rfl (by kernel_rfl) (by kernel_rfl) (by kernel_rfl) (fun _ _ _ h => h) (Or.inl ⟨by rfl, ?yr17⟩) trivial ?rr17
                case yr17 => (intro w hSw; go_simp; try with_reducible rfl)
                try simp only [Act.put, List.setIfInBounds_toArray, List.set_cons_zero, List.set_cons_succ]
                refine wpAnyH_ready (rs := [10]) (by kernel_rfl) (by simp) ?_
                refine AllReadyH.cons (o := { dst := none, op := Op.store 31 (Operand.tmp 6) (Operand.tmp 49), type := 0, pos := "law.go:112", after := #[{ on := 8, ground := Ground.data }, { on := 6, ground := Ground.chain }, { on := 0, ground := Ground.phase }, { on := 1, ground := Ground.phase }, { on := 2, ground := Ground.phase }, { on := 3, ground := Ground.phase }, { on := 4, ground := Ground.phase }, { on := 5, ground := Ground.phase }, { on := 6, ground := Ground.phase }, { on := 7, ground := Ground.phase }, { on := 8, ground := Ground.phase }, { on := 9, ground := Ground.textOnly Departure.lateStores }], guard := none }) rfl (fun KK hKK => ?_) ?_
                · refine wp_store_row 31 _ _ rfl hD (dc (.slice za n6 zc) k2 d2 s9.g) rfl rfl 31 _ f2 sizeD rfl (dc_one _ _ _ _ _ _) ?_
                  refine hKK.out _ _ trivial (fun _ => ?_)
                  clear hKK KK
                  try simp only [Act.put]
                  refine wpAnyH_name (fun u18 hu18 => ?_)
                  have HGN : Hid (u18.heap[hD]? = some (.cells (dc (.slice za n6 zc) k2 d2 s9.g) 31 (0, 0))) := by unfold Hid; rw [hu18.out]; exact setRow_heap _ _ _ _ _ _ f2
                  have HTN : Hid (TW u18 w.heap.size g v2 (.slice za n6 zc) k2 d2 s9) := by unfold Hid; rw [hu18.out]; exact HT2.out.bt (Bt.row _ _ _) f2
                  have HBN : Hid (Below w.heap.size w u18) := by unfold Hid; rw [hu18.out]; exact below_setRow HBX.out HDW.out _
                  refine wpAnyH_done (by kernel_rfl) ?_ _
                  clear CD HDC HAC HT2 HBX f2
                  go_wp2
                  go_roundw
                  case rel => exact ⟨i + 1, _, _, _, _, by omega, by go_num, by rw [HS9.out]; exact HTN.out, by have := HKI.out; omega, by rw [HS9.out]; exact HGN.out, HBN.out⟩
                  case measure => simp [intOf]; omega
                exact AllReadyH.nil
              exact AllReadyH.nil
            exact AllReadyH.nil
          exact AllReadyH.nil
        · obtain rfl : i = n9 := by omega
          have lt2 : ¬ (i : Int) < (i : Int) := by omega
          obtain ⟨da, dk, rfl, -⟩ := id HT.out.ds.rs.is.shape
          have HKI : Hid (k ≤ 200) := (by omega : k ≤ 200)
          clear HQ HAT HEND hk
          generalize plS l i = s at *
          generalize s.o.length = n8 at *
          have FA8 : Hid (∀ x, Below wr.heap.size wr x → DC x hD (.slice da n8 dk) k d s.g) := fun x hx => DB.dc (blk_kept HGD.out hx (blk_lt HGD.out))
          have FK : Hid (∀ x, Below wr.heap.size wr x → Calls Try.prog 14 #[.pointer (some ⟨g, 0, none⟩)] x fun e w' => ∃ g' v', e = .returned (.pointer (some ⟨g', 0, none⟩)) ∧ LS w' x.heap.size g' v' s ∧ Below x.heap.size x w' ∧ x.heap.size ≤ g') := fun x hx => fork_any x _ g v s (HT.out.ls.below hx)
          have HDF0 : Hid (∀ (W : World) (q g' : Nat) (v' : Value), LS W q g' v' s → w.heap.size ≤ q → ∀ k, v'.ownBlock = some k → q ≤ k) := fun W q g' v' h _ k hk => h.rs.base hk
          generalize wr = w5 at *
          go_upto_region 8 with fail
          go_cut [8, 9, 10] from 11 (fun s8 s9 s10 wx => ∃ g2 hE v2, s8 = .pointer (some ⟨g2, 0, none⟩) ∧ s9 = .pointer (some ⟨hE, 0, none⟩) ∧ s10 = .bool true ∧ LS wx w5.heap.size g2 v2 s ∧ wx.heap[hE]? = some (.cells (dc (.slice da n8 dk) k d s.g) 31 (0, 0)) ∧ w5.heap.size ≤ g2 ∧ w5.heap.size ≤ hE ∧ Below w5.heap.size w5 wx)
          case first =>
            refine wp_region_held_drew (S := From w5) (by kernel_rfl) (Below.drew (Below.refl _ _)) (fun _ => ?_)
            refine wpAnyH_name (fun u0 hu0 => ?_)
            have bu0 : Below w5.heap.size w5 u0 := by rw [hu0.out]; exact Below.drew (Below.refl _ _)
            refine wpAnyH_take (i := 0) (oi := { dst := some 51, op := Op.move (Operand.tmp 5), type := 25, pos := "law.go:114", after := #[], guard := none }) (v := ?vf1) rfl (by kernel_rfl) (by kernel_rfl) (by kernel_rfl) (fun _ _ _ h => h) (Or.inl ⟨by rfl, ?yf1⟩) bu0 ?rf1
            case yf1 => (intro w hSw; go_simp; try with_reducible rfl)
            try simp only [Act.put, List.setIfInBounds_toArray, List.set_cons_zero, List.set_cons_succ]
            refine wpAnyH_take (i := 2) (oi := { dst := some 53, op := Op.load 31 (Operand.tmp 6), type := 31, pos := "law.go:114", after := #[{ on := 4, ground := Ground.gcOnly Departure.lateStores }], guard := none }) (v := .agg (dc (.slice da n8 dk) k d s.g)) rfl (by kernel_rfl) (by kernel_rfl) (by kernel_rfl) (fun _ _ _ h => h) (Or.inl ⟨by rfl, ?yf2⟩) bu0 ?rf2
            case yf2 => (intro w hSw; obtain ⟨c0, c1, c2, c3, c4, c5, c6, -, -, -, -, -, -, -⟩ := FA8.out w hSw; go_simp; try with_reducible rfl)
            try simp only [Act.put, List.setIfInBounds_toArray, List.set_cons_zero, List.set_cons_succ]
            refine wpAnyH_ready (rs := [1, 3]) (by kernel_rfl) (by simp) ?_
            refine AllReadyH.cons (o := { dst := some 52, op := Op.call { callee := Callee.value (Operand.func 14), args := #[Operand.tmp 51], argTypes := #[25] }, type := 25, pos := "law.go:114", after := #[{ on := 0, ground := Ground.data }], guard := none }) rfl (fun KK hKK => ?_) ?_
            · go_simp
              refine (FK.out u0 bu0).mono ?_
              rintro e u3' ⟨ggu3, vvu3, rfl, tu3, cu3, ku3⟩
              (try go_wp2_with fail)
              refine hKK.out _ _ (bu0.trans (Below.mono cu3 bu0.size)) (fun _ => ?_)
              clear hKK KK
              try simp only [Act.put, List.setIfInBounds_toArray, List.set_cons_zero, List.set_cons_succ]
              refine wpAnyH_name (fun u3 hu3 => ?_)
              have bu3 : Below w5.heap.size w5 u3 := by rw [hu3.out]; exact (bu0.trans (Below.mono cu3 bu0.size))
              rw [← hu3.out] at tu3 cu3
              refine wpAnyH_ready (rs := [3]) (by kernel_rfl) (by simp) ?_
              refine AllReadyH.cons (o := { dst := some 9, op := Op.alloc 31, type := 0, pos := "law.go:114", after := #[], guard := none }) rfl (fun KK hKK => ?_) ?_
              · go_simp
                refine hKK.out _ _ (bu3.alloc bu3.size _) (fun _ => ?_)
                clear hKK KK
                try simp only [Act.put, List.setIfInBounds_toArray, List.set_cons_zero, List.set_cons_succ]
                refine wpAnyH_name (fun u4 hu4 => ?_)
                have bu4 : Below w5.heap.size w5 u4 := by rw [hu4.out]; exact (bu3.alloc bu3.size _)
                have Xu4 : u4.heap[u3.heap.size]? = some (.cells #[.slice none 0 0, .int .i64 0, .int .i64 0, .int .i64 0, .int .i64 0, .bool false, .int .i64 0] 31 (0, 0)) := by rw [hu4.out]; exact heap_alloc_new _ _
                refine wpAnyH_take (i := 4) (oi := { dst := some 8, op := Op.assign (Operand.tmp 52), type := 25, pos := "law.go:114", after := #[{ on := 1, ground := Ground.data }, { on := 1, ground := Ground.chain }, { on := 0, ground := Ground.phase }, { on := 1, ground := Ground.phase }, { on := 2, ground := Ground.textOnly Departure.lateStores }, { on := 3, ground := Ground.phase }], guard := none }) (v := ?vf5) rfl (by kernel_rfl) (by kernel_rfl) (by kernel_rfl) (fun _ _ _ h => h) (Or.inl ⟨by rfl, ?yf5⟩) bu4 ?rf5
                case yf5 => (intro w hSw; go_simp; try with_reducible rfl)
                try simp only [Act.put, List.setIfInBounds_toArray, List.set_cons_zero, List.set_cons_succ]
                refine wpAnyH_ready (rs := [5]) (by kernel_rfl) (by simp) ?_
                refine AllReadyH.cons (o := { dst := none, op := Op.store 31 (Operand.tmp 9) (Operand.tmp 53), type := 0, pos := "law.go:114", after := #[{ on := 3, ground := Ground.data }, { on := 2, ground := Ground.data }, { on := 4, ground := Ground.chain }, { on := 0, ground := Ground.phase }, { on := 1, ground := Ground.phase }, { on := 2, ground := Ground.phase }, { on := 3, ground := Ground.phase }, { on := 4, ground := Ground.phase }], guard := none }) rfl (fun KK hKK => ?_) ?_
                · have X9 : u4.heap[u3.heap.size]? = some (.cells #[.slice none 0 0, .int .i64 0, .int .i64 0, .int .i64 0, .int .i64 0, .bool false, .int .i64 0] 31 (0, 0)) := by first | exact Xu4 | exact blk_kept Xu4 cu3 (blk_lt Xu4)
                  have T9 : LS u4 u0.heap.size ggu3 vvu3 s := by first | exact tu3 | exact tu3.below (by rw [hu4.out]; exact al_below _ _)
                  have HDF : Hid (LS (u4.setRow u3.heap.size (dc (.slice da n8 dk) k d s.g)) w5.heap.size ggu3 vvu3 s) := (T9.bt (Bt.row _ _ _) (led_ne T9 X9 (by decide)) (row_ne T9.rs X9 (by decide))).mono bu0.size
                  have HDE : Hid ((u4.setRow u3.heap.size (dc (.slice da n8 dk) k d s.g)).heap[u3.heap.size]? = some (.cells (dc (.slice da n8 dk) k d s.g) 31 (0, 0))) := setRow_heap _ _ _ _ _ _ X9
                  refine wp_store_row 31 _ _ rfl u3.heap.size (dc (.slice da n8 dk) k d s.g) rfl rfl 31 _ X9 sizeD rfl (dc_one _ _ _ _ _ _) ?_
                  refine hKK.out _ _ (below_setRow bu4 bu3.size _) (fun _ => ?_)
                  clear hKK KK
                  try simp only [Act.put]
                  refine wpAnyH_name (fun u6 hu6 => ?_)
                  have bu6 : Below w5.heap.size w5 u6 := by rw [hu6.out]; exact (below_setRow bu4 bu3.size _)
                  rw [← hu6.out] at HDF HDE
                  refine wpAnyH_take (i := 6) (oi := { dst := some 10, op := Op.assign (Operand.const (Value.bool true)), type := 4, pos := "law.go:114", after := #[{ on := 5, ground := Ground.chain }, { on := 0, ground := Ground.phase }, { on := 1, ground := Ground.phase }, { on := 2, ground := Ground.phase }, { on := 3, ground := Ground.phase }, { on := 4, ground := Ground.phase }, { on := 5, ground := Ground.phase }], guard := none }) (v := ?vf7) rfl (by kernel_rfl) (by kernel_rfl) (by kernel_rfl) (fun _ _ _ h => h) (Or.inl ⟨by rfl, ?yf7⟩) bu6 ?rf7
                  case yf7 => (intro w hSw; go_simp; try with_reducible rfl)
                  try simp only [Act.put, List.setIfInBounds_toArray, List.set_cons_zero, List.set_cons_succ]
                  refine wpAnyH_done (by kernel_rfl) ?_ _
                  have H2 := bu6
                  have HBZ : Hid (Below w5.heap.size w5 u6) := H2
                  have HK : Hid (w5.heap.size ≤ ggu3 ∧ w5.heap.size ≤ u3.heap.size) := ⟨Nat.le_trans bu0.size ku3, bu3.size⟩
                  go_wp2
                  go_meet
                  exact ⟨_, _, _, rfl, rfl, rfl, HDF.out, HDE.out, HK.out.1, HK.out.2, HBZ.out⟩
                exact AllReadyH.nil
              exact AllReadyH.nil
            refine AllReadyH.cons (o := { dst := some 9, op := Op.alloc 31, type := 0, pos := "law.go:114", after := #[], guard := none }) rfl (fun KK hKK => ?_) ?_
            · go_simp
              refine hKK.out _ _ (bu0.alloc bu0.size _) (fun _ => ?_)
              clear hKK KK
              try simp only [Act.put, List.setIfInBounds_toArray, List.set_cons_zero, List.set_cons_succ]
              refine wpAnyH_name (fun u8 hu8 => ?_)
              have bu8 : Below w5.heap.size w5 u8 := by rw [hu8.out]; exact (bu0.alloc bu0.size _)
              have Xu8 : u8.heap[u0.heap.size]? = some (.cells #[.slice none 0 0, .int .i64 0, .int .i64 0, .int .i64 0, .int .i64 0, .bool false, .int .i64 0] 31 (0, 0)) := by rw [hu8.out]; exact heap_alloc_new _ _
              refine wpAnyH_ready (rs := [1]) (by kernel_rfl) (by simp) ?_
              refine AllReadyH.cons (o := { dst := some 52, op := Op.call { callee := Callee.value (Operand.func 14), args := #[Operand.tmp 51], argTypes := #[25] }, type := 25, pos := "law.go:114", after := #[{ on := 0, ground := Ground.data }], guard := none }) rfl (fun KK hKK => ?_) ?_
              · go_simp
                refine (FK.out u8 bu8).mono ?_
                rintro e u9' ⟨ggu9, vvu9, rfl, tu9, cu9, ku9⟩
                (try go_wp2_with fail)
                refine hKK.out _ _ (bu8.trans (Below.mono cu9 bu8.size)) (fun _ => ?_)
                clear hKK KK
                try simp only [Act.put, List.setIfInBounds_toArray, List.set_cons_zero, List.set_cons_succ]
                refine wpAnyH_name (fun u9 hu9 => ?_)
                have bu9 : Below w5.heap.size w5 u9 := by rw [hu9.out]; exact (bu8.trans (Below.mono cu9 bu8.size))
                rw [← hu9.out] at tu9 cu9
                refine wpAnyH_take (i := 4) (oi := { dst := some 8, op := Op.assign (Operand.tmp 52), type := 25, pos := "law.go:114", after := #[{ on := 1, ground := Ground.data }, { on := 1, ground := Ground.chain }, { on := 0, ground := Ground.phase }, { on := 1, ground := Ground.phase }, { on := 2, ground := Ground.textOnly Departure.lateStores }, { on := 3, ground := Ground.phase }], guard := none }) (v := ?vf10) rfl (by kernel_rfl) (by kernel_rfl) (by kernel_rfl) (fun _ _ _ h => h) (Or.inl ⟨by rfl, ?yf10⟩) bu9 ?rf10
                case yf10 => (intro w hSw; go_simp; try with_reducible rfl)
                try simp only [Act.put, List.setIfInBounds_toArray, List.set_cons_zero, List.set_cons_succ]
                refine wpAnyH_ready (rs := [5]) (by kernel_rfl) (by simp) ?_
                refine AllReadyH.cons (o := { dst := none, op := Op.store 31 (Operand.tmp 9) (Operand.tmp 53), type := 0, pos := "law.go:114", after := #[{ on := 3, ground := Ground.data }, { on := 2, ground := Ground.data }, { on := 4, ground := Ground.chain }, { on := 0, ground := Ground.phase }, { on := 1, ground := Ground.phase }, { on := 2, ground := Ground.phase }, { on := 3, ground := Ground.phase }, { on := 4, ground := Ground.phase }], guard := none }) rfl (fun KK hKK => ?_) ?_
                · have X9 : u9.heap[u0.heap.size]? = some (.cells #[.slice none 0 0, .int .i64 0, .int .i64 0, .int .i64 0, .int .i64 0, .bool false, .int .i64 0] 31 (0, 0)) := by first | exact Xu8 | exact blk_kept Xu8 cu9 (blk_lt Xu8)
                  have T9 : LS u9 u8.heap.size ggu9 vvu9 s := by first | exact tu9 | exact tu9.below (by rw [hu8.out]; exact al_below _ _)
                  have HDF : Hid (LS (u9.setRow u0.heap.size (dc (.slice da n8 dk) k d s.g)) w5.heap.size ggu9 vvu9 s) := (T9.bt (Bt.row _ _ _) (led_ne T9 X9 (by decide)) (row_ne T9.rs X9 (by decide))).mono bu8.size
                  have HDE : Hid ((u9.setRow u0.heap.size (dc (.slice da n8 dk) k d s.g)).heap[u0.heap.size]? = some (.cells (dc (.slice da n8 dk) k d s.g) 31 (0, 0))) := setRow_heap _ _ _ _ _ _ X9
                  refine wp_store_row 31 _ _ rfl u0.heap.size (dc (.slice da n8 dk) k d s.g) rfl rfl 31 _ X9 sizeD rfl (dc_one _ _ _ _ _ _) ?_
                  refine hKK.out _ _ (below_setRow bu9 bu0.size _) (fun _ => ?_)
                  clear hKK KK
                  try simp only [Act.put]
                  refine wpAnyH_name (fun u11 hu11 => ?_)
                  have bu11 : Below w5.heap.size w5 u11 := by rw [hu11.out]; exact (below_setRow bu9 bu0.size _)
                  rw [← hu11.out] at HDF HDE
                  refine wpAnyH_take (i := 6) (oi := { dst := some 10, op := Op.assign (Operand.const (Value.bool true)), type := 4, pos := "law.go:114", after := #[{ on := 5, ground := Ground.chain }, { on := 0, ground := Ground.phase }, { on := 1, ground := Ground.phase }, { on := 2, ground := Ground.phase }, { on := 3, ground := Ground.phase }, { on := 4, ground := Ground.phase }, { on := 5, ground := Ground.phase }], guard := none }) (v := ?vf12) rfl (by kernel_rfl) (by kernel_rfl) (by kernel_rfl) (fun _ _ _ h => h) (Or.inl ⟨by rfl, ?yf12⟩) bu11 ?rf12
                  case yf12 => (intro w hSw; go_simp; try with_reducible rfl)
                  try simp only [Act.put, List.setIfInBounds_toArray, List.set_cons_zero, List.set_cons_succ]
                  refine wpAnyH_done (by kernel_rfl) ?_ _
                  have H2 := bu11
                  have HBZ : Hid (Below w5.heap.size w5 u11) := H2
                  have HK : Hid (w5.heap.size ≤ ggu9 ∧ w5.heap.size ≤ u0.heap.size) := ⟨Nat.le_trans bu8.size ku9, bu0.size⟩
                  go_wp2
                  go_meet
                  exact ⟨_, _, _, rfl, rfl, rfl, HDF.out, HDE.out, HK.out.1, HK.out.2, HBZ.out⟩
                exact AllReadyH.nil
              exact AllReadyH.nil
            exact AllReadyH.nil
          case rest =>
            obtain ⟨g2, hE, v2, rfl, rfl, rfl, df, ge, hg2, hxb, bx⟩ := hcut
            have HG2 : Hid (w5.heap.size ≤ g2) := hg2
            have HXB : Hid (w5.heap.size ≤ hE) := hxb
            have HW5 : Hid (Below w.heap.size w w5) := HB.out
            have HT0 : Hid (TW w5 w.heap.size g v (.slice da n8 dk) k d s) := HT.out
            have HG0 : Hid (w5.heap[hD]? = some (.cells (dc (.slice da n8 dk) k d s.g) 31 (0, 0))) := HGD.out
            have HT1 : Hid (TW wc w.heap.size g2 v2 (.slice da n8 dk) k d (plF s m 0)) := ⟨df.mono HB.out.size, (HT.out.below bx).ds⟩
            have HO1 : Hid (∀ q, v2.ownBlock = some q → w5.heap.size ≤ q) := fun q hq => df.rs.base hq
            have HE1 : Hid (wc.heap[hE]? = some (.cells (dc (.slice da n8 dk) k d (plF s m 0).g) 31 (0, 0))) := ge
            have HB1 : Hid (Below w5.heap.size w5 wc) := bx
            clear df ge hg2 hxb bx HT HGD HB FA8 FK HDF0
            go_wp2
            go_loopw [10, 11] (fun u10 u wr => ∃ (i : Nat) (vf dv : Value) (kf : Int) (df : Pk), i ≤ m9 ∧ u10 = .bool true ∧ u = .int .i64 i ∧ TW wr w.heap.size g2 vf dv kf df (plF s m i) ∧ (∀ q, vf.ownBlock = some q → w5.heap.size ≤ q) ∧ kf ≤ 200 + (i : Int) ∧ wr.heap[hE]? = some (.cells (dc dv kf df (plF s m i).g) 31 (0, 0)) ∧ Below w5.heap.size w5 wr) (fun _ u _ => m9 - (intOf u).toNat)
            case atStart => exact ⟨0, _, _, _, _, by omega, rfl, rfl, HT1.out, HO1.out, by have := HKI.out; omega, HE1.out, HB1.out⟩
            case round =>
              obtain ⟨i2, vf, dv, kf, df, hi2, rfl, rfl, tw, ho, hk, hge, bel⟩ := hrel
              have HB : Hid (Below w5.heap.size w5 wr) := bel
              have HBW : Hid (Below w.heap.size w wr) := HW5.out.trans (bel.mono HW5.out.size)
              have HT : Hid (TW wr w.heap.size g2 vf dv kf df (plF s m i2)) := tw
              have HOV : Hid (∀ q, vf.ownBlock = some q → w5.heap.size ≤ q) := ho
              have HGD : Hid (wr.heap[hE]? = some (.cells (dc dv kf df (plF s m i2).g) 31 (0, 0))) := hge
              clear HB1 HT1 HO1 HE1 bel tw hge ho
              by_cases him : i2 < m9
              · have lt3 : (i2 : Int) < (m9 : Int) := by omega
                obtain ⟨b, off, rfl, hac⟩ := HAT2.out i2 him wr HBW.out
                obtain ⟨oq, l7, es⟩ := HQ2.out i2 him
                obtain ⟨fa, fc, rfl, -⟩ := id HT.out.ds.rs.is.shape
                have HAC : Hid (∀ x, Below wr.heap.size wr x → AC x b (off + i2 * 8) (atA m i2)) := fun x hx => by
                  obtain ⟨b', off', e, q⟩ := HAT2.out i2 him x (HBW.out.trans (hx.mono HBW.out.size))
                  cases e
                  exact q
                have HES : Hid (plF s m (i2 + 1) = nxS (plF s m i2) (atA m i2)) := es s
                have CD : Hid (∀ x, Below wr.heap.size wr x → Calls Try.prog 12 #[.pointer (some ⟨g2, 0, none⟩), .agg (dc (.slice fa (plF s m i2).o.length fc) kf df (plF s m i2).g), .agg #[.int .u8 (atA m i2).k, .int .i64 (atA m i2).p.n, .int .i64 (atA m i2).p.t, .int .i64 (atA m i2).p.z, .bool (atA m i2).p.a, (atA m i2).u, .int .i64 (atA m i2).n, .int .i64 (atA m i2).l]] x fun e w' => ∃ dv' v' k' d', e = .returned (.tuple #[.agg (dc dv' k' d' (nxS (plF s m i2) (atA m i2)).g), .bool true]) ∧ TW w' w.heap.size g2 v' dv' k' d' (nxS (plF s m i2) (atA m i2)) ∧ LU x w' g2 vf v' ∧ k' ≤ kf + 1) := fun x hx => do_any x w g2 vf _ (plF s m i2) kf df (atA m i2) (HT.out.below hx) (Nat.le_trans HW5.out.size HG2.out) (HBW.out.trans (hx.mono HBW.out.size)) oq l7 (by omega)
                have HDC : Hid (∀ x, Below wr.heap.size wr x → DC x hE (.slice fa (plF s m i2).o.length fc) kf df (plF s m i2).g) := fun x hx => DB.dc (blk_kept HGD.out hx (blk_lt HGD.out))
                have HKF : Hid (kf ≤ 200 + (i2 : Int)) := hk
                clear oq l7 es hk hac
                rw [← HES.out] at CD
                generalize hs9 : plF s m (i2 + 1) = s9 at *
                have HS9 : Hid (plF s m (i2 + 1) = s9) := hs9
                clear hs9
                generalize plF s m i2 = s2 at *
                generalize atA m i2 = q at *
                generalize s2.o.length = n6' at *
                go_upto_region 14 with fail
                refine wp_region_held_drew (S := fun _ => True) (by kernel_rfl) trivial (fun _ => ?_)
                refine wpAnyH_name (fun u0 hu0 => ?_)
                have bu0 : Below wr.heap.size wr u0 := by rw [hu0.out]; exact (Below.refl _ _).drew
                have Du0 : Below wr.heap.size wr u0 := by rw [hu0.out]; exact (Below.refl _ _).drew
                refine wpAnyH_take (i := 0) (oi := { dst := some 63, op := Op.move (Operand.tmp 8), type := 25, pos := "law.go:119", after := #[], guard := none }) (v := ?vq1) rfl (by kernel_rfl) (by kernel_rfl) (by kernel_rfl) (fun _ _ _ h => h) (Or.inl ⟨by rfl, ?yq1⟩) trivial ?rq1
                case yq1 => (intro w hSw; go_simp; try with_reducible rfl)
                try simp only [Act.put, List.setIfInBounds_toArray, List.set_cons_zero, List.set_cons_succ]
                refine wpAnyH_take (i := 2) (oi := { dst := some 65, op := Op.move (Operand.tmp 1), type := 22, pos := "law.go:119", after := #[], guard := none }) (v := ?vq2) rfl (by kernel_rfl) (by kernel_rfl) (by kernel_rfl) (fun _ _ _ h => h) (Or.inl ⟨by rfl, ?yq2⟩) trivial ?rq2
                case yq2 => (intro w hSw; go_simp; try with_reducible rfl)
                try simp only [Act.put, List.setIfInBounds_toArray, List.set_cons_zero, List.set_cons_succ]
                refine wpAnyH_take (i := 3) (oi := { dst := some 66, op := Op.move (Operand.tmp 11), type := 3, pos := "law.go:119", after := #[], guard := none }) (v := ?vq3) rfl (by kernel_rfl) (by kernel_rfl) (by kernel_rfl) (fun _ _ _ h => h) (Or.inl ⟨by rfl, ?yq3⟩) trivial ?rq3
                case yq3 => (intro w hSw; go_simp; try with_reducible rfl)
                try simp only [Act.put, List.setIfInBounds_toArray, List.set_cons_zero, List.set_cons_succ]
                refine wpAnyH_take (i := 4) (oi := { dst := some 67, op := Op.indexAddr 22 (Operand.tmp 65) (Operand.tmp 66), type := 0, pos := "law.go:119", after := #[{ on := 2, ground := Ground.data }, { on := 3, ground := Ground.data }], guard := none }) (v := ?vq4) rfl (by kernel_rfl) (by kernel_rfl) (by kernel_rfl) (fun _ _ _ h => h) (Or.inl ⟨by rfl, ?yq4⟩) trivial ?rq4
                case yq4 => (intro w hSw; go_simp; try with_reducible rfl)
                try simp only [Act.put, List.setIfInBounds_toArray, List.set_cons_zero, List.set_cons_succ]
                refine wpAnyH_ready (rs := [1, 5]) (by kernel_rfl) (by simp) ?_
                refine AllReadyH.cons (o := { dst := some 64, op := Op.load 31 (Operand.tmp 9), type := 31, pos := "law.go:119", after := #[], guard := none }) rfl (fun KK hKK => ?_) ?_
                · obtain ⟨c0, c1, c2, c3, c4, c5, c6, -, -, -, -, -, -, -⟩ := HDC.out u0 Du0
                  go_simp
                  refine hKK.out _ _ trivial (fun _ => ?_)
                  clear hKK KK
                  try simp only [Act.put, List.setIfInBounds_toArray, List.set_cons_zero, List.set_cons_succ]
                  refine wpAnyH_name (fun u5 hu5 => ?_)
                  have Du5 := Du0
                  rw [← hu5.out] at Du5
                  refine wpAnyH_ready (rs := [5]) (by kernel_rfl) (by simp) ?_
                  refine AllReadyH.cons (o := { dst := some 68, op := Op.load 37 (Operand.tmp 67), type := 37, pos := "law.go:119", after := #[{ on := 4, ground := Ground.data }], guard := none }) rfl (fun KK hKK => ?_) ?_
                  · obtain ⟨y0, y1, y2, y3, y4, y5, y6, y7⟩ := HAC.out u5 Du5
                    go_simp
                    refine hKK.out _ _ trivial (fun _ => ?_)
                    clear hKK KK
                    try simp only [Act.put, List.setIfInBounds_toArray, List.set_cons_zero, List.set_cons_succ]
                    refine wpAnyH_name (fun u6 hu6 => ?_)
                    have Du6 := Du5
                    rw [← hu6.out] at Du6
                    refine wpAnyH_ready (rs := [6]) (by kernel_rfl) (by simp) ?_
                    refine AllReadyH.cons (o := { dst := some 69, op := Op.call { callee := Callee.value (Operand.func 12), args := #[Operand.tmp 63, Operand.tmp 64, Operand.tmp 68], argTypes := #[25, 31, 37] }, type := 33, pos := "law.go:119", after := #[{ on := 0, ground := Ground.data }, { on := 1, ground := Ground.data }, { on := 5, ground := Ground.data }], guard := none }) rfl (fun KK hKK => ?_) ?_
                    · go_simp
                      refine (CD.out u6 Du6).mono ?_
                      rintro e u7' ⟨dv2, v2, k2, d2, rfl, t2, u2, hk2⟩
                      obtain ⟨za, zc, rfl, -⟩ := id t2.ds.rs.is.shape
                      generalize s9.o.length = n6 at *
                      (try go_wp2_with fail)
                      refine hKK.out _ _ trivial (fun _ => ?_)
                      clear hKK KK
                      try simp only [Act.put, List.setIfInBounds_toArray, List.set_cons_zero, List.set_cons_succ]
                      refine wpAnyH_name (fun u7 hu7 => ?_)
                      rw [← hu7.out] at t2 u2
                      have f2 := blk_apart (HT.out.below Du6).ls u2 (blk_kept HGD.out Du6 (blk_lt HGD.out)) (by decide) (by decide)
                      have HT2 : Hid (TW u7 w.heap.size g2 v2 (.slice za n6 zc) k2 d2 s9) := t2
                      have HOX : Hid (∀ q, v2.ownBlock = some q → w5.heap.size ≤ q) := u2.ge (Nat.le_trans HB.out.size Du6.size) HOV.out
                      have HBX : Hid (Below w5.heap.size w5 u7) := u2.below (HB.out.trans (Du6.mono HB.out.size)) (Nat.le_trans HB.out.size Du6.size) HG2.out HOV.out
                      clear t2 u2
                      refine wpAnyH_take (i := 7) (oi := { dst := some 62, op := Op.move (Operand.tmp 69), type := 33, pos := "law.go:119", after := #[{ on := 6, ground := Ground.data }], guard := none }) (v := ?vq8) rfl (by kernel_rfl) (by kernel_rfl) (by kernel_rfl) (fun _ _ _ h => h) (Or.inl ⟨by rfl, ?yq8⟩) trivial ?rq8
                      case yq8 => (intro w hSw; go_simp; try with_reducible rfl)
                      try simp only [Act.put, List.setIfInBounds_toArray, List.set_cons_zero, List.set_cons_succ]
                      refine wpAnyH_take (i := 8) (oi := { dst := some 70, op := Op.extract (Operand.tmp 62) 0, type := 31, pos := "law.go:119", after := #[{ on := 7, ground := Ground.data }], guard := none }) (v := ?vq9) rfl (by kernel_rfl) (by kernel_rfl) (by kernel_rfl) (fun _ _ _ h => h) (Or.inl ⟨by rfl, ?yq9⟩) trivial ?rq9
                      case yq9 => (intro w hSw; go_simp; try with_reducible rfl)
                      try simp only [Act.put, List.setIfInBounds_toArray, List.set_cons_zero, List.set_cons_succ]
                      refine wpAnyH_take (i := 9) (oi := { dst := some 71, op := Op.extract (Operand.tmp 62) 1, type := 4, pos := "law.go:119", after := #[{ on := 7, ground := Ground.data }, { on := 10, ground := Ground.gcOnly Departure.lateStores }], guard := none }) (v := ?vq10) rfl (by kernel_rfl) (by kernel_rfl) (by kernel_rfl) (fun _ _ _ h => h) (Or.inl ⟨by rfl, ?yq10⟩) trivial ?rq10
                      case yq10 => (intro w hSw; go_simp; try with_reducible rfl)
                      try simp only [Act.put, List.setIfInBounds_toArray, List.set_cons_zero, List.set_cons_succ]
                      refine wpAnyH_ready (rs := [10]) (by kernel_rfl) (by simp) ?_
                      refine AllReadyH.cons (o := { dst := none, op := Op.store 31 (Operand.tmp 9) (Operand.tmp 70), type := 0, pos := "law.go:119", after := #[{ on := 8, ground := Ground.data }, { on := 6, ground := Ground.chain }, { on := 0, ground := Ground.phase }, { on := 1, ground := Ground.phase }, { on := 2, ground := Ground.phase }, { on := 3, ground := Ground.phase }, { on := 4, ground := Ground.phase }, { on := 5, ground := Ground.phase }, { on := 6, ground := Ground.phase }, { on := 7, ground := Ground.phase }, { on := 8, ground := Ground.phase }, { on := 9, ground := Ground.textOnly Departure.lateStores }], guard := none }) rfl (fun KK hKK => ?_) ?_
                      · refine wp_store_row 31 _ _ rfl hE (dc (.slice za n6 zc) k2 d2 s9.g) rfl rfl 31 _ f2 sizeD rfl (dc_one _ _ _ _ _ _) ?_
                        refine hKK.out _ _ trivial (fun _ => ?_)
                        clear hKK KK
                        try simp only [Act.put]
                        refine wpAnyH_name (fun u11 hu11 => ?_)
                        have HGN : Hid (u11.heap[hE]? = some (.cells (dc (.slice za n6 zc) k2 d2 s9.g) 31 (0, 0))) := by unfold Hid; rw [hu11.out]; exact setRow_heap _ _ _ _ _ _ f2
                        have HTN : Hid (TW u11 w.heap.size g2 v2 (.slice za n6 zc) k2 d2 s9) := by unfold Hid; rw [hu11.out]; exact HT2.out.bt (Bt.row _ _ _) f2
                        have HBN : Hid (Below w5.heap.size w5 u11) := by unfold Hid; rw [hu11.out]; exact below_setRow HBX.out HXB.out _
                        refine wpAnyH_take (i := 11) (oi := { dst := some 10, op := Op.assign (Operand.tmp 71), type := 4, pos := "law.go:119", after := #[{ on := 9, ground := Ground.data }, { on := 10, ground := Ground.chain }, { on := 0, ground := Ground.phase }, { on := 1, ground := Ground.phase }, { on := 2, ground := Ground.phase }, { on := 3, ground := Ground.phase }, { on := 4, ground := Ground.phase }, { on := 5, ground := Ground.phase }, { on := 6, ground := Ground.phase }, { on := 7, ground := Ground.phase }, { on := 8, ground := Ground.phase }, { on := 9, ground := Ground.phase }, { on := 10, ground := Ground.phase }], guard := none }) (v := ?vq12) rfl (by kernel_rfl) (by kernel_rfl) (by kernel_rfl) (fun _ _ _ h => h) (Or.inl ⟨by rfl, ?yq12⟩) trivial ?rq12
                        case yq12 => (intro w hSw; go_simp; try with_reducible rfl)
                        try simp only [Act.put, List.setIfInBounds_toArray, List.set_cons_zero, List.set_cons_succ]
                        refine wpAnyH_done (by kernel_rfl) ?_ _
                        clear CD HDC HAC HT2 HBX f2
                        go_wp2
                        go_roundw
                        case rel => exact ⟨i2 + 1, _, _, _, _, by omega, rfl, by go_num, by rw [HS9.out]; exact HTN.out, HOX.out, by have := HKF.out; omega, by rw [HS9.out]; exact HGN.out, HBN.out⟩
                        case measure => simp [intOf]; omega
                      exact AllReadyH.nil
                    exact AllReadyH.nil
                  exact AllReadyH.nil
                refine AllReadyH.cons (o := { dst := some 68, op := Op.load 37 (Operand.tmp 67), type := 37, pos := "law.go:119", after := #[{ on := 4, ground := Ground.data }], guard := none }) rfl (fun KK hKK => ?_) ?_
                · obtain ⟨y0, y1, y2, y3, y4, y5, y6, y7⟩ := HAC.out u0 Du0
                  go_simp
                  refine hKK.out _ _ trivial (fun _ => ?_)
                  clear hKK KK
                  try simp only [Act.put, List.setIfInBounds_toArray, List.set_cons_zero, List.set_cons_succ]
                  refine wpAnyH_name (fun u13 hu13 => ?_)
                  have Du13 := Du0
                  rw [← hu13.out] at Du13
                  refine wpAnyH_ready (rs := [1]) (by kernel_rfl) (by simp) ?_
                  refine AllReadyH.cons (o := { dst := some 64, op := Op.load 31 (Operand.tmp 9), type := 31, pos := "law.go:119", after := #[], guard := none }) rfl (fun KK hKK => ?_) ?_
                  · obtain ⟨c0, c1, c2, c3, c4, c5, c6, -, -, -, -, -, -, -⟩ := HDC.out u13 Du13
                    go_simp
                    refine hKK.out _ _ trivial (fun _ => ?_)
                    clear hKK KK
                    try simp only [Act.put, List.setIfInBounds_toArray, List.set_cons_zero, List.set_cons_succ]
                    refine wpAnyH_name (fun u14 hu14 => ?_)
                    have Du14 := Du13
                    rw [← hu14.out] at Du14
                    refine wpAnyH_ready (rs := [6]) (by kernel_rfl) (by simp) ?_
                    refine AllReadyH.cons (o := { dst := some 69, op := Op.call { callee := Callee.value (Operand.func 12), args := #[Operand.tmp 63, Operand.tmp 64, Operand.tmp 68], argTypes := #[25, 31, 37] }, type := 33, pos := "law.go:119", after := #[{ on := 0, ground := Ground.data }, { on := 1, ground := Ground.data }, { on := 5, ground := Ground.data }], guard := none }) rfl (fun KK hKK => ?_) ?_
                    · go_simp
                      refine (CD.out u14 Du14).mono ?_
                      rintro e u15' ⟨dv2, v2, k2, d2, rfl, t2, u2, hk2⟩
                      obtain ⟨za, zc, rfl, -⟩ := id t2.ds.rs.is.shape
                      generalize s9.o.length = n6 at *
                      (try go_wp2_with fail)
                      refine hKK.out _ _ trivial (fun _ => ?_)
                      clear hKK KK
                      try simp only [Act.put, List.setIfInBounds_toArray, List.set_cons_zero, List.set_cons_succ]
                      refine wpAnyH_name (fun u15 hu15 => ?_)
                      rw [← hu15.out] at t2 u2
                      have f2 := blk_apart (HT.out.below Du14).ls u2 (blk_kept HGD.out Du14 (blk_lt HGD.out)) (by decide) (by decide)
                      have HT2 : Hid (TW u15 w.heap.size g2 v2 (.slice za n6 zc) k2 d2 s9) := t2
                      have HOX : Hid (∀ q, v2.ownBlock = some q → w5.heap.size ≤ q) := u2.ge (Nat.le_trans HB.out.size Du14.size) HOV.out
                      have HBX : Hid (Below w5.heap.size w5 u15) := u2.below (HB.out.trans (Du14.mono HB.out.size)) (Nat.le_trans HB.out.size Du14.size) HG2.out HOV.out
                      clear t2 u2
                      refine wpAnyH_take (i := 7) (oi := { dst := some 62, op := Op.move (Operand.tmp 69), type := 33, pos := "law.go:119", after := #[{ on := 6, ground := Ground.data }], guard := none }) (v := ?vq16) rfl (by kernel_rfl) (by kernel_rfl) (by kernel_rfl) (fun _ _ _ h => h) (Or.inl ⟨by rfl, ?yq16⟩) trivial ?rq16
                      case yq16 => (intro w hSw; go_simp; try with_reducible rfl)
                      try simp only [Act.put, List.setIfInBounds_toArray, List.set_cons_zero, List.set_cons_succ]
                      refine wpAnyH_take (i := 8) (oi := { dst := some 70, op := Op.extract (Operand.tmp 62) 0, type := 31, pos := "law.go:119", after := #[{ on := 7, ground := Ground.data }], guard := none }) (v := ?vq17) rfl (by kernel_rfl) (by kernel_rfl) (by kernel_rfl) (fun _ _ _ h => h) (Or.inl ⟨by rfl, ?yq17⟩) trivial ?rq17
                      case yq17 => (intro w hSw; go_simp; try with_reducible rfl)
                      try simp only [Act.put, List.setIfInBounds_toArray, List.set_cons_zero, List.set_cons_succ]
                      refine wpAnyH_take (i := 9) (oi := { dst := some 71, op := Op.extract (Operand.tmp 62) 1, type := 4, pos := "law.go:119", after := #[{ on := 7, ground := Ground.data }, { on := 10, ground := Ground.gcOnly Departure.lateStores }], guard := none }) (v := ?vq18) rfl (by kernel_rfl) (by kernel_rfl) (by kernel_rfl) (fun _ _ _ h => h) (Or.inl ⟨by rfl, ?yq18⟩) trivial ?rq18
                      case yq18 => (intro w hSw; go_simp; try with_reducible rfl)
                      try simp only [Act.put, List.setIfInBounds_toArray, List.set_cons_zero, List.set_cons_succ]
                      refine wpAnyH_ready (rs := [10]) (by kernel_rfl) (by simp) ?_
                      refine AllReadyH.cons (o := { dst := none, op := Op.store 31 (Operand.tmp 9) (Operand.tmp 70), type := 0, pos := "law.go:119", after := #[{ on := 8, ground := Ground.data }, { on := 6, ground := Ground.chain }, { on := 0, ground := Ground.phase }, { on := 1, ground := Ground.phase }, { on := 2, ground := Ground.phase }, { on := 3, ground := Ground.phase }, { on := 4, ground := Ground.phase }, { on := 5, ground := Ground.phase }, { on := 6, ground := Ground.phase }, { on := 7, ground := Ground.phase }, { on := 8, ground := Ground.phase }, { on := 9, ground := Ground.textOnly Departure.lateStores }], guard := none }) rfl (fun KK hKK => ?_) ?_
                      · refine wp_store_row 31 _ _ rfl hE (dc (.slice za n6 zc) k2 d2 s9.g) rfl rfl 31 _ f2 sizeD rfl (dc_one _ _ _ _ _ _) ?_
                        refine hKK.out _ _ trivial (fun _ => ?_)
                        clear hKK KK
                        try simp only [Act.put]
                        refine wpAnyH_name (fun u19 hu19 => ?_)
                        have HGN : Hid (u19.heap[hE]? = some (.cells (dc (.slice za n6 zc) k2 d2 s9.g) 31 (0, 0))) := by unfold Hid; rw [hu19.out]; exact setRow_heap _ _ _ _ _ _ f2
                        have HTN : Hid (TW u19 w.heap.size g2 v2 (.slice za n6 zc) k2 d2 s9) := by unfold Hid; rw [hu19.out]; exact HT2.out.bt (Bt.row _ _ _) f2
                        have HBN : Hid (Below w5.heap.size w5 u19) := by unfold Hid; rw [hu19.out]; exact below_setRow HBX.out HXB.out _
                        refine wpAnyH_take (i := 11) (oi := { dst := some 10, op := Op.assign (Operand.tmp 71), type := 4, pos := "law.go:119", after := #[{ on := 9, ground := Ground.data }, { on := 10, ground := Ground.chain }, { on := 0, ground := Ground.phase }, { on := 1, ground := Ground.phase }, { on := 2, ground := Ground.phase }, { on := 3, ground := Ground.phase }, { on := 4, ground := Ground.phase }, { on := 5, ground := Ground.phase }, { on := 6, ground := Ground.phase }, { on := 7, ground := Ground.phase }, { on := 8, ground := Ground.phase }, { on := 9, ground := Ground.phase }, { on := 10, ground := Ground.phase }], guard := none }) (v := ?vq20) rfl (by kernel_rfl) (by kernel_rfl) (by kernel_rfl) (fun _ _ _ h => h) (Or.inl ⟨by rfl, ?yq20⟩) trivial ?rq20
                        case yq20 => (intro w hSw; go_simp; try with_reducible rfl)
                        try simp only [Act.put, List.setIfInBounds_toArray, List.set_cons_zero, List.set_cons_succ]
                        refine wpAnyH_done (by kernel_rfl) ?_ _
                        clear CD HDC HAC HT2 HBX f2
                        go_wp2
                        go_roundw
                        case rel => exact ⟨i2 + 1, _, _, _, _, by omega, rfl, by go_num, by rw [HS9.out]; exact HTN.out, HOX.out, by have := HKF.out; omega, by rw [HS9.out]; exact HGN.out, HBN.out⟩
                        case measure => simp [intOf]; omega
                      exact AllReadyH.nil
                    exact AllReadyH.nil
                  exact AllReadyH.nil
                exact AllReadyH.nil
              · obtain rfl : i2 = m9 := by omega
                have lt3 : ¬ (i2 : Int) < (i2 : Int) := by omega
                obtain ⟨fa, fc, rfl, -⟩ := id HT.out.ds.rs.is.shape
                have HD2 : Hid (TW wr w.heap.size g v (.slice da n8 dk) k d s) := HT0.out.below HB.out
                have HG3 : Hid (wr.heap[hD]? = some (.cells (dc (.slice da n8 dk) k d s.g) 31 (0, 0))) := blk_kept HG0.out HB.out (blk_lt HG0.out)
                clear HQ2 HAT2 hk
                generalize plF s m i2 = s2 at *
                generalize s2.o.length = n6 at *
                have HS1 : Hid (∀ W, Below wr.heap.size wr W → DC W hE (.slice fa n6 fc) kf df s2.g ∧ Calls Try.prog 13 #[.pointer (some ⟨g2, 0, none⟩), .agg (dc (.slice fa n6 fc) kf df s2.g), .int .i64 9] W fun e W' => e = .returned (.bool true) ∧ Below W.heap.size W W') := fun W hW => ⟨DB.dc (blk_kept HGD.out hW (blk_lt HGD.out)), same_any W w.heap.size g2 vf _ s2 kf df 9 (HT.out.below hW)⟩
                have HS2 : Hid (∀ W, Below wr.heap.size wr W → DC W hD (.slice da n8 dk) k d s.g ∧ Calls Try.prog 13 #[.pointer (some ⟨g, 0, none⟩), .agg (dc (.slice da n8 dk) k d s.g), .int .i64 9] W fun e W' => e = .returned (.bool true) ∧ Below W.heap.size W W') := fun W hW => ⟨DB.dc (blk_kept HG3.out hW (blk_lt HG3.out)), same_any W w.heap.size g v _ s k d 9 (HD2.out.below hW)⟩
                obtain ⟨W3, hW3⟩ : ∃ W3, W3 = wr.alloc (.cells #[.int .i64 1, .int .i64 1] 45) := ⟨_, rfl⟩
                have b3 : Below wr.heap.size wr W3 := by rw [hW3]; exact al_b _ _
                have Hw3 : Hid (Below wr.heap.size wr W3) := b3
                obtain ⟨hq3, ehq⟩ : ∃ x, x = wr.heap.size := ⟨_, rfl⟩
                have cq := ack_nil W3 (some ⟨hq3, 0, none⟩) 1 1 1
                clear b3 HD2 HG3 HT HGD HT0 HG0 HOV HB HG2 HXB HKI
                go_upto_region 18 with fail
                go_wp2_with fail
                try rw [← hW3]
                try rw [← ehq]
                clear hW3 ehq
                refine cq.mono ?_
                rintro e w6 ⟨rfl, b9⟩
                have Hw6 : Hid (Below wr.heap.size wr w6) := Hw3.out.trans (b9.mono Hw3.out.size)
                clear cq b9
                have cq := next_nil w6 1
                go_wp2_with fail
                refine cq.mono ?_
                rintro e w7 ⟨rfl, b9⟩
                have Hw7 : Hid (Below wr.heap.size wr w7) := Hw6.out.trans (b9.mono Hw6.out.size)
                clear cq b9
                have cq : Calls Try.prog 17 #[.pointer none] w7 fun e w' => e = .returned (.tuple #[.agg #[.int .i64 0, .int .i64 0, .int .i64 0, .bool false], .bool false]) ∧ Below w7.heap.size w7 w' := oldest_nil w7
                go_wp2_with fail
                refine cq.mono ?_
                rintro e w8 ⟨rfl, b9⟩
                have Hw8 : Hid (Below wr.heap.size wr w8) := Hw7.out.trans (b9.mono Hw7.out.size)
                clear cq b9
                obtain ⟨W9, hW9⟩ : ∃ W9, W9 = w8.alloc (.cells #[.int .i64 0, .int .i64 0, .int .i64 0, .bool false] 48) := ⟨_, rfl⟩
                obtain ⟨W10, hW10⟩ : ∃ W10, W10 = W9.setRow w8.heap.size #[.int .i64 0, .int .i64 0, .int .i64 0, .bool false] := ⟨_, rfl⟩
                have b9 : Below w8.heap.size w8 W9 := by rw [hW9]; exact al_b _ _
                have HG9 : Hid ((w8.alloc (.cells #[.int .i64 0, .int .i64 0, .int .i64 0, .bool false] 48)).heap[w8.heap.size]? = some (.cells #[.int .i64 0, .int .i64 0, .int .i64 0, .bool false] 48 (0, 0))) := heap_alloc_new _ _
                have Hw10 : Hid (Below wr.heap.size wr W10) := by
                  have b10 : Below w8.heap.size w8 W10 := by rw [hW10]; exact below_setRow b9 (Nat.le_refl _) _
                  exact Hw8.out.trans (b10.mono Hw8.out.size)
                clear b9
                go_wp2_with (refine wpList_store_row rfl 48 _ _ rfl w8.heap.size #[.int .i64 0, .int .i64 0, .int .i64 0, .bool false] rfl rfl 48 _ HG9.out sizeP rfl (pk_one4 pk0) (Hid.out ?_))
                unfold Hid
                rw [← hW9, ← hW10]
                clear hW9 hW10 HG9
                have cq := largest_nil W10
                go_wp2_with fail
                refine cq.mono ?_
                rintro e wq ⟨rfl, eq⟩
                rw [eq]
                clear cq eq wq
                have cq : Calls Try.prog 19 #[.pointer none, .agg #[.int .i64 0, .int .i64 0, .int .i64 1, .bool false]] W10 fun e w' => e = .returned (.int .i64 1) ∧ Below W10.heap.size W10 w' := sent_nil ⟨0, 0, 1, false⟩ W10
                go_wp2_with fail
                refine cq.mono ?_
                rintro e w11 ⟨rfl, b9⟩
                have Hw11 : Hid (Below wr.heap.size wr w11) := Hw10.out.trans (b9.mono Hw10.out.size)
                clear cq b9
                have cq := lost_nil w11 1 1
                go_wp2_with fail
                refine cq.mono ?_
                rintro e w12 ⟨rfl, b9⟩
                have Hw12 : Hid (Below wr.heap.size wr w12) := Hw11.out.trans (b9.mono Hw11.out.size)
                clear cq b9
                have cq := flying_nil w12
                go_wp2_with fail
                refine cq.mono ?_
                rintro e wq ⟨rfl, eq⟩
                rw [eq]
                clear cq eq wq
                have cq := len_nil w12
                go_wp2_with fail
                refine cq.mono ?_
                rintro e wq ⟨rfl, eq⟩
                rw [eq]
                clear cq eq wq
                have cq := fork_nil w12
                go_wp2_with fail
                refine cq.mono ?_
                rintro e wq ⟨rfl, eq⟩
                rw [eq]
                clear cq eq wq
                obtain ⟨⟨c0, c1, c2', c3, c4, c5, c6, -, -, -, -, -, -, -⟩, cs1⟩ := HS1.out w12 Hw12.out
                go_wp2_with fail
                refine cs1.mono ?_
                rintro e w13 ⟨rfl, b9⟩
                have Hw13 : Hid (Below wr.heap.size wr w13) := Hw12.out.trans (b9.mono Hw12.out.size)
                clear cs1 b9 c0 c1 c2' c3 c4 c5 c6
                obtain ⟨⟨c0, c1, c2', c3, c4, c5, c6, -, -, -, -, -, -, -⟩, cs2⟩ := HS2.out w13 Hw13.out
                go_wp2_with fail
                refine cs2.mono ?_
                rintro e w14 ⟨rfl, b9⟩
                have Hw14 : Hid (Below wr.heap.size wr w14) := Hw13.out.trans (b9.mono Hw13.out.size)
                clear cs2 b9 c0 c1 c2' c3 c4 c5 c6
                have cw := CA.out w14
                go_wp2_with fail
                refine cw.mono ?_
                rintro e w15 ⟨rfl, b9⟩
                have Hw15 : Hid (Below w.heap.size w w15) := HBW.out.trans ((Hw14.out.trans (b9.mono Hw14.out.size)).mono HBW.out.size)
                clear cw b9
                go_wp2
                go_ret
                exact ⟨rfl, Hw15.out⟩

theorem contract (H : Type) (enc : TypeId × Value → H) (W : World) (base : Nat) (args : Array Value) (ds gs : List (DataW H)) (before : List MemPlace)
    (hval : ∀ (j : Nat) t v, Try.f4.params[j]? = some t → args[j]? = some v → Value.okWide Try.prog W .any base t v)
    (hW : DataW.Whole enc Try.prog Try.f4.params.toList Rows.lossForksSpec.vars false W args.toList ds gs before) (_hL : laidMetH Try.prog Rows.lossForksRow.laid W)
    (hsz0 : (DataW.weightsEach Try.prog (Try.f4.params.toList ++ Rows.lossForksSpec.plain.varTypes Try.prog) (ds ++ gs)).all (· ≤ reachBytes) = true) :
    Calls Try.prog 4 args W fun e W' => ∃ v, e = .returned v ∧ Rows.lossForksSpec.post enc Try.prog Try.f4 false true false false W args v W' := by
  have hW' := hW
  obtain ⟨p, q, hA0, hV, rfl, hfz, hnd⟩ := hW
  have hA : DataW.TrodAll enc Try.prog W 0 (fun _ => true) true Try.f4.params.toList args.toList ds p := hA0
  rw [Try.params4] at hA hval hsz0
  obtain ⟨v0, vs0, d0, ds0, p0, q0, hargs, rfl, rfl, h0, r0⟩ := trodAll_cons hA
  obtain ⟨v1, vs1, d1, ds1, p1, q1, rfl, rfl, rfl, h1, r1⟩ := trodAll_cons r0
  obtain ⟨rfl, rfl, rfl⟩ := trodAll_nil r1
  obtain rfl : args = #[v0, v1] := by cases args; simp_all
  obtain ⟨rfl, rfl⟩ := trodVars_none hV
  have k0 := h0
  have lt0 : ∀ x ∈ p0, x.block < W.heap.size := by obtain ⟨m, hm⟩ := k0; exact DataW.trod_lt m _ _ _ hm
  obtain ⟨L0, w0⟩ := aqs_in (hval 0 22 v0 rfl rfl) h0
  have k1 := h1
  have lt1 : ∀ x ∈ p1, x.block < W.heap.size := by obtain ⟨m, hm⟩ := k1; exact DataW.trod_lt m _ _ _ hm
  obtain ⟨L1, w1⟩ := aqs_in (hval 1 22 v1 rfl rfl) h1
  clear hA0
  refine (walk v0 L0 v1 L1 W w0 w1).mono fun e W' ⟨he, bel⟩ => ?_
  subst he
  exact ⟨_, rfl, _, _, _, [], _, [], hW', trodAll_mk1 (shut_bool Try.underlying4 _), (trodAll_cons_mk (Below.trod laidOut (by kernel_rfl) (of_decide_eq_true (by kernel_rfl)) k0 bel lt0) (trodAll_cons_mk (Below.trod laidOut (by kernel_rfl) (of_decide_eq_true (by kernel_rfl)) k1 bel lt1) trodAll_mk0)), rfl, bel.frame _, fun h => by cases h⟩

theorem laid_met (os : Os) : laidMet Try.prog Rows.lossForksRow.laid ((World.holding Try.prog os ⟨#[], #[], []⟩).forCall (fun _ _ => 0) ⟨#[], #[.slice none 0 0, .slice none 0 0], []⟩).memory :=
  laidMet_of_run' 8 (by kernel_rfl) (by kernel_rfl)
theorem reads (os : Os) {H : Type} (enc : TypeId × Value → H) : ∃ places, DataW.whole enc Try.prog ((World.holding Try.prog os ⟨#[], #[], []⟩).forCall (fun _ _ => 0) ⟨#[], #[.slice none 0 0, .slice none 0 0], []⟩).memory Try.f4.params.toList Rows.lossForksSpec.vars false #[Value.slice none 0 0, .slice none 0 0].toList 8 = some ([.nil, .nil], [], places) :=
  ⟨[], by kernel_rfl⟩

set_option maxRecDepth 100000 in
theorem lifted (os : Os) (started : os.Started) (H : Type) (enc : TypeId × Value → H) (F : Stop.Interp) :
    ReturnsInHanded {} Try.checked os 4 .any ((OpenSpec.ofChange Rows.lossForksSpec).preRow enc Try.prog Try.f4 Rows.lossForksRow.domain false Rows.lossForksRow.laid) (((OpenSpec.ofChange Rows.lossForksSpec).at F).post enc Try.prog Try.f4 false true false false) := by
  obtain ⟨places, hx⟩ := reads os enc
  refine returnsInHanded_of_row (C := Try.checked) (s := OpenSpec.ofChange Rows.lossForksSpec) own started (by kernel_rfl) Try.func4
    (witness_row_at (enc := enc) (C := Try.checked) false (World.holding Try.prog os ⟨#[], #[], []⟩) #[.slice none 0 0, .slice none 0 0] rfl (by kernel_rfl) (by kernel_rfl) (by kernel_rfl)
      (OpenSpec.preRow_of_cond 8 hx (by kernel_rfl) (fun k hk => by cases hk) (by kernel_rfl) (laid_met os))) ?_
  intro W base args ds gs before hval hW _ _ hsz hL _ _
  exact contract H enc W base args ds gs before hval hW hL hsz

theorem said : Rows.LossForksSaid :=
  OpenClaim.holds_of_cond 4 Try.f4 rfl rfl rfl rfl rfl rfl rfl ⟨rfl, rfl, rfl, rfl, rfl⟩ rfl rfl rfl rfl rfl (by kernel_rfl) Try.func4 (by kernel_rfl)
    (of_decide_eq_true (by kernel_rfl)) (by unfold Func.isWrapper; first | (rw [if_pos (by decide +kernel)]; kernel_rfl) | (rw [if_neg (by decide +kernel)]; exact ⟨rfl, rfl⟩))
    (fun os started H enc _ F => by rw [OpenClaim.pre_eq_preRow]; exact lifted os started H enc F)

end Go.Proofs.Ytamjbmbflllbfaa.lossForks

namespace Go.Proofs.Ytamjbmbflllbfaa
/-- LossForks. -/
theorem lossForks_holds : Rows.LossForksSaid := lossForks.said
#print axioms lossForks_holds
end Go.Proofs.Ytamjbmbflllbfaa
