/-
  Each packet that was sent is told once, as acknowledged or as lost, or is open: for every at most 200 calls of at most 70 spans each.
-/
import Derived.Test.YtamjbmbflllbfaaPkO
import Derived.Test.YtamjbmbflllbfaaPkO
import Derived.Test.YtamjbmbflllbfaaPkO
import Derived.Test.YtamjbmbflllbfaaLc
namespace Go.Proofs.Ytamjbmbflllbfaa.lossOnce
open Go.ChangeShapes Go.WideShapes Go.ChangeAt Go.RowKit Go.Deep Go.ChangeMaps
set_option maxRecDepth 100000

set_option maxHeartbeats 8000000 in
theorem walk (v0 : Value) (l : List Atc) (w : World) (hq : AQ w v0 l) :
    Calls Try.prog 5 #[v0] w fun e w' => e = .returned (.bool true) ∧ Below w.heap.size w w' := by
  have cf := few_any w v0 l hq
  obtain ⟨a, c, rfl, -⟩ := id hq.shape
  have CA : Hid (∀ W, Calls Try.prog 9 #[] W fun e w' => e = .returned (.bool true) ∧ Below W.heap.size W w') := awake_any
  cases hf : fewB l with
  | false =>
    rw [hf] at cf
    generalize l.length = n9 at *
    clear hq hf
    go_enter Try.func5, Try.ntmps5
    go_wp2_with fail
    refine cf.mono ?_
    rintro e w1 ⟨rfl, b1⟩
    have HB1 : Hid (Below w.heap.size w w1) := b1
    have ca := CA.out w1
    clear cf b1
    go_wp2_with fail
    refine ca.mono ?_
    rintro e w2 ⟨rfl, b2⟩
    have HB2 : Hid (Below w.heap.size w w2) := HB1.out.trans (b2.mono HB1.out.size)
    clear ca b2
    go_wp2
    go_ret
    exact ⟨rfl, HB2.out⟩
  | true =>
    rw [hf] at cf
    obtain ⟨hn200, h70⟩ := fewB_iff.1 hf
    have HQ : Hid (∀ i, i < l.length → okA w (atA l i) ∧ (atA l i).L.length ≤ 70) := fun i hi => ⟨hq.ok _ (atA_mem l i hi), h70 _ (atA_mem l i hi)⟩
    have HAT : Hid (∀ j, j < l.length → ∀ W, Below w.heap.size w W → ∃ b off, a = some ⟨b, off, none⟩ ∧ AC W b (off + j * 8) (atA l j)) := fun j hj W hb => by
      obtain ⟨b, off, e, q⟩ := AQ.at (hq.kept hb) j hj
      exact ⟨b, off, e, aC q⟩
    clear hf hq h70
    generalize hn9 : l.length = n9 at *
    clear hn9
    go_enter Try.func5, Try.ntmps5
    go_wp2_with fail
    refine cf.mono ?_
    rintro e w1 ⟨rfl, b1⟩
    have cn := lnew_any w1 w.heap.size
    obtain ⟨g, eg⟩ : ∃ x, x = w1.heap.size := ⟨_, rfl⟩
    rw [← eg] at cn
    have HB1 : Hid (Below w.heap.size w w1) := b1
    have HGW : Hid (w.heap.size ≤ g) := by rw [eg]; exact b1.size
    clear cf b1 eg
    go_wp2_with fail
    refine cn.mono ?_
    rintro e w2 ⟨rfl, q2, ls⟩
    have b2 : Below w1.heap.size w1 w2 := by rw [q2]; exact al_b _ _
    have HB2 : Hid (Below w.heap.size w w2) := HB1.out.trans (b2.mono HB1.out.size)
    have HL2 : Hid (LS w2 w.heap.size g (.slice none 0 0) lg0) := ls
    clear cn q2 ls b2
    go_wp2_with fail
    go_loopw [4, 5, 6] (fun u4 u5 u wr => ∃ (i : Nat) (s : Lg) (v : Value) (S T : List Int), i ≤ n9 ∧ u = .int .i64 i ∧ LS wr w.heap.size g v s ∧ IQ wr w.heap.size u4 S ∧ IQ wr w.heap.size u5 T ∧ Ap u4 u5 ∧ Onc s S T ∧ S.length ≤ i ∧ Below w.heap.size w wr) (fun _ _ u _ => n9 - (intOf u).toNat)
    case atStart => exact ⟨0, lg0, _, [], [], by omega, rfl, HL2.out, IQ.nil _ _, IQ.nil _ _, Ap.nil _, onc0, by simp, HB2.out⟩
    case round =>
      obtain ⟨i, s, v, S, T, hi, rfl, ls, is4, is5, ap, on, hsl, bel⟩ := hrel
      obtain ⟨sa, nS, sc, rfl, hnS⟩ := is4.shape'
      obtain ⟨ta, nT, tc, rfl, hnT⟩ := is5.shape'
      have HB : Hid (Below w.heap.size w wr) := bel
      have HL : Hid (LS wr w.heap.size g v s) := ls
      have HS : Hid (IQ wr w.heap.size (.slice sa nS sc) S) := is4
      have HT : Hid (IQ wr w.heap.size (.slice ta nT tc) T) := is5
      have HA : Hid (Ap (.slice sa nS sc) (.slice ta nT tc)) := ap
      have HO : Hid (Onc s S T) := on
      have HNS : Hid (nS = S.length ∧ nT = T.length ∧ S.length ≤ i) := ⟨hnS, hnT, hsl⟩
      clear HB1 HB2 HL2 ls is4 is5 ap on bel hnS hnT hsl
      by_cases hin : i < n9
      · have lt2 : (i : Int) < (n9 : Int) := by omega
        obtain ⟨b, off, rfl, hac⟩ := HAT.out i hin wr HB.out
        obtain ⟨oq, l7⟩ := HQ.out i hin
        obtain ⟨y0, y1, y2, y3, y4, y5, y6, y7⟩ := hac
        generalize atA l i = q at *
        obtain ⟨qk, ⟨pn, pt, pz, pa⟩, u, L, qn, ql⟩ := q
        obtain ⟨q0, q1, hu⟩ := oq
        simp only at q0 q1 hu l7 y0 y1 y2 y3 y4 y5 y6 y7
        obtain ⟨ua, uc, rfl, -⟩ := id hu.shape
        have HU : Hid (∀ W, Below w.heap.size w W → SSp W (.slice ua L.length uc) L) := fun W hb => hu.kept hb
        have HLL : Hid (L.length ≤ 1000) := by unfold Hid; omega
        clear hu l7
        generalize hnL : L.length = nL at *
        have HNL : Hid (L.length = nL) := hnL
        clear hnL
        obtain ⟨r, hr⟩ : ∃ r, r = qk % 5 := ⟨_, rfl⟩
        have m0 : Int.tmod qk 5 = r := by rw [Int.tmod_eq_emod_of_nonneg q0]; exact hr.symm
        have m1 : IntKind.u8.wrap r = r := by rw [IntKind.wrap_u8]; omega
        obtain ⟨W4, hW4⟩ : ∃ W4, W4 = wr.alloc (.cells #[.int .u8 0, .int .i64 0, .int .i64 0, .int .i64 0, .bool false, .slice none 0 0, .int .i64 0, .int .i64 0] 37) := ⟨_, rfl⟩
        obtain ⟨W5, hW5⟩ : ∃ W5, W5 = W4.setRow wr.heap.size #[.int .u8 qk, .int .i64 pn, .int .i64 pt, .int .i64 pz, .bool pa, .slice ua nL uc, .int .i64 qn, .int .i64 ql] := ⟨_, rfl⟩
        have b4 : Below wr.heap.size wr W4 := by rw [hW4]; exact al_b _ _
        have b5 : Below wr.heap.size wr W5 := by rw [hW5]; exact below_setRow b4 (Nat.le_refl _) _
        have HG4 : Hid ((wr.alloc (.cells #[.int .u8 0, .int .i64 0, .int .i64 0, .int .i64 0, .bool false, .slice none 0 0, .int .i64 0, .int .i64 0] 37)).heap[wr.heap.size]? = some (.cells #[.int .u8 0, .int .i64 0, .int .i64 0, .int .i64 0, .bool false, .slice none 0 0, .int .i64 0, .int .i64 0] 37 (0, 0))) := heap_alloc_new _ _
        have HG5 : Hid (W5.heap[wr.heap.size]? = some (.cells #[.int .u8 qk, .int .i64 pn, .int .i64 pt, .int .i64 pz, .bool pa, .slice ua nL uc, .int .i64 qn, .int .i64 ql] 37 (0, 0))) := by unfold Hid; rw [hW5, hW4]; exact setRow_heap _ _ _ _ _ _ HG4.out
        have HB5 : Hid (Below w.heap.size w W5) := HB.out.trans (b5.mono HB.out.size)
        have HL5 : Hid (LS W5 w.heap.size g v s) := HL.out.below b5
        have HS5 : Hid (IQ W5 w.heap.size (.slice sa nS sc) S) := HS.out.below b5
        have HT5 : Hid (IQ W5 w.heap.size (.slice ta nT tc) T) := HT.out.below b5
        clear b4 b5 hr q1
        go_upto_region 8 with fail
        go_wp2_with (refine wpList_store_row rfl 37 _ _ rfl wr.heap.size #[.int .u8 qk, .int .i64 pn, .int .i64 pt, .int .i64 pz, .bool pa, .slice ua nL uc, .int .i64 qn, .int .i64 ql] rfl rfl 37 _ HG4.out sizeAc rfl (act_one _ _ _ _ _ _ _ _ _ _) (Hid.out ?_))
        unfold Hid
        rw [← hW4, ← hW5]
        clear hW4 hW5 HG4 y0 y1 y2 y3 y4 y5 y6 y7
        obtain ⟨y0, y1, y2, y3, y4, y5, y6, y7⟩ := a8_cells HG5.out
        generalize wr.heap.size = hQ at *
        by_cases h3 : r = 3
        · subst h3
          have ca := ack_low W5 w.heap.size g v (.slice ua nL uc) s L qn HL5.out HB5.out.size HGW.out w (Nat.le_refl _) (Nat.le_refl _) HB5.out (HU.out W5 HB5.out |> fun _ => HU.out w (Below.refl _ _)) (by have := HLL.out; rw [HNL.out]; omega)
          have HOa : Hid (Onc (ackN s L qn) S (T ++ (ackG s L qn).map Pk.n)) := HO.out.ack L qn
          generalize (ackR s L qn).1 = ar1 at *
          generalize (ackR s L qn).2 = ar2 at *
          generalize comE s L qn = ce at *
          generalize ackN s L qn = s9 at *
          generalize ackG s L qn = G at *
          go_wp2_with fail
          refine ca.mono ?_
          rintro e w6 ⟨vt, v6, rfl, rt, l6, u6⟩
          have HLa : Hid (LS w6 w.heap.size g v6 s9) := l6
          have HSa : Hid (IQ w6 w.heap.size (.slice sa nS sc) S) := HS5.out.lu HL5.out u6
          have HTa : Hid (IQ w6 w.heap.size (.slice ta nT tc) T) := HT5.out.lu HL5.out u6
          have HBa : Hid (Below w.heap.size w w6) := u6.below HB5.out HB5.out.size HGW.out (fun k hk => HL5.out.rs.base hk)
          have HAa : Hid (Ap (.slice sa nS sc) (.slice ta nT tc)) := HA.out
          obtain ⟨xa, xc, rfl, -⟩ := id rt.is.shape
          obtain ⟨n4, hn4⟩ : ∃ n4, n4 = G.length := ⟨_, rfl⟩
          rw [← hn4] at rt ⊢
          have HN4 : Hid (n4 = G.length) := hn4
          obtain ⟨b0, hb0⟩ : ∃ b0, b0 = W5.heap.size := ⟨_, rfl⟩
          rw [← hb0] at rt
          have HPa : Hid (RP 48 w6 b0 (.slice xa n4 xc) G) := rt
          have HSL : Hid (S.length ≤ i + 1) := Nat.le_trans HNS.out.2.2 (Nat.le_succ i)
          clear ca rt l6 u6 hn4 hb0 y0 y1 y2 y3 y4 y5 y6 y7 HL HS HT HA HO HL5 HS5 HT5 HG5 HU HLL m0 m1 HB HB5
          have HBG : Hid (T.length + n4 ≤ 201) := by
            have e1 := HOa.out.len
            have e2 := HSL.out
            have e3 := HN4.out
            rw [List.length_append, List.length_map] at e1
            unfold Hid
            omega
          go_wp2_with fail
          go_loopw [5, 9] (fun u5 u9 wr => ∃ j : Nat, j ≤ n4 ∧ u9 = .int .i64 j ∧ LS wr w.heap.size g v6 s9 ∧ IQ wr w.heap.size (.slice sa nS sc) S ∧ IQ wr w.heap.size u5 (T ++ (G.take j).map Pk.n) ∧ Ap (.slice sa nS sc) u5 ∧ RP 48 wr b0 (.slice xa n4 xc) G ∧ Below w.heap.size w wr) (fun _ u9 _ => n4 - (intOf u9).toNat)
          case atStart => exact ⟨0, by omega, rfl, HLa.out, HSa.out, by rw [List.take_zero, List.map_nil, List.append_nil]; exact HTa.out, HAa.out, HPa.out, HBa.out⟩
          case round =>
            obtain ⟨j, hj, rfl, ls, is, it, ap, rp, bel⟩ := hrel
            obtain ⟨va, nv, vc, rfl, hnv⟩ := it.shape'
            have JL : Hid (LS wr w.heap.size g v6 s9) := ls
            have JS : Hid (IQ wr w.heap.size (.slice sa nS sc) S) := is
            have JT : Hid (IQ wr w.heap.size (.slice va nv vc) (T ++ (G.take j).map Pk.n)) := it
            have JA : Hid (Ap (.slice sa nS sc) (.slice va nv vc)) := ap
            have JP : Hid (RP 48 wr b0 (.slice xa n4 xc) G) := rp
            have JB : Hid (Below w.heap.size w wr) := bel
            have hn4b : n4 ≤ 201 := by have := HBG.out; omega
            clear HLa HSa HTa HAa HPa HBa ls is it ap rp bel
            by_cases hjn : j < n4
            · have lt3 : (j : Int) < (n4 : Int) := by omega
              obtain ⟨b, off, rfl, k0, -, -, -⟩ := JP.out.is.at j (by rw [← HN4.out]; exact hjn)
              have HTK : Hid (T ++ (G.take (j + 1)).map Pk.n = T ++ (G.take j).map Pk.n ++ [(atP G j).n]) := take_map T G j (by rw [← HN4.out]; exact hjn)
              have HLJ : Hid ((T ++ (G.take j).map Pk.n).length ≤ 100000) := by
                have := HBG.out
                unfold Hid
                rw [List.length_append, List.length_map, List.length_take]
                omega
              generalize (atP G j).n = y at *
              generalize T ++ (G.take j).map Pk.n = TX at *
              obtain ⟨W6, hW6⟩ : ∃ W6, W6 = wr.alloc (.cells #[.int .i64 y] 3) := ⟨_, rfl⟩
              have b6 : Below wr.heap.size wr W6 := by rw [hW6]; exact al_b _ _
              have HP6 : Hid (W6.rangeAt wr.heap.size 0 (ic y)) := by rw [hW6]; exact ic_new _ _
              have HW6 : Hid (W6 = wr.alloc (.cells #[.int .i64 y] 3)) := hW6
              have HB6 : Hid (Below w.heap.size w W6) := JB.out.trans (b6.mono JB.out.size)
              have HL6 : Hid (LS W6 w.heap.size g v6 s9) := JL.out.below b6
              have HS6 : Hid (IQ W6 w.heap.size (.slice sa nS sc) S) := JS.out.below b6
              have HT6 : Hid (IQ W6 w.heap.size (.slice va nv vc) TX) := JT.out.below b6
              have HR6 : Hid (RP 48 W6 b0 (.slice (some ⟨b, off, none⟩) n4 xc) G) := JP.out.below b6
              clear b6 hnv
              go_upto_region 20 with fail
              go_wp2_with (at_builtin; rw [← hW6]; refine wpList_append_nr rfl _ _ rfl w.heap.size (.slice va nv vc) TX rfl HT6.out wr.heap.size y rfl HP6.out HLJ.out HB6.out.size (Hid.out ?_))
              unfold Hid
              intro v7 w7 r7 g7 o7
              try rw [← HW6.out] at g7
              have hz6 : wr.heap.size + 1 = W6.heap.size := by rw [HW6.out]; simp
              try rw [hz6] at o7
              clear HW6 hz6 hW6
              have HB7 : Hid (Below w.heap.size w w7) := grown_below HB6.out HB6.out.size g7 (fun q hq => HT6.out.base hq)
              have HA7 : Hid (Ap (.slice sa nS sc) v7) := JA.out.grownN HS6.out o7
              have HS7 : Hid (IQ w7 w.heap.size (.slice sa nS sc) S) := HS6.out.grownX g7 (fun q hq => JA.out q hq)
              have HL7 : Hid (LS w7 w.heap.size g v6 s9) := HL6.out.grownN HT6.out g7
              have HR7 : Hid (RP 48 w7 b0 (.slice (some ⟨b, off, none⟩) n4 xc) G) := HR6.out.grownN (by decide) HT6.out g7
              have R7 : Hid (IQ w7 w.heap.size v7 (TX ++ [y])) := r7
              obtain ⟨va7, nv7, vc7, rfl, -⟩ := id r7.shape'
              clear r7 g7 o7 k0
              go_wp2
              go_roundw
              case rel => exact ⟨j + 1, by omega, by go_num, HL7.out, HS7.out, by rw [HTK.out]; exact R7.out, HA7.out, HR7.out, HB7.out⟩
              case measure => simp [intOf]; omega
            · obtain rfl : j = n4 := by omega
              have lt3 : ¬ (j : Int) < (j : Int) := by omega
              have HTE : Hid ((G.take j).map Pk.n = G.map Pk.n) := by unfold Hid; rw [HN4.out, List.take_length]
              clear hnv
              go_wp2
              go_roundw
              case rel => exact ⟨i + 1, s9, v6, S, T ++ (G.take j).map Pk.n, by omega, by go_num, JL.out, JS.out, JT.out, JA.out, by rw [HTE.out]; exact HOa.out, HSL.out, JB.out⟩
              case measure => simp [intOf]; omega
        · by_cases h4 : r = 4
          · subst h4
            have cl := lost_any W5 w.heap.size g v s qn ql HL5.out HB5.out.size
            have HOa : Hid (Onc (lostL s qn ql) S (T ++ (lostP s qn ql).map Pk.n)) := HO.out.lost qn ql
            generalize lostL s qn ql = s9 at *
            generalize lostP s qn ql = G at *
            have n3 : ((4 : Int) == 3) = false := by decide
            clear h3
            go_wp2_with fail
            refine cl.mono ?_
            rintro e w6 ⟨vt, v6, rfl, rt, l6, u6⟩
            have HLa : Hid (LS w6 w.heap.size g v6 s9) := l6
            have HSa : Hid (IQ w6 w.heap.size (.slice sa nS sc) S) := HS5.out.lu HL5.out u6
            have HTa : Hid (IQ w6 w.heap.size (.slice ta nT tc) T) := HT5.out.lu HL5.out u6
            have HBa : Hid (Below w.heap.size w w6) := u6.below HB5.out HB5.out.size HGW.out (fun k hk => HL5.out.rs.base hk)
            have HAa : Hid (Ap (.slice sa nS sc) (.slice ta nT tc)) := HA.out
            obtain ⟨xa, xc, rfl, -⟩ := id rt.is.shape
            obtain ⟨n4, hn4⟩ : ∃ n4, n4 = G.length := ⟨_, rfl⟩
            rw [← hn4] at rt ⊢
            have HN4 : Hid (n4 = G.length) := hn4
            obtain ⟨b0, hb0⟩ : ∃ b0, b0 = W5.heap.size := ⟨_, rfl⟩
            rw [← hb0] at rt
            have HPa : Hid (RP 48 w6 b0 (.slice xa n4 xc) G) := rt
            have HSL : Hid (S.length ≤ i + 1) := Nat.le_trans HNS.out.2.2 (Nat.le_succ i)
            clear cl rt l6 u6 hn4 hb0 y0 y1 y2 y3 y4 y5 y6 y7 HL HS HT HA HO HL5 HS5 HT5 HG5 HU HLL m0 m1 n3 HB HB5
            have HBG : Hid (T.length + n4 ≤ 201) := by
              have e1 := HOa.out.len
              have e2 := HSL.out
              have e3 := HN4.out
              rw [List.length_append, List.length_map] at e1
              unfold Hid
              omega
            go_wp2_with fail
            go_loopw [5, 9] (fun u5 u9 wr => ∃ j : Nat, j ≤ n4 ∧ u9 = .int .i64 j ∧ LS wr w.heap.size g v6 s9 ∧ IQ wr w.heap.size (.slice sa nS sc) S ∧ IQ wr w.heap.size u5 (T ++ (G.take j).map Pk.n) ∧ Ap (.slice sa nS sc) u5 ∧ RP 48 wr b0 (.slice xa n4 xc) G ∧ Below w.heap.size w wr) (fun _ u9 _ => n4 - (intOf u9).toNat)
            case atStart => exact ⟨0, by omega, rfl, HLa.out, HSa.out, by rw [List.take_zero, List.map_nil, List.append_nil]; exact HTa.out, HAa.out, HPa.out, HBa.out⟩
            case round =>
              obtain ⟨j, hj, rfl, ls, is, it, ap, rp, bel⟩ := hrel
              obtain ⟨va, nv, vc, rfl, hnv⟩ := it.shape'
              have JL : Hid (LS wr w.heap.size g v6 s9) := ls
              have JS : Hid (IQ wr w.heap.size (.slice sa nS sc) S) := is
              have JT : Hid (IQ wr w.heap.size (.slice va nv vc) (T ++ (G.take j).map Pk.n)) := it
              have JA : Hid (Ap (.slice sa nS sc) (.slice va nv vc)) := ap
              have JP : Hid (RP 48 wr b0 (.slice xa n4 xc) G) := rp
              have JB : Hid (Below w.heap.size w wr) := bel
              have hn4b : n4 ≤ 201 := by have := HBG.out; omega
              clear HLa HSa HTa HAa HPa HBa ls is it ap rp bel
              by_cases hjn : j < n4
              · have lt3 : (j : Int) < (n4 : Int) := by omega
                obtain ⟨b, off, rfl, k0, -, -, -⟩ := JP.out.is.at j (by rw [← HN4.out]; exact hjn)
                have HTK : Hid (T ++ (G.take (j + 1)).map Pk.n = T ++ (G.take j).map Pk.n ++ [(atP G j).n]) := take_map T G j (by rw [← HN4.out]; exact hjn)
                have HLJ : Hid ((T ++ (G.take j).map Pk.n).length ≤ 100000) := by
                  have := HBG.out
                  unfold Hid
                  rw [List.length_append, List.length_map, List.length_take]
                  omega
                generalize (atP G j).n = y at *
                generalize T ++ (G.take j).map Pk.n = TX at *
                obtain ⟨W6, hW6⟩ : ∃ W6, W6 = wr.alloc (.cells #[.int .i64 y] 3) := ⟨_, rfl⟩
                have b6 : Below wr.heap.size wr W6 := by rw [hW6]; exact al_b _ _
                have HP6 : Hid (W6.rangeAt wr.heap.size 0 (ic y)) := by rw [hW6]; exact ic_new _ _
                have HW6 : Hid (W6 = wr.alloc (.cells #[.int .i64 y] 3)) := hW6
                have HB6 : Hid (Below w.heap.size w W6) := JB.out.trans (b6.mono JB.out.size)
                have HL6 : Hid (LS W6 w.heap.size g v6 s9) := JL.out.below b6
                have HS6 : Hid (IQ W6 w.heap.size (.slice sa nS sc) S) := JS.out.below b6
                have HT6 : Hid (IQ W6 w.heap.size (.slice va nv vc) TX) := JT.out.below b6
                have HR6 : Hid (RP 48 W6 b0 (.slice (some ⟨b, off, none⟩) n4 xc) G) := JP.out.below b6
                clear b6 hnv
                go_upto_region 20 with fail
                go_wp2_with (at_builtin; rw [← hW6]; refine wpList_append_nr rfl _ _ rfl w.heap.size (.slice va nv vc) TX rfl HT6.out wr.heap.size y rfl HP6.out HLJ.out HB6.out.size (Hid.out ?_))
                unfold Hid
                intro v7 w7 r7 g7 o7
                try rw [← HW6.out] at g7
                have hz6 : wr.heap.size + 1 = W6.heap.size := by rw [HW6.out]; simp
                try rw [hz6] at o7
                clear HW6 hz6 hW6
                have HB7 : Hid (Below w.heap.size w w7) := grown_below HB6.out HB6.out.size g7 (fun q hq => HT6.out.base hq)
                have HA7 : Hid (Ap (.slice sa nS sc) v7) := JA.out.grownN HS6.out o7
                have HS7 : Hid (IQ w7 w.heap.size (.slice sa nS sc) S) := HS6.out.grownX g7 (fun q hq => JA.out q hq)
                have HL7 : Hid (LS w7 w.heap.size g v6 s9) := HL6.out.grownN HT6.out g7
                have HR7 : Hid (RP 48 w7 b0 (.slice (some ⟨b, off, none⟩) n4 xc) G) := HR6.out.grownN (by decide) HT6.out g7
                have R7 : Hid (IQ w7 w.heap.size v7 (TX ++ [y])) := r7
                obtain ⟨va7, nv7, vc7, rfl, -⟩ := id r7.shape'
                clear r7 g7 o7 k0
                go_wp2
                go_roundw
                case rel => exact ⟨j + 1, by omega, by go_num, HL7.out, HS7.out, by rw [HTK.out]; exact R7.out, HA7.out, HR7.out, HB7.out⟩
                case measure => simp [intOf]; omega
              · obtain rfl : j = n4 := by omega
                have lt3 : ¬ (j : Int) < (j : Int) := by omega
                have HTE : Hid ((G.take j).map Pk.n = G.map Pk.n) := by unfold Hid; rw [HN4.out, List.take_length]
                clear hnv
                go_wp2
                go_roundw
                case rel => exact ⟨i + 1, s9, v6, S, T ++ (G.take j).map Pk.n, by omega, by go_num, JL.out, JS.out, JT.out, JA.out, by rw [HTE.out]; exact HOa.out, HSL.out, JB.out⟩
                case measure => simp [intOf]; omega
          · have n3 : (r == 3) = false := by simpa using h3
            have n4' : (r == 4) = false := by simpa using h4
            have cs : Calls Try.prog 19 #[.pointer (some ⟨g, 0, none⟩), .agg #[.int .i64 pn, .int .i64 pt, .int .i64 pz, .bool pa]] W5 fun e w' => e = .returned (.int .i64 (sendE s ⟨pn, pt, pz, pa⟩)) ∧ ∃ v', LS w' w.heap.size g v' (sendL s ⟨pn, pt, pz, pa⟩) ∧ LU W5 w' g v v' := sent_any W5 w.heap.size g v s ⟨pn, pt, pz, pa⟩ HL5.out HB5.out.size
            by_cases he : sendE s ⟨pn, pt, pz, pa⟩ = 0
            · have HO9 : Hid (Onc (sendL s ⟨pn, pt, pz, pa⟩) (S ++ [pn]) T) := HO.out.sent ⟨pn, pt, pz, pa⟩ he
              rw [he] at cs
              generalize sendL s ⟨pn, pt, pz, pa⟩ = s9 at *
              clear he
              go_wp2_with fail
              refine cs.mono ?_
              rintro e w6 ⟨rfl, v6, l6, u6⟩
              obtain ⟨-, z1, -, -, -, -, -, -⟩ := a8_cells (blk_apart HL5.out u6 HG5.out (by decide) (by decide))
              obtain ⟨W6, hW6⟩ : ∃ W6, W6 = w6.alloc (.cells #[.int .i64 pn] 3) := ⟨_, rfl⟩
              have b6 : Below w6.heap.size w6 W6 := by rw [hW6]; exact al_b _ _
              have HB6 : Hid (Below w.heap.size w W6) := by
                have := u6.below HB5.out HB5.out.size HGW.out (fun k hk => HL5.out.rs.base hk)
                exact this.trans (b6.mono this.size)
              have HP6 : Hid (W6.rangeAt w6.heap.size 0 (ic pn)) := by rw [hW6]; exact ic_new _ _
              have HW6 : Hid (W6 = w6.alloc (.cells #[.int .i64 pn] 3)) := hW6
              have HL6 : Hid (LS W6 w.heap.size g v6 s9) := l6.below b6
              have HS6 : Hid (IQ W6 w.heap.size (.slice sa nS sc) S) := (HS5.out.lu HL5.out u6).below b6
              have HT6 : Hid (IQ W6 w.heap.size (.slice ta nT tc) T) := (HT5.out.lu HL5.out u6).below b6
              have HLJ : Hid (S.length ≤ 100000) := by have := HNS.out.2.2; unfold Hid; omega
              clear cs b6 l6 u6 y0 y1 y2 y3 y4 y5 y6 y7
              go_upto_region 12 with fail
              go_wp2_with (at_builtin; rw [← hW6]; refine wpList_append_nr rfl _ _ rfl w.heap.size (.slice sa nS sc) S rfl HS6.out w6.heap.size pn rfl HP6.out HLJ.out HB6.out.size (Hid.out ?_))
              unfold Hid
              intro v7 w7 r7 g7 o7
              try rw [← HW6.out] at g7
              have hz6 : w6.heap.size + 1 = W6.heap.size := by rw [HW6.out]; simp
              try rw [hz6] at o7
              clear HW6 hz6 hW6
              have HBa : Hid (Below w.heap.size w w7) := grown_below HB6.out HB6.out.size g7 (fun q hq => HS6.out.base hq)
              have HAa : Hid (Ap v7 (.slice ta nT tc)) := (HA.out.symm.grownN HT6.out o7).symm
              have HTa : Hid (IQ w7 w.heap.size (.slice ta nT tc) T) := HT6.out.grownX g7 (fun q hq => HA.out.symm q hq)
              have HLa : Hid (LS w7 w.heap.size g v6 s9) := HL6.out.grownN HS6.out g7
              have HSa : Hid (IQ w7 w.heap.size v7 (S ++ [pn])) := r7
              have HSL : Hid ((S ++ [pn]).length ≤ i + 1) := by have := HNS.out.2.2; unfold Hid; rw [List.length_append, List.length_singleton]; omega
              obtain ⟨va7, nv7, vc7, rfl, -⟩ := id r7.shape'
              have HPa : Hid (RP 48 w7 0 (.slice none 0 0) []) := RP.nil _ _ _
              have HOa : Hid (Onc s9 (S ++ [pn]) (T ++ ([] : List Pk).map Pk.n)) := by rw [List.map_nil, List.append_nil]; exact HO9.out
              clear r7 g7 o7 z1 HL HS HT HA HO HO9 HL5 HS5 HT5 HG5 HU HLL m0 m1 n3 n4' HB HB5 HL6 HS6 HT6 HP6 HLJ HB6
              generalize S ++ [pn] = S9 at *
              go_upto_region 17 with fail
              obtain ⟨n4, hn4⟩ : ∃ n4 : Nat, n4 = 0 := ⟨_, rfl⟩
              obtain ⟨xa, hxa⟩ : ∃ xa : Option Addr, xa = none := ⟨_, rfl⟩
              obtain ⟨xc, hxc⟩ : ∃ xc : Nat, xc = 0 := ⟨_, rfl⟩
              have ev : (Value.slice none 0 0) = .slice xa n4 xc := by rw [hn4, hxa, hxc]
              rw [ev] at HPa ⊢
              obtain ⟨G, hG⟩ : ∃ G : List Pk, G = [] := ⟨_, rfl⟩
              rw [← hG] at HPa HOa
              obtain ⟨b0, hb0⟩ : ∃ b0 : Nat, b0 = 0 := ⟨_, rfl⟩
              have HN4 : Hid (n4 = G.length) := by unfold Hid; rw [hG, hn4]; rfl
              rw [← hb0] at HPa
              clear hn4 hxa hxc ev hG hb0
              have HBG : Hid (T.length + n4 ≤ 201) := by
                have e1 := HOa.out.len
                have e2 := HSL.out
                have e3 := HN4.out
                rw [List.length_append, List.length_map] at e1
                unfold Hid
                omega
              go_wp2_with fail
              go_loopw [5, 9] (fun u5 u9 wr => ∃ j : Nat, j ≤ n4 ∧ u9 = .int .i64 j ∧ LS wr w.heap.size g v6 s9 ∧ IQ wr w.heap.size (.slice va7 nv7 vc7) S9 ∧ IQ wr w.heap.size u5 (T ++ (G.take j).map Pk.n) ∧ Ap (.slice va7 nv7 vc7) u5 ∧ RP 48 wr b0 (.slice xa n4 xc) G ∧ Below w.heap.size w wr) (fun _ u9 _ => n4 - (intOf u9).toNat)
              case atStart => exact ⟨0, by omega, rfl, HLa.out, HSa.out, by rw [List.take_zero, List.map_nil, List.append_nil]; exact HTa.out, HAa.out, HPa.out, HBa.out⟩
              case round =>
                obtain ⟨j, hj, rfl, ls, is, it, ap, rp, bel⟩ := hrel
                obtain ⟨va, nv, vc, rfl, hnv⟩ := it.shape'
                have JL : Hid (LS wr w.heap.size g v6 s9) := ls
                have JS : Hid (IQ wr w.heap.size (.slice va7 nv7 vc7) S9) := is
                have JT : Hid (IQ wr w.heap.size (.slice va nv vc) (T ++ (G.take j).map Pk.n)) := it
                have JA : Hid (Ap (.slice va7 nv7 vc7) (.slice va nv vc)) := ap
                have JP : Hid (RP 48 wr b0 (.slice xa n4 xc) G) := rp
                have JB : Hid (Below w.heap.size w wr) := bel
                have hn4b : n4 ≤ 201 := by have := HBG.out; omega
                clear HLa HSa HTa HAa HPa HBa ls is it ap rp bel
                by_cases hjn : j < n4
                · have lt3 : (j : Int) < (n4 : Int) := by omega
                  obtain ⟨b, off, rfl, k0, -, -, -⟩ := JP.out.is.at j (by rw [← HN4.out]; exact hjn)
                  have HTK : Hid (T ++ (G.take (j + 1)).map Pk.n = T ++ (G.take j).map Pk.n ++ [(atP G j).n]) := take_map T G j (by rw [← HN4.out]; exact hjn)
                  have HLJ : Hid ((T ++ (G.take j).map Pk.n).length ≤ 100000) := by
                    have := HBG.out
                    unfold Hid
                    rw [List.length_append, List.length_map, List.length_take]
                    omega
                  generalize (atP G j).n = y at *
                  generalize T ++ (G.take j).map Pk.n = TX at *
                  obtain ⟨W6, hW6⟩ : ∃ W6, W6 = wr.alloc (.cells #[.int .i64 y] 3) := ⟨_, rfl⟩
                  have b6 : Below wr.heap.size wr W6 := by rw [hW6]; exact al_b _ _
                  have HP6 : Hid (W6.rangeAt wr.heap.size 0 (ic y)) := by rw [hW6]; exact ic_new _ _
                  have HW6 : Hid (W6 = wr.alloc (.cells #[.int .i64 y] 3)) := hW6
                  have HB6 : Hid (Below w.heap.size w W6) := JB.out.trans (b6.mono JB.out.size)
                  have HL6 : Hid (LS W6 w.heap.size g v6 s9) := JL.out.below b6
                  have HS6 : Hid (IQ W6 w.heap.size (.slice va7 nv7 vc7) S9) := JS.out.below b6
                  have HT6 : Hid (IQ W6 w.heap.size (.slice va nv vc) TX) := JT.out.below b6
                  have HR6 : Hid (RP 48 W6 b0 (.slice (some ⟨b, off, none⟩) n4 xc) G) := JP.out.below b6
                  clear b6 hnv
                  go_upto_region 20 with fail
                  go_wp2_with (at_builtin; rw [← hW6]; refine wpList_append_nr rfl _ _ rfl w.heap.size (.slice va nv vc) TX rfl HT6.out wr.heap.size y rfl HP6.out HLJ.out HB6.out.size (Hid.out ?_))
                  unfold Hid
                  intro v7 w7 r7 g7 o7
                  try rw [← HW6.out] at g7
                  have hz6 : wr.heap.size + 1 = W6.heap.size := by rw [HW6.out]; simp
                  try rw [hz6] at o7
                  clear HW6 hz6 hW6
                  have HB7 : Hid (Below w.heap.size w w7) := grown_below HB6.out HB6.out.size g7 (fun q hq => HT6.out.base hq)
                  have HA7 : Hid (Ap (.slice va7 nv7 vc7) v7) := JA.out.grownN HS6.out o7
                  have HS7 : Hid (IQ w7 w.heap.size (.slice va7 nv7 vc7) S9) := HS6.out.grownX g7 (fun q hq => JA.out q hq)
                  have HL7 : Hid (LS w7 w.heap.size g v6 s9) := HL6.out.grownN HT6.out g7
                  have HR7 : Hid (RP 48 w7 b0 (.slice (some ⟨b, off, none⟩) n4 xc) G) := HR6.out.grownN (by decide) HT6.out g7
                  have R7 : Hid (IQ w7 w.heap.size v7 (TX ++ [y])) := r7
                  obtain ⟨va7, nv7, vc7, rfl, -⟩ := id r7.shape'
                  clear r7 g7 o7 k0
                  go_wp2
                  go_roundw
                  case rel => exact ⟨j + 1, by omega, by go_num, HL7.out, HS7.out, by rw [HTK.out]; exact R7.out, HA7.out, HR7.out, HB7.out⟩
                  case measure => simp [intOf]; omega
                · obtain rfl : j = n4 := by omega
                  have lt3 : ¬ (j : Int) < (j : Int) := by omega
                  have HTE : Hid ((G.take j).map Pk.n = G.map Pk.n) := by unfold Hid; rw [HN4.out, List.take_length]
                  clear hnv
                  go_wp2
                  go_roundw
                  case rel => exact ⟨i + 1, s9, v6, S9, T ++ (G.take j).map Pk.n, by omega, by go_num, JL.out, JS.out, JT.out, JA.out, by rw [HTE.out]; exact HOa.out, HSL.out, JB.out⟩
                  case measure => simp [intOf]; omega
            · have HO9 : Hid (Onc (sendL s ⟨pn, pt, pz, pa⟩) S T) := by
                have e9 : sendL s ⟨pn, pt, pz, pa⟩ = s := by unfold sendL; rw [if_neg he]
                rw [e9]
                exact HO.out
              have n5 : (sendE s ⟨pn, pt, pz, pa⟩ == 0) = false := by simpa using he
              generalize sendL s ⟨pn, pt, pz, pa⟩ = s9 at *
              generalize sendE s ⟨pn, pt, pz, pa⟩ = ce at *
              clear he
              go_wp2_with fail
              refine cs.mono ?_
              rintro e w6 ⟨rfl, v6, l6, u6⟩
              have HLa : Hid (LS w6 w.heap.size g v6 s9) := l6
              have HSa : Hid (IQ w6 w.heap.size (.slice sa nS sc) S) := HS5.out.lu HL5.out u6
              have HTa : Hid (IQ w6 w.heap.size (.slice ta nT tc) T) := HT5.out.lu HL5.out u6
              have HBa : Hid (Below w.heap.size w w6) := u6.below HB5.out HB5.out.size HGW.out (fun k hk => HL5.out.rs.base hk)
              have HAa : Hid (Ap (.slice sa nS sc) (.slice ta nT tc)) := HA.out
              have HSL : Hid (S.length ≤ i + 1) := Nat.le_trans HNS.out.2.2 (Nat.le_succ i)
              have HPa : Hid (RP 48 w6 0 (.slice none 0 0) []) := RP.nil _ _ _
              have HOa : Hid (Onc s9 S (T ++ ([] : List Pk).map Pk.n)) := by rw [List.map_nil, List.append_nil]; exact HO9.out
              clear cs l6 u6 y0 y1 y2 y3 y4 y5 y6 y7
              go_upto_region 17 with fail
              clear HL HS HT HA HO HO9 HL5 HS5 HT5 HG5 HU HLL m0 m1 n3 n4' n5 HB HB5
              obtain ⟨n4, hn4⟩ : ∃ n4 : Nat, n4 = 0 := ⟨_, rfl⟩
              obtain ⟨xa, hxa⟩ : ∃ xa : Option Addr, xa = none := ⟨_, rfl⟩
              obtain ⟨xc, hxc⟩ : ∃ xc : Nat, xc = 0 := ⟨_, rfl⟩
              have ev : (Value.slice none 0 0) = .slice xa n4 xc := by rw [hn4, hxa, hxc]
              rw [ev] at HPa ⊢
              obtain ⟨G, hG⟩ : ∃ G : List Pk, G = [] := ⟨_, rfl⟩
              rw [← hG] at HPa HOa
              obtain ⟨b0, hb0⟩ : ∃ b0 : Nat, b0 = 0 := ⟨_, rfl⟩
              have HN4 : Hid (n4 = G.length) := by unfold Hid; rw [hG, hn4]; rfl
              rw [← hb0] at HPa
              clear hn4 hxa hxc ev hG hb0
              have HBG : Hid (T.length + n4 ≤ 201) := by
                have e1 := HOa.out.len
                have e2 := HSL.out
                have e3 := HN4.out
                rw [List.length_append, List.length_map] at e1
                unfold Hid
                omega
              go_wp2_with fail
              go_loopw [5, 9] (fun u5 u9 wr => ∃ j : Nat, j ≤ n4 ∧ u9 = .int .i64 j ∧ LS wr w.heap.size g v6 s9 ∧ IQ wr w.heap.size (.slice sa nS sc) S ∧ IQ wr w.heap.size u5 (T ++ (G.take j).map Pk.n) ∧ Ap (.slice sa nS sc) u5 ∧ RP 48 wr b0 (.slice xa n4 xc) G ∧ Below w.heap.size w wr) (fun _ u9 _ => n4 - (intOf u9).toNat)
              case atStart => exact ⟨0, by omega, rfl, HLa.out, HSa.out, by rw [List.take_zero, List.map_nil, List.append_nil]; exact HTa.out, HAa.out, HPa.out, HBa.out⟩
              case round =>
                obtain ⟨j, hj, rfl, ls, is, it, ap, rp, bel⟩ := hrel
                obtain ⟨va, nv, vc, rfl, hnv⟩ := it.shape'
                have JL : Hid (LS wr w.heap.size g v6 s9) := ls
                have JS : Hid (IQ wr w.heap.size (.slice sa nS sc) S) := is
                have JT : Hid (IQ wr w.heap.size (.slice va nv vc) (T ++ (G.take j).map Pk.n)) := it
                have JA : Hid (Ap (.slice sa nS sc) (.slice va nv vc)) := ap
                have JP : Hid (RP 48 wr b0 (.slice xa n4 xc) G) := rp
                have JB : Hid (Below w.heap.size w wr) := bel
                have hn4b : n4 ≤ 201 := by have := HBG.out; omega
                clear HLa HSa HTa HAa HPa HBa ls is it ap rp bel
                by_cases hjn : j < n4
                · have lt3 : (j : Int) < (n4 : Int) := by omega
                  obtain ⟨b, off, rfl, k0, -, -, -⟩ := JP.out.is.at j (by rw [← HN4.out]; exact hjn)
                  have HTK : Hid (T ++ (G.take (j + 1)).map Pk.n = T ++ (G.take j).map Pk.n ++ [(atP G j).n]) := take_map T G j (by rw [← HN4.out]; exact hjn)
                  have HLJ : Hid ((T ++ (G.take j).map Pk.n).length ≤ 100000) := by
                    have := HBG.out
                    unfold Hid
                    rw [List.length_append, List.length_map, List.length_take]
                    omega
                  generalize (atP G j).n = y at *
                  generalize T ++ (G.take j).map Pk.n = TX at *
                  obtain ⟨W6, hW6⟩ : ∃ W6, W6 = wr.alloc (.cells #[.int .i64 y] 3) := ⟨_, rfl⟩
                  have b6 : Below wr.heap.size wr W6 := by rw [hW6]; exact al_b _ _
                  have HP6 : Hid (W6.rangeAt wr.heap.size 0 (ic y)) := by rw [hW6]; exact ic_new _ _
                  have HW6 : Hid (W6 = wr.alloc (.cells #[.int .i64 y] 3)) := hW6
                  have HB6 : Hid (Below w.heap.size w W6) := JB.out.trans (b6.mono JB.out.size)
                  have HL6 : Hid (LS W6 w.heap.size g v6 s9) := JL.out.below b6
                  have HS6 : Hid (IQ W6 w.heap.size (.slice sa nS sc) S) := JS.out.below b6
                  have HT6 : Hid (IQ W6 w.heap.size (.slice va nv vc) TX) := JT.out.below b6
                  have HR6 : Hid (RP 48 W6 b0 (.slice (some ⟨b, off, none⟩) n4 xc) G) := JP.out.below b6
                  clear b6 hnv
                  go_upto_region 20 with fail
                  go_wp2_with (at_builtin; rw [← hW6]; refine wpList_append_nr rfl _ _ rfl w.heap.size (.slice va nv vc) TX rfl HT6.out wr.heap.size y rfl HP6.out HLJ.out HB6.out.size (Hid.out ?_))
                  unfold Hid
                  intro v7 w7 r7 g7 o7
                  try rw [← HW6.out] at g7
                  have hz6 : wr.heap.size + 1 = W6.heap.size := by rw [HW6.out]; simp
                  try rw [hz6] at o7
                  clear HW6 hz6 hW6
                  have HB7 : Hid (Below w.heap.size w w7) := grown_below HB6.out HB6.out.size g7 (fun q hq => HT6.out.base hq)
                  have HA7 : Hid (Ap (.slice sa nS sc) v7) := JA.out.grownN HS6.out o7
                  have HS7 : Hid (IQ w7 w.heap.size (.slice sa nS sc) S) := HS6.out.grownX g7 (fun q hq => JA.out q hq)
                  have HL7 : Hid (LS w7 w.heap.size g v6 s9) := HL6.out.grownN HT6.out g7
                  have HR7 : Hid (RP 48 w7 b0 (.slice (some ⟨b, off, none⟩) n4 xc) G) := HR6.out.grownN (by decide) HT6.out g7
                  have R7 : Hid (IQ w7 w.heap.size v7 (TX ++ [y])) := r7
                  obtain ⟨va7, nv7, vc7, rfl, -⟩ := id r7.shape'
                  clear r7 g7 o7 k0
                  go_wp2
                  go_roundw
                  case rel => exact ⟨j + 1, by omega, by go_num, HL7.out, HS7.out, by rw [HTK.out]; exact R7.out, HA7.out, HR7.out, HB7.out⟩
                  case measure => simp [intOf]; omega
                · obtain rfl : j = n4 := by omega
                  have lt3 : ¬ (j : Int) < (j : Int) := by omega
                  have HTE : Hid ((G.take j).map Pk.n = G.map Pk.n) := by unfold Hid; rw [HN4.out, List.take_length]
                  clear hnv
                  go_wp2
                  go_roundw
                  case rel => exact ⟨i + 1, s9, v6, S, T ++ (G.take j).map Pk.n, by omega, by go_num, JL.out, JS.out, JT.out, JA.out, by rw [HTE.out]; exact HOa.out, HSL.out, JB.out⟩
                  case measure => simp [intOf]; omega
      · obtain rfl : i = n9 := by omega
        have lt2 : ¬ (i : Int) < (i : Int) := by omega
        have HN8 : Hid (∀ n8, n8 = s.o.length → IntKind.i64.wrap ((nS : Int) - (nT : Int)) = (n8 : Int)) := fun n8 e => by
          have e1 := HO.out.len
          have e2 := HNS.out
          rw [IntKind.wrap_i64]
          omega
        have HBS : Hid (nS ≤ 200 ∧ nT ≤ 200) := by
          have e1 := HO.out.len
          have e2 := HNS.out
          unfold Hid
          omega
        have HSA : Hid (∀ k, k < nS → ∀ W, Below wr.heap.size wr W → ∃ b off, sa = some ⟨b, off, none⟩ ∧ W.cell? ⟨b, off + k, none⟩ = some (.int .i64 (atI S k))) := fun k hk W hb => (HS.out.below hb).at k (by rw [← HNS.out.1]; exact hk)
        have HTA : Hid (∀ k, k < nT → ∀ W, Below wr.heap.size wr W → ∃ b off, ta = some ⟨b, off, none⟩ ∧ W.cell? ⟨b, off + k, none⟩ = some (.int .i64 (atI T k))) := fun k hk W hb => (HT.out.below hb).at k (by rw [← HNS.out.2.1]; exact hk)
        have HC1 : Hid (∀ j, j < nT → S.count (atI T j) = 1) := fun j hj => HO.out.one (by rw [atI_eq T j (by rw [← HNS.out.2.1]; exact hj)]; exact List.getElem_mem _)
        have HC2 : Hid (∀ j, j < nT → ∀ k, k < j → (atI T k == atI T j) = false) := fun j hj k hk => by
          have := nd_ne HO.out.tnd (i := j) (k := k) (by rw [← HNS.out.2.1]; exact hj) hk
          simpa using this
        have HCT : Hid (∀ k x, k < nS → (S.take (k + 1)).count x = (S.take k).count x + (if atI S k = x then 1 else 0)) := fun k x hk => count_take S k (by rw [← HNS.out.1]; exact hk) x
        have HCE : Hid (∀ x, (S.take nS).count x = S.count x) := fun x => by rw [HNS.out.1, List.take_length]
        have HCL : Hid (∀ k x, (S.take k).count x ≤ 200) := fun k x => by
          have e1 := List.count_le_length (a := x) (l := S.take k)
          have e2 := HBS.out.1
          rw [List.length_take, ← HNS.out.1] at e1
          omega
        clear HAT HQ HA hi hin
        generalize wr = w5 at *
        go_wp2_with fail
        go_loopw [10] (fun u wr => ∃ j : Nat, j ≤ nT ∧ u = .int .i64 j ∧ Below w5.heap.size w5 wr) (fun u _ => nT - (intOf u).toNat)
        case atStart => exact ⟨0, by omega, rfl, Below.refl _ _⟩
        case round =>
          obtain ⟨j, hj, rfl, bel⟩ := hrel
          have HB7 : Hid (Below w5.heap.size w5 wr) := bel
          clear bel
          by_cases hjn : j < nT
          · have lt3 : (j : Int) < (nT : Int) := by omega
            have hnt := HBS.out.2
            obtain ⟨x, hx⟩ : ∃ x, x = atI T j := ⟨_, rfl⟩
            have HX : Hid (x = atI T j) := hx
            have HX1 : Hid (S.count x = 1) := by rw [hx]; exact HC1.out j hjn
            clear hx
            go_wp2_with fail
            go_loopw [11, 12] (fun u11 u12 wr => ∃ k : Nat, k ≤ nS ∧ u11 = .int .i64 (((S.take k).count x : Nat) : Int) ∧ u12 = .int .i64 k ∧ Below w5.heap.size w5 wr) (fun _ u12 _ => nS - (intOf u12).toNat)
            case atStart => exact ⟨0, by omega, by simp, rfl, HB7.out⟩
            case round =>
              obtain ⟨k, hk, rfl, rfl, bel⟩ := hrel
              have HB8 : Hid (Below w5.heap.size w5 wr) := bel
              clear bel HB7
              by_cases hkn : k < nS
              · have lt4 : (k : Int) < (nS : Int) := by omega
                have hns := HBS.out.1
                obtain ⟨b, off, rfl, z0⟩ := HSA.out k hkn wr HB8.out
                obtain ⟨b', off', rfl, z1⟩ := HTA.out j hjn wr HB8.out
                have HCN := HCT.out k x hkn
                have hcl := HCL.out k x
                rw [← HX.out] at z1
                clear HSA HTA
                generalize atI S k = y at *
                generalize hcn : (S.take k).count x = cn at *
                have HCC : Hid ((S.take (k + 1)).count x = cn + (if y = x then 1 else 0)) := HCN
                clear HCN hcn
                by_cases e : y = x
                · have e2 : (y == x) = true := by simpa using e
                  have HCD : Hid ((S.take (k + 1)).count x = cn + 1) := by have := HCC.out; rwa [if_pos e] at this
                  clear e HCC
                  go_wp2_with fail
                  go_quiet (fail)
                  have BD : Hid (Below w5.heap.size w5 (wr.drewN nq)) := HB8.out.trans ((drw wr nq).mono HB8.out.size)
                  generalize wr.drewN nq = DW at *
                  go_wp2
                  go_roundw
                  case rel => exact ⟨k + 1, by omega, by rw [HCD.out]; go_num, by go_num, BD.out⟩
                  case measure => simp [intOf]; omega
                · have e2 : (y == x) = false := by simpa using e
                  have HCD : Hid ((S.take (k + 1)).count x = cn) := by have := HCC.out; rwa [if_neg e] at this
                  clear e HCC
                  go_wp2_with fail
                  go_quiet (fail)
                  have BD : Hid (Below w5.heap.size w5 (wr.drewN nq)) := HB8.out.trans ((drw wr nq).mono HB8.out.size)
                  generalize wr.drewN nq = DW at *
                  go_wp2
                  go_roundw
                  case rel => exact ⟨k + 1, by omega, by rw [HCD.out], by go_num, BD.out⟩
                  case measure => simp [intOf]; omega
              · obtain rfl : k = nS := by omega
                have lt4 : ¬ (k : Int) < (k : Int) := by omega
                have hc1 : (S.take k).count x = 1 := by rw [HCE.out, HX1.out]
                rw [hc1]
                clear hc1 HCT HCE HCL
                go_wp2_with fail
                go_loopw [13] (fun u13 wr => ∃ k2 : Nat, k2 ≤ j ∧ u13 = .int .i64 k2 ∧ Below w5.heap.size w5 wr) (fun u13 _ => j - (intOf u13).toNat)
                case atStart => exact ⟨0, by omega, rfl, HB8.out⟩
                case round =>
                  obtain ⟨k2, hk2, rfl, bel⟩ := hrel
                  have HB9 : Hid (Below w5.heap.size w5 wr) := bel
                  clear bel HB8
                  by_cases hkj : k2 < j
                  · have lt5 : (k2 : Int) < (j : Int) := by omega
                    have hkt : k2 < nT := by omega
                    obtain ⟨b, off, rfl, z0⟩ := HTA.out k2 hkt wr HB9.out
                    obtain ⟨b', off', e', z1⟩ := HTA.out j hjn wr HB9.out
                    cases e'
                    have e2 := HC2.out j hjn k2 hkj
                    rw [← HX.out] at z1 e2
                    have lt6 : (k2 : Int) < (nT : Int) := by omega
                    clear HSA HTA
                    generalize atI T k2 = y at *
                    go_wp2_with fail
                    go_quiet (fail)
                    have BD : Hid (Below w5.heap.size w5 (wr.drewN nq)) := HB9.out.trans ((drw wr nq).mono HB9.out.size)
                    generalize wr.drewN nq = DW at *
                    go_wp2
                    go_roundw
                    case rel => exact ⟨k2 + 1, by omega, by go_num, BD.out⟩
                    case measure => simp [intOf]; omega
                  · obtain rfl : k2 = j := by omega
                    have lt5 : ¬ (k2 : Int) < (k2 : Int) := by omega
                    go_wp2
                    go_roundw
                    case rel => exact ⟨k2 + 1, by omega, by go_num, HB9.out⟩
                    case measure => simp [intOf]; omega
          · obtain rfl : j = nT := by omega
            have lt3 : ¬ (j : Int) < (j : Int) := by omega
            have HL9 : Hid (LS wr w.heap.size g v s) := HL.out.below HB7.out
            have HBW : Hid (Below w.heap.size w wr) := HB.out.trans (HB7.out.mono HB.out.size)
            have cl := len_any wr w.heap.size g v s HL9.out
            have hw := HN8.out _ rfl
            clear HSA HTA HC1 HC2 HCT HCE HCL HN8 HL HS HT HO HNS
            generalize s.o.length = n8 at *
            have e8 : ((n8 : Int) == (n8 : Int)) = true := by simp
            go_wp2_with fail
            refine cl.mono ?_
            rintro e wq ⟨rfl, eq⟩
            rw [eq]
            clear cl eq wq
            have ca := CA.out wr
            go_wp2_with fail
            refine ca.mono ?_
            rintro e w9 ⟨rfl, b9⟩
            have HB9 : Hid (Below w.heap.size w w9) := HBW.out.trans (b9.mono HBW.out.size)
            clear ca b9
            go_wp2
            go_ret
            exact ⟨rfl, HB9.out⟩

theorem contract (H : Type) (enc : TypeId × Value → H) (W : World) (base : Nat) (args : Array Value) (ds gs : List (DataW H)) (before : List MemPlace)
    (hval : ∀ (j : Nat) t v, Try.f5.params[j]? = some t → args[j]? = some v → Value.okWide Try.prog W .any base t v)
    (hW : DataW.Whole enc Try.prog Try.f5.params.toList Rows.lossOnceSpec.vars false W args.toList ds gs before) (_hL : laidMetH Try.prog Rows.lossOnceRow.laid W)
    (hsz0 : (DataW.weightsEach Try.prog (Try.f5.params.toList ++ Rows.lossOnceSpec.plain.varTypes Try.prog) (ds ++ gs)).all (· ≤ reachBytes) = true) :
    Calls Try.prog 5 args W fun e W' => ∃ v, e = .returned v ∧ Rows.lossOnceSpec.post enc Try.prog Try.f5 false true false false W args v W' := by
  have hW' := hW
  obtain ⟨p, q, hA0, hV, rfl, hfz, hnd⟩ := hW
  have hA : DataW.TrodAll enc Try.prog W 0 (fun _ => true) true Try.f5.params.toList args.toList ds p := hA0
  rw [Try.params5] at hA hval hsz0
  obtain ⟨v0, vs0, d0, ds0, p0, q0, hargs, rfl, rfl, h0, r0⟩ := trodAll_cons hA
  obtain ⟨rfl, rfl, rfl⟩ := trodAll_nil r0
  obtain rfl : args = #[v0] := by cases args; simp_all
  obtain ⟨rfl, rfl⟩ := trodVars_none hV
  have k0 := h0
  have lt0 : ∀ x ∈ p0, x.block < W.heap.size := by obtain ⟨m, hm⟩ := k0; exact DataW.trod_lt m _ _ _ hm
  obtain ⟨L0, w0⟩ := aqs_in (hval 0 22 v0 rfl rfl) h0
  clear hA0
  refine (walk v0 L0 W w0).mono fun e W' ⟨he, bel⟩ => ?_
  subst he
  exact ⟨_, rfl, _, _, _, [], _, [], hW', trodAll_mk1 (shut_bool Try.underlying4 _), (trodAll_cons_mk (Below.trod laidOut (by kernel_rfl) (of_decide_eq_true (by kernel_rfl)) k0 bel lt0) trodAll_mk0), rfl, bel.frame _, fun h => by cases h⟩

theorem laid_met (os : Os) : laidMet Try.prog Rows.lossOnceRow.laid ((World.holding Try.prog os ⟨#[], #[], []⟩).forCall (fun _ _ => 0) ⟨#[], #[.slice none 0 0], []⟩).memory :=
  laidMet_of_run' 8 (by kernel_rfl) (by kernel_rfl)
theorem reads (os : Os) {H : Type} (enc : TypeId × Value → H) : ∃ places, DataW.whole enc Try.prog ((World.holding Try.prog os ⟨#[], #[], []⟩).forCall (fun _ _ => 0) ⟨#[], #[.slice none 0 0], []⟩).memory Try.f5.params.toList Rows.lossOnceSpec.vars false #[Value.slice none 0 0].toList 8 = some ([.nil], [], places) :=
  ⟨[], by kernel_rfl⟩

set_option maxRecDepth 100000 in
theorem lifted (os : Os) (started : os.Started) (H : Type) (enc : TypeId × Value → H) (F : Stop.Interp) :
    ReturnsInHanded {} Try.checked os 5 .any ((OpenSpec.ofChange Rows.lossOnceSpec).preRow enc Try.prog Try.f5 Rows.lossOnceRow.domain false Rows.lossOnceRow.laid) (((OpenSpec.ofChange Rows.lossOnceSpec).at F).post enc Try.prog Try.f5 false true false false) := by
  obtain ⟨places, hx⟩ := reads os enc
  refine returnsInHanded_of_row (C := Try.checked) (s := OpenSpec.ofChange Rows.lossOnceSpec) own started (by kernel_rfl) Try.func5
    (witness_row_at (enc := enc) (C := Try.checked) false (World.holding Try.prog os ⟨#[], #[], []⟩) #[.slice none 0 0] rfl (by kernel_rfl) (by kernel_rfl) (by kernel_rfl)
      (OpenSpec.preRow_of_cond 8 hx (by kernel_rfl) (fun k hk => by cases hk) (by kernel_rfl) (laid_met os))) ?_
  intro W base args ds gs before hval hW _ _ hsz hL _ _
  exact contract H enc W base args ds gs before hval hW hL hsz

theorem said : Rows.LossOnceSaid :=
  OpenClaim.holds_of_cond 5 Try.f5 rfl rfl rfl rfl rfl rfl rfl ⟨rfl, rfl, rfl, rfl, rfl⟩ rfl rfl rfl rfl rfl (by kernel_rfl) Try.func5 (by kernel_rfl)
    (of_decide_eq_true (by kernel_rfl)) (by unfold Func.isWrapper; first | (rw [if_pos (by decide +kernel)]; kernel_rfl) | (rw [if_neg (by decide +kernel)]; exact ⟨rfl, rfl⟩))
    (fun os started H enc _ F => by rw [OpenClaim.pre_eq_preRow]; exact lifted os started H enc F)

end Go.Proofs.Ytamjbmbflllbfaa.lossOnce

namespace Go.Proofs.Ytamjbmbflllbfaa
/-- LossOnce. -/
theorem lossOnce_holds : Rows.LossOnceSaid := lossOnce.said
#print axioms lossOnce_holds
end Go.Proofs.Ytamjbmbflllbfaa
