/-
  RangesOrder: in whatever order spans are put in the set is the same; each number of them is in it, and no other.
-/
import Derived.Test.YtaghmoddalbepaaDoorPkE
namespace Go.Proofs.YtaghmoddalbepaaDoor.rangesOrder
open Go.ChangeShapes Go.WideShapes Go.ChangeAt Go.RowKit Go.Deep Go.ChangeMaps
set_option maxRecDepth 100000

set_option maxHeartbeats 8000000 in
theorem walk (v0 : Value) (L : List (Int × Int)) (x1 : Int) (w : World) (hw : Fi.Wid w) (h0 : PQ w v0 L) (h1 : (Lit.int .u16 x1).wf = true) :
    Calls Tryd.prog 5 #[v0, .int .u16 x1] w fun e w' => e = .returned (.bool true) ∧ Below w.heap.size w w' := by
  obtain ⟨a0, c0, rfl⟩ := h0.shape
  have hb1 := bounds_u16 h1
  by_cases h60 : 60 < L.length
  · have t0 : (60 : Int) < (L.length : Int) := by omega
    have ca := awake_any w hw
    clear h0 hw
    generalize L.length = n at *
    go_enter Tryd.func5, Tryd.ntmps5
    go_wp2_with fail
    refine ca.mono ?_
    rintro e w1 ⟨rfl, b1⟩
    have HB1 : Hid (Below w.heap.size w w1) := b1
    clear ca b1
    go_wp2
    go_ret
    exact ⟨rfl, HB1.out⟩
  · have t0 : ¬ (60 : Int) < (L.length : Int) := by omega
    have cn1 := new_any w
    obtain ⟨w1, hw1⟩ : ∃ w1, w1 = w.alloc (.cells #[.slice none 0 0] 60) := ⟨_, rfl⟩
    have HB1 : Hid (Below w.heap.size w w1) := by unfold Hid; rw [hw1]; exact al_below _ _
    have HS1 : Hid (ST w1 w.heap.size w.heap.size (.slice none 0 0) []) := by unfold Hid; rw [hw1]; exact st_new w _
    have hz1 : w1.heap.size = w.heap.size + 1 := by rw [hw1]; simp
    rw [← hw1] at cn1
    clear hw1
    have cn2 := new_any w1
    obtain ⟨w2, hw2⟩ : ∃ w2, w2 = w1.alloc (.cells #[.slice none 0 0] 60) := ⟨_, rfl⟩
    have b2 : Below w1.heap.size w1 w2 := by rw [hw2]; exact al_below _ _
    have HB2 : Hid (Below w.heap.size w w2) := HB1.out.trans (b2.mono HB1.out.size)
    have HSA : Hid (ST w2 w.heap.size w.heap.size (.slice none 0 0) []) := HS1.out.below b2
    have HSB : Hid (ST w2 w.heap.size w1.heap.size (.slice none 0 0) []) := by unfold Hid; rw [hw2]; exact st_new w1 _
    have HNE : Hid (w.heap.size ≠ w1.heap.size ∧ w.heap.size ≤ w1.heap.size) := ⟨by omega, by omega⟩
    rw [← hw2] at cn2
    have HQ : Hid (PQ w (.slice a0 L.length c0) L) := h0
    have HW : Hid (Fi.Wid w) := hw
    have HA0 : Hid (adS (L.take 0) [] = [] ∧ adS (L.reverse.take 0) [] = [] ∧ inS x1 (L.take 0) = false) := ⟨rfl, rfl, rfl⟩
    have HLN : Hid (∀ j, (adS (L.take j) []).length ≤ 60 ∧ (adS (L.reverse.take j) []).length ≤ 60) := fun j => by
      have q1 := (adS_spec (L.take j) [] Canon.nil (fun x hx => h0.ok x (List.mem_of_mem_take hx))).2.1
      have q2 := (adS_spec (L.reverse.take j) [] Canon.nil (fun x hx => h0.ok x (List.mem_reverse.1 (List.mem_of_mem_take hx)))).2.1
      rw [List.length_take] at q1 q2
      rw [List.length_reverse] at q2
      simp only [List.length_nil] at q1 q2
      omega
    have HST : Hid (∀ j, j < L.length → adS (L.take (j + 1)) [] = ad1 (adS (L.take j) []) (atQ L j) ∧ adS (L.reverse.take (j + 1)) [] = ad1 (adS (L.reverse.take j) []) (atQ L (L.length - 1 - j)) ∧ inS x1 (L.take (j + 1)) = (inS x1 (L.take j) || (decide (pf (atQ L j) ≤ x1) && decide (x1 ≤ pt (atQ L j))))) := fun j hj => ⟨by rw [takeQ hj, adS_snoc], by rw [takeR hj, adS_snoc], by rw [takeQ hj, inS_snoc]⟩
    have HOK : Hid (∀ j, j < L.length → okP (atQ L j)) := fun j hj => h0.ok _ (by rw [atQ_eq L j hj]; exact List.getElem_mem hj)
    have HFA : Hid (adS (L.take L.length) [] = adS L []) := by unfold Hid; rw [List.take_length]
    have HFB : Hid (adS (L.reverse.take L.length) [] = adS L []) := by unfold Hid; rw [← List.length_reverse, List.take_length]; exact (adS_rev h0.ok).symm
    have HFI : Hid (inS x1 (L.take L.length) = decide (0 < cnt (clip (adS L []) x1 x1))) := by unfold Hid; rw [List.take_length, inS_has h0.ok]
    clear hw h0 b2 hw2 hz1 HS1 HB1 h1
    generalize hFA : (fun j => adS (L.take j) []) = FA at *
    have HFA' : Hid (∀ j, adS (L.take j) [] = FA j) := fun j => by rw [← hFA]
    generalize hFB : (fun j => adS (L.reverse.take j) []) = FB at *
    have HFB' : Hid (∀ j, adS (L.reverse.take j) [] = FB j) := fun j => by rw [← hFB]
    generalize hFI : (fun j => inS x1 (L.take j)) = FI at *
    have HFI' : Hid (∀ j, inS x1 (L.take j) = FI j) := fun j => by rw [← hFI]
    clear hFA hFB hFI
    simp only [HFA'.out, HFB'.out, HFI'.out] at HA0 HLN HST HFA HFB HFI
    clear HFA' HFB' HFI'
    generalize adS L [] = Z at *
    obtain ⟨n, hn⟩ : ∃ n, n = L.length := ⟨_, rfl⟩
    have HN : Hid (n = L.length) := hn
    rw [← hn] at t0 HQ HST HOK HFA HFB HFI h60 ⊢
    clear hn
    go_enter Tryd.func5, Tryd.ntmps5
    go_wp2_with fail
    refine cn1.mono ?_
    rintro e wq ⟨rfl, eq⟩
    rw [eq]
    clear cn1 eq wq
    go_wp2_with fail
    refine cn2.mono ?_
    rintro e wq ⟨rfl, eq⟩
    rw [eq]
    clear cn2 eq wq
    go_wp2
    go_loopw [7, 8] (fun s7 s8 wr => ∃ (j : Nat) (va vb : Value), j ≤ n ∧ s8 = .int .i64 j ∧ s7 = .bool (FI j) ∧ ST wr w.heap.size w.heap.size va (FA j) ∧ ST wr w.heap.size w1.heap.size vb (FB j) ∧ (∀ i, va.ownBlock = some i → vb.ownBlock ≠ some i) ∧ Below w.heap.size w wr) (fun _ s8 _ => n - (intOf s8).toNat)
    case atStart => exact ⟨0, _, _, by omega, rfl, by rw [HA0.out.2.2], by rw [HA0.out.1]; exact HSA.out, by rw [HA0.out.2.1]; exact HSB.out, (fun i e => by cases e), HB2.out⟩
    case round =>
      obtain ⟨j, va, vb, hj, rfl, rfl, sa, sb, hd, bel⟩ := hrel
      have HB : Hid (Below w.heap.size w wr) := bel
      have SA : Hid (ST wr w.heap.size w.heap.size va (FA j)) := sa
      have SB' : Hid (ST wr w.heap.size w1.heap.size vb (FB j)) := sb
      have HD : Hid (∀ i, va.ownBlock = some i → vb.ownBlock ≠ some i) := hd
      clear bel sa sb hd
      by_cases hjn : j < n
      · have lt2 : (j : Int) < (n : Int) := by omega
        obtain ⟨b, off, rfl, k1, k2⟩ := (HQ.out.kept HB.out).at j (by rw [← HN.out]; exact hjn)
        obtain ⟨r1, r2, r3⟩ := HST.out j hjn
        have hx := HOK.out j hjn
        obtain ⟨q, hq⟩ : ∃ q, q = n - 1 - j := ⟨_, rfl⟩
        have hqn : q < n := by omega
        have hy := HOK.out q hqn
        rw [← hq] at r2
        have hqi : (n : Int) - 1 - (j : Int) = (q : Int) := by omega
        have HR1 : Hid (FA (j + 1) = ad1 (FA j) (atQ L j)) := r1
        have HR2 : Hid (FB (j + 1) = ad1 (FB j) (atQ L q)) := r2
        have HR3 : Hid (FI (j + 1) = (FI j || (decide (pf (atQ L j) ≤ x1) && decide (x1 ≤ pt (atQ L j))))) := r3
        have HY : Hid (okP (atQ L q)) := hy
        have HQI : Hid ((n : Int) - 1 - (j : Int) = (q : Int)) := hqi
        have hbx := pf_bd hx
        have HPF : Hid (pf (atQ L j) = min (atQ L j).1 (atQ L j).2 % 2000 ∧ pt (atQ L j) = max (atQ L j).1 (atQ L j).2 % 2000) := ⟨rfl, rfl⟩
        clear r1 r2 r3 hy hq hqi
        generalize atQ L j = x at *
        unfold okP at hx
        have m1 : Int.tmod (min x.1 x.2) 2000 = min x.1 x.2 % 2000 := Int.tmod_eq_emod_of_nonneg (by omega)
        have m2 : Int.tmod (max x.1 x.2) 2000 = max x.1 x.2 % 2000 := Int.tmod_eq_emod_of_nonneg (by omega)
        have m3 : IntKind.u16.wrap (min x.1 x.2 % 2000) = min x.1 x.2 % 2000 := by simp [IntKind.wrap, IntKind.bits, IntKind.signed]; omega
        have m4 : IntKind.u16.wrap (max x.1 x.2 % 2000) = max x.1 x.2 % 2000 := by simp [IntKind.wrap, IntKind.bits, IntKind.signed]; omega
        have m5 : IntKind.i64.wrap (min x.1 x.2 % 2000) = min x.1 x.2 % 2000 := by rw [IntKind.wrap_i64]; omega
        have m6 : IntKind.i64.wrap (max x.1 x.2 % 2000) = max x.1 x.2 % 2000 := by rw [IntKind.wrap_i64]; omega
        go_wp2_with fail
        go_quiet (fail)
        have HPX : Hid (pf x = min x.1 x.2 % 2000 ∧ pt x = max x.1 x.2 % 2000) := HPF.out
        have BD : Hid (Below wr.heap.size wr (wr.drewN nq)) := drn wr nq
        have m7 : IntKind.i64.wrap x1 = x1 := by rw [IntKind.wrap_i64]; omega
        have hf0 : 0 ≤ min x.1 x.2 % 2000 ∧ min x.1 x.2 % 2000 < 2000 := by omega
        have ht0 : 0 ≤ max x.1 x.2 % 2000 ∧ max x.1 x.2 % 2000 < 2000 := by omega
        clear HPF m1 m2 m3 m4 m5 m6 k1 k2 hbx
        generalize min x.1 x.2 % 2000 = f at *
        generalize max x.1 x.2 % 2000 = t at *
        have SA1 : Hid (ST (wr.drewN nq) w.heap.size w.heap.size va (FA j)) := SA.out.below BD.out
        have SB1 : Hid (ST (wr.drewN nq) w.heap.size w1.heap.size vb (FB j)) := SB'.out.below BD.out
        have HBD : Hid (Below w.heap.size w (wr.drewN nq)) := HB.out.trans (BD.out.mono HB.out.size)
        clear BD SA SB' HB
        generalize wr.drewN nq = DW at *
        go_upto_if 52 with fail
        go_cut [7] from 22 to 107 (fun s7 wx => ∃ va', s7 = .bool (FI (j + 1)) ∧ ST wx w.heap.size w.heap.size va' (FA (j + 1)) ∧ ST wx w.heap.size w1.heap.size vb (FB j) ∧ (∀ i, va'.ownBlock = some i → vb.ownBlock ≠ some i) ∧ Below w.heap.size w wx)
        case first =>
          by_cases hft : f ≤ t
          · have d1 : decide (f ≤ t) = true := by simpa using hft
            have ca := add_any DW w.heap.size w.heap.size va (FA j) f t SA1.out (by have := (HLN.out j).1; omega) HBD.out.size
            have HE : Hid (adP (FA j) f t = FA (j + 1)) := by unfold Hid; rw [HR1.out]; unfold ad1; rw [HPX.out.1, HPX.out.2, if_pos hft]
            have HI : Hid (FI (j + 1) = (FI j || (decide (f ≤ x1) && decide (x1 ≤ t)))) := by unfold Hid; rw [HR3.out, HPX.out.1, HPX.out.2]
            rw [HE.out] at ca
            clear HR1 HR3 HPX HE
            generalize adB (FA j) f t = rb at *
            generalize FI j = fj at *
            go_wp2_with fail
            refine ca.mono ?_
            rintro e w5 ⟨rfl, v5, s5, u5⟩
            obtain ⟨sb5, d5⟩ := st_su SA1.out SB1.out HNE.out.1 HD.out u5
            have S5 : Hid (ST w5 w.heap.size w.heap.size v5 (FA (j + 1)) ∧ ST w5 w.heap.size w1.heap.size vb (FB j) ∧ (∀ i, v5.ownBlock = some i → vb.ownBlock ≠ some i)) := ⟨s5, sb5, d5⟩
            have B5 : Hid (Below w.heap.size w w5) := su_below u5 HBD.out HBD.out.size (Nat.le_refl _) (own_base SA1.out.rs.1)
            clear ca s5 u5 sb5 d5
            cases fj with
            | true =>
              go_wp2
              go_meet
              exact ⟨v5, by rw [HI.out]; rfl, S5.out.1, S5.out.2.1, S5.out.2.2, B5.out⟩
            | false =>
              by_cases h1 : f ≤ x1
              · have e1 : decide (f ≤ x1) = true := by simpa using h1
                by_cases h2 : x1 ≤ t
                · have e2 : decide (x1 ≤ t) = true := by simpa using h2
                  have HI2 : Hid (FI (j + 1) = true) := by unfold Hid; rw [HI.out, e1, e2]; rfl
                  clear HI
                  go_wp2
                  go_meet
                  exact ⟨v5, by rw [HI2.out], S5.out.1, S5.out.2.1, S5.out.2.2, B5.out⟩
                · have e2 : decide (x1 ≤ t) = false := by simpa using h2
                  have HI2 : Hid (FI (j + 1) = false) := by unfold Hid; rw [HI.out, e1, e2]; rfl
                  clear HI
                  go_wp2
                  go_meet
                  exact ⟨v5, by rw [HI2.out], S5.out.1, S5.out.2.1, S5.out.2.2, B5.out⟩
              · have e1 : decide (f ≤ x1) = false := by simpa using h1
                have HI2 : Hid (FI (j + 1) = false) := by unfold Hid; rw [HI.out, e1]; rfl
                clear HI
                go_wp2
                go_meet
                exact ⟨v5, by rw [HI2.out], S5.out.1, S5.out.2.1, S5.out.2.2, B5.out⟩
          · have d1 : decide (f ≤ t) = false := by simpa using hft
            have HE : Hid (FA j = FA (j + 1)) := by unfold Hid; rw [HR1.out]; unfold ad1; rw [HPX.out.1, HPX.out.2, if_neg hft]
            have HI : Hid (FI (j + 1) = FI j) := by
              unfold Hid
              rw [HR3.out, HPX.out.1, HPX.out.2]
              cases FI j with
              | true => rfl
              | false =>
                have : ¬ (f ≤ x1 ∧ x1 ≤ t) := fun e => by omega
                simp only [Bool.false_or]
                rw [Bool.and_eq_false_iff, decide_eq_false_iff_not, decide_eq_false_iff_not]
                omega
            clear HR1 HR3 HPX
            go_wp2
            go_meet
            exact ⟨va, by rw [HI.out], by rw [← HE.out]; exact SA1.out, SB1.out, HD.out, HBD.out⟩
        case rest =>
          obtain ⟨va', rfl, sa', sb', hd', bel'⟩ := hcut
          have SA2 : Hid (ST wc w.heap.size w.heap.size va' (FA (j + 1))) := sa'
          have SB2 : Hid (ST wc w.heap.size w1.heap.size vb (FB j)) := sb'
          have HD2 : Hid (∀ i, va'.ownBlock = some i → vb.ownBlock ≠ some i) := hd'
          have HB2' : Hid (Below w.heap.size w wc) := bel'
          clear sa' sb' hd' bel' SA1 SB1 HD HBD HR1 HR3 HPX hf0 ht0 hx
          obtain ⟨b', off', e', k3, k4⟩ := (HQ.out.kept HB2'.out).at q (by rw [← HN.out]; exact hqn)
          cases e'
          have HYY := HY.out
          have HPF : Hid (pf (atQ L q) = min (atQ L q).1 (atQ L q).2 % 2000 ∧ pt (atQ L q) = max (atQ L q).1 (atQ L q).2 % 2000) := ⟨rfl, rfl⟩
          generalize atQ L q = y at *
          unfold okP at HYY
          have m1 : Int.tmod (min y.1 y.2) 2000 = min y.1 y.2 % 2000 := Int.tmod_eq_emod_of_nonneg (by omega)
          have m2 : Int.tmod (max y.1 y.2) 2000 = max y.1 y.2 % 2000 := Int.tmod_eq_emod_of_nonneg (by omega)
          have m3 : IntKind.u16.wrap (min y.1 y.2 % 2000) = min y.1 y.2 % 2000 := by simp [IntKind.wrap, IntKind.bits, IntKind.signed]; omega
          have m4 : IntKind.u16.wrap (max y.1 y.2 % 2000) = max y.1 y.2 % 2000 := by simp [IntKind.wrap, IntKind.bits, IntKind.signed]; omega
          have m5 : IntKind.i64.wrap (min y.1 y.2 % 2000) = min y.1 y.2 % 2000 := by rw [IntKind.wrap_i64]; omega
          have m6 : IntKind.i64.wrap (max y.1 y.2 % 2000) = max y.1 y.2 % 2000 := by rw [IntKind.wrap_i64]; omega
          have m8 : IntKind.i64.wrap ((n : Int) - 1) = (n : Int) - 1 := by rw [IntKind.wrap_i64]; omega
          have m9 : IntKind.i64.wrap ((n : Int) - 1 - (j : Int)) = (q : Int) := by rw [HQI.out, IntKind.wrap_i64]; omega
          have lt3 : (q : Int) < (n : Int) := by omega
          go_wp2_with fail
          go_quiet (fail)
          have HPX2 : Hid (pf y = min y.1 y.2 % 2000 ∧ pt y = max y.1 y.2 % 2000) := HPF.out
          have BD2 : Hid (Below wc.heap.size wc (wc.drewN nq)) := drn wc nq
          have hf0 : 0 ≤ min y.1 y.2 % 2000 ∧ min y.1 y.2 % 2000 < 2000 := by omega
          have ht0 : 0 ≤ max y.1 y.2 % 2000 ∧ max y.1 y.2 % 2000 < 2000 := by omega
          clear HPF m1 m2 m3 m4 m5 m6 m8 m9 k3 k4
          generalize min y.1 y.2 % 2000 = f2 at *
          generalize max y.1 y.2 % 2000 = t2 at *
          have SA3 : Hid (ST (wc.drewN nq) w.heap.size w.heap.size va' (FA (j + 1))) := SA2.out.below BD2.out
          have SB3 : Hid (ST (wc.drewN nq) w.heap.size w1.heap.size vb (FB j)) := SB2.out.below BD2.out
          have HBD2 : Hid (Below w.heap.size w (wc.drewN nq)) := HB2'.out.trans (BD2.out.mono HB2'.out.size)
          clear BD2 SA2 SB2 HB2'
          generalize wc.drewN nq = DX at *
          by_cases hft : f2 ≤ t2
          · have d1 : decide (f2 ≤ t2) = true := by simpa using hft
            have ca := add_any DX w.heap.size w1.heap.size vb (FB j) f2 t2 SB3.out (by have := (HLN.out j).2; omega) HBD2.out.size
            have HE : Hid (adP (FB j) f2 t2 = FB (j + 1)) := by unfold Hid; rw [HR2.out]; unfold ad1; rw [HPX2.out.1, HPX2.out.2, if_pos hft]
            rw [HE.out] at ca
            clear HR2 HPX2 HE
            generalize adB (FB j) f2 t2 = rb at *
            go_wp2_with fail
            refine ca.mono ?_
            rintro e w5 ⟨rfl, v5, s5, u5⟩
            obtain ⟨sa5, d5⟩ := st_su SB3.out SA3.out HNE.out.1.symm (fun i h1 h2 => HD2.out i h2 h1) u5
            have S5 : Hid (ST w5 w.heap.size w1.heap.size v5 (FB (j + 1)) ∧ ST w5 w.heap.size w.heap.size va' (FA (j + 1)) ∧ (∀ i, va'.ownBlock = some i → v5.ownBlock ≠ some i)) := ⟨s5, sa5, fun i h1 h2 => d5 i h2 h1⟩
            have B5 : Hid (Below w.heap.size w w5) := su_below u5 HBD2.out HBD2.out.size HNE.out.2 (own_base SB3.out.rs.1)
            clear ca s5 u5 sa5 d5
            go_wp2
            go_roundw
            case rel => exact ⟨j + 1, va', v5, by omega, by go_num, rfl, S5.out.2.1, S5.out.1, S5.out.2.2, B5.out⟩
            case measure => simp [intOf]; omega
          · have d1 : decide (f2 ≤ t2) = false := by simpa using hft
            have HE : Hid (FB j = FB (j + 1)) := by unfold Hid; rw [HR2.out]; unfold ad1; rw [HPX2.out.1, HPX2.out.2, if_neg hft]
            clear HR2 HPX2
            go_wp2
            go_roundw
            case rel => exact ⟨j + 1, va', vb, by omega, by go_num, rfl, SA3.out, by rw [← HE.out]; exact SB3.out, HD2.out, HBD2.out⟩
            case measure => simp [intOf]; omega
      · obtain rfl : j = n := by omega
        have lt2 : ¬ (j : Int) < (j : Int) := by omega
        have SA1 : Hid (ST wr w.heap.size w.heap.size va Z) := by unfold Hid; rw [← HFA.out]; exact SA.out
        have SB1 : Hid (ST wr w.heap.size w1.heap.size vb Z) := by unfold Hid; rw [← HFB.out]; exact SB'.out
        have HIN : Hid (FI j = decide (0 < cnt (clip Z x1 x1))) := HFI.out
        have m7 : IntKind.i64.wrap x1 = x1 := by rw [IntKind.wrap_i64]; omega
        have hzl : Z.length ≤ 1000 := SA1.out.ln
        have cs1 := spans_any wr _ Z SA1.out.sqA
        clear SA SB' HSA HSB HFA HFB HFI HST HLN HA0 HOK HQ
        have ch := fun W (hb : Below wr.heap.size wr W) => has_any W (some ⟨w.heap.size, 0, none⟩) x1 (clip Z x1 x1) ((SA1.out.below hb).sq (Int.le_refl _))
        have HCH : Hid (∀ W, Below wr.heap.size wr W → Calls Tryd.prog 16 #[.pointer (some ⟨w.heap.size, 0, none⟩), .int .i64 x1] W fun e w' => e = .returned (.bool (decide (0 < cnt (clip Z x1 x1)))) ∧ Below W.heap.size W w') := ch
        have HCW : Hid (∀ W, Below wr.heap.size wr W → Calls Tryd.prog 8 #[] W fun e w' => e = .returned (.bool true) ∧ Below W.heap.size W w') := fun W hb => awake_any W ((HW.out.below HB.out HW.out.pos).below hb (Nat.lt_of_lt_of_le HW.out.pos HB.out.size))
        clear ch
        rw [← HIN.out] at HCH
        clear HIN
        generalize FI j = fi at *
        go_wp2_with fail
        refine cs1.mono ?_
        rintro e w5 ⟨v5, rfl, r5, b5⟩
        obtain ⟨a5, c5, rfl, -, -, -⟩ := r5.is.shape
        have HR5 : Hid (RSp w5 wr.heap.size (.slice a5 Z.length c5) Z) := r5
        have HB5 : Hid (Below wr.heap.size wr w5) := b5
        have cs2 := spans_any w5 _ Z (SB1.out.below b5).sqA
        clear cs1 r5 b5
        go_wp2_with fail
        refine cs2.mono ?_
        rintro e w6 ⟨v6, rfl, r6, b6⟩
        obtain ⟨a6, c6, rfl, -, -, -⟩ := r6.is.shape
        have HB6 : Hid (Below wr.heap.size wr w6) := HB5.out.trans (b6.mono HB5.out.size)
        have cm := rsame_any w6 _ _ Z Z (HR5.out.below b6).is r6.is (by omega)
        rw [decide_eq_true rfl] at cm
        clear cs2 r6 b6 HR5
        generalize Z.length = zn at *
        go_wp2_with fail
        refine cm.mono ?_
        rintro e w7 ⟨rfl, b7⟩
        have HB7 : Hid (Below wr.heap.size wr w7) := HB6.out.trans (b7.mono HB6.out.size)
        have ch := HCH.out w7 HB7.out
        clear cm b7
        go_wp2_with fail
        refine ch.mono ?_
        rintro e w8 ⟨rfl, b8⟩
        have HB8 : Hid (Below wr.heap.size wr w8) := HB7.out.trans (b8.mono HB7.out.size)
        have cw := HCW.out w8 HB8.out
        have HBF : Hid (∀ W, Below w8.heap.size w8 W → Below w.heap.size w W) := fun W hb => HB.out.trans ((HB8.out.trans (hb.mono HB8.out.size)).mono HB.out.size)
        clear ch b8 HCH HCW
        cases fi with
        | true =>
          go_wp2_with fail
          refine cw.mono ?_
          rintro e w9 ⟨rfl, b9⟩
          have HB9 : Hid (Below w.heap.size w w9) := HBF.out _ b9
          clear cw b9
          go_wp2
          go_ret
          exact ⟨rfl, HB9.out⟩
        | false =>
          go_wp2_with fail
          refine cw.mono ?_
          rintro e w9 ⟨rfl, b9⟩
          have HB9 : Hid (Below w.heap.size w w9) := HBF.out _ b9
          clear cw b9
          go_wp2
          go_ret
          exact ⟨rfl, HB9.out⟩

theorem contract (H : Type) (enc : TypeId × Value → H) (W : World) (base : Nat) (args : Array Value) (ds gs : List (DataW H)) (before : List MemPlace)
    (hval : ∀ (j : Nat) t v, Tryd.f5.params[j]? = some t → args[j]? = some v → Value.okWide Tryd.prog W .any base t v)
    (hW : DataW.Whole enc Tryd.prog Tryd.f5.params.toList Rows.rangesOrderSpec.vars false W args.toList ds gs before) (hL : laidMetH Tryd.prog Rows.rangesOrderRow.laid W)
    (hsz0 : (DataW.weightsEach Tryd.prog (Tryd.f5.params.toList ++ Rows.rangesOrderSpec.plain.varTypes Tryd.prog) (ds ++ gs)).all (· ≤ reachBytes) = true) :
    Calls Tryd.prog 5 args W fun e W' => ∃ v, e = .returned v ∧ Rows.rangesOrderSpec.post enc Tryd.prog Tryd.f5 false true false false W args v W' := by
  have hW' := hW
  obtain ⟨p, q, hA0, hV, rfl, hfz, hnd⟩ := hW
  have hA : DataW.TrodAll enc Tryd.prog W 0 (fun _ => true) true Tryd.f5.params.toList args.toList ds p := hA0
  rw [Tryd.params5] at hA hval hsz0
  obtain ⟨v0, vs0, d0, ds0, p0, q0, hargs, rfl, rfl, h0, r0⟩ := trodAll_cons hA
  obtain ⟨v1, vs1, d1, ds1, p1, q1, rfl, rfl, rfl, h1, r1⟩ := trodAll_cons r0
  obtain ⟨rfl, rfl, rfl⟩ := trodAll_nil r1
  obtain rfl : args = #[v0, v1] := by cases args; simp_all
  obtain ⟨rfl, rfl⟩ := trodVars_none hV
  have k0 := h0
  have lt0 : ∀ x ∈ p0, x.block < W.heap.size := by obtain ⟨m, hm⟩ := k0; exact DataW.trod_lt m _ _ _ hm
  obtain ⟨L0, w0⟩ := prs_in (hval 0 45 v0 rfl rfl) h0
  obtain ⟨a1, rfl, rfl, rfl, w1⟩ := open_int Tryd.underlying46 (hval 1 46 v1 rfl rfl) h1
  clear hA0
  refine (walk v0 L0 a1 W (wi_of hL) w0 w1).mono fun e W' ⟨he, bel⟩ => ?_
  subst he
  exact ⟨_, rfl, _, _, _, [], _, [], hW', trodAll_mk1 (shut_bool Tryd.underlying4 _), (trodAll_cons_mk (Below.trod laidOut (by kernel_rfl) (of_decide_eq_true (by kernel_rfl)) k0 bel lt0) (trodAll_cons_mk (shut_int Tryd.underlying46 w1) trodAll_mk0)), rfl, bel.frame _, fun h => by cases h⟩

theorem laid_met (os : Os) : laidMet Tryd.prog Rows.rangesOrderRow.laid (({ World.holding Tryd.prog os ⟨#[], #[], []⟩ with heap := ((World.holding Tryd.prog os ⟨#[], #[], []⟩).heap.modify 0 (fun
      | .cells _ t frozen => .cells widT t frozen
      | o => o)) } : World).forCall (fun _ _ => 0) ⟨#[], #[.slice none 0 0, .int .u16 0], []⟩).memory :=
  laidMet_of_run' 8 (by kernel_rfl) (by kernel_rfl)
theorem reads (os : Os) {H : Type} (enc : TypeId × Value → H) : ∃ places, DataW.whole enc Tryd.prog (({ World.holding Tryd.prog os ⟨#[], #[], []⟩ with heap := ((World.holding Tryd.prog os ⟨#[], #[], []⟩).heap.modify 0 (fun
      | .cells _ t frozen => .cells widT t frozen
      | o => o)) } : World).forCall (fun _ _ => 0) ⟨#[], #[.slice none 0 0, .int .u16 0], []⟩).memory Tryd.f5.params.toList Rows.rangesOrderSpec.vars false #[Value.slice none 0 0, .int .u16 0].toList 8 = some ([.nil, .lit (.int .u16 0)], [], places) :=
  ⟨[], by kernel_rfl⟩

set_option maxRecDepth 100000 in
theorem lifted (os : Os) (started : os.Started) (H : Type) (enc : TypeId × Value → H) (F : Stop.Interp) :
    ReturnsInHanded {} Tryd.checked os 5 .any ((OpenSpec.ofChange Rows.rangesOrderSpec).preRow enc Tryd.prog Tryd.f5 Rows.rangesOrderRow.domain false Rows.rangesOrderRow.laid) (((OpenSpec.ofChange Rows.rangesOrderSpec).at F).post enc Tryd.prog Tryd.f5 false true false false) := by
  obtain ⟨places, hx⟩ := reads os enc
  refine returnsInHanded_of_row (C := Tryd.checked) (s := OpenSpec.ofChange Rows.rangesOrderSpec) own started (by kernel_rfl) Tryd.func5
    (witness_row_at (enc := enc) (C := Tryd.checked) false ({ World.holding Tryd.prog os ⟨#[], #[], []⟩ with heap := ((World.holding Tryd.prog os ⟨#[], #[], []⟩).heap.modify 0 (fun
      | .cells _ t frozen => .cells widT t frozen
      | o => o)) } : World) #[.slice none 0 0, .int .u16 0] rfl (by kernel_rfl) (by kernel_rfl) (by kernel_rfl)
      (OpenSpec.preRow_of_cond 8 hx (by kernel_rfl) (fun k hk => by cases hk) (by kernel_rfl) (laid_met os))) ?_
  intro W base args ds gs before hval hW _ _ hsz hL _ _
  exact contract H enc W base args ds gs before hval hW hL hsz

theorem said : Rows.RangesOrderSaid :=
  OpenClaim.holds_of_cond 5 Tryd.f5 rfl rfl rfl rfl rfl rfl rfl ⟨rfl, rfl, rfl, rfl, rfl⟩ rfl rfl rfl rfl rfl (by kernel_rfl) Tryd.func5 (by kernel_rfl)
    (of_decide_eq_true (by kernel_rfl)) (by unfold Func.isWrapper; first | (rw [if_pos (by decide +kernel)]; kernel_rfl) | (rw [if_neg (by decide +kernel)]; exact ⟨rfl, rfl⟩))
    (fun os started H enc _ F => by rw [OpenClaim.pre_eq_preRow]; exact lifted os started H enc F)

theorem plain (f : FuncId) (fn : Func) (hf : Tryd.pinned.checked.prog.funcNamed "sumpter/sumpterlaw17.RangesOrder" = some f) (hfn : Tryd.pinned.checked.prog.funcs[f]? = some fn) :
    false = Tryd.pinned.checked.prog.looks [] ∧ ∀ (j : Nat) t, fn.params[j]? = some t → Tryd.pinned.checked.prog.wantsStandIn t = false := by
  obtain rfl : f = 5 := Option.some.inj ((show Tryd.prog.funcNamed "sumpter/sumpterlaw17.RangesOrder" = some 5 by kernel_rfl).symm.trans hf) |>.symm
  obtain rfl : fn = Tryd.f5 := (Option.some.inj (Tryd.func5.symm.trans hfn)).symm
  refine ⟨by kernel_rfl, fun j t ht => ?_⟩
  rw [Tryd.params5] at ht
  have hm : t ∈ [45, 46] := by simpa using Array.mem_of_getElem? ht
  have hall : ([45, 46].all fun u => !Tryd.prog.wantsStandIn u) = true := by kernel_rfl
  exact (show Tryd.prog.wantsStandIn t = false by simpa using List.all_eq_true.1 hall t hm)
end Go.Proofs.YtaghmoddalbepaaDoor.rangesOrder

namespace Go.Proofs.YtaghmoddalbepaaDoor
/-- The card of RangesOrder. -/
theorem rangesOrder_card : Rows.RangesOrderCardSaid :=
  Claim7.holds_tied_plain_at .later [] _ _ _ _ rangesOrder.said (fun _ h => by cases h) (by kernel_rfl) (fun _ h => by cases h) rangesOrder_row_tie rfl ⟨rfl, rfl⟩ (by kernel_rfl) rfl rangesOrder.plain (by kernel_rfl)
#print axioms rangesOrder_card
end Go.Proofs.YtaghmoddalbepaaDoor
