/-
  What From answers.
-/
import Derived.Test.YtfccjeepmhgckaaDoorDh
import Derived.Deep.LoopGhost
namespace Go.Proofs.YtfccjeepmhgckaaDoor
open Go.RowKit
set_option maxRecDepth 100000

theorem firX_len (left : Int) (m : List Xp) : (firX (left, m)).length = m.length := by cases m <;> rfl
theorem firX_step (left : Nat) (m : List Xp) (i : Nat) (h : i < m.length) : (firX ((left : Int), m)).take (i + 1) = (firX ((left : Int), m)).take i ++ [wouX (atX m i) (if i = 0 then left else 0 : Nat)] := by
  rw [takeX_at _ i (by rw [firX_len]; exact h)]
  congr 2
  cases m with
  | nil => simp at h
  | cons x r =>
    cases i with
    | zero => rfl
    | succ i =>
      have e : atX (firX ((left : Int), x :: r)) (i + 1) = atX (x :: r) (i + 1) := rfl
      rw [e, if_neg (by omega)]
      exact (wouX_zero _).symm
theorem skip_go {n : Int} {l : List Xp} {left : Int} {j : Nat} (h : skipX n l = skipX left (l.drop j)) (hj : j < l.length) (hm : mkX (atX l j) ≤ left) : skipX n l = skipX (left - mkX (atX l j)) (l.drop (j + 1)) := by
  rw [h, List.drop_eq_getElem_cons hj, atX_eq l j hj]
  rw [atX_eq l j hj] at hm
  show (if mkX l[j] ≤ left then _ else _) = _
  rw [if_pos hm]
theorem skip_stop {l : List Xp} {left : Int} {j : Nat} (hj : j < l.length) (hm : ¬ mkX (atX l j) ≤ left) : skipX left (l.drop j) = (left, l.drop j) := by
  rw [List.drop_eq_getElem_cons hj]
  rw [atX_eq l j hj] at hm
  show (if mkX l[j] ≤ left then _ else _) = _
  rw [if_neg hm]
theorem atX_drop (l : List Xp) (j i : Nat) : atX (l.drop j) i = atX l (j + i) := by simp [atX, List.getD, List.getElem?_drop]
theorem atX_drop0 (l : List Xp) (j : Nat) : atX (l.drop j) 0 = atX l j := atX_drop l j 0
theorem XS.tail {w : World} {b off n c : Nat} {l : List Xp} (h : XS w (.slice (some ⟨b, off, none⟩) n c) l) (h0 : 0 < l.length) : XS w (if c = 1 then .slice (some ⟨b, off, none⟩) 0 0 else .slice (some ⟨b, off + 4, none⟩) (n - 1) (c - 1)) (l.drop 1) := by
  obtain ⟨U, a', c', e, h1, h2, h3, h4⟩ := h
  cases e
  by_cases hc : c = 1
  · rw [if_pos hc]
    have : l.drop 1 = [] := List.drop_of_length_le (by omega)
    rw [this]
    exact ⟨U, _, 0, rfl, Nat.le_refl _, by unfold maxLen; omega, (fun e => by cases e), .inl rfl⟩
  · rw [if_neg hc]
    refine ⟨fun i => U (i + 1), some ⟨b, off + 4, none⟩, c - 1, by rw [List.length_drop], by rw [List.length_drop]; omega, by omega, (fun e => by cases e), ?_⟩
    rcases h4 with h4 | ⟨b', off', e, h5⟩
    · subst h4; simp at h0
    · cases e
      refine .inr ⟨b, off + 4, rfl, fun i hi => ?_⟩
      rw [List.length_drop] at hi
      obtain ⟨q0, q1, q2, q3, q4⟩ := h5 (i + 1) (by omega)
      have e : atX (l.drop 1) i = atX l (i + 1) := by rw [atX_drop, Nat.add_comm]
      rw [e]
      refine ⟨?_, ?_, ?_, ?_, q4⟩
      · rw [← q0]; congr 2; omega
      · rw [← q1]; congr 2; omega
      · rw [← q2]; congr 2; omega
      · rw [← q3]; congr 2; omega
/-- The list at a place on the way. -/
theorem XS.len {w : World} {a : Option Addr} {n c : Nat} {l : List Xp} (h : XS w (.slice a n c) l) : l.length = n ∧ n ≤ c ∧ c ≤ maxLen ∧ (a = none → c = 0) := by
  obtain ⟨a', c', e, h1, h2, h3⟩ := h.shape
  cases e
  exact ⟨rfl, h1, h2, h3⟩
set_option maxHeartbeats 8000000 in
theorem from_any (v : Value) (l : List Xp) (n : Int) (w : World) (h : XS w v l) (hl : l.length ≤ 90000) (hn : n ≤ 1099511627776) (hx : ∀ x ∈ l, 0 ≤ x.a ∧ x.a ≤ 1099511627776 ∧ 0 ≤ x.n ∧ x.n ≤ 9223372036854775807 ∧ x.d.length ≤ 1000000000) :
    Calls Tryd.prog 16 #[v, .int .i64 n] w fun e w' => ∃ v', e = .returned v' ∧ OX w' w.heap.size v' (froX l n) ∧ Below w.heap.size w w' := by
  obtain ⟨a, c, rfl, h2, h3, h4⟩ := h.shape
  have HXL : Hid (∀ j, j < l.length → 0 ≤ (atX l j).a ∧ (atX l j).a ≤ 1099511627776 ∧ 0 ≤ (atX l j).n ∧ (atX l j).n ≤ 9223372036854775807 ∧ (atX l j).d.length ≤ 1000000000) := fun j hj => hx _ (atX_mem l j hj)
  by_cases hn0 : 0 < n
  · have HST : Hid (∀ W, Below w.heap.size w W → XS W (.slice a l.length c) (l.drop 0)) := fun W hb => h.kept hb
    have HRN : Hid (froX l n = firX (skipX n l)) := froX_gt hn0
    have hmx : max n 0 = n := by omega
    obtain ⟨nn, hnn⟩ : ∃ nn : Nat, n = nn := ⟨n.toNat, by omega⟩
    subst hnn
    obtain ⟨L, hL⟩ : ∃ L, L = l.length := ⟨_, rfl⟩
    have HL : Hid (L = l.length) := hL
    rw [← hL] at hl h2 HXL HST ⊢
    clear h hx hL
    generalize froX l (nn : Int) = R at *
    go_enter Tryd.func16, Tryd.ntmps16
    go_wp2_with fail
    go_loopg [0, 5] (L + 1) (fun k s q wr => ∃ (j left : Nat) (a' : Option Addr) (c' : Nat), j + k = L + 1 ∧ j ≤ L ∧ s = .slice a' (L - j) c' ∧ q = .int .i64 left ∧ left ≤ nn ∧ Hid (skipX nn l = skipX left (l.drop j)) ∧ Hid (∀ W, Below w.heap.size w W → XS W (.slice a' (L - j) c') (l.drop j)) ∧ Below w.heap.size w wr)
    case atStart => exact ⟨0, nn, a, c, by omega, by omega, rfl, rfl, Nat.le_refl _, rfl, HST.out, Below.refl _ _⟩
    case round =>
      clear HST h2 h3 h4
      obtain ⟨j, left, a', c', hjk, hj, rfl, rfl, hle, hsk, hxm, bel⟩ := hrel
      have HB : Hid (Below w.heap.size w wr) := bel
      have HSK : Hid (skipX nn l = skipX left (l.drop j)) := hsk
      have HXM : Hid (∀ W, Below w.heap.size w W → XS W (.slice a' (L - j) c') (l.drop j)) := hxm
      clear bel hsk hxm
      by_cases hlt : j < L
      · obtain ⟨b, off, ua, un, uc, rfl, c0, c1, c2, c3, hun, sd⟩ := (HXM.out wr HB.out).at 0 (by rw [List.length_drop, ← HL.out]; omega)
        simp only [Nat.zero_mul, Nat.add_zero] at c0 c1 c2 c3
        rw [atX_drop0] at c0 c1 c2 hun
        have hgo := HXM.out
        obtain ⟨-, q1, q2, -⟩ := (HXM.out w (Below.refl _ _)).len
        have hlen0 : (0 : Int) < ((L - j : Nat) : Int) := by omega
        have CM : Hid (∀ W, Calls Tryd.prog 25 #[xval (atX l j) ua un uc] W fun e w' => e = .returned (.int .i64 (mkX (atX l j))) ∧ Below W.heap.size W w') := fun W => makes_any _ ua un uc W hun
        have hsl : ∀ W, Below w.heap.size w W → XS W (if c' = 1 then .slice (some ⟨b, off, none⟩) 0 0 else .slice (some ⟨b, off + 4, none⟩) (L - j - 1) (c' - 1)) ((l.drop j).drop 1) := fun W hb => (HXM.out W hb).tail (by rw [List.length_drop, ← HL.out]; omega)
        rw [List.drop_drop] at hsl
        have HSL : Hid (∀ W, Below w.heap.size w W → XS W (if c' = 1 then .slice (some ⟨b, off, none⟩) 0 0 else .slice (some ⟨b, off + 4, none⟩) (L - j - 1) (c' - 1)) (l.drop (j + 1))) := hsl
        have hmp := mkX_pos (atX l j)
        have HGO : Hid (mkX (atX l j) ≤ left → skipX nn l = skipX (left - mkX (atX l j)) (l.drop (j + 1))) := fun e => skip_go HSK.out (by rw [← HL.out]; exact hlt) e
        have HSTP : Hid (¬ mkX (atX l j) ≤ left → skipX left (l.drop j) = ((left : Int), l.drop j)) := fun e => skip_stop (by rw [← HL.out]; exact hlt) e
        have HF0 : Hid (¬ mkX (atX l j) ≤ left → (atX l j).c = false → left ≤ (atX l j).d.length) := fun e hc => by rw [mkX_data hc] at e; omega
        have HXJ := HXL.out j hlt
        clear hgo hsl sd hun
        obtain ⟨x, hxj⟩ : ∃ x, x = atX l j := ⟨_, rfl⟩
        rw [← hxj] at c0 c1 c2 CM HGO HSTP HF0 hmp HXJ
        have HXE : Hid (x = atX l j) := hxj
        clear hxj
        obtain ⟨k, hk⟩ : ∃ k : Nat, mkX x = k := ⟨(mkX x).toNat, by omega⟩
        rw [hk] at CM HGO HSTP HF0
        clear hk hmp
        have c := CM.out wr
        go_wp2_with fail
        refine c.mono ?_
        rintro e w1 ⟨rfl, b1⟩
        clear c
        have B1 : Hid (Below w.heap.size w w1) := HB.out.trans (b1.mono HB.out.size)
        by_cases hkl : (k : Int) ≤ (left : Int)
        · obtain ⟨b', off', ua', un', uc', hee, d0, d1, d2, d3, hun', -⟩ := (HXM.out w1 B1.out).at 0 (by rw [List.length_drop, ← HL.out]; omega)
          cases hee
          simp only [Nat.zero_mul, Nat.add_zero] at d0 d1 d2 d3
          rw [atX_drop0, ← HXE.out] at d0 d1 d2 hun'
          have hee2 := Option.some.inj ((((b1.cell (World.block_lt_of_cell? _ _ c3)).trans c3).symm).trans d3)
          cases hee2
          have c := CM.out w1
          clear c0 c1 c2 c3 b1 hun'
          go_wp2_with fail
          refine c.mono ?_
          rintro e w2 ⟨rfl, b2⟩
          clear c
          have B2 : Hid (Below w.heap.size w w2) := B1.out.trans (b2.mono B1.out.size)
          obtain ⟨lf, hlf⟩ : ∃ lf : Nat, (left : Int) - (k : Int) = lf := ⟨left - k, by omega⟩
          have yw : wrap64 ((left : Int) - (k : Int)) = lf := by unfold wrap64; omega
          have HNX : Hid (skipX nn l = skipX lf (l.drop (j + 1))) := by unfold Hid; have := HGO.out hkl; rwa [hlf] at this
          have hlf2 : lf ≤ left := by omega
          have hLj : L - j - 1 = L - (j + 1) := by omega
          clear b2 d0 d1 d2 d3 CM HGO HSTP HF0 HXM HSK
          by_cases hc1 : c' = 1
          · have hc2 : 1 = c' := hc1.symm
            subst hc2
            have hL1 : L - (j + 1) = 0 := by omega
            have HS2 : Hid (∀ W, Below w.heap.size w W → XS W (.slice (some ⟨b, off, none⟩) (L - (j + 1)) 0) (l.drop (j + 1))) := fun W hb => by
              have := HSL.out W hb
              rw [if_pos rfl] at this
              rw [hL1]
              exact this
            have HL1 : Hid (L - (j + 1) = 0) := hL1
            have p1 : (1 : Int) ≤ ((1 : Nat) : Int) := by omega
            clear HSL hc1 hL1 hLj
            go_wp2
            go_roundg (gk - 1)
            case measure => omega
            case rel => exact ⟨j + 1, lf, _, 0, by omega, by omega, by rw [HL1.out], by first | rfl | (rw [yw]) | go_num, by omega, HNX.out, HS2.out, B2.out⟩
          · have HS2 : Hid (∀ W, Below w.heap.size w W → XS W (.slice (some ⟨b, off + 4, none⟩) (L - (j + 1)) (c' - 1)) (l.drop (j + 1))) := fun W hb => by
              have := HSL.out W hb
              rw [if_neg hc1, hLj] at this
              exact this
            have p1 : (1 : Int) ≤ (c' : Int) := by omega
            have p2 : ((L - j : Nat) : Int) ≤ (c' : Int) := by omega
            clear HSL
            go_wp2
            go_roundg (gk - 1)
            case measure => omega
            case rel => exact ⟨j + 1, lf, _, _, by omega, by omega, by first | rfl | rw [hLj], by first | rfl | (rw [yw]) | go_num, by omega, HNX.out, HS2.out, B2.out⟩
        · have HR : Hid (R = firX ((left : Int), l.drop j)) := by unfold Hid; rw [HRN.out, HSK.out, HSTP.out (by omega)]
          obtain ⟨M, hM⟩ : ∃ M, M = L - j := ⟨_, rfl⟩
          have HMM : Hid ((l.drop j).length = M) := by unfold Hid; rw [List.length_drop, ← HL.out, hM]
          have HX : Hid (∀ i, i < M → 0 ≤ (atX (l.drop j) i).a ∧ (atX (l.drop j) i).a ≤ 1099511627776 ∧ 0 ≤ (atX (l.drop j) i).n ∧ (atX (l.drop j) i).n ≤ 9223372036854775807 ∧ (atX (l.drop j) i).d.length ≤ 1000000000) := fun i hi => by rw [atX_drop]; exact HXL.out _ (by omega)
          have HF1 : Hid (0 < M → (atX (l.drop j) 0).c = false → left ≤ (atX (l.drop j) 0).d.length) := fun _ hc => by rw [atX_drop0, ← HXE.out] at hc ⊢; exact HF0.out (by omega) hc
          clear HF0
          have HF0 := HF1
          have hM9 : M ≤ 90000 := by omega
          have hlf9 : left ≤ 1099511627776 := by omega
          rw [← hM] at HXM hlen0 ⊢
          clear c0 c1 c2 c3 CM HGO HSTP HSL HSK HXJ b1 HXE HRN HF1 HXL hlt hj hjk
          generalize l.drop j = m at *
          clear hM
          have HB1 := B1
          have hkd : decide (k ≤ left) = false := by simp; omega
          clear hkl
          go_wp2_with fail
          go_loopw [5, 6, 36] (fun p s q wr => ∃ i : Nat, i ≤ M ∧ q = .int .i64 i ∧ p = .int .i64 (if i = 0 then (left : Int) else 0) ∧ OX wr w.heap.size s ((firX ((left : Int), m)).take i) ∧ Below w.heap.size w wr) (fun _ _ q _ => M - (intOf q).toNat)
          case atStart => exact ⟨0, by omega, rfl, rfl, OX.nil _ _, HB1.out⟩
          case round =>
            obtain ⟨i, hi, rfl, rfl, oe, bel⟩ := hrel
            have HB2 : Hid (Below w.heap.size w wr) := bel
            obtain ⟨va, vc, rfl, -, -, -⟩ := oe.shape
            have hlen : ((firX ((left : Int), m)).take i).length = i := by rw [List.length_take, firX_len, HMM.out]; omega
            rw [hlen] at oe ⊢
            have HO : Hid (OX wr w.heap.size (.slice va i vc) ((firX ((left : Int), m)).take i)) := oe
            clear bel oe
            by_cases hlt : i < M
            · have lt2 : (i : Int) < (M : Int) := by omega
              obtain ⟨b, off, ua, un, uc, hee, c0, c1, c2, c3, hun, sd⟩ := (HXM.out wr HB2.out).at i (by rw [HMM.out]; exact hlt)
              have hx := HX.out i hlt
              have HT : Hid ((firX ((left : Int), m)).take (i + 1) = (firX ((left : Int), m)).take i ++ [wouX (atX m i) (if i = 0 then left else 0 : Nat)]) := firX_step left m i (by rw [HMM.out]; exact hlt)
              have hw0 : (atX m i).c = false → (if i = 0 then left else 0) ≤ (atX m i).d.length := fun hc => by
                split
                · rename_i h0; subst h0; exact HF0.out (by omega) hc
                · omega
              have hif : (if i = 0 then (left : Int) else 0) = ((if i = 0 then left else 0 : Nat) : Int) := by split <;> rfl
              rw [hif]
              have hsm : (if i = 0 then left else 0) ≤ 1099511627776 := by split <;> omega
              generalize (if i = 0 then left else 0) = lf at *
              generalize atX m i = x at *
              obtain ⟨W1, hW1⟩ : ∃ W1, W1 = wr.alloc (.cells #[.bool x.c, .int .i64 x.a, .int .i64 x.n, .slice ua un uc] 46) := ⟨_, rfl⟩
              have b1 : Below wr.heap.size wr W1 := by rw [hW1]; exact al_below _ _
              have BW1 : Hid (Below w.heap.size w W1) := HB2.out.trans (b1.mono HB2.out.size)
              have CW := without_any x lf ua un uc W1 (sd.kept b1) hw0 (fun _ => ⟨hx.1, hx.2.1, hx.2.2.1, hx.2.2.2.1⟩) hsm hx.2.2.2.2
              have O1 : Hid (OX W1 w.heap.size (.slice va i vc) ((firX ((left : Int), m)).take i)) := HO.out.below b1
              have HLN : Hid (((firX ((left : Int), m)).take i).length = i) := hlen
              generalize (firX ((left : Int), m)).take i = LL at *
              clear HO hlen hx hw0 hif hsm b1 hun sd
              generalize wouX x (lf : Int) = y at *
              cases hee
              go_wp2_with fail
              rw [← hW1]
              clear hW1
              refine CW.mono ?_
              rintro e w2 ⟨ua', uc', rfl, o2, b2⟩
              clear CW
              have BW2 : Hid (Below w.heap.size w w2) := BW1.out.trans (b2.mono BW1.out.size)
              have o1 := OX.one w2 w.heap.size BW2.out.size y (.slice ua' y.d.length uc') (o2.mono BW1.out.size).1 o2.2
              obtain ⟨W3, hW3⟩ : ∃ W3, W3 = w2.alloc (.cells #[.bool y.c, .int .i64 y.a, .int .i64 y.n, .slice ua' y.d.length uc'] 46) := ⟨_, rfl⟩
              rw [← hW3] at o1
              have b3 : Below w2.heap.size w2 W3 := by rw [hW3]; exact al_below _ _
              have OO : Hid (OX W3 w.heap.size (.slice va i vc) LL) := O1.out.below (b2.trans (b3.mono b2.size))
              have O3 : Hid (OX W3 w.heap.size (.slice (some ⟨w2.heap.size, 0, none⟩) 1 1) [y]) := o1
              have BW3 : Hid (Below w.heap.size w W3) := BW2.out.trans (b3.mono BW2.out.size)
              have HW3 : Hid (w2.alloc (.cells #[.bool y.c, .int .i64 y.a, .int .i64 y.n, .slice ua' y.d.length uc'] 46) = W3) := hW3.symm
              clear hW3 o1 b3 o2 b2 O1
              generalize y.d.length = ny at *
              have HBS : Hid (LL.length + [y].length ≤ 100000) := by unfold Hid; rw [HLN.out]; simp; omega
              go_wp2_with (at_builtin; rw [HW3.out]; refine wpList_append_ox rfl _ _ rfl w.heap.size _ LL rfl OO.out _ [y] rfl O3.out HBS.out BW3.out.size (Hid.out ?_))
              unfold Hid
              intro v4 w4 r4 g4
              have B4 : Hid (Below w.heap.size w w4) := BW3.out.trans g4
              have O4 : Hid (OX w4 w.heap.size v4 ((firX ((left : Int), m)).take (i + 1))) := by unfold Hid; rw [HT.out]; exact r4
              clear r4 g4 OO O3
              go_wp2
              go_roundw
              case rel => exact ⟨i + 1, by omega, by go_num, by simp, O4.out, B4.out⟩
              case measure => simp [intOf]; omega
            · obtain rfl : i = M := by omega
              have hend : (firX ((left : Int), m)).take i = firX ((left : Int), m) := List.take_of_length_le (by rw [firX_len, HMM.out]; exact Nat.le_refl _)
              have OZ : Hid (OX wr w.heap.size (.slice va i vc) R) := by
                unfold Hid
                have := HO.out
                rw [hend] at this
                rw [HR.out]
                exact this
              clear hend
              obtain ⟨pv, hpv⟩ : ∃ pv, pv = (if i = 0 then (left : Int) else 0) := ⟨_, rfl⟩
              rw [← hpv]
              clear hpv
              go_wp2
              go_ret
              exact ⟨_, rfl, OZ.out, HB2.out⟩
      · obtain rfl : j = L := by omega
        have HR : Hid (R = []) := by
          unfold Hid
          have e : l.drop j = [] := List.drop_of_length_le (by rw [← HL.out]; exact Nat.le_refl _)
          rw [HRN.out, HSK.out, e]
          rfl
        rw [Nat.sub_self]
        clear HSK HRN HXL HXM
        go_wp2_with fail
        go_loopw [6, 36] (fun s q wr => q = .int .i64 0 ∧ s = .slice none 0 0 ∧ Below w.heap.size w wr) (fun _ _ _ => 0)
        case atStart => exact ⟨rfl, rfl, HB.out⟩
        case round =>
          clear HB
          obtain ⟨rfl, rfl, bel⟩ := hrel
          have HB : Hid (Below w.heap.size w wr) := bel
          clear bel
          go_wp2
          go_ret
          exact ⟨_, rfl, by rw [HR.out]; exact OX.nil _ _, HB.out⟩
  · have HR : Hid (froX l n = firX (((0 : Nat) : Int), l)) := froX_le (by omega)
    have HXM : Hid (∀ W, Below w.heap.size w W → XS W (.slice a l.length c) l) := fun W hb => h.kept hb
    have hmx : max n 0 = 0 := by omega
    obtain ⟨M, hL⟩ : ∃ M, M = l.length := ⟨_, rfl⟩
    have HMM : Hid (l.length = M) := hL.symm
    have HX : Hid (∀ i, i < M → 0 ≤ (atX l i).a ∧ (atX l i).a ≤ 1099511627776 ∧ 0 ≤ (atX l i).n ∧ (atX l i).n ≤ 9223372036854775807 ∧ (atX l i).d.length ≤ 1000000000) := fun i hi => HXL.out i (by omega)
    rw [← hL] at hl h2 HXM ⊢
    obtain ⟨left, hleft⟩ : ∃ left : Nat, left = 0 := ⟨_, rfl⟩
    have HF0 : Hid (0 < M → (atX l 0).c = false → left ≤ (atX l 0).d.length) := fun _ _ => by omega
    have hlf9 : left ≤ 1099511627776 := by omega
    have HL0 : Hid (Value.int .i64 0 = .int .i64 (if 0 = 0 then (left : Int) else 0)) := by unfold Hid; rw [hleft]; rfl
    rw [← hleft] at HR
    have dn : decide (0 < n) = false := by simpa using hn0
    clear h hx hL HXL h3 h4 hleft
    generalize froX l n = R at *
    have HB : Hid (Below w.heap.size w w) := Below.refl _ _
    go_enter Tryd.func16, Tryd.ntmps16
    go_wp2_with fail
    go_loopg [0, 5] 1 (fun _ s q wr => s = .slice a M c ∧ q = .int .i64 0 ∧ Below w.heap.size w wr)
    case atStart => exact ⟨rfl, rfl, HB.out⟩
    case round =>
      clear HB
      obtain ⟨rfl, rfl, bel⟩ := hrel
      have HB : Hid (Below w.heap.size w wr) := bel
      clear bel
      obtain ⟨m, hm⟩ : ∃ m, m = l := ⟨_, rfl⟩
      rw [← hm] at HR HXM HX HMM HF0
      clear hm
      go_wp2_with fail
      go_loopw [5, 6, 36] (fun p s q wr => ∃ i : Nat, i ≤ M ∧ q = .int .i64 i ∧ p = .int .i64 (if i = 0 then (left : Int) else 0) ∧ OX wr w.heap.size s ((firX ((left : Int), m)).take i) ∧ Below w.heap.size w wr) (fun _ _ q _ => M - (intOf q).toNat)
      case atStart => exact ⟨0, by omega, rfl, HL0.out, OX.nil _ _, HB.out⟩
      case round =>
        obtain ⟨i, hi, rfl, rfl, oe, bel⟩ := hrel
        have HB2 : Hid (Below w.heap.size w wr) := bel
        obtain ⟨va, vc, rfl, -, -, -⟩ := oe.shape
        have hlen : ((firX ((left : Int), m)).take i).length = i := by rw [List.length_take, firX_len, HMM.out]; omega
        rw [hlen] at oe ⊢
        have HO : Hid (OX wr w.heap.size (.slice va i vc) ((firX ((left : Int), m)).take i)) := oe
        clear bel oe
        by_cases hlt : i < M
        · have lt2 : (i : Int) < (M : Int) := by omega
          obtain ⟨b, off, ua, un, uc, hee, c0, c1, c2, c3, hun, sd⟩ := (HXM.out wr HB2.out).at i (by rw [HMM.out]; exact hlt)
          have hx := HX.out i hlt
          have HT : Hid ((firX ((left : Int), m)).take (i + 1) = (firX ((left : Int), m)).take i ++ [wouX (atX m i) (if i = 0 then left else 0 : Nat)]) := firX_step left m i (by rw [HMM.out]; exact hlt)
          have hw0 : (atX m i).c = false → (if i = 0 then left else 0) ≤ (atX m i).d.length := fun hc => by
            split
            · rename_i h0; subst h0; exact HF0.out (by omega) hc
            · omega
          have hif : (if i = 0 then (left : Int) else 0) = ((if i = 0 then left else 0 : Nat) : Int) := by split <;> rfl
          rw [hif]
          have hsm : (if i = 0 then left else 0) ≤ 1099511627776 := by split <;> omega
          generalize (if i = 0 then left else 0) = lf at *
          generalize atX m i = x at *
          obtain ⟨W1, hW1⟩ : ∃ W1, W1 = wr.alloc (.cells #[.bool x.c, .int .i64 x.a, .int .i64 x.n, .slice ua un uc] 46) := ⟨_, rfl⟩
          have b1 : Below wr.heap.size wr W1 := by rw [hW1]; exact al_below _ _
          have BW1 : Hid (Below w.heap.size w W1) := HB2.out.trans (b1.mono HB2.out.size)
          have CW := without_any x lf ua un uc W1 (sd.kept b1) hw0 (fun _ => ⟨hx.1, hx.2.1, hx.2.2.1, hx.2.2.2.1⟩) hsm hx.2.2.2.2
          have O1 : Hid (OX W1 w.heap.size (.slice va i vc) ((firX ((left : Int), m)).take i)) := HO.out.below b1
          have HLN : Hid (((firX ((left : Int), m)).take i).length = i) := hlen
          generalize (firX ((left : Int), m)).take i = LL at *
          clear HO hlen hx hw0 hif hsm b1 hun sd
          generalize wouX x (lf : Int) = y at *
          cases hee
          go_wp2_with fail
          rw [← hW1]
          clear hW1
          refine CW.mono ?_
          rintro e w2 ⟨ua', uc', rfl, o2, b2⟩
          clear CW
          have BW2 : Hid (Below w.heap.size w w2) := BW1.out.trans (b2.mono BW1.out.size)
          have o1 := OX.one w2 w.heap.size BW2.out.size y (.slice ua' y.d.length uc') (o2.mono BW1.out.size).1 o2.2
          obtain ⟨W3, hW3⟩ : ∃ W3, W3 = w2.alloc (.cells #[.bool y.c, .int .i64 y.a, .int .i64 y.n, .slice ua' y.d.length uc'] 46) := ⟨_, rfl⟩
          rw [← hW3] at o1
          have b3 : Below w2.heap.size w2 W3 := by rw [hW3]; exact al_below _ _
          have OO : Hid (OX W3 w.heap.size (.slice va i vc) LL) := O1.out.below (b2.trans (b3.mono b2.size))
          have O3 : Hid (OX W3 w.heap.size (.slice (some ⟨w2.heap.size, 0, none⟩) 1 1) [y]) := o1
          have BW3 : Hid (Below w.heap.size w W3) := BW2.out.trans (b3.mono BW2.out.size)
          have HW3 : Hid (w2.alloc (.cells #[.bool y.c, .int .i64 y.a, .int .i64 y.n, .slice ua' y.d.length uc'] 46) = W3) := hW3.symm
          clear hW3 o1 b3 o2 b2 O1
          generalize y.d.length = ny at *
          have HBS : Hid (LL.length + [y].length ≤ 100000) := by unfold Hid; rw [HLN.out]; simp; omega
          go_wp2_with (at_builtin; rw [HW3.out]; refine wpList_append_ox rfl _ _ rfl w.heap.size _ LL rfl OO.out _ [y] rfl O3.out HBS.out BW3.out.size (Hid.out ?_))
          unfold Hid
          intro v4 w4 r4 g4
          have B4 : Hid (Below w.heap.size w w4) := BW3.out.trans g4
          have O4 : Hid (OX w4 w.heap.size v4 ((firX ((left : Int), m)).take (i + 1))) := by unfold Hid; rw [HT.out]; exact r4
          clear r4 g4 OO O3
          go_wp2
          go_roundw
          case rel => exact ⟨i + 1, by omega, by go_num, by simp, O4.out, B4.out⟩
          case measure => simp [intOf]; omega
        · obtain rfl : i = M := by omega
          have hend : (firX ((left : Int), m)).take i = firX ((left : Int), m) := List.take_of_length_le (by rw [firX_len, HMM.out]; exact Nat.le_refl _)
          have OZ : Hid (OX wr w.heap.size (.slice va i vc) R) := by
            unfold Hid
            have := HO.out
            rw [hend] at this
            rw [HR.out]
            exact this
          clear hend
          obtain ⟨pv, hpv⟩ : ∃ pv, pv = (if i = 0 then (left : Int) else 0) := ⟨_, rfl⟩
          rw [← hpv]
          clear hpv
          go_wp2
          go_ret
          exact ⟨_, rfl, OZ.out, HB2.out⟩
end Go.Proofs.YtfccjeepmhgckaaDoor
