/-
  What Whole and find answer.
  What Search answers.
-/
import Derived.Test.YtgnampbbkaolmaaDoorWc
import Derived.Test.YtgnampbbkaolmaaDoorPkB
import Derived.Test.YtgnampbbkaolmaaDoorPkR
import Derived.BigQuiet
import Derived.Deep.LoopGhost
import Derived.WalkMore
namespace Go.Proofs.YtgnampbbkaolmaaDoor
open Go.RowKit Go.Maps
set_option maxRecDepth 100000

set_option maxHeartbeats 1000000 in
theorem whole_any (v : Value) (b : List Int) (w : World) (h : Sl w v b) (hb : b.length ≤ 200000000000000) :
    Calls Tryd.prog 47 #[v] w fun e w' => ∃ v', e = .returned v' ∧ OX w' w.heap.size v' (whl b) ∧ Below w.heap.size w w' := by
  have CC := Ro.clone_any v b w h hb
  have HB : Hid (∀ i, 0 ≤ b.getD i 0 ∧ b.getD i 0 < 256) := h.bytes
  obtain ⟨a, c, rfl, -⟩ := id h
  by_cases h0 : b = []
  · subst h0
    rw [whl_nil]
    clear CC h hb HB
    go_enter Tryd.func47, Tryd.ntmps47
    go_wp2
    go_ret
    exact ⟨_, rfl, OX.nil _ _, Below.refl _ _⟩
  · have hp : 0 < b.length := List.length_pos_iff.2 h0
    rw [whl_some h0]
    obtain ⟨L, hL⟩ : ∃ L, L = b.length := ⟨_, rfl⟩
    have HL : Hid (L = b.length) := hL
    rw [← hL] at CC hp ⊢
    have hl : ((L : Int) == 0) = false := by
      have : ¬ (L : Int) = 0 := by omega
      simpa using this
    clear h hb h0 hL hp
    go_enter Tryd.func47, Tryd.ntmps47
    go_wp2_with fail
    refine CC.mono ?_
    rintro e w1 ⟨v1, rfl, o1, b1⟩
    clear CC
    have O1 : Hid (w1.ownsRow w.heap.size 5 1 v1 b.length (b.map (Value.int .u8))) := by unfold Hid; rw [← HL.out]; exact o1
    have B1 : Hid (Below w.heap.size w w1) := b1
    obtain ⟨a1, c1, rfl⟩ := own_shape o1
    clear o1 b1
    go_wp2
    go_ret
    exact ⟨_, rfl, OX.one w1 w.heap.size B1.out.size ⟨false, 0, 0, b⟩ _ O1.out HB.out, B1.out.trans ((al_below _ _).mono B1.out.size)⟩
set_option maxHeartbeats 2000000 in
theorem mfind_any (w : World) (B g m : Nat) (z N : Int) (l : List Sg) (hi : IX w B g m z N l) (base gw : Nat) (hv : Value) (b : List Int) (hw : Ro.Win w base gw hv b) (v : Value) (s : Sl w v b) (ht : Ta w) (hb : b.length ≤ 100000000000000000) :
    Calls Tryd.prog 50 #[.pointer (some ⟨g, 0, none⟩), .pointer (some ⟨gw, 0, none⟩), v] w fun e w' => e = .returned (.tuple #[.int .i64 (bfnd l z b).1, .bool (bfnd l z b).2]) ∧ Below w.heap.size w w' := by
  have C1 := Ro.wsum_any base gw hv b w hw
  have C3 := find_any w B g m z N l hi v b s ht hb
  obtain ⟨ni, h⟩ := hi
  have C2 := weak_any w _ _ _ _ _ _ _ _ h (Ro.rs b) (Ro.rs_range b)
  have HF : Hid (wk l (Ro.rs b) = false → bfnd l z b = (0, false)) := fun hq => by
    unfold bfnd
    rw [if_neg]
    rintro ⟨-, h2⟩
    rw [fi_wk l _ _ h2] at hq
    cases hq
  obtain ⟨a, c, rfl, -⟩ := id s
  clear h hw s ht hb
  generalize bfnd l z b = R at *
  generalize Ro.rs b = k at *
  generalize b.length = L at *
  cases hq : wk l k with
  | false =>
    obtain rfl := HF.out hq
    rw [hq] at C2
    clear HF hq C3
    go_enter Tryd.func50, Tryd.ntmps50
    go_wp2_with fail
    refine C1.mono ?_
    rintro e w1 ⟨rfl, hq1⟩
    replace hq1 := hq1.symm
    subst hq1
    clear C1
    go_wp2_with fail
    refine C2.mono ?_
    rintro e w1 ⟨rfl, hq1⟩
    replace hq1 := hq1.symm
    subst hq1
    clear C2
    go_wp2
    go_ret2
    exact ⟨rfl, Below.refl _ _⟩
  | true =>
    rw [hq] at C2
    clear HF hq
    go_enter Tryd.func50, Tryd.ntmps50
    go_wp2_with fail
    refine C1.mono ?_
    rintro e w1 ⟨rfl, hq1⟩
    replace hq1 := hq1.symm
    subst hq1
    clear C1
    go_wp2_with fail
    refine C2.mono ?_
    rintro e w1 ⟨rfl, hq1⟩
    replace hq1 := hq1.symm
    subst hq1
    clear C2
    go_wp2_with fail
    refine C3.mono ?_
    rintro e w1 ⟨rfl, b1⟩
    clear C3
    have B1 : Hid (Below w.heap.size w w1) := b1
    clear b1
    go_wp2
    go_ret2
    exact ⟨rfl, B1.out⟩
end Go.Proofs.YtgnampbbkaolmaaDoor
namespace Go.Proofs.YtgnampbbkaolmaaDoor
open Go.RowKit Go.Maps
set_option maxRecDepth 100000

theorem cut_slx {w : World} {a : Option Addr} {L cap n : Nat} {hs : List Int} (h : Sl w (.slice a L cap) hs) (hn : n ≤ L) (hsp : ∀ x, a = some x → 0 < cap → x.spot = none) : Sl w (Ro.cutv a L cap n) (hs.drop n) := by
  by_cases h0 : 0 < cap
  · exact Ro.cut_sl h hn (fun x hx => hsp x hx h0)
  · obtain ⟨a', cap', e, h1, h2, h3, h4⟩ := h
    cases e
    unfold Ro.cutv
    rw [if_pos (by omega)]
    have : hs.drop n = [] := List.drop_of_length_le (by omega)
    rw [this]
    exact ⟨a, 0, rfl, Nat.le_refl _, by simp [maxLen], fun _ => rfl, .inl rfl⟩
theorem bfnd_range (l : List Sg) (z : Nat) (b : List Int) (hl : l.length ≤ 4096) (hz : z ≤ 4096) : 0 ≤ (bfnd l z b).1 ∧ (bfnd l z b).1 ≤ 16777216 := by
  unfold bfnd
  split
  · rename_i h
    refine ⟨Int.mul_nonneg (by omega) (by omega), ?_⟩
    show (fi l (Ro.rs b) (Sh.Pl.sha b) : Int) * (z : Int) ≤ 4096 * 4096
    exact Int.mul_le_mul (by omega) (by omega) (by omega) (by omega)
  · exact ⟨Int.le_refl _, by show (0 : Int) ≤ 16777216; decide⟩
set_option maxHeartbeats 8000000 in
theorem search_any (w : World) (B g m z : Nat) (N : Int) (l : List Sg) (hi : IX w B g m z N l) (v : Value) (b : List Int) (s : SlX w v b) (ht : Ta w) (hz0 : 0 < z) (hz : z ≤ 4096) (hl : l.length ≤ 4096) (hb : b.length ≤ 4096) :
    Calls Tryd.prog 26 #[.pointer (some ⟨g, 0, none⟩), v] w fun e w' => ∃ v', e = .returned v' ∧ OX w' w.heap.size v' (srch (bfnd l z) z b 0 0 []) ∧ Below w.heap.size w w' := by
  have CI : Calls Tryd.prog 48 #[.pointer (some ⟨g, 0, none⟩)] w fun e w' => e = .returned (.int .i64 (z : Int)) ∧ w' = w := by
    obtain ⟨ni, h⟩ := hi
    exact isize_any w _ _ _ _ _ _ _ _ h
  obtain ⟨s, ssp⟩ := s
  obtain ⟨a, c, rfl, hc, hm, hnc, -⟩ := id s
  have HS : Hid (Sl w (.slice a b.length c) b) := s
  have HSP : Hid (∀ x, a = some x → 0 < c → x.spot = none) := fun x hx h0 => by subst hx; exact ssp _ _ _ rfl h0
  have HNC : Hid (a = none → c = 0) := hnc
  have HT : Hid (Ta w) := ht
  have HX : Hid (IX w B g m z N l) := hi
  have HF : Hid (∀ X, 0 ≤ (bfnd l z X).1 ∧ (bfnd l z X).1 ≤ 16777216) := fun X => bfnd_range l z X hl hz
  have HBY : Hid (∀ i, 0 ≤ b.getD i 0 ∧ b.getD i 0 < 256) := s.bytes
  have CF : Hid (∀ x, Below w.heap.size w x → ∀ base gw hv X u, Ro.Win x base gw hv X → Sl x u X → X.length ≤ 4096 → Calls Tryd.prog 50 #[.pointer (some ⟨g, 0, none⟩), .pointer (some ⟨gw, 0, none⟩), u] x fun e w' => e = .returned (.tuple #[.int .i64 (bfnd l z X).1, .bool (bfnd l z X).2]) ∧ Below x.heap.size x w') :=
    fun x hx base gw hv X u hw hs hlx => mfind_any x B g m z N l (HX.out.kept hx) base gw hv X hw u hs (HT.out.kept hx) (by omega)
  obtain ⟨R, hR⟩ : ∃ R, srch (bfnd l z) z b 0 0 [] = R := ⟨_, rfl⟩
  rw [hR]
  have HR : Hid (srch (bfnd l z) z b 0 0 [] = R) := hR
  obtain ⟨L, hL⟩ : ∃ L, L = b.length := ⟨_, rfl⟩
  have HL : Hid (L = b.length) := hL
  rw [← hL] at HS hc hb ⊢
  clear hi s ssp hnc ht hR hL hl hm
  generalize bfnd l (z : Int) = F at *
  go_enter Tryd.func26, Tryd.ntmps26
  go_wp2_with fail
  go_step3
  go_wp2_with fail
  refine CI.mono ?_
  rintro e w1 ⟨rfl, hq⟩
  replace hq := hq.symm
  subst hq
  clear CI
  go_wp2_with fail
  go_step3
  go_wp2_with fail
  go_loopg [5, 7] (L + 1) (fun k s p wr => ∃ (mm : Nat) (O : List Xp), mm + k = L + 1 ∧ mm ≤ L ∧ p = .int .i64 mm ∧ OX wr w.heap.size s O ∧ Bd O mm ∧ Hid (srch F z b mm mm O = R) ∧ Below w.heap.size w wr)
  case atStart => exact ⟨0, [], by omega, by omega, rfl, OX.nil _ _, Bd.nil, HR.out, Below.refl _ _⟩
  case round =>
    obtain ⟨mm, O, hmk, mL, rfl, ox, bd, hsr, bel⟩ := hrel
    obtain ⟨wo, hwo⟩ : ∃ wo, wo = wr := ⟨wr, rfl⟩
    subst hwo
    obtain ⟨go, hgo⟩ : ∃ go, go = gk := ⟨gk, rfl⟩
    subst hgo
    have HBD : Hid (Bd O mm) := bd
    have HO : Hid (OX wo w.heap.size u5 O) := ox
    have HB : Hid (Below w.heap.size w wo) := bel
    have HSR : Hid (srch F z b mm mm O = R) := hsr
    obtain ⟨la, lc, rfl, -, -, -⟩ := ox.shape
    have hl4 : (O.length : Int) ≤ 4096 := by have := bd.1; omega
    obtain ⟨ln, hln⟩ : ∃ ln, ln = O.length := ⟨_, rfl⟩
    rw [← hln] at HO hl4 ⊢
    clear ox bd bel hsr hln
    by_cases hlt : mm + z ≤ L
    · have lt2 : (mm : Int) + (z : Int) ≤ (L : Int) := by omega
      obtain ⟨xb, xo, rfl⟩ : ∃ xb xo, a = some ⟨xb, xo, none⟩ := by
        cases a with
        | none => have := HNC.out rfl; omega
        | some x =>
          obtain ⟨xb, xo, xs⟩ := x
          obtain rfl : xs = none := HSP.out _ rfl (by omega)
          exact ⟨xb, xo, rfl⟩
      have HSC : Hid (∀ x, Below w.heap.size w x → ∀ i n, i + n ≤ L → Sl x (.slice (some ⟨xb, xo + i, none⟩) n (c - i)) (cut b i n)) := fun x hx i n hin => ((HS.out.kept hx).drop i (by omega)).take n (by omega)
      have CN := Ro.wnew_any _ (cut b mm z) wo (HSC.out wo HB.out mm z hlt) (by rw [cut_len b mm z (by rw [← HL.out]; exact hlt)]; omega)
      have n1 : (0 : Int) ≤ (mm : Int) := by omega
      have n2 : (mm : Int) ≤ ((mm + z : Nat) : Int) := by omega
      have n3 : ((mm + z : Nat) : Int) ≤ (c : Int) := by omega
      have n4 : (mm + z) - mm = z := by omega
      go_wp2_with fail
      refine CN.mono ?_
      rintro e w2 ⟨gw, hv0, rfl, wn0, b20⟩
      clear CN n1 n2 n3 n4
      have WN : Hid (Ro.Win w2 wo.heap.size gw hv0 (cut b mm z)) := wn0
      have B2 : Hid (Below wo.heap.size wo w2) := b20
      clear wn0 b20
      go_wp2_with fail
      go_loopg [5, 7, 9] (L + 1) (fun k s p q wr => ∃ i en : Nat, s = .slice la ln lc ∧ p = .int .i64 mm ∧ en = i + z ∧ i + k = mm + (L + 1) ∧ mm ≤ i ∧ en ≤ L + 1 ∧ q = .int .i64 en ∧ (en ≤ L → ∃ hv, Ro.Win wr wo.heap.size gw hv (cut b i z)) ∧ Hid (srch F z b mm i O = R) ∧ Below wo.heap.size wo wr)
      case atStart => exact ⟨mm, mm + z, rfl, rfl, rfl, rfl, Nat.le_refl _, by omega, by go_num, fun _ => ⟨hv0, WN.out⟩, HSR.out, B2.out⟩
      case round =>
        obtain ⟨i, en, rfl, rfl, hen0, hik, mi, hel, rfl, hwn, hsr, bel⟩ := hrel
        have HEN : Hid (en = i + z) := hen0
        have hen1 : en ≤ i + z := by omega
        have hen2 : i + z ≤ en := by omega
        clear hen0
        have HSR2 : Hid (srch F z b mm i O = R) := hsr
        have HB2 : Hid (Below wo.heap.size wo wr) := bel
        have BWR : Hid (Below w.heap.size w wr) := HB.out.trans (bel.mono HB.out.size)
        clear WN B2 HSR hsr bel
        by_cases hin : en ≤ L
        · obtain ⟨hv, wn⟩ := hwn hin
          have WN : Hid (Ro.Win wr wo.heap.size gw hv (cut b i z)) := wn
          have HCL : Hid ((cut b i z).length = z) := cut_len b i z (by rw [← HL.out]; omega)
          have HC := CF.out wr BWR.out _ gw hv (cut b i z) _ wn (HSC.out wr BWR.out i z (by omega)) (by rw [HCL.out]; exact hz)
          obtain ⟨f1, f2, hFX⟩ : ∃ f1 f2, F (cut b i z) = (f1, f2) := ⟨_, _, rfl⟩
          have HFX : Hid (F (cut b i z) = (f1, f2)) := hFX
          have HFR := HF.out (cut b i z)
          rw [hFX] at HC HFR
          simp only at HC HFR
          obtain ⟨hf0, hf1⟩ := HFR
          have n0 : (en : Int) ≤ (L : Int) := by omega
          have n1 : (0 : Int) ≤ (i : Int) := by omega
          have n2 : (i : Int) ≤ (en : Int) := by omega
          have n3 : (en : Int) ≤ (c : Int) := by omega
          have n4 : en - i = z := by omega
          have n5 : (en : Int) - (z : Int) = (i : Int) := by omega
          have nci : ¬ c = i := by omega
          clear hwn wn hFX
          go_wp2_with fail
          refine HC.mono ?_
          rintro e w3 ⟨rfl, b3⟩
          clear HC
          have B3 : Hid (Below wr.heap.size wr w3) := b3
          have BW3 : Hid (Below w.heap.size w w3) := BWR.out.trans (b3.mono BWR.out.size)
          have BO3 : Hid (Below wo.heap.size wo w3) := HB2.out.trans (b3.mono HB2.out.size)
          clear b3
          cases f2 with
          | true =>
            have HO3 : Hid (OX w3 w.heap.size (.slice la ln lc) O) := HO.out.below BO3.out
            have HQ : Hid (srch F z b (i + z) (i + z) (wcp (O ++ whl (cut b mm (i - mm))) f1 z) = R) := by
              have e := srch_hit (F := F) (z := z) (b := b) (m := mm) (i := i) (O := O) (by rw [← HL.out]; omega) hz0 (by rw [HFX.out])
              rw [HFX.out] at e
              exact e.symm.trans HSR2.out
            have HBQ : Hid (Bd (wcp (O ++ whl (cut b mm (i - mm))) f1 z) (i + z)) := HBD.out.hit mi (by rw [← HL.out]; omega) hz0 f1 hf0 hf1
            have HBP : Hid (Bd (O ++ whl (cut b mm (i - mm))) i) := by
              have := HBD.out.whl (cut b mm (i - mm))
              rw [cut_len b mm (i - mm) (by rw [← HL.out]; omega), show mm + (i - mm) = i by omega] at this
              exact this
            have CW := whole_any _ _ w3 (HSC.out w3 BW3.out mm (i - mm) (by omega)) (by rw [cut_len b mm (i - mm) (by rw [← HL.out]; omega)]; omega)
            have m1 : (0 : Int) ≤ (mm : Int) := by omega
            have m2 : (mm : Int) ≤ (i : Int) := by omega
            have m3 : (i : Int) ≤ (c : Int) := by omega
            have ncm : ¬ c = mm := by omega
            have HBO : Hid (O.length + (whl (cut b mm (i - mm))).length ≤ 100000) := by
              unfold Hid
              have h1 := HBD.out.1
              have h2 := (whl_len (cut b mm (i - mm))).2
              omega
            clear n0 n1 n2 n3 n4 n5 HFX HSR2 HCL WN
            generalize whl (cut b mm (i - mm)) = WL at *
            go_wp2_with fail
            refine CW.mono ?_
            rintro e w4 ⟨v4, rfl, o4, b4⟩
            clear CW
            have O4 : Hid (OX w4 w.heap.size v4 WL) := o4.mono BW3.out.size
            have L4 : Hid (OX w4 w.heap.size (.slice la ln lc) O) := HO3.out.below b4
            have B4 : Hid (Below w.heap.size w w4) := BW3.out.trans (b4.mono BW3.out.size)
            obtain ⟨a4, c4, rfl, -⟩ := o4.shape
            clear o4 b4 HO3 m1 m2 m3 ncm nci
            go_wp2_with (at_builtin; refine wpList_append_ox rfl _ _ rfl w.heap.size _ O rfl L4.out _ WL rfl O4.out HBO.out B4.out.size (Hid.out ?_))
            unfold Hid
            intro v5 w5 o5 b5
            have CC := wcp_any w.heap.size v5 (O ++ WL) f1 z i w5 o5 HBP.out (by omega) (by omega) (B4.out.trans b5).size
            have B5 : Hid (Below w.heap.size w w5) := B4.out.trans b5
            obtain ⟨a5, c5, rfl, -⟩ := o5.shape
            clear o5 b5 O4 L4 HBO
            generalize (O ++ WL).length = l5 at *
            go_wp2_with fail
            refine CC.mono ?_
            rintro e w6 ⟨v6, rfl, o6, b6⟩
            clear CC
            have O6 : Hid (OX w6 w.heap.size v6 (wcp (O ++ WL) f1 z)) := o6
            have B6 : Hid (Below w.heap.size w w6) := B5.out.trans b6
            obtain ⟨a6, c6, rfl, -⟩ := o6.shape
            clear o6 b6
            generalize wcp (O ++ WL) f1 z = Q at *
            go_wp2
            go_roundg (L + 1 - (i + z))
            case measure => omega
            case rel => exact ⟨i + z, Q, by omega, by omega, by rw [HEN.out], O6.out, HBQ.out, HQ.out, B6.out⟩
          | false =>
            have HQ : Hid (srch F z b mm (i + 1) O = R) := by
              have e := srch_miss (F := F) (z := z) (b := b) (m := mm) (i := i) (O := O) (by rw [← HL.out]; omega) hz0 (by rw [HFX.out])
              exact e.symm.trans HSR2.out
            by_cases hll : en < L
            · have l0 : (en : Int) < (L : Int) := by omega
              obtain ⟨cb, r, hcr, hrl, hcu⟩ := cut_roll b i z hz0 (by rw [← HL.out]; omega)
              have wn3 := WN.out.kept B3.out
              rw [hcr] at wn3
              obtain ⟨hd0, hd1⟩ := HBY.out (i + z)
              have CR := Ro.wroll_some _ gw hv cb (b.getD (i + z) 0) r w3 wn3 (by omega) hd0 hd1
              rw [← hcu] at CR
              have bfr : Hid (∀ x, Ro.Fr gw hv.ownBlock w3 x → Below wo.heap.size w3 x) := fun x hx => wn3.fr hx
              have cell : w3.cell? ⟨xb, xo + en, none⟩ = some (.int .u8 (b.getD (i + z) 0)) := by
                obtain ⟨a', c', e', h1, h2, h3, h4⟩ := HS.out.kept BW3.out
                cases e'
                rcases h4 with h4 | ⟨hp, b', off', e, hlc, hmx, hcc, hzz⟩
                · omega
                · cases e
                  rw [hcc en (by rw [← HL.out]; exact hll), HEN.out]
              clear wn3 hcr hcu hrl HFX HSR2 WN n1 n2 n3 n4 n5 HCL
              generalize b.getD (i + z) 0 = cd at *
              go_wp2_with fail
              refine CR.mono ?_
              rintro e w4 ⟨rfl, hv4, wn4, f4, -⟩
              clear CR
              have W4 : Hid (Ro.Win w4 wo.heap.size gw hv4 (cut b (i + 1) z)) := wn4
              have B4 : Hid (Below wo.heap.size wo w4) := BO3.out.trans (bfr.out w4 f4)
              clear wn4 f4 bfr cell
              go_wp2
              go_roundg (gk - 1)
              case measure => omega
              case rel => exact ⟨i + 1, en + 1, rfl, rfl, by omega, by omega, by omega, by omega, by go_num, fun _ => ⟨hv4, W4.out⟩, HQ.out, B4.out⟩
            · have l0 : ¬ (en : Int) < (L : Int) := by omega
              clear HFX HSR2 WN n1 n2 n3 n4 n5 HCL
              go_wp2
              go_roundg (gk - 1)
              case measure => omega
              case rel => exact ⟨i + 1, en + 1, rfl, rfl, by omega, by omega, by omega, by omega, by go_num, fun hq => absurd hq (by omega), HQ.out, BO3.out⟩
        · have n0 : ¬ (en : Int) ≤ (L : Int) := by omega
          have HTR : Hid (O ++ whl (b.drop mm) = R) := by unfold Hid; rw [← HSR2.out, srch_end (by rw [← HL.out]; omega)]
          have SD : Hid (∀ x, Below w.heap.size w x → Sl x (Ro.cutv (some ⟨xb, xo, none⟩) L c mm) (b.drop mm)) := fun x hx => cut_slx (n := mm) (HS.out.kept hx) mL HSP.out
          have HDL : Hid ((b.drop mm).length ≤ 4096) := by unfold Hid; rw [List.length_drop]; have := HL.out; omega
          have CW := whole_any _ _ wr (SD.out wr BWR.out) (by have := HDL.out; omega)
          have HLN : Hid (R.length ≤ L) := by
            unfold Hid
            rw [← HTR.out]
            have h1 := ((HBD.out).whl (b.drop mm)).1
            rw [List.length_drop, ← HL.out, show mm + (L - mm) = L by omega] at h1
            exact h1
          have HBO : Hid (O.length + (whl (b.drop mm)).length ≤ 100000) := by
            unfold Hid
            have h1 := (HBD.out).1
            have h2 := (whl_len (b.drop mm)).2
            omega
          have BW0 : Hid (Below w.heap.size w wr) := BWR.out
          have OW0 : Hid (OX wr w.heap.size (.slice la ln lc) O) := HO.out.below HB2.out
          have hmc : (mm : Int) ≤ (c : Int) := by omega
          clear SD HDL HBD HS
          have hcm : ¬ c = mm := by omega
          unfold Ro.cutv at CW
          rw [if_neg hcm] at CW
          simp only at CW
          go_wp2_with fail
          refine CW.mono ?_
          rintro e w6 ⟨v6, rfl, o6, b6⟩
          clear CW
          have O6 : Hid (OX w6 w.heap.size v6 (whl (b.drop mm))) := o6.mono BW0.out.size
          have L6 : Hid (OX w6 w.heap.size (.slice la ln lc) O) := OW0.out.below b6
          have B6 : Hid (Below w.heap.size w w6) := BW0.out.trans (b6.mono BW0.out.size)
          obtain ⟨a6, c6, rfl, -⟩ := o6.shape
          clear o6 b6 OW0
          go_wp2_with (at_builtin; refine wpList_append_ox rfl _ _ rfl w.heap.size _ O rfl L6.out _ (whl (b.drop mm)) rfl O6.out HBO.out B6.out.size (Hid.out ?_))
          unfold Hid
          rw [HTR.out]
          intro v7 w7 o7 b7
          have O7 : Hid (OX w7 w.heap.size v7 R) := o7
          have B7 : Hid (Below w.heap.size w w7) := B6.out.trans b7
          obtain ⟨a7, c7, rfl, -⟩ := o7.shape
          have hR : ¬ 4096 < (R.length : Int) := by have := HLN.out; omega
          clear o7 b7 O6 L6 B6 HTR HLN HBO
          generalize R.length = rn at *
          go_wp2
          try rw [Exit.noGoto_ret]
          go_ret
          exact ⟨_, rfl, O7.out, B7.out⟩
    · have lt2 : ¬ (mm : Int) + (z : Int) ≤ (L : Int) := by omega
      have HTR : Hid (O ++ whl (b.drop mm) = R) := by unfold Hid; rw [← HSR.out, srch_end (by rw [← HL.out]; exact hlt)]
      have SD : Hid (∀ x, Below w.heap.size w x → Sl x (Ro.cutv a L c mm) (b.drop mm)) := fun x hx => cut_slx (n := mm) (HS.out.kept hx) mL HSP.out
      have HDL : Hid ((b.drop mm).length ≤ 4096) := by unfold Hid; rw [List.length_drop]; have := HL.out; omega
      have CW := whole_any _ _ wo (SD.out wo HB.out) (by have := HDL.out; omega)
      have HLN : Hid (R.length ≤ L) := by
        unfold Hid
        rw [← HTR.out]
        have h1 := ((HBD.out).whl (b.drop mm)).1
        rw [List.length_drop, ← HL.out, show mm + (L - mm) = L by omega] at h1
        exact h1
      have HBO : Hid (O.length + (whl (b.drop mm)).length ≤ 100000) := by
        unfold Hid
        have h1 := (HBD.out).1
        have h2 := (whl_len (b.drop mm)).2
        omega
      have BW0 : Hid (Below w.heap.size w wo) := HB.out
      have OW0 : Hid (OX wo w.heap.size (.slice la ln lc) O) := HO.out
      have hmc : (mm : Int) ≤ (c : Int) := by omega
      clear SD HDL HBD HS
      by_cases hcm : c = mm
      · unfold Ro.cutv at CW
        rw [if_pos hcm] at CW
        have hcm2 : L = mm := by omega
        go_wp2_with fail
        refine CW.mono ?_
        rintro e w6 ⟨v6, rfl, o6, b6⟩
        clear CW
        have O6 : Hid (OX w6 w.heap.size v6 (whl (b.drop mm))) := o6.mono BW0.out.size
        have L6 : Hid (OX w6 w.heap.size (.slice la ln lc) O) := OW0.out.below b6
        have B6 : Hid (Below w.heap.size w w6) := BW0.out.trans (b6.mono BW0.out.size)
        obtain ⟨a6, c6, rfl, -⟩ := o6.shape
        clear o6 b6 OW0
        go_wp2_with (at_builtin; refine wpList_append_ox rfl _ _ rfl w.heap.size _ O rfl L6.out _ (whl (b.drop mm)) rfl O6.out HBO.out B6.out.size (Hid.out ?_))
        unfold Hid
        rw [HTR.out]
        intro v7 w7 o7 b7
        have O7 : Hid (OX w7 w.heap.size v7 R) := o7
        have B7 : Hid (Below w.heap.size w w7) := B6.out.trans b7
        obtain ⟨a7, c7, rfl, -⟩ := o7.shape
        have hR : ¬ 4096 < (R.length : Int) := by have := HLN.out; omega
        clear o7 b7 O6 L6 B6 HTR HLN HBO
        generalize R.length = rn at *
        go_wp2
        try rw [Exit.noGoto_ret]
        go_ret
        exact ⟨_, rfl, O7.out, B7.out⟩
      · unfold Ro.cutv at CW
        rw [if_neg hcm] at CW
        cases a with
        | none => have := HNC.out rfl; omega
        | some x =>
          obtain ⟨xb, xo, xs⟩ := x
          obtain rfl : xs = none := HSP.out _ rfl (by omega)
          simp only at CW
          go_wp2_with fail
          refine CW.mono ?_
          rintro e w6 ⟨v6, rfl, o6, b6⟩
          clear CW
          have O6 : Hid (OX w6 w.heap.size v6 (whl (b.drop mm))) := o6.mono BW0.out.size
          have L6 : Hid (OX w6 w.heap.size (.slice la ln lc) O) := OW0.out.below b6
          have B6 : Hid (Below w.heap.size w w6) := BW0.out.trans (b6.mono BW0.out.size)
          obtain ⟨a6, c6, rfl, -⟩ := o6.shape
          clear o6 b6 OW0
          go_wp2_with (at_builtin; refine wpList_append_ox rfl _ _ rfl w.heap.size _ O rfl L6.out _ (whl (b.drop mm)) rfl O6.out HBO.out B6.out.size (Hid.out ?_))
          unfold Hid
          rw [HTR.out]
          intro v7 w7 o7 b7
          have O7 : Hid (OX w7 w.heap.size v7 R) := o7
          have B7 : Hid (Below w.heap.size w w7) := B6.out.trans b7
          obtain ⟨a7, c7, rfl, -⟩ := o7.shape
          have hR : ¬ 4096 < (R.length : Int) := by have := HLN.out; omega
          clear o7 b7 O6 L6 B6 HTR HLN HBO
          generalize R.length = rn at *
          go_wp2
          try rw [Exit.noGoto_ret]
          go_ret
          exact ⟨_, rfl, O7.out, B7.out⟩
end Go.Proofs.YtgnampbbkaolmaaDoor
