/-
  DeltaBack: operations that may be, put and fed, however their bytes are cut, come as they were, and nothing is left over; old files of at most 3000 bytes, at most 60 operations of 3000 bytes, else the closed case alone is asked. It holds for every input of the row; varint's table of widths holds what its declaration lays when the call begins.
-/
import Derived.Test.YtgnampbbkaolmaaDoorFr
import Derived.Test.YtgnampbbkaolmaaDoorCm
import Derived.Test.YtgnampbbkaolmaaDoorSm
import Derived.Test.YtgnampbbkaolmaaDoorDq
import Derived.Test.YtgnampbbkaolmaaDoorDr
import Derived.Test.YtgnampbbkaolmaaDoorBk
namespace Go.Proofs.YtgnampbbkaolmaaDoor.deltaBack
open Go.ChangeShapes Go.WideShapes Go.ChangeAt Go.RowKit Go.Deep Go.ChangeMaps
set_option maxRecDepth 100000

set_option maxHeartbeats 16000000 in
theorem walk (v0 : Value) (old : List Int) (v1 : Value) (l : List Xp) (v2 : Value) (C : List Int) (w : World) (hw : Fi.Wid w) (h0 : SlX w v0 old) (h1 : XS w v1 l) (h2 : SlX w v2 C) :
    Calls Tryd.prog 5 #[v0, v1, v2] w fun e w' => e = .returned (.bool true) ∧ Below w.heap.size w w' := by
  have HT : Hid (∀ W, Below w.heap.size w W → Fi.Wid W) := fun W hb => Wid.kept hw hb
  have CA : Hid (∀ W, Below w.heap.size w W → Calls Tryd.prog 9 #[] W fun e w' => e = .returned (.bool true) ∧ Below W.heap.size W w') := fun W hb => awake_any W (Wid.kept hw hb)
  obtain ⟨a0, c0, rfl, hc0, hm0, hn0, -⟩ := id h0.1
  obtain ⟨a1, c1, rfl, hc1, hm1, hn1⟩ := h1.shape
  obtain ⟨a2, c2, rfl, hc2, hm2, hn2, -⟩ := id h2.1
  have H1 : Hid (∀ W, Below w.heap.size w W → XS W (.slice a1 l.length c1) l) := fun W hb => h1.kept hb
  have H2 : Hid (∀ W, Below w.heap.size w W → SlX W (.slice a2 C.length c2) C) := fun W hb => h2.kept hb
  have CL := light_any _ l 60 3000 w h1 (by decide) (by decide)
  have CK : Hid (∀ W, Below w.heap.size w W → l.length ≤ 1000000 → Calls Tryd.prog 12 #[.slice a1 l.length c1, .int .i64 (old.length : Nat)] W fun e w' => e = .returned (.int .i64 (chkX l old.length)) ∧ Below W.heap.size W w') := fun W hb hl => check_any _ l old.length W (h1.kept hb) hl (by unfold maxLen at hm0; omega)
  have CP : Hid (∀ W, Below w.heap.size w W → l.length ≤ 90000 → (∀ x ∈ l, x.d.length ≤ 1000000) → Calls Tryd.prog 19 #[.slice a1 l.length c1] W fun e w' => ∃ v', e = .returned v' ∧ Ow w' W.heap.size v' (putX l) ∧ Below W.heap.size W w') := fun W hb hl hd => put_any _ l W (h1.kept hb) hl hd (Wid.kept hw hb)
  obtain ⟨LO, hLO⟩ : ∃ LO, LO = old.length := ⟨_, rfl⟩
  obtain ⟨LL, hLL⟩ : ∃ LL, LL = l.length := ⟨_, rfl⟩
  obtain ⟨LC, hLC⟩ : ∃ LC, LC = C.length := ⟨_, rfl⟩
  have HLL : Hid (LL = l.length) := hLL
  have HLC : Hid (LC = C.length) := hLC
  rw [← hLO] at CK hc0 ⊢
  rw [← hLL] at H1 CL CK CP hc1 ⊢
  rw [← hLC] at H2 hc2 ⊢
  unfold maxLen at hm0 hm1 hm2
  clear h0 h1 h2 hw hLO hLL hLC hn0 hn1
  by_cases h3 : 3000 < LO
  · have h4 : 3000 < (LO : Int) := by omega
    have ca := CA.out w (Below.refl _ _)
    go_enter Tryd.func5, Tryd.ntmps5
    go_wp2_with fail
    refine ca.mono ?_
    rintro e wz ⟨rfl, bz⟩
    have BZ : Hid (Below w.heap.size w wz) := bz
    clear ca bz
    go_wp2
    go_ret
    exact ⟨rfl, BZ.out⟩
  · have h4 : ¬ 3000 < (LO : Int) := by omega
    go_enter Tryd.func5, Tryd.ntmps5
    go_wp2_with fail
    refine CL.mono ?_
    rintro e wq ⟨lb, rfl, hq, hlg⟩
    replace hq := hq.symm
    subst hq
    clear CL
    cases lb with
    | false =>
      have ca := CA.out w (Below.refl _ _)
      go_wp2_with fail
      refine ca.mono ?_
      rintro e wz ⟨rfl, bz⟩
      have BZ : Hid (Below w.heap.size w wz) := bz
      clear ca bz
      go_wp2
      go_ret
      exact ⟨rfl, BZ.out⟩
    | true =>
      obtain ⟨g1, g2, g3⟩ := hlg rfl
      have HNB : Hid (Nb l) := g3
      have hby := put_byt l
      have hlit := lit_byt l
      rw [← HLL.out] at g1 hby
      have HDB : Hid (∀ x ∈ l, x.d.length ≤ 1000000) := fun x hx => by have := byt_mem l x hx; omega
      have hPl : (putX l).length ≤ 4020 := by omega
      have hLit : lit l ≤ 3000 := by omega
      have c := CK.out w (Below.refl _ _) (by omega)
      have HOK : Hid (chkX l LO = 0 → (∀ x ∈ l, mayX x LO = true) ∧ totX l ≤ 65536) := fun e => (chkX_ok e).2
      generalize chkX l (LO : Int) = kk at *
      clear hlg g2 g3 hby hlit CK
      go_wp2_with fail
      refine c.mono ?_
      rintro e w1 ⟨rfl, b1⟩
      clear c
      have B1 : Hid (Below w.heap.size w w1) := b1
      clear b1
      by_cases hk : kk = 0
      · obtain ⟨hmay, htot⟩ := HOK.out hk
        have HMAY : Hid (∀ x ∈ l, mayX x LO = true) := hmay
        have HTOT : Hid (totX l ≤ 65536) := htot
        have HTT : Hid (totX l = cpd l + lit l) := tot_of l LO hmay
        subst hk
        clear HOK hmay htot
        have c := CP.out w1 B1.out (by omega) HDB.out
        obtain ⟨P, hP⟩ : ∃ P, P = putX l := ⟨_, rfl⟩
        rw [← hP] at c hPl
        have HPE : Hid (P = putX l) := hP
        clear hP CP HDB
        go_wp2_with fail
        refine c.mono ?_
        rintro e w2 ⟨vP, rfl, oP, b2⟩
        clear c
        have B2 : Hid (Below w.heap.size w w2) := B1.out.trans (b2.mono B1.out.size)
        obtain ⟨aP, cP, rfl⟩ := oP.shape
        have HP0 : Hid (∀ W, Below w2.heap.size w2 W → SlX W (.slice aP (P.length - 0) cP) (P.drop 0)) := fun W hb => (oP.below hb).slx
        clear oP b2
        have c := dnew_any (LO : Int) w2 (by omega)
        obtain ⟨LP, hLP⟩ : ∃ LP, LP = P.length := ⟨_, rfl⟩
        have HLP : Hid (LP = P.length) := hLP
        rw [← hLP] at HP0 hPl ⊢
        clear hLP
        go_wp2_with fail
        refine c.mono ?_
        rintro e w3 ⟨rfl, d3, b3⟩
        clear c
        have B23 : Hid (Below w2.heap.size w2 w3) := b3
        have HST : Hid (BK P l 0 0 []) := ⟨Nat.zero_le _, Nat.zero_le _, by rw [HPE.out]; rfl, fun e => by
          have := putX_len l
          rw [← HPE.out, show P = [] from e] at this
          simp at this
          simp [this]⟩
        have HD3 : Hid (DC w3 w2.heap.size w2.heap.size (.slice none 0 0) ⟨LO, totX (l.take 0), [], 0⟩) := d3
        clear d3 b3
        go_wp2_with fail
        go_loopg [7, 9, 10] (LC + 2) (fun k s q r wr => ∃ (p j i : Nat) (rest : List Int) (rv : Value) (ab : Option Addr) (cb : Nat), i + k = LC + 2 ∧ (LC < i → LP ≤ p) ∧ s = .slice ab (LP - p) cb ∧ (p < LP → r = .int .i64 i) ∧ Hid (∀ W, Below w2.heap.size w2 W → SlX W (.slice ab (LP - p) cb) (P.drop p)) ∧ OXa wr w2.heap.size rv.ownBlock q (l.take j) ∧ DC wr w2.heap.size w2.heap.size rv ⟨LO, totX (l.take j), rest, 0⟩ ∧ Hid (BK P l p j rest) ∧ Below w2.heap.size w2 wr)
        case atStart => exact ⟨0, 0, 0, [], .slice none 0 0, aP, cP, by omega, by omega, rfl, fun _ => rfl, HP0.out, OXa.nil _ _ _, HD3.out, HST.out, B23.out⟩
        case round =>
          clear HP0 HD3 HST B23 hn2
          obtain ⟨p, j, i, rest, rv, ab, cb, hik, hlast, rfl, hri, hsx, ox, dc, hbk, bel⟩ := hrel
          have HRI : Hid (p < LP → u10 = .int .i64 i) := hri
          clear hri
          have HSX : Hid (∀ W, Below w2.heap.size w2 W → SlX W (.slice ab (LP - p) cb) (P.drop p)) := hsx
          have HOX : Hid (OXa wr w2.heap.size rv.ownBlock u9 (l.take j)) := ox
          have HDC : Hid (DC wr w2.heap.size w2.heap.size rv ⟨LO, totX (l.take j), rest, 0⟩) := dc
          have HBK : Hid (BK P l p j rest) := hbk
          have HB : Hid (Below w2.heap.size w2 wr) := bel
          have hpP : p ≤ LP := by have := HBK.out.1; rwa [← HLP.out] at this
          have hjl : (l.take j).length = j := by rw [List.length_take]; have := HBK.out.2.1; omega
          obtain ⟨ga, gc, rfl⟩ := ox.len
          rw [hjl] at HOX ⊢
          have hjL : j ≤ LL := by have := HBK.out.2.1; rwa [← HLL.out] at this
          clear hsx ox dc hbk bel hjl
          obtain ⟨M, hM⟩ : ∃ M, M = LP - p := ⟨_, rfl⟩
          obtain ⟨f1, f2, f3, f4⟩ := (HSX.out w2 (Below.refl _ _)).facts
          unfold maxLen at f3
          rw [← hM] at HSX f1 f2 ⊢
          have hM1 : M + p ≤ LP := by omega
          have hM2 : LP ≤ M + p := by omega
          clear hM
          have HF1 : Hid ((P.drop p).length = M) := f1
          clear f1
          by_cases hM0 : 0 < M
          · have hri := HRI.out (by omega)
            subst hri
            clear HRI
            have m1 : (0 : Int) < (M : Int) := by omega
            have hiC : i ≤ LC := by omega
            have hx : ∃ x, ab = some x := by
              cases ab with
              | none => have := f4 rfl; omega
              | some x => exact ⟨x, rfl⟩
            obtain ⟨⟨xb, xo, sp⟩, rfl⟩ := hx
            obtain rfl : sp = none := (HSX.out w2 (Below.refl _ _)).2 _ _ _ rfl (by omega)
            have FEED : Hid (∀ n, n ≤ M → ∃ j' rest', Calls Tryd.prog 14 #[.pointer (some ⟨w2.heap.size, 0, none⟩), .slice (some ⟨xb, xo, none⟩) n cb] wr (fun e w' => ∃ lv rv', e = .returned (.tuple #[lv, .int .i64 0]) ∧ OXa w' wr.heap.size rv'.ownBlock lv ((l.drop j).take j') ∧ DC w' w2.heap.size w2.heap.size rv' ⟨LO, totX (l.take (j + j')), rest', 0⟩ ∧ Kp w2.heap.size rv.ownBlock wr w' ∧ (rv'.ownBlock = rv.ownBlock ∨ ∀ k, rv'.ownBlock = some k → wr.heap.size ≤ k)) ∧ BK P l (p + n) (j + j') rest') := fun n hn => by
              obtain ⟨j', rest', e1, e2⟩ := HBK.out.step (LO : Int) (by omega) HMAY.out HTOT.out n (by rw [← HLP.out]; omega)
              refine ⟨j', rest', ?_, e2⟩
              have hlen : rest.length + ((P.drop p).take n).length ≤ 90000 := by
                have q1 := HBK.out.2.2.1
                have q2 := congrArg List.length q1
                have q3 := put_drop l j
                rw [List.length_append] at q2
                rw [List.length_take]
                rw [← HPE.out, ← HLP.out] at q3
                omega
              have := feed_any wr w2.heap.size w2.heap.size rv (.slice (some ⟨xb, xo, none⟩) n cb) ⟨LO, totX (l.take j), rest, 0⟩ ((P.drop p).take n) HDC.out ((HSX.out wr HB.out).1.take n hn) (fun W hb => HT.out W (B2.out.trans (((HB.out.trans hb)).mono B2.out.size))) hlen
              unfold FP at this
              rw [e1] at this
              exact this
            by_cases hi : i < LC
            · have i1 : (i : Int) < (LC : Int) := by omega
              have i2 : (0 : Int) ≤ (i : Int) := by omega
              have hrow := slx_row (H2.out wr (B2.out.trans (HB.out.mono B2.out.size)))
              rcases hrow with hrow | ⟨-, yb, yo, rfl, -, -, hcell, hrange⟩
              · omega
              have k0 := hcell i hi
              obtain ⟨r1, r2⟩ := hrange i
              obtain ⟨cv, hcv⟩ : ∃ cv : Nat, C.getD i 0 = cv := ⟨(C.getD i 0).toNat, by omega⟩
              rw [hcv] at k0
              obtain ⟨nn, hnn⟩ : ∃ nn : Nat, min (M : Int) (cv : Int) = nn := ⟨min M cv, by omega⟩
              have hnM : nn ≤ M := by omega
              have wv : wrap64 (cv : Int) = cv := by unfold wrap64; omega
              have HLST : Hid (LC < i + 1 → LP ≤ p + nn) := fun e => by omega
              clear hcell hrange r1 r2 hcv
              obtain ⟨j', rest', c, hb2⟩ := FEED.out nn hnM
              have HB2 : Hid (BK P l (p + nn) (j + j') rest') := hb2
              have z1 : (nn : Int) ≤ (cb : Int) := by omega
              have z2 : (0 : Int) ≤ (nn : Int) := by omega
              have z3 : (nn : Int) ≤ (M : Int) := by omega
              have z4 : (M : Int) ≤ (cb : Int) := by omega
              have hlj : (l.take (j + j')).length = j + j' := by rw [List.length_take]; have := HB2.out.2.1; omega
              have hjj : j + j' ≤ LL := by have := HB2.out.2.1; rwa [← HLL.out] at this
              have htk : l.take j ++ (l.drop j).take j' = l.take (j + j') := (List.take_add ..).symm
              have hj2 : ((l.drop j).take j').length = j' := by rw [List.length_take, List.length_drop, ← HLL.out]; omega
              have HTK : Hid (l.take j ++ (l.drop j).take j' = l.take (j + j')) := htk
              have HJ2 : Hid (((l.drop j).take j').length = j') := hj2
              have HBIG : Hid ((l.take j).length + ((l.drop j).take j').length ≤ 100000) := by unfold Hid; rw [hj2, List.length_take]; omega
              have HGT : Hid ((l.take j).length = j) := by unfold Hid; rw [List.length_take]; have := HBK.out.2.1; omega
              clear hb2 hlj htk hj2 FEED
              go_wp2_with fail
              refine c.mono ?_
              rintro e w4 ⟨lv, rv', rfl, o4, d4, k4, hob⟩
              clear c
              have b4 : Below w2.heap.size wr w4 := k4.below (Nat.le_refl _) (fun k e => (HDC.out.2.2.2.2.1 k e).1) HB.out.size
              have B4 : Hid (Below w2.heap.size w2 w4) := HB.out.trans b4
              have HG4 : Hid (OXa w4 w2.heap.size rv'.ownBlock (.slice ga j gc) (l.take j)) := HOX.out.kp k4 HDC.out.2.1 (by decide) (by decide) (HDC.out.norow rfl) hob
              have HO4 : Hid (OXa w4 w2.heap.size rv'.ownBlock lv ((l.drop j).take j')) := o4.mono HB.out.size
              have HD4 : Hid (DC w4 w2.heap.size w2.heap.size rv' ⟨LO, totX (l.take (j + j')), rest', 0⟩) := d4
              obtain ⟨la, lc, rfl⟩ := o4.len
              rw [HJ2.out] at HO4 ⊢
              clear o4 d4 k4 b4 hob HOX HDC HBK
              go_wp2_with (at_builtin; refine wpList_append_oxa rfl _ _ rfl w2.heap.size _ _ (l.take j) rfl HG4.out _ ((l.drop j).take j') rfl HO4.out HBIG.out B4.out.size (Hid.out ?_))
              unfold Hid
              intro v5 w5 o5 g5
              have HO5 : Hid (OXa w5 w2.heap.size rv'.ownBlock v5 (l.take (j + j'))) := by unfold Hid; rw [← HTK.out]; exact o5
              have HD5 : Hid (DC w5 w2.heap.size w2.heap.size rv' ⟨LO, totX (l.take (j + j')), rest', 0⟩) := HD4.out.grown HG4.out g5
              have B5 : Hid (Below w2.heap.size w2 w5) := B4.out.trans (grown_below HG4.out g5 (Nat.le_refl _) B4.out.size)
              obtain ⟨oa, oc, rfl⟩ := o5.len
              clear o5 g5 HG4 HO4 HD4 B4
              generalize (l.take j ++ (l.drop j).take j').length = nO at *
              have hMn : M - nn = LP - (p + nn) := by omega
              by_cases hcb : cb = nn
              · have HS5 : Hid (∀ W, Below w2.heap.size w2 W → SlX W (.slice (some ⟨xb, xo, none⟩) (LP - (p + nn)) 0) (P.drop (p + nn))) := fun W hb => by
                  have := (HSX.out W hb).drop nn hnM
                  unfold cuv at this
                  rw [if_pos hcb, List.drop_drop] at this
                  rw [show LP - (p + nn) = 0 by omega]
                  exact this
                have hz : LP - (p + nn) = 0 := by omega
                have HZ : Hid (LP - (p + nn) = 0) := hz
                have hcb2 : nn = cb := hcb.symm
                subst hcb2
                have hMM : nn = M := by omega
                subst hMM
                clear HSX hcb hz hMn
                go_wp2
                go_roundg (gk - 1)
                case measure => omega
                case rel => exact ⟨p + nn, j + j', i + 1, rest', rv', _, 0, by omega, HLST.out, by rw [HZ.out], fun _ => by go_num, HS5.out, HO5.out, HD5.out, HB2.out, B5.out⟩
              · have HS5 : Hid (∀ W, Below w2.heap.size w2 W → SlX W (.slice (some ⟨xb, xo + nn, none⟩) (LP - (p + nn)) (cb - nn)) (P.drop (p + nn))) := fun W hb => by
                  have := (HSX.out W hb).drop nn hnM
                  unfold cuv at this
                  rw [if_neg hcb, List.drop_drop] at this
                  rw [← hMn]
                  exact this
                have HZ : Hid (M - nn = LP - (p + nn)) := hMn
                clear HSX hMn
                go_wp2
                go_roundg (gk - 1)
                case measure => omega
                case rel => exact ⟨p + nn, j + j', i + 1, rest', rv', _, _, by omega, HLST.out, by first | rfl | rw [HZ.out] | (rw [← HZ.out]; simp), fun _ => by go_num, HS5.out, HO5.out, HD5.out, HB2.out, B5.out⟩
            · have i1 : ¬ (i : Int) < (LC : Int) := by omega
              obtain ⟨nn, hnn⟩ : ∃ nn : Nat, nn = M := ⟨_, rfl⟩
              have hnM : nn ≤ M := by omega
              have HLST : Hid (LC < i + 1 → LP ≤ p + nn) := fun e => by omega
              subst hnn
              obtain ⟨j', rest', c, hb2⟩ := FEED.out nn hnM
              have HB2 : Hid (BK P l (p + nn) (j + j') rest') := hb2
              have z1 : (nn : Int) ≤ (cb : Int) := by omega
              have z2 : (0 : Int) ≤ (nn : Int) := by omega
              have z3 : (nn : Int) ≤ (nn : Int) := by omega
              have z4 : (nn : Int) ≤ (cb : Int) := by omega
              have hlj : (l.take (j + j')).length = j + j' := by rw [List.length_take]; have := HB2.out.2.1; omega
              have hjj : j + j' ≤ LL := by have := HB2.out.2.1; rwa [← HLL.out] at this
              have htk : l.take j ++ (l.drop j).take j' = l.take (j + j') := (List.take_add ..).symm
              have hj2 : ((l.drop j).take j').length = j' := by rw [List.length_take, List.length_drop, ← HLL.out]; omega
              have HTK : Hid (l.take j ++ (l.drop j).take j' = l.take (j + j')) := htk
              have HJ2 : Hid (((l.drop j).take j').length = j') := hj2
              have HBIG : Hid ((l.take j).length + ((l.drop j).take j').length ≤ 100000) := by unfold Hid; rw [hj2, List.length_take]; omega
              have HGT : Hid ((l.take j).length = j) := by unfold Hid; rw [List.length_take]; have := HBK.out.2.1; omega
              clear hb2 hlj htk hj2 FEED
              go_wp2_with fail
              refine c.mono ?_
              rintro e w4 ⟨lv, rv', rfl, o4, d4, k4, hob⟩
              clear c
              have b4 : Below w2.heap.size wr w4 := k4.below (Nat.le_refl _) (fun k e => (HDC.out.2.2.2.2.1 k e).1) HB.out.size
              have B4 : Hid (Below w2.heap.size w2 w4) := HB.out.trans b4
              have HG4 : Hid (OXa w4 w2.heap.size rv'.ownBlock (.slice ga j gc) (l.take j)) := HOX.out.kp k4 HDC.out.2.1 (by decide) (by decide) (HDC.out.norow rfl) hob
              have HO4 : Hid (OXa w4 w2.heap.size rv'.ownBlock lv ((l.drop j).take j')) := o4.mono HB.out.size
              have HD4 : Hid (DC w4 w2.heap.size w2.heap.size rv' ⟨LO, totX (l.take (j + j')), rest', 0⟩) := d4
              obtain ⟨la, lc, rfl⟩ := o4.len
              rw [HJ2.out] at HO4 ⊢
              clear o4 d4 k4 b4 hob HOX HDC HBK
              go_wp2_with (at_builtin; refine wpList_append_oxa rfl _ _ rfl w2.heap.size _ _ (l.take j) rfl HG4.out _ ((l.drop j).take j') rfl HO4.out HBIG.out B4.out.size (Hid.out ?_))
              unfold Hid
              intro v5 w5 o5 g5
              have HO5 : Hid (OXa w5 w2.heap.size rv'.ownBlock v5 (l.take (j + j'))) := by unfold Hid; rw [← HTK.out]; exact o5
              have HD5 : Hid (DC w5 w2.heap.size w2.heap.size rv' ⟨LO, totX (l.take (j + j')), rest', 0⟩) := HD4.out.grown HG4.out g5
              have B5 : Hid (Below w2.heap.size w2 w5) := B4.out.trans (grown_below HG4.out g5 (Nat.le_refl _) B4.out.size)
              obtain ⟨oa, oc, rfl⟩ := o5.len
              clear o5 g5 HG4 HO4 HD4 B4
              generalize (l.take j ++ (l.drop j).take j').length = nO at *
              have hMn : nn - nn = LP - (p + nn) := by omega
              by_cases hcb : cb = nn
              · have HS5 : Hid (∀ W, Below w2.heap.size w2 W → SlX W (.slice (some ⟨xb, xo, none⟩) (LP - (p + nn)) 0) (P.drop (p + nn))) := fun W hb => by
                  have := (HSX.out W hb).drop nn hnM
                  unfold cuv at this
                  rw [if_pos hcb, List.drop_drop] at this
                  rw [show LP - (p + nn) = 0 by omega]
                  exact this
                have hz : LP - (p + nn) = 0 := by omega
                have HZ : Hid (LP - (p + nn) = 0) := hz
                have hcb2 : nn = cb := hcb.symm
                subst hcb2
                clear HSX hcb hz hMn
                go_wp2
                go_roundg (gk - 1)
                case measure => omega
                case rel => exact ⟨p + nn, j + j', i + 1, rest', rv', _, 0, by omega, HLST.out, by rw [HZ.out], fun h => by omega, HS5.out, HO5.out, HD5.out, HB2.out, B5.out⟩
              · have HS5 : Hid (∀ W, Below w2.heap.size w2 W → SlX W (.slice (some ⟨xb, xo + nn, none⟩) (LP - (p + nn)) (cb - nn)) (P.drop (p + nn))) := fun W hb => by
                  have := (HSX.out W hb).drop nn hnM
                  unfold cuv at this
                  rw [if_neg hcb, List.drop_drop] at this
                  rw [← hMn]
                  exact this
                have HZ : Hid (nn - nn = LP - (p + nn)) := hMn
                clear HSX hMn
                go_wp2
                go_roundg (gk - 1)
                case measure => omega
                case rel => exact ⟨p + nn, j + j', i + 1, rest', rv', _, _, by omega, HLST.out, by first | rfl | rw [HZ.out] | (rw [← HZ.out]; simp), fun h => by omega, HS5.out, HO5.out, HD5.out, HB2.out, B5.out⟩
          · obtain rfl : M = 0 := by omega
            have hpe : P.drop p = [] := List.drop_of_length_le (by rw [← HLP.out]; omega)
            have hj2 : j = l.length := HBK.out.2.2.2 hpe
            have hr2 : rest = [] := by
              have := HBK.out.2.2.1
              rw [hpe, List.append_nil, hj2, List.drop_length] at this
              exact this
            have h6 := HDC.out
            have h7 := HOX.out
            rw [hj2, List.take_length] at h6 h7
            rw [hr2] at h6
            have hj3 : j = LL := by rw [hj2, HLL.out]
            have BW : Hid (Below w.heap.size w wr) := B2.out.trans (HB.out.mono B2.out.size)
            have D6 : Hid (∀ W, Below wr.heap.size wr W → DC W w2.heap.size w2.heap.size rv ⟨LO, totX l, [], 0⟩) := fun W hb => h6.kept hb
            have c := same_any _ _ l l wr h7.ox.xs (H1.out wr BW.out) (by rw [← HLL.out]; omega) (by rw [← HLL.out]; omega)
            rw [saX_self] at c
            rw [← hj2] at c
            subst hj3
            clear h6 h7 hj2 hr2 hpe HDC HOX HBK HSX
            go_wp2_with fail
            refine c.mono ?_
            rintro e w4 ⟨rfl, b4⟩
            clear c
            have BW4 : Hid (Below w.heap.size w w4) := BW.out.trans (b4.mono BW.out.size)
            have c := rest_any w4 _ _ _ _ (D6.out w4 b4)
            have c' := made_any w4 _ _ _ _ (D6.out w4 b4)
            simp only [List.length_nil] at c c'
            clear b4
            go_wp2_with fail
            refine c.mono ?_
            rintro e wq ⟨rfl, hq⟩
            replace hq := hq.symm
            subst hq
            clear c
            go_wp2_with fail
            refine c'.mono ?_
            rintro e wq ⟨rfl, hq⟩
            replace hq := hq.symm
            subst hq
            clear c'
            have c := copied_any _ l w4 (H1.out w4 BW4.out) (by rw [← HLL.out]; omega) HNB.out
            go_wp2_with fail
            refine c.mono ?_
            rintro e w5 ⟨rfl, b5⟩
            clear c
            have BW5 : Hid (Below w.heap.size w w5) := BW4.out.trans (b5.mono BW4.out.size)
            have c := literal_any _ l w5 (H1.out w5 BW5.out) (by rw [← HLL.out]; omega) (by omega)
            clear b5
            have htt := HTT.out
            have ht6 := HTOT.out
            have ht7 := totX_pos l
            generalize totX l = tt at *
            generalize cpd l = cc at *
            generalize lit l = ll at *
            have yw : wrap64 (cc + (ll : Int)) = tt := by unfold wrap64; omega
            have yw2 : cc + (ll : Int) = tt := htt.symm
            clear htt
            go_wp2_with fail
            refine c.mono ?_
            rintro e w6 ⟨rfl, b6⟩
            clear c
            have BW6 : Hid (Below w.heap.size w w6) := BW5.out.trans (b6.mono BW5.out.size)
            clear b6
            have ca := CA.out w6 BW6.out
            go_wp2_with fail
            refine ca.mono ?_
            rintro e wz ⟨rfl, bz⟩
            have BZ : Hid (Below w.heap.size w wz) := BW6.out.trans (bz.mono BW6.out.size)
            clear ca bz
            go_wp2
            go_ret
            exact ⟨rfl, BZ.out⟩
      · have hk2 : (kk != 0) = true := by simpa using hk
        have ca := CA.out w1 B1.out
        clear CP HOK hk
        go_wp2_with fail
        refine ca.mono ?_
        rintro e wz ⟨rfl, bz⟩
        have BZ : Hid (Below w.heap.size w wz) := B1.out.trans (bz.mono B1.out.size)
        clear ca bz
        go_wp2
        go_ret
        exact ⟨rfl, BZ.out⟩

theorem contract (H : Type) (enc : TypeId × Value → H) (W : World) (base : Nat) (args : Array Value) (ds gs : List (DataW H)) (before : List MemPlace)
    (hval : ∀ (j : Nat) t v, Tryd.f5.params[j]? = some t → args[j]? = some v → Value.okWide Tryd.prog W .any base t v)
    (hW : DataW.Whole enc Tryd.prog Tryd.f5.params.toList Rows.deltaBackSpec.vars false W args.toList ds gs before) (hL : laidMetH Tryd.prog Rows.deltaBackRow.laid W)
    (hsz0 : (DataW.weightsEach Tryd.prog (Tryd.f5.params.toList ++ Rows.deltaBackSpec.plain.varTypes Tryd.prog) (ds ++ gs)).all (· ≤ reachBytes) = true) :
    Calls Tryd.prog 5 args W fun e W' => ∃ v, e = .returned v ∧ Rows.deltaBackSpec.post enc Tryd.prog Tryd.f5 false true false false W args v W' := by
  have hW' := hW
  obtain ⟨p, q, hA0, hV, rfl, hfz, hnd⟩ := hW
  have hA : DataW.TrodAll enc Tryd.prog W 0 (fun _ => true) true Tryd.f5.params.toList args.toList ds p := hA0
  rw [Tryd.params5] at hA hval hsz0
  obtain ⟨v0, vs0, d0, ds0, p0, q0, hargs, rfl, rfl, h0, r0⟩ := trodAll_cons hA
  obtain ⟨v1, vs1, d1, ds1, p1, q1, rfl, rfl, rfl, h1, r1⟩ := trodAll_cons r0
  obtain ⟨v2, vs2, d2, ds2, p2, q2, rfl, rfl, rfl, h2, r2⟩ := trodAll_cons r1
  obtain ⟨rfl, rfl, rfl⟩ := trodAll_nil r2
  obtain rfl : args = #[v0, v1, v2] := by cases args; simp_all
  obtain ⟨rfl, rfl⟩ := trodVars_none hV
  have k0 := h0
  have lt0 : ∀ x ∈ p0, x.block < W.heap.size := by obtain ⟨m, hm⟩ := k0; exact DataW.trod_lt m _ _ _ hm
  obtain ⟨L0, w0⟩ := slx_in (hval 0 22 v0 rfl rfl) h0
  have k1 := h1
  have lt1 : ∀ x ∈ p1, x.block < W.heap.size := by obtain ⟨m, hm⟩ := k1; exact DataW.trod_lt m _ _ _ hm
  obtain ⟨L1, w1⟩ := ops_in (hval 1 23 v1 rfl rfl) h1
  have k2 := h2
  have lt2 : ∀ x ∈ p2, x.block < W.heap.size := by obtain ⟨m, hm⟩ := k2; exact DataW.trod_lt m _ _ _ hm
  obtain ⟨L2, w2⟩ := slx_in (hval 2 22 v2 rfl rfl) h2
  clear hA0
  refine (walk v0 L0 v1 L1 v2 L2 W (wi_of hL) w0 w1 w2).mono fun e W' ⟨he, bel⟩ => ?_
  subst he
  exact ⟨_, rfl, _, _, _, [], _, [], hW', trodAll_mk1 (shut_bool Tryd.underlying4 _), (trodAll_cons_mk (Below.trod laidOut (by kernel_rfl) (of_decide_eq_true (by kernel_rfl)) k0 bel lt0) (trodAll_cons_mk (Below.trod laidOut (by kernel_rfl) (of_decide_eq_true (by kernel_rfl)) k1 bel lt1) (trodAll_cons_mk (Below.trod laidOut (by kernel_rfl) (of_decide_eq_true (by kernel_rfl)) k2 bel lt2) trodAll_mk0))), rfl, bel.frame _, fun h => by cases h⟩

theorem laid_met (os : Os) : laidMet Tryd.prog Rows.deltaBackRow.laid (({ World.holding Tryd.prog os ⟨#[], #[], []⟩ with heap := ((World.holding Tryd.prog os ⟨#[], #[], []⟩).heap.modify 2 (fun
      | .cells _ t frozen => .cells widT t frozen
      | o => o)) } : World).forCall (fun _ _ => 0) ⟨#[], #[.slice none 0 0, .slice none 0 0, .slice none 0 0], []⟩).memory :=
  laidMet_of_run' 8 (by kernel_rfl) (by kernel_rfl)
theorem reads (os : Os) {H : Type} (enc : TypeId × Value → H) : ∃ places, DataW.whole enc Tryd.prog (({ World.holding Tryd.prog os ⟨#[], #[], []⟩ with heap := ((World.holding Tryd.prog os ⟨#[], #[], []⟩).heap.modify 2 (fun
      | .cells _ t frozen => .cells widT t frozen
      | o => o)) } : World).forCall (fun _ _ => 0) ⟨#[], #[.slice none 0 0, .slice none 0 0, .slice none 0 0], []⟩).memory Tryd.f5.params.toList Rows.deltaBackSpec.vars false #[Value.slice none 0 0, .slice none 0 0, .slice none 0 0].toList 8 = some ([.nil, .nil, .nil], [], places) :=
  ⟨[], by kernel_rfl⟩

set_option maxRecDepth 100000 in
theorem lifted (os : Os) (started : os.Started) (H : Type) (enc : TypeId × Value → H) (F : Stop.Interp) :
    ReturnsInHanded {} Tryd.checked os 5 .any ((OpenSpec.ofChange Rows.deltaBackSpec).preRow enc Tryd.prog Tryd.f5 Rows.deltaBackRow.domain false Rows.deltaBackRow.laid) (((OpenSpec.ofChange Rows.deltaBackSpec).at F).post enc Tryd.prog Tryd.f5 false true false false) := by
  obtain ⟨places, hx⟩ := reads os enc
  refine returnsInHanded_of_row (C := Tryd.checked) (s := OpenSpec.ofChange Rows.deltaBackSpec) own started (by kernel_rfl) Tryd.func5
    (witness_row_at (enc := enc) (C := Tryd.checked) false ({ World.holding Tryd.prog os ⟨#[], #[], []⟩ with heap := ((World.holding Tryd.prog os ⟨#[], #[], []⟩).heap.modify 2 (fun
      | .cells _ t frozen => .cells widT t frozen
      | o => o)) } : World) #[.slice none 0 0, .slice none 0 0, .slice none 0 0] rfl (by kernel_rfl) (by kernel_rfl) (by kernel_rfl)
      (OpenSpec.preRow_of_cond 8 hx (by kernel_rfl) (fun k hk => by cases hk) (by kernel_rfl) (laid_met os))) ?_
  intro W base args ds gs before hval hW _ _ hsz hL _ _
  exact contract H enc W base args ds gs before hval hW hL hsz

theorem said : Rows.DeltaBackSaid :=
  OpenClaim.holds_of_cond 5 Tryd.f5 rfl rfl rfl rfl rfl rfl rfl ⟨rfl, rfl, rfl, rfl, rfl⟩ rfl rfl rfl rfl rfl (by kernel_rfl) Tryd.func5 (by kernel_rfl)
    (of_decide_eq_true (by kernel_rfl)) (by unfold Func.isWrapper; first | (rw [if_pos (by decide +kernel)]; kernel_rfl) | (rw [if_neg (by decide +kernel)]; exact ⟨rfl, rfl⟩))
    (fun os started H enc _ F => by rw [OpenClaim.pre_eq_preRow]; exact lifted os started H enc F)

theorem plain (f : FuncId) (fn : Func) (hf : Tryd.pinned.checked.prog.funcNamed "sumpter/sumpterlaw13.DeltaBack" = some f) (hfn : Tryd.pinned.checked.prog.funcs[f]? = some fn) :
    true = Tryd.pinned.checked.prog.looks [] ∧ ∀ (j : Nat) t, fn.params[j]? = some t → Tryd.pinned.checked.prog.wantsStandIn t = false := by
  obtain rfl : f = 5 := Option.some.inj ((show Tryd.prog.funcNamed "sumpter/sumpterlaw13.DeltaBack" = some 5 by kernel_rfl).symm.trans hf) |>.symm
  obtain rfl : fn = Tryd.f5 := (Option.some.inj (Tryd.func5.symm.trans hfn)).symm
  refine ⟨by kernel_rfl, fun j t ht => ?_⟩
  rw [Tryd.params5] at ht
  have hm : t ∈ [22, 23, 22] := by simpa using Array.mem_of_getElem? ht
  have hall : ([22, 23, 22].all fun u => !Tryd.prog.wantsStandIn u) = true := by kernel_rfl
  exact (show Tryd.prog.wantsStandIn t = false by simpa using List.all_eq_true.1 hall t hm)
end Go.Proofs.YtgnampbbkaolmaaDoor.deltaBack

namespace Go.Proofs.YtgnampbbkaolmaaDoor
/-- The card of DeltaBack. -/
theorem deltaBack_card : Rows.DeltaBackCardSaid :=
  Claim7.holds_tied_plain_at .later [] _ _ _ _ deltaBack.said (fun _ h => by cases h) (by kernel_rfl) (fun _ h => by cases h) deltaBack_row_tie rfl ⟨rfl, rfl⟩ (by kernel_rfl) rfl deltaBack.plain (by kernel_rfl)
#print axioms deltaBack_card
end Go.Proofs.YtgnampbbkaolmaaDoor
