/-
  TreePuts: for every list of entries and every entry: put into the list, or removed, it leaves the list that the document says, or it is told why not; the list stays as it is, whatever is written into the answer. No condition.
-/
import Derived.Test.YtdomknajkipmnaaDoorAw
import Derived.Test.YtdomknajkipmnaaDoorFr
import Derived.Test.YtdomknajkipmnaaDoorR1
import Derived.Test.YtdomknajkipmnaaDoorRg
import Derived.Test.YtdomknajkipmnaaDoorRcp
import Derived.Test.YtdomknajkipmnaaDoorRpu
import Derived.Test.YtdomknajkipmnaaDoorRrm
import Derived.Test.YtdomknajkipmnaaDoorQe
namespace Go.Proofs.YtdomknajkipmnaaDoor.treePuts
open Go.ChangeShapes Go.WideShapes Go.ChangeAt Go.RowKit Go.Deep Go.ChangeMaps

set_option maxHeartbeats 8000000 in
set_option maxRecDepth 100000 in
theorem walk (v : Value) (l : List En) (u : Value) (x : En) (w : World) (hw : Mx w) (hes : ES w v l) (hev : EV w u x) :
    Calls Tryd.prog 5 #[v, u] w fun e w' => e = .returned (.bool true) ∧ Below w.heap.size w w' := by
  obtain ⟨a, c, rfl, g2, g3, _⟩ := hes.shape
  obtain ⟨ua, un, uc, rfl, sl⟩ := hev
  have HM : Hid (Mx w) := hw
  have HS : Hid (ES w (.slice a l.length c) l) := hes
  have HSX : Hid (∀ W, Below w.heap.size w W → EV W (.agg #[.string x.p, .bool x.d, .slice ua un uc]) x) := fun W hb => ⟨ua, un, uc, rfl, sl.kept hb⟩
  obtain ⟨W1, hW1⟩ : ∃ W1, W1 = w.alloc (.cells #[.string x.p, .bool x.d, .slice ua un uc] 32) := ⟨_, rfl⟩
  have b1 : Below w.heap.size w W1 := by rw [hW1]; exact (Below.refl _ _).alloc (Nat.le_refl _) _
  have B1 : Hid (Below w.heap.size w W1) := b1
  have K1 : Hid (W1.heap[w.heap.size]? = some (.cells #[.string x.p, .bool x.d, .slice ua un uc] 32 (0, 0))) := by unfold Hid; rw [hW1]; exact heap_alloc_new _ _
  have HT : Hid (∀ W, Below W1.heap.size W1 W → W.heap[w.heap.size]? = some (.cells #[.string x.p, .bool x.d, .slice ua un uc] 32 (0, 0))) := fun W hb => (hb.block _ (lt_of_block K1.out)).trans K1.out
  have CL := light_any _ l 70 70000 W1 (HS.out.kept b1) (by omega) (by omega) (by unfold maxLen at g3; omega)
  have g9 : l.length ≤ 9223372036854775807 := by unfold maxLen at g3; omega
  obtain ⟨G1, hG1⟩ : ∃ G1 : Prop, G1 = (l.length ≤ 70 ∧ ∀ x ∈ l, x.p.size ≤ 1000 ∧ x.z.length ≤ 70000) := ⟨_, rfl⟩
  rw [← hG1] at CL
  have HG1 : Hid (G1 = (l.length ≤ 70 ∧ ∀ x ∈ l, x.p.size ≤ 1000 ∧ x.z.length ≤ 70000)) := hG1
  obtain ⟨n, hn'⟩ : ∃ n, n = l.length := ⟨_, rfl⟩
  have HN : Hid (n = l.length) := hn'
  rw [← hn'] at HS CL g2 g9 ⊢
  clear hw hes sl g3 hG1 hn' b1
  generalize hxp : x.p = xp at *
  generalize hxd : x.d = xd at *
  have HXP : Hid (x.p = xp) := hxp
  have HXD : Hid (x.d = xd) := hxd
  clear hxp hxd
  obtain ⟨p0, p1, p2, -, -, -⟩ := trio K1.out
  go_enter Tryd.func5, Tryd.ntmps5
  go_wp2_with fail
  rw [← hW1]
  clear hW1
  refine CL.mono ?_
  rintro e wq ⟨r, rfl, hq, hr⟩
  replace hq := hq.symm
  subst hq
  have HR : Hid (r = true → G1) := hr
  clear hr CL
  cases r with
  | false =>
    have aw := awake_any W1 (HM.out.kept B1.out)
    go_wp2_with (go_at_call 9; refine aw.mono ?_; rintro e w2 ⟨rfl, b2⟩)
    go_ret
    exact ⟨rfl, B1.out.trans (b2.mono B1.out.size)⟩
  | true =>
    have hG := HR.out rfl
    rw [HG1.out] at hG
    obtain ⟨hl70, hsz⟩ := hG
    have HSZ : Hid (∀ x ∈ l, x.p.size ≤ 1000 ∧ x.z.length ≤ 70000) := hsz
    have hn60 : n ≤ 70 := by rw [HN.out]; exact hl70
    have LL : Hid (Lt l) := ⟨by omega, fun y hy => by have := hsz y hy; omega⟩
    obtain ⟨W2, hW2⟩ : ∃ W2, W2 = W1.alloc (.cells #[.string xp, .bool xd, .slice ua un uc] 32) := ⟨_, rfl⟩
    have b2 : Below W1.heap.size W1 W2 := by rw [hW2]; exact (Below.refl _ _).alloc (Nat.le_refl _) _
    have D2 : Hid (Below W1.heap.size W1 W2) := b2
    have B2 : Hid (Below w.heap.size w W2) := B1.out.trans (b2.mono B1.out.size)
    have k2 : W2.heap[W1.heap.size]? = some (.cells #[.string xp, .bool xd, .slice ua un uc] 32 (0, 0)) := by rw [hW2]; exact heap_alloc_new _ _
    have es2 : ES W2 (.slice (some ⟨W1.heap.size, 0, none⟩) 1 1) [x] := by
      obtain ⟨ua', un', uc', e, sl⟩ := HSX.out W2 B2.out
      cases e
      refine ⟨fun _ => .slice ua un uc, _, 1, rfl, Nat.le_refl _, by unfold maxLen; omega, (fun e => by cases e), .inr ⟨_, 0, rfl, fun i hi => ?_⟩⟩
      obtain rfl : i = 0 := by simpa using hi
      obtain ⟨q0, q1, q2, -, -, -⟩ := trio k2
      rw [← HXP.out] at q0
      rw [← HXD.out] at q1
      exact ⟨q0, q1, q2, sl⟩
    have CL2 := light_any _ [x] 1 70000 W2 es2 (by omega) (by omega) (by simp)
    obtain ⟨G2, hG2⟩ : ∃ G2 : Prop, G2 = ([x].length ≤ 1 ∧ ∀ y ∈ [x], y.p.size ≤ 1000 ∧ y.z.length ≤ 70000) := ⟨_, rfl⟩
    rw [← hG2] at CL2
    have HG2 : Hid (G2 = ([x].length ≤ 1 ∧ ∀ y ∈ [x], y.p.size ≤ 1000 ∧ y.z.length ≤ 70000)) := hG2
    clear hG2 es2 k2 b2 HR HG1 hl70 hsz
    go_wp2_with fail
    rw [← hW2]
    clear hW2
    refine CL2.mono ?_
    rintro e wq ⟨r, rfl, hq, hr⟩
    replace hq := hq.symm
    subst hq
    have HR : Hid (r = true → G2) := hr
    clear hr CL2 p0 p1 p2
    have aw2 := awake_any W2 (HM.out.kept B2.out)
    cases r with
    | false =>
      go_wp2_with (go_at_call 9; refine aw2.mono ?_; rintro e w3 ⟨rfl, b3⟩)
      go_ret
      exact ⟨rfl, B2.out.trans (b3.mono B2.out.size)⟩
    | true =>
      have hG := HR.out rfl
      rw [HG2.out] at hG
      have hxs := hG.2 x (by simp)
      have HX : Hid (x.p.size ≤ 1000 ∧ x.z.length ≤ 70000) := hxs
      clear hG hxs HR HG2
      clear aw2
      obtain ⟨p0, p1, p2, -, -, -⟩ := trio (HT.out W2 D2.out)
      have HRP : Hid (rput l x = put l x) := rput_eq l x
      have HRM : Hid (rrem l x.k = rem l x.k) := rrem_eq l x.k
      have CC := rcopy_any _ l W2 (HS.out.kept B2.out) LL.out
      have CP : Hid (∀ W y, Below w.heap.size w W → ES W y l → Calls Tryd.prog 25 #[y, .agg #[.string xp, .bool xd, .slice ua un uc]] W fun e w' => ∃ v', e = .returned (.tuple #[v', .int .i64 (put l x).2]) ∧ OE w' W.heap.size v' (put l x).1 ∧ Below W.heap.size W w') := fun W y hb hy => put_any _ _ l x W hy LL.out (HSX.out W hb) HX.out.1 (by have := HX.out.2; omega) (HM.out.kept hb)
      have CQ : Hid (∀ W, Below w.heap.size w W → Calls Tryd.prog 26 #[.slice a n c, .agg #[.string xp, .bool xd, .slice ua un uc]] W fun e w' => ∃ v', e = .returned (.tuple #[v', .int .i64 (put l x).2]) ∧ ES w' v' (put l x).1 ∧ Below W.heap.size W w') := fun W hb => by
        have := rput_any _ _ l x W (HS.out.kept hb) LL.out (HSX.out W hb) HX.out.1 (by have := HX.out.2; omega)
        rwa [HRP.out] at this
      have CR : Hid (∀ W y, Below w.heap.size w W → ES W y l → Calls Tryd.prog 27 #[y, .string xp] W fun e w' => ∃ v', e = .returned (.tuple #[v', .int .i64 (rem l x.k).2]) ∧ OE w' W.heap.size v' (rem l x.k).1 ∧ Below W.heap.size W w') := fun W y hb hy => by
        have e := HXP.out
        subst e
        exact rem_any y l x.p W hy LL.out (HM.out.kept hb)
      have CS : Hid (∀ W, Below w.heap.size w W → Calls Tryd.prog 28 #[.slice a n c, .string xp] W fun e w' => ∃ v', e = .returned (.tuple #[v', .int .i64 (rem l x.k).2]) ∧ ES w' v' (rem l x.k).1 ∧ Below W.heap.size W w') := fun W hb => by
        have e := HXP.out
        subst e
        have := rrem_any _ l x.p W (HS.out.kept hb) LL.out
        rwa [HRM.out] at this
      have SAM : Hid (∀ (m : List En) W y z, m.length ≤ 100000 → ES W y m → ES W z m → Calls Tryd.prog 15 #[y, z] W fun e w' => e = .returned (.bool true) ∧ Below W.heap.size W w') := fun m W y z hm hy hz => by
        have := rsame_any y z m m W hy hz hm hm
        rwa [(sam_iff m m).2 rfl] at this
      have hpl : (put l x).1.length ≤ 100000 := by
        unfold put
        split
        · simp
        split
        · simp
        split
        · simp
        · have := mad_len l x
          rw [this]
          split <;> (have := LL.out.1; omega)
      have hrl : (rem l x.k).1.length ≤ 100000 := by
        unfold rem
        split
        · simp
        split
        · simp
        split
        · simp
        · rw [List.length_append, List.length_take, List.length_drop]
          have := LL.out.1
          omega
      have hll : l.length ≤ 100000 := by have := LL.out.1; omega
      clear HRP HRM
      generalize (put l x).2 = e1 at *
      generalize (put l x).1 = M at *
      generalize (rem l x.k).2 = e2 at *
      generalize (rem l x.k).1 = R at *
      go_wp2_with fail
      refine CC.mono ?_
      rintro e w3 ⟨v3, rfl, o3, b3⟩
      have D3 : Hid (Below W1.heap.size W1 w3) := D2.out.trans (b3.mono D2.out.size)
      have B3 : Hid (Below w.heap.size w w3) := B2.out.trans (b3.mono B2.out.size)
      have E3 : Hid (ES w3 v3 l) := o3.es
      obtain ⟨a3, c3, rfl, -⟩ := o3.es.shape
      rw [← HN.out] at E3 ⊢
      have cp := CP.out w3 _ B3.out E3.out
      clear b3 o3 CC p0 p1 p2
      obtain ⟨p0, p1, p2, -, -, -⟩ := trio (HT.out w3 D3.out)
      go_wp2_with fail
      refine cp.mono ?_
      rintro e w4 ⟨v4, rfl, o4, b4⟩
      have A4 : Hid (Below w3.heap.size w3 w4) := b4
      have D4 : Hid (Below W1.heap.size W1 w4) := D3.out.trans (b4.mono D3.out.size)
      have B4 : Hid (Below w.heap.size w w4) := B3.out.trans (b4.mono B3.out.size)
      have E4 : Hid (ES w4 v4 M) := o4.es
      obtain ⟨a4, c4, g, U, rfl, hc4, hg, qe⟩ := o4.qe
      have HG : Hid (M.length ≠ 0 → a4 = some ⟨g, 0, none⟩) := hg
      have Q4 : Hid (QE w4 w3.heap.size g M.length U) := qe
      have cq := CQ.out w4 B4.out
      clear b4 o4 cp p0 p1 p2 hg qe
      obtain ⟨p0, p1, p2, -, -, -⟩ := trio (HT.out w4 D4.out)
      obtain ⟨nM, hnM⟩ : ∃ nM, nM = M.length := ⟨_, rfl⟩
      have HNM : Hid (nM = M.length) := hnM
      have hnM5 : nM ≤ 100000 := by rw [hnM]; exact hpl
      rw [← hnM] at E4 HG Q4 hc4 ⊢
      clear hnM
      go_wp2_with fail
      refine cq.mono ?_
      rintro e w5 ⟨v5, rfl, e5, b5⟩
      have F5 : Hid (Below w4.heap.size w4 w5) := b5
      have D5 : Hid (Below W1.heap.size W1 w5) := D4.out.trans (b5.mono D4.out.size)
      have B5 : Hid (Below w.heap.size w w5) := B4.out.trans (b5.mono B4.out.size)
      have A5 : Hid (Below w3.heap.size w3 w5) := A4.out.trans (b5.mono A4.out.size)
      have E5 : Hid (ES w5 v5 M) := e5
      obtain ⟨a5, c5, rfl, -⟩ := e5.shape
      rw [← HNM.out] at E5 ⊢
      have cr := CR.out w5 _ B5.out (E3.out.kept A5.out)
      clear b5 e5 cq p0 p1 p2
      obtain ⟨p0, p1, p2, -, -, -⟩ := trio (HT.out w5 D5.out)
      go_wp2_with fail
      refine cr.mono ?_
      rintro e w6 ⟨v6, rfl, o6, b6⟩
      have F6 : Hid (Below w4.heap.size w4 w6) := F5.out.trans (b6.mono F5.out.size)
      have G6 : Hid (Below w5.heap.size w5 w6) := b6
      have D6 : Hid (Below W1.heap.size W1 w6) := D5.out.trans (b6.mono D5.out.size)
      have B6 : Hid (Below w.heap.size w w6) := B5.out.trans (b6.mono B5.out.size)
      have E6 : Hid (ES w6 v6 R) := o6.es
      obtain ⟨a6, c6, rfl, -⟩ := o6.es.shape
      have cs := CS.out w6 B6.out
      clear b6 o6 cr p0 p1 p2
      obtain ⟨p0, p1, p2, -, -, -⟩ := trio (HT.out w6 D6.out)
      obtain ⟨nR, hnR⟩ : ∃ nR, nR = R.length := ⟨_, rfl⟩
      have HNR : Hid (nR = R.length) := hnR
      rw [← hnR] at E6 ⊢
      clear hnR
      go_wp2_with fail
      refine cs.mono ?_
      rintro e w7 ⟨v7, rfl, e7, b7⟩
      have F7 : Hid (Below w4.heap.size w4 w7) := F6.out.trans (b7.mono F6.out.size)
      have G7 : Hid (Below w5.heap.size w5 w7) := G6.out.trans (b7.mono G6.out.size)
      have H7 : Hid (Below w6.heap.size w6 w7) := b7
      have E7 : Hid (ES w7 v7 R) := e7
      obtain ⟨a7, c7, rfl, -⟩ := e7.shape
      rw [← HNR.out] at E7 ⊢
      have s1 := SAM.out M w7 _ _ hpl (E4.out.kept F7.out) (E5.out.kept G7.out)
      clear b7 e7 cs p0 p1 p2
      go_wp2_with fail
      refine s1.mono ?_
      rintro e w8 ⟨rfl, b8⟩
      have F8 : Hid (Below w4.heap.size w4 w8) := F7.out.trans (b8.mono F7.out.size)
      have s2 := SAM.out R w8 _ _ hrl (E6.out.kept (H7.out.trans (b8.mono H7.out.size))) (E7.out.kept b8)
      clear b8 s1
      go_wp2_with fail
      refine s2.mono ?_
      rintro e w9 ⟨rfl, b9⟩
      have F9 : Hid (Below w4.heap.size w4 w9) := F8.out.trans (b9.mono F8.out.size)
      have A9 : Hid (Below w3.heap.size w3 w9) := A4.out.trans (F9.out.mono A4.out.size)
      have B9 : Hid (Below w.heap.size w w9) := B3.out.trans (A9.out.mono B3.out.size)
      have s3 := SAM.out l w9 _ _ hll (E3.out.kept A9.out) (HS.out.kept B9.out)
      clear b9 s2
      go_wp2_with fail
      refine s3.mono ?_
      rintro e w10 ⟨rfl, b10⟩
      have F10 : Hid (Below w4.heap.size w4 w10) := F9.out.trans (b10.mono F9.out.size)
      have A10 : Hid (Below w3.heap.size w3 w10) := A4.out.trans (F10.out.mono A4.out.size)
      have Q10 : Hid (QE w10 w3.heap.size g nM U) := Q4.out.kept F10.out (fun b k hb => below_frozen F10.out b k hb)
      clear b10 s3 Q4 F5 F6 F7 F8 F9 G6 G7 H7 A9 B9
      go_wp2_with fail
      go_loopw [15] (fun q wr => ∃ j : Nat, j ≤ nM ∧ q = .int .i64 j ∧ QE wr w3.heap.size g nM U ∧ Below w3.heap.size w3 wr) (fun q _ => nM - (intOf q).toNat)
      case atStart => exact ⟨0, by omega, rfl, Q10.out, A10.out⟩
      case round =>
        obtain ⟨j, hj, rfl, qe, bel⟩ := hrel
        have HB : Hid (Below w3.heap.size w3 wr) := bel
        have HQ : Hid (QE wr w3.heap.size g nM U) := qe
        clear bel
        by_cases hlt : j < nM
        · have lt2 : (j : Int) < (nM : Int) := by omega
          have g0 : (0 : Int) ≤ (j : Int) := by omega
          have q1 : IntKind.i64.wrap ((j : Int) + 1) = ((j + 1 : Nat) : Int) := by simp [IntKind.wrap, IntKind.bits, IntKind.signed]; omega
          have hag := HG.out (by omega)
          subst hag
          obtain ⟨A, len, cap, hU, hl1, hl2, hl3, -⟩ := qe.2 j hlt
          have hlen : len ≤ 9223372036854775807 := by unfold maxLen at hl2; omega
          have HU : Hid (U j = .slice A len cap) := hU
          have h63 : (len : Int) ≤ 9223372036854775807 := by omega
          clear qe hU hl1 hl2
          go_wp2_with fail
          go_loopw [16] (fun q wz => ∃ k : Nat, k ≤ len ∧ q = .int .i64 k ∧ QE wz w3.heap.size g nM U ∧ Below w3.heap.size w3 wz) (fun q _ => len - (intOf q).toNat)
          case atStart => exact ⟨0, by omega, rfl, HQ.out, HB.out⟩
          case round =>
            obtain ⟨k, hk, rfl, qz, bz⟩ := hrel
            obtain ⟨y0, ⟨yp, y1⟩, y2, y3⟩ := qz.1 j hlt
            rw [HU.out] at y3
            have HBZ : Hid (Below w3.heap.size w3 wr) := bz
            have q2 := qz.2 j hlt
            by_cases hkl : k < len
            · have lt3 : (k : Int) < (len : Int) := by omega
              have gk0 : (0 : Int) ≤ (k : Int) := by omega
              have q4 : IntKind.i64.wrap ((k : Int) + 1) = ((k + 1 : Nat) : Int) := by simp [IntKind.wrap, IntKind.bits, IntKind.signed]; omega
              obtain ⟨A', len', cap', e, -, -, l3, l4⟩ := q2
              rw [HU.out] at e
              cases e
              cases A with
              | none =>
                have := l3 rfl
                omega
              | some hh =>
                obtain ⟨m1, m2, m3, m4, m5⟩ := l4 hh rfl
                obtain ⟨hb, ho, hsp⟩ := hh
                dsimp only at m1 m2 m3 m4 m5
                subst m1 m2
                obtain ⟨z, r1, r2, r3, r4⟩ := m5 k hkl
                obtain ⟨z', hz'⟩ : ∃ z', z' = IntKind.u8.wrap (z + 1) := ⟨_, rfl⟩
                have hz2 : 0 ≤ z' ∧ z' < 256 := by rw [hz']; simp [IntKind.wrap, IntKind.bits, IntKind.signed]; omega
                have hz3 : IntKind.u8.wrap (z + 1) = z' := hz'.symm
                have QN : Hid (QE (wr.setCell ⟨hb, k, none⟩ (.int .u8 z')) w3.heap.size g nM U) := qz.byte z' hz2 m4 ⟨_, r1⟩
                have BN : Hid (Below w3.heap.size w3 (wr.setCell ⟨hb, k, none⟩ (.int .u8 z'))) := HBZ.out.setCell m3 _
                clear hz' hz2 m5 l4 l3 m3 m4 qz bz HBZ HQ HB hl3 y0 y1 y2
                go_wp2
                go_roundw
                case rel => exact ⟨k + 1, by omega, by go_num, QN.out, BN.out⟩
                case measure => simp [intOf]; omega
            · obtain rfl : k = len := by omega
              have QN : Hid (QE (wr.setCell ⟨g, j * 3, none⟩ (.string ⟨#[63]⟩)) w3.heap.size g nM U) := qz.path ⟨#[63]⟩ ⟨_, y1⟩
              have BN : Hid (Below w3.heap.size w3 (wr.setCell ⟨g, j * 3, none⟩ (.string ⟨#[63]⟩))) := HBZ.out.setCell y0 _
              clear qz bz HBZ HQ HB hl3 q2
              go_wp2
              go_roundw
              case rel => exact ⟨j + 1, by omega, by go_num, QN.out, BN.out⟩
              case measure => simp [intOf]; omega
        · obtain rfl : j = nM := by omega
          have B11 : Hid (Below w.heap.size w wr) := B3.out.trans (HB.out.mono B3.out.size)
          have s4 := SAM.out l wr _ _ hll (E3.out.kept HB.out) (HS.out.kept B11.out)
          go_wp2_with fail
          refine s4.mono ?_
          rintro e w11 ⟨rfl, b11⟩
          have B12 : Hid (Below w.heap.size w w11) := B11.out.trans (b11.mono B11.out.size)
          have aw := awake_any w11 (HM.out.kept B12.out)
          clear b11 s4
          go_wp2_with fail
          refine aw.mono ?_
          rintro e w12 ⟨rfl, b12⟩
          have B13 : Hid (Below w.heap.size w w12) := B12.out.trans (b12.mono B12.out.size)
          clear b12 aw
          go_wp2
          go_ret
          exact ⟨rfl, B13.out⟩

theorem contract (H : Type) (enc : TypeId × Value → H) (W : World) (base : Nat) (args : Array Value) (ds gs : List (DataW H)) (before : List MemPlace)
    (hval : ∀ (j : Nat) t v, Tryd.f5.params[j]? = some t → args[j]? = some v → Value.okWide Tryd.prog W .any base t v)
    (hW : DataW.Whole enc Tryd.prog Tryd.f5.params.toList Rows.treePutsSpec.vars false W args.toList ds gs before) (_hL : laidMetH Tryd.prog Rows.treePutsRow.laid W) (hsh : W.ShapedOpen Tryd.prog)
    (hsz0 : (DataW.weightsEach Tryd.prog (Tryd.f5.params.toList ++ Rows.treePutsSpec.plain.varTypes Tryd.prog) (ds ++ gs)).all (· ≤ reachBytes) = true) :
    Calls Tryd.prog 5 args W fun e W' => ∃ v, e = .returned v ∧ Rows.treePutsSpec.post enc Tryd.prog Tryd.f5 false true false false W args v W' := by
  have hW' := hW
  obtain ⟨p, q, hA0, hV, rfl, hfz, hnd⟩ := hW
  have hA : DataW.TrodAll enc Tryd.prog W 0 (fun _ => true) true Tryd.f5.params.toList args.toList ds p := hA0
  rw [Tryd.params5] at hA hval hsz0
  obtain ⟨v0, vs0, d0, ds0, p0, q0, hargs, rfl, rfl, h0, r0⟩ := trodAll_cons hA
  obtain ⟨v1, vs1, d1, ds1, p1, q1, rfl, rfl, rfl, h1, r1⟩ := trodAll_cons r0
  obtain ⟨rfl, rfl, rfl⟩ := trodAll_nil r1
  obtain rfl : args = #[v0, v1] := by cases args; simp_all
  obtain ⟨rfl, rfl⟩ := trodVars_none hV
  have k0 := h0
  have lt0 : ∀ x ∈ p0, x.block < W.heap.size := by obtain ⟨m, hm⟩ := k0; exact DataW.trod_lt m _ _ _ hm
  obtain ⟨L0, w0⟩ := ents_in (hval 0 22 v0 rfl rfl) h0
  have k1 := h1
  have lt1 : ∀ x ∈ p1, x.block < W.heap.size := by obtain ⟨m, hm⟩ := k1; exact DataW.trod_lt m _ _ _ hm
  obtain ⟨L1, w1⟩ := ent_in (hval 1 32 v1 rfl rfl) h1
  clear hA0
  refine (walk v0 L0 v1 L1 W (mx_of hsh) w0 w1).mono fun e W' ⟨he, bel⟩ => ?_
  subst he
  exact ⟨_, rfl, _, _, _, [], _, [], hW', trodAll_mk1 (shut_bool Tryd.underlying4 _), (trodAll_cons_mk (Below.trod laidOut (by kernel_rfl) (of_decide_eq_true (by kernel_rfl)) k0 bel lt0) (trodAll_cons_mk (Below.trod laidOut (by kernel_rfl) (of_decide_eq_true (by kernel_rfl)) k1 bel lt1) trodAll_mk0)), rfl, bel.frame _, fun h => by cases h⟩

theorem laid_met (os : Os) : laidMet Tryd.prog Rows.treePutsRow.laid (({ World.holding Tryd.prog os ⟨#[], #[], []⟩ with heap := ((((World.holding Tryd.prog os ⟨#[], #[], []⟩).heap.modify 0 (fun
      | .cells _ t frozen => .cells #[.int .i64 0] t frozen
      | o => o)).modify 1 (fun
      | .cells _ t frozen => .cells firstCells t frozen
      | o => o)).modify 2 (fun
      | .cells _ t frozen => .cells rangeCells t frozen
      | o => o)) } : World).forCall (fun _ _ => 0) ⟨#[], #[.slice none 0 0, .agg #[.string ⟨#[]⟩, .bool false, .slice none 0 0]], []⟩).memory :=
  laidMet_of_run' 8 (by kernel_rfl) (by kernel_rfl)
theorem reads (os : Os) {H : Type} (enc : TypeId × Value → H) : ∃ places, DataW.whole enc Tryd.prog (({ World.holding Tryd.prog os ⟨#[], #[], []⟩ with heap := ((((World.holding Tryd.prog os ⟨#[], #[], []⟩).heap.modify 0 (fun
      | .cells _ t frozen => .cells #[.int .i64 0] t frozen
      | o => o)).modify 1 (fun
      | .cells _ t frozen => .cells firstCells t frozen
      | o => o)).modify 2 (fun
      | .cells _ t frozen => .cells rangeCells t frozen
      | o => o)) } : World).forCall (fun _ _ => 0) ⟨#[], #[.slice none 0 0, .agg #[.string ⟨#[]⟩, .bool false, .slice none 0 0]], []⟩).memory Tryd.f5.params.toList Rows.treePutsSpec.vars false #[Value.slice none 0 0, .agg #[.string ⟨#[]⟩, .bool false, .slice none 0 0]].toList 8 = some ([.nil, .agg [.lit (.string []), .lit (.bool false), .nil]], [], places) :=
  ⟨[], by kernel_rfl⟩

set_option maxRecDepth 100000 in
theorem lifted (os : Os) (started : os.Started) (H : Type) (enc : TypeId × Value → H) (F : Stop.Interp) :
    ReturnsInHanded {} Tryd.checked os 5 .any ((OpenSpec.ofChange Rows.treePutsSpec).preRow enc Tryd.prog Tryd.f5 Rows.treePutsRow.domain false Rows.treePutsRow.laid) (((OpenSpec.ofChange Rows.treePutsSpec).at F).post enc Tryd.prog Tryd.f5 false true false false) := by
  obtain ⟨places, hx⟩ := reads os enc
  refine returnsInHanded_of_row (C := Tryd.checked) (s := OpenSpec.ofChange Rows.treePutsSpec) own started (by kernel_rfl) Tryd.func5
    (witness_row_at (enc := enc) (C := Tryd.checked) false ({ World.holding Tryd.prog os ⟨#[], #[], []⟩ with heap := ((((World.holding Tryd.prog os ⟨#[], #[], []⟩).heap.modify 0 (fun
      | .cells _ t frozen => .cells #[.int .i64 0] t frozen
      | o => o)).modify 1 (fun
      | .cells _ t frozen => .cells firstCells t frozen
      | o => o)).modify 2 (fun
      | .cells _ t frozen => .cells rangeCells t frozen
      | o => o)) } : World) #[.slice none 0 0, .agg #[.string ⟨#[]⟩, .bool false, .slice none 0 0]] rfl (by kernel_rfl) (by kernel_rfl) (by kernel_rfl)
      (OpenSpec.preRow_of_cond 8 hx (by kernel_rfl) (fun k hk => by cases hk) (by kernel_rfl) (laid_met os))) ?_
  intro W base args ds gs before hval hW _ _ hsz hL hsh _
  exact contract H enc W base args ds gs before hval hW hL hsh hsz

theorem said : Rows.TreePutsSaid :=
  OpenClaim.holds_of_cond 5 Tryd.f5 rfl rfl rfl rfl rfl rfl rfl ⟨rfl, rfl, rfl, rfl, rfl⟩ rfl rfl rfl rfl rfl (by kernel_rfl) Tryd.func5 (by kernel_rfl)
    (of_decide_eq_true (by kernel_rfl)) (by unfold Func.isWrapper; first | (rw [if_pos (by decide +kernel)]; kernel_rfl) | (rw [if_neg (by decide +kernel)]; exact ⟨rfl, rfl⟩))
    (fun os started H enc _ F => by rw [OpenClaim.pre_eq_preRow]; exact lifted os started H enc F)

theorem plain (f : FuncId) (fn : Func) (hf : Tryd.pinned.checked.prog.funcNamed "sumpter/sumpterlaw08.TreePuts" = some f) (hfn : Tryd.pinned.checked.prog.funcs[f]? = some fn) :
    false = Tryd.pinned.checked.prog.looks [] ∧ ∀ (j : Nat) t, fn.params[j]? = some t → Tryd.pinned.checked.prog.wantsStandIn t = false := by
  obtain rfl : f = 5 := Option.some.inj ((show Tryd.prog.funcNamed "sumpter/sumpterlaw08.TreePuts" = some 5 by kernel_rfl).symm.trans hf) |>.symm
  obtain rfl : fn = Tryd.f5 := (Option.some.inj (Tryd.func5.symm.trans hfn)).symm
  refine ⟨by kernel_rfl, fun j t ht => ?_⟩
  rw [Tryd.params5] at ht
  have hm : t ∈ [22, 32] := by simpa using Array.mem_of_getElem? ht
  have hall : ([22, 32].all fun u => !Tryd.prog.wantsStandIn u) = true := by kernel_rfl
  exact (show Tryd.prog.wantsStandIn t = false by simpa using List.all_eq_true.1 hall t hm)
end Go.Proofs.YtdomknajkipmnaaDoor.treePuts

namespace Go.Proofs.YtdomknajkipmnaaDoor
/-- The card of TreePuts. -/
theorem treePuts_card : Rows.TreePutsCardSaid :=
  Claim7.holds_tied_plain_at .later [] _ _ _ _ treePuts.said (fun _ h => by cases h) (by kernel_rfl) (fun _ h => by cases h) treePuts_row_tie rfl ⟨rfl, rfl⟩ (by kernel_rfl) rfl treePuts.plain (by kernel_rfl)
#print axioms treePuts_card
end Go.Proofs.YtdomknajkipmnaaDoor
