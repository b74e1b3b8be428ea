/-
  What one acknowledgement makes of packets that were sent one behind the other: those three or more below it are lost at once, the others when their time has come; for every input.
-/
import Derived.Test.YtamjbmbflllbfaaP3
namespace Go.Proofs.Ytamjbmbflllbfaa.lossThree
open Go.ChangeShapes Go.WideShapes Go.ChangeAt Go.RowKit Go.Deep Go.ChangeMaps
set_option maxRecDepth 100000

theorem tmodN (r m : Nat) : Int.tmod (r : Int) (m : Int) = ((r % m : Nat) : Int) := rfl
set_option maxHeartbeats 4000000 in
theorem walk (a0 a1 a2 : Int) (w : World) (h0 : (Lit.int .u8 a0).wf = true) (h1 : (Lit.int .u8 a1).wf = true) (h2 : (Lit.int .u16 a2).wf = true) :
    Calls Try.prog 6 #[.int .u8 a0, .int .u8 a1, .int .u16 a2] w fun e w' => e = .returned (.bool true) ∧ Below w.heap.size w w' := by
  have nb0 := bounds_u8 h0
  have nb1 := bounds_u8 h1
  have nb2 := bounds_u16 h2
  clear h0 h1 h2
  obtain ⟨r0, rfl⟩ : ∃ m : Nat, a0 = m := ⟨a0.toNat, by omega⟩
  obtain ⟨r1, rfl⟩ : ∃ m : Nat, a1 = m := ⟨a1.toNat, by omega⟩
  obtain ⟨r2, rfl⟩ : ∃ m : Nat, a2 = m := ⟨a2.toNat, by omega⟩
  have m0' : Int.tmod (r0 : Int) 60 = ((r0 % 60 : Nat) : Int) := tmodN r0 60
  have m2' : Int.tmod (r2 : Int) 1000 = ((r2 % 1000 : Nat) : Int) := tmodN r2 1000
  have c0 : IntKind.i64.wrap (r0 : Int) = (r0 : Int) := by clear m0' m2'; rw [IntKind.wrap_i64]; omega
  have c1 : IntKind.i64.wrap (r1 : Int) = (r1 : Int) := by clear m0' m2'; rw [IntKind.wrap_i64]; omega
  have c2 : IntKind.i64.wrap (r2 : Int) = (r2 : Int) := by clear m0' m2'; rw [IntKind.wrap_i64]; omega
  obtain ⟨nm, hnm⟩ : ∃ nm : Nat, nm = r0 % 60 := ⟨_, rfl⟩
  obtain ⟨tm', htm⟩ : ∃ tm' : Nat, tm' = r2 % 1000 := ⟨_, rfl⟩
  have hnml : nm < 60 := by rw [hnm]; exact Nat.mod_lt _ (by decide)
  have html : tm' < 1000 := by rw [htm]; exact Nat.mod_lt _ (by decide)
  rw [← hnm] at m0'
  rw [← htm] at m2'
  clear hnm htm nb0 nb1 nb2
  have HM0 : Hid (Int.tmod (r0 : Int) 60 = (nm : Int)) := m0'
  have HM2 : Hid (Int.tmod (r2 : Int) 1000 = (tm' : Int)) := m2'
  have HC : Hid (IntKind.i64.wrap (r0 : Int) = (r0 : Int) ∧ IntKind.i64.wrap (r1 : Int) = (r1 : Int) ∧ IntKind.i64.wrap (r2 : Int) = (r2 : Int)) := ⟨c0, c1, c2⟩
  clear m0' m2' c0 c1 c2
  obtain ⟨n, hn⟩ : ∃ n : Nat, n = 1 + nm := ⟨_, rfl⟩
  obtain ⟨t, ht⟩ : ∃ t : Nat, t = 1 + tm' := ⟨_, rfl⟩
  have hn60 : n ≤ 60 := by omega
  have ht1 : t ≤ 1000 := by omega
  have ht0 : 1 ≤ t := by omega
  have d0 : IntKind.i64.wrap (1 + (nm : Int)) = (n : Int) := by rw [IntKind.wrap_i64]; omega
  have d2 : IntKind.i64.wrap (1 + (tm' : Int)) = (t : Int) := by rw [IntKind.wrap_i64]; omega
  have e0 : IntKind.i64.wrap (nm : Int) = (nm : Int) := by rw [IntKind.wrap_i64]; omega
  have e2 : IntKind.i64.wrap (tm' : Int) = (tm' : Int) := by rw [IntKind.wrap_i64]; omega
  have nz : ¬ (n : Int) = 0 := by omega
  have hn1 : 1 ≤ n := by omega
  clear hn ht hnml html
  have hk : ∃ k : Nat, k < n ∧ Int.tmod (r1 : Int) (n : Int) = (k : Int) := ⟨r1 % n, Nat.mod_lt _ (by omega), tmodN r1 n⟩
  obtain ⟨k, hkn, m1⟩ := hk
  have HM1 : Hid (Int.tmod (r1 : Int) (n : Int) = (k : Int)) := m1
  clear m1
  have e1 : IntKind.i64.wrap (k : Int) = (k : Int) := by rw [IntKind.wrap_i64]; omega
  have HP : Hid (P3 n k (t : Int)) := p3 (n := n) (k := k) (t := (t : Int)) hkn hn60 (by omega) (by omega)
  have HTT : Hid (1 ≤ t ∧ t ≤ 1000) := ⟨ht0, ht1⟩
  clear ht0
  have cn := lnew_any w w.heap.size
  obtain ⟨hA, eA⟩ : ∃ x, x = w.heap.size := ⟨_, rfl⟩
  have HEA : Hid (hA = w.heap.size) := eA
  rw [← eA] at cn
  obtain ⟨c0, c1, c2⟩ := HC.out
  have m0 := HM0.out
  have m1 := HM1.out
  have m2 := HM2.out
  clear HC HM0 HM1 HM2
  go_enter Try.func6, Try.ntmps6
  go_wp2_with fail
  refine cn.mono ?_
  rintro e w1 ⟨rfl, q1, ls⟩
  have b1 : Below w.heap.size w w1 := by rw [q1]; exact al_b _ _
  have HB1 : Hid (Below w.heap.size w w1) := b1
  have HL1 : Hid (LS w1 hA hA (.slice none 0 0) (stT 5 10 0)) := ls
  clear cn q1 ls b1 eA
  go_wp2
  clear c0 c1 c2 d0 d2 e0 e1 e2 m0 m1 m2 nz
  go_loopw [11] (fun u wr => ∃ (j : Nat) (v : Value), j ≤ n ∧ u = .int .i64 j ∧ LS wr hA hA v (stT 5 10 j) ∧ Below w.heap.size w wr) (fun u _ => n - (intOf u).toNat)
  case atStart => exact ⟨0, _, by omega, rfl, HL1.out, HB1.out⟩
  case round =>
    obtain ⟨j, v, hj, rfl, ls, bel⟩ := hrel
    have HB : Hid (Below w.heap.size w wr) := bel
    have HL : Hid (LS wr hA hA v (stT 5 10 j)) := ls
    clear HL1 HB1
    by_cases hjn : j < n
    · have lt2 : (j : Int) < (n : Int) := by omega
      have cs := sent_any wr hA hA v (stT 5 10 j) ⟨(j : Int), 5, 10, true⟩ ls (by have := HEA.out; have := bel.size; omega)
      obtain ⟨s1, s2⟩ := stT_next (t := 5) (z := 10) (n := j) (by omega) (by omega) (by omega) (by omega) (by omega)
      rw [s1, s2] at cs
      clear ls bel s1 s2
      go_wp2_with fail
      refine cs.mono ?_
      rintro e w2 ⟨rfl, v2, l2, u2⟩
      have HB2 : Hid (Below w.heap.size w w2) := u2.below HB.out HB.out.size (by have := HEA.out; omega) (fun k hk => by have := HL.out.rs.base hk; have := HEA.out; omega)
      have HL2 : Hid (LS w2 hA hA v2 (stT 5 10 (j + 1))) := l2
      clear cs l2 u2
      go_wp2
      go_roundw
      case rel => exact ⟨j + 1, v2, by omega, by go_num, HL2.out, HB2.out⟩
      case measure => simp [intOf]; omega
    · obtain rfl : j = n := by omega
      have lt2 : ¬ (j : Int) < (j : Int) := by omega
      obtain ⟨W3, hW3⟩ : ∃ W3, W3 = wr.alloc (.cells #[.int .i64 (k : Int), .int .i64 (k : Int)] 45) := ⟨_, rfl⟩
      have b3 : Below wr.heap.size wr W3 := by rw [hW3]; exact al_b _ _
      have u3 : SSp W3 (.slice (some ⟨wr.heap.size, 0, none⟩) 1 1) [((k : Int), (k : Int))] := by rw [hW3]; exact ssp_one wr ((k : Int), (k : Int))
      have HB3 : Hid (Below w.heap.size w W3) := bel.trans (b3.mono bel.size)
      have hgl := blk_lt ls.bk
      have cb := ack_any W3 hA hA v _ (stT 5 10 j) [((k : Int), (k : Int))] 5 (ls.below b3) (by have := HEA.out; have := HB3.out.size; omega) u3 (by simp) (fun a n c e q => by cases e; have := ls.rs.lt q; simp only at this; omega) (fun a n c e => by cases e; simp only; omega)
      rw [HP.out.c0, HP.out.ar, HP.out.ag, HP.out.an] at cb
      have HBA : Hid (∀ v : Value, ∀ w' s, LS w' hA hA v s → ∀ k, v.ownBlock = some k → w.heap.size ≤ k) := fun v w' s ls k hk => by have := ls.rs.base hk; have := HEA.out; omega
      have HLV : Hid (∀ k, v.ownBlock = some k → w.heap.size ≤ k) := HBA.out v _ _ ls
      obtain ⟨hq, ehq⟩ : ∃ x, x = wr.heap.size := ⟨_, rfl⟩
      rw [← ehq] at cb
      clear ls bel b3 u3 hgl
      go_upto_region 10 with fail
      go_wp2_with fail
      try rw [← hW3]
      try rw [← ehq]
      clear hW3 ehq
      refine cb.mono ?_
      rintro e w4 ⟨vt, v4, rfl, rt, l4, u4⟩
      obtain ⟨ta, tc, rfl, -⟩ := id rt.is.shape
      have b4 : Below w.heap.size w w4 := u4.below HB3.out HB3.out.size (by have := HEA.out; omega) HLV.out
      have HB4 : Hid (Below w.heap.size w w4) := b4
      have cl := lost_any w4 hA hA v4 _ 5 (t : Int) l4 (by have := HEA.out; have := b4.size; omega)
      have HL4 : Hid (∀ k, v4.ownBlock = some k → w.heap.size ≤ k) := HBA.out v4 _ _ l4
      rw [HP.out.l1, HP.out.s1] at cl
      clear cb rt l4 u4 b4
      go_wp2_with fail
      refine cl.mono ?_
      rintro e w5 ⟨vt5, v5, rfl, rt5, l5, u5⟩
      obtain ⟨ta5, tc5, rfl, -⟩ := id rt5.is.shape
      have b5 : Below w.heap.size w w5 := u5.below HB4.out HB4.out.size (by have := HEA.out; omega) HL4.out
      have HB5 : Hid (Below w.heap.size w w5) := b5
      have HL5 : Hid (∀ k, v5.ownBlock = some k → w.heap.size ≤ k) := HBA.out v5 _ _ l5
      have cl := lost_any w5 hA hA v5 _ (4 + (t : Int)) (t : Int) l5 (by have := HEA.out; have := b5.size; omega)
      rw [HP.out.l2, HP.out.s2] at cl
      have x4 : IntKind.i64.wrap (4 + (t : Int)) = 4 + (t : Int) := by have := HTT.out; rw [IntKind.wrap_i64]; omega
      rw [iv_len]
      clear rt5 l5 u5 b5
      go_wp2_with fail
      refine cl.mono ?_
      rintro e w6 ⟨vt6, v6, rfl, rt6, l6, u6⟩
      obtain ⟨ta6, tc6, rfl, -⟩ := id rt6.is.shape
      have b6 : Below w.heap.size w w6 := u6.below HB5.out HB5.out.size (by have := HEA.out; omega) HL5.out
      have HB6 : Hid (Below w.heap.size w w6) := b6
      have HL6 : Hid (∀ k, v6.ownBlock = some k → w.heap.size ≤ k) := HBA.out v6 _ _ l6
      have cl := lost_any w6 hA hA v6 _ (5 + (t : Int)) (t : Int) l6 (by have := HEA.out; have := b6.size; omega)
      rw [HP.out.l3, HP.out.s3] at cl
      have x5 : IntKind.i64.wrap (5 + (t : Int)) = 5 + (t : Int) := by have := HTT.out; rw [IntKind.wrap_i64]; omega
      clear rt6 l6 u6 b6 x4
      go_wp2_with fail
      refine cl.mono ?_
      rintro e w7 ⟨vt7, v7, rfl, rt7, l7, u7⟩
      obtain ⟨ta7, tc7, rfl, -⟩ := id rt7.is.shape
      have b7 : Below w.heap.size w w7 := u7.below HB6.out HB6.out.size (by have := HEA.out; omega) HL6.out
      have HB7 : Hid (Below w.heap.size w w7) := b7
      have HL7 : Hid (LS w7 hA hA v7 ⟨iv 5 10 (k + 1) (j - 1 - k), (j : Int) - 1, 5, (k : Int)⟩) := l7
      have cl := len_any w7 hA hA v7 _ l7
      simp only [iv_len] at cl
      have y1 : (((k - 2 : Nat) : Int) == max 0 ((k : Int) - 2)) = true := by rw [beq_iff_eq]; omega
      have y2 : (((k - (k - 2) : Nat) : Int) == min (k : Int) 2) = true := by rw [beq_iff_eq]; omega
      have y3 : IntKind.i64.wrap ((k : Int) - 2) = (k : Int) - 2 := by rw [IntKind.wrap_i64]; omega
      rw [iv_len]
      clear rt7 l7 u7 b7 x5
      have cf := flying_any w7 hA hA v7 _ HL7.out
      rw [fly_iv] at cf
      have y4 : IntKind.i64.wrap ((j : Int) - 1) = (j : Int) - 1 := by rw [IntKind.wrap_i64]; omega
      have y5 : IntKind.i64.wrap ((j : Int) - 1 - (k : Int)) = ((j - 1 - k : Nat) : Int) := by rw [IntKind.wrap_i64]; omega
      have y6 : IntKind.i64.wrap (10 * ((j - 1 - k : Nat) : Int)) = 10 * ((j - 1 - k : Nat) : Int) := by rw [IntKind.wrap_i64]; omega
      have HK : Hid (k < j ∧ j ≤ 60) := ⟨hkn, hn60⟩
      generalize j - 1 - k = m at *
      clear hkn hn60 hj hn1 ht1 lt2
      go_wp2_with fail
      refine cl.mono ?_
      rintro e w8 ⟨rfl, q8⟩
      rw [q8]
      clear q8 w8
      go_wp2_with fail
      refine cf.mono ?_
      rintro e w8 ⟨rfl, b8⟩
      have HB8 : Hid (Below w.heap.size w w8) := HB7.out.trans (b8.mono HB7.out.size)
      have cl := len_any w8 hA hA v7 _ (HL7.out.below b8)
      simp only [iv_len] at cl
      have ca := awake_any w8
      clear cf b8
      go_wp2_with fail
      refine cl.mono ?_
      rintro e w9 ⟨rfl, q9⟩
      rw [q9]
      clear cl q9 w9
      go_wp2_with fail
      refine ca.mono ?_
      rintro e w9 ⟨rfl, b9⟩
      have HB9 : Hid (Below w.heap.size w w9) := HB8.out.trans (b9.mono HB8.out.size)
      clear ca b9
      go_wp2
      go_ret
      exact ⟨rfl, HB9.out⟩

theorem contract (H : Type) (enc : TypeId × Value → H) (W : World) (base : Nat) (args : Array Value) (ds gs : List (DataW H)) (before : List MemPlace)
    (hval : ∀ (j : Nat) t v, Try.f6.params[j]? = some t → args[j]? = some v → Value.okWide Try.prog W .any base t v)
    (hW : DataW.Whole enc Try.prog Try.f6.params.toList Rows.lossThreeSpec.vars false W args.toList ds gs before) (_hL : laidMetH Try.prog Rows.lossThreeRow.laid W)
    (hsz0 : (DataW.weightsEach Try.prog (Try.f6.params.toList ++ Rows.lossThreeSpec.plain.varTypes Try.prog) (ds ++ gs)).all (· ≤ reachBytes) = true) :
    Calls Try.prog 6 args W fun e W' => ∃ v, e = .returned v ∧ Rows.lossThreeSpec.post enc Try.prog Try.f6 false true false false W args v W' := by
  have hW' := hW
  obtain ⟨p, q, hA0, hV, rfl, hfz, hnd⟩ := hW
  have hA : DataW.TrodAll enc Try.prog W 0 (fun _ => true) true Try.f6.params.toList args.toList ds p := hA0
  rw [Try.params6] at hA hval hsz0
  obtain ⟨v0, vs0, d0, ds0, p0, q0, hargs, rfl, rfl, h0, r0⟩ := trodAll_cons hA
  obtain ⟨v1, vs1, d1, ds1, p1, q1, rfl, rfl, rfl, h1, r1⟩ := trodAll_cons r0
  obtain ⟨v2, vs2, d2, ds2, p2, q2, rfl, rfl, rfl, h2, r2⟩ := trodAll_cons r1
  obtain ⟨rfl, rfl, rfl⟩ := trodAll_nil r2
  obtain rfl : args = #[v0, v1, v2] := by cases args; simp_all
  obtain ⟨rfl, rfl⟩ := trodVars_none hV
  obtain ⟨a0, rfl, rfl, rfl, w0⟩ := open_int Try.underlying5 (hval 0 5 v0 rfl rfl) h0
  obtain ⟨a1, rfl, rfl, rfl, w1⟩ := open_int Try.underlying5 (hval 1 5 v1 rfl rfl) h1
  obtain ⟨a2, rfl, rfl, rfl, w2⟩ := open_int Try.underlying57 (hval 2 57 v2 rfl rfl) h2
  clear hA0
  refine (walk a0 a1 a2 W w0 w1 w2).mono fun e W' ⟨he, bel⟩ => ?_
  subst he
  exact ⟨_, rfl, _, _, _, [], _, [], hW', trodAll_mk1 (shut_bool Try.underlying4 _), (trodAll_cons_mk (shut_int Try.underlying5 w0) (trodAll_cons_mk (shut_int Try.underlying5 w1) (trodAll_cons_mk (shut_int Try.underlying57 w2) trodAll_mk0))), rfl, bel.frame _, fun h => by cases h⟩

theorem laid_met (os : Os) : laidMet Try.prog Rows.lossThreeRow.laid ((World.holding Try.prog os ⟨#[], #[], []⟩).forCall (fun _ _ => 0) ⟨#[], #[.int .u8 0, .int .u8 0, .int .u16 0], []⟩).memory :=
  laidMet_of_run' 8 (by kernel_rfl) (by kernel_rfl)
theorem reads (os : Os) {H : Type} (enc : TypeId × Value → H) : ∃ places, DataW.whole enc Try.prog ((World.holding Try.prog os ⟨#[], #[], []⟩).forCall (fun _ _ => 0) ⟨#[], #[.int .u8 0, .int .u8 0, .int .u16 0], []⟩).memory Try.f6.params.toList Rows.lossThreeSpec.vars false #[Value.int .u8 0, .int .u8 0, .int .u16 0].toList 8 = some ([.lit (.int .u8 0), .lit (.int .u8 0), .lit (.int .u16 0)], [], places) :=
  ⟨[], by kernel_rfl⟩

set_option maxRecDepth 100000 in
theorem lifted (os : Os) (started : os.Started) (H : Type) (enc : TypeId × Value → H) (F : Stop.Interp) :
    ReturnsInHanded {} Try.checked os 6 .any ((OpenSpec.ofChange Rows.lossThreeSpec).preRow enc Try.prog Try.f6 Rows.lossThreeRow.domain false Rows.lossThreeRow.laid) (((OpenSpec.ofChange Rows.lossThreeSpec).at F).post enc Try.prog Try.f6 false true false false) := by
  obtain ⟨places, hx⟩ := reads os enc
  refine returnsInHanded_of_row (C := Try.checked) (s := OpenSpec.ofChange Rows.lossThreeSpec) own started (by kernel_rfl) Try.func6
    (witness_row_at (enc := enc) (C := Try.checked) false (World.holding Try.prog os ⟨#[], #[], []⟩) #[.int .u8 0, .int .u8 0, .int .u16 0] rfl (by kernel_rfl) (by kernel_rfl) (by kernel_rfl)
      (OpenSpec.preRow_of_cond 8 hx (by kernel_rfl) (fun k hk => by cases hk) (by kernel_rfl) (laid_met os))) ?_
  intro W base args ds gs before hval hW _ _ hsz hL _ _
  exact contract H enc W base args ds gs before hval hW hL hsz

theorem said : Rows.LossThreeSaid :=
  OpenClaim.holds_of_cond 6 Try.f6 rfl rfl rfl rfl rfl rfl rfl ⟨rfl, rfl, rfl, rfl, rfl⟩ rfl rfl rfl rfl rfl (by kernel_rfl) Try.func6 (by kernel_rfl)
    (of_decide_eq_true (by kernel_rfl)) (by unfold Func.isWrapper; first | (rw [if_pos (by decide +kernel)]; kernel_rfl) | (rw [if_neg (by decide +kernel)]; exact ⟨rfl, rfl⟩))
    (fun os started H enc _ F => by rw [OpenClaim.pre_eq_preRow]; exact lifted os started H enc F)

end Go.Proofs.Ytamjbmbflllbfaa.lossThree

namespace Go.Proofs.Ytamjbmbflllbfaa
/-- LossThree. -/
theorem lossThree_holds : Rows.LossThreeSaid := lossThree.said
#print axioms lossThree_holds
end Go.Proofs.Ytamjbmbflllbfaa
