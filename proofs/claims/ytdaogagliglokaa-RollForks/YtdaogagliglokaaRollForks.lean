/-
  RollForks: whatever the bytes and the byte, the law answers true, and they read as before. No condition.
-/
import Derived.Test.YtdaogagliglokaaWinQ
namespace Go.Proofs.Ytdaogagliglokaa.rollForks
open Go.ChangeShapes Go.WideShapes Go.ChangeAt Go.RowKit Go.Deep Go.ChangeMaps

theorem wp_append_sl {w : World} {o : Oper} {a : Act} {KK : Act → World → Prop} {Q : Exit → Act → World → Prop} (s x : Operand)
    (ho : o.op = .call { callee := .builtin .append, args := #[s, x], argTypes := #[22, 22] })
    (base : Nat) (v : Value) (n : Nat) (xs : List Value) (hs : a.eval s = v) (hown : w.ownsRow base 5 1 v n xs)
    (src : Value) (Z : List Int) (hx : a.eval x = src) (hsl : Sl w src Z) (hbig : n + Z.length ≤ 200000000000000) (hbase : base ≤ w.heap.size)
    (h : ∀ v' w', w'.ownsRow base 5 1 v' (n + Z.length) (xs ++ Z.map (Value.int .u8)) → w.grownBy w' v.ownBlock → KK (a.put o.dst v') w') : o.wp Try.prog a w KK Q := by
  obtain ⟨i0, hi, hz0, hz1, hz2⟩ := info_parts info5'
  obtain ⟨ad, cap, rfl, h1, h2, h3, h4⟩ := hsl
  cases ad with
  | none =>
    obtain rfl := h3 rfl
    obtain rfl : Z = [] := List.length_eq_zero_iff.1 (by omega)
    have hrun := run_append_owned_none (P := Try.prog) (w := w) base 22 o.type 5 i0 1 Try.underlying22 hi v n xs hown
    have hx' : a.eval x = .slice none 0 0 := hx
    unfold Oper.wp
    simp [execOp, ho, resolve, invoke, builtin, hs, hx', hrun, Result.andThen]
    exact h v w (by simpa using hown) ⟨rfl, rfl, rfl, Nat.le_refl _, fun _ _ _ => rfl⟩
  | some y =>
    exact wp_append_own_wide w s x 22 ho base 5 i0 (.int .u8 0) 1 1 Try.underlying22 hi hz0 hz1 hz2 rfl (by decide) v n xs hs hown y Z.length cap (Z.map (Value.int .u8)) hx (by rw [List.length_map, Nat.mul_one]) (news_row h4) (ints_one Z) (by unfold maxLen; omega) (by omega) hbase
      (fun v' w' ho' hg _ => h v' w' ho' hg)

theorem wpList_append_want {w : World} {ops : Array Oper} {rest : List Oper} {o : Oper} {a : Act} {Q : Exit → Act → World → Prop} (hw : Region.wanted o (yielded ops a.tmps) = true) (s x : Operand)
    (ho : o.op = .call { callee := .builtin .append, args := #[s, x], argTypes := #[22, 22] })
    (base : Nat) (v : Value) (n : Nat) (xs : List Value) (hs : a.eval s = v) (hown : w.ownsRow base 5 1 v n xs)
    (src : Value) (Z : List Int) (hx : a.eval x = src) (hsl : Sl w src Z) (hbig : n + Z.length ≤ 200000000000000) (hbase : base ≤ w.heap.size)
    (h : ∀ v' w', w'.ownsRow base 5 1 v' (n + Z.length) (xs ++ Z.map (Value.int .u8)) → w.grownBy w' v.ownBlock → wpList Try.prog ops Q rest (a.put o.dst v') w') : wpList Try.prog ops Q (o :: rest) a w :=
  BigFrame.wpList_want hw fun _ hK => wp_append_sl s x ho base v n xs hs hown src Z hx hsl hbig hbase fun v' w' h1 h2 => hK _ _ (h v' w' h1 h2)

theorem own_put {w : World} {base g L cap : Nat} {Z : List Int} (h : w.ownsRow base 5 1 (.slice (some ⟨g, 0, none⟩) L cap) L (Z.map (Value.int .u8))) (j : Nat) (hj : j < L) (z : Int) :
    (w.setCell ⟨g, j, none⟩ (.int .u8 z)).ownsRow base 5 1 (.slice (some ⟨g, 0, none⟩) L cap) L ((Z.set j z).map (Value.int .u8)) ∧ w.cell? ⟨g, j, none⟩ = some (.int .u8 (Z.getD j 0)) ∧ w.frozen? ⟨g, j, none⟩ = false ∧ base ≤ g := by
  obtain ⟨h1, h2⟩ := h
  rcases h2 with ⟨e, _⟩ | ⟨g', cap', cur, e, hg, hh, hc, hm, hs, ht⟩
  · cases e
  · cases e
    have hZ : Z.length = L := by simpa using h1
    refine ⟨⟨by simpa using h1, .inr ⟨g, cap, _, rfl, hg, heap_setCell_same _ _ _ _ _ _ hh, hc, hm, by simpa using hs, ?_⟩⟩, ?_, frozen_of_row _ _ _ _ _ hh, hg⟩
    · rw [Nat.mul_one] at ht ⊢
      rw [Array.toList_setIfInBounds, List.map_set, ← ht, List.take_set]
    · rw [cell_of_row _ _ _ _ _ _ hh]
      have := congrArg (fun l => l[j]?) ht
      simp only [Nat.mul_one, List.getElem?_take, if_pos hj, List.getElem?_map, List.getElem?_eq_getElem (show j < Z.length by omega), Option.map_some] at this
      simpa [List.getD, List.getElem?_eq_getElem (show j < Z.length by omega)] using this

set_option maxHeartbeats 4000000 in
theorem walk (a : Option Addr) (len cap : Nat) (zs : List Int) (c : Int) (w : World) (hb : Bytes w a len cap zs) (hc : (Lit.int .u8 c).wf = true) :
    Calls Try.prog 8 #[.slice a len cap, .int .u8 c] w fun e w' => e = .returned (.bool true) ∧ Below w.heap.size w w' := by
  have HA : Hid (∀ W, Calls Try.prog 9 #[] W fun e w' => e = .returned (.bool true) ∧ Below W.heap.size W w') := awake_any
  have sl := hb.sl
  have hc2 : 0 ≤ c ∧ c ≤ 255 := bounds_u8 hc
  obtain ⟨hlc, hcm, htl⟩ := hb.len_le
  clear hc
  by_cases hl : 1000 < len
  · have hl' : (1000 : Int) < len := by omega
    clear hb sl htl
    have ca := HA.out w
    go_enter Try.func8, Try.ntmps8
    go_wp2_with fail
    refine ca.mono ?_
    rintro e w1 ⟨rfl, bel⟩
    clear ca
    go_wp2_with fail
    go_ret
    exact ⟨rfl, bel⟩
  have hl' : ¬ (1000 : Int) < len := by omega
  have cn := wnew_any _ _ w sl (by omega)
  have HSL : Hid (∀ W, Below w.heap.size w W → Sl W (.slice a len cap) (zs.take len)) := fun W hB => sl.kept hB
  have HB : Hid (∀ i, 0 ≤ (zs.take len).getD i 0 ∧ (zs.take len).getD i 0 < 256) := hb.bound
  have HT : Hid ((zs.take len).length = len) := htl
  clear hb sl htl
  generalize zs.take len = X at *
  go_enter Try.func8, Try.ntmps8
  go_wp2_with fail
  refine cn.mono ?_
  rintro e w1 ⟨g1, hv1, rfl, win1, bel1⟩
  clear cn
  have cf := wfork_any _ g1 hv1 X w1 win1 (by rw [HT.out]; omega)
  go_wp2_with fail
  refine cf.mono ?_
  rintro e w2 ⟨g2, hv2, rfl, win2, bel2⟩
  clear cf
  have ci := win_any _ g2 hv2 X c w2 win2 (by rw [HT.out]; omega) hc2.1 (by omega)
  go_wp2_with fail
  refine ci.mono ?_
  rintro e w3 ⟨rfl, hv3, win3, fr3, _⟩
  clear ci
  have bel3 : Below w1.heap.size w1 w3 := bel2.trans (win2.fr fr3)
  have win1' := win1.kept bel3
  have B3 : Below w.heap.size w w3 := bel1.trans (bel3.mono bel1.size)
  have cb := wbytes_any _ g1 hv1 X w3 win1' (by rw [HT.out]; omega)
  rw [HT.out] at cb
  clear win1 bel1 win2 bel2 fr3 bel3
  go_wp2_with fail
  refine cb.mono ?_
  rintro e w4 ⟨v4, rfl, own4, bel4⟩
  clear cb
  obtain ⟨a4, cap4, rfl⟩ := own_shape own4
  go_wp2_with fail
  go_loopw [8] (fun i wr => ∃ (j : Nat) (Z : List Int), j ≤ len ∧ i = .int .i64 (j : Int) ∧ wr.ownsRow w3.heap.size 5 1 (.slice a4 len cap4) len (Z.map (Value.int .u8)) ∧ Below w3.heap.size w3 wr) (fun i _ => len - (intOf i).toNat)
  case atStart => exact ⟨0, X, by omega, rfl, own4, bel4⟩
  case round =>
    clear own4 bel4
    obtain ⟨j, Z, hj, rfl, own, bel⟩ := hrel
    by_cases hlt : j < len
    · obtain ⟨b, rfl⟩ : ∃ b, a4 = some ⟨b, 0, none⟩ := by
        rcases own.2 with ⟨e, h0⟩ | ⟨b, _, _, e, _⟩
        · omega
        · cases e; exact ⟨b, rfl⟩
      have hp := fun z => own_put own j hlt z
      have hcell := (hp 0).2.1
      have hfr := (hp 0).2.2.1
      have hbase := (hp 0).2.2.2
      have HP : Hid (∀ z, (wr.setCell ⟨b, j, none⟩ (.int .u8 z)).ownsRow w3.heap.size 5 1 (.slice (some ⟨b, 0, none⟩) len cap4) len ((Z.set j z).map (Value.int .u8))) := fun z => (hp z).1
      have HBel : Hid (∀ z, Below w3.heap.size w3 (wr.setCell ⟨b, j, none⟩ (.int .u8 z))) := fun z => bel.setCell (p := ⟨b, j, none⟩) hbase _
      clear hp own bel
      generalize Z.getD j 0 = z at *
      go_wp2_with fail
      exact ⟨⟨j + 1, _, by omega, by go_num, HP.out _, HBel.out _⟩, by simp [intOf]; omega⟩
    · obtain rfl : j = len := by omega
      have BW : Below w.heap.size w wr := B3.trans (bel.mono B3.size)
      have s1 := wsum_any _ g1 hv1 X wr (win1'.kept bel)
      have s2 := sum_any _ X wr (HSL.out wr BW)
      have s3 := wsum_any _ g2 hv3 (X ++ [c]) wr (win3.kept bel)
      have n1 := win_nil 1 wr
      have n2 := wout_nil wr
      have HN3 : Hid (∀ W, Calls Try.prog 19 #[.pointer none, .int .u8 1] W fun e w' => e = .returned (.bool false) ∧ w' = W) := fun W => wroll_nil 1 W
      have HN4 : Hid (∀ W, Calls Try.prog 20 #[.pointer none] W fun e w' => e = .returned (.int .u32 0) ∧ w' = W) := wsum_nil
      have HN5 : Hid (∀ W, Calls Try.prog 21 #[.pointer none] W fun e w' => e = .returned (.int .i64 0) ∧ w' = W) := wlen_nil
      have HN6 : Hid (∀ W, Calls Try.prog 22 #[.pointer none] W fun e w' => e = .returned (.slice none 0 0) ∧ w' = W) := wbytes_nil
      have HN7 : Hid (∀ W, Calls Try.prog 23 #[.pointer none] W fun e w' => e = .returned (.pointer none) ∧ w' = W) := wfork_nil
      have HBW : Hid (Below w.heap.size w wr) := BW
      have HR : Hid (∀ v W, W.ownsRow wr.heap.size 5 1 v (j + 1) (X.map (Value.int .u8) ++ [c].map (Value.int .u8)) → Calls Try.prog 12 #[v] W fun e w' => e = .returned (.int .u32 (rs (X ++ [c]))) ∧ w' = W) := fun v W ho => by
        rw [← List.map_append, ← HT.out, show X.length + 1 = (X ++ [c]).length by simp] at ho
        exact sum_any v _ W (sl_owned ho (bytes_app HB.out (bytes_one hc2.1 (by omega))))
      clear win1' win3 bel own BW
      generalize rs X = r1 at *
      generalize rs (X ++ [c]) = r2 at *
      go_wp2_with fail
      refine n1.mono ?_
      rintro e u1 ⟨rfl, rfl⟩
      clear n1
      go_wp2_with fail
      refine n2.mono ?_
      rintro e u1 ⟨rfl, rfl⟩
      clear n2
      go_wp2_with fail
      refine s1.mono ?_
      rintro e u1 ⟨rfl, rfl⟩
      clear s1
      go_wp2_with fail
      refine s2.mono ?_
      rintro e u1 ⟨rfl, rfl⟩
      clear s2
      go_wp2_with fail
      refine s3.mono ?_
      rintro e u1 ⟨rfl, rfl⟩
      clear s3
      have own0 := own_empty u1
      have bE : Below w.heap.size w (u1.alloc (.cells #[] 5)) := HBW.out.trans ((Below.refl _ _).alloc HBW.out.size _)
      have slE := HSL.out _ bE
      have hbig : 0 + X.length ≤ 200000000000000 := by rw [HT.out]; omega
      have hsE : u1.heap.size ≤ (u1.alloc (.cells #[] 5)).heap.size := by simp
      have O0 : Hid ((u1.alloc (.cells #[] 5)).ownsRow u1.heap.size 5 1 (.slice (some ⟨u1.heap.size, 0, none⟩) 0 0) 0 []) := own0
      have SE : Hid (Sl (u1.alloc (.cells #[] 5)) (.slice a j cap) X) := slE
      have HE : Hid (0 + X.length ≤ 200000000000000 ∧ u1.heap.size ≤ (u1.alloc (.cells #[] 5)).heap.size ∧ Below w.heap.size w (u1.alloc (.cells #[] 5))) := ⟨hbig, hsE, bE⟩
      clear own0 bE slE hbig hsE
      go_wp2_with (at_builtin; refine wpList_append_want (by rfl) _ _ rfl u1.heap.size _ 0 [] rfl O0.out _ X rfl SE.out HE.out.1 HE.out.2.1 ?_)
      intro v5 w5 own5 gr5
      rw [HT.out] at own5
      have hu : w.heap.size ≤ u1.heap.size := HBW.out.size
      have B5 : Below w.heap.size w w5 := HE.out.2.2.grown gr5 HE.out.2.2.size (fun k hk => by have := own_base O0.out k hk; omega)
      have bA : Below w5.heap.size w5 (w5.alloc (.cells #[.int .u8 c] 5)) := (Below.refl _ _).alloc (Nat.le_refl _) _
      have O5 : Hid ((w5.alloc (.cells #[.int .u8 c] 5)).ownsRow u1.heap.size 5 1 v5 j (X.map (Value.int .u8))) := own_below own5 bA
      have S5 : Hid (Sl (w5.alloc (.cells #[.int .u8 c] 5)) (.slice (some ⟨w5.heap.size, 0, none⟩) 1 1) [c]) := sl_one w5 c hc2.1 (by omega)
      have B6 : Below w.heap.size w (w5.alloc (.cells #[.int .u8 c] 5)) := B5.trans (bA.mono B5.size)
      have hs6 : u1.heap.size ≤ (w5.alloc (.cells #[.int .u8 c] 5)).heap.size := by have := gr5.size; simp at this ⊢; omega
      have H6 : Hid (Below w.heap.size w (w5.alloc (.cells #[.int .u8 c] 5)) ∧ u1.heap.size ≤ (w5.alloc (.cells #[.int .u8 c] 5)).heap.size ∧ j + [c].length ≤ 200000000000000) := ⟨B6, hs6, by simp; omega⟩
      obtain ⟨a5, cap5, rfl⟩ := own_shape own5
      clear own5 gr5 B5 bA B6 hs6 O0 SE HE
      go_wp2_with (at_builtin; refine wpList_append_want (by rfl) _ _ rfl u1.heap.size _ j (X.map (Value.int .u8)) rfl O5.out _ [c] rfl S5.out H6.out.2.2 H6.out.2.1 ?_)
      intro v7 w7 own7 gr7
      have B7 : Below w.heap.size w w7 := H6.out.1.grown gr7 H6.out.1.size (fun k hk => by have := own_base O5.out k hk; omega)
      have c7 := HR.out v7 w7 own7
      clear own7 gr7 O5 S5 H6 HR
      go_wp2_with fail
      refine c7.mono ?_
      rintro e u2 ⟨rfl, rfl⟩
      clear c7
      go_wp2_with fail
      refine (HN3.out _).mono ?_
      rintro e u3 ⟨rfl, rfl⟩
      go_wp2_with fail
      refine (HN4.out _).mono ?_
      rintro e u3 ⟨rfl, rfl⟩
      go_wp2_with fail
      refine (HN5.out _).mono ?_
      rintro e u3 ⟨rfl, rfl⟩
      go_wp2_with fail
      refine (HN6.out _).mono ?_
      rintro e u3 ⟨rfl, rfl⟩
      go_wp2_with fail
      refine (HN7.out _).mono ?_
      rintro e u3 ⟨rfl, rfl⟩
      go_wp2_with fail
      refine (HA.out _).mono ?_
      rintro e w8 ⟨rfl, bel8⟩
      have B8 := B7.trans (bel8.mono B7.size)
      clear bel8
      go_wp2_with fail
      go_ret
      exact ⟨rfl, B8⟩

theorem contract (H : Type) (enc : TypeId × Value → H) (W : World) (base : Nat) (args : Array Value) (ds gs : List (DataW H)) (before : List MemPlace)
    (hval : ∀ (j : Nat) t v, Try.f8.params[j]? = some t → args[j]? = some v → Value.okWide Try.prog W .any base t v)
    (hW : DataW.Whole enc Try.prog Try.f8.params.toList Rows.rollForksSpec.vars false W args.toList ds gs before) (_hL : laidMetH Try.prog Rows.rollForksRow.laid W)
    (hsz0 : (DataW.weightsEach Try.prog (Try.f8.params.toList ++ Rows.rollForksSpec.plain.varTypes Try.prog) (ds ++ gs)).all (· ≤ reachBytes) = true) :
    Calls Try.prog 8 args W fun e W' => ∃ v, e = .returned v ∧ Rows.rollForksSpec.post enc Try.prog Try.f8 false true false false W args v W' := by
  have hW' := hW
  obtain ⟨p, q, hA0, hV, rfl, hfz, hnd⟩ := hW
  have hA : DataW.TrodAll enc Try.prog W 0 (fun _ => true) true Try.f8.params.toList args.toList ds p := hA0
  rw [Try.params8] at hA hval hsz0
  obtain ⟨v0, vs0, d0, ds0, p0, q0, hargs, rfl, rfl, h0, r0⟩ := trodAll_cons hA
  obtain ⟨v1, vs1, d1, ds1, p1, q1, rfl, rfl, rfl, h1, r1⟩ := trodAll_cons r0
  obtain ⟨rfl, rfl, rfl⟩ := trodAll_nil r1
  obtain rfl : args = #[v0, v1] := by cases args; simp_all
  obtain ⟨rfl, rfl⟩ := trodVars_none hV
  have hsz : (DataW.weightsEach Try.prog [22, 5] [d0, d1]).all (· ≤ reachBytes) = true := hsz0
  have k0 := h0
  have lt0 : ∀ x ∈ p0, x.block < W.heap.size := by obtain ⟨m, hm⟩ := k0; exact DataW.trod_lt m _ _ _ hm
  obtain ⟨a0, len0, cap0, z0, rfl, w0⟩ := bytes_open 0 (hval 0 22 v0 rfl rfl) h0 hsz rfl rfl
  obtain ⟨a1, rfl, rfl, rfl, w1⟩ := open_int Try.underlying5 (hval 1 5 v1 rfl rfl) h1
  clear hA0
  refine (walk a0 len0 cap0 z0 a1 W w0 w1).mono fun e W' ⟨he, bel⟩ => ?_
  subst he
  exact ⟨_, rfl, _, _, _, [], _, [], hW', trodAll_mk1 (shut_bool Try.underlying4 _), (trodAll_cons_mk (Below.trod laidOut (by kernel_rfl) (of_decide_eq_true (by kernel_rfl)) k0 bel lt0) (trodAll_cons_mk (shut_int Try.underlying5 w1) trodAll_mk0)), rfl, bel.frame _, fun h => by cases h⟩

theorem laid_met (os : Os) : laidMet Try.prog Rows.rollForksRow.laid ((World.holding Try.prog os ⟨#[], #[], []⟩).forCall (fun _ _ => 0) ⟨#[], #[.slice none 0 0, .int .u8 0], []⟩).memory :=
  laidMet_of_run' 8 (by kernel_rfl) (by kernel_rfl)
theorem reads (os : Os) {H : Type} (enc : TypeId × Value → H) : ∃ places, DataW.whole enc Try.prog ((World.holding Try.prog os ⟨#[], #[], []⟩).forCall (fun _ _ => 0) ⟨#[], #[.slice none 0 0, .int .u8 0], []⟩).memory Try.f8.params.toList Rows.rollForksSpec.vars false #[Value.slice none 0 0, .int .u8 0].toList 8 = some ([.nil, .lit (.int .u8 0)], [], places) :=
  ⟨[], by kernel_rfl⟩

set_option maxRecDepth 100000 in
theorem lifted (os : Os) (started : os.Started) (H : Type) (enc : TypeId × Value → H) (F : Stop.Interp) :
    ReturnsInHanded {} Try.checked os 8 .any ((OpenSpec.ofChange Rows.rollForksSpec).preRow enc Try.prog Try.f8 Rows.rollForksRow.domain false Rows.rollForksRow.laid) (((OpenSpec.ofChange Rows.rollForksSpec).at F).post enc Try.prog Try.f8 false true false false) := by
  obtain ⟨places, hx⟩ := reads os enc
  refine returnsInHanded_of_row (C := Try.checked) (s := OpenSpec.ofChange Rows.rollForksSpec) own started (by kernel_rfl) Try.func8
    (witness_row_at (enc := enc) (C := Try.checked) false (World.holding Try.prog os ⟨#[], #[], []⟩) #[.slice none 0 0, .int .u8 0] rfl (by kernel_rfl) (by kernel_rfl) (by kernel_rfl)
      (OpenSpec.preRow_of_cond 8 hx (by kernel_rfl) (fun k hk => by cases hk) (by kernel_rfl) (laid_met os))) ?_
  intro W base args ds gs before hval hW _ _ hsz hL _ _
  exact contract H enc W base args ds gs before hval hW hL hsz

theorem said : Rows.RollForksSaid :=
  OpenClaim.holds_of_cond 8 Try.f8 rfl rfl rfl rfl rfl rfl rfl ⟨rfl, rfl, rfl, rfl, rfl⟩ rfl rfl rfl rfl rfl (by kernel_rfl) Try.func8 (by kernel_rfl)
    (of_decide_eq_true (by kernel_rfl)) (by unfold Func.isWrapper; first | (rw [if_pos (by decide +kernel)]; kernel_rfl) | (rw [if_neg (by decide +kernel)]; exact ⟨rfl, rfl⟩))
    (fun os started H enc _ F => by rw [OpenClaim.pre_eq_preRow]; exact lifted os started H enc F)

end Go.Proofs.Ytdaogagliglokaa.rollForks

namespace Go.Proofs.Ytdaogagliglokaa
/-- RollForks. -/
theorem rollForks_holds : Rows.RollForksSaid := rollForks.said
#print axioms rollForks_holds
end Go.Proofs.Ytdaogagliglokaa
