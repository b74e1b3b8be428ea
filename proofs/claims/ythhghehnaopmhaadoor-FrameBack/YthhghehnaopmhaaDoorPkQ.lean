/-
  Frames in a row of the call's own; how much Get uses.
  What All answers.
  Same of two plain forms that are one; Flat.
  Flat; whether a frame's plain form is this one.
  Plain forms that came in.
  Plain forms that came in, whole.
  A slice of plain forms that came in.
  Whether a plain form is light.
  Plain forms that may be, one behind the other: what FrameBack puts and keeps.
-/
import Derived.Test.YthhghehnaopmhaaDoorPkO
import Derived.Test.YthhghehnaopmhaaDoorPkS
import Derived.Deep.Slices
import Derived.Great.Walk
namespace Go.Proofs.YthhghehnaopmhaaDoor
open Go.RowKit Go.Shelf
set_option maxRecDepth 100000

theorem getP_le (xs : List Int) : (getP xs).2.1 ≤ xs.length := by
  unfold getP
  simp only
  have h2 : (xs.take 1032).length ≤ xs.length := by rw [List.length_take]; omega
  split
  · simp only; omega
  · split <;> simp <;> omega
theorem ahM_used (ys : List Int) (h : BB ys) (he : (ahM ys).2.2 = 0) : 1 ≤ (ahM ys).2.1 ∧ (ahM ys).2.1 ≤ ys.length := by
  cases ys with
  | nil => rw [ahM_nil] at he; cases he
  | cons k l =>
    by_cases hk : isK k = true
    · obtain ⟨q1, q2, _⟩ := ahR_rl k l 0 (h.drop 1)
      have hu := getP_used (ahR k l 0).2.1
      have hv := getP_le (ahR k l 0).2.1
      rw [ahM_cons k l hk] at he ⊢
      split at he
      · rename_i h1
        rw [if_pos h1]
        exfalso
        unfold errM fltE at he
        simp only at he
        split at he
        · omega
        · exact h1 he
      · rename_i h1
        rw [if_neg h1]
        split at he
        · rename_i h2
          rw [if_pos h2]
          split at he
          · rename_i h3
            exact absurd he h3
          · rename_i h3
            rw [if_neg h3]
            simp only [List.length_cons]
            omega
        · rename_i h2
          rw [if_neg h2]
          simp only [List.length_cons]
          omega
    · rw [ahM_bad k l (by simpa using hk)] at he
      cases he
theorem getM_used (xs : List Int) (h : BB xs) (he : (getM xs).2.2 = 0) : 1 ≤ (getM xs).2.1 ∧ (getM xs).2.1 ≤ xs.length := by
  unfold getM at he ⊢
  simp only at he ⊢
  split at he
  · rename_i h1
    exact absurd he h1
  · rename_i h1
    rw [if_neg h1]
    have h0 : (ahM (xs.take 1150)).2.2 = 0 := Classical.not_not.1 h1
    obtain ⟨q1, q2⟩ := ahM_used _ (h.take 1150) h0
    rw [List.length_take] at q2
    unfold endM at he ⊢
    split at he
    · rename_i h2
      rw [if_pos h2]
      simp only
      omega
    · rename_i h2
      exact absurd he h2
theorem getM_okk (xs : List Int) (he : (getM xs).2.2 = 0) : chkM (getM xs).1 = 0 := by
  unfold getM at he ⊢
  simp only at he ⊢
  split at he
  · rename_i h1
    exact absurd he h1
  · rename_i h1
    rw [if_neg h1]
    unfold endM at he ⊢
    split at he
    · rename_i h2
      rw [if_pos h2]
      exact h2
    · rename_i h2
      exact absurd he h2
theorem frV_iface {p : Fm} (h : isK p.k = true) (sv : Value) : ∃ t y, frV p sv = .iface t y := by
  have hk := h
  unfold isK at hk
  simp at hk
  unfold frV
  rcases (by omega : p.k = 1 ∨ p.k = 2 ∨ p.k = 3 ∨ p.k = 4 ∨ p.k = 5 ∨ p.k = 6 ∨ p.k = 7 ∨ p.k = 8 ∨ p.k = 9 ∨ p.k = 10) with e | e | e | e | e | e | e | e | e | e <;> (rw [e]; exact ⟨_, _, rfl⟩)
/-- Frames in a row of the call's own. -/
def RF (w : World) (B : Nat) (v : Value) (l : List Fm) : Prop :=
  ∃ V : List Value, w.ownsRow B 32 1 v l.length V ∧ ∀ i, i < l.length → ∃ sv, V[i]? = some (frV (l.getD i Fm.zero) sv) ∧ RSp w B sv (spO (l.getD i Fm.zero))
theorem RF.nil (w : World) (B : Nat) : RF w B (.slice none 0 0) [] := ⟨[], World.ownsRow_nil _ _ _ _, fun i hi => by simp at hi⟩
theorem RF.below {w w' : World} {B : Nat} {v : Value} {l : List Fm} (h : RF w B v l) (hb : Below w.heap.size w w') : RF w' B v l := by
  obtain ⟨V, h1, h2⟩ := h
  refine ⟨V, own_below h1 hb, fun i hi => ?_⟩
  obtain ⟨sv, h3, h4⟩ := h2 i hi
  exact ⟨sv, h3, h4.below hb⟩
theorem RF.shape {w : World} {B : Nat} {v : Value} {l : List Fm} (h : RF w B v l) : ∃ a c, v = .slice a l.length c := by
  obtain ⟨V, h1, _⟩ := h
  exact own_shape h1
theorem frV_one (p : Fm) (sv : Value) : (frV p sv).oneCell' = true := by
  unfold frV
  repeat (split; rfl)
  rfl
theorem infoFr : (Tryd.prog.info? 32).map (fun i => (i.zero, i.size, i.bytes)) = some (some .nilIface, 1, 16) := by kernel_rfl
theorem wpList_append_fr {w : World} {ops : Array Oper} {rest : List Oper} {o : Oper} {a : Act} {Q : Exit → Act → World → Prop} (hgd : o.guard = none) (s x : Operand)
    (ho : o.op = .call { callee := .builtin .append, args := #[s, x], argTypes := #[39, 39] })
    (B : Nat) (v : Value) (l : List Fm) (hs : a.eval s = v) (hown : RF w B v l) (g : Nat) (p : Fm) (sv : Value) (cap : Nat) (hX : RSp w B sv (spO p))
    (hx : a.eval x = .slice (some ⟨g, 0, none⟩) 1 cap) (hc : w.cell? ⟨g, 0, none⟩ = some (frV p sv)) (hbig : l.length ≤ 100000) (hbase : B ≤ w.heap.size)
    (h : ∀ v' w', RF w' B v' (l ++ [p]) → Below B w w' → wpList Tryd.prog ops Q rest (a.put o.dst v') w') : wpList Tryd.prog ops Q (o :: rest) a w := by
  obtain ⟨i0, hi, hz0, hz1, hz2⟩ := info_parts infoFr
  obtain ⟨V, hV, hall⟩ := hown
  refine wpList_append_own_wide w hgd s x 39 ho B 32 i0 .nilIface 1 16 Tryd.underlying39 hi hz0 hz1 hz2 rfl (by decide) v l.length V hs hV ⟨g, 0, none⟩ 1 cap [frV p sv] hx rfl ?_ ?_ (by unfold maxLen; omega) (by omega) hbase ?_
  · intro j z hj
    rw [Addr.add_lit]
    cases j with
    | zero => simp at hj; subst hj; exact hc
    | succ j => simp at hj
  · intro z hz
    simp at hz
    subst hz
    exact frV_one p sv
  · intro v' w' ho' hg _
    have ap : ∀ {y : Value} {Y : List Sp}, RSp w B y Y → RSp w' B y Y := fun {y Y} hy => hy.keep fun k cs hk hh => (hg.block k (blk_lt hh) (fun e => by
      rcases hV.2 with ⟨rfl, _⟩ | ⟨g', cap', cur, rfl, _, hh', _⟩
      · cases e
      · cases e
        rw [hh'] at hh
        cases hh)).trans hh
    have hVl : V.length = l.length := by have := hV.1; simpa using this
    refine h v' w' ⟨V ++ [frV p sv], by rw [List.length_append]; exact ho', fun i hi => ?_⟩ ((Below.refl B w).grown hg hbase (own_base hV))
    rw [List.length_append, List.length_singleton] at hi
    rcases Nat.lt_or_ge i l.length with h' | h'
    · obtain ⟨z, hz, oz⟩ := hall i h'
      have e : (l ++ [p]).getD i Fm.zero = l.getD i Fm.zero := by simp [List.getD, List.getElem?_append_left h']
      rw [e]
      exact ⟨z, by rw [List.getElem?_append_left (by omega)]; exact hz, ap oz⟩
    · obtain rfl : i = l.length := by omega
      have e : (l ++ [p]).getD l.length Fm.zero = p := by simp [List.getD]
      rw [e]
      exact ⟨sv, by rw [List.getElem?_append_right (by omega), hVl]; simp, ap hX⟩
end Go.Proofs.YthhghehnaopmhaaDoor
namespace Go.Proofs.YthhghehnaopmhaaDoor
open Go.RowKit Go.Shelf
set_option maxRecDepth 100000

def lnV : Value → Nat
  | .slice _ n _ => n
  | _ => 0
set_option maxHeartbeats 8000000 in
theorem allF_any (v : Value) (xs : List Int) (w : World) (ht : Tb w) (h : Sl w v xs) (hl : xs.length ≤ 90000) :
    Calls Tryd.prog 9 #[v] w fun e w' => ∃ v', e = .returned (.tuple #[v', .int .i64 (allM xs).2]) ∧ RF w' w.heap.size v' (allM xs).1 ∧ Below w.heap.size w w' := by
  have HT : Hid (Tb w) := ht
  have HS : Hid (Sl w v xs) := h
  obtain ⟨a0, c0, rfl, -, -, -, -⟩ := id h
  obtain ⟨R, hR⟩ : ∃ R, R = allM xs := ⟨_, rfl⟩
  have HR : Hid (allA xs.length [] xs = R) := hR.symm
  rw [← hR]
  clear ht h hR
  go_enter Tryd.func9, Tryd.ntmps9
  go_wp2
  go_loopw [0, 4] (fun b l wr => ∃ (acc : List Fm) (ys : List Int) (f : Nat) (a : Option Addr) (n c : Nat), b = .slice a n c ∧ Sl w (.slice a n c) ys ∧ RF wr w.heap.size l acc ∧ allA f acc ys = R ∧ (ys.length ≤ f ∧ acc.length + ys.length ≤ 90000) ∧ Below w.heap.size w wr) (fun b _ _ => lnV b)
  case atStart => exact ⟨[], xs, xs.length, a0, xs.length, c0, rfl, HS.out, RF.nil _ _, HR.out, ⟨Nat.le_refl _, by simpa using hl⟩, Below.refl _ _⟩
  case round =>
    obtain ⟨acc, ys, f, a, n, c, rfl, hs, hf, hA, ⟨hyf, hal⟩, hb⟩ := hrel
    obtain ⟨a', c', e', hlc, hcm, hnn, hrow⟩ := id hs
    cases e'
    have HB : Hid (Below w.heap.size w wr) := hb
    have HSR : Hid (Sl w (.slice a ys.length c) ys) := hs
    have HFR : Hid (RF wr w.heap.size u4 acc) := hf
    have HAR : Hid (allA f acc ys = R) := hA
    have HAL : Hid (acc.length + ys.length ≤ 90000) := hal
    have hbb : BB ys := hs.bytes
    obtain ⟨la, lc, rfl⟩ := RF.shape hf
    clear hs hf hA hb HS HR
    by_cases hn0 : ys.length = 0
    · have hy : ys = [] := List.length_eq_zero_iff.1 hn0
      have HRE : Hid (R = (acc, 0)) := by unfold Hid; rw [← HAR.out, hy, allA_nil]
      have t0 : ¬ (0 : Int) < (ys.length : Int) := by omega
      clear hrow hbb hyf hal hn0 hy
      generalize ys.length = n at *
      go_wp2
      go_ret2
      exact ⟨_, by rw [HRE.out]; rfl, by rw [HRE.out]; exact HFR.out, HB.out⟩
    · have t0 : (0 : Int) < (ys.length : Int) := by omega
      obtain ⟨f', rfl⟩ : ∃ f', f = f' + 1 := ⟨f - 1, by omega⟩
      have hne : ys ≠ [] := fun e => hn0 (by rw [e]; rfl)
      have hAS := HAR.out
      rw [allA_succ, if_neg hne] at hAS
      have cg := getF_any _ ys wr (HT.out.next HB.out) (HSR.out.kept HB.out) (by omega)
      have hus := getM_used ys hbb
      have hok := getM_okk ys
      generalize getM ys = G at *
      obtain ⟨p, gu, ge⟩ := G
      simp only at cg hAS hus hok
      by_cases hge : ge = 0
      · obtain ⟨hu1, hu2⟩ := hus hge
        rw [if_neg (fun q => q hge)] at hAS
        obtain ⟨U, rfl⟩ : ∃ U : Nat, gu = U := ⟨gu.toNat, by omega⟩
        rw [Int.toNat_natCast] at hAS
        obtain ⟨bb, off, rfl⟩ : ∃ bb off, a = some ⟨bb, off, none⟩ := by
          rcases hrow with h0 | ⟨-, bb, off, e2, -⟩
          · exact absurd h0 hn0
          · exact ⟨bb, off, e2⟩
        have hUn : U ≤ ys.length := by omega
        obtain ⟨zs, hzs⟩ : ∃ zs, zs = ys.drop U := ⟨_, rfl⟩
        have hzl : zs.length = ys.length - U := by rw [hzs, List.length_drop]
        have HRR : Hid (allA f' (acc ++ [p]) zs = R) := by rw [hzs]; exact hAS
        have HZL : Hid (zs.length ≤ f' ∧ (acc ++ [p]).length + zs.length ≤ 90000) := by
          unfold Hid
          rw [List.length_append, List.length_singleton]
          omega
        have HZA : Hid (c = U → Sl w (.slice (some ⟨bb, off, none⟩) 0 0) zs) := fun hc => by
          have : zs = [] := List.length_eq_zero_iff.1 (by omega)
          rw [this]
          exact ⟨_, 0, rfl, Nat.le_refl _, by unfold maxLen; omega, fun e => (by cases e), .inl rfl⟩
        have hdrop := HSR.out.drop U hUn
        rw [← hzs] at hdrop
        have HZB : Hid (Sl w (.slice (some ⟨bb, off + U, none⟩) (ys.length - U) (c - U)) zs) := hdrop
        have HAL2 : Hid (acc.length ≤ 100000) := by have := HAL.out; unfold Hid; omega
        have hge' : (ge != 0) = false := by rw [hge]; rfl
        have hcm2 : c ≤ 9223372036854775807 := by unfold maxLen at hcm; omega
        have sx1 : 0 ≤ (U : Int) := by omega
        have sx2 : (U : Int) ≤ (ys.length : Int) := by omega
        have sx3 : (ys.length : Int) ≤ (c : Int) := by omega
        have HOKP : Hid (chkM p = 0) := hok hge
        have HU0 : Hid (0 < U) := by unfold Hid; omega
        clear hok hAS hus hzs hrow hne hbb hyf hal HAR HT hl hge hu1 hu2 hdrop HAL hcm HSR hnn hzl
        generalize ys.length = n at *
        go_wp2_with fail
        refine cg.mono ?_
        rintro e w1 ⟨s1, rfl, r1, b1⟩
        obtain ⟨ty, y, hy⟩ := frV_iface (chkM_ok HOKP.out).kk s1
        rw [hy]
        have HY : Hid (frV p s1 = .iface ty y) := hy
        clear hy
        obtain ⟨W2, hW2⟩ : ∃ W2, W2 = w1.alloc (.cells #[.iface ty y] 32) := ⟨_, rfl⟩
        have b2 : Below w1.heap.size w1 W2 := by rw [hW2]; exact al_below _ _
        have b12 : Below wr.heap.size wr W2 := b1.trans (b2.mono b1.size)
        have HB2 : Hid (Below w.heap.size w W2) := HB.out.trans (b12.mono HB.out.size)
        have HF2 : Hid (RF W2 w.heap.size (.slice la acc.length lc) acc) := HFR.out.below b12
        have HS2 : Hid (RSp W2 w.heap.size s1 (spO p)) := (RSp.mono r1 HB.out.size).below b2
        have HC2 : Hid (W2.cell? ⟨w1.heap.size, 0, none⟩ = some (frV p s1)) := by unfold Hid; rw [HY.out, hW2, World.cell?_alloc_at _ _ _ _ rfl]; rfl
        clear cg r1 b1 b2 b12 HFR HB
        by_cases hcU : c = U
        · have HS0 : Hid (Sl w (.slice (some ⟨bb, off, none⟩) 0 0) zs) := HZA.out hcU
          clear HZA HZB
          subst hcU
          obtain rfl : n = c := by omega
          clear sx2 sx3 hUn
          go_wp2_with (at_builtin; rw [← hW2]; refine wpList_append_fr rfl _ _ rfl w.heap.size _ acc rfl HF2.out w1.heap.size p s1 1 HS2.out rfl HC2.out HAL2.out HB2.out.size (Hid.out ?_))
          unfold Hid
          intro v3 w3 r3 b3
          try rw [← hW2] at b3
          clear hW2
          have HB3 : Hid (Below w.heap.size w w3) := HB2.out.trans b3
          have HF3 : Hid (RF w3 w.heap.size v3 (acc ++ [p])) := r3
          obtain ⟨va, vc, rfl⟩ := RF.shape r3
          clear b3 r3
          go_wp2
          go_roundw
          case rel => exact ⟨acc ++ [p], zs, f', some ⟨bb, off, none⟩, 0, 0, rfl, HS0.out, HF3.out, HRR.out, HZL.out, HB3.out⟩
          case measure => (have := HU0.out; simp [lnV]; omega)
        · have HS0 : Hid (Sl w (.slice (some ⟨bb, off + U, none⟩) (n - U) (c - U)) zs) := HZB.out
          clear HZA HZB
          go_wp2_with (at_builtin; rw [← hW2]; refine wpList_append_fr rfl _ _ rfl w.heap.size _ acc rfl HF2.out w1.heap.size p s1 1 HS2.out rfl HC2.out HAL2.out HB2.out.size (Hid.out ?_))
          unfold Hid
          intro v3 w3 r3 b3
          try rw [← hW2] at b3
          clear hW2
          have HB3 : Hid (Below w.heap.size w w3) := HB2.out.trans b3
          have HF3 : Hid (RF w3 w.heap.size v3 (acc ++ [p])) := r3
          obtain ⟨va, vc, rfl⟩ := RF.shape r3
          clear b3 r3
          go_wp2
          go_roundw
          case rel => exact ⟨acc ++ [p], zs, f', some ⟨bb, off + U, none⟩, n - U, c - U, rfl, HS0.out, HF3.out, HRR.out, HZL.out, HB3.out⟩
          case measure => (have := HU0.out; simp [lnV]; omega)
      · rw [if_pos hge] at hAS
        have HRE : Hid (R = ([], ge)) := hAS.symm
        have tge : (ge != 0) = true := by simpa using hge
        clear hok hAS hus hge hrow hne hbb hyf hal HAR HAL
        generalize ys.length = n at *
        go_wp2_with fail
        refine cg.mono ?_
        rintro e w1 ⟨s1, rfl, r1, b1⟩
        have HB1 : Hid (Below w.heap.size w w1) := HB.out.trans (b1.mono HB.out.size)
        clear cg r1 b1
        go_wp2
        go_ret2
        exact ⟨_, by rw [HRE.out]; rfl, by rw [HRE.out]; exact RF.nil _ _, HB1.out⟩
end Go.Proofs.YthhghehnaopmhaaDoor
namespace Go.Proofs.YthhghehnaopmhaaDoor
open Go.RowKit Go.Shelf
set_option maxRecDepth 100000

theorem guardNe : Tryd.prog.eqGuardType Tryd.prog.depth 27 = false := guardN
theorem eqlN_run (A B : List Int) (hA : A.length = 16) (hB : B.length = 16) (w : World) : (binOp .eql 27 (.agg (u8c A)) (.agg (u8c B))).run Tryd.prog w = .ok (.bool (A == B)) w := by
  have h := eq_nc 9998 A B hA hB w
  have h' : (Op.equal 27 (.agg (u8c A)) (.agg (u8c B))).run Tryd.prog w = .ok (A == B) w := h
  show (do pure (.bool (← Op.equal 27 (.agg (u8c A)) (.agg (u8c B)))) : Sem Value).run Tryd.prog w = _
  rw [Sem.run_bind, h']
  rfl
theorem wp_eqlN {w : World} {o : Oper} {a : Act} {K : Act → World → Prop} {Q : Exit → Act → World → Prop} (x y : Operand) (t : TypeId) (ho : o.op = .binOp .eql 27 x y t)
    (A B : List Int) (hA : A.length = 16) (hB : B.length = 16) (hx : a.eval x = .agg (u8c A)) (hy : a.eval y = .agg (u8c B)) (h : K (a.put o.dst (.bool (A == B))) w) : o.wp Tryd.prog a w K Q := by
  unfold Oper.wp
  simp only [execOp, ho, hx, hy, Sem.run_bind, run_eqGuard_agg _ _ _ _ _ _ _ guardN, eqlN_run A B hA hB, Result.andThen_ok, Sem.run_pure, Oper.upon]
  exact h
set_option maxHeartbeats 8000000 in
theorem rsameF_any (p : Fm) (u v : Value) (w : World) (hn : p.nc.length = 16) (hu : SSp w u p.sp) (hv : SSp w v p.sp) (hl : p.sp.length ≤ 100000) :
    Calls Tryd.prog 19 #[.agg (plA p u), .agg (plA p v)] w fun e w' => e = .returned (.bool true) ∧ Below w.heap.size w w' := by
  obtain ⟨W1, hW1⟩ : ∃ W1, W1 = w.alloc (.cells (plA p u) 30) := ⟨_, rfl⟩
  have b1 : Below w.heap.size w W1 := by rw [hW1]; exact al_below _ _
  have g1 : PF W1 w.heap.size 30 p u := by rw [hW1]; exact PF.new w _ p u
  have z1 : W1.heap.size = w.heap.size + 1 := by rw [hW1]; simp
  obtain ⟨W2, hW2⟩ : ∃ W2, W2 = W1.alloc (.cells (plA p v) 30) := ⟨_, rfl⟩
  have b2 : Below W1.heap.size W1 W2 := by rw [hW2]; exact al_below _ _
  have g2 : PF W2 W1.heap.size 30 p v := by rw [hW2]; exact PF.new W1 _ p v
  rw [z1] at g2
  have HB2 : Hid (Below w.heap.size w W2) := b1.trans (b2.mono b1.size)
  obtain ⟨c0, c1, c2, c3, c4, c5, c22, cn⟩ := (g1.kept b2).pc hn
  obtain ⟨d0, d1, d2, d3, d4, d5, d22, dn⟩ := g2.pc hn
  have HCN : Hid (W2.rangeAt w.heap.size 6 (p.nc.map (Value.int .u8))) := cn
  have HDN : Hid (W2.rangeAt (w.heap.size + 1) 6 (p.nc.map (Value.int .u8))) := dn
  have HNL : Hid (p.nc.length = 16) := hn
  have HNI : Hid ((Tryd.prog.info? 27).map (·.size) = some (p.nc.map (Value.int .u8)).length) := by unfold Hid; rw [List.length_map, hn]; exact infoNc
  have cs := rsame_any W2 u v p.sp p.sp (hu.kept HB2.out) (hv.kept HB2.out) hl
  rw [decide_eq_true (rfl : p.sp = p.sp)] at cs
  obtain ⟨a, c, rfl, -, -, -⟩ := hu.shape
  obtain ⟨a', c', rfl, -, -, -⟩ := hv.shape
  clear b1 g1 b2 g2 cn dn hn hu hv z1
  generalize p.sp.length = n at *
  go_enter Tryd.func19, Tryd.ntmps19
  go_upto_region 1 with fail
  rw [← hW1, ← hW2]
  clear hW1 hW2
  go_wp2_with (refine BigFrame.wpList_want (by rfl) fun KK hKK => wp_load_mid 27 _ rfl w.heap.size 6 rfl (p.nc.map (Value.int .u8)) _ HCN.out Tryd.underlying27 rfl HNI.out (hKK _ _ (Hid.out ?_)))
  unfold Hid
  go_wp2_with (refine BigFrame.wpList_want (by rfl) fun KK hKK => wp_load_mid 27 _ rfl (w.heap.size + 1) 6 rfl (p.nc.map (Value.int .u8)) _ HDN.out Tryd.underlying27 rfl HNI.out (hKK _ _ (Hid.out ?_)))
  unfold Hid
  go_wp2_with (refine BigFrame.wpList_want (by rfl) fun KK hKK => wp_eqlN _ _ _ rfl p.nc p.nc HNL.out HNL.out rfl rfl (hKK _ _ (Hid.out ?_)))
  unfold Hid
  have hnn : (p.nc == p.nc) = true := by simp
  go_wp2_with fail
  refine cs.mono ?_
  rintro e w3 ⟨rfl, b3⟩
  have HB3 : Hid (Below w.heap.size w w3) := HB2.out.trans (b3.mono HB2.out.size)
  clear cs b3
  go_wp2
  go_ret
  exact ⟨rfl, HB3.out⟩
end Go.Proofs.YthhghehnaopmhaaDoor
namespace Go.Proofs.YthhghehnaopmhaaDoor
open Go.RowKit Go.Shelf
set_option maxRecDepth 100000

set_option maxHeartbeats 4000000 in
theorem flatV_any (p : Fm) (sv : Value) (w : World) (hK : isK p.k = true) (hb : ¬ badF p) (hn : p.nc.length = 16) (hs : hS p.k = true → SSp w sv p.sp) (hl : p.sp.length ≤ 100000) :
    Calls Tryd.prog 20 #[frV p sv] w fun e w' => ∃ sv', e = .returned (.agg (plA p sv')) ∧ RSp w' w.heap.size sv' p.sp ∧ Below w.heap.size w w' := by
  obtain ⟨ty, y, hy⟩ := frV_iface hK sv
  obtain ⟨W1, hW1⟩ : ∃ W1, W1 = w.alloc (.cells #[.int .u8 0, .int .i64 0, .int .i64 0, .int .i64 0, .bool false, .string ⟨#[]⟩, .int .u8 0, .int .u8 0, .int .u8 0, .int .u8 0, .int .u8 0, .int .u8 0, .int .u8 0, .int .u8 0, .int .u8 0, .int .u8 0, .int .u8 0, .int .u8 0, .int .u8 0, .int .u8 0, .int .u8 0, .int .u8 0, .slice none 0 0] 36) := ⟨_, rfl⟩
  have b1 : Below w.heap.size w W1 := by rw [hW1]; exact al_below _ _
  have g1 : W1.heap[w.heap.size]? = some (.cells #[.int .u8 0, .int .i64 0, .int .i64 0, .int .i64 0, .bool false, .string ⟨#[]⟩, .int .u8 0, .int .u8 0, .int .u8 0, .int .u8 0, .int .u8 0, .int .u8 0, .int .u8 0, .int .u8 0, .int .u8 0, .int .u8 0, .int .u8 0, .int .u8 0, .int .u8 0, .int .u8 0, .int .u8 0, .int .u8 0, .slice none 0 0] 36 (0, 0)) := by rw [hW1]; exact heap_alloc_new _ _
  have cf := flatF_any p sv W1 hK hb hn (fun h => (hs h).kept b1) hl
  rw [hy] at cf ⊢
  have HB1 : Hid (Below w.heap.size w W1) := b1
  have HG1 : Hid (W1.heap[w.heap.size]? = some (.cells #[.int .u8 0, .int .i64 0, .int .i64 0, .int .i64 0, .bool false, .string ⟨#[]⟩, .int .u8 0, .int .u8 0, .int .u8 0, .int .u8 0, .int .u8 0, .int .u8 0, .int .u8 0, .int .u8 0, .int .u8 0, .int .u8 0, .int .u8 0, .int .u8 0, .int .u8 0, .int .u8 0, .int .u8 0, .int .u8 0, .slice none 0 0] 36 (0, 0))) := g1
  have HNL : Hid (p.nc.length = 16) := hn
  have HSZ : Hid (∀ v, (Tryd.prog.info? 36).map (·.size) = some (plA p v).size) := fun v => by rw [plA_size hn]; exact infoP
  have HON : Hid (∀ (a : Option Addr) (m c : Nat), (plA p (.slice a m c)).all (·.oneCell') = true) := fun a m c => all_oneCell_toArray (plL_one rfl)
  have HO23 : Hid (∀ v, (plA Fm.zero (.slice none 0 0)).size = (plA p v).size) := fun v => by rw [plA_size hn]; rfl
  clear b1 g1 hK hb hn hs hl hy
  go_enter Tryd.func20, Tryd.ntmps20
  go_upto_region 1 with fail
  rw [← hW1]
  clear hW1
  go_wp2_with fail
  refine cf.mono ?_
  rintro e w2 ⟨s2, rfl, r2, b2⟩
  obtain ⟨sa, sc, rfl, -, -, -⟩ := r2.is.shape
  have HG2 : Hid (w2.heap[w.heap.size]? = some (.cells #[.int .u8 0, .int .i64 0, .int .i64 0, .int .i64 0, .bool false, .string ⟨#[]⟩, .int .u8 0, .int .u8 0, .int .u8 0, .int .u8 0, .int .u8 0, .int .u8 0, .int .u8 0, .int .u8 0, .int .u8 0, .int .u8 0, .int .u8 0, .int .u8 0, .int .u8 0, .int .u8 0, .int .u8 0, .int .u8 0, .slice none 0 0] 36 (0, 0))) := blk_kept HG1.out b2 (blk_lt HG1.out)
  have HB2 : Hid (Below w.heap.size w w2) := HB1.out.trans (b2.mono HB1.out.size)
  have HR2 : Hid (RSp w2 w.heap.size (.slice sa p.sp.length sc) p.sp) := RSp.mono r2 HB1.out.size
  have HRZ : Hid (RSp (w2.setRow w.heap.size (plA p (.slice sa p.sp.length sc))) w.heap.size (.slice sa p.sp.length sc) p.sp) := HR2.out.keep (fun k cs hk hh => by rw [setRow_other _ _ _ _ (fun e => by rw [e, HG2.out] at hh; cases hh)]; exact hh)
  clear cf r2 b2
  go_wp2_with (refine wpList_store_row rfl 36 _ _ rfl w.heap.size (plA p (.slice sa p.sp.length sc)) rfl rfl 36 _ HG2.out (HSZ.out _) (HO23.out _) (HON.out _ _ _) (Hid.out ?_))
  unfold Hid
  go_wp2
  refine bodyPost_ret (v := .agg (plA p (.slice sa p.sp.length sc))) (results_cell_row rfl _ _ w.heap.size 36 (plA p (.slice sa p.sp.length sc)) (0, 0) _ rfl (setRow_heap _ _ _ _ _ _ HG2.out) Tryd.underlying36 rfl (HSZ.out _)) rfl ⟨_, rfl, HRZ.out, below_setRow HB2.out (Nat.le_refl _) _⟩
set_option maxHeartbeats 4000000 in
theorem sameF_any (p : Fm) (sv pv : Value) (w : World) (hK : isK p.k = true) (hb : ¬ badF p) (hn : p.nc.length = 16) (hs : hS p.k = true → SSp w sv p.sp) (hv : SSp w pv p.sp) (hl : p.sp.length ≤ 100000) :
    Calls Tryd.prog 10 #[frV p sv, .agg (plA p pv)] w fun e w' => e = .returned (.bool true) ∧ Below w.heap.size w w' := by
  obtain ⟨ty, y, hy⟩ := frV_iface hK sv
  obtain ⟨W1, hW1⟩ : ∃ W1, W1 = w.alloc (.cells (plA p pv) 30) := ⟨_, rfl⟩
  have b1 : Below w.heap.size w W1 := by rw [hW1]; exact al_below _ _
  have g1 : PF W1 w.heap.size 30 p pv := by rw [hW1]; exact PF.new w _ p pv
  have HB1 : Hid (Below w.heap.size w W1) := b1
  have FR : Hid (∀ x, From W1 x → x.rangeAt w.heap.size 0 (plL p pv)) := fun x hx => (g1.kept hx).range
  have CF : Hid (∀ x, From W1 x → Calls Tryd.prog 20 #[.iface ty y] x fun e w' => ∃ sv', e = .returned (.agg (plA p sv')) ∧ RSp w' x.heap.size sv' p.sp ∧ Below x.heap.size x w') := fun x hx => by
    have := flatV_any p sv x hK hb hn (fun h => ((hs h).kept b1).kept hx) hl
    rwa [hy] at this
  have CS : Hid (∀ x u, From W1 x → SSp x u p.sp → Calls Tryd.prog 19 #[.agg (plA p u), .agg (plA p pv)] x fun e w' => e = .returned (.bool true) ∧ Below x.heap.size x w') := fun x u hx h => rsameF_any p u pv x hn h ((hv.kept b1).kept hx) hl
  have HSL : Hid ((Tryd.prog.info? 30).map (·.size) = some (plL p pv).length) := by unfold Hid; rw [plL_len hn]; kernel_rfl
  rw [hy]
  clear b1 g1 hK hb hn hs hv hl hy
  go_enter Tryd.func10, Tryd.ntmps10
  go_upto_region 1 with fail
  rw [← hW1]
  clear hW1
  refine wp_region_held_drew (S := From W1) (by kernel_rfl) (Below.drew (Below.refl _ _)) (fun _ => ?_)
  refine wpAnyH_name (fun u0 hu0 => ?_)
  have bu0 : Below W1.heap.size W1 u0 := by rw [hu0.out]; exact Below.drew (Below.refl _ _)
  refine wpAnyH_take (i := 0) (oi := { dst := some 5, op := Op.move (Operand.tmp 0), type := 32, pos := "law.go:25", after := #[], guard := none }) (v := ?vr1) rfl (by kernel_rfl) (by kernel_rfl) (by kernel_rfl) (fun _ _ _ h => h) (Or.inl ⟨by rfl, ?yr1⟩) bu0 ?rr1
  case yr1 => (intro w hSw; go_simp; try with_reducible rfl)
  try simp only [Act.put, List.setIfInBounds_toArray, List.set_cons_zero, List.set_cons_succ]
  refine wpAnyH_take (i := 2) (oi := { dst := some 7, op := Op.load 30 (Operand.tmp 3), type := 30, pos := "law.go:25", after := #[], guard := none }) (v := .agg (plA p pv)) rfl (by kernel_rfl) (by kernel_rfl) (by kernel_rfl) (fun _ _ _ h => h) (yieldsIf_load_mid (by rfl) 30 _ rfl w.heap.size 0 rfl (plL p pv) _ (fun x hx => FR.out x hx) Tryd.underlying30 rfl HSL.out) bu0 ?_
  try simp only [Act.put, List.setIfInBounds_toArray, List.set_cons_zero, List.set_cons_succ]
  refine wpAnyH_ready (rs := [1]) (by kernel_rfl) (by simp) ?_
  refine AllReadyH.cons (o := { dst := some 6, op := Op.call { callee := Callee.value (Operand.func 20), args := #[Operand.tmp 5], argTypes := #[32] }, type := 36, pos := "law.go:25", after := #[{ on := 0, ground := Ground.data }], guard := none }) rfl (fun KK hKK => ?_) ?_
  · go_simp
    refine (CF.out _ bu0).mono ?_
    rintro e u3' ⟨vu3, rfl, ou3, bu3'⟩
    (try go_wp2_with fail)
    refine hKK.out _ _ (bu0.trans (Below.mono (bu3') bu0.size)) (fun _ => ?_)
    clear hKK KK
    try simp only [Act.put, List.setIfInBounds_toArray, List.set_cons_zero, List.set_cons_succ]
    refine wpAnyH_name (fun u3 hu3 => ?_)
    have bu3 : Below W1.heap.size W1 u3 := by rw [hu3.out]; exact (bu0.trans (Below.mono (bu3') bu0.size))
    have OO : Hid (SSp u3 vu3 p.sp) := by unfold Hid; rw [hu3.out]; exact RSp.is ou3
    refine wpAnyH_ready (rs := [3]) (by kernel_rfl) (by simp) ?_
    refine AllReadyH.cons (o := { dst := some 8, op := Op.call { callee := Callee.value (Operand.func 19), args := #[Operand.tmp 6, Operand.tmp 7], argTypes := #[30, 30] }, type := 4, pos := "law.go:25", after := #[{ on := 1, ground := Ground.data }, { on := 2, ground := Ground.data }, { on := 1, ground := Ground.chain }], guard := none }) rfl (fun KK hKK => ?_) ?_
    · have csu4 := CS.out _ _ bu3 OO.out
      go_simp
      refine csu4.mono ?_
      rintro e u4' ⟨rfl, bu4'⟩
      (try go_wp2_with fail)
      refine hKK.out _ _ (bu3.trans (Below.mono (bu4') bu3.size)) (fun _ => ?_)
      clear hKK KK
      try simp only [Act.put, List.setIfInBounds_toArray, List.set_cons_zero, List.set_cons_succ]
      refine wpAnyH_name (fun u4 hu4 => ?_)
      have bu4 : Below W1.heap.size W1 u4 := by rw [hu4.out]; exact (bu3.trans (Below.mono (bu4') bu3.size))
      refine wpAnyH_take (i := 4) (oi := { dst := some 4, op := Op.assign (Operand.tmp 8), type := 4, pos := "law.go:25", after := #[{ on := 3, ground := Ground.data }, { on := 3, ground := Ground.chain }, { on := 0, ground := Ground.phase }, { on := 1, ground := Ground.phase }, { on := 2, ground := Ground.phase }, { on := 3, ground := Ground.phase }], guard := none }) (v := ?vr5) rfl (by kernel_rfl) (by kernel_rfl) (by kernel_rfl) (fun _ _ _ h => h) (Or.inl ⟨by rfl, ?yr5⟩) bu4 ?rr5
      case yr5 => (intro w hSw; go_simp; try with_reducible rfl)
      try simp only [Act.put, List.setIfInBounds_toArray, List.set_cons_zero, List.set_cons_succ]
      refine wpAnyH_done (by kernel_rfl) ?_ _
      have BZ : Hid (Below w.heap.size w u4) := HB1.out.trans (Below.mono bu4 HB1.out.size)
      go_wp2
      go_ret
      exact ⟨rfl, BZ.out⟩
    exact AllReadyH.nil
  exact AllReadyH.nil
end Go.Proofs.YthhghehnaopmhaaDoor
namespace Go.Proofs.YthhghehnaopmhaaDoor
open Go.ChangeShapes Go.WideShapes Go.ChangeAt Go.RowKit Go.Deep
set_option maxRecDepth 100000

theorem cells27 : Tryd.prog.cellsOf 27 = 16 := by kernel_rfl
theorem cells28 : Tryd.prog.cellsOf 28 = 1 := by kernel_rfl
theorem cells4 : Tryd.prog.cellsOf 4 = 1 := by kernel_rfl
theorem cells30 : Tryd.prog.cellsOf 30 = 23 := by kernel_rfl
theorem cellsSp : Tryd.prog.cellsOf 109 = 2 := by kernel_rfl
/-- Spans that came in, in a cell. -/
theorem sps_trod {H : Type} {enc : TypeId × Value → H} {W : World} {fuel : Nat} {cs : List Value} {x : DataW H × List MemPlace}
    (h : DataW.trod enc Tryd.prog W 0 (fun _ => true) true fuel 28 cs = some x) : ∃ sv l, cs = [sv] ∧ SSp W sv l := by
  rcases open_slice Tryd.underlying28 h with ⟨hcs, _⟩ | ⟨a, len0, cap0, m, n, D, Pl, hcs, _, hl, hm, hmm, _, hall⟩
  · exact ⟨_, [], hcs, SSp.nil W⟩
  · simp only [if_true] at hmm
    have each : ∀ i, i < len0 → ∃ q : Sp, ∀ j v, (spc q)[j]? = some v → W.cell? (a.add (i * 2 + j)) = some v := by
      intro i hi
      obtain ⟨cs', h1, h2⟩ := hall i (by omega)
      rw [cellsSp] at h1
      obtain ⟨_, hlen, hcell⟩ := World.cells?_some h1
      obtain ⟨y0, y1, k, _, hl2, q0, q1⟩ := trod_struct2 Tryd.underlying109 h2
      obtain ⟨a0, e0, _, _⟩ := DataW.trod_int Tryd.underlying3 q0
      obtain ⟨a1, e1, _, _⟩ := DataW.trod_int Tryd.underlying3 q1
      refine ⟨(a0, a1), fun j v hv => ?_⟩
      have hj : j < 2 := (List.getElem?_eq_some_iff.1 hv).1
      have c0 := hcell j (by omega)
      rw [add_add] at c0
      rw [c0]
      have u0 := congrArg (·[0]?) e0
      have u1 := congrArg (·[0]?) e1
      simp only [List.getElem?_take, List.getElem?_drop, cells3] at u0 u1
      rcases (by omega : j = 0 ∨ j = 1) with rfl | rfl
      · have : v = .int .i64 a0 := by simpa [spc] using hv.symm
        rw [this]
        simpa using u0
      · have : v = .int .i64 a1 := by simpa [spc] using hv.symm
        rw [this]
        simpa using u1
    obtain ⟨q, hq⟩ := choose_lt each
    have hlen : ((List.range len0).map q).length = len0 := by simp
    refine ⟨_, (List.range len0).map q, hcs, ⟨some a, cap0, by rw [List.length_map, hlen], by rw [List.length_map, hlen]; exact hl, hm, (fun e => by cases e), spc_cl _, ?_⟩⟩
    rcases Nat.eq_zero_or_pos len0 with h0 | h0
    · subst h0; exact .inl rfl
    · obtain ⟨b, off, spot⟩ := a
      have hspot : spot = none := by simpa [Addr.add] using World.cell?_spot (hq 0 h0 0 _ rfl)
      subst hspot
      refine .inr ⟨b, off, rfl, fun i hi => ?_⟩
      rw [List.length_map, hlen] at hi
      have e : atC (((List.range len0).map q).map spc) i = spc (q i) := by simp [atC, List.getD, hi]
      rw [e]
      intro j v hv
      have := hq i hi j v hv
      rw [Addr.add_lit, ← Nat.add_assoc] at this
      exact this
/-- The sixteen bytes of a nonce. -/
theorem nc_trod {H : Type} {enc : TypeId × Value → H} {W : World} {fuel : Nat} {cs : List Value} {x : DataW H × List MemPlace}
    (h : DataW.trod enc Tryd.prog W 0 (fun _ => true) true fuel 27 cs = some x) (hsz : cs.length = 16) : ∃ nc : List Int, cs = nc.map (Value.int .u8) ∧ nc.length = 16 ∧ BB nc := by
  cases fuel with
  | zero => simp [DataW.trod] at h
  | succ m =>
    rw [DataW.trod_step] at h
    unfold DataW.trodStep at h
    simp only [Tryd.underlying27] at h
    rw [if_pos (by rw [cells27]; exact hsz)] at h
    simp only [Option.map_eq_some_iff] at h
    obtain ⟨ys, hy, _⟩ := h
    have cell : ∀ i, i < 16 → ∃ a : Int, cs[i]? = some (.int .u8 a) ∧ (Lit.int .u8 a).wf = true := fun i hi => by
      obtain ⟨y, hyi⟩ := mapM_each _ _ hy i (by simpa using hi)
      obtain ⟨a, ea, _, wa⟩ := DataW.trod_int Tryd.underlying5 hyi
      refine ⟨a, ?_, wa⟩
      rw [cells5, Nat.mul_one] at ea
      have h0 := congrArg (·[0]?) ea
      simpa [List.getElem?_take, List.getElem?_drop] using h0
    obtain ⟨q, hq⟩ := choose_lt cell
    refine ⟨(List.range 16).map q, ?_, by simp, fun i => ?_⟩
    · apply List.ext_getElem?
      intro i
      by_cases hi : i < 16
      · rw [(hq i hi).1]
        simp [hi]
      · rw [List.getElem?_eq_none (by omega), List.getElem?_eq_none (by simp; omega)]
    · rw [List.getD_eq_getElem?_getD, List.getElem?_map]
      by_cases hi : i < 16
      · rw [List.getElem?_range hi]
        have := bounds_u8 (hq i hi).2
        simp
        omega
      · rw [List.getElem?_eq_none (by simp; omega)]
        simp
end Go.Proofs.YthhghehnaopmhaaDoor
namespace Go.Proofs.YthhghehnaopmhaaDoor
open Go.ChangeShapes Go.WideShapes Go.ChangeAt Go.RowKit Go.Deep
set_option maxRecDepth 100000

theorem trod_struct8 {H : Type} {enc : TypeId × Value → H} {P : Program} {w : World} {base : Nat} {spare : Nat → Bool} {held : Bool} {t : TypeId} {f0 f1 f2 f3 f4 f5 f6 f7 : Field} {fuel : Nat} {cs : List Value} {x : DataW H × List MemPlace} (ht : P.underlying t = some (.struct #[f0, f1, f2, f3, f4, f5, f6, f7])) (h : DataW.trod enc P w base spare held fuel t cs = some x) :
    ∃ y0 y1 y2 y3 y4 y5 y6 y7 n, cs.length = P.cellsOf t ∧ DataW.trod enc P w base spare held n f0.type ((cs.drop f0.offset).take (P.cellsOf f0.type)) = some y0 ∧
      DataW.trod enc P w base spare held n f1.type ((cs.drop f1.offset).take (P.cellsOf f1.type)) = some y1 ∧ DataW.trod enc P w base spare held n f2.type ((cs.drop f2.offset).take (P.cellsOf f2.type)) = some y2 ∧
      DataW.trod enc P w base spare held n f3.type ((cs.drop f3.offset).take (P.cellsOf f3.type)) = some y3 ∧ DataW.trod enc P w base spare held n f4.type ((cs.drop f4.offset).take (P.cellsOf f4.type)) = some y4 ∧
      DataW.trod enc P w base spare held n f5.type ((cs.drop f5.offset).take (P.cellsOf f5.type)) = some y5 ∧ DataW.trod enc P w base spare held n f6.type ((cs.drop f6.offset).take (P.cellsOf f6.type)) = some y6 ∧
      DataW.trod enc P w base spare held n f7.type ((cs.drop f7.offset).take (P.cellsOf f7.type)) = some y7 := by
  obtain ⟨xs, n, _, rfl, hl, hlen, hf⟩ := DataW.trod_struct ht h
  match xs, hlen with
  | [y0, y1, y2, y3, y4, y5, y6, y7], _ => exact ⟨y0, y1, y2, y3, y4, y5, y6, y7, n, hl, by simpa using hf 0 f0 rfl, by simpa using hf 1 f1 rfl, by simpa using hf 2 f2 rfl, by simpa using hf 3 f3 rfl, by simpa using hf 4 f4 rfl, by simpa using hf 5 f5 rfl, by simpa using hf 6 f6 rfl, by simpa using hf 7 f7 rfl⟩
theorem nine (cs : List Value) (h : cs.length = 23) : ∃ v0 v1 v2 v3 v4 v5 r v22, cs = v0 :: v1 :: v2 :: v3 :: v4 :: v5 :: (r ++ [v22]) ∧ r.length = 16 := by
  match cs, h with
  | v0 :: v1 :: v2 :: v3 :: v4 :: v5 :: rest, h =>
    have hr : rest.length = 17 := by simpa using h
    have h1 : (rest.drop 16).length = 1 := by rw [List.length_drop, hr]
    match hd : rest.drop 16, h1 with
    | [v22], _ =>
      refine ⟨v0, v1, v2, v3, v4, v5, rest.take 16, v22, ?_, by rw [List.length_take, hr]; rfl⟩
      rw [← hd, List.take_append_drop]
/-- What a plain form that came in keeps: numbers of their types. -/
structure FmI (W : World) (p : Fm) (sv : Value) : Prop where
  k : 0 ≤ p.k ∧ p.k ≤ 255
  id : -9223372036854775808 ≤ p.id ∧ p.id ≤ 9223372036854775807
  n : -9223372036854775808 ≤ p.n ∧ p.n ≤ 9223372036854775807
  cd : -9223372036854775808 ≤ p.cd ∧ p.cd ≤ 9223372036854775807
  nl : p.nc.length = 16
  nb : BB p.nc
  sp : SSp W sv p.sp
theorem fm_trod {H : Type} {enc : TypeId × Value → H} {W : World} {fuel : Nat} {cs : List Value} {x : DataW H × List MemPlace}
    (h : DataW.trod enc Tryd.prog W 0 (fun _ => true) true fuel 30 cs = some x) : ∃ p sv, cs = plL p sv ∧ FmI W p sv := by
  obtain ⟨y0, y1, y2, y3, y4, y5, y6, y7, n, hl, h0, h1, h2, h3, h4, h5, h6, h7⟩ := trod_struct8 Tryd.underlying30 h
  rw [cells30] at hl
  obtain ⟨v0, v1, v2, v3, v4, v5, r, v22, rfl, hr⟩ := nine cs hl
  simp only [cells9, cells5, cells3, cells4, cells27, cells28] at h0 h1 h2 h3 h4 h5 h6 h7
  obtain ⟨k, e0, _, wk⟩ := DataW.trod_int Tryd.underlying5 h0
  obtain ⟨i, e1, _, wi⟩ := DataW.trod_int Tryd.underlying3 h1
  obtain ⟨m, e2, _, wm⟩ := DataW.trod_int Tryd.underlying3 h2
  obtain ⟨c, e3, _, wc⟩ := DataW.trod_int Tryd.underlying3 h3
  obtain ⟨b, e4, _⟩ := DataW.trod_bool Tryd.underlying4 h4
  obtain ⟨s, e5, _, hs⟩ := DataW.trod_string Tryd.underlying9 h5
  have e6 : ((v0 :: v1 :: v2 :: v3 :: v4 :: v5 :: (r ++ [v22])).drop 6).take 16 = r := by
    show (r ++ [v22]).take 16 = r
    exact List.take_left' hr
  rw [e6] at h6
  obtain ⟨nc, rfl, hn, hb⟩ := nc_trod h6 hr
  have e7 : ((v0 :: v1 :: v2 :: v3 :: v4 :: v5 :: (nc.map (Value.int .u8) ++ [v22])).drop 22).take 1 = [v22] := by
    show ((nc.map (Value.int .u8) ++ [v22]).drop 16).take 1 = [v22]
    rw [List.drop_left' hr]
    rfl
  rw [e7] at h7
  obtain ⟨sv, l, e8, hsp⟩ := sps_trod h7
  simp at e0 e1 e2 e3 e4 e5 e8
  subst e0 e1 e2 e3 e4 e5 e8
  have bk := bounds_u8 wk
  have bi := bounds_i64 wi
  have bm := bounds_i64 wm
  have bc := bounds_i64 wc
  exact ⟨⟨k, i, m, c, b, s, nc, l⟩, _, rfl, ⟨by show 0 ≤ k ∧ k ≤ 255; omega, by show _ ≤ i ∧ i ≤ _; omega, by show _ ≤ m ∧ m ≤ _; omega, by show _ ≤ c ∧ c ≤ _; omega, hn, hb, hsp⟩⟩
end Go.Proofs.YthhghehnaopmhaaDoor
namespace Go.Proofs.YthhghehnaopmhaaDoor
open Go.ChangeShapes Go.WideShapes Go.ChangeAt Go.RowKit Go.Deep
set_option maxRecDepth 100000

def plc (q : Fm × Value) : List Value := plL q.1 q.2
theorem ssp_one {W : World} {v : Value} {l : List Sp} (h : SSp W v l) : v.oneCell' = true := by
  obtain ⟨a, c, rfl, _⟩ := IS.shape h
  rfl
theorem plc_cl {W : World} {l : List (Fm × Value)} (h : ∀ q ∈ l, FmI W q.1 q.2) : CL 23 (l.map plc) := fun c hc => by
  obtain ⟨q, hq, rfl⟩ := List.mem_map.1 hc
  exact ⟨plL_len (h q hq).nl _, fun v hv => plL_one (ssp_one (h q hq).sp) v hv⟩
theorem FmI.kept {W W' : World} {p : Fm} {sv : Value} (h : FmI W p sv) (hb : Below W.heap.size W W') : FmI W' p sv := ⟨h.k, h.id, h.n, h.cd, h.nl, h.nb, h.sp.kept hb⟩
/-- Plain forms in a slice. -/
structure FQ (W : World) (v : Value) (l : List (Fm × Value)) : Prop where
  is : IS 23 W v (l.map plc)
  ok : ∀ q ∈ l, FmI W q.1 q.2
theorem FQ.kept {W W' : World} {v : Value} {l : List (Fm × Value)} (h : FQ W v l) (hb : Below W.heap.size W W') : FQ W' v l := ⟨h.is.kept hb, fun q hq => (h.ok q hq).kept hb⟩
theorem fms_in {H : Type} {enc : TypeId × Value → H} {W : World} {base : Nat} {v : Value} {d : DataW H} {p : List MemPlace}
    (hval : Value.okWide Tryd.prog W .any base 22 v) (h : DataW.Trod enc Tryd.prog W 0 (fun _ => true) true 22 v d p) : ∃ l, FQ W v l := by
  obtain ⟨a0, len0, cap0, rfl⟩ := okWide_slice Tryd.underlying22 hval
  obtain ⟨fuel, hf⟩ := h
  rcases open_slice Tryd.underlying22 hf with ⟨hcs, _⟩ | ⟨x, l, c, m, n, D, Pl, hcs, _, hl, hm, hmm, _, hall⟩
  · simp [Value.cells] at hcs
    obtain ⟨rfl, rfl, rfl⟩ := hcs
    exact ⟨[], ⟨IS.nil 23 W, by simp⟩⟩
  · simp [Value.cells] at hcs
    obtain ⟨rfl, rfl, rfl⟩ := hcs
    simp only [if_true] at hmm
    have each : ∀ i, i < len0 → ∃ q : Fm × Value, (∀ j v, (plc q)[j]? = some v → W.cell? (x.add (i * 23 + j)) = some v) ∧ FmI W q.1 q.2 := by
      intro i hi
      obtain ⟨cs', h1, h2⟩ := hall i (by omega)
      rw [cells30] at h1
      obtain ⟨_, hlen, hcell⟩ := World.cells?_some h1
      obtain ⟨y, sv, rfl, hy⟩ := fm_trod h2
      refine ⟨(y, sv), fun j v hv => ?_, hy⟩
      have hj : j < 23 := by have := (List.getElem?_eq_some_iff.1 hv).1; unfold plc at this; rw [plL_len hy.nl] at this; exact this
      have c0 := hcell j (by omega)
      rw [add_add] at c0
      rw [c0]
      unfold plc at hv
      simpa using hv
    have : Inhabited (Fm × Value) := ⟨(Fm.zero, .slice none 0 0)⟩
    obtain ⟨q, hq⟩ := choose_lt each
    have hlen : ((List.range len0).map q).length = len0 := by simp
    have hok : ∀ y ∈ (List.range len0).map q, FmI W y.1 y.2 := fun y hy => by
      obtain ⟨i, hi, rfl⟩ := List.mem_map.1 hy
      exact (hq i (List.mem_range.1 hi)).2
    refine ⟨(List.range len0).map q, ⟨⟨some x, cap0, by rw [List.length_map, hlen], by rw [List.length_map, hlen]; exact hl, hm, (fun e => by cases e), plc_cl hok, ?_⟩, hok⟩⟩
    rcases Nat.eq_zero_or_pos len0 with h0 | h0
    · subst h0; exact .inl rfl
    · obtain ⟨b, off, spot⟩ := x
      have hspot : spot = none := by simpa [Addr.add] using World.cell?_spot ((hq 0 h0).1 0 _ rfl)
      subst hspot
      refine .inr ⟨b, off, rfl, fun i hi => ?_⟩
      rw [List.length_map, hlen] at hi
      have e : atC (((List.range len0).map q).map plc) i = plc (q i) := by simp [atC, List.getD, hi]
      rw [e]
      intro j v hv
      have := (hq i hi).1 j v hv
      rw [Addr.add_lit, ← Nat.add_assoc] at this
      exact this
end Go.Proofs.YthhghehnaopmhaaDoor
namespace Go.Proofs.YthhghehnaopmhaaDoor
open Go.RowKit Go.Shelf
set_option maxRecDepth 100000

def liM (p : Fm) : Bool := decide ((p.tx.size : Int) ≤ 1200) && decide ((p.sp.length : Int) ≤ 70)
set_option maxHeartbeats 4000000 in
theorem light_any (p : Fm) (u : Value) (w : World) (hn : p.nc.length = 16) (hu : SSp w u p.sp) :
    Calls Tryd.prog 6 #[.agg (plA p u)] w fun e w' => e = .returned (.bool (liM p)) ∧ Below w.heap.size w w' := by
  obtain ⟨W1, hW1⟩ : ∃ W1, W1 = w.alloc (.cells (plA p u) 30) := ⟨_, rfl⟩
  have b1 : Below w.heap.size w W1 := by rw [hW1]; exact al_below _ _
  have g1 : PF W1 w.heap.size 30 p u := by rw [hW1]; exact PF.new w _ p u
  have HB1 : Hid (Below w.heap.size w W1) := b1
  obtain ⟨c0, c1, c2, c3, c4, c5, c22, cn⟩ := g1.pc hn
  obtain ⟨a, c, rfl, -, -, -⟩ := hu.shape
  unfold liM
  generalize p.sp.length = n at *
  clear b1 g1 cn hn hu
  by_cases h1 : (p.tx.size : Int) ≤ 1200
  · have e1 : decide ((p.tx.size : Int) ≤ 1200) = true := decide_eq_true h1
    go_enter Tryd.func6, Tryd.ntmps6
    go_upto_region 1 with fail
    rw [← hW1]
    clear hW1
    go_wp2
    go_ret
    exact ⟨by rw [e1, Bool.true_and]; rfl, HB1.out⟩
  · have e1 : decide ((p.tx.size : Int) ≤ 1200) = false := decide_eq_false h1
    go_enter Tryd.func6, Tryd.ntmps6
    go_upto_region 1 with fail
    rw [← hW1]
    clear hW1
    go_wp2
    go_ret
    exact ⟨by first | (rw [e1, Bool.false_and]; rfl) | rfl, HB1.out⟩
end Go.Proofs.YthhghehnaopmhaaDoor
namespace Go.Proofs.YthhghehnaopmhaaDoor
open Go.RowKit Go.Shelf
set_option maxRecDepth 100000

abbrev FV := Fm × Value
def atF (L : List FV) (j : Nat) : FV := L.getD j (Fm.zero, .slice none 0 0)
theorem atF_eq (L : List FV) (j : Nat) (h : j < L.length) : atF L j = L[j] := by simp [atF, List.getD, h]
theorem atF_mem (L : List FV) (j : Nat) (h : j < L.length) : atF L j ∈ L := by rw [atF_eq L j h]; exact List.getElem_mem h
theorem atC_plc (L : List FV) (j : Nat) (h : j < L.length) : atC (L.map plc) j = plc (atF L j) := by rw [atF_eq L j h]; simp [atC, List.getD, h]
/-- Those that may be, of the first j. -/
def mq (L : List FV) (j : Nat) : List FV := (L.take j).filter (fun q => decide (chkM q.1 = 0))
def pts (M : List FV) : List Int := ((M.map Prod.fst).map putM).flatten
theorem mq_zero (L : List FV) : mq L 0 = [] := rfl
theorem mq_next (L : List FV) (j : Nat) (h : j < L.length) : mq L (j + 1) = if chkM (atF L j).1 = 0 then mq L j ++ [atF L j] else mq L j := by
  unfold mq
  rw [List.take_succ_eq_append_getElem h, List.filter_append, atF_eq L j h]
  by_cases hc : chkM L[j].1 = 0
  · rw [if_pos hc]; simp [hc]
  · rw [if_neg hc]; simp [hc]
theorem mq_len (L : List FV) (j : Nat) : (mq L j).length ≤ j := by
  unfold mq
  exact Nat.le_trans (List.length_filter_le ..) (by rw [List.length_take]; omega)
theorem mq_mem {L : List FV} {j : Nat} {q : FV} (h : q ∈ mq L j) : q ∈ L ∧ Ok q.1 := by
  unfold mq at h
  rw [List.mem_filter] at h
  exact ⟨List.mem_of_mem_take h.1, chkM_ok (of_decide_eq_true h.2)⟩
/-- What each that may be has. -/
def Oks (M : List FV) : Prop := ∀ q ∈ M, Ok q.1 ∧ q.1.nc.length = 16
theorem Oks.fst {M : List FV} (h : Oks M) : ∀ p ∈ M.map Prod.fst, Ok p ∧ p.nc.length = 16 := fun p hp => by
  obtain ⟨q, hq, rfl⟩ := List.mem_map.1 hp
  exact h q hq
theorem pts_nil : pts [] = [] := rfl
theorem pts_app (M : List FV) (q : FV) : pts (M ++ [q]) = pts M ++ putM q.1 := by simp [pts]
theorem putM_le {p : Fm} (h : Ok p) (hn : p.nc.length = 16) : (putM p).length ≤ 1150 := by
  have := hdB_len h hn
  rw [putM_eq, List.length_cons, List.length_append]
  omega
theorem pts_len : ∀ {M : List FV}, Oks M → (pts M).length ≤ 1150 * M.length
  | [], _ => by simp [pts]
  | q :: M, h => by
    have h1 := h q (List.mem_cons_self ..)
    have h2 := pts_len (M := M) fun x hx => h x (List.mem_cons_of_mem _ hx)
    have h3 := putM_le h1.1 h1.2
    have e : pts (q :: M) = putM q.1 ++ pts M := by simp [pts]
    rw [e, List.length_append, List.length_cons]
    omega
theorem pts_all {M : List FV} (h : Oks M) : allM (pts M) = (M.map Prod.fst, 0) := allM_put _ h.fst
/-- Where the last one begins: cut off behind that, they are none. -/
def LS (M : List FV) (s : Nat) : Prop := s ≤ (pts M).length ∧ ∀ k, s < k → k < (pts M).length → allM ((pts M).take k) = ([], 3)
theorem LS.nil : LS [] 0 := ⟨Nat.le_refl _, fun k h1 h2 => by simp [pts_nil] at h2⟩
theorem LS.app {M : List FV} {q : FV} (h : Oks (M ++ [q])) : LS (M ++ [q]) (pts M).length := by
  rw [LS, pts_app, List.length_append]
  refine ⟨by omega, fun k h1 h2 => ?_⟩
  obtain ⟨i, rfl⟩ : ∃ i, k = (pts M).length + i := ⟨k - (pts M).length, by omega⟩
  rw [List.take_append, List.take_of_length_le (by omega), show (pts M).length + i - (pts M).length = i by omega]
  have hq := h q (by simp)
  exact allM_cut (M.map Prod.fst) q.1 i (Oks.fst fun x hx => h x (by simp [hx])) hq.1 hq.2 (by omega) (by omega)
theorem infoPq : (Tryd.prog.info? 30).map (fun i => (i.zero, i.size, i.bytes)) = some (some (.agg (plA Fm.zero (.slice none 0 0))), 23, 96) := by kernel_rfl
theorem map_range16 (A : List Int) (n : Nat) (h : A.length = n) : (List.range n).map (fun i => A.getD i 0) = A := by
  subst h
  apply List.ext_getElem?
  intro i
  rw [List.getElem?_map]
  rcases Nat.lt_or_ge i A.length with hi | hi
  · rw [List.getElem?_range hi]
    simp [List.getD, List.getElem?_eq_getElem hi]
  · rw [List.getElem?_eq_none (by simpa using hi), List.getElem?_eq_none hi]; rfl
theorem bsF' (k id n cd : Int) (fin : Bool) (tx : ByteArray) (f : Nat → Int) (a : Option Addr) (m c : Nat) : Tryd.prog.builtSlice 30 1 [(0, .agg (plA ⟨k, id, n, cd, fin, tx, (List.range 16).map f, []⟩ (.slice a m c)))] = some (plA ⟨k, id, n, cd, fin, tx, (List.range 16).map f, []⟩ (.slice a m c)) := by kernel_rfl
theorem bsF (p : Fm) (a : Option Addr) (m c : Nat) (h : p.nc.length = 16) : Tryd.prog.builtSlice 30 1 [(0, .agg (plA p (.slice a m c)))] = some (plA p (.slice a m c)) := by
  have := bsF' p.k p.id p.n p.cd p.fin p.tx (fun i => p.nc.getD i 0) a m c
  rw [map_range16 p.nc 16 h] at this
  exact this
theorem wpList_bsF {w : World} {ops : Array Oper} {rest : List Oper} {o : Oper} {a : Act} {Q : Exit → Act → World → Prop} (hgd : o.guard = none) (x : Operand) (ho : o.op = .buildSlice 22 1 #[(0, x)])
    (p : Fm) (u : Value) (hp : p.nc.length = 16) (hu : ∃ b m c, u = .slice b m c) (hx : a.eval x = .agg (plA p u)) (h : wpList Tryd.prog ops Q rest (a.put o.dst (.slice (some ⟨w.heap.size, 0, none⟩) 1 1)) (w.alloc (.cells (plA p u) 30))) : wpList Tryd.prog ops Q (o :: rest) a w := by
  obtain ⟨b, m, c, rfl⟩ := hu
  exact Great.wpList_buildSliceTo hgd 22 30 1 #[(0, x)] ho w.heap.size rfl o.dst rfl Tryd.underlying22 (plA p (.slice b m c)) (by simpa [hx] using bsF p b m c hp) h
theorem Hid.mk' {p : Prop} (h : p) : Hid p := h
theorem wrS {x : Int} (h0 : -9223372036854775808 ≤ x) (h1 : x ≤ 9223372036854775807) : IntKind.i64.wrap x = x ∧ wrap64 x = x := ⟨by rw [IntKind.wrap_i64]; omega, by unfold wrap64; omega⟩
/-- What the first loop holds. -/
structure BL (w0 : World) (M : List FV) (v5 v6 : Value) (w : World) : Prop where
  b : Ow w w0.heap.size v5 (pts M)
  m : RI 30 23 w w0.heap.size v6 (M.map plc)
  bel : Below w0.heap.size w0 w
theorem BL.kept {w0 w w' : World} {M : List FV} {v5 v6 : Value} (h : BL w0 M v5 v6 w) (hb : Below w.heap.size w w') : BL w0 M v5 v6 w' :=
  ⟨h.b.below hb, h.m.below hb, h.bel.trans (hb.mono h.bel.size)⟩
theorem BL.start (w0 : World) : BL w0 [] (.slice none 0 0) (.slice none 0 0) w0 := ⟨⟨⟨rfl, .inl ⟨rfl, rfl⟩⟩, fun k => by simp [pts_nil]⟩, RI.nil _ _ _ _, Below.refl _ _⟩
theorem ow_app {X Y : List Int} (h1 : ∀ k, 0 ≤ X.getD k 0 ∧ X.getD k 0 < 256) (h2 : ∀ k, 0 ≤ Y.getD k 0 ∧ Y.getD k 0 < 256) : ∀ k, 0 ≤ (X ++ Y).getD k 0 ∧ (X ++ Y).getD k 0 < 256 := fun k => by
  rcases Nat.lt_or_ge k X.length with h | h
  · have := h1 k
    simpa [List.getD, List.getElem?_append_left h] using this
  · have := h2 (k - X.length)
    simpa [List.getD, List.getElem?_append_right h] using this
/-- A frame of an own row, read. -/
theorem RF.at {w : World} {B : Nat} {a : Option Addr} {n c : Nat} {l : List Fm} (h : RF w B (.slice a n c) l) (i : Nat) (hi : i < l.length) :
    ∃ b sv, a = some ⟨b, 0, none⟩ ∧ w.cell? ⟨b, i, none⟩ = some (frV (l.getD i Fm.zero) sv) ∧ RSp w B sv (spO (l.getD i Fm.zero)) := by
  obtain ⟨V, ho, h⟩ := h
  have ho' := ho
  obtain ⟨sv, h3, h4⟩ := h i hi
  rcases ho.2 with ⟨hv, h0⟩ | ⟨g, cap, cur, hv, _⟩
  · omega
  · cases hv
    refine ⟨g, sv, rfl, ?_, h4⟩
    have := ho'.cells (g := g) rfl i _ h3
    rwa [Addr.add_lit, Nat.zero_add] at this
/-- What FrameBack keeps is light, and of 16 bytes. -/
theorem fmi_fi {W : World} {p : Fm} {sv : Value} (h : FmI W p sv) (hl : liM p = true) : FI W p sv := by
  unfold liM at hl
  rw [Bool.and_eq_true, decide_eq_true_eq, decide_eq_true_eq] at hl
  refine ⟨⟨h.k.1, by have := h.k.2; omega, h.id.1, h.id.2, h.n.1, h.n.2, h.cd.1, h.cd.2, h.nl, h.nb⟩, h.sp, by omega, by omega⟩
theorem ok_sp {p : Fm} (h : Ok p) : p.sp.length ≤ 64 := by
  by_cases hs : hS p.k = true
  · exact (h.sp hs).2.2
  · rw [h.d.2.2.2.2.2.2 (by simpa using hs)]; simp
theorem spO_ok {p : Fm} (h : Ok p) : spO p = p.sp := by
  unfold spO
  split
  · rfl
  · rename_i hs
    rw [h.d.2.2.2.2.2.2 (by simpa using hs)]
theorem ok_fp {w : World} {p : Fm} {sv : Value} (hk : FK p) (h : Ok p) (hs : SSp w sv p.sp) : FP w p sv := by
  have ht := h.tx
  have hm := mT_le p.k
  have hl := ok_sp h
  exact ⟨hk, h.kk, h.nb, fun _ => hs, by omega, by omega⟩
end Go.Proofs.YthhghehnaopmhaaDoor
