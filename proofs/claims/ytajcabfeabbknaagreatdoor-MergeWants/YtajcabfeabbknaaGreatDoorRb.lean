/-
  What the document's Apply and Path answer.
  What the document's Apply answers.
-/
import Derived.Test.YtajcabfeabbknaaGreatDoorRpu
import Derived.Test.YtajcabfeabbknaaGreatDoorRrm
import Derived.Test.YtajcabfeabbknaaGreatDoorLg
import Derived.Test.YtajcabfeabbknaaGreatDoorAp
namespace Go.Proofs.YtajcabfeabbknaaGreatDoor
open Go.RowKit
set_option maxRecDepth 100000

/-- What the document's Path answers is the program's. -/
theorem pth_eq (d W : List En) (q : ByteArray) (x : En) : ((gotB d (dl q) && samE (got d (dl q)) x) || (gotB W (dl q) && samE (got W (dl q)) x)) = pth d W q x true := by
  have one : ∀ l : List En, (gotB l (dl q) && samE (got l (dl q)) x) = (decide (x.p = q) && hav l x) := fun l => by
    rw [Bool.eq_iff_iff, Bool.and_eq_true, Bool.and_eq_true, samE_iff, decide_eq_true_eq, hav_iff]
    constructor
    · rintro ⟨h1, h2⟩
      obtain ⟨y, hy⟩ := gotB_some.1 h1
      rw [(got_some hy).2] at h2
      subst h2
      have := (fn_some hy).2
      exact ⟨dl_inj this, by rw [this]; exact hy⟩
    · rintro ⟨h1, h2⟩
      rw [← h1]
      exact got_some h2
  rw [one, one]
  unfold pth
  rw [if_pos rfl]
  cases decide (x.p = q) <;> simp
set_option maxHeartbeats 4000000 in
theorem rpath_any (vd vw u : Value) (d W0 : List En) (q : ByteArray) (x : En) (is : Bool) (w : World) (hd : ES w vd d) (hld : Lt d) (hw : ES w vw W0) (hlw : Lt W0) (hu : EV w u x) :
    Calls Tryz.prog 17 #[vd, vw, .string q, u, .bool is] w fun e w' => e = .returned (.bool (pth d W0 q x is)) ∧ Below w.heap.size w w' := by
  have C1 : Hid (∀ W, Below w.heap.size w W → Calls Tryz.prog 41 #[vd, .string q] W fun e w' => ∃ u, e = .returned (.tuple #[u, .bool (gotB d (dl q))]) ∧ EV w' u (got d (dl q)) ∧ Below W.heap.size W w') := fun W hb => rget_any vd d q W (hd.kept hb) hld
  have C2 : Hid (∀ W, Below w.heap.size w W → Calls Tryz.prog 41 #[vw, .string q] W fun e w' => ∃ u, e = .returned (.tuple #[u, .bool (gotB W0 (dl q))]) ∧ EV w' u (got W0 (dl q)) ∧ Below W.heap.size W w') := fun W hb => rget_any vw W0 q W (hw.kept hb) hlw
  have CS : Hid (∀ W v y, Below w.heap.size w W → EV W v y → Calls Tryz.prog 42 #[v, u] W fun e w' => e = .returned (.bool (samE y x)) ∧ Below W.heap.size W w') := fun W v y hb hv => rsameEntry_any v u y x W hv (hu.kept hb)
  have HR : Hid (pth d W0 q x is = if is then ((gotB d (dl q) && samE (got d (dl q)) x) || (gotB W0 (dl q) && samE (got W0 (dl q)) x)) else (!gotB d (dl q) || !gotB W0 (dl q) || decide ((got d (dl q)).d ≠ (got W0 (dl q)).d))) := by
    unfold Hid
    cases is with
    | true => rw [if_pos rfl, pth_eq]
    | false => rfl
  obtain ⟨xa, xn, xc, rfl, _⟩ := hu
  obtain ⟨a, c, rfl, _, _, _⟩ := hd.shape
  obtain ⟨a2, c2, rfl, _, _, _⟩ := hw.shape
  obtain ⟨W1, hW1⟩ : ∃ W1, W1 = w.alloc (.cells #[.string x.p, .bool x.d, .slice xa xn xc] 46) := ⟨_, rfl⟩
  have b1 : Below w.heap.size w W1 := by rw [hW1]; exact (Below.refl _ _).alloc (Nat.le_refl _) _
  have K1 : W1.heap[w.heap.size]? = some (.cells #[.string x.p, .bool x.d, .slice xa xn xc] 46 (0, 0)) := by rw [hW1]; exact heap_alloc_new _ _
  have HX : Hid (∀ W, Below W1.heap.size W1 W → W.heap[w.heap.size]? = some (.cells #[.string x.p, .bool x.d, .slice xa xn xc] 46 (0, 0))) := fun W hb => (hb.block _ (lt_of_block K1)).trans K1
  have B1 : Hid (Below w.heap.size w W1) := b1
  generalize pth d W0 q x is = r at *
  generalize gotB d (dl q) = gb1 at *
  generalize gotB W0 (dl q) = gb2 at *
  generalize got d (dl q) = y1 at *
  generalize got W0 (dl q) = y2 at *
  generalize d.length = n at *
  generalize W0.length = n2 at *
  clear hd hld hw hlw b1 K1
  go_enter Tryz.func17, Tryz.ntmps17
  go_wp2_with fail
  rw [← hW1]
  clear hW1
  refine (C1.out W1 B1.out).mono ?_
  rintro e w2 ⟨u2, rfl, ⟨ya, yn, yc, rfl, sy⟩, b2⟩
  obtain ⟨W3, hW3⟩ : ∃ W3, W3 = w2.alloc (.cells #[.string y1.p, .bool y1.d, .slice ya yn yc] 46) := ⟨_, rfl⟩
  have b3 : Below w2.heap.size w2 W3 := by rw [hW3]; exact (Below.refl _ _).alloc (Nat.le_refl _) _
  have D3 : Hid (Below W1.heap.size W1 W3) := b2.trans (b3.mono b2.size)
  have B3 : Hid (Below w.heap.size w W3) := B1.out.trans (D3.out.mono B1.out.size)
  have K3 : W3.heap[w2.heap.size]? = some (.cells #[.string y1.p, .bool y1.d, .slice ya yn yc] 46 (0, 0)) := by rw [hW3]; exact heap_alloc_new _ _
  have HY : Hid (∀ W, Below W3.heap.size W3 W → W.heap[w2.heap.size]? = some (.cells #[.string y1.p, .bool y1.d, .slice ya yn yc] 46 (0, 0))) := fun W hb => (hb.block _ (lt_of_block K3)).trans K3
  have SY : Hid (Sl W3 (.slice ya yn yc) y1.z) := sy.kept b3
  clear b2 b3 K3 sy
  go_wp2_with fail
  rw [← hW3]
  clear hW3
  refine (C2.out W3 B3.out).mono ?_
  rintro e w4 ⟨u4, rfl, ⟨za, zn, zc, rfl, sz⟩, b4⟩
  obtain ⟨W5, hW5⟩ : ∃ W5, W5 = w4.alloc (.cells #[.string y2.p, .bool y2.d, .slice za zn zc] 46) := ⟨_, rfl⟩
  have b5 : Below w4.heap.size w4 W5 := by rw [hW5]; exact (Below.refl _ _).alloc (Nat.le_refl _) _
  have D5 : Hid (Below W3.heap.size W3 W5) := b4.trans (b5.mono b4.size)
  have D5' : Hid (Below W1.heap.size W1 W5) := D3.out.trans (D5.out.mono D3.out.size)
  have B5 : Hid (Below w.heap.size w W5) := B3.out.trans (D5.out.mono B3.out.size)
  have K5 : W5.heap[w4.heap.size]? = some (.cells #[.string y2.p, .bool y2.d, .slice za zn zc] 46 (0, 0)) := by rw [hW5]; exact heap_alloc_new _ _
  have HZ : Hid (∀ W, Below W5.heap.size W5 W → W.heap[w4.heap.size]? = some (.cells #[.string y2.p, .bool y2.d, .slice za zn zc] 46 (0, 0))) := fun W hb => (hb.block _ (lt_of_block K5)).trans K5
  have SZ : Hid (Sl W5 (.slice za zn zc) y2.z) := sz.kept b5
  have E1 : Hid (EV W5 (.agg #[.string y1.p, .bool y1.d, .slice ya yn yc]) y1) := ⟨ya, yn, yc, rfl, SY.out.kept D5.out⟩
  have E2 : Hid (∀ W, Below W5.heap.size W5 W → EV W (.agg #[.string y2.p, .bool y2.d, .slice za zn zc]) y2) := fun W hb => ⟨za, zn, zc, rfl, SZ.out.kept hb⟩
  have CS1 := CS.out W5 _ y1 B5.out E1.out
  obtain ⟨p0, p1, p2, -, -, -⟩ := trio (HY.out W5 D5.out)
  obtain ⟨q0, q1, q2, -, -, -⟩ := trio (HX.out W5 D5'.out)
  have B5' : Hid (Below w.heap.size w (w4.alloc (.cells #[.string y2.p, .bool y2.d, .slice za zn zc] 46))) := by rw [← hW5]; exact B5.out
  have CS2 : Hid (∀ W, Below W5.heap.size W5 W → Calls Tryz.prog 42 #[.agg #[.string y2.p, .bool y2.d, .slice za zn zc], .agg #[.string x.p, .bool x.d, .slice xa xn xc]] W fun e w' => e = .returned (.bool (samE y2 x)) ∧ Below W.heap.size W w') := fun W hb => CS.out W _ y2 (B5.out.trans (hb.mono B5.out.size)) (E2.out W hb)
  have HX5 : Hid (∀ W, Below W5.heap.size W5 W → W.heap[w.heap.size]? = some (.cells #[.string x.p, .bool x.d, .slice xa xn xc] 46 (0, 0))) := fun W hb => HX.out W (D5'.out.trans (hb.mono D5'.out.size))
  rw [hW5] at p0 p1 p2 q0 q1 q2
  clear b4 b5 K5 sz SY SZ E1 E2 CS HX HY C1 C2
  generalize samE y1 x = s1 at *
  generalize samE y2 x = s2 at *
  generalize y1.p = yp at *
  generalize y1.d = yd at *
  generalize y2.p = zp at *
  generalize y2.d = zd at *
  generalize x.p = xp at *
  generalize x.d = xd at *
  cases is with
  | false =>
    have HR2 : Hid (r = (!gb1 || !gb2 || decide (yd ≠ zd))) := HR.out
    clear HR CS1 CS2 HX5 HZ B5 hW5
    cases gb1 with
    | false =>
      go_wp2
      go_ret
      exact ⟨by rw [HR2.out]; rfl, B5'.out⟩
    | true =>
    cases gb2 with
    | false =>
      go_wp2
      go_ret
      exact ⟨by rw [HR2.out]; rfl, B5'.out⟩
    | true =>
      go_wp2
      go_ret
      exact ⟨by rw [HR2.out]; cases yd <;> cases zd <;> rfl, B5'.out⟩
  | true =>
    have HR2 : Hid (r = ((gb1 && s1) || (gb2 && s2))) := HR.out
    clear HR
    cases gb1 with
    | true =>
      go_wp2_with fail
      rw [← hW5]
      clear hW5 p0 p1 p2 q0 q1 q2 B5'
      refine CS1.mono ?_
      rintro e w6 ⟨rfl, b6⟩
      have D6 : Hid (Below W5.heap.size W5 w6) := b6
      have B6 : Hid (Below w.heap.size w w6) := B5.out.trans (b6.mono B5.out.size)
      clear CS1 b6
      cases s1 with
      | true =>
        go_wp2
        go_ret
        exact ⟨by rw [HR2.out]; rfl, B6.out⟩
      | false =>
      cases gb2 with
      | false =>
        go_wp2
        go_ret
        exact ⟨by rw [HR2.out]; rfl, B6.out⟩
      | true =>
        obtain ⟨p0, p1, p2, -, -, -⟩ := trio (HZ.out w6 D6.out)
        obtain ⟨q0, q1, q2, -, -, -⟩ := trio (HX5.out w6 D6.out)
        go_wp2_with fail
        refine (CS2.out w6 D6.out).mono ?_
        rintro e w7 ⟨rfl, b7⟩
        have B7 : Hid (Below w.heap.size w w7) := B6.out.trans (b7.mono B6.out.size)
        clear b7 p0 p1 p2 q0 q1 q2
        go_wp2
        go_ret
        exact ⟨by rw [HR2.out]; cases s2 <;> rfl, B7.out⟩
    | false =>
    cases gb2 with
    | false =>
      clear CS1 CS2 HX5 HZ B5 hW5
      go_wp2
      go_ret
      exact ⟨by rw [HR2.out]; rfl, B5'.out⟩
    | true =>
      have CS3 := CS2.out W5 (Below.refl _ _)
      go_wp2_with fail
      rw [← hW5]
      clear hW5 p0 p1 p2 q0 q1 q2 B5'
      refine CS3.mono ?_
      rintro e w6 ⟨rfl, b6⟩
      have B6 : Hid (Below w.heap.size w w6) := B5.out.trans (b6.mono B5.out.size)
      clear CS3 CS1 CS2 b6
      go_wp2
      go_ret
      exact ⟨by rw [HR2.out]; cases s2 <;> rfl, B6.out⟩
end Go.Proofs.YtajcabfeabbknaaGreatDoor
namespace Go.Proofs.YtajcabfeabbknaaGreatDoor
open Go.RowKit
set_option maxRecDepth 100000

theorem pf_eq {l m : List En} {q : ByteArray} (h : hK m (dl q) false = true) : pf l q m (dl q) = put l (got m (dl q)) := by
  obtain ⟨y, hy, hd⟩ := hK_iff.1 h
  unfold pf
  rw [if_pos h, (got_some hy).2]
  have e := dl_inj (fn_some hy).2
  cases y
  simp only at e hd
  subst e; subst hd
  rfl
set_option maxHeartbeats 4000000 in
theorem rapply_any (v u : Value) (l s : List En) (x : St) (w : World) (h : ES w v l) (hl : Lt l) (hu : ES w u s) (hls : Lt s) (hp : x.p.size ≤ 1000) (ht : x.t.size ≤ 1000) :
    Calls Tryz.prog 15 #[v, .agg #[.int .u8 x.κ, .string x.p, .string x.t], u] w fun e w' => ∃ v', e = .returned (.tuple #[v', .int .i64 (apl l x s).2]) ∧ ES w' v' (apl l x s).1 ∧ Below w.heap.size w w' := by
  obtain ⟨W1, hW1⟩ : ∃ W1, W1 = w.alloc (.cells #[.int .u8 x.κ, .string x.p, .string x.t] 43) := ⟨_, rfl⟩
  have b1 : Below w.heap.size w W1 := by rw [hW1]; exact (Below.refl _ _).alloc (Nat.le_refl _) _
  have K1 : W1.heap[w.heap.size]? = some (.cells #[.int .u8 x.κ, .string x.p, .string x.t] 43 (0, 0)) := by rw [hW1]; exact heap_alloc_new _ _
  have HX : Hid (∀ W, Below W1.heap.size W1 W → W.heap[w.heap.size]? = some (.cells #[.int .u8 x.κ, .string x.p, .string x.t] 43 (0, 0))) := fun W hb => (hb.block _ (lt_of_block K1)).trans K1
  have B1 : Hid (Below w.heap.size w W1) := b1
  have CG0 := rget_any v l x.p W1 (h.kept b1) hl
  have CG3 := rget_any u s x.p W1 (hu.kept b1) hls
  have CP0 : Hid (∀ W ya yn yc, Below w.heap.size w W → Sl W (.slice ya yn yc) (got l (dl x.p)).z → Calls Tryz.prog 46 #[v, .agg #[.string x.t, .bool false, .slice ya yn yc]] W fun e w' => ∃ v', e = .returned (.tuple #[v', .int .i64 (put l ⟨x.t, false, (got l (dl x.p)).z⟩).2]) ∧ ES w' v' (put l ⟨x.t, false, (got l (dl x.p)).z⟩).1 ∧ Below W.heap.size W w') := fun W ya yn yc hb hs => by
    have := rput_any v _ l ⟨x.t, false, (got l (dl x.p)).z⟩ W (h.kept hb) hl ⟨ya, yn, yc, rfl, hs⟩ ht (got_lt hl _).2
    rwa [rput_eq] at this
  have CP3 : Hid (∀ W ya yn yc, Below w.heap.size w W → Sl W (.slice ya yn yc) (got s (dl x.p)).z → Calls Tryz.prog 46 #[v, .agg #[.string (got s (dl x.p)).p, .bool (got s (dl x.p)).d, .slice ya yn yc]] W fun e w' => ∃ v', e = .returned (.tuple #[v', .int .i64 (put l (got s (dl x.p))).2]) ∧ ES w' v' (put l (got s (dl x.p))).1 ∧ Below W.heap.size W w') := fun W ya yn yc hb hs => by
    have := rput_any v _ l (got s (dl x.p)) W (h.kept hb) hl ⟨ya, yn, yc, rfl, hs⟩ (got_lt hls _).1 (got_lt hls _).2
    rwa [rput_eq] at this
  have C1 := rrem_any v l x.p W1 (h.kept b1) hl
  rw [rrem_eq] at C1
  have C2 := rput_any v (.agg #[.string x.p, .bool true, .slice none 0 0]) l ⟨x.p, true, []⟩ W1 (h.kept b1) hl ⟨none, 0, 0, rfl, Sl.none _⟩ hp (by simp)
  rw [rput_eq] at C2
  have HR : Hid (apl l x s = if x.κ = 0 then pf l x.t l (dl x.p) else if x.κ = 1 then rem l (dl x.p) else if x.κ = 2 then put l ⟨x.p, true, []⟩ else if x.κ = 3 then pf l x.p s (dl x.p) else ([], 2)) := rfl
  have HK0 : Hid (hK l (dl x.p) false = (gotB l (dl x.p) && decide ((got l (dl x.p)).d = false))) := rfl
  have HK3 : Hid (hK s (dl x.p) false = (gotB s (dl x.p) && decide ((got s (dl x.p)).d = false))) := rfl
  have HP0 : Hid (pf l x.t l (dl x.p) = if hK l (dl x.p) false then put l ⟨x.t, false, (got l (dl x.p)).z⟩ else ([], 8)) := rfl
  have HP3 : Hid (pf l x.p s (dl x.p) = if hK s (dl x.p) false then put l (got s (dl x.p)) else ([], 8)) := by
    unfold Hid
    by_cases hk : hK s (dl x.p) false = true
    · rw [if_pos hk]; exact pf_eq hk
    · rw [if_neg hk]; unfold pf; rw [if_neg hk]
  obtain ⟨a, c, rfl, _, _, _⟩ := h.shape
  obtain ⟨a2, c2, rfl, _, _, _⟩ := hu.shape
  generalize apl l x s = R at *
  generalize pf l x.t l (dl x.p) = R0 at *
  generalize rem l (dl x.p) = R1 at *
  generalize put l ⟨x.p, true, []⟩ = R2 at *
  generalize pf l x.p s (dl x.p) = R3 at *
  generalize hK l (dl x.p) false = k0 at *
  generalize hK s (dl x.p) false = k3 at *
  generalize put l ⟨x.t, false, (got l (dl x.p)).z⟩ = RP0 at *
  generalize put l (got s (dl x.p)) = RP3 at *
  generalize gotB l (dl x.p) = gb0 at *
  generalize gotB s (dl x.p) = gb3 at *
  generalize got l (dl x.p) = g0 at *
  generalize got s (dl x.p) = g3 at *
  generalize x.κ = κ at *
  generalize x.p = xp at *
  generalize x.t = xt at *
  generalize l.length = n at *
  generalize s.length = n2 at *
  clear h hl hu hls hp ht b1 K1
  go_enter Tryz.func15, Tryz.ntmps15
  by_cases h0 : κ = 0
  · subst h0
    have HR2 : Hid (R = R0) := by unfold Hid; rw [HR.out, if_pos rfl]
    clear HR C1 C2
    go_wp2_with fail
    rw [← hW1]
    clear hW1
    refine CG0.mono ?_
    rintro e w2 ⟨u2, rfl, ⟨ya, yn, yc, rfl, sy⟩, b2⟩
    obtain ⟨W3, hW3⟩ : ∃ W3, W3 = w2.alloc (.cells #[.string g0.p, .bool g0.d, .slice ya yn yc] 46) := ⟨_, rfl⟩
    have b3 : Below w2.heap.size w2 W3 := by rw [hW3]; exact (Below.refl _ _).alloc (Nat.le_refl _) _
    have D3 : Hid (Below W1.heap.size W1 W3) := b2.trans (b3.mono b2.size)
    have B3 : Hid (Below w.heap.size w W3) := B1.out.trans (D3.out.mono B1.out.size)
    have B3' : Hid (Below w.heap.size w (w2.alloc (.cells #[.string g0.p, .bool g0.d, .slice ya yn yc] 46))) := by rw [← hW3]; exact B3.out
    have CP := CP0.out W3 ya yn yc B3.out (sy.kept b3)
    obtain ⟨z0, z1, z2, -, -, -⟩ := trio (HX.out W3 D3.out)
    rw [hW3] at z0 z1 z2
    clear CG0 CG3 b2 b3 CP0 CP3 sy
    generalize g0.p = yp at *
    generalize g0.d = yd at *
    cases gb0 with
    | false =>
      have HR3 : Hid (R = ([], 8)) := by unfold Hid; rw [HR2.out, HP0.out, HK0.out]; rfl
      clear HR2 hW3
      go_wp2
      refine bodyPost_ret (v := .tuple #[.slice none 0 0, .int .i64 8]) ?h0a rfl ?_
      case h0a => simp [results, Tryz.results15, go_sem, *]
      exact ⟨_, by rw [HR3.out], by rw [HR3.out]; exact ES.nil _, B3'.out⟩
    | true =>
    cases yd with
    | true =>
      have HR3 : Hid (R = ([], 8)) := by unfold Hid; rw [HR2.out, HP0.out, HK0.out]; rfl
      clear HR2 hW3
      go_wp2
      refine bodyPost_ret (v := .tuple #[.slice none 0 0, .int .i64 8]) ?h0b rfl ?_
      case h0b => simp [results, Tryz.results15, go_sem, *]
      exact ⟨_, by rw [HR3.out], by rw [HR3.out]; exact ES.nil _, B3'.out⟩
    | false =>
      have HR3 : Hid (R = RP0) := by unfold Hid; rw [HR2.out, HP0.out, HK0.out]; rfl
      clear HR2 B3'
      go_wp2_with fail
      rw [← hW3]
      clear hW3 z0 z1 z2
      refine CP.mono ?_
      rintro e w4 ⟨v4, rfl, o4, b4⟩
      have B4 : Hid (Below w.heap.size w w4) := B3.out.trans (b4.mono B3.out.size)
      have O4 : Hid (ES w4 v4 RP0.1) := o4
      obtain ⟨va, vc, rfl, _, _, _⟩ := o4.shape
      clear CP b4 o4
      generalize hrk : RP0.2 = rk at *
      generalize RP0.1.length = rn at *
      go_wp2
      refine bodyPost_ret (v := .tuple #[.slice va rn vc, .int .i64 rk]) ?h0c rfl ?_
      case h0c => simp [results, Tryz.results15, go_sem, *]
      exact ⟨_, by rw [HR3.out, hrk], by rw [HR3.out]; exact O4.out, B4.out⟩
  by_cases h1 : κ = 1
  · subst h1
    have HR2 : Hid (R = R1) := by unfold Hid; rw [HR.out, if_neg (by omega), if_pos rfl]
    clear HR
    go_wp2_with fail
    rw [← hW1]
    clear hW1
    refine C1.mono ?_
    rintro e w2 ⟨v2, rfl, o2, b2⟩
    have B2 : Hid (Below w.heap.size w w2) := B1.out.trans (b2.mono B1.out.size)
    have O2 : Hid (ES w2 v2 R1.1) := o2
    obtain ⟨va, vc, rfl, _, _, _⟩ := o2.shape
    clear C1 b2 o2
    generalize hrk : R1.2 = rk at *
    generalize R1.1.length = rn at *
    go_wp2
    refine bodyPost_ret (v := .tuple #[.slice va rn vc, .int .i64 rk]) ?h1 rfl ?_
    case h1 => simp [results, Tryz.results15, go_sem, *]
    exact ⟨_, by rw [HR2.out, hrk], by rw [HR2.out]; exact O2.out, B2.out⟩
  by_cases h2 : κ = 2
  · subst h2
    have HR2 : Hid (R = R2) := by unfold Hid; rw [HR.out, if_neg (by omega), if_neg (by omega), if_pos rfl]
    clear HR
    go_wp2_with fail
    rw [← hW1]
    clear hW1
    refine C2.mono ?_
    rintro e w2 ⟨v2, rfl, o2, b2⟩
    have B2 : Hid (Below w.heap.size w w2) := B1.out.trans (b2.mono B1.out.size)
    have O2 : Hid (ES w2 v2 R2.1) := o2
    obtain ⟨va, vc, rfl, _, _, _⟩ := o2.shape
    clear C2 b2 o2
    generalize hrk : R2.2 = rk at *
    generalize R2.1.length = rn at *
    go_wp2
    refine bodyPost_ret (v := .tuple #[.slice va rn vc, .int .i64 rk]) ?h2 rfl ?_
    case h2 => simp [results, Tryz.results15, go_sem, *]
    exact ⟨_, by rw [HR2.out, hrk], by rw [HR2.out]; exact O2.out, B2.out⟩
  by_cases h3 : κ = 3
  · subst h3
    have HR2 : Hid (R = R3) := by unfold Hid; rw [HR.out, if_neg (by omega), if_neg (by omega), if_neg (by omega), if_pos rfl]
    clear HR C1 C2
    go_wp2_with fail
    rw [← hW1]
    clear hW1
    refine CG3.mono ?_
    rintro e w2 ⟨u2, rfl, ⟨ya, yn, yc, rfl, sy⟩, b2⟩
    obtain ⟨W3, hW3⟩ : ∃ W3, W3 = w2.alloc (.cells #[.string g3.p, .bool g3.d, .slice ya yn yc] 46) := ⟨_, rfl⟩
    have b3 : Below w2.heap.size w2 W3 := by rw [hW3]; exact (Below.refl _ _).alloc (Nat.le_refl _) _
    have D3 : Hid (Below W1.heap.size W1 W3) := b2.trans (b3.mono b2.size)
    have B3 : Hid (Below w.heap.size w W3) := B1.out.trans (D3.out.mono B1.out.size)
    have B3' : Hid (Below w.heap.size w (w2.alloc (.cells #[.string g3.p, .bool g3.d, .slice ya yn yc] 46))) := by rw [← hW3]; exact B3.out
    have CP := CP3.out W3 ya yn yc B3.out (sy.kept b3)
    obtain ⟨z0, z1, z2, -, -, -⟩ := trio (HX.out W3 D3.out)
    rw [hW3] at z0 z1 z2
    clear CG0 CG3 b2 b3 CP0 CP3 sy
    generalize g3.p = yp at *
    generalize g3.d = yd at *
    cases gb3 with
    | false =>
      have HR3 : Hid (R = ([], 8)) := by unfold Hid; rw [HR2.out, HP3.out, HK3.out]; rfl
      clear HR2 hW3
      go_wp2
      refine bodyPost_ret (v := .tuple #[.slice none 0 0, .int .i64 8]) ?h3a rfl ?_
      case h3a => simp [results, Tryz.results15, go_sem, *]
      exact ⟨_, by rw [HR3.out], by rw [HR3.out]; exact ES.nil _, B3'.out⟩
    | true =>
    cases yd with
    | true =>
      have HR3 : Hid (R = ([], 8)) := by unfold Hid; rw [HR2.out, HP3.out, HK3.out]; rfl
      clear HR2 hW3
      go_wp2
      refine bodyPost_ret (v := .tuple #[.slice none 0 0, .int .i64 8]) ?h3b rfl ?_
      case h3b => simp [results, Tryz.results15, go_sem, *]
      exact ⟨_, by rw [HR3.out], by rw [HR3.out]; exact ES.nil _, B3'.out⟩
    | false =>
      have HR3 : Hid (R = RP3) := by unfold Hid; rw [HR2.out, HP3.out, HK3.out]; rfl
      clear HR2 B3'
      go_wp2_with fail
      rw [← hW3]
      clear hW3 z0 z1 z2
      refine CP.mono ?_
      rintro e w4 ⟨v4, rfl, o4, b4⟩
      have B4 : Hid (Below w.heap.size w w4) := B3.out.trans (b4.mono B3.out.size)
      have O4 : Hid (ES w4 v4 RP3.1) := o4
      obtain ⟨va, vc, rfl, _, _, _⟩ := o4.shape
      clear CP b4 o4
      generalize hrk : RP3.2 = rk at *
      generalize RP3.1.length = rn at *
      go_wp2
      refine bodyPost_ret (v := .tuple #[.slice va rn vc, .int .i64 rk]) ?h3c rfl ?_
      case h3c => simp [results, Tryz.results15, go_sem, *]
      exact ⟨_, by rw [HR3.out, hrk], by rw [HR3.out]; exact O4.out, B4.out⟩
  have HR2 : Hid (R = ([], 2)) := by unfold Hid; rw [HR.out, if_neg h0, if_neg h1, if_neg h2, if_neg h3]
  have B1' : Hid (Below w.heap.size w (w.alloc (.cells #[.int .u8 κ, .string xp, .string xt] 43))) := by rw [← hW1]; exact B1.out
  have n0 : (κ == 0) = false := by simp [h0]
  have n1 : (κ == 1) = false := by simp [h1]
  have n2' : (κ == 2) = false := by simp [h2]
  have n3 : (κ == 3) = false := by simp [h3]
  clear HR C1 C2 CG0 CG3 CP0 CP3 hW1
  go_wp2
  refine bodyPost_ret (v := .tuple #[.slice none 0 0, .int .i64 2]) ?h9 rfl ?_
  case h9 => simp [results, Tryz.results15, go_sem, *]
  exact ⟨_, by rw [HR2.out], by rw [HR2.out]; exact ES.nil _, B1'.out⟩
end Go.Proofs.YtajcabfeabbknaaGreatDoor
