/-
  What the document's Step answers: a Mark.
-/
import Derived.Test.YtcenchnmibdebaaDoorRsb
import Derived.Test.YtcenchnmibdebaaDoorTg
import Derived.Test.YtcenchnmibdebaaDoorTm
import Derived.Deep.DeepCutAuto
namespace Go.Proofs.YtcenchnmibdebaaDoor
open Go.RowKit
set_option maxRecDepth 100000

theorem RPt.big {t : TypeId} {w : World} {B : Nat} {v : Value} {l : List Pa} (h : RPt t w B v l) (hl : 0 < l.length) : ∃ g c, v = .slice (some ⟨g, 0, none⟩) l.length c ∧ B ≤ g := by
  have hb := own_base h.1.1
  rcases h.1.1.2 with ⟨rfl, h0⟩ | ⟨g', cap, cur, rfl, _⟩
  · simp at h0; rw [h0] at hl; simp at hl
  · exact ⟨g', cap, by simp, hb g' rfl⟩
theorem RPt.mark {t : TypeId} {w : World} {B g n c : Nat} {l : List Pa} (h : RPt t w B (.slice (some ⟨g, 0, none⟩) n c) l) (at' : Nat) (o : Int) (hat : at' < l.length) (ho : i64 o) : RPt t (w.setCell ⟨g, at' * 36 + 35, none⟩ (.int .i64 o)) B (.slice (some ⟨g, 0, none⟩) n c) (mkL l at' o) := by
  obtain ⟨⟨h1, h2⟩, h3⟩ := h
  have hx := Pa.at l h3 at'
  have hn : n = (l.map Pa.cells).length := by
    rcases h1.2 with ⟨e, _⟩ | ⟨_, _, _, e, _⟩
    · cases e
    · cases e; rfl
  have e1 : (mkL l at' o).map Pa.cells = (l.map Pa.cells).set at' ((atC (l.map Pa.cells) at').set 35 (.int .i64 o)) := by
    unfold mkL
    rw [List.map_set, atC_pa l at' hat, pa_set _ o hx]
  have ok' : ∀ x ∈ mkL l at' o, x.ok := fun x hx' => by
    rcases List.mem_or_eq_of_mem_set hx' with q | q
    · exact h3 x q
    · subst q
      exact ⟨hx.1, hx.2.1, hx.2.2.1, hx.2.2.2.1, ho⟩
  refine ⟨⟨?_, cl_pa ok'⟩, ok'⟩
  have h1' := h1
  rw [hn] at h1'
  have h4 := own_put (j := at' * 36 + 35) (x := .int .i64 o) h1'
  rw [flat_set at' 35 _ h2 (by simpa using hat) (by omega), ← e1] at h4
  have e2 : ((mkL l at' o).map Pa.cells).length = (l.map Pa.cells).length := by simp [mkL]
  rw [e2, hn]
  exact h4
set_option maxHeartbeats 4000000 in
theorem rstep_mark (v : Value) (s : Ste) (r : Rc) (w : World) (h : PS w v s.l) (hs : Ris s) (hr : r.ok) (hi : r.x.i ≤ 4611686018427387904) (hk : r.k = 1) (hp : plc s.l r.x.i < s.l.length) :
    Calls Tryd.prog 11 #[.agg #[v, .int .i64 s.n], r.val] w fun e w' => ∃ v', e = .returned (.tuple #[SVal v' ((step s r).getD s), .bool (step s r).isSome]) ∧ PS w' v' ((step s r).getD s).l ∧ Below w.heap.size w w' ∧ ((v' = v ∧ ((step s r).getD s).l = s.l) ∨ RPq w' w.heap.size v' ((step s r).getD s).l) := by
  obtain ⟨a, c, rfl, hac, hcm, -⟩ := h.shape
  have hln := hs.ln
  obtain ⟨W0, hW0⟩ : ∃ W0, W0 = w.alloc (.cells #[.slice a s.l.length c, .int .i64 s.n] 46) := ⟨_, rfl⟩
  have b0 : Below w.heap.size w W0 := by rw [hW0]; exact al_below _ _
  have z0 : W0.heap.size = w.heap.size + 1 := by rw [hW0]; simp
  have g0 : W0.heap[w.heap.size]? = some (.cells #[.slice a s.l.length c, .int .i64 s.n] 46 (0, 0)) := by rw [hW0]; exact heap_alloc_new _ _
  obtain ⟨W1, hW1⟩ : ∃ W1, W1 = W0.alloc (.cells r.cells.toArray 25) := ⟨_, rfl⟩
  have b1 : Below W0.heap.size W0 W1 := by rw [hW1]; exact al_below _ _
  have z1 : W1.heap.size = W0.heap.size + 1 := by rw [hW1]; simp
  have g1 : W1.heap[W0.heap.size]? = some (.cells r.cells.toArray 25 (0, 0)) := by rw [hW1]; exact heap_alloc_new _ _
  obtain ⟨W2, hW2⟩ : ∃ W2, W2 = W1.alloc (.cells #[.slice none 0 0, .int .i64 0] 46) := ⟨_, rfl⟩
  have b2 : Below W1.heap.size W1 W2 := by rw [hW2]; exact al_below _ _
  have z2 : W2.heap.size = W1.heap.size + 1 := by rw [hW2]; simp
  have g2 : W2.heap[W1.heap.size]? = some (.cells #[.slice none 0 0, .int .i64 0] 46 (0, 0)) := by rw [hW2]; exact heap_alloc_new _ _
  have b02 : Below W0.heap.size W0 W2 := b1.trans (b2.mono b1.size)
  have b2' : Below w.heap.size w W2 := b0.trans (b02.mono b0.size)
  have FB : Hid (∀ W, Below W2.heap.size W2 W → W.heap[w.heap.size]? = some (.cells #[.slice a s.l.length c, .int .i64 s.n] 46 (0, 0)) ∧ W.heap[W0.heap.size]? = some (.cells r.cells.toArray 25 (0, 0)) ∧ W.heap[W1.heap.size]? = some (.cells #[.slice none 0 0, .int .i64 0] 46 (0, 0)) ∧ Below w.heap.size w W) := fun W hb => ⟨blk_kept (blk_kept g0 b02 (by omega)) hb (by omega), blk_kept (blk_kept g1 b2 (by omega)) hb (by omega), blk_kept g2 hb (by omega), b2'.trans (hb.mono b2'.size)⟩
  have FK : Hid (∀ W, Below W2.heap.size W2 W → W.cell? ⟨w.heap.size, 0, none⟩ = some (.slice a s.l.length c) ∧ W.cell? ⟨w.heap.size, 1, none⟩ = some (.int .i64 s.n) ∧ W.rangeAt w.heap.size 0 [.slice a s.l.length c, .int .i64 s.n] ∧ W.cell? ⟨W0.heap.size, 0, none⟩ = some (.int .u8 r.k) ∧ W.cell? ⟨W0.heap.size, 1, none⟩ = some (.int .i64 r.x.i) ∧ W.cell? ⟨W0.heap.size, 2, none⟩ = some (.string r.x.p) ∧ W.cell? ⟨W0.heap.size, 35, none⟩ = some (.int .i64 r.x.n) ∧ W.cell? ⟨W0.heap.size, 36, none⟩ = some (.int .i64 r.x.o) ∧ W.heap[W1.heap.size]? = some (.cells #[.slice none 0 0, .int .i64 0] 46 (0, 0)) ∧ Below w.heap.size w W) := fun W hb => by
    obtain ⟨h1, h2, h3, h4⟩ := FB.out W hb
    obtain ⟨q0, q1, q2, -, q4, q5⟩ := rcC (blk_range h2) hr
    simp only [Nat.zero_add] at q0 q1 q2 q4 q5
    exact ⟨by simp [World.cell?, h1], by simp [World.cell?, h1], blk_range h1, q0, q1, q2, q4, q5, h3, h4⟩
  have HS : Hid (PS W2 (.slice a s.l.length c) s.l) := h.kept b2'
  have HI : Hid (Ris s) := hs
  have HRO : Hid r.ok := hr
  have H0 : Hid (PS w (.slice a s.l.length c) s.l) := h
  have HSZ : Hid (w.heap.size ≤ W1.heap.size) := by unfold Hid; omega
  have HSY : Hid (w.heap.size ≤ W2.heap.size ∧ w.heap.size ≠ W1.heap.size ∧ W0.heap.size ≠ W1.heap.size) := ⟨by omega, by omega, by omega⟩
  have yw : wrap64 (r.x.i + 1) = r.x.i + 1 := by have := hr.2.2.2.2.1.1; unfold wrap64; omega
  have yp : IntKind.i64.wrap (r.x.i + 1) = r.x.i + 1 := by have := hr.2.2.2.2.1.1; rw [IntKind.wrap_i64]; omega
  have HM : Hid (step s r = if plc s.l r.x.i < s.l.length ∧ (atP s.l (plc s.l r.x.i)).o ≤ r.x.o ∧ r.x.o ≤ (atP s.l (plc s.l r.x.i)).n then some ⟨mkL s.l (plc s.l r.x.i) r.x.o, s.n⟩ else none) := by unfold Hid step; rw [if_neg (by omega), if_pos hk]; rfl
  have HP : Hid (plc s.l r.x.i < s.l.length) := hp
  have HOO : Hid (i64 r.x.o) := hr.2.2.2.2.2.2
  rw [hk] at FK
  unfold Rc.val
  have hw0 := hW0.symm
  have hw1 := hW1.symm
  have hw2 := hW2.symm
  obtain ⟨n, hn'⟩ : ∃ n, n = s.l.length := ⟨_, rfl⟩
  have HN : Hid (n = s.l.length) := hn'
  rw [← hn'] at HS H0 hln FK FB HP HM hw0 hac ⊢
  obtain ⟨rcs, hrcs⟩ : ∃ rcs, rcs = r.cells := ⟨_, rfl⟩
  have HCS : Hid (rcs = r.cells) := hrcs
  rw [← hrcs] at FB hw1 ⊢
  clear h hs hr hi hn' hrcs hW0 b0 z0 g0 hW1 b1 z1 g1 hW2 b2 z2 g2 b02 b2' hk hp hac hcm yw yp
  generalize hSTP : step s r = R at *
  generalize r.x.i = ii at *
  generalize r.x.o = oo at *
  clear hSTP
  go_enter Tryd.func11, Tryd.ntmps11
  go_wp2_with fail
  try rw [hw0]
  try rw [hw1]
  try rw [hw2]
  try clear hw2
  try clear hw1
  try clear hw0
  go_loopw [7, 8] (fun y z wr => ∃ j : Nat, j ≤ n ∧ z = .int .i64 j ∧ y = .int .i64 (lst s.l ii j) ∧ Below W2.heap.size W2 wr) (fun _ z _ => n - (intOf z).toNat)
  case atStart => exact ⟨0, by omega, rfl, rfl, Below.refl _ _⟩
  case round =>
    obtain ⟨j, hj, rfl, rfl, bel⟩ := hrel
    have HB : Hid (Below W2.heap.size W2 wr) := bel
    by_cases hlt : j < n
    · have lt2 : (j : Int) < (n : Int) := by omega
      have lt3 : (0 : Int) ≤ (j : Int) := by omega
      obtain ⟨c0, c1, -, c3, c4, -, -, -, -, -⟩ := FK.out wr bel
      obtain ⟨b, off, rfl, hr1⟩ := (HS.out.kept bel).at j (by rw [← HN.out]; exact hlt)
      have hx := Pa.at s.l HI.out.ok j
      obtain ⟨k0, -⟩ := paC hr1 hx
      have NH : Hid ((atP s.l j).i = ii → lst s.l ii (j + 1) = j) := fun e => lst_hit HI.out (by rw [← HN.out]; exact hlt) e
      have NM : Hid (¬ (atP s.l j).i = ii → lst s.l ii (j + 1) = lst s.l ii j) := fun e => lst_miss (by rw [← HN.out]; exact hlt) e
      clear hr1 hx bel FK FB
      generalize atP s.l j = x at *
      by_cases hq : x.i = ii
      · have t0 : (x.i == ii) = true := by simpa using hq
        have NX : Hid (lst s.l ii (j + 1) = j) := NH.out hq
        clear NH NM hq
        generalize x.i = xi at *
        go_wp2_with fail
        go_quiet (fail)
        have BZ : Hid (Below W2.heap.size W2 (wr.drewN nq)) := ⟨HB.out.os, HB.out.tape, HB.out.output, HB.out.size, HB.out.block⟩
        go_wp2
        go_roundw
        case rel => exact ⟨j + 1, by omega, by go_num, by rw [NX.out], BZ.out⟩
        case measure => simp [intOf]; omega
      · have t0 : (x.i == ii) = false := by simpa using hq
        have NX : Hid (lst s.l ii (j + 1) = lst s.l ii j) := NM.out hq
        clear NH NM hq
        generalize x.i = xi at *
        go_wp2_with fail
        go_quiet (fail)
        have BZ : Hid (Below W2.heap.size W2 (wr.drewN nq)) := ⟨HB.out.os, HB.out.tape, HB.out.output, HB.out.size, HB.out.block⟩
        go_wp2
        go_roundw
        case rel => exact ⟨j + 1, by omega, by go_num, by rw [NX.out], BZ.out⟩
        case measure => simp [intOf]; omega
    · obtain rfl : j = n := by omega
      obtain ⟨c0, c1, -, c3, c4, -, -, c7, -, -⟩ := FK.out wr bel
      have el : lst s.l ii j = (plc s.l ii : Int) := by unfold lst; rw [if_pos HP.out]
      obtain ⟨b, off, rfl, hr1⟩ := (HS.out.kept bel).at (plc s.l ii) (by rw [← HN.out]; exact HP.out)
      have hx := Pa.at s.l HI.out.ok (plc s.l ii)
      obtain ⟨-, -, -, k34, k35⟩ := paC hr1 hx
      have HLM : Hid ((mkL s.l (plc s.l ii) oo).length = j) := by unfold Hid mkL; rw [List.length_set, ← HN.out]
      rw [el]
      clear el HS hr1 hx
      generalize atP s.l (plc s.l ii) = x at *
      obtain ⟨pp, hpp⟩ : ∃ pp, pp = plc s.l ii := ⟨_, rfl⟩
      rw [← hpp] at HP HM HLM k34 k35 ⊢
      clear hpp
      have hp := HP.out
      have lp : (pp : Int) < (j : Int) := by omega
      have lp0 : (0 : Int) ≤ (pp : Int) := by omega
      have d0 : decide ((pp : Int) < 0) = false := by simp
      clear bel
      go_upto_region 20 with fail
      by_cases h1 : x.o ≤ oo
      · have d1 : decide (oo < x.o) = false := by simp; omega
        by_cases h2 : oo ≤ x.n
        · have d2 : decide (x.n < oo) = false := by simp; omega
          have HR : Hid (R = some ⟨mkL s.l pp oo, s.n⟩) := by unfold Hid; rw [HM.out, if_pos ⟨HP.out, h1, h2⟩]
          clear HM h1 h2
          go_quiet (fail)
          have bd : Below W2.heap.size W2 (wr.drewN nq) := ⟨HB.out.os, HB.out.tape, HB.out.output, HB.out.size, HB.out.block⟩
          generalize wr.drewN nq = wd at *
          clear c0 c1 c3 c4 c7 k34 k35
          obtain ⟨c0, c1, c2, c3, c4, c5, c6, c7, c9, c10⟩ := FK.out wd bd
          have C2 : Hid (wd.rangeAt w.heap.size 0 [.slice (some ⟨b, off, none⟩) j c, .int .i64 s.n]) := c2
          have C5 : Hid (wd.heap[W1.heap.size]? = some (.cells #[.slice none 0 0, .int .i64 0] 46 (0, 0)) ∧ Below w.heap.size w wd) := ⟨c9, c10⟩
          clear c2 c9 c10
          have HPS : Hid (PS wd (.slice (some ⟨b, off, none⟩) j c) s.l) := H0.out.kept C5.out.2
          have HBD : Hid (Below W2.heap.size W2 wd) := bd
          clear bd
          go_upto_region 23 with (first
            | (refine wpList_append_psq rfl _ _ rfl W2.heap.size _ [] rfl (RPt.nil _ _ _) _ s.l rfl HPS.out (by have := HN.out; have := HI.out.ln; simp; omega) HBD.out.size ?_
               intro v6 w6 r6 g6
               rw [List.nil_append] at r6
               have t6 : Hid (Below W2.heap.size W2 w6) := HBD.out.trans ((Below.refl _ wd).grown g6 HBD.out.size (own_base (RPt.nil 61 wd W2.heap.size).1.1))
               obtain ⟨b6, e6, rfl, hb6⟩ := r6.big (by rw [← HN.out]; exact Nat.lt_of_le_of_lt (Nat.zero_le _) HP.out)
               have R6 : Hid (RPq w6 W2.heap.size (.slice (some ⟨b6, 0, none⟩) s.l.length e6) s.l ∧ W2.heap.size ≤ b6) := ⟨r6, hb6⟩
               clear r6 g6 hb6
               rw [← HN.out] at R6 ⊢))
          have T6 := t6.out
          clear c0 c1 c3 c4 c5 c6 c7 C2 C5 HPS HBD t6
          obtain ⟨c0, c1, -, c3, c4, -, -, c7, -, -⟩ := FK.out w6 T6
          obtain ⟨b', off', e', hr6⟩ := R6.out.1.is.at pp (by rw [← HN.out]; exact HP.out)
          cases e'
          obtain ⟨-, -, -, -, k35⟩ := paC hr6 (Pa.at s.l HI.out.ok pp)
          simp only [Nat.zero_add] at k35
          have f35 : w6.frozen? ⟨b6, pp * 36 + 35, none⟩ = false := by
            have := R6.out.1.own
            rw [← HN.out] at this
            exact own_froz this _
          clear hr6
          generalize (atP s.l pp).o = xo at k35
          obtain ⟨w7, hw7⟩ : ∃ w7, w7 = w6.setCell ⟨b6, pp * 36 + 35, none⟩ (.int .i64 oo) := ⟨_, rfl⟩
          have T7 : Below W2.heap.size W2 w7 := by rw [hw7]; exact T6.trans (set_below R6.out.2)
          have r7 : RPq w7 W2.heap.size (.slice (some ⟨b6, 0, none⟩) j e6) (mkL s.l pp oo) := by rw [hw7]; exact RPt.mark R6.out.1 pp oo (by rw [← HN.out]; exact HP.out) HOO.out
          obtain ⟨x0, x1, -, -, -, -, -, -, x9, x10⟩ := FK.out w7 T7
          have HZ : Hid (w7.heap[W1.heap.size]? = some (.cells #[.slice none 0 0, .int .i64 0] 46 (0, 0)) ∧ RPq w7 W2.heap.size (.slice (some ⟨b6, 0, none⟩) j e6) (mkL s.l pp oo) ∧ Below w.heap.size w w7) := ⟨x9, r7, x10⟩
          clear T6 T7 r7 x9 x10
          replace hw7 := hw7.symm
          go_upto_region 24 with fail
          try rw [hw7]
          clear hw7 k35 f35 c0 c1 c3 c4 c7
          go_wp2_with (first
            | refine wpList_built rfl 46 [(0, _), (1, _)] rfl [(0, .slice (some ⟨b6, 0, none⟩) j e6), (1, .int .i64 s.n)] rfl #[.slice (some ⟨b6, 0, none⟩) j e6, .int .i64 s.n] (bTq _ _ _ _) ?_
            | refine wpList_store_row rfl 46 _ _ rfl W1.heap.size #[.slice (some ⟨b6, 0, none⟩) j e6, .int .i64 s.n] rfl rfl 46 #[.slice none 0 0, .int .i64 0] HZ.out.1 sizeTq rfl (st_ones _ _ _ _) ?_)
          exact bodyPost_ret (v := .tuple #[.agg #[.slice (some ⟨b6, 0, none⟩) j e6, .int .i64 s.n], .bool true]) (retSq rfl rfl (setRow_heap _ _ _ _ _ _ HZ.out.1)) rfl ⟨_, by rw [HR.out]; rfl, by rw [HR.out]; exact (HZ.out.2.1.setRow _ _ HZ.out.1).is, below_setRow HZ.out.2.2 HSZ.out _, .inr (by rw [HR.out]; exact (HZ.out.2.1.setRow _ _ HZ.out.1).mono HSY.out.1)⟩
        · have d2 : decide (x.n < oo) = true := by simp; omega
          have HR : Hid (R = none) := by unfold Hid; rw [HM.out, if_neg (fun q => h2 q.2.2)]
          clear HM h1 h2
          go_quiet (fail)
          have bd : Below W2.heap.size W2 (wr.drewN nq) := ⟨HB.out.os, HB.out.tape, HB.out.output, HB.out.size, HB.out.block⟩
          generalize wr.drewN nq = wd at *
          clear c0 c1 c3 c4 c7 k34 k35
          obtain ⟨c0, c1, c2, c3, c4, c5, c6, c7, c9, c10⟩ := FK.out wd bd
          have C2 : Hid (wd.rangeAt w.heap.size 0 [.slice (some ⟨b, off, none⟩) j c, .int .i64 s.n]) := c2
          have C5 : Hid (wd.heap[W1.heap.size]? = some (.cells #[.slice none 0 0, .int .i64 0] 46 (0, 0)) ∧ Below w.heap.size w wd) := ⟨c9, c10⟩
          clear c2 c9 c10
          clear bd HB FK
          go_wp2_with (first
            | refine wpList_load_mid rfl 46 _ rfl w.heap.size 0 rfl [.slice (some ⟨b, off, none⟩) j c, .int .i64 s.n] _ C2.out Tryd.underlying46 rfl sizeTq ?_
            | refine wpList_store_row rfl 46 _ _ rfl W1.heap.size #[.slice (some ⟨b, off, none⟩) j c, .int .i64 s.n] rfl rfl 46 #[.slice none 0 0, .int .i64 0] C5.out.1 sizeTq rfl (st_ones _ _ _ _) ?_)
          exact bodyPost_ret (v := .tuple #[.agg #[.slice (some ⟨b, off, none⟩) j c, .int .i64 s.n], .bool false]) (retSq rfl rfl (setRow_heap _ _ _ _ _ _ C5.out.1)) rfl ⟨.slice (some ⟨b, off, none⟩) j c, by rw [HR.out]; rfl, by rw [HR.out]; exact H0.out.kept (below_setRow C5.out.2 HSZ.out _), below_setRow C5.out.2 HSZ.out _, .inl ⟨rfl, by rw [HR.out]; rfl⟩⟩
      · have d1 : decide (oo < x.o) = true := by simp; omega
        have HR : Hid (R = none) := by unfold Hid; rw [HM.out, if_neg (fun q => h1 q.2.1)]
        clear HM h1
        go_quiet (fail)
        have bd : Below W2.heap.size W2 (wr.drewN nq) := ⟨HB.out.os, HB.out.tape, HB.out.output, HB.out.size, HB.out.block⟩
        generalize wr.drewN nq = wd at *
        clear c0 c1 c3 c4 c7 k34 k35
        obtain ⟨c0, c1, c2, c3, c4, c5, c6, c7, c9, c10⟩ := FK.out wd bd
        have C2 : Hid (wd.rangeAt w.heap.size 0 [.slice (some ⟨b, off, none⟩) j c, .int .i64 s.n]) := c2
        have C5 : Hid (wd.heap[W1.heap.size]? = some (.cells #[.slice none 0 0, .int .i64 0] 46 (0, 0)) ∧ Below w.heap.size w wd) := ⟨c9, c10⟩
        clear c2 c9 c10
        clear bd HB FK
        go_wp2_with (first
          | refine wpList_load_mid rfl 46 _ rfl w.heap.size 0 rfl [.slice (some ⟨b, off, none⟩) j c, .int .i64 s.n] _ C2.out Tryd.underlying46 rfl sizeTq ?_
          | refine wpList_store_row rfl 46 _ _ rfl W1.heap.size #[.slice (some ⟨b, off, none⟩) j c, .int .i64 s.n] rfl rfl 46 #[.slice none 0 0, .int .i64 0] C5.out.1 sizeTq rfl (st_ones _ _ _ _) ?_)
        exact bodyPost_ret (v := .tuple #[.agg #[.slice (some ⟨b, off, none⟩) j c, .int .i64 s.n], .bool false]) (retSq rfl rfl (setRow_heap _ _ _ _ _ _ C5.out.1)) rfl ⟨.slice (some ⟨b, off, none⟩) j c, by rw [HR.out]; rfl, by rw [HR.out]; exact H0.out.kept (below_setRow C5.out.2 HSZ.out _), below_setRow C5.out.2 HSZ.out _, .inl ⟨rfl, by rw [HR.out]; rfl⟩⟩
end Go.Proofs.YtcenchnmibdebaaDoor
