/-
  What lay lays.
-/
import Derived.Test.YtmplpdjkhdaniaaGreatDoorWba
namespace Go.Proofs.YtmplpdjkhdaniaaGreatDoor
open Go.RowKit Go.Shelf
set_option maxRecDepth 100000

set_option maxHeartbeats 8000000 in
theorem lay6 (p : Fm) (sv : Value) (w : World) (ht : Tb w) (hi : FI w p sv) (hok : Ok p) (hk : p.k = 6) :
    Calls Tryz.prog 33 #[.agg (plA p sv)] w fun e w' => ∃ v, e = .returned v ∧ Ow w' w.heap.size v (putM p) ∧ Below w.heap.size w w' := by
  obtain ⟨W1, hW1⟩ : ∃ W1, W1 = w.alloc (.cells (plA p sv) 33) := ⟨_, rfl⟩
  have b1 : Below w.heap.size w W1 := by rw [hW1]; exact al_below _ _
  have g1 : PF W1 w.heap.size 33 p sv := by rw [hW1]; exact PF.new w _ p sv
  obtain ⟨W2, hW2⟩ : ∃ W2, W2 = W1.alloc (.cells #[.int .i64 (pkN 6), .int .i64 (mT 6)] 57) := ⟨_, rfl⟩
  have b2 : Below W1.heap.size W1 W2 := by rw [hW2]; exact al_below _ _
  have g2 : W2.heap[W1.heap.size]? = some (.cells #[.int .i64 (pkN 6), .int .i64 (mT 6)] 57 (0, 0)) := by rw [hW2]; exact heap_alloc_new _ _
  have B2 : Below w.heap.size w W2 := b1.trans (b2.mono b1.size)
  have FG : Hid (∀ x, From W2 x → PF x w.heap.size 33 p sv) := fun x hx => (g1.kept b2).kept hx
  have FK : Hid (∀ x, From W2 x → PC x w.heap.size p sv) := fun x hx => (FG.out x hx).pc hi.k.nl
  have FS : Hid (∀ x, From W2 x → x.cell? ⟨W1.heap.size, 0, none⟩ = some (.int .i64 (pkN 6)) ∧ x.cell? ⟨W1.heap.size, 1, none⟩ = some (.int .i64 (mT 6))) := fun x hx => by
    have := blk_kept g2 hx (blk_lt g2)
    exact ⟨by simp [World.cell?, this], by simp [World.cell?, this]⟩
  have FB : Hid (∀ x, From W2 x → Below w.heap.size w x) := fun x hx => B2.trans (Below.mono hx B2.size)
  have FT : Hid (∀ x, From W2 x → Fi.Wid x) := fun x hx => (ht.next (FB.out x hx)).v
  have FN : Hid (W2.heap.size = W2.heap.size) := rfl
  have HWN : Hid (w.heap.size ≤ W2.heap.size) := B2.size
  have HI : Hid (FI w p sv) := hi
  have HOK : Hid (Ok p) := hok
  obtain ⟨t0, t1⟩ := (ht.next b1).s 6 (by omega)
  have hks := (g1.pc hi.k.nl).c0
  rw [hk] at hks
  have HPM : Hid (putM p = ([6] :: [nB p.n]).flatten) := by
    unfold Hid
    exact putM_6 hk
  obtain ⟨sa, sc, rfl, -, -, -⟩ := hi.s.shape
  obtain ⟨Wa, hWa⟩ : ∃ Wa, Wa = W2.alloc (.cells #[.int .u8 6] 5) := ⟨_, rfl⟩
  obtain ⟨X0, hX0⟩ : ∃ X0, X0 = Wa.alloc (.cells #[.slice (some ⟨W2.heap.size, 0, none⟩) 1 1] 34) := ⟨_, rfl⟩
  have ba : Below W2.heap.size W2 Wa := by rw [hWa]; exact al_below _ _
  have bx : Below Wa.heap.size Wa X0 := by rw [hX0]; exact al_below _ _
  have FX0 : Hid (From W2 X0) := ba.trans (bx.mono ba.size)
  have pa : Pt Wa (.slice (some ⟨W2.heap.size, 0, none⟩) 1 1) [6] := by rw [hWa]; exact Pt.byte W2 6 (by omega)
  have hza : Wa.heap.size = W2.heap.size + 1 := by rw [hWa]; simp
  have LX0 : Hid (LQ X0 W2.heap.size (.slice (some ⟨W2.heap.size + 1, 0, none⟩) 1 1) [[6]]) := by unfold Hid; rw [hX0, ← hza]; exact LQ.one pa ba.size
  clear b1 g1 b2 g2 B2 ht hi ba bx pa FN hok hza
  have CI : Hid (∀ W, Calls Tryz.prog 28 #[.agg #[.int .i64 (pkN 6), .int .i64 (mT 6)], .int .i64 1] W fun e w' => e = .returned (.bool false) ∧ Below W.heap.size W w') := fun W => has_k 6 (by omega) (by omega) W 1 _ (by decide)
  have CN : Hid (∀ W, Calls Tryz.prog 28 #[.agg #[.int .i64 (pkN 6), .int .i64 (mT 6)], .int .i64 2] W fun e w' => e = .returned (.bool true) ∧ Below W.heap.size W w') := fun W => has_k 6 (by omega) (by omega) W 2 _ (by decide)
  have CF : Hid (∀ W, Calls Tryz.prog 28 #[.agg #[.int .i64 (pkN 6), .int .i64 (mT 6)], .int .i64 4] W fun e w' => e = .returned (.bool false) ∧ Below W.heap.size W w') := fun W => has_k 6 (by omega) (by omega) W 4 _ (by decide)
  have CC : Hid (∀ W, Calls Tryz.prog 28 #[.agg #[.int .i64 (pkN 6), .int .i64 (mT 6)], .int .i64 8] W fun e w' => e = .returned (.bool false) ∧ Below W.heap.size W w') := fun W => has_k 6 (by omega) (by omega) W 8 _ (by decide)
  have CO : Hid (∀ W, Calls Tryz.prog 28 #[.agg #[.int .i64 (pkN 6), .int .i64 (mT 6)], .int .i64 16] W fun e w' => e = .returned (.bool false) ∧ Below W.heap.size W w') := fun W => has_k 6 (by omega) (by omega) W 16 _ (by decide)
  have CT : Hid (∀ W, Calls Tryz.prog 28 #[.agg #[.int .i64 (pkN 6), .int .i64 (mT 6)], .int .i64 32] W fun e w' => e = .returned (.bool false) ∧ Below W.heap.size W w') := fun W => has_k 6 (by omega) (by omega) W 32 _ (by decide)
  have CS : Hid (∀ W, Calls Tryz.prog 28 #[.agg #[.int .i64 (pkN 6), .int .i64 (mT 6)], .int .i64 64] W fun e w' => e = .returned (.bool false) ∧ Below W.heap.size W w') := fun W => has_k 6 (by omega) (by omega) W 64 _ (by decide)
  generalize pkN 6 = pk at *
  generalize mT 6 = mt at *
  go_enter Tryz.func33, Tryz.ntmps33
  go_upto_region 1 with fail
  rw [← hW1]
  clear hW1
  go_upto_region 2 with fail
  rw [← hW2]
  clear hW2 t0 t1
  have hks := (FK.out W2 (Below.refl _ _)).c0
  rw [hk] at hks
  go_upto_region 3 with fail
  rw [← hWa, ← hX0]
  clear hWa hX0 hk hks
  have ch := CI.out X0
  obtain ⟨s0, s1⟩ := FS.out X0 FX0.out
  go_wp2_with fail
  refine ch.mono ?_
  rintro e Y1 ⟨rfl, bY1⟩
  have FY1 : Hid (From W2 Y1) := FX0.out.trans (Below.mono bY1 FX0.out.size)
  have LY1 : Hid (LQ Y1 W2.heap.size (.slice (some ⟨W2.heap.size + 1, 0, none⟩) 1 1) [[6]]) := LX0.out.below bY1
  clear ch bY1 s0 s1 FX0 LX0
  have ch := CN.out Y1
  obtain ⟨s0, s1⟩ := FS.out Y1 FY1.out
  go_wp2_with fail
  refine ch.mono ?_
  rintro e Y2 ⟨rfl, bY2⟩
  have FY2 : Hid (From W2 Y2) := FY1.out.trans (Below.mono bY2 FY1.out.size)
  have LY2 : Hid (LQ Y2 W2.heap.size (.slice (some ⟨W2.heap.size + 1, 0, none⟩) 1 1) [[6]]) := LY1.out.below bY2
  clear ch bY2 s0 s1 FY1 LY1
  have q1 := (FK.out Y2 FY2.out).c2
  have cn := fnum_own p.n Y2 (FT.out Y2 FY2.out)
  go_wp2_with fail
  refine cn.mono ?_
  rintro e Y3 ⟨u, rfl, ou, bY3⟩
  have FY3 : Hid (From W2 Y3) := FY2.out.trans (Below.mono bY3 FY2.out.size)
  have LY3 : Hid (LQ Y3 W2.heap.size (.slice (some ⟨W2.heap.size + 1, 0, none⟩) 1 1) [[6]]) := LY2.out.below bY3
  obtain ⟨ua, uc, rfl⟩ := ou.shape
  have PU : Hid (Pt Y3 (.slice ua (nB p.n).length uc) (nB p.n)) := Pt.ow ou
  clear cn ou q1 bY3 FY2 LY2
  obtain ⟨V4, hV4⟩ : ∃ V4, V4 = Y3.alloc (.cells #[.slice ua (nB p.n).length uc] 34) := ⟨_, rfl⟩
  have bV4 : Below Y3.heap.size Y3 V4 := by rw [hV4]; exact al_below _ _
  have PV : Hid (Pt V4 (.slice ua (nB p.n).length uc) (nB p.n)) := PU.out.below bV4
  have CV : Hid (V4.cell? ⟨Y3.heap.size, 0, none⟩ = some (.slice ua (nB p.n).length uc)) := by unfold Hid; rw [hV4, World.cell?_alloc_at _ _ _ _ rfl]; rfl
  have FV4 : Hid (From W2 V4) := FY3.out.trans (Below.mono bV4 FY3.out.size)
  have LV4 : Hid (LQ V4 W2.heap.size (.slice (some ⟨W2.heap.size + 1, 0, none⟩) 1 1) [[6]]) := LY3.out.below bV4
  have zV4 := FV4.out.size
  clear bV4 PU FY3 LY3
  go_wp2_with (at_builtin; rw [← hV4]; refine wpList_append_lq rfl _ _ rfl W2.heap.size _ [[6]] rfl LV4.out Y3.heap.size _ _ 1 PV.out rfl CV.out (by simp) zV4 (Hid.out ?_))
  unfold Hid
  intro v4 Y4 lY4 bY4
  try rw [← hV4] at bY4
  have FY4 : Hid (From W2 Y4) := FV4.out.trans bY4
  have LY4 : Hid (LQ Y4 W2.heap.size v4 [[6], nB p.n]) := lY4
  clear bY4 lY4 zV4 FV4 LV4 PV CV hV4
  have ch := CF.out Y4
  obtain ⟨s0, s1⟩ := FS.out Y4 FY4.out
  go_wp2_with fail
  refine ch.mono ?_
  rintro e Y5 ⟨rfl, bY5⟩
  have FY5 : Hid (From W2 Y5) := FY4.out.trans (Below.mono bY5 FY4.out.size)
  have LY5 : Hid (LQ Y5 W2.heap.size v4 [[6], nB p.n]) := LY4.out.below bY5
  clear ch bY5 s0 s1 FY4 LY4
  have ch := CC.out Y5
  obtain ⟨s0, s1⟩ := FS.out Y5 FY5.out
  go_wp2_with fail
  refine ch.mono ?_
  rintro e Y6 ⟨rfl, bY6⟩
  have FY6 : Hid (From W2 Y6) := FY5.out.trans (Below.mono bY6 FY5.out.size)
  have LY6 : Hid (LQ Y6 W2.heap.size v4 [[6], nB p.n]) := LY5.out.below bY6
  clear ch bY6 s0 s1 FY5 LY5
  have ch := CO.out Y6
  obtain ⟨s0, s1⟩ := FS.out Y6 FY6.out
  go_wp2_with fail
  refine ch.mono ?_
  rintro e Y7 ⟨rfl, bY7⟩
  have FY7 : Hid (From W2 Y7) := FY6.out.trans (Below.mono bY7 FY6.out.size)
  have LY7 : Hid (LQ Y7 W2.heap.size v4 [[6], nB p.n]) := LY6.out.below bY7
  clear ch bY7 s0 s1 FY6 LY6
  have ch := CT.out Y7
  obtain ⟨s0, s1⟩ := FS.out Y7 FY7.out
  go_wp2_with fail
  refine ch.mono ?_
  rintro e Y8 ⟨rfl, bY8⟩
  have FY8 : Hid (From W2 Y8) := FY7.out.trans (Below.mono bY8 FY7.out.size)
  have LY8 : Hid (LQ Y8 W2.heap.size v4 [[6], nB p.n]) := LY7.out.below bY8
  clear ch bY8 s0 s1 FY7 LY7
  have ch := CS.out Y8
  obtain ⟨s0, s1⟩ := FS.out Y8 FY8.out
  go_wp2_with fail
  refine ch.mono ?_
  rintro e Y9 ⟨rfl, bY9⟩
  have FY9 : Hid (From W2 Y9) := FY8.out.trans (Below.mono bY9 FY8.out.size)
  have LY9 : Hid (LQ Y9 W2.heap.size v4 [[6], nB p.n]) := LY8.out.below bY9
  clear ch bY9 s0 s1 FY8 LY8
  obtain ⟨pp, pc, rfl, HP⟩ := LY9.out.parts (by simp)
  have cj := fjoin_any pp pc [[6], nB p.n] Y9 HP (by have := hlen_ok HOK.out HI.out.k.nl; rw [HPM.out] at this; exact this)
  have cjl : ([[6], nB p.n] : List (List Int)).length = 2 := rfl
  rw [cjl] at cj
  have HFM : Hid (putM p = ([[6], nB p.n] : List (List Int)).flatten) := HPM.out
  clear HP HPM cjl
  generalize ([[6], nB p.n] : List (List Int)).flatten = FM at *
  go_wp2_with fail
  refine cj.mono ?_
  rintro e w9 ⟨v9, rfl, o9, b9⟩
  have HB9 : Hid (Below w.heap.size w w9) := (FB.out Y9 FY9.out).trans (b9.mono (FB.out Y9 FY9.out).size)
  have HO9 : Hid (Ow w9 w.heap.size v9 FM) := o9.mono (Nat.le_trans HWN.out FY9.out.size)
  clear cj b9 o9
  go_wp2
  go_ret
  exact ⟨_, rfl, by rw [HFM.out]; exact HO9.out, HB9.out⟩
set_option maxHeartbeats 8000000 in
theorem lay7 (p : Fm) (sv : Value) (w : World) (ht : Tb w) (hi : FI w p sv) (hok : Ok p) (hk : p.k = 7) :
    Calls Tryz.prog 33 #[.agg (plA p sv)] w fun e w' => ∃ v, e = .returned v ∧ Ow w' w.heap.size v (putM p) ∧ Below w.heap.size w w' := by
  obtain ⟨W1, hW1⟩ : ∃ W1, W1 = w.alloc (.cells (plA p sv) 33) := ⟨_, rfl⟩
  have b1 : Below w.heap.size w W1 := by rw [hW1]; exact al_below _ _
  have g1 : PF W1 w.heap.size 33 p sv := by rw [hW1]; exact PF.new w _ p sv
  obtain ⟨W2, hW2⟩ : ∃ W2, W2 = W1.alloc (.cells #[.int .i64 (pkN 7), .int .i64 (mT 7)] 57) := ⟨_, rfl⟩
  have b2 : Below W1.heap.size W1 W2 := by rw [hW2]; exact al_below _ _
  have g2 : W2.heap[W1.heap.size]? = some (.cells #[.int .i64 (pkN 7), .int .i64 (mT 7)] 57 (0, 0)) := by rw [hW2]; exact heap_alloc_new _ _
  have B2 : Below w.heap.size w W2 := b1.trans (b2.mono b1.size)
  have FG : Hid (∀ x, From W2 x → PF x w.heap.size 33 p sv) := fun x hx => (g1.kept b2).kept hx
  have FK : Hid (∀ x, From W2 x → PC x w.heap.size p sv) := fun x hx => (FG.out x hx).pc hi.k.nl
  have FS : Hid (∀ x, From W2 x → x.cell? ⟨W1.heap.size, 0, none⟩ = some (.int .i64 (pkN 7)) ∧ x.cell? ⟨W1.heap.size, 1, none⟩ = some (.int .i64 (mT 7))) := fun x hx => by
    have := blk_kept g2 hx (blk_lt g2)
    exact ⟨by simp [World.cell?, this], by simp [World.cell?, this]⟩
  have FB : Hid (∀ x, From W2 x → Below w.heap.size w x) := fun x hx => B2.trans (Below.mono hx B2.size)
  have FT : Hid (∀ x, From W2 x → Fi.Wid x) := fun x hx => (ht.next (FB.out x hx)).v
  have FN : Hid (W2.heap.size = W2.heap.size) := rfl
  have HWN : Hid (w.heap.size ≤ W2.heap.size) := B2.size
  have HI : Hid (FI w p sv) := hi
  have HOK : Hid (Ok p) := hok
  obtain ⟨t0, t1⟩ := (ht.next b1).s 7 (by omega)
  have hks := (g1.pc hi.k.nl).c0
  rw [hk] at hks
  have HPM : Hid (putM p = ([7] :: [nB p.id, nB p.n]).flatten) := by
    unfold Hid
    exact putM_7 hk
  obtain ⟨sa, sc, rfl, -, -, -⟩ := hi.s.shape
  obtain ⟨Wa, hWa⟩ : ∃ Wa, Wa = W2.alloc (.cells #[.int .u8 7] 5) := ⟨_, rfl⟩
  obtain ⟨X0, hX0⟩ : ∃ X0, X0 = Wa.alloc (.cells #[.slice (some ⟨W2.heap.size, 0, none⟩) 1 1] 34) := ⟨_, rfl⟩
  have ba : Below W2.heap.size W2 Wa := by rw [hWa]; exact al_below _ _
  have bx : Below Wa.heap.size Wa X0 := by rw [hX0]; exact al_below _ _
  have FX0 : Hid (From W2 X0) := ba.trans (bx.mono ba.size)
  have pa : Pt Wa (.slice (some ⟨W2.heap.size, 0, none⟩) 1 1) [7] := by rw [hWa]; exact Pt.byte W2 7 (by omega)
  have hza : Wa.heap.size = W2.heap.size + 1 := by rw [hWa]; simp
  have LX0 : Hid (LQ X0 W2.heap.size (.slice (some ⟨W2.heap.size + 1, 0, none⟩) 1 1) [[7]]) := by unfold Hid; rw [hX0, ← hza]; exact LQ.one pa ba.size
  clear b1 g1 b2 g2 B2 ht hi ba bx pa FN hok hza
  have CI : Hid (∀ W, Calls Tryz.prog 28 #[.agg #[.int .i64 (pkN 7), .int .i64 (mT 7)], .int .i64 1] W fun e w' => e = .returned (.bool true) ∧ Below W.heap.size W w') := fun W => has_k 7 (by omega) (by omega) W 1 _ (by decide)
  have CN : Hid (∀ W, Calls Tryz.prog 28 #[.agg #[.int .i64 (pkN 7), .int .i64 (mT 7)], .int .i64 2] W fun e w' => e = .returned (.bool true) ∧ Below W.heap.size W w') := fun W => has_k 7 (by omega) (by omega) W 2 _ (by decide)
  have CF : Hid (∀ W, Calls Tryz.prog 28 #[.agg #[.int .i64 (pkN 7), .int .i64 (mT 7)], .int .i64 4] W fun e w' => e = .returned (.bool false) ∧ Below W.heap.size W w') := fun W => has_k 7 (by omega) (by omega) W 4 _ (by decide)
  have CC : Hid (∀ W, Calls Tryz.prog 28 #[.agg #[.int .i64 (pkN 7), .int .i64 (mT 7)], .int .i64 8] W fun e w' => e = .returned (.bool false) ∧ Below W.heap.size W w') := fun W => has_k 7 (by omega) (by omega) W 8 _ (by decide)
  have CO : Hid (∀ W, Calls Tryz.prog 28 #[.agg #[.int .i64 (pkN 7), .int .i64 (mT 7)], .int .i64 16] W fun e w' => e = .returned (.bool false) ∧ Below W.heap.size W w') := fun W => has_k 7 (by omega) (by omega) W 16 _ (by decide)
  have CT : Hid (∀ W, Calls Tryz.prog 28 #[.agg #[.int .i64 (pkN 7), .int .i64 (mT 7)], .int .i64 32] W fun e w' => e = .returned (.bool false) ∧ Below W.heap.size W w') := fun W => has_k 7 (by omega) (by omega) W 32 _ (by decide)
  have CS : Hid (∀ W, Calls Tryz.prog 28 #[.agg #[.int .i64 (pkN 7), .int .i64 (mT 7)], .int .i64 64] W fun e w' => e = .returned (.bool false) ∧ Below W.heap.size W w') := fun W => has_k 7 (by omega) (by omega) W 64 _ (by decide)
  generalize pkN 7 = pk at *
  generalize mT 7 = mt at *
  go_enter Tryz.func33, Tryz.ntmps33
  go_upto_region 1 with fail
  rw [← hW1]
  clear hW1
  go_upto_region 2 with fail
  rw [← hW2]
  clear hW2 t0 t1
  have hks := (FK.out W2 (Below.refl _ _)).c0
  rw [hk] at hks
  go_upto_region 3 with fail
  rw [← hWa, ← hX0]
  clear hWa hX0 hk hks
  have ch := CI.out X0
  obtain ⟨s0, s1⟩ := FS.out X0 FX0.out
  go_wp2_with fail
  refine ch.mono ?_
  rintro e Y1 ⟨rfl, bY1⟩
  have FY1 : Hid (From W2 Y1) := FX0.out.trans (Below.mono bY1 FX0.out.size)
  have LY1 : Hid (LQ Y1 W2.heap.size (.slice (some ⟨W2.heap.size + 1, 0, none⟩) 1 1) [[7]]) := LX0.out.below bY1
  clear ch bY1 s0 s1 FX0 LX0
  have q1 := (FK.out Y1 FY1.out).c1
  have cn := fnum_own p.id Y1 (FT.out Y1 FY1.out)
  go_wp2_with fail
  refine cn.mono ?_
  rintro e Y2 ⟨u, rfl, ou, bY2⟩
  have FY2 : Hid (From W2 Y2) := FY1.out.trans (Below.mono bY2 FY1.out.size)
  have LY2 : Hid (LQ Y2 W2.heap.size (.slice (some ⟨W2.heap.size + 1, 0, none⟩) 1 1) [[7]]) := LY1.out.below bY2
  obtain ⟨ua, uc, rfl⟩ := ou.shape
  have PU : Hid (Pt Y2 (.slice ua (nB p.id).length uc) (nB p.id)) := Pt.ow ou
  clear cn ou q1 bY2 FY1 LY1
  obtain ⟨V3, hV3⟩ : ∃ V3, V3 = Y2.alloc (.cells #[.slice ua (nB p.id).length uc] 34) := ⟨_, rfl⟩
  have bV3 : Below Y2.heap.size Y2 V3 := by rw [hV3]; exact al_below _ _
  have PV : Hid (Pt V3 (.slice ua (nB p.id).length uc) (nB p.id)) := PU.out.below bV3
  have CV : Hid (V3.cell? ⟨Y2.heap.size, 0, none⟩ = some (.slice ua (nB p.id).length uc)) := by unfold Hid; rw [hV3, World.cell?_alloc_at _ _ _ _ rfl]; rfl
  have FV3 : Hid (From W2 V3) := FY2.out.trans (Below.mono bV3 FY2.out.size)
  have LV3 : Hid (LQ V3 W2.heap.size (.slice (some ⟨W2.heap.size + 1, 0, none⟩) 1 1) [[7]]) := LY2.out.below bV3
  have zV3 := FV3.out.size
  clear bV3 PU FY2 LY2
  go_wp2_with (at_builtin; rw [← hV3]; refine wpList_append_lq rfl _ _ rfl W2.heap.size _ [[7]] rfl LV3.out Y2.heap.size _ _ 1 PV.out rfl CV.out (by simp) zV3 (Hid.out ?_))
  unfold Hid
  intro v3 Y3 lY3 bY3
  try rw [← hV3] at bY3
  have FY3 : Hid (From W2 Y3) := FV3.out.trans bY3
  have LY3 : Hid (LQ Y3 W2.heap.size v3 [[7], nB p.id]) := lY3
  clear bY3 lY3 zV3 FV3 LV3 PV CV hV3
  have ch := CN.out Y3
  obtain ⟨s0, s1⟩ := FS.out Y3 FY3.out
  go_wp2_with fail
  refine ch.mono ?_
  rintro e Y4 ⟨rfl, bY4⟩
  have FY4 : Hid (From W2 Y4) := FY3.out.trans (Below.mono bY4 FY3.out.size)
  have LY4 : Hid (LQ Y4 W2.heap.size v3 [[7], nB p.id]) := LY3.out.below bY4
  clear ch bY4 s0 s1 FY3 LY3
  have q1 := (FK.out Y4 FY4.out).c2
  have cn := fnum_own p.n Y4 (FT.out Y4 FY4.out)
  go_wp2_with fail
  refine cn.mono ?_
  rintro e Y5 ⟨u, rfl, ou, bY5⟩
  have FY5 : Hid (From W2 Y5) := FY4.out.trans (Below.mono bY5 FY4.out.size)
  have LY5 : Hid (LQ Y5 W2.heap.size v3 [[7], nB p.id]) := LY4.out.below bY5
  obtain ⟨ua, uc, rfl⟩ := ou.shape
  have PU : Hid (Pt Y5 (.slice ua (nB p.n).length uc) (nB p.n)) := Pt.ow ou
  clear cn ou q1 bY5 FY4 LY4
  obtain ⟨V6, hV6⟩ : ∃ V6, V6 = Y5.alloc (.cells #[.slice ua (nB p.n).length uc] 34) := ⟨_, rfl⟩
  have bV6 : Below Y5.heap.size Y5 V6 := by rw [hV6]; exact al_below _ _
  have PV : Hid (Pt V6 (.slice ua (nB p.n).length uc) (nB p.n)) := PU.out.below bV6
  have CV : Hid (V6.cell? ⟨Y5.heap.size, 0, none⟩ = some (.slice ua (nB p.n).length uc)) := by unfold Hid; rw [hV6, World.cell?_alloc_at _ _ _ _ rfl]; rfl
  have FV6 : Hid (From W2 V6) := FY5.out.trans (Below.mono bV6 FY5.out.size)
  have LV6 : Hid (LQ V6 W2.heap.size v3 [[7], nB p.id]) := LY5.out.below bV6
  have zV6 := FV6.out.size
  clear bV6 PU FY5 LY5
  go_wp2_with (at_builtin; rw [← hV6]; refine wpList_append_lq rfl _ _ rfl W2.heap.size _ [[7], nB p.id] rfl LV6.out Y5.heap.size _ _ 1 PV.out rfl CV.out (by simp) zV6 (Hid.out ?_))
  unfold Hid
  intro v6 Y6 lY6 bY6
  try rw [← hV6] at bY6
  have FY6 : Hid (From W2 Y6) := FV6.out.trans bY6
  have LY6 : Hid (LQ Y6 W2.heap.size v6 [[7], nB p.id, nB p.n]) := lY6
  clear bY6 lY6 zV6 FV6 LV6 PV CV hV6
  have ch := CF.out Y6
  obtain ⟨s0, s1⟩ := FS.out Y6 FY6.out
  go_wp2_with fail
  refine ch.mono ?_
  rintro e Y7 ⟨rfl, bY7⟩
  have FY7 : Hid (From W2 Y7) := FY6.out.trans (Below.mono bY7 FY6.out.size)
  have LY7 : Hid (LQ Y7 W2.heap.size v6 [[7], nB p.id, nB p.n]) := LY6.out.below bY7
  clear ch bY7 s0 s1 FY6 LY6
  have ch := CC.out Y7
  obtain ⟨s0, s1⟩ := FS.out Y7 FY7.out
  go_wp2_with fail
  refine ch.mono ?_
  rintro e Y8 ⟨rfl, bY8⟩
  have FY8 : Hid (From W2 Y8) := FY7.out.trans (Below.mono bY8 FY7.out.size)
  have LY8 : Hid (LQ Y8 W2.heap.size v6 [[7], nB p.id, nB p.n]) := LY7.out.below bY8
  clear ch bY8 s0 s1 FY7 LY7
  have ch := CO.out Y8
  obtain ⟨s0, s1⟩ := FS.out Y8 FY8.out
  go_wp2_with fail
  refine ch.mono ?_
  rintro e Y9 ⟨rfl, bY9⟩
  have FY9 : Hid (From W2 Y9) := FY8.out.trans (Below.mono bY9 FY8.out.size)
  have LY9 : Hid (LQ Y9 W2.heap.size v6 [[7], nB p.id, nB p.n]) := LY8.out.below bY9
  clear ch bY9 s0 s1 FY8 LY8
  have ch := CT.out Y9
  obtain ⟨s0, s1⟩ := FS.out Y9 FY9.out
  go_wp2_with fail
  refine ch.mono ?_
  rintro e Y10 ⟨rfl, bY10⟩
  have FY10 : Hid (From W2 Y10) := FY9.out.trans (Below.mono bY10 FY9.out.size)
  have LY10 : Hid (LQ Y10 W2.heap.size v6 [[7], nB p.id, nB p.n]) := LY9.out.below bY10
  clear ch bY10 s0 s1 FY9 LY9
  have ch := CS.out Y10
  obtain ⟨s0, s1⟩ := FS.out Y10 FY10.out
  go_wp2_with fail
  refine ch.mono ?_
  rintro e Y11 ⟨rfl, bY11⟩
  have FY11 : Hid (From W2 Y11) := FY10.out.trans (Below.mono bY11 FY10.out.size)
  have LY11 : Hid (LQ Y11 W2.heap.size v6 [[7], nB p.id, nB p.n]) := LY10.out.below bY11
  clear ch bY11 s0 s1 FY10 LY10
  obtain ⟨pp, pc, rfl, HP⟩ := LY11.out.parts (by simp)
  have cj := fjoin_any pp pc [[7], nB p.id, nB p.n] Y11 HP (by have := hlen_ok HOK.out HI.out.k.nl; rw [HPM.out] at this; exact this)
  have cjl : ([[7], nB p.id, nB p.n] : List (List Int)).length = 3 := rfl
  rw [cjl] at cj
  have HFM : Hid (putM p = ([[7], nB p.id, nB p.n] : List (List Int)).flatten) := HPM.out
  clear HP HPM cjl
  generalize ([[7], nB p.id, nB p.n] : List (List Int)).flatten = FM at *
  go_wp2_with fail
  refine cj.mono ?_
  rintro e w9 ⟨v9, rfl, o9, b9⟩
  have HB9 : Hid (Below w.heap.size w w9) := (FB.out Y11 FY11.out).trans (b9.mono (FB.out Y11 FY11.out).size)
  have HO9 : Hid (Ow w9 w.heap.size v9 FM) := o9.mono (Nat.le_trans HWN.out FY11.out.size)
  clear cj b9 o9
  go_wp2
  go_ret
  exact ⟨_, rfl, by rw [HFM.out]; exact HO9.out, HB9.out⟩
set_option maxHeartbeats 8000000 in
theorem lay8 (p : Fm) (sv : Value) (w : World) (ht : Tb w) (hi : FI w p sv) (hok : Ok p) (hk : p.k = 8) :
    Calls Tryz.prog 33 #[.agg (plA p sv)] w fun e w' => ∃ v, e = .returned v ∧ Ow w' w.heap.size v (putM p) ∧ Below w.heap.size w w' := by
  obtain ⟨W1, hW1⟩ : ∃ W1, W1 = w.alloc (.cells (plA p sv) 33) := ⟨_, rfl⟩
  have b1 : Below w.heap.size w W1 := by rw [hW1]; exact al_below _ _
  have g1 : PF W1 w.heap.size 33 p sv := by rw [hW1]; exact PF.new w _ p sv
  obtain ⟨W2, hW2⟩ : ∃ W2, W2 = W1.alloc (.cells #[.int .i64 (pkN 8), .int .i64 (mT 8)] 57) := ⟨_, rfl⟩
  have b2 : Below W1.heap.size W1 W2 := by rw [hW2]; exact al_below _ _
  have g2 : W2.heap[W1.heap.size]? = some (.cells #[.int .i64 (pkN 8), .int .i64 (mT 8)] 57 (0, 0)) := by rw [hW2]; exact heap_alloc_new _ _
  have B2 : Below w.heap.size w W2 := b1.trans (b2.mono b1.size)
  have FG : Hid (∀ x, From W2 x → PF x w.heap.size 33 p sv) := fun x hx => (g1.kept b2).kept hx
  have FK : Hid (∀ x, From W2 x → PC x w.heap.size p sv) := fun x hx => (FG.out x hx).pc hi.k.nl
  have FS : Hid (∀ x, From W2 x → x.cell? ⟨W1.heap.size, 0, none⟩ = some (.int .i64 (pkN 8)) ∧ x.cell? ⟨W1.heap.size, 1, none⟩ = some (.int .i64 (mT 8))) := fun x hx => by
    have := blk_kept g2 hx (blk_lt g2)
    exact ⟨by simp [World.cell?, this], by simp [World.cell?, this]⟩
  have FB : Hid (∀ x, From W2 x → Below w.heap.size w x) := fun x hx => B2.trans (Below.mono hx B2.size)
  have FT : Hid (∀ x, From W2 x → Fi.Wid x) := fun x hx => (ht.next (FB.out x hx)).v
  have FN : Hid (W2.heap.size = W2.heap.size) := rfl
  have HWN : Hid (w.heap.size ≤ W2.heap.size) := B2.size
  have HI : Hid (FI w p sv) := hi
  have HOK : Hid (Ok p) := hok
  obtain ⟨t0, t1⟩ := (ht.next b1).s 8 (by omega)
  have hks := (g1.pc hi.k.nl).c0
  rw [hk] at hks
  have HPM : Hid (putM p = ([8] :: [nB p.n]).flatten) := by
    unfold Hid
    exact putM_8 hk
  obtain ⟨sa, sc, rfl, -, -, -⟩ := hi.s.shape
  obtain ⟨Wa, hWa⟩ : ∃ Wa, Wa = W2.alloc (.cells #[.int .u8 8] 5) := ⟨_, rfl⟩
  obtain ⟨X0, hX0⟩ : ∃ X0, X0 = Wa.alloc (.cells #[.slice (some ⟨W2.heap.size, 0, none⟩) 1 1] 34) := ⟨_, rfl⟩
  have ba : Below W2.heap.size W2 Wa := by rw [hWa]; exact al_below _ _
  have bx : Below Wa.heap.size Wa X0 := by rw [hX0]; exact al_below _ _
  have FX0 : Hid (From W2 X0) := ba.trans (bx.mono ba.size)
  have pa : Pt Wa (.slice (some ⟨W2.heap.size, 0, none⟩) 1 1) [8] := by rw [hWa]; exact Pt.byte W2 8 (by omega)
  have hza : Wa.heap.size = W2.heap.size + 1 := by rw [hWa]; simp
  have LX0 : Hid (LQ X0 W2.heap.size (.slice (some ⟨W2.heap.size + 1, 0, none⟩) 1 1) [[8]]) := by unfold Hid; rw [hX0, ← hza]; exact LQ.one pa ba.size
  clear b1 g1 b2 g2 B2 ht hi ba bx pa FN hok hza
  have CI : Hid (∀ W, Calls Tryz.prog 28 #[.agg #[.int .i64 (pkN 8), .int .i64 (mT 8)], .int .i64 1] W fun e w' => e = .returned (.bool false) ∧ Below W.heap.size W w') := fun W => has_k 8 (by omega) (by omega) W 1 _ (by decide)
  have CN : Hid (∀ W, Calls Tryz.prog 28 #[.agg #[.int .i64 (pkN 8), .int .i64 (mT 8)], .int .i64 2] W fun e w' => e = .returned (.bool true) ∧ Below W.heap.size W w') := fun W => has_k 8 (by omega) (by omega) W 2 _ (by decide)
  have CF : Hid (∀ W, Calls Tryz.prog 28 #[.agg #[.int .i64 (pkN 8), .int .i64 (mT 8)], .int .i64 4] W fun e w' => e = .returned (.bool false) ∧ Below W.heap.size W w') := fun W => has_k 8 (by omega) (by omega) W 4 _ (by decide)
  have CC : Hid (∀ W, Calls Tryz.prog 28 #[.agg #[.int .i64 (pkN 8), .int .i64 (mT 8)], .int .i64 8] W fun e w' => e = .returned (.bool false) ∧ Below W.heap.size W w') := fun W => has_k 8 (by omega) (by omega) W 8 _ (by decide)
  have CO : Hid (∀ W, Calls Tryz.prog 28 #[.agg #[.int .i64 (pkN 8), .int .i64 (mT 8)], .int .i64 16] W fun e w' => e = .returned (.bool false) ∧ Below W.heap.size W w') := fun W => has_k 8 (by omega) (by omega) W 16 _ (by decide)
  have CT : Hid (∀ W, Calls Tryz.prog 28 #[.agg #[.int .i64 (pkN 8), .int .i64 (mT 8)], .int .i64 32] W fun e w' => e = .returned (.bool false) ∧ Below W.heap.size W w') := fun W => has_k 8 (by omega) (by omega) W 32 _ (by decide)
  have CS : Hid (∀ W, Calls Tryz.prog 28 #[.agg #[.int .i64 (pkN 8), .int .i64 (mT 8)], .int .i64 64] W fun e w' => e = .returned (.bool false) ∧ Below W.heap.size W w') := fun W => has_k 8 (by omega) (by omega) W 64 _ (by decide)
  generalize pkN 8 = pk at *
  generalize mT 8 = mt at *
  go_enter Tryz.func33, Tryz.ntmps33
  go_upto_region 1 with fail
  rw [← hW1]
  clear hW1
  go_upto_region 2 with fail
  rw [← hW2]
  clear hW2 t0 t1
  have hks := (FK.out W2 (Below.refl _ _)).c0
  rw [hk] at hks
  go_upto_region 3 with fail
  rw [← hWa, ← hX0]
  clear hWa hX0 hk hks
  have ch := CI.out X0
  obtain ⟨s0, s1⟩ := FS.out X0 FX0.out
  go_wp2_with fail
  refine ch.mono ?_
  rintro e Y1 ⟨rfl, bY1⟩
  have FY1 : Hid (From W2 Y1) := FX0.out.trans (Below.mono bY1 FX0.out.size)
  have LY1 : Hid (LQ Y1 W2.heap.size (.slice (some ⟨W2.heap.size + 1, 0, none⟩) 1 1) [[8]]) := LX0.out.below bY1
  clear ch bY1 s0 s1 FX0 LX0
  have ch := CN.out Y1
  obtain ⟨s0, s1⟩ := FS.out Y1 FY1.out
  go_wp2_with fail
  refine ch.mono ?_
  rintro e Y2 ⟨rfl, bY2⟩
  have FY2 : Hid (From W2 Y2) := FY1.out.trans (Below.mono bY2 FY1.out.size)
  have LY2 : Hid (LQ Y2 W2.heap.size (.slice (some ⟨W2.heap.size + 1, 0, none⟩) 1 1) [[8]]) := LY1.out.below bY2
  clear ch bY2 s0 s1 FY1 LY1
  have q1 := (FK.out Y2 FY2.out).c2
  have cn := fnum_own p.n Y2 (FT.out Y2 FY2.out)
  go_wp2_with fail
  refine cn.mono ?_
  rintro e Y3 ⟨u, rfl, ou, bY3⟩
  have FY3 : Hid (From W2 Y3) := FY2.out.trans (Below.mono bY3 FY2.out.size)
  have LY3 : Hid (LQ Y3 W2.heap.size (.slice (some ⟨W2.heap.size + 1, 0, none⟩) 1 1) [[8]]) := LY2.out.below bY3
  obtain ⟨ua, uc, rfl⟩ := ou.shape
  have PU : Hid (Pt Y3 (.slice ua (nB p.n).length uc) (nB p.n)) := Pt.ow ou
  clear cn ou q1 bY3 FY2 LY2
  obtain ⟨V4, hV4⟩ : ∃ V4, V4 = Y3.alloc (.cells #[.slice ua (nB p.n).length uc] 34) := ⟨_, rfl⟩
  have bV4 : Below Y3.heap.size Y3 V4 := by rw [hV4]; exact al_below _ _
  have PV : Hid (Pt V4 (.slice ua (nB p.n).length uc) (nB p.n)) := PU.out.below bV4
  have CV : Hid (V4.cell? ⟨Y3.heap.size, 0, none⟩ = some (.slice ua (nB p.n).length uc)) := by unfold Hid; rw [hV4, World.cell?_alloc_at _ _ _ _ rfl]; rfl
  have FV4 : Hid (From W2 V4) := FY3.out.trans (Below.mono bV4 FY3.out.size)
  have LV4 : Hid (LQ V4 W2.heap.size (.slice (some ⟨W2.heap.size + 1, 0, none⟩) 1 1) [[8]]) := LY3.out.below bV4
  have zV4 := FV4.out.size
  clear bV4 PU FY3 LY3
  go_wp2_with (at_builtin; rw [← hV4]; refine wpList_append_lq rfl _ _ rfl W2.heap.size _ [[8]] rfl LV4.out Y3.heap.size _ _ 1 PV.out rfl CV.out (by simp) zV4 (Hid.out ?_))
  unfold Hid
  intro v4 Y4 lY4 bY4
  try rw [← hV4] at bY4
  have FY4 : Hid (From W2 Y4) := FV4.out.trans bY4
  have LY4 : Hid (LQ Y4 W2.heap.size v4 [[8], nB p.n]) := lY4
  clear bY4 lY4 zV4 FV4 LV4 PV CV hV4
  have ch := CF.out Y4
  obtain ⟨s0, s1⟩ := FS.out Y4 FY4.out
  go_wp2_with fail
  refine ch.mono ?_
  rintro e Y5 ⟨rfl, bY5⟩
  have FY5 : Hid (From W2 Y5) := FY4.out.trans (Below.mono bY5 FY4.out.size)
  have LY5 : Hid (LQ Y5 W2.heap.size v4 [[8], nB p.n]) := LY4.out.below bY5
  clear ch bY5 s0 s1 FY4 LY4
  have ch := CC.out Y5
  obtain ⟨s0, s1⟩ := FS.out Y5 FY5.out
  go_wp2_with fail
  refine ch.mono ?_
  rintro e Y6 ⟨rfl, bY6⟩
  have FY6 : Hid (From W2 Y6) := FY5.out.trans (Below.mono bY6 FY5.out.size)
  have LY6 : Hid (LQ Y6 W2.heap.size v4 [[8], nB p.n]) := LY5.out.below bY6
  clear ch bY6 s0 s1 FY5 LY5
  have ch := CO.out Y6
  obtain ⟨s0, s1⟩ := FS.out Y6 FY6.out
  go_wp2_with fail
  refine ch.mono ?_
  rintro e Y7 ⟨rfl, bY7⟩
  have FY7 : Hid (From W2 Y7) := FY6.out.trans (Below.mono bY7 FY6.out.size)
  have LY7 : Hid (LQ Y7 W2.heap.size v4 [[8], nB p.n]) := LY6.out.below bY7
  clear ch bY7 s0 s1 FY6 LY6
  have ch := CT.out Y7
  obtain ⟨s0, s1⟩ := FS.out Y7 FY7.out
  go_wp2_with fail
  refine ch.mono ?_
  rintro e Y8 ⟨rfl, bY8⟩
  have FY8 : Hid (From W2 Y8) := FY7.out.trans (Below.mono bY8 FY7.out.size)
  have LY8 : Hid (LQ Y8 W2.heap.size v4 [[8], nB p.n]) := LY7.out.below bY8
  clear ch bY8 s0 s1 FY7 LY7
  have ch := CS.out Y8
  obtain ⟨s0, s1⟩ := FS.out Y8 FY8.out
  go_wp2_with fail
  refine ch.mono ?_
  rintro e Y9 ⟨rfl, bY9⟩
  have FY9 : Hid (From W2 Y9) := FY8.out.trans (Below.mono bY9 FY8.out.size)
  have LY9 : Hid (LQ Y9 W2.heap.size v4 [[8], nB p.n]) := LY8.out.below bY9
  clear ch bY9 s0 s1 FY8 LY8
  obtain ⟨pp, pc, rfl, HP⟩ := LY9.out.parts (by simp)
  have cj := fjoin_any pp pc [[8], nB p.n] Y9 HP (by have := hlen_ok HOK.out HI.out.k.nl; rw [HPM.out] at this; exact this)
  have cjl : ([[8], nB p.n] : List (List Int)).length = 2 := rfl
  rw [cjl] at cj
  have HFM : Hid (putM p = ([[8], nB p.n] : List (List Int)).flatten) := HPM.out
  clear HP HPM cjl
  generalize ([[8], nB p.n] : List (List Int)).flatten = FM at *
  go_wp2_with fail
  refine cj.mono ?_
  rintro e w9 ⟨v9, rfl, o9, b9⟩
  have HB9 : Hid (Below w.heap.size w w9) := (FB.out Y9 FY9.out).trans (b9.mono (FB.out Y9 FY9.out).size)
  have HO9 : Hid (Ow w9 w.heap.size v9 FM) := o9.mono (Nat.le_trans HWN.out FY9.out.size)
  clear cj b9 o9
  go_wp2
  go_ret
  exact ⟨_, rfl, by rw [HFM.out]; exact HO9.out, HB9.out⟩
set_option maxHeartbeats 8000000 in
theorem lay9 (p : Fm) (sv : Value) (w : World) (ht : Tb w) (hi : FI w p sv) (hok : Ok p) (hk : p.k = 9) :
    Calls Tryz.prog 33 #[.agg (plA p sv)] w fun e w' => ∃ v, e = .returned v ∧ Ow w' w.heap.size v (putM p) ∧ Below w.heap.size w w' := by
  obtain ⟨W1, hW1⟩ : ∃ W1, W1 = w.alloc (.cells (plA p sv) 33) := ⟨_, rfl⟩
  have b1 : Below w.heap.size w W1 := by rw [hW1]; exact al_below _ _
  have g1 : PF W1 w.heap.size 33 p sv := by rw [hW1]; exact PF.new w _ p sv
  obtain ⟨W2, hW2⟩ : ∃ W2, W2 = W1.alloc (.cells #[.int .i64 (pkN 9), .int .i64 (mT 9)] 57) := ⟨_, rfl⟩
  have b2 : Below W1.heap.size W1 W2 := by rw [hW2]; exact al_below _ _
  have g2 : W2.heap[W1.heap.size]? = some (.cells #[.int .i64 (pkN 9), .int .i64 (mT 9)] 57 (0, 0)) := by rw [hW2]; exact heap_alloc_new _ _
  have B2 : Below w.heap.size w W2 := b1.trans (b2.mono b1.size)
  have FG : Hid (∀ x, From W2 x → PF x w.heap.size 33 p sv) := fun x hx => (g1.kept b2).kept hx
  have FK : Hid (∀ x, From W2 x → PC x w.heap.size p sv) := fun x hx => (FG.out x hx).pc hi.k.nl
  have FS : Hid (∀ x, From W2 x → x.cell? ⟨W1.heap.size, 0, none⟩ = some (.int .i64 (pkN 9)) ∧ x.cell? ⟨W1.heap.size, 1, none⟩ = some (.int .i64 (mT 9))) := fun x hx => by
    have := blk_kept g2 hx (blk_lt g2)
    exact ⟨by simp [World.cell?, this], by simp [World.cell?, this]⟩
  have FB : Hid (∀ x, From W2 x → Below w.heap.size w x) := fun x hx => B2.trans (Below.mono hx B2.size)
  have FT : Hid (∀ x, From W2 x → Fi.Wid x) := fun x hx => (ht.next (FB.out x hx)).v
  have FN : Hid (W2.heap.size = W2.heap.size) := rfl
  have HWN : Hid (w.heap.size ≤ W2.heap.size) := B2.size
  have HI : Hid (FI w p sv) := hi
  have HOK : Hid (Ok p) := hok
  obtain ⟨t0, t1⟩ := (ht.next b1).s 9 (by omega)
  have hks := (g1.pc hi.k.nl).c0
  rw [hk] at hks
  have HPM : Hid (putM p = ([9] :: [p.nc, Fi.textB p.tx]).flatten) := by
    unfold Hid
    exact putM_9 hk
  obtain ⟨sa, sc, rfl, -, -, -⟩ := hi.s.shape
  obtain ⟨Wa, hWa⟩ : ∃ Wa, Wa = W2.alloc (.cells #[.int .u8 9] 5) := ⟨_, rfl⟩
  obtain ⟨X0, hX0⟩ : ∃ X0, X0 = Wa.alloc (.cells #[.slice (some ⟨W2.heap.size, 0, none⟩) 1 1] 34) := ⟨_, rfl⟩
  have ba : Below W2.heap.size W2 Wa := by rw [hWa]; exact al_below _ _
  have bx : Below Wa.heap.size Wa X0 := by rw [hX0]; exact al_below _ _
  have FX0 : Hid (From W2 X0) := ba.trans (bx.mono ba.size)
  have pa : Pt Wa (.slice (some ⟨W2.heap.size, 0, none⟩) 1 1) [9] := by rw [hWa]; exact Pt.byte W2 9 (by omega)
  have hza : Wa.heap.size = W2.heap.size + 1 := by rw [hWa]; simp
  have LX0 : Hid (LQ X0 W2.heap.size (.slice (some ⟨W2.heap.size + 1, 0, none⟩) 1 1) [[9]]) := by unfold Hid; rw [hX0, ← hza]; exact LQ.one pa ba.size
  clear b1 g1 b2 g2 B2 ht hi ba bx pa FN hok hza
  have CI : Hid (∀ W, Calls Tryz.prog 28 #[.agg #[.int .i64 (pkN 9), .int .i64 (mT 9)], .int .i64 1] W fun e w' => e = .returned (.bool false) ∧ Below W.heap.size W w') := fun W => has_k 9 (by omega) (by omega) W 1 _ (by decide)
  have CN : Hid (∀ W, Calls Tryz.prog 28 #[.agg #[.int .i64 (pkN 9), .int .i64 (mT 9)], .int .i64 2] W fun e w' => e = .returned (.bool false) ∧ Below W.heap.size W w') := fun W => has_k 9 (by omega) (by omega) W 2 _ (by decide)
  have CF : Hid (∀ W, Calls Tryz.prog 28 #[.agg #[.int .i64 (pkN 9), .int .i64 (mT 9)], .int .i64 4] W fun e w' => e = .returned (.bool false) ∧ Below W.heap.size W w') := fun W => has_k 9 (by omega) (by omega) W 4 _ (by decide)
  have CC : Hid (∀ W, Calls Tryz.prog 28 #[.agg #[.int .i64 (pkN 9), .int .i64 (mT 9)], .int .i64 8] W fun e w' => e = .returned (.bool false) ∧ Below W.heap.size W w') := fun W => has_k 9 (by omega) (by omega) W 8 _ (by decide)
  have CO : Hid (∀ W, Calls Tryz.prog 28 #[.agg #[.int .i64 (pkN 9), .int .i64 (mT 9)], .int .i64 16] W fun e w' => e = .returned (.bool true) ∧ Below W.heap.size W w') := fun W => has_k 9 (by omega) (by omega) W 16 _ (by decide)
  have CT : Hid (∀ W, Calls Tryz.prog 28 #[.agg #[.int .i64 (pkN 9), .int .i64 (mT 9)], .int .i64 32] W fun e w' => e = .returned (.bool true) ∧ Below W.heap.size W w') := fun W => has_k 9 (by omega) (by omega) W 32 _ (by decide)
  have CS : Hid (∀ W, Calls Tryz.prog 28 #[.agg #[.int .i64 (pkN 9), .int .i64 (mT 9)], .int .i64 64] W fun e w' => e = .returned (.bool false) ∧ Below W.heap.size W w') := fun W => has_k 9 (by omega) (by omega) W 64 _ (by decide)
  generalize pkN 9 = pk at *
  generalize mT 9 = mt at *
  go_enter Tryz.func33, Tryz.ntmps33
  go_upto_region 1 with fail
  rw [← hW1]
  clear hW1
  go_upto_region 2 with fail
  rw [← hW2]
  clear hW2 t0 t1
  have hks := (FK.out W2 (Below.refl _ _)).c0
  rw [hk] at hks
  go_upto_region 3 with fail
  rw [← hWa, ← hX0]
  clear hWa hX0 hk hks
  have ch := CI.out X0
  obtain ⟨s0, s1⟩ := FS.out X0 FX0.out
  go_wp2_with fail
  refine ch.mono ?_
  rintro e Y1 ⟨rfl, bY1⟩
  have FY1 : Hid (From W2 Y1) := FX0.out.trans (Below.mono bY1 FX0.out.size)
  have LY1 : Hid (LQ Y1 W2.heap.size (.slice (some ⟨W2.heap.size + 1, 0, none⟩) 1 1) [[9]]) := LX0.out.below bY1
  clear ch bY1 s0 s1 FX0 LX0
  have ch := CN.out Y1
  obtain ⟨s0, s1⟩ := FS.out Y1 FY1.out
  go_wp2_with fail
  refine ch.mono ?_
  rintro e Y2 ⟨rfl, bY2⟩
  have FY2 : Hid (From W2 Y2) := FY1.out.trans (Below.mono bY2 FY1.out.size)
  have LY2 : Hid (LQ Y2 W2.heap.size (.slice (some ⟨W2.heap.size + 1, 0, none⟩) 1 1) [[9]]) := LY1.out.below bY2
  clear ch bY2 s0 s1 FY1 LY1
  have ch := CF.out Y2
  obtain ⟨s0, s1⟩ := FS.out Y2 FY2.out
  go_wp2_with fail
  refine ch.mono ?_
  rintro e Y3 ⟨rfl, bY3⟩
  have FY3 : Hid (From W2 Y3) := FY2.out.trans (Below.mono bY3 FY2.out.size)
  have LY3 : Hid (LQ Y3 W2.heap.size (.slice (some ⟨W2.heap.size + 1, 0, none⟩) 1 1) [[9]]) := LY2.out.below bY3
  clear ch bY3 s0 s1 FY2 LY2
  have ch := CC.out Y3
  obtain ⟨s0, s1⟩ := FS.out Y3 FY3.out
  go_wp2_with fail
  refine ch.mono ?_
  rintro e Y4 ⟨rfl, bY4⟩
  have FY4 : Hid (From W2 Y4) := FY3.out.trans (Below.mono bY4 FY3.out.size)
  have LY4 : Hid (LQ Y4 W2.heap.size (.slice (some ⟨W2.heap.size + 1, 0, none⟩) 1 1) [[9]]) := LY3.out.below bY4
  clear ch bY4 s0 s1 FY3 LY3
  have ch := CO.out Y4
  obtain ⟨s0, s1⟩ := FS.out Y4 FY4.out
  go_wp2_with fail
  refine ch.mono ?_
  rintro e Y5 ⟨rfl, bY5⟩
  have FY5 : Hid (From W2 Y5) := FY4.out.trans (Below.mono bY5 FY4.out.size)
  have LY5 : Hid (LQ Y5 W2.heap.size (.slice (some ⟨W2.heap.size + 1, 0, none⟩) 1 1) [[9]]) := LY4.out.below bY5
  clear ch bY5 s0 s1 FY4 LY4
  have PU : Hid (Pt Y5 (.slice (some ⟨w.heap.size, 6, none⟩) 16 16) p.nc) := Pt.nonce (FG.out Y5 FY5.out) HI.out.k.nl HI.out.k.nb
  obtain ⟨V6, hV6⟩ : ∃ V6, V6 = Y5.alloc (.cells #[.slice (some ⟨w.heap.size, 6, none⟩) 16 16] 34) := ⟨_, rfl⟩
  have bV6 : Below Y5.heap.size Y5 V6 := by rw [hV6]; exact al_below _ _
  have PV : Hid (Pt V6 (.slice (some ⟨w.heap.size, 6, none⟩) 16 16) (p.nc)) := PU.out.below bV6
  have CV : Hid (V6.cell? ⟨Y5.heap.size, 0, none⟩ = some (.slice (some ⟨w.heap.size, 6, none⟩) 16 16)) := by unfold Hid; rw [hV6, World.cell?_alloc_at _ _ _ _ rfl]; rfl
  have FV6 : Hid (From W2 V6) := FY5.out.trans (Below.mono bV6 FY5.out.size)
  have LV6 : Hid (LQ V6 W2.heap.size (.slice (some ⟨W2.heap.size + 1, 0, none⟩) 1 1) [[9]]) := LY5.out.below bV6
  have zV6 := FV6.out.size
  clear bV6 PU FY5 LY5
  go_wp2_with (at_builtin; rw [← hV6]; refine wpList_append_lq rfl _ _ rfl W2.heap.size _ [[9]] rfl LV6.out Y5.heap.size _ _ 1 PV.out rfl CV.out (by simp) zV6 (Hid.out ?_))
  unfold Hid
  intro v6 Y6 lY6 bY6
  try rw [← hV6] at bY6
  have FY6 : Hid (From W2 Y6) := FV6.out.trans bY6
  have LY6 : Hid (LQ Y6 W2.heap.size v6 [[9], p.nc]) := lY6
  clear bY6 lY6 zV6 FV6 LV6 PV CV hV6
  have ch := CT.out Y6
  obtain ⟨s0, s1⟩ := FS.out Y6 FY6.out
  go_wp2_with fail
  refine ch.mono ?_
  rintro e Y7 ⟨rfl, bY7⟩
  have FY7 : Hid (From W2 Y7) := FY6.out.trans (Below.mono bY7 FY6.out.size)
  have LY7 : Hid (LQ Y7 W2.heap.size v6 [[9], p.nc]) := LY6.out.below bY7
  clear ch bY7 s0 s1 FY6 LY6
  have q1 := (FK.out Y7 FY7.out).c5
  have cn := ftext_ow p.tx Y7 (FT.out Y7 FY7.out) HI.out.t
  go_wp2_with fail
  refine cn.mono ?_
  rintro e Y8 ⟨u, rfl, ou, bY8⟩
  have FY8 : Hid (From W2 Y8) := FY7.out.trans (Below.mono bY8 FY7.out.size)
  have LY8 : Hid (LQ Y8 W2.heap.size v6 [[9], p.nc]) := LY7.out.below bY8
  obtain ⟨ua, uc, rfl⟩ := ou.shape
  have PU : Hid (Pt Y8 (.slice ua (Fi.textB p.tx).length uc) (Fi.textB p.tx)) := Pt.ow ou
  clear cn ou q1 bY8 FY7 LY7
  obtain ⟨V9, hV9⟩ : ∃ V9, V9 = Y8.alloc (.cells #[.slice ua (Fi.textB p.tx).length uc] 34) := ⟨_, rfl⟩
  have bV9 : Below Y8.heap.size Y8 V9 := by rw [hV9]; exact al_below _ _
  have PV : Hid (Pt V9 (.slice ua (Fi.textB p.tx).length uc) (Fi.textB p.tx)) := PU.out.below bV9
  have CV : Hid (V9.cell? ⟨Y8.heap.size, 0, none⟩ = some (.slice ua (Fi.textB p.tx).length uc)) := by unfold Hid; rw [hV9, World.cell?_alloc_at _ _ _ _ rfl]; rfl
  have FV9 : Hid (From W2 V9) := FY8.out.trans (Below.mono bV9 FY8.out.size)
  have LV9 : Hid (LQ V9 W2.heap.size v6 [[9], p.nc]) := LY8.out.below bV9
  have zV9 := FV9.out.size
  clear bV9 PU FY8 LY8
  go_wp2_with (at_builtin; rw [← hV9]; refine wpList_append_lq rfl _ _ rfl W2.heap.size _ [[9], p.nc] rfl LV9.out Y8.heap.size _ _ 1 PV.out rfl CV.out (by simp) zV9 (Hid.out ?_))
  unfold Hid
  intro v9 Y9 lY9 bY9
  try rw [← hV9] at bY9
  have FY9 : Hid (From W2 Y9) := FV9.out.trans bY9
  have LY9 : Hid (LQ Y9 W2.heap.size v9 [[9], p.nc, Fi.textB p.tx]) := lY9
  clear bY9 lY9 zV9 FV9 LV9 PV CV hV9
  have ch := CS.out Y9
  obtain ⟨s0, s1⟩ := FS.out Y9 FY9.out
  go_wp2_with fail
  refine ch.mono ?_
  rintro e Y10 ⟨rfl, bY10⟩
  have FY10 : Hid (From W2 Y10) := FY9.out.trans (Below.mono bY10 FY9.out.size)
  have LY10 : Hid (LQ Y10 W2.heap.size v9 [[9], p.nc, Fi.textB p.tx]) := LY9.out.below bY10
  clear ch bY10 s0 s1 FY9 LY9
  obtain ⟨pp, pc, rfl, HP⟩ := LY10.out.parts (by simp)
  have cj := fjoin_any pp pc [[9], p.nc, Fi.textB p.tx] Y10 HP (by have := hlen_ok HOK.out HI.out.k.nl; rw [HPM.out] at this; exact this)
  have cjl : ([[9], p.nc, Fi.textB p.tx] : List (List Int)).length = 3 := rfl
  rw [cjl] at cj
  have HFM : Hid (putM p = ([[9], p.nc, Fi.textB p.tx] : List (List Int)).flatten) := HPM.out
  clear HP HPM cjl
  generalize ([[9], p.nc, Fi.textB p.tx] : List (List Int)).flatten = FM at *
  go_wp2_with fail
  refine cj.mono ?_
  rintro e w9 ⟨v9, rfl, o9, b9⟩
  have HB9 : Hid (Below w.heap.size w w9) := (FB.out Y10 FY10.out).trans (b9.mono (FB.out Y10 FY10.out).size)
  have HO9 : Hid (Ow w9 w.heap.size v9 FM) := o9.mono (Nat.le_trans HWN.out FY10.out.size)
  clear cj b9 o9
  go_wp2
  go_ret
  exact ⟨_, rfl, by rw [HFM.out]; exact HO9.out, HB9.out⟩
set_option maxHeartbeats 8000000 in
theorem lay10 (p : Fm) (sv : Value) (w : World) (ht : Tb w) (hi : FI w p sv) (hok : Ok p) (hk : p.k = 10) :
    Calls Tryz.prog 33 #[.agg (plA p sv)] w fun e w' => ∃ v, e = .returned v ∧ Ow w' w.heap.size v (putM p) ∧ Below w.heap.size w w' := by
  obtain ⟨W1, hW1⟩ : ∃ W1, W1 = w.alloc (.cells (plA p sv) 33) := ⟨_, rfl⟩
  have b1 : Below w.heap.size w W1 := by rw [hW1]; exact al_below _ _
  have g1 : PF W1 w.heap.size 33 p sv := by rw [hW1]; exact PF.new w _ p sv
  obtain ⟨W2, hW2⟩ : ∃ W2, W2 = W1.alloc (.cells #[.int .i64 (pkN 10), .int .i64 (mT 10)] 57) := ⟨_, rfl⟩
  have b2 : Below W1.heap.size W1 W2 := by rw [hW2]; exact al_below _ _
  have g2 : W2.heap[W1.heap.size]? = some (.cells #[.int .i64 (pkN 10), .int .i64 (mT 10)] 57 (0, 0)) := by rw [hW2]; exact heap_alloc_new _ _
  have B2 : Below w.heap.size w W2 := b1.trans (b2.mono b1.size)
  have FG : Hid (∀ x, From W2 x → PF x w.heap.size 33 p sv) := fun x hx => (g1.kept b2).kept hx
  have FK : Hid (∀ x, From W2 x → PC x w.heap.size p sv) := fun x hx => (FG.out x hx).pc hi.k.nl
  have FS : Hid (∀ x, From W2 x → x.cell? ⟨W1.heap.size, 0, none⟩ = some (.int .i64 (pkN 10)) ∧ x.cell? ⟨W1.heap.size, 1, none⟩ = some (.int .i64 (mT 10))) := fun x hx => by
    have := blk_kept g2 hx (blk_lt g2)
    exact ⟨by simp [World.cell?, this], by simp [World.cell?, this]⟩
  have FB : Hid (∀ x, From W2 x → Below w.heap.size w x) := fun x hx => B2.trans (Below.mono hx B2.size)
  have FT : Hid (∀ x, From W2 x → Fi.Wid x) := fun x hx => (ht.next (FB.out x hx)).v
  have FN : Hid (W2.heap.size = W2.heap.size) := rfl
  have HWN : Hid (w.heap.size ≤ W2.heap.size) := B2.size
  have HI : Hid (FI w p sv) := hi
  have HOK : Hid (Ok p) := hok
  obtain ⟨t0, t1⟩ := (ht.next b1).s 10 (by omega)
  have hks := (g1.pc hi.k.nl).c0
  rw [hk] at hks
  have HPM : Hid (putM p = ([10] :: [nB p.cd, Fi.textB p.tx]).flatten) := by
    unfold Hid
    exact putM_10 hk
  obtain ⟨sa, sc, rfl, -, -, -⟩ := hi.s.shape
  obtain ⟨Wa, hWa⟩ : ∃ Wa, Wa = W2.alloc (.cells #[.int .u8 10] 5) := ⟨_, rfl⟩
  obtain ⟨X0, hX0⟩ : ∃ X0, X0 = Wa.alloc (.cells #[.slice (some ⟨W2.heap.size, 0, none⟩) 1 1] 34) := ⟨_, rfl⟩
  have ba : Below W2.heap.size W2 Wa := by rw [hWa]; exact al_below _ _
  have bx : Below Wa.heap.size Wa X0 := by rw [hX0]; exact al_below _ _
  have FX0 : Hid (From W2 X0) := ba.trans (bx.mono ba.size)
  have pa : Pt Wa (.slice (some ⟨W2.heap.size, 0, none⟩) 1 1) [10] := by rw [hWa]; exact Pt.byte W2 10 (by omega)
  have hza : Wa.heap.size = W2.heap.size + 1 := by rw [hWa]; simp
  have LX0 : Hid (LQ X0 W2.heap.size (.slice (some ⟨W2.heap.size + 1, 0, none⟩) 1 1) [[10]]) := by unfold Hid; rw [hX0, ← hza]; exact LQ.one pa ba.size
  clear b1 g1 b2 g2 B2 ht hi ba bx pa FN hok hza
  have CI : Hid (∀ W, Calls Tryz.prog 28 #[.agg #[.int .i64 (pkN 10), .int .i64 (mT 10)], .int .i64 1] W fun e w' => e = .returned (.bool false) ∧ Below W.heap.size W w') := fun W => has_k 10 (by omega) (by omega) W 1 _ (by decide)
  have CN : Hid (∀ W, Calls Tryz.prog 28 #[.agg #[.int .i64 (pkN 10), .int .i64 (mT 10)], .int .i64 2] W fun e w' => e = .returned (.bool false) ∧ Below W.heap.size W w') := fun W => has_k 10 (by omega) (by omega) W 2 _ (by decide)
  have CF : Hid (∀ W, Calls Tryz.prog 28 #[.agg #[.int .i64 (pkN 10), .int .i64 (mT 10)], .int .i64 4] W fun e w' => e = .returned (.bool false) ∧ Below W.heap.size W w') := fun W => has_k 10 (by omega) (by omega) W 4 _ (by decide)
  have CC : Hid (∀ W, Calls Tryz.prog 28 #[.agg #[.int .i64 (pkN 10), .int .i64 (mT 10)], .int .i64 8] W fun e w' => e = .returned (.bool true) ∧ Below W.heap.size W w') := fun W => has_k 10 (by omega) (by omega) W 8 _ (by decide)
  have CO : Hid (∀ W, Calls Tryz.prog 28 #[.agg #[.int .i64 (pkN 10), .int .i64 (mT 10)], .int .i64 16] W fun e w' => e = .returned (.bool false) ∧ Below W.heap.size W w') := fun W => has_k 10 (by omega) (by omega) W 16 _ (by decide)
  have CT : Hid (∀ W, Calls Tryz.prog 28 #[.agg #[.int .i64 (pkN 10), .int .i64 (mT 10)], .int .i64 32] W fun e w' => e = .returned (.bool true) ∧ Below W.heap.size W w') := fun W => has_k 10 (by omega) (by omega) W 32 _ (by decide)
  have CS : Hid (∀ W, Calls Tryz.prog 28 #[.agg #[.int .i64 (pkN 10), .int .i64 (mT 10)], .int .i64 64] W fun e w' => e = .returned (.bool false) ∧ Below W.heap.size W w') := fun W => has_k 10 (by omega) (by omega) W 64 _ (by decide)
  generalize pkN 10 = pk at *
  generalize mT 10 = mt at *
  go_enter Tryz.func33, Tryz.ntmps33
  go_upto_region 1 with fail
  rw [← hW1]
  clear hW1
  go_upto_region 2 with fail
  rw [← hW2]
  clear hW2 t0 t1
  have hks := (FK.out W2 (Below.refl _ _)).c0
  rw [hk] at hks
  go_upto_region 3 with fail
  rw [← hWa, ← hX0]
  clear hWa hX0 hk hks
  have ch := CI.out X0
  obtain ⟨s0, s1⟩ := FS.out X0 FX0.out
  go_wp2_with fail
  refine ch.mono ?_
  rintro e Y1 ⟨rfl, bY1⟩
  have FY1 : Hid (From W2 Y1) := FX0.out.trans (Below.mono bY1 FX0.out.size)
  have LY1 : Hid (LQ Y1 W2.heap.size (.slice (some ⟨W2.heap.size + 1, 0, none⟩) 1 1) [[10]]) := LX0.out.below bY1
  clear ch bY1 s0 s1 FX0 LX0
  have ch := CN.out Y1
  obtain ⟨s0, s1⟩ := FS.out Y1 FY1.out
  go_wp2_with fail
  refine ch.mono ?_
  rintro e Y2 ⟨rfl, bY2⟩
  have FY2 : Hid (From W2 Y2) := FY1.out.trans (Below.mono bY2 FY1.out.size)
  have LY2 : Hid (LQ Y2 W2.heap.size (.slice (some ⟨W2.heap.size + 1, 0, none⟩) 1 1) [[10]]) := LY1.out.below bY2
  clear ch bY2 s0 s1 FY1 LY1
  have ch := CF.out Y2
  obtain ⟨s0, s1⟩ := FS.out Y2 FY2.out
  go_wp2_with fail
  refine ch.mono ?_
  rintro e Y3 ⟨rfl, bY3⟩
  have FY3 : Hid (From W2 Y3) := FY2.out.trans (Below.mono bY3 FY2.out.size)
  have LY3 : Hid (LQ Y3 W2.heap.size (.slice (some ⟨W2.heap.size + 1, 0, none⟩) 1 1) [[10]]) := LY2.out.below bY3
  clear ch bY3 s0 s1 FY2 LY2
  have ch := CC.out Y3
  obtain ⟨s0, s1⟩ := FS.out Y3 FY3.out
  go_wp2_with fail
  refine ch.mono ?_
  rintro e Y4 ⟨rfl, bY4⟩
  have FY4 : Hid (From W2 Y4) := FY3.out.trans (Below.mono bY4 FY3.out.size)
  have LY4 : Hid (LQ Y4 W2.heap.size (.slice (some ⟨W2.heap.size + 1, 0, none⟩) 1 1) [[10]]) := LY3.out.below bY4
  clear ch bY4 s0 s1 FY3 LY3
  have q1 := (FK.out Y4 FY4.out).c3
  have cn := fnum_own p.cd Y4 (FT.out Y4 FY4.out)
  go_wp2_with fail
  refine cn.mono ?_
  rintro e Y5 ⟨u, rfl, ou, bY5⟩
  have FY5 : Hid (From W2 Y5) := FY4.out.trans (Below.mono bY5 FY4.out.size)
  have LY5 : Hid (LQ Y5 W2.heap.size (.slice (some ⟨W2.heap.size + 1, 0, none⟩) 1 1) [[10]]) := LY4.out.below bY5
  obtain ⟨ua, uc, rfl⟩ := ou.shape
  have PU : Hid (Pt Y5 (.slice ua (nB p.cd).length uc) (nB p.cd)) := Pt.ow ou
  clear cn ou q1 bY5 FY4 LY4
  obtain ⟨V6, hV6⟩ : ∃ V6, V6 = Y5.alloc (.cells #[.slice ua (nB p.cd).length uc] 34) := ⟨_, rfl⟩
  have bV6 : Below Y5.heap.size Y5 V6 := by rw [hV6]; exact al_below _ _
  have PV : Hid (Pt V6 (.slice ua (nB p.cd).length uc) (nB p.cd)) := PU.out.below bV6
  have CV : Hid (V6.cell? ⟨Y5.heap.size, 0, none⟩ = some (.slice ua (nB p.cd).length uc)) := by unfold Hid; rw [hV6, World.cell?_alloc_at _ _ _ _ rfl]; rfl
  have FV6 : Hid (From W2 V6) := FY5.out.trans (Below.mono bV6 FY5.out.size)
  have LV6 : Hid (LQ V6 W2.heap.size (.slice (some ⟨W2.heap.size + 1, 0, none⟩) 1 1) [[10]]) := LY5.out.below bV6
  have zV6 := FV6.out.size
  clear bV6 PU FY5 LY5
  go_wp2_with (at_builtin; rw [← hV6]; refine wpList_append_lq rfl _ _ rfl W2.heap.size _ [[10]] rfl LV6.out Y5.heap.size _ _ 1 PV.out rfl CV.out (by simp) zV6 (Hid.out ?_))
  unfold Hid
  intro v6 Y6 lY6 bY6
  try rw [← hV6] at bY6
  have FY6 : Hid (From W2 Y6) := FV6.out.trans bY6
  have LY6 : Hid (LQ Y6 W2.heap.size v6 [[10], nB p.cd]) := lY6
  clear bY6 lY6 zV6 FV6 LV6 PV CV hV6
  have ch := CO.out Y6
  obtain ⟨s0, s1⟩ := FS.out Y6 FY6.out
  go_wp2_with fail
  refine ch.mono ?_
  rintro e Y7 ⟨rfl, bY7⟩
  have FY7 : Hid (From W2 Y7) := FY6.out.trans (Below.mono bY7 FY6.out.size)
  have LY7 : Hid (LQ Y7 W2.heap.size v6 [[10], nB p.cd]) := LY6.out.below bY7
  clear ch bY7 s0 s1 FY6 LY6
  have ch := CT.out Y7
  obtain ⟨s0, s1⟩ := FS.out Y7 FY7.out
  go_wp2_with fail
  refine ch.mono ?_
  rintro e Y8 ⟨rfl, bY8⟩
  have FY8 : Hid (From W2 Y8) := FY7.out.trans (Below.mono bY8 FY7.out.size)
  have LY8 : Hid (LQ Y8 W2.heap.size v6 [[10], nB p.cd]) := LY7.out.below bY8
  clear ch bY8 s0 s1 FY7 LY7
  have q1 := (FK.out Y8 FY8.out).c5
  have cn := ftext_ow p.tx Y8 (FT.out Y8 FY8.out) HI.out.t
  go_wp2_with fail
  refine cn.mono ?_
  rintro e Y9 ⟨u, rfl, ou, bY9⟩
  have FY9 : Hid (From W2 Y9) := FY8.out.trans (Below.mono bY9 FY8.out.size)
  have LY9 : Hid (LQ Y9 W2.heap.size v6 [[10], nB p.cd]) := LY8.out.below bY9
  obtain ⟨ua, uc, rfl⟩ := ou.shape
  have PU : Hid (Pt Y9 (.slice ua (Fi.textB p.tx).length uc) (Fi.textB p.tx)) := Pt.ow ou
  clear cn ou q1 bY9 FY8 LY8
  obtain ⟨V10, hV10⟩ : ∃ V10, V10 = Y9.alloc (.cells #[.slice ua (Fi.textB p.tx).length uc] 34) := ⟨_, rfl⟩
  have bV10 : Below Y9.heap.size Y9 V10 := by rw [hV10]; exact al_below _ _
  have PV : Hid (Pt V10 (.slice ua (Fi.textB p.tx).length uc) (Fi.textB p.tx)) := PU.out.below bV10
  have CV : Hid (V10.cell? ⟨Y9.heap.size, 0, none⟩ = some (.slice ua (Fi.textB p.tx).length uc)) := by unfold Hid; rw [hV10, World.cell?_alloc_at _ _ _ _ rfl]; rfl
  have FV10 : Hid (From W2 V10) := FY9.out.trans (Below.mono bV10 FY9.out.size)
  have LV10 : Hid (LQ V10 W2.heap.size v6 [[10], nB p.cd]) := LY9.out.below bV10
  have zV10 := FV10.out.size
  clear bV10 PU FY9 LY9
  go_wp2_with (at_builtin; rw [← hV10]; refine wpList_append_lq rfl _ _ rfl W2.heap.size _ [[10], nB p.cd] rfl LV10.out Y9.heap.size _ _ 1 PV.out rfl CV.out (by simp) zV10 (Hid.out ?_))
  unfold Hid
  intro v10 Y10 lY10 bY10
  try rw [← hV10] at bY10
  have FY10 : Hid (From W2 Y10) := FV10.out.trans bY10
  have LY10 : Hid (LQ Y10 W2.heap.size v10 [[10], nB p.cd, Fi.textB p.tx]) := lY10
  clear bY10 lY10 zV10 FV10 LV10 PV CV hV10
  have ch := CS.out Y10
  obtain ⟨s0, s1⟩ := FS.out Y10 FY10.out
  go_wp2_with fail
  refine ch.mono ?_
  rintro e Y11 ⟨rfl, bY11⟩
  have FY11 : Hid (From W2 Y11) := FY10.out.trans (Below.mono bY11 FY10.out.size)
  have LY11 : Hid (LQ Y11 W2.heap.size v10 [[10], nB p.cd, Fi.textB p.tx]) := LY10.out.below bY11
  clear ch bY11 s0 s1 FY10 LY10
  obtain ⟨pp, pc, rfl, HP⟩ := LY11.out.parts (by simp)
  have cj := fjoin_any pp pc [[10], nB p.cd, Fi.textB p.tx] Y11 HP (by have := hlen_ok HOK.out HI.out.k.nl; rw [HPM.out] at this; exact this)
  have cjl : ([[10], nB p.cd, Fi.textB p.tx] : List (List Int)).length = 3 := rfl
  rw [cjl] at cj
  have HFM : Hid (putM p = ([[10], nB p.cd, Fi.textB p.tx] : List (List Int)).flatten) := HPM.out
  clear HP HPM cjl
  generalize ([[10], nB p.cd, Fi.textB p.tx] : List (List Int)).flatten = FM at *
  go_wp2_with fail
  refine cj.mono ?_
  rintro e w9 ⟨v9, rfl, o9, b9⟩
  have HB9 : Hid (Below w.heap.size w w9) := (FB.out Y11 FY11.out).trans (b9.mono (FB.out Y11 FY11.out).size)
  have HO9 : Hid (Ow w9 w.heap.size v9 FM) := o9.mono (Nat.le_trans HWN.out FY11.out.size)
  clear cj b9 o9
  go_wp2
  go_ret
  exact ⟨_, rfl, by rw [HFM.out]; exact HO9.out, HB9.out⟩
end Go.Proofs.YtmplpdjkhdaniaaGreatDoor
