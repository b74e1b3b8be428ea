/-
  What lay lays.
  What lay lays.
-/
import Derived.Test.YtmplpdjkhdaniaaGreatDoorWaz
namespace Go.Proofs.YtmplpdjkhdaniaaGreatDoor
open Go.RowKit Go.Shelf
set_option maxRecDepth 100000

theorem hlen_ok {p : Fm} (h : Ok p) (hn : p.nc.length = 16) : (putM p).length ≤ 200000000000000 := by
  have := hdB_len h hn
  rw [putM_eq, List.length_cons, List.length_append]
  omega
theorem key1 (A1 A2 : List Int) (A3 : Int) (A4 A5 A6 A7 : List Int) : (1 : Int) :: (((if false = true then A1 else []) ++ ((if false = true then A2 else []) ++ ((if false = true then [A3] else []) ++ ((if false = true then A4 else []) ++ ((if false = true then A5 else []) ++ (if false = true then A6 else [])))))) ++ (if false = true then A7 else [])) = ([(1 : Int)] :: []).flatten := by simp
theorem putM_1' {p : Fm} (hk : p.k = 1) (e1 : hI 1 = false) (e2 : hN 1 = false) (e3 : hF 1 = false) (e4 : hC 1 = false) (e5 : hO 1 = false) (e6 : hT 1 = false) (e7 : hS 1 = false) : putM p = ([1] :: []).flatten := by
  rw [putM_eq, hk]
  unfold hdB
  rw [hk, e1, e2, e3, e4, e5, e6, e7]
  exact key1 _ _ _ _ _ _ _
theorem putM_1 {p : Fm} (hk : p.k = 1) : putM p = ([1] :: []).flatten := putM_1' hk (by decide) (by decide) (by decide) (by decide) (by decide) (by decide) (by decide)
theorem key2 (A1 A2 : List Int) (A3 : Int) (A4 A5 A6 A7 : List Int) : (2 : Int) :: (((if false = true then A1 else []) ++ ((if true = true then A2 else []) ++ ((if false = true then [A3] else []) ++ ((if false = true then A4 else []) ++ ((if false = true then A5 else []) ++ (if false = true then A6 else [])))))) ++ (if true = true then A7 else [])) = ([(2 : Int)] :: [A2, A7]).flatten := by simp
theorem putM_2' {p : Fm} (hk : p.k = 2) (e1 : hI 2 = false) (e2 : hN 2 = true) (e3 : hF 2 = false) (e4 : hC 2 = false) (e5 : hO 2 = false) (e6 : hT 2 = false) (e7 : hS 2 = true) : putM p = ([2] :: [nB p.n, putB p.sp]).flatten := by
  rw [putM_eq, hk]
  unfold hdB
  rw [hk, e1, e2, e3, e4, e5, e6, e7]
  exact key2 _ _ _ _ _ _ _
theorem putM_2 {p : Fm} (hk : p.k = 2) : putM p = ([2] :: [nB p.n, putB p.sp]).flatten := putM_2' hk (by decide) (by decide) (by decide) (by decide) (by decide) (by decide) (by decide)
theorem key3 (A1 A2 : List Int) (A3 : Int) (A4 A5 A6 A7 : List Int) : (3 : Int) :: (((if true = true then A1 else []) ++ ((if true = true then A2 else []) ++ ((if true = true then [A3] else []) ++ ((if false = true then A4 else []) ++ ((if false = true then A5 else []) ++ (if true = true then A6 else [])))))) ++ (if false = true then A7 else [])) = ([(3 : Int)] :: [A1, A2, [A3], A6]).flatten := by simp
theorem putM_3' {p : Fm} (hk : p.k = 3) (e1 : hI 3 = true) (e2 : hN 3 = true) (e3 : hF 3 = true) (e4 : hC 3 = false) (e5 : hO 3 = false) (e6 : hT 3 = true) (e7 : hS 3 = false) : putM p = ([3] :: [nB p.id, nB p.n, [finB p.fin], Fi.textB p.tx]).flatten := by
  rw [putM_eq, hk]
  unfold hdB
  rw [hk, e1, e2, e3, e4, e5, e6, e7]
  exact key3 _ _ _ _ _ _ _
theorem putM_3 {p : Fm} (hk : p.k = 3) : putM p = ([3] :: [nB p.id, nB p.n, [finB p.fin], Fi.textB p.tx]).flatten := putM_3' hk (by decide) (by decide) (by decide) (by decide) (by decide) (by decide) (by decide)
theorem key4 (A1 A2 : List Int) (A3 : Int) (A4 A5 A6 A7 : List Int) : (4 : Int) :: (((if true = true then A1 else []) ++ ((if true = true then A2 else []) ++ ((if false = true then [A3] else []) ++ ((if true = true then A4 else []) ++ ((if false = true then A5 else []) ++ (if false = true then A6 else [])))))) ++ (if false = true then A7 else [])) = ([(4 : Int)] :: [A1, A2, A4]).flatten := by simp
theorem putM_4' {p : Fm} (hk : p.k = 4) (e1 : hI 4 = true) (e2 : hN 4 = true) (e3 : hF 4 = false) (e4 : hC 4 = true) (e5 : hO 4 = false) (e6 : hT 4 = false) (e7 : hS 4 = false) : putM p = ([4] :: [nB p.id, nB p.n, nB p.cd]).flatten := by
  rw [putM_eq, hk]
  unfold hdB
  rw [hk, e1, e2, e3, e4, e5, e6, e7]
  exact key4 _ _ _ _ _ _ _
theorem putM_4 {p : Fm} (hk : p.k = 4) : putM p = ([4] :: [nB p.id, nB p.n, nB p.cd]).flatten := putM_4' hk (by decide) (by decide) (by decide) (by decide) (by decide) (by decide) (by decide)
theorem key5 (A1 A2 : List Int) (A3 : Int) (A4 A5 A6 A7 : List Int) : (5 : Int) :: (((if true = true then A1 else []) ++ ((if false = true then A2 else []) ++ ((if false = true then [A3] else []) ++ ((if true = true then A4 else []) ++ ((if false = true then A5 else []) ++ (if false = true then A6 else [])))))) ++ (if false = true then A7 else [])) = ([(5 : Int)] :: [A1, A4]).flatten := by simp
theorem putM_5' {p : Fm} (hk : p.k = 5) (e1 : hI 5 = true) (e2 : hN 5 = false) (e3 : hF 5 = false) (e4 : hC 5 = true) (e5 : hO 5 = false) (e6 : hT 5 = false) (e7 : hS 5 = false) : putM p = ([5] :: [nB p.id, nB p.cd]).flatten := by
  rw [putM_eq, hk]
  unfold hdB
  rw [hk, e1, e2, e3, e4, e5, e6, e7]
  exact key5 _ _ _ _ _ _ _
theorem putM_5 {p : Fm} (hk : p.k = 5) : putM p = ([5] :: [nB p.id, nB p.cd]).flatten := putM_5' hk (by decide) (by decide) (by decide) (by decide) (by decide) (by decide) (by decide)
theorem key6 (A1 A2 : List Int) (A3 : Int) (A4 A5 A6 A7 : List Int) : (6 : Int) :: (((if false = true then A1 else []) ++ ((if true = true then A2 else []) ++ ((if false = true then [A3] else []) ++ ((if false = true then A4 else []) ++ ((if false = true then A5 else []) ++ (if false = true then A6 else [])))))) ++ (if false = true then A7 else [])) = ([(6 : Int)] :: [A2]).flatten := by simp
theorem putM_6' {p : Fm} (hk : p.k = 6) (e1 : hI 6 = false) (e2 : hN 6 = true) (e3 : hF 6 = false) (e4 : hC 6 = false) (e5 : hO 6 = false) (e6 : hT 6 = false) (e7 : hS 6 = false) : putM p = ([6] :: [nB p.n]).flatten := by
  rw [putM_eq, hk]
  unfold hdB
  rw [hk, e1, e2, e3, e4, e5, e6, e7]
  exact key6 _ _ _ _ _ _ _
theorem putM_6 {p : Fm} (hk : p.k = 6) : putM p = ([6] :: [nB p.n]).flatten := putM_6' hk (by decide) (by decide) (by decide) (by decide) (by decide) (by decide) (by decide)
theorem key7 (A1 A2 : List Int) (A3 : Int) (A4 A5 A6 A7 : List Int) : (7 : Int) :: (((if true = true then A1 else []) ++ ((if true = true then A2 else []) ++ ((if false = true then [A3] else []) ++ ((if false = true then A4 else []) ++ ((if false = true then A5 else []) ++ (if false = true then A6 else [])))))) ++ (if false = true then A7 else [])) = ([(7 : Int)] :: [A1, A2]).flatten := by simp
theorem putM_7' {p : Fm} (hk : p.k = 7) (e1 : hI 7 = true) (e2 : hN 7 = true) (e3 : hF 7 = false) (e4 : hC 7 = false) (e5 : hO 7 = false) (e6 : hT 7 = false) (e7 : hS 7 = false) : putM p = ([7] :: [nB p.id, nB p.n]).flatten := by
  rw [putM_eq, hk]
  unfold hdB
  rw [hk, e1, e2, e3, e4, e5, e6, e7]
  exact key7 _ _ _ _ _ _ _
theorem putM_7 {p : Fm} (hk : p.k = 7) : putM p = ([7] :: [nB p.id, nB p.n]).flatten := putM_7' hk (by decide) (by decide) (by decide) (by decide) (by decide) (by decide) (by decide)
theorem key8 (A1 A2 : List Int) (A3 : Int) (A4 A5 A6 A7 : List Int) : (8 : Int) :: (((if false = true then A1 else []) ++ ((if true = true then A2 else []) ++ ((if false = true then [A3] else []) ++ ((if false = true then A4 else []) ++ ((if false = true then A5 else []) ++ (if false = true then A6 else [])))))) ++ (if false = true then A7 else [])) = ([(8 : Int)] :: [A2]).flatten := by simp
theorem putM_8' {p : Fm} (hk : p.k = 8) (e1 : hI 8 = false) (e2 : hN 8 = true) (e3 : hF 8 = false) (e4 : hC 8 = false) (e5 : hO 8 = false) (e6 : hT 8 = false) (e7 : hS 8 = false) : putM p = ([8] :: [nB p.n]).flatten := by
  rw [putM_eq, hk]
  unfold hdB
  rw [hk, e1, e2, e3, e4, e5, e6, e7]
  exact key8 _ _ _ _ _ _ _
theorem putM_8 {p : Fm} (hk : p.k = 8) : putM p = ([8] :: [nB p.n]).flatten := putM_8' hk (by decide) (by decide) (by decide) (by decide) (by decide) (by decide) (by decide)
theorem key9 (A1 A2 : List Int) (A3 : Int) (A4 A5 A6 A7 : List Int) : (9 : Int) :: (((if false = true then A1 else []) ++ ((if false = true then A2 else []) ++ ((if false = true then [A3] else []) ++ ((if false = true then A4 else []) ++ ((if true = true then A5 else []) ++ (if true = true then A6 else [])))))) ++ (if false = true then A7 else [])) = ([(9 : Int)] :: [A5, A6]).flatten := by simp
theorem putM_9' {p : Fm} (hk : p.k = 9) (e1 : hI 9 = false) (e2 : hN 9 = false) (e3 : hF 9 = false) (e4 : hC 9 = false) (e5 : hO 9 = true) (e6 : hT 9 = true) (e7 : hS 9 = false) : putM p = ([9] :: [p.nc, Fi.textB p.tx]).flatten := by
  rw [putM_eq, hk]
  unfold hdB
  rw [hk, e1, e2, e3, e4, e5, e6, e7]
  exact key9 _ _ _ _ _ _ _
theorem putM_9 {p : Fm} (hk : p.k = 9) : putM p = ([9] :: [p.nc, Fi.textB p.tx]).flatten := putM_9' hk (by decide) (by decide) (by decide) (by decide) (by decide) (by decide) (by decide)
theorem key10 (A1 A2 : List Int) (A3 : Int) (A4 A5 A6 A7 : List Int) : (10 : Int) :: (((if false = true then A1 else []) ++ ((if false = true then A2 else []) ++ ((if false = true then [A3] else []) ++ ((if true = true then A4 else []) ++ ((if false = true then A5 else []) ++ (if true = true then A6 else [])))))) ++ (if false = true then A7 else [])) = ([(10 : Int)] :: [A4, A6]).flatten := by simp
theorem putM_10' {p : Fm} (hk : p.k = 10) (e1 : hI 10 = false) (e2 : hN 10 = false) (e3 : hF 10 = false) (e4 : hC 10 = true) (e5 : hO 10 = false) (e6 : hT 10 = true) (e7 : hS 10 = false) : putM p = ([10] :: [nB p.cd, Fi.textB p.tx]).flatten := by
  rw [putM_eq, hk]
  unfold hdB
  rw [hk, e1, e2, e3, e4, e5, e6, e7]
  exact key10 _ _ _ _ _ _ _
theorem putM_10 {p : Fm} (hk : p.k = 10) : putM p = ([10] :: [nB p.cd, Fi.textB p.tx]).flatten := putM_10' hk (by decide) (by decide) (by decide) (by decide) (by decide) (by decide) (by decide)
end Go.Proofs.YtmplpdjkhdaniaaGreatDoor
namespace Go.Proofs.YtmplpdjkhdaniaaGreatDoor
open Go.RowKit Go.Shelf
set_option maxRecDepth 100000

set_option maxHeartbeats 8000000 in
theorem lay1 (p : Fm) (sv : Value) (w : World) (ht : Tb w) (hi : FI w p sv) (hok : Ok p) (hk : p.k = 1) :
    Calls Tryz.prog 33 #[.agg (plA p sv)] w fun e w' => ∃ v, e = .returned v ∧ Ow w' w.heap.size v (putM p) ∧ Below w.heap.size w w' := by
  obtain ⟨W1, hW1⟩ : ∃ W1, W1 = w.alloc (.cells (plA p sv) 33) := ⟨_, rfl⟩
  have b1 : Below w.heap.size w W1 := by rw [hW1]; exact al_below _ _
  have g1 : PF W1 w.heap.size 33 p sv := by rw [hW1]; exact PF.new w _ p sv
  obtain ⟨W2, hW2⟩ : ∃ W2, W2 = W1.alloc (.cells #[.int .i64 (pkN 1), .int .i64 (mT 1)] 57) := ⟨_, rfl⟩
  have b2 : Below W1.heap.size W1 W2 := by rw [hW2]; exact al_below _ _
  have g2 : W2.heap[W1.heap.size]? = some (.cells #[.int .i64 (pkN 1), .int .i64 (mT 1)] 57 (0, 0)) := by rw [hW2]; exact heap_alloc_new _ _
  have B2 : Below w.heap.size w W2 := b1.trans (b2.mono b1.size)
  have FG : Hid (∀ x, From W2 x → PF x w.heap.size 33 p sv) := fun x hx => (g1.kept b2).kept hx
  have FK : Hid (∀ x, From W2 x → PC x w.heap.size p sv) := fun x hx => (FG.out x hx).pc hi.k.nl
  have FS : Hid (∀ x, From W2 x → x.cell? ⟨W1.heap.size, 0, none⟩ = some (.int .i64 (pkN 1)) ∧ x.cell? ⟨W1.heap.size, 1, none⟩ = some (.int .i64 (mT 1))) := fun x hx => by
    have := blk_kept g2 hx (blk_lt g2)
    exact ⟨by simp [World.cell?, this], by simp [World.cell?, this]⟩
  have FB : Hid (∀ x, From W2 x → Below w.heap.size w x) := fun x hx => B2.trans (Below.mono hx B2.size)
  have FT : Hid (∀ x, From W2 x → Fi.Wid x) := fun x hx => (ht.next (FB.out x hx)).v
  have FN : Hid (W2.heap.size = W2.heap.size) := rfl
  have HWN : Hid (w.heap.size ≤ W2.heap.size) := B2.size
  have HI : Hid (FI w p sv) := hi
  have HOK : Hid (Ok p) := hok
  obtain ⟨t0, t1⟩ := (ht.next b1).s 1 (by omega)
  have hks := (g1.pc hi.k.nl).c0
  rw [hk] at hks
  have HPM : Hid (putM p = ([1] :: []).flatten) := by
    unfold Hid
    exact putM_1 hk
  obtain ⟨sa, sc, rfl, -, -, -⟩ := hi.s.shape
  obtain ⟨Wa, hWa⟩ : ∃ Wa, Wa = W2.alloc (.cells #[.int .u8 1] 5) := ⟨_, rfl⟩
  obtain ⟨X0, hX0⟩ : ∃ X0, X0 = Wa.alloc (.cells #[.slice (some ⟨W2.heap.size, 0, none⟩) 1 1] 34) := ⟨_, rfl⟩
  have ba : Below W2.heap.size W2 Wa := by rw [hWa]; exact al_below _ _
  have bx : Below Wa.heap.size Wa X0 := by rw [hX0]; exact al_below _ _
  have FX0 : Hid (From W2 X0) := ba.trans (bx.mono ba.size)
  have pa : Pt Wa (.slice (some ⟨W2.heap.size, 0, none⟩) 1 1) [1] := by rw [hWa]; exact Pt.byte W2 1 (by omega)
  have hza : Wa.heap.size = W2.heap.size + 1 := by rw [hWa]; simp
  have LX0 : Hid (LQ X0 W2.heap.size (.slice (some ⟨W2.heap.size + 1, 0, none⟩) 1 1) [[1]]) := by unfold Hid; rw [hX0, ← hza]; exact LQ.one pa ba.size
  clear b1 g1 b2 g2 B2 ht hi ba bx pa FN hok hza
  have CI : Hid (∀ W, Calls Tryz.prog 28 #[.agg #[.int .i64 (pkN 1), .int .i64 (mT 1)], .int .i64 1] W fun e w' => e = .returned (.bool false) ∧ Below W.heap.size W w') := fun W => has_k 1 (by omega) (by omega) W 1 _ (by decide)
  have CN : Hid (∀ W, Calls Tryz.prog 28 #[.agg #[.int .i64 (pkN 1), .int .i64 (mT 1)], .int .i64 2] W fun e w' => e = .returned (.bool false) ∧ Below W.heap.size W w') := fun W => has_k 1 (by omega) (by omega) W 2 _ (by decide)
  have CF : Hid (∀ W, Calls Tryz.prog 28 #[.agg #[.int .i64 (pkN 1), .int .i64 (mT 1)], .int .i64 4] W fun e w' => e = .returned (.bool false) ∧ Below W.heap.size W w') := fun W => has_k 1 (by omega) (by omega) W 4 _ (by decide)
  have CC : Hid (∀ W, Calls Tryz.prog 28 #[.agg #[.int .i64 (pkN 1), .int .i64 (mT 1)], .int .i64 8] W fun e w' => e = .returned (.bool false) ∧ Below W.heap.size W w') := fun W => has_k 1 (by omega) (by omega) W 8 _ (by decide)
  have CO : Hid (∀ W, Calls Tryz.prog 28 #[.agg #[.int .i64 (pkN 1), .int .i64 (mT 1)], .int .i64 16] W fun e w' => e = .returned (.bool false) ∧ Below W.heap.size W w') := fun W => has_k 1 (by omega) (by omega) W 16 _ (by decide)
  have CT : Hid (∀ W, Calls Tryz.prog 28 #[.agg #[.int .i64 (pkN 1), .int .i64 (mT 1)], .int .i64 32] W fun e w' => e = .returned (.bool false) ∧ Below W.heap.size W w') := fun W => has_k 1 (by omega) (by omega) W 32 _ (by decide)
  have CS : Hid (∀ W, Calls Tryz.prog 28 #[.agg #[.int .i64 (pkN 1), .int .i64 (mT 1)], .int .i64 64] W fun e w' => e = .returned (.bool false) ∧ Below W.heap.size W w') := fun W => has_k 1 (by omega) (by omega) W 64 _ (by decide)
  generalize pkN 1 = pk at *
  generalize mT 1 = mt at *
  go_enter Tryz.func33, Tryz.ntmps33
  go_upto_region 1 with fail
  rw [← hW1]
  clear hW1
  go_upto_region 2 with fail
  rw [← hW2]
  clear hW2 t0 t1
  have hks := (FK.out W2 (Below.refl _ _)).c0
  rw [hk] at hks
  go_upto_region 3 with fail
  rw [← hWa, ← hX0]
  clear hWa hX0 hk hks
  have ch := CI.out X0
  obtain ⟨s0, s1⟩ := FS.out X0 FX0.out
  go_wp2_with fail
  refine ch.mono ?_
  rintro e Y1 ⟨rfl, bY1⟩
  have FY1 : Hid (From W2 Y1) := FX0.out.trans (Below.mono bY1 FX0.out.size)
  have LY1 : Hid (LQ Y1 W2.heap.size (.slice (some ⟨W2.heap.size + 1, 0, none⟩) 1 1) [[1]]) := LX0.out.below bY1
  clear ch bY1 s0 s1 FX0 LX0
  have ch := CN.out Y1
  obtain ⟨s0, s1⟩ := FS.out Y1 FY1.out
  go_wp2_with fail
  refine ch.mono ?_
  rintro e Y2 ⟨rfl, bY2⟩
  have FY2 : Hid (From W2 Y2) := FY1.out.trans (Below.mono bY2 FY1.out.size)
  have LY2 : Hid (LQ Y2 W2.heap.size (.slice (some ⟨W2.heap.size + 1, 0, none⟩) 1 1) [[1]]) := LY1.out.below bY2
  clear ch bY2 s0 s1 FY1 LY1
  have ch := CF.out Y2
  obtain ⟨s0, s1⟩ := FS.out Y2 FY2.out
  go_wp2_with fail
  refine ch.mono ?_
  rintro e Y3 ⟨rfl, bY3⟩
  have FY3 : Hid (From W2 Y3) := FY2.out.trans (Below.mono bY3 FY2.out.size)
  have LY3 : Hid (LQ Y3 W2.heap.size (.slice (some ⟨W2.heap.size + 1, 0, none⟩) 1 1) [[1]]) := LY2.out.below bY3
  clear ch bY3 s0 s1 FY2 LY2
  have ch := CC.out Y3
  obtain ⟨s0, s1⟩ := FS.out Y3 FY3.out
  go_wp2_with fail
  refine ch.mono ?_
  rintro e Y4 ⟨rfl, bY4⟩
  have FY4 : Hid (From W2 Y4) := FY3.out.trans (Below.mono bY4 FY3.out.size)
  have LY4 : Hid (LQ Y4 W2.heap.size (.slice (some ⟨W2.heap.size + 1, 0, none⟩) 1 1) [[1]]) := LY3.out.below bY4
  clear ch bY4 s0 s1 FY3 LY3
  have ch := CO.out Y4
  obtain ⟨s0, s1⟩ := FS.out Y4 FY4.out
  go_wp2_with fail
  refine ch.mono ?_
  rintro e Y5 ⟨rfl, bY5⟩
  have FY5 : Hid (From W2 Y5) := FY4.out.trans (Below.mono bY5 FY4.out.size)
  have LY5 : Hid (LQ Y5 W2.heap.size (.slice (some ⟨W2.heap.size + 1, 0, none⟩) 1 1) [[1]]) := LY4.out.below bY5
  clear ch bY5 s0 s1 FY4 LY4
  have ch := CT.out Y5
  obtain ⟨s0, s1⟩ := FS.out Y5 FY5.out
  go_wp2_with fail
  refine ch.mono ?_
  rintro e Y6 ⟨rfl, bY6⟩
  have FY6 : Hid (From W2 Y6) := FY5.out.trans (Below.mono bY6 FY5.out.size)
  have LY6 : Hid (LQ Y6 W2.heap.size (.slice (some ⟨W2.heap.size + 1, 0, none⟩) 1 1) [[1]]) := LY5.out.below bY6
  clear ch bY6 s0 s1 FY5 LY5
  have ch := CS.out Y6
  obtain ⟨s0, s1⟩ := FS.out Y6 FY6.out
  go_wp2_with fail
  refine ch.mono ?_
  rintro e Y7 ⟨rfl, bY7⟩
  have FY7 : Hid (From W2 Y7) := FY6.out.trans (Below.mono bY7 FY6.out.size)
  have LY7 : Hid (LQ Y7 W2.heap.size (.slice (some ⟨W2.heap.size + 1, 0, none⟩) 1 1) [[1]]) := LY6.out.below bY7
  clear ch bY7 s0 s1 FY6 LY6
  obtain ⟨pp, pc, epp, HP⟩ := LY7.out.parts (by simp)
  injection epp with e1 e2 e3
  subst e1
  subst e3
  clear e2
  have cj := fjoin_any (some ⟨W2.heap.size + 1, 0, none⟩) 1 [[1]] Y7 HP (by have := hlen_ok HOK.out HI.out.k.nl; rw [HPM.out] at this; exact this)
  have cjl : ([[1]] : List (List Int)).length = 1 := rfl
  rw [cjl] at cj
  have HFM : Hid (putM p = ([[1]] : List (List Int)).flatten) := HPM.out
  clear HP HPM cjl
  generalize ([[1]] : List (List Int)).flatten = FM at *
  go_wp2_with fail
  refine cj.mono ?_
  rintro e w9 ⟨v9, rfl, o9, b9⟩
  have HB9 : Hid (Below w.heap.size w w9) := (FB.out Y7 FY7.out).trans (b9.mono (FB.out Y7 FY7.out).size)
  have HO9 : Hid (Ow w9 w.heap.size v9 FM) := o9.mono (Nat.le_trans HWN.out FY7.out.size)
  clear cj b9 o9
  go_wp2
  go_ret
  exact ⟨_, rfl, by rw [HFM.out]; exact HO9.out, HB9.out⟩
set_option maxHeartbeats 8000000 in
theorem lay2 (p : Fm) (sv : Value) (w : World) (ht : Tb w) (hi : FI w p sv) (hok : Ok p) (hk : p.k = 2) :
    Calls Tryz.prog 33 #[.agg (plA p sv)] w fun e w' => ∃ v, e = .returned v ∧ Ow w' w.heap.size v (putM p) ∧ Below w.heap.size w w' := by
  obtain ⟨W1, hW1⟩ : ∃ W1, W1 = w.alloc (.cells (plA p sv) 33) := ⟨_, rfl⟩
  have b1 : Below w.heap.size w W1 := by rw [hW1]; exact al_below _ _
  have g1 : PF W1 w.heap.size 33 p sv := by rw [hW1]; exact PF.new w _ p sv
  obtain ⟨W2, hW2⟩ : ∃ W2, W2 = W1.alloc (.cells #[.int .i64 (pkN 2), .int .i64 (mT 2)] 57) := ⟨_, rfl⟩
  have b2 : Below W1.heap.size W1 W2 := by rw [hW2]; exact al_below _ _
  have g2 : W2.heap[W1.heap.size]? = some (.cells #[.int .i64 (pkN 2), .int .i64 (mT 2)] 57 (0, 0)) := by rw [hW2]; exact heap_alloc_new _ _
  have B2 : Below w.heap.size w W2 := b1.trans (b2.mono b1.size)
  have FG : Hid (∀ x, From W2 x → PF x w.heap.size 33 p sv) := fun x hx => (g1.kept b2).kept hx
  have FK : Hid (∀ x, From W2 x → PC x w.heap.size p sv) := fun x hx => (FG.out x hx).pc hi.k.nl
  have FS : Hid (∀ x, From W2 x → x.cell? ⟨W1.heap.size, 0, none⟩ = some (.int .i64 (pkN 2)) ∧ x.cell? ⟨W1.heap.size, 1, none⟩ = some (.int .i64 (mT 2))) := fun x hx => by
    have := blk_kept g2 hx (blk_lt g2)
    exact ⟨by simp [World.cell?, this], by simp [World.cell?, this]⟩
  have FB : Hid (∀ x, From W2 x → Below w.heap.size w x) := fun x hx => B2.trans (Below.mono hx B2.size)
  have FT : Hid (∀ x, From W2 x → Fi.Wid x) := fun x hx => (ht.next (FB.out x hx)).v
  have FN : Hid (W2.heap.size = W2.heap.size) := rfl
  have HWN : Hid (w.heap.size ≤ W2.heap.size) := B2.size
  have HI : Hid (FI w p sv) := hi
  have HOK : Hid (Ok p) := hok
  have HKK : Hid (p.k = 2) := hk
  obtain ⟨t0, t1⟩ := (ht.next b1).s 2 (by omega)
  have hks := (g1.pc hi.k.nl).c0
  rw [hk] at hks
  have HPM : Hid (putM p = ([2] :: [nB p.n, putB p.sp]).flatten) := by
    unfold Hid
    exact putM_2 hk
  obtain ⟨sa, sc, rfl, -, -, -⟩ := hi.s.shape
  obtain ⟨Wa, hWa⟩ : ∃ Wa, Wa = W2.alloc (.cells #[.int .u8 2] 5) := ⟨_, rfl⟩
  obtain ⟨X0, hX0⟩ : ∃ X0, X0 = Wa.alloc (.cells #[.slice (some ⟨W2.heap.size, 0, none⟩) 1 1] 34) := ⟨_, rfl⟩
  have ba : Below W2.heap.size W2 Wa := by rw [hWa]; exact al_below _ _
  have bx : Below Wa.heap.size Wa X0 := by rw [hX0]; exact al_below _ _
  have FX0 : Hid (From W2 X0) := ba.trans (bx.mono ba.size)
  have pa : Pt Wa (.slice (some ⟨W2.heap.size, 0, none⟩) 1 1) [2] := by rw [hWa]; exact Pt.byte W2 2 (by omega)
  have hza : Wa.heap.size = W2.heap.size + 1 := by rw [hWa]; simp
  have LX0 : Hid (LQ X0 W2.heap.size (.slice (some ⟨W2.heap.size + 1, 0, none⟩) 1 1) [[2]]) := by unfold Hid; rw [hX0, ← hza]; exact LQ.one pa ba.size
  clear b1 g1 b2 g2 B2 ht hi ba bx pa FN hok hza
  have CI : Hid (∀ W, Calls Tryz.prog 28 #[.agg #[.int .i64 (pkN 2), .int .i64 (mT 2)], .int .i64 1] W fun e w' => e = .returned (.bool false) ∧ Below W.heap.size W w') := fun W => has_k 2 (by omega) (by omega) W 1 _ (by decide)
  have CN : Hid (∀ W, Calls Tryz.prog 28 #[.agg #[.int .i64 (pkN 2), .int .i64 (mT 2)], .int .i64 2] W fun e w' => e = .returned (.bool true) ∧ Below W.heap.size W w') := fun W => has_k 2 (by omega) (by omega) W 2 _ (by decide)
  have CF : Hid (∀ W, Calls Tryz.prog 28 #[.agg #[.int .i64 (pkN 2), .int .i64 (mT 2)], .int .i64 4] W fun e w' => e = .returned (.bool false) ∧ Below W.heap.size W w') := fun W => has_k 2 (by omega) (by omega) W 4 _ (by decide)
  have CC : Hid (∀ W, Calls Tryz.prog 28 #[.agg #[.int .i64 (pkN 2), .int .i64 (mT 2)], .int .i64 8] W fun e w' => e = .returned (.bool false) ∧ Below W.heap.size W w') := fun W => has_k 2 (by omega) (by omega) W 8 _ (by decide)
  have CO : Hid (∀ W, Calls Tryz.prog 28 #[.agg #[.int .i64 (pkN 2), .int .i64 (mT 2)], .int .i64 16] W fun e w' => e = .returned (.bool false) ∧ Below W.heap.size W w') := fun W => has_k 2 (by omega) (by omega) W 16 _ (by decide)
  have CT : Hid (∀ W, Calls Tryz.prog 28 #[.agg #[.int .i64 (pkN 2), .int .i64 (mT 2)], .int .i64 32] W fun e w' => e = .returned (.bool false) ∧ Below W.heap.size W w') := fun W => has_k 2 (by omega) (by omega) W 32 _ (by decide)
  have CS : Hid (∀ W, Calls Tryz.prog 28 #[.agg #[.int .i64 (pkN 2), .int .i64 (mT 2)], .int .i64 64] W fun e w' => e = .returned (.bool true) ∧ Below W.heap.size W w') := fun W => has_k 2 (by omega) (by omega) W 64 _ (by decide)
  generalize pkN 2 = pk at *
  generalize mT 2 = mt at *
  go_enter Tryz.func33, Tryz.ntmps33
  go_upto_region 1 with fail
  rw [← hW1]
  clear hW1
  go_upto_region 2 with fail
  rw [← hW2]
  clear hW2 t0 t1
  have hks := (FK.out W2 (Below.refl _ _)).c0
  rw [hk] at hks
  go_upto_region 3 with fail
  rw [← hWa, ← hX0]
  clear hWa hX0 hk hks
  have ch := CI.out X0
  obtain ⟨s0, s1⟩ := FS.out X0 FX0.out
  go_wp2_with fail
  refine ch.mono ?_
  rintro e Y1 ⟨rfl, bY1⟩
  have FY1 : Hid (From W2 Y1) := FX0.out.trans (Below.mono bY1 FX0.out.size)
  have LY1 : Hid (LQ Y1 W2.heap.size (.slice (some ⟨W2.heap.size + 1, 0, none⟩) 1 1) [[2]]) := LX0.out.below bY1
  clear ch bY1 s0 s1 FX0 LX0
  have ch := CN.out Y1
  obtain ⟨s0, s1⟩ := FS.out Y1 FY1.out
  go_wp2_with fail
  refine ch.mono ?_
  rintro e Y2 ⟨rfl, bY2⟩
  have FY2 : Hid (From W2 Y2) := FY1.out.trans (Below.mono bY2 FY1.out.size)
  have LY2 : Hid (LQ Y2 W2.heap.size (.slice (some ⟨W2.heap.size + 1, 0, none⟩) 1 1) [[2]]) := LY1.out.below bY2
  clear ch bY2 s0 s1 FY1 LY1
  have q1 := (FK.out Y2 FY2.out).c2
  have cn := fnum_own p.n Y2 (FT.out Y2 FY2.out)
  go_wp2_with fail
  refine cn.mono ?_
  rintro e Y3 ⟨u, rfl, ou, bY3⟩
  have FY3 : Hid (From W2 Y3) := FY2.out.trans (Below.mono bY3 FY2.out.size)
  have LY3 : Hid (LQ Y3 W2.heap.size (.slice (some ⟨W2.heap.size + 1, 0, none⟩) 1 1) [[2]]) := LY2.out.below bY3
  obtain ⟨ua, uc, rfl⟩ := ou.shape
  have PU : Hid (Pt Y3 (.slice ua (nB p.n).length uc) (nB p.n)) := Pt.ow ou
  clear cn ou q1 bY3 FY2 LY2
  obtain ⟨V4, hV4⟩ : ∃ V4, V4 = Y3.alloc (.cells #[.slice ua (nB p.n).length uc] 34) := ⟨_, rfl⟩
  have bV4 : Below Y3.heap.size Y3 V4 := by rw [hV4]; exact al_below _ _
  have PV : Hid (Pt V4 (.slice ua (nB p.n).length uc) (nB p.n)) := PU.out.below bV4
  have CV : Hid (V4.cell? ⟨Y3.heap.size, 0, none⟩ = some (.slice ua (nB p.n).length uc)) := by unfold Hid; rw [hV4, World.cell?_alloc_at _ _ _ _ rfl]; rfl
  have FV4 : Hid (From W2 V4) := FY3.out.trans (Below.mono bV4 FY3.out.size)
  have LV4 : Hid (LQ V4 W2.heap.size (.slice (some ⟨W2.heap.size + 1, 0, none⟩) 1 1) [[2]]) := LY3.out.below bV4
  have zV4 := FV4.out.size
  clear bV4 PU FY3 LY3
  go_wp2_with (at_builtin; rw [← hV4]; refine wpList_append_lq rfl _ _ rfl W2.heap.size _ [[2]] rfl LV4.out Y3.heap.size _ _ 1 PV.out rfl CV.out (by simp) zV4 (Hid.out ?_))
  unfold Hid
  intro v4 Y4 lY4 bY4
  try rw [← hV4] at bY4
  have FY4 : Hid (From W2 Y4) := FV4.out.trans bY4
  have LY4 : Hid (LQ Y4 W2.heap.size v4 [[2], nB p.n]) := lY4
  clear bY4 lY4 zV4 FV4 LV4 PV CV hV4
  have ch := CF.out Y4
  obtain ⟨s0, s1⟩ := FS.out Y4 FY4.out
  go_wp2_with fail
  refine ch.mono ?_
  rintro e Y5 ⟨rfl, bY5⟩
  have FY5 : Hid (From W2 Y5) := FY4.out.trans (Below.mono bY5 FY4.out.size)
  have LY5 : Hid (LQ Y5 W2.heap.size v4 [[2], nB p.n]) := LY4.out.below bY5
  clear ch bY5 s0 s1 FY4 LY4
  have ch := CC.out Y5
  obtain ⟨s0, s1⟩ := FS.out Y5 FY5.out
  go_wp2_with fail
  refine ch.mono ?_
  rintro e Y6 ⟨rfl, bY6⟩
  have FY6 : Hid (From W2 Y6) := FY5.out.trans (Below.mono bY6 FY5.out.size)
  have LY6 : Hid (LQ Y6 W2.heap.size v4 [[2], nB p.n]) := LY5.out.below bY6
  clear ch bY6 s0 s1 FY5 LY5
  have ch := CO.out Y6
  obtain ⟨s0, s1⟩ := FS.out Y6 FY6.out
  go_wp2_with fail
  refine ch.mono ?_
  rintro e Y7 ⟨rfl, bY7⟩
  have FY7 : Hid (From W2 Y7) := FY6.out.trans (Below.mono bY7 FY6.out.size)
  have LY7 : Hid (LQ Y7 W2.heap.size v4 [[2], nB p.n]) := LY6.out.below bY7
  clear ch bY7 s0 s1 FY6 LY6
  have ch := CT.out Y7
  obtain ⟨s0, s1⟩ := FS.out Y7 FY7.out
  go_wp2_with fail
  refine ch.mono ?_
  rintro e Y8 ⟨rfl, bY8⟩
  have FY8 : Hid (From W2 Y8) := FY7.out.trans (Below.mono bY8 FY7.out.size)
  have LY8 : Hid (LQ Y8 W2.heap.size v4 [[2], nB p.n]) := LY7.out.below bY8
  clear ch bY8 s0 s1 FY7 LY7
  have ch := CS.out Y8
  obtain ⟨s0, s1⟩ := FS.out Y8 FY8.out
  go_wp2_with fail
  refine ch.mono ?_
  rintro e Y9 ⟨rfl, bY9⟩
  have FY9 : Hid (From W2 Y9) := FY8.out.trans (Below.mono bY9 FY8.out.size)
  have LY9 : Hid (LQ Y9 W2.heap.size v4 [[2], nB p.n]) := LY8.out.below bY9
  clear ch bY9 s0 s1 FY8 LY8
  have q1 := (FK.out Y9 FY9.out).c22
  obtain ⟨z1, z2, z3⟩ := HOK.out.sp (by rw [show p.k = 2 from HKK.out]; rfl)
  have hsx := HI.out.s.kept (FB.out Y9 FY9.out)
  have cn := put_yes Y9 sa sc p.sp (FT.out Y9 FY9.out) hsx (ssp_row hsx z2) z1 z2 z3
  clear hsx z1 z2 z3
  go_wp2_with fail
  refine cn.mono ?_
  rintro e Y10 ⟨u, rfl, ou, bY10⟩
  have FY10 : Hid (From W2 Y10) := FY9.out.trans (Below.mono bY10 FY9.out.size)
  have LY10 : Hid (LQ Y10 W2.heap.size v4 [[2], nB p.n]) := LY9.out.below bY10
  obtain ⟨ua, uc, rfl⟩ := ou.shape
  have PU : Hid (Pt Y10 (.slice ua (putB p.sp).length uc) (putB p.sp)) := Pt.ow ou
  clear cn ou q1 bY10 FY9 LY9
  obtain ⟨V11, hV11⟩ : ∃ V11, V11 = Y10.alloc (.cells #[.slice ua (putB p.sp).length uc] 34) := ⟨_, rfl⟩
  have bV11 : Below Y10.heap.size Y10 V11 := by rw [hV11]; exact al_below _ _
  have PV : Hid (Pt V11 (.slice ua (putB p.sp).length uc) (putB p.sp)) := PU.out.below bV11
  have CV : Hid (V11.cell? ⟨Y10.heap.size, 0, none⟩ = some (.slice ua (putB p.sp).length uc)) := by unfold Hid; rw [hV11, World.cell?_alloc_at _ _ _ _ rfl]; rfl
  have FV11 : Hid (From W2 V11) := FY10.out.trans (Below.mono bV11 FY10.out.size)
  have LV11 : Hid (LQ V11 W2.heap.size v4 [[2], nB p.n]) := LY10.out.below bV11
  have zV11 := FV11.out.size
  clear bV11 PU FY10 LY10
  go_wp2_with (at_builtin; rw [← hV11]; refine wpList_append_lq rfl _ _ rfl W2.heap.size _ [[2], nB p.n] rfl LV11.out Y10.heap.size _ _ 1 PV.out rfl CV.out (by simp) zV11 (Hid.out ?_))
  unfold Hid
  intro v11 Y11 lY11 bY11
  try rw [← hV11] at bY11
  have FY11 : Hid (From W2 Y11) := FV11.out.trans bY11
  have LY11 : Hid (LQ Y11 W2.heap.size v11 [[2], nB p.n, putB p.sp]) := lY11
  clear bY11 lY11 zV11 FV11 LV11 PV CV hV11
  obtain ⟨pp, pc, rfl, HP⟩ := LY11.out.parts (by simp)
  have cj := fjoin_any pp pc [[2], nB p.n, putB p.sp] Y11 HP (by have := hlen_ok HOK.out HI.out.k.nl; rw [HPM.out] at this; exact this)
  have cjl : ([[2], nB p.n, putB p.sp] : List (List Int)).length = 3 := rfl
  rw [cjl] at cj
  have HFM : Hid (putM p = ([[2], nB p.n, putB p.sp] : List (List Int)).flatten) := HPM.out
  clear HP HPM cjl
  generalize ([[2], nB p.n, putB p.sp] : List (List Int)).flatten = FM at *
  go_wp2_with fail
  refine cj.mono ?_
  rintro e w9 ⟨v9, rfl, o9, b9⟩
  have HB9 : Hid (Below w.heap.size w w9) := (FB.out Y11 FY11.out).trans (b9.mono (FB.out Y11 FY11.out).size)
  have HO9 : Hid (Ow w9 w.heap.size v9 FM) := o9.mono (Nat.le_trans HWN.out FY11.out.size)
  clear cj b9 o9
  go_wp2
  go_ret
  exact ⟨_, rfl, by rw [HFM.out]; exact HO9.out, HB9.out⟩
set_option maxHeartbeats 8000000 in
theorem lay3 (p : Fm) (sv : Value) (w : World) (ht : Tb w) (hi : FI w p sv) (hok : Ok p) (hk : p.k = 3) :
    Calls Tryz.prog 33 #[.agg (plA p sv)] w fun e w' => ∃ v, e = .returned v ∧ Ow w' w.heap.size v (putM p) ∧ Below w.heap.size w w' := by
  obtain ⟨W1, hW1⟩ : ∃ W1, W1 = w.alloc (.cells (plA p sv) 33) := ⟨_, rfl⟩
  have b1 : Below w.heap.size w W1 := by rw [hW1]; exact al_below _ _
  have g1 : PF W1 w.heap.size 33 p sv := by rw [hW1]; exact PF.new w _ p sv
  obtain ⟨W2, hW2⟩ : ∃ W2, W2 = W1.alloc (.cells #[.int .i64 (pkN 3), .int .i64 (mT 3)] 57) := ⟨_, rfl⟩
  have b2 : Below W1.heap.size W1 W2 := by rw [hW2]; exact al_below _ _
  have g2 : W2.heap[W1.heap.size]? = some (.cells #[.int .i64 (pkN 3), .int .i64 (mT 3)] 57 (0, 0)) := by rw [hW2]; exact heap_alloc_new _ _
  have B2 : Below w.heap.size w W2 := b1.trans (b2.mono b1.size)
  have FG : Hid (∀ x, From W2 x → PF x w.heap.size 33 p sv) := fun x hx => (g1.kept b2).kept hx
  have FK : Hid (∀ x, From W2 x → PC x w.heap.size p sv) := fun x hx => (FG.out x hx).pc hi.k.nl
  have FS : Hid (∀ x, From W2 x → x.cell? ⟨W1.heap.size, 0, none⟩ = some (.int .i64 (pkN 3)) ∧ x.cell? ⟨W1.heap.size, 1, none⟩ = some (.int .i64 (mT 3))) := fun x hx => by
    have := blk_kept g2 hx (blk_lt g2)
    exact ⟨by simp [World.cell?, this], by simp [World.cell?, this]⟩
  have FB : Hid (∀ x, From W2 x → Below w.heap.size w x) := fun x hx => B2.trans (Below.mono hx B2.size)
  have FT : Hid (∀ x, From W2 x → Fi.Wid x) := fun x hx => (ht.next (FB.out x hx)).v
  have FN : Hid (W2.heap.size = W2.heap.size) := rfl
  have HWN : Hid (w.heap.size ≤ W2.heap.size) := B2.size
  have HI : Hid (FI w p sv) := hi
  have HOK : Hid (Ok p) := hok
  obtain ⟨t0, t1⟩ := (ht.next b1).s 3 (by omega)
  have hks := (g1.pc hi.k.nl).c0
  rw [hk] at hks
  have HPM : Hid (putM p = ([3] :: [nB p.id, nB p.n, [finB p.fin], Fi.textB p.tx]).flatten) := by
    unfold Hid
    exact putM_3 hk
  obtain ⟨sa, sc, rfl, -, -, -⟩ := hi.s.shape
  obtain ⟨Wa, hWa⟩ : ∃ Wa, Wa = W2.alloc (.cells #[.int .u8 3] 5) := ⟨_, rfl⟩
  obtain ⟨X0, hX0⟩ : ∃ X0, X0 = Wa.alloc (.cells #[.slice (some ⟨W2.heap.size, 0, none⟩) 1 1] 34) := ⟨_, rfl⟩
  have ba : Below W2.heap.size W2 Wa := by rw [hWa]; exact al_below _ _
  have bx : Below Wa.heap.size Wa X0 := by rw [hX0]; exact al_below _ _
  have FX0 : Hid (From W2 X0) := ba.trans (bx.mono ba.size)
  have pa : Pt Wa (.slice (some ⟨W2.heap.size, 0, none⟩) 1 1) [3] := by rw [hWa]; exact Pt.byte W2 3 (by omega)
  have hza : Wa.heap.size = W2.heap.size + 1 := by rw [hWa]; simp
  have LX0 : Hid (LQ X0 W2.heap.size (.slice (some ⟨W2.heap.size + 1, 0, none⟩) 1 1) [[3]]) := by unfold Hid; rw [hX0, ← hza]; exact LQ.one pa ba.size
  clear b1 g1 b2 g2 B2 ht hi ba bx pa FN hok hza
  have CI : Hid (∀ W, Calls Tryz.prog 28 #[.agg #[.int .i64 (pkN 3), .int .i64 (mT 3)], .int .i64 1] W fun e w' => e = .returned (.bool true) ∧ Below W.heap.size W w') := fun W => has_k 3 (by omega) (by omega) W 1 _ (by decide)
  have CN : Hid (∀ W, Calls Tryz.prog 28 #[.agg #[.int .i64 (pkN 3), .int .i64 (mT 3)], .int .i64 2] W fun e w' => e = .returned (.bool true) ∧ Below W.heap.size W w') := fun W => has_k 3 (by omega) (by omega) W 2 _ (by decide)
  have CF : Hid (∀ W, Calls Tryz.prog 28 #[.agg #[.int .i64 (pkN 3), .int .i64 (mT 3)], .int .i64 4] W fun e w' => e = .returned (.bool true) ∧ Below W.heap.size W w') := fun W => has_k 3 (by omega) (by omega) W 4 _ (by decide)
  have CC : Hid (∀ W, Calls Tryz.prog 28 #[.agg #[.int .i64 (pkN 3), .int .i64 (mT 3)], .int .i64 8] W fun e w' => e = .returned (.bool false) ∧ Below W.heap.size W w') := fun W => has_k 3 (by omega) (by omega) W 8 _ (by decide)
  have CO : Hid (∀ W, Calls Tryz.prog 28 #[.agg #[.int .i64 (pkN 3), .int .i64 (mT 3)], .int .i64 16] W fun e w' => e = .returned (.bool false) ∧ Below W.heap.size W w') := fun W => has_k 3 (by omega) (by omega) W 16 _ (by decide)
  have CT : Hid (∀ W, Calls Tryz.prog 28 #[.agg #[.int .i64 (pkN 3), .int .i64 (mT 3)], .int .i64 32] W fun e w' => e = .returned (.bool true) ∧ Below W.heap.size W w') := fun W => has_k 3 (by omega) (by omega) W 32 _ (by decide)
  have CS : Hid (∀ W, Calls Tryz.prog 28 #[.agg #[.int .i64 (pkN 3), .int .i64 (mT 3)], .int .i64 64] W fun e w' => e = .returned (.bool false) ∧ Below W.heap.size W w') := fun W => has_k 3 (by omega) (by omega) W 64 _ (by decide)
  generalize pkN 3 = pk at *
  generalize mT 3 = mt at *
  go_enter Tryz.func33, Tryz.ntmps33
  go_upto_region 1 with fail
  rw [← hW1]
  clear hW1
  go_upto_region 2 with fail
  rw [← hW2]
  clear hW2 t0 t1
  have hks := (FK.out W2 (Below.refl _ _)).c0
  rw [hk] at hks
  go_upto_region 3 with fail
  rw [← hWa, ← hX0]
  clear hWa hX0 hk hks
  have ch := CI.out X0
  obtain ⟨s0, s1⟩ := FS.out X0 FX0.out
  go_wp2_with fail
  refine ch.mono ?_
  rintro e Y1 ⟨rfl, bY1⟩
  have FY1 : Hid (From W2 Y1) := FX0.out.trans (Below.mono bY1 FX0.out.size)
  have LY1 : Hid (LQ Y1 W2.heap.size (.slice (some ⟨W2.heap.size + 1, 0, none⟩) 1 1) [[3]]) := LX0.out.below bY1
  clear ch bY1 s0 s1 FX0 LX0
  have q1 := (FK.out Y1 FY1.out).c1
  have cn := fnum_own p.id Y1 (FT.out Y1 FY1.out)
  go_wp2_with fail
  refine cn.mono ?_
  rintro e Y2 ⟨u, rfl, ou, bY2⟩
  have FY2 : Hid (From W2 Y2) := FY1.out.trans (Below.mono bY2 FY1.out.size)
  have LY2 : Hid (LQ Y2 W2.heap.size (.slice (some ⟨W2.heap.size + 1, 0, none⟩) 1 1) [[3]]) := LY1.out.below bY2
  obtain ⟨ua, uc, rfl⟩ := ou.shape
  have PU : Hid (Pt Y2 (.slice ua (nB p.id).length uc) (nB p.id)) := Pt.ow ou
  clear cn ou q1 bY2 FY1 LY1
  obtain ⟨V3, hV3⟩ : ∃ V3, V3 = Y2.alloc (.cells #[.slice ua (nB p.id).length uc] 34) := ⟨_, rfl⟩
  have bV3 : Below Y2.heap.size Y2 V3 := by rw [hV3]; exact al_below _ _
  have PV : Hid (Pt V3 (.slice ua (nB p.id).length uc) (nB p.id)) := PU.out.below bV3
  have CV : Hid (V3.cell? ⟨Y2.heap.size, 0, none⟩ = some (.slice ua (nB p.id).length uc)) := by unfold Hid; rw [hV3, World.cell?_alloc_at _ _ _ _ rfl]; rfl
  have FV3 : Hid (From W2 V3) := FY2.out.trans (Below.mono bV3 FY2.out.size)
  have LV3 : Hid (LQ V3 W2.heap.size (.slice (some ⟨W2.heap.size + 1, 0, none⟩) 1 1) [[3]]) := LY2.out.below bV3
  have zV3 := FV3.out.size
  clear bV3 PU FY2 LY2
  go_wp2_with (at_builtin; rw [← hV3]; refine wpList_append_lq rfl _ _ rfl W2.heap.size _ [[3]] rfl LV3.out Y2.heap.size _ _ 1 PV.out rfl CV.out (by simp) zV3 (Hid.out ?_))
  unfold Hid
  intro v3 Y3 lY3 bY3
  try rw [← hV3] at bY3
  have FY3 : Hid (From W2 Y3) := FV3.out.trans bY3
  have LY3 : Hid (LQ Y3 W2.heap.size v3 [[3], nB p.id]) := lY3
  clear bY3 lY3 zV3 FV3 LV3 PV CV hV3
  have ch := CN.out Y3
  obtain ⟨s0, s1⟩ := FS.out Y3 FY3.out
  go_wp2_with fail
  refine ch.mono ?_
  rintro e Y4 ⟨rfl, bY4⟩
  have FY4 : Hid (From W2 Y4) := FY3.out.trans (Below.mono bY4 FY3.out.size)
  have LY4 : Hid (LQ Y4 W2.heap.size v3 [[3], nB p.id]) := LY3.out.below bY4
  clear ch bY4 s0 s1 FY3 LY3
  have q1 := (FK.out Y4 FY4.out).c2
  have cn := fnum_own p.n Y4 (FT.out Y4 FY4.out)
  go_wp2_with fail
  refine cn.mono ?_
  rintro e Y5 ⟨u, rfl, ou, bY5⟩
  have FY5 : Hid (From W2 Y5) := FY4.out.trans (Below.mono bY5 FY4.out.size)
  have LY5 : Hid (LQ Y5 W2.heap.size v3 [[3], nB p.id]) := LY4.out.below bY5
  obtain ⟨ua, uc, rfl⟩ := ou.shape
  have PU : Hid (Pt Y5 (.slice ua (nB p.n).length uc) (nB p.n)) := Pt.ow ou
  clear cn ou q1 bY5 FY4 LY4
  obtain ⟨V6, hV6⟩ : ∃ V6, V6 = Y5.alloc (.cells #[.slice ua (nB p.n).length uc] 34) := ⟨_, rfl⟩
  have bV6 : Below Y5.heap.size Y5 V6 := by rw [hV6]; exact al_below _ _
  have PV : Hid (Pt V6 (.slice ua (nB p.n).length uc) (nB p.n)) := PU.out.below bV6
  have CV : Hid (V6.cell? ⟨Y5.heap.size, 0, none⟩ = some (.slice ua (nB p.n).length uc)) := by unfold Hid; rw [hV6, World.cell?_alloc_at _ _ _ _ rfl]; rfl
  have FV6 : Hid (From W2 V6) := FY5.out.trans (Below.mono bV6 FY5.out.size)
  have LV6 : Hid (LQ V6 W2.heap.size v3 [[3], nB p.id]) := LY5.out.below bV6
  have zV6 := FV6.out.size
  clear bV6 PU FY5 LY5
  go_wp2_with (at_builtin; rw [← hV6]; refine wpList_append_lq rfl _ _ rfl W2.heap.size _ [[3], nB p.id] rfl LV6.out Y5.heap.size _ _ 1 PV.out rfl CV.out (by simp) zV6 (Hid.out ?_))
  unfold Hid
  intro v6 Y6 lY6 bY6
  try rw [← hV6] at bY6
  have FY6 : Hid (From W2 Y6) := FV6.out.trans bY6
  have LY6 : Hid (LQ Y6 W2.heap.size v6 [[3], nB p.id, nB p.n]) := lY6
  clear bY6 lY6 zV6 FV6 LV6 PV CV hV6
  have ch := CF.out Y6
  obtain ⟨s0, s1⟩ := FS.out Y6 FY6.out
  go_wp2_with fail
  refine ch.mono ?_
  rintro e Y7 ⟨rfl, bY7⟩
  have FY7 : Hid (From W2 Y7) := FY6.out.trans (Below.mono bY7 FY6.out.size)
  have LY7 : Hid (LQ Y7 W2.heap.size v6 [[3], nB p.id, nB p.n]) := LY6.out.below bY7
  clear ch bY7 s0 s1 FY6 LY6
  have q1 := (FK.out Y7 FY7.out).c4
  have cn := fin_any p.fin Y7
  go_wp2_with fail
  refine cn.mono ?_
  rintro e wq ⟨rfl, eq⟩
  rw [eq]
  clear cn eq wq q1
  obtain ⟨Y8, hY8⟩ : ∃ Y8, Y8 = Y7.alloc (.cells #[.int .u8 (finB p.fin)] 5) := ⟨_, rfl⟩
  have bY8 : Below Y7.heap.size Y7 Y8 := by rw [hY8]; exact al_below _ _
  have PU : Hid (Pt Y8 (.slice (some ⟨Y7.heap.size, 0, none⟩) 1 1) [finB p.fin]) := by unfold Hid; rw [hY8]; exact Pt.byte Y7 _ (by cases p.fin <;> decide)
  have FY8 : Hid (From W2 Y8) := FY7.out.trans (Below.mono bY8 FY7.out.size)
  have LY8 : Hid (LQ Y8 W2.heap.size v6 [[3], nB p.id, nB p.n]) := LY7.out.below bY8
  clear bY8 FY7 LY7
  have hzY8 : Y8.heap.size = Y7.heap.size + 1 := by rw [hY8]; simp
  obtain ⟨V9, hV9⟩ : ∃ V9, V9 = Y8.alloc (.cells #[.slice (some ⟨Y7.heap.size, 0, none⟩) 1 1] 34) := ⟨_, rfl⟩
  have bV9 : Below Y8.heap.size Y8 V9 := by rw [hV9]; exact al_below _ _
  have PV : Hid (Pt V9 (.slice (some ⟨Y7.heap.size, 0, none⟩) 1 1) ([finB p.fin])) := PU.out.below bV9
  have CV : Hid (V9.cell? ⟨Y7.heap.size + 1, 0, none⟩ = some (.slice (some ⟨Y7.heap.size, 0, none⟩) 1 1)) := by unfold Hid; rw [← hzY8, hV9, World.cell?_alloc_at _ _ _ _ rfl]; rfl
  have FV9 : Hid (From W2 V9) := FY8.out.trans (Below.mono bV9 FY8.out.size)
  have LV9 : Hid (LQ V9 W2.heap.size v6 [[3], nB p.id, nB p.n]) := LY8.out.below bV9
  have zV9 := FV9.out.size
  clear bV9 PU FY8 LY8
  go_wp2_with (at_builtin; rw [← hY8]; rw [← hV9]; refine wpList_append_lq rfl _ _ rfl W2.heap.size _ [[3], nB p.id, nB p.n] rfl LV9.out (Y7.heap.size + 1) _ _ 1 PV.out rfl CV.out (by simp) zV9 (Hid.out ?_))
  unfold Hid
  intro v9 Y9 lY9 bY9
  try rw [← hV9] at bY9
  try rw [← hY8] at bY9
  try rw [← hV9] at bY9
  have FY9 : Hid (From W2 Y9) := FV9.out.trans bY9
  have LY9 : Hid (LQ Y9 W2.heap.size v9 [[3], nB p.id, nB p.n, [finB p.fin]]) := lY9
  clear bY9 lY9 zV9 FV9 LV9 PV CV hV9 hY8 hzY8
  have ch := CC.out Y9
  obtain ⟨s0, s1⟩ := FS.out Y9 FY9.out
  go_wp2_with fail
  refine ch.mono ?_
  rintro e Y10 ⟨rfl, bY10⟩
  have FY10 : Hid (From W2 Y10) := FY9.out.trans (Below.mono bY10 FY9.out.size)
  have LY10 : Hid (LQ Y10 W2.heap.size v9 [[3], nB p.id, nB p.n, [finB p.fin]]) := LY9.out.below bY10
  clear ch bY10 s0 s1 FY9 LY9
  have ch := CO.out Y10
  obtain ⟨s0, s1⟩ := FS.out Y10 FY10.out
  go_wp2_with fail
  refine ch.mono ?_
  rintro e Y11 ⟨rfl, bY11⟩
  have FY11 : Hid (From W2 Y11) := FY10.out.trans (Below.mono bY11 FY10.out.size)
  have LY11 : Hid (LQ Y11 W2.heap.size v9 [[3], nB p.id, nB p.n, [finB p.fin]]) := LY10.out.below bY11
  clear ch bY11 s0 s1 FY10 LY10
  have ch := CT.out Y11
  obtain ⟨s0, s1⟩ := FS.out Y11 FY11.out
  go_wp2_with fail
  refine ch.mono ?_
  rintro e Y12 ⟨rfl, bY12⟩
  have FY12 : Hid (From W2 Y12) := FY11.out.trans (Below.mono bY12 FY11.out.size)
  have LY12 : Hid (LQ Y12 W2.heap.size v9 [[3], nB p.id, nB p.n, [finB p.fin]]) := LY11.out.below bY12
  clear ch bY12 s0 s1 FY11 LY11
  have q1 := (FK.out Y12 FY12.out).c5
  have cn := ftext_ow p.tx Y12 (FT.out Y12 FY12.out) HI.out.t
  go_wp2_with fail
  refine cn.mono ?_
  rintro e Y13 ⟨u, rfl, ou, bY13⟩
  have FY13 : Hid (From W2 Y13) := FY12.out.trans (Below.mono bY13 FY12.out.size)
  have LY13 : Hid (LQ Y13 W2.heap.size v9 [[3], nB p.id, nB p.n, [finB p.fin]]) := LY12.out.below bY13
  obtain ⟨ua, uc, rfl⟩ := ou.shape
  have PU : Hid (Pt Y13 (.slice ua (Fi.textB p.tx).length uc) (Fi.textB p.tx)) := Pt.ow ou
  clear cn ou q1 bY13 FY12 LY12
  obtain ⟨V14, hV14⟩ : ∃ V14, V14 = Y13.alloc (.cells #[.slice ua (Fi.textB p.tx).length uc] 34) := ⟨_, rfl⟩
  have bV14 : Below Y13.heap.size Y13 V14 := by rw [hV14]; exact al_below _ _
  have PV : Hid (Pt V14 (.slice ua (Fi.textB p.tx).length uc) (Fi.textB p.tx)) := PU.out.below bV14
  have CV : Hid (V14.cell? ⟨Y13.heap.size, 0, none⟩ = some (.slice ua (Fi.textB p.tx).length uc)) := by unfold Hid; rw [hV14, World.cell?_alloc_at _ _ _ _ rfl]; rfl
  have FV14 : Hid (From W2 V14) := FY13.out.trans (Below.mono bV14 FY13.out.size)
  have LV14 : Hid (LQ V14 W2.heap.size v9 [[3], nB p.id, nB p.n, [finB p.fin]]) := LY13.out.below bV14
  have zV14 := FV14.out.size
  clear bV14 PU FY13 LY13
  go_wp2_with (at_builtin; rw [← hV14]; refine wpList_append_lq rfl _ _ rfl W2.heap.size _ [[3], nB p.id, nB p.n, [finB p.fin]] rfl LV14.out Y13.heap.size _ _ 1 PV.out rfl CV.out (by simp) zV14 (Hid.out ?_))
  unfold Hid
  intro v14 Y14 lY14 bY14
  try rw [← hV14] at bY14
  have FY14 : Hid (From W2 Y14) := FV14.out.trans bY14
  have LY14 : Hid (LQ Y14 W2.heap.size v14 [[3], nB p.id, nB p.n, [finB p.fin], Fi.textB p.tx]) := lY14
  clear bY14 lY14 zV14 FV14 LV14 PV CV hV14
  have ch := CS.out Y14
  obtain ⟨s0, s1⟩ := FS.out Y14 FY14.out
  go_wp2_with fail
  refine ch.mono ?_
  rintro e Y15 ⟨rfl, bY15⟩
  have FY15 : Hid (From W2 Y15) := FY14.out.trans (Below.mono bY15 FY14.out.size)
  have LY15 : Hid (LQ Y15 W2.heap.size v14 [[3], nB p.id, nB p.n, [finB p.fin], Fi.textB p.tx]) := LY14.out.below bY15
  clear ch bY15 s0 s1 FY14 LY14
  obtain ⟨pp, pc, rfl, HP⟩ := LY15.out.parts (by simp)
  have cj := fjoin_any pp pc [[3], nB p.id, nB p.n, [finB p.fin], Fi.textB p.tx] Y15 HP (by have := hlen_ok HOK.out HI.out.k.nl; rw [HPM.out] at this; exact this)
  have cjl : ([[3], nB p.id, nB p.n, [finB p.fin], Fi.textB p.tx] : List (List Int)).length = 5 := rfl
  rw [cjl] at cj
  have HFM : Hid (putM p = ([[3], nB p.id, nB p.n, [finB p.fin], Fi.textB p.tx] : List (List Int)).flatten) := HPM.out
  clear HP HPM cjl
  generalize ([[3], nB p.id, nB p.n, [finB p.fin], Fi.textB p.tx] : List (List Int)).flatten = FM at *
  go_wp2_with fail
  refine cj.mono ?_
  rintro e w9 ⟨v9, rfl, o9, b9⟩
  have HB9 : Hid (Below w.heap.size w w9) := (FB.out Y15 FY15.out).trans (b9.mono (FB.out Y15 FY15.out).size)
  have HO9 : Hid (Ow w9 w.heap.size v9 FM) := o9.mono (Nat.le_trans HWN.out FY15.out.size)
  clear cj b9 o9
  go_wp2
  go_ret
  exact ⟨_, rfl, by rw [HFM.out]; exact HO9.out, HB9.out⟩
set_option maxHeartbeats 8000000 in
theorem lay4 (p : Fm) (sv : Value) (w : World) (ht : Tb w) (hi : FI w p sv) (hok : Ok p) (hk : p.k = 4) :
    Calls Tryz.prog 33 #[.agg (plA p sv)] w fun e w' => ∃ v, e = .returned v ∧ Ow w' w.heap.size v (putM p) ∧ Below w.heap.size w w' := by
  obtain ⟨W1, hW1⟩ : ∃ W1, W1 = w.alloc (.cells (plA p sv) 33) := ⟨_, rfl⟩
  have b1 : Below w.heap.size w W1 := by rw [hW1]; exact al_below _ _
  have g1 : PF W1 w.heap.size 33 p sv := by rw [hW1]; exact PF.new w _ p sv
  obtain ⟨W2, hW2⟩ : ∃ W2, W2 = W1.alloc (.cells #[.int .i64 (pkN 4), .int .i64 (mT 4)] 57) := ⟨_, rfl⟩
  have b2 : Below W1.heap.size W1 W2 := by rw [hW2]; exact al_below _ _
  have g2 : W2.heap[W1.heap.size]? = some (.cells #[.int .i64 (pkN 4), .int .i64 (mT 4)] 57 (0, 0)) := by rw [hW2]; exact heap_alloc_new _ _
  have B2 : Below w.heap.size w W2 := b1.trans (b2.mono b1.size)
  have FG : Hid (∀ x, From W2 x → PF x w.heap.size 33 p sv) := fun x hx => (g1.kept b2).kept hx
  have FK : Hid (∀ x, From W2 x → PC x w.heap.size p sv) := fun x hx => (FG.out x hx).pc hi.k.nl
  have FS : Hid (∀ x, From W2 x → x.cell? ⟨W1.heap.size, 0, none⟩ = some (.int .i64 (pkN 4)) ∧ x.cell? ⟨W1.heap.size, 1, none⟩ = some (.int .i64 (mT 4))) := fun x hx => by
    have := blk_kept g2 hx (blk_lt g2)
    exact ⟨by simp [World.cell?, this], by simp [World.cell?, this]⟩
  have FB : Hid (∀ x, From W2 x → Below w.heap.size w x) := fun x hx => B2.trans (Below.mono hx B2.size)
  have FT : Hid (∀ x, From W2 x → Fi.Wid x) := fun x hx => (ht.next (FB.out x hx)).v
  have FN : Hid (W2.heap.size = W2.heap.size) := rfl
  have HWN : Hid (w.heap.size ≤ W2.heap.size) := B2.size
  have HI : Hid (FI w p sv) := hi
  have HOK : Hid (Ok p) := hok
  obtain ⟨t0, t1⟩ := (ht.next b1).s 4 (by omega)
  have hks := (g1.pc hi.k.nl).c0
  rw [hk] at hks
  have HPM : Hid (putM p = ([4] :: [nB p.id, nB p.n, nB p.cd]).flatten) := by
    unfold Hid
    exact putM_4 hk
  obtain ⟨sa, sc, rfl, -, -, -⟩ := hi.s.shape
  obtain ⟨Wa, hWa⟩ : ∃ Wa, Wa = W2.alloc (.cells #[.int .u8 4] 5) := ⟨_, rfl⟩
  obtain ⟨X0, hX0⟩ : ∃ X0, X0 = Wa.alloc (.cells #[.slice (some ⟨W2.heap.size, 0, none⟩) 1 1] 34) := ⟨_, rfl⟩
  have ba : Below W2.heap.size W2 Wa := by rw [hWa]; exact al_below _ _
  have bx : Below Wa.heap.size Wa X0 := by rw [hX0]; exact al_below _ _
  have FX0 : Hid (From W2 X0) := ba.trans (bx.mono ba.size)
  have pa : Pt Wa (.slice (some ⟨W2.heap.size, 0, none⟩) 1 1) [4] := by rw [hWa]; exact Pt.byte W2 4 (by omega)
  have hza : Wa.heap.size = W2.heap.size + 1 := by rw [hWa]; simp
  have LX0 : Hid (LQ X0 W2.heap.size (.slice (some ⟨W2.heap.size + 1, 0, none⟩) 1 1) [[4]]) := by unfold Hid; rw [hX0, ← hza]; exact LQ.one pa ba.size
  clear b1 g1 b2 g2 B2 ht hi ba bx pa FN hok hza
  have CI : Hid (∀ W, Calls Tryz.prog 28 #[.agg #[.int .i64 (pkN 4), .int .i64 (mT 4)], .int .i64 1] W fun e w' => e = .returned (.bool true) ∧ Below W.heap.size W w') := fun W => has_k 4 (by omega) (by omega) W 1 _ (by decide)
  have CN : Hid (∀ W, Calls Tryz.prog 28 #[.agg #[.int .i64 (pkN 4), .int .i64 (mT 4)], .int .i64 2] W fun e w' => e = .returned (.bool true) ∧ Below W.heap.size W w') := fun W => has_k 4 (by omega) (by omega) W 2 _ (by decide)
  have CF : Hid (∀ W, Calls Tryz.prog 28 #[.agg #[.int .i64 (pkN 4), .int .i64 (mT 4)], .int .i64 4] W fun e w' => e = .returned (.bool false) ∧ Below W.heap.size W w') := fun W => has_k 4 (by omega) (by omega) W 4 _ (by decide)
  have CC : Hid (∀ W, Calls Tryz.prog 28 #[.agg #[.int .i64 (pkN 4), .int .i64 (mT 4)], .int .i64 8] W fun e w' => e = .returned (.bool true) ∧ Below W.heap.size W w') := fun W => has_k 4 (by omega) (by omega) W 8 _ (by decide)
  have CO : Hid (∀ W, Calls Tryz.prog 28 #[.agg #[.int .i64 (pkN 4), .int .i64 (mT 4)], .int .i64 16] W fun e w' => e = .returned (.bool false) ∧ Below W.heap.size W w') := fun W => has_k 4 (by omega) (by omega) W 16 _ (by decide)
  have CT : Hid (∀ W, Calls Tryz.prog 28 #[.agg #[.int .i64 (pkN 4), .int .i64 (mT 4)], .int .i64 32] W fun e w' => e = .returned (.bool false) ∧ Below W.heap.size W w') := fun W => has_k 4 (by omega) (by omega) W 32 _ (by decide)
  have CS : Hid (∀ W, Calls Tryz.prog 28 #[.agg #[.int .i64 (pkN 4), .int .i64 (mT 4)], .int .i64 64] W fun e w' => e = .returned (.bool false) ∧ Below W.heap.size W w') := fun W => has_k 4 (by omega) (by omega) W 64 _ (by decide)
  generalize pkN 4 = pk at *
  generalize mT 4 = mt at *
  go_enter Tryz.func33, Tryz.ntmps33
  go_upto_region 1 with fail
  rw [← hW1]
  clear hW1
  go_upto_region 2 with fail
  rw [← hW2]
  clear hW2 t0 t1
  have hks := (FK.out W2 (Below.refl _ _)).c0
  rw [hk] at hks
  go_upto_region 3 with fail
  rw [← hWa, ← hX0]
  clear hWa hX0 hk hks
  have ch := CI.out X0
  obtain ⟨s0, s1⟩ := FS.out X0 FX0.out
  go_wp2_with fail
  refine ch.mono ?_
  rintro e Y1 ⟨rfl, bY1⟩
  have FY1 : Hid (From W2 Y1) := FX0.out.trans (Below.mono bY1 FX0.out.size)
  have LY1 : Hid (LQ Y1 W2.heap.size (.slice (some ⟨W2.heap.size + 1, 0, none⟩) 1 1) [[4]]) := LX0.out.below bY1
  clear ch bY1 s0 s1 FX0 LX0
  have q1 := (FK.out Y1 FY1.out).c1
  have cn := fnum_own p.id Y1 (FT.out Y1 FY1.out)
  go_wp2_with fail
  refine cn.mono ?_
  rintro e Y2 ⟨u, rfl, ou, bY2⟩
  have FY2 : Hid (From W2 Y2) := FY1.out.trans (Below.mono bY2 FY1.out.size)
  have LY2 : Hid (LQ Y2 W2.heap.size (.slice (some ⟨W2.heap.size + 1, 0, none⟩) 1 1) [[4]]) := LY1.out.below bY2
  obtain ⟨ua, uc, rfl⟩ := ou.shape
  have PU : Hid (Pt Y2 (.slice ua (nB p.id).length uc) (nB p.id)) := Pt.ow ou
  clear cn ou q1 bY2 FY1 LY1
  obtain ⟨V3, hV3⟩ : ∃ V3, V3 = Y2.alloc (.cells #[.slice ua (nB p.id).length uc] 34) := ⟨_, rfl⟩
  have bV3 : Below Y2.heap.size Y2 V3 := by rw [hV3]; exact al_below _ _
  have PV : Hid (Pt V3 (.slice ua (nB p.id).length uc) (nB p.id)) := PU.out.below bV3
  have CV : Hid (V3.cell? ⟨Y2.heap.size, 0, none⟩ = some (.slice ua (nB p.id).length uc)) := by unfold Hid; rw [hV3, World.cell?_alloc_at _ _ _ _ rfl]; rfl
  have FV3 : Hid (From W2 V3) := FY2.out.trans (Below.mono bV3 FY2.out.size)
  have LV3 : Hid (LQ V3 W2.heap.size (.slice (some ⟨W2.heap.size + 1, 0, none⟩) 1 1) [[4]]) := LY2.out.below bV3
  have zV3 := FV3.out.size
  clear bV3 PU FY2 LY2
  go_wp2_with (at_builtin; rw [← hV3]; refine wpList_append_lq rfl _ _ rfl W2.heap.size _ [[4]] rfl LV3.out Y2.heap.size _ _ 1 PV.out rfl CV.out (by simp) zV3 (Hid.out ?_))
  unfold Hid
  intro v3 Y3 lY3 bY3
  try rw [← hV3] at bY3
  have FY3 : Hid (From W2 Y3) := FV3.out.trans bY3
  have LY3 : Hid (LQ Y3 W2.heap.size v3 [[4], nB p.id]) := lY3
  clear bY3 lY3 zV3 FV3 LV3 PV CV hV3
  have ch := CN.out Y3
  obtain ⟨s0, s1⟩ := FS.out Y3 FY3.out
  go_wp2_with fail
  refine ch.mono ?_
  rintro e Y4 ⟨rfl, bY4⟩
  have FY4 : Hid (From W2 Y4) := FY3.out.trans (Below.mono bY4 FY3.out.size)
  have LY4 : Hid (LQ Y4 W2.heap.size v3 [[4], nB p.id]) := LY3.out.below bY4
  clear ch bY4 s0 s1 FY3 LY3
  have q1 := (FK.out Y4 FY4.out).c2
  have cn := fnum_own p.n Y4 (FT.out Y4 FY4.out)
  go_wp2_with fail
  refine cn.mono ?_
  rintro e Y5 ⟨u, rfl, ou, bY5⟩
  have FY5 : Hid (From W2 Y5) := FY4.out.trans (Below.mono bY5 FY4.out.size)
  have LY5 : Hid (LQ Y5 W2.heap.size v3 [[4], nB p.id]) := LY4.out.below bY5
  obtain ⟨ua, uc, rfl⟩ := ou.shape
  have PU : Hid (Pt Y5 (.slice ua (nB p.n).length uc) (nB p.n)) := Pt.ow ou
  clear cn ou q1 bY5 FY4 LY4
  obtain ⟨V6, hV6⟩ : ∃ V6, V6 = Y5.alloc (.cells #[.slice ua (nB p.n).length uc] 34) := ⟨_, rfl⟩
  have bV6 : Below Y5.heap.size Y5 V6 := by rw [hV6]; exact al_below _ _
  have PV : Hid (Pt V6 (.slice ua (nB p.n).length uc) (nB p.n)) := PU.out.below bV6
  have CV : Hid (V6.cell? ⟨Y5.heap.size, 0, none⟩ = some (.slice ua (nB p.n).length uc)) := by unfold Hid; rw [hV6, World.cell?_alloc_at _ _ _ _ rfl]; rfl
  have FV6 : Hid (From W2 V6) := FY5.out.trans (Below.mono bV6 FY5.out.size)
  have LV6 : Hid (LQ V6 W2.heap.size v3 [[4], nB p.id]) := LY5.out.below bV6
  have zV6 := FV6.out.size
  clear bV6 PU FY5 LY5
  go_wp2_with (at_builtin; rw [← hV6]; refine wpList_append_lq rfl _ _ rfl W2.heap.size _ [[4], nB p.id] rfl LV6.out Y5.heap.size _ _ 1 PV.out rfl CV.out (by simp) zV6 (Hid.out ?_))
  unfold Hid
  intro v6 Y6 lY6 bY6
  try rw [← hV6] at bY6
  have FY6 : Hid (From W2 Y6) := FV6.out.trans bY6
  have LY6 : Hid (LQ Y6 W2.heap.size v6 [[4], nB p.id, nB p.n]) := lY6
  clear bY6 lY6 zV6 FV6 LV6 PV CV hV6
  have ch := CF.out Y6
  obtain ⟨s0, s1⟩ := FS.out Y6 FY6.out
  go_wp2_with fail
  refine ch.mono ?_
  rintro e Y7 ⟨rfl, bY7⟩
  have FY7 : Hid (From W2 Y7) := FY6.out.trans (Below.mono bY7 FY6.out.size)
  have LY7 : Hid (LQ Y7 W2.heap.size v6 [[4], nB p.id, nB p.n]) := LY6.out.below bY7
  clear ch bY7 s0 s1 FY6 LY6
  have ch := CC.out Y7
  obtain ⟨s0, s1⟩ := FS.out Y7 FY7.out
  go_wp2_with fail
  refine ch.mono ?_
  rintro e Y8 ⟨rfl, bY8⟩
  have FY8 : Hid (From W2 Y8) := FY7.out.trans (Below.mono bY8 FY7.out.size)
  have LY8 : Hid (LQ Y8 W2.heap.size v6 [[4], nB p.id, nB p.n]) := LY7.out.below bY8
  clear ch bY8 s0 s1 FY7 LY7
  have q1 := (FK.out Y8 FY8.out).c3
  have cn := fnum_own p.cd Y8 (FT.out Y8 FY8.out)
  go_wp2_with fail
  refine cn.mono ?_
  rintro e Y9 ⟨u, rfl, ou, bY9⟩
  have FY9 : Hid (From W2 Y9) := FY8.out.trans (Below.mono bY9 FY8.out.size)
  have LY9 : Hid (LQ Y9 W2.heap.size v6 [[4], nB p.id, nB p.n]) := LY8.out.below bY9
  obtain ⟨ua, uc, rfl⟩ := ou.shape
  have PU : Hid (Pt Y9 (.slice ua (nB p.cd).length uc) (nB p.cd)) := Pt.ow ou
  clear cn ou q1 bY9 FY8 LY8
  obtain ⟨V10, hV10⟩ : ∃ V10, V10 = Y9.alloc (.cells #[.slice ua (nB p.cd).length uc] 34) := ⟨_, rfl⟩
  have bV10 : Below Y9.heap.size Y9 V10 := by rw [hV10]; exact al_below _ _
  have PV : Hid (Pt V10 (.slice ua (nB p.cd).length uc) (nB p.cd)) := PU.out.below bV10
  have CV : Hid (V10.cell? ⟨Y9.heap.size, 0, none⟩ = some (.slice ua (nB p.cd).length uc)) := by unfold Hid; rw [hV10, World.cell?_alloc_at _ _ _ _ rfl]; rfl
  have FV10 : Hid (From W2 V10) := FY9.out.trans (Below.mono bV10 FY9.out.size)
  have LV10 : Hid (LQ V10 W2.heap.size v6 [[4], nB p.id, nB p.n]) := LY9.out.below bV10
  have zV10 := FV10.out.size
  clear bV10 PU FY9 LY9
  go_wp2_with (at_builtin; rw [← hV10]; refine wpList_append_lq rfl _ _ rfl W2.heap.size _ [[4], nB p.id, nB p.n] rfl LV10.out Y9.heap.size _ _ 1 PV.out rfl CV.out (by simp) zV10 (Hid.out ?_))
  unfold Hid
  intro v10 Y10 lY10 bY10
  try rw [← hV10] at bY10
  have FY10 : Hid (From W2 Y10) := FV10.out.trans bY10
  have LY10 : Hid (LQ Y10 W2.heap.size v10 [[4], nB p.id, nB p.n, nB p.cd]) := lY10
  clear bY10 lY10 zV10 FV10 LV10 PV CV hV10
  have ch := CO.out Y10
  obtain ⟨s0, s1⟩ := FS.out Y10 FY10.out
  go_wp2_with fail
  refine ch.mono ?_
  rintro e Y11 ⟨rfl, bY11⟩
  have FY11 : Hid (From W2 Y11) := FY10.out.trans (Below.mono bY11 FY10.out.size)
  have LY11 : Hid (LQ Y11 W2.heap.size v10 [[4], nB p.id, nB p.n, nB p.cd]) := LY10.out.below bY11
  clear ch bY11 s0 s1 FY10 LY10
  have ch := CT.out Y11
  obtain ⟨s0, s1⟩ := FS.out Y11 FY11.out
  go_wp2_with fail
  refine ch.mono ?_
  rintro e Y12 ⟨rfl, bY12⟩
  have FY12 : Hid (From W2 Y12) := FY11.out.trans (Below.mono bY12 FY11.out.size)
  have LY12 : Hid (LQ Y12 W2.heap.size v10 [[4], nB p.id, nB p.n, nB p.cd]) := LY11.out.below bY12
  clear ch bY12 s0 s1 FY11 LY11
  have ch := CS.out Y12
  obtain ⟨s0, s1⟩ := FS.out Y12 FY12.out
  go_wp2_with fail
  refine ch.mono ?_
  rintro e Y13 ⟨rfl, bY13⟩
  have FY13 : Hid (From W2 Y13) := FY12.out.trans (Below.mono bY13 FY12.out.size)
  have LY13 : Hid (LQ Y13 W2.heap.size v10 [[4], nB p.id, nB p.n, nB p.cd]) := LY12.out.below bY13
  clear ch bY13 s0 s1 FY12 LY12
  obtain ⟨pp, pc, rfl, HP⟩ := LY13.out.parts (by simp)
  have cj := fjoin_any pp pc [[4], nB p.id, nB p.n, nB p.cd] Y13 HP (by have := hlen_ok HOK.out HI.out.k.nl; rw [HPM.out] at this; exact this)
  have cjl : ([[4], nB p.id, nB p.n, nB p.cd] : List (List Int)).length = 4 := rfl
  rw [cjl] at cj
  have HFM : Hid (putM p = ([[4], nB p.id, nB p.n, nB p.cd] : List (List Int)).flatten) := HPM.out
  clear HP HPM cjl
  generalize ([[4], nB p.id, nB p.n, nB p.cd] : List (List Int)).flatten = FM at *
  go_wp2_with fail
  refine cj.mono ?_
  rintro e w9 ⟨v9, rfl, o9, b9⟩
  have HB9 : Hid (Below w.heap.size w w9) := (FB.out Y13 FY13.out).trans (b9.mono (FB.out Y13 FY13.out).size)
  have HO9 : Hid (Ow w9 w.heap.size v9 FM) := o9.mono (Nat.le_trans HWN.out FY13.out.size)
  clear cj b9 o9
  go_wp2
  go_ret
  exact ⟨_, rfl, by rw [HFM.out]; exact HO9.out, HB9.out⟩
set_option maxHeartbeats 8000000 in
theorem lay5 (p : Fm) (sv : Value) (w : World) (ht : Tb w) (hi : FI w p sv) (hok : Ok p) (hk : p.k = 5) :
    Calls Tryz.prog 33 #[.agg (plA p sv)] w fun e w' => ∃ v, e = .returned v ∧ Ow w' w.heap.size v (putM p) ∧ Below w.heap.size w w' := by
  obtain ⟨W1, hW1⟩ : ∃ W1, W1 = w.alloc (.cells (plA p sv) 33) := ⟨_, rfl⟩
  have b1 : Below w.heap.size w W1 := by rw [hW1]; exact al_below _ _
  have g1 : PF W1 w.heap.size 33 p sv := by rw [hW1]; exact PF.new w _ p sv
  obtain ⟨W2, hW2⟩ : ∃ W2, W2 = W1.alloc (.cells #[.int .i64 (pkN 5), .int .i64 (mT 5)] 57) := ⟨_, rfl⟩
  have b2 : Below W1.heap.size W1 W2 := by rw [hW2]; exact al_below _ _
  have g2 : W2.heap[W1.heap.size]? = some (.cells #[.int .i64 (pkN 5), .int .i64 (mT 5)] 57 (0, 0)) := by rw [hW2]; exact heap_alloc_new _ _
  have B2 : Below w.heap.size w W2 := b1.trans (b2.mono b1.size)
  have FG : Hid (∀ x, From W2 x → PF x w.heap.size 33 p sv) := fun x hx => (g1.kept b2).kept hx
  have FK : Hid (∀ x, From W2 x → PC x w.heap.size p sv) := fun x hx => (FG.out x hx).pc hi.k.nl
  have FS : Hid (∀ x, From W2 x → x.cell? ⟨W1.heap.size, 0, none⟩ = some (.int .i64 (pkN 5)) ∧ x.cell? ⟨W1.heap.size, 1, none⟩ = some (.int .i64 (mT 5))) := fun x hx => by
    have := blk_kept g2 hx (blk_lt g2)
    exact ⟨by simp [World.cell?, this], by simp [World.cell?, this]⟩
  have FB : Hid (∀ x, From W2 x → Below w.heap.size w x) := fun x hx => B2.trans (Below.mono hx B2.size)
  have FT : Hid (∀ x, From W2 x → Fi.Wid x) := fun x hx => (ht.next (FB.out x hx)).v
  have FN : Hid (W2.heap.size = W2.heap.size) := rfl
  have HWN : Hid (w.heap.size ≤ W2.heap.size) := B2.size
  have HI : Hid (FI w p sv) := hi
  have HOK : Hid (Ok p) := hok
  obtain ⟨t0, t1⟩ := (ht.next b1).s 5 (by omega)
  have hks := (g1.pc hi.k.nl).c0
  rw [hk] at hks
  have HPM : Hid (putM p = ([5] :: [nB p.id, nB p.cd]).flatten) := by
    unfold Hid
    exact putM_5 hk
  obtain ⟨sa, sc, rfl, -, -, -⟩ := hi.s.shape
  obtain ⟨Wa, hWa⟩ : ∃ Wa, Wa = W2.alloc (.cells #[.int .u8 5] 5) := ⟨_, rfl⟩
  obtain ⟨X0, hX0⟩ : ∃ X0, X0 = Wa.alloc (.cells #[.slice (some ⟨W2.heap.size, 0, none⟩) 1 1] 34) := ⟨_, rfl⟩
  have ba : Below W2.heap.size W2 Wa := by rw [hWa]; exact al_below _ _
  have bx : Below Wa.heap.size Wa X0 := by rw [hX0]; exact al_below _ _
  have FX0 : Hid (From W2 X0) := ba.trans (bx.mono ba.size)
  have pa : Pt Wa (.slice (some ⟨W2.heap.size, 0, none⟩) 1 1) [5] := by rw [hWa]; exact Pt.byte W2 5 (by omega)
  have hza : Wa.heap.size = W2.heap.size + 1 := by rw [hWa]; simp
  have LX0 : Hid (LQ X0 W2.heap.size (.slice (some ⟨W2.heap.size + 1, 0, none⟩) 1 1) [[5]]) := by unfold Hid; rw [hX0, ← hza]; exact LQ.one pa ba.size
  clear b1 g1 b2 g2 B2 ht hi ba bx pa FN hok hza
  have CI : Hid (∀ W, Calls Tryz.prog 28 #[.agg #[.int .i64 (pkN 5), .int .i64 (mT 5)], .int .i64 1] W fun e w' => e = .returned (.bool true) ∧ Below W.heap.size W w') := fun W => has_k 5 (by omega) (by omega) W 1 _ (by decide)
  have CN : Hid (∀ W, Calls Tryz.prog 28 #[.agg #[.int .i64 (pkN 5), .int .i64 (mT 5)], .int .i64 2] W fun e w' => e = .returned (.bool false) ∧ Below W.heap.size W w') := fun W => has_k 5 (by omega) (by omega) W 2 _ (by decide)
  have CF : Hid (∀ W, Calls Tryz.prog 28 #[.agg #[.int .i64 (pkN 5), .int .i64 (mT 5)], .int .i64 4] W fun e w' => e = .returned (.bool false) ∧ Below W.heap.size W w') := fun W => has_k 5 (by omega) (by omega) W 4 _ (by decide)
  have CC : Hid (∀ W, Calls Tryz.prog 28 #[.agg #[.int .i64 (pkN 5), .int .i64 (mT 5)], .int .i64 8] W fun e w' => e = .returned (.bool true) ∧ Below W.heap.size W w') := fun W => has_k 5 (by omega) (by omega) W 8 _ (by decide)
  have CO : Hid (∀ W, Calls Tryz.prog 28 #[.agg #[.int .i64 (pkN 5), .int .i64 (mT 5)], .int .i64 16] W fun e w' => e = .returned (.bool false) ∧ Below W.heap.size W w') := fun W => has_k 5 (by omega) (by omega) W 16 _ (by decide)
  have CT : Hid (∀ W, Calls Tryz.prog 28 #[.agg #[.int .i64 (pkN 5), .int .i64 (mT 5)], .int .i64 32] W fun e w' => e = .returned (.bool false) ∧ Below W.heap.size W w') := fun W => has_k 5 (by omega) (by omega) W 32 _ (by decide)
  have CS : Hid (∀ W, Calls Tryz.prog 28 #[.agg #[.int .i64 (pkN 5), .int .i64 (mT 5)], .int .i64 64] W fun e w' => e = .returned (.bool false) ∧ Below W.heap.size W w') := fun W => has_k 5 (by omega) (by omega) W 64 _ (by decide)
  generalize pkN 5 = pk at *
  generalize mT 5 = mt at *
  go_enter Tryz.func33, Tryz.ntmps33
  go_upto_region 1 with fail
  rw [← hW1]
  clear hW1
  go_upto_region 2 with fail
  rw [← hW2]
  clear hW2 t0 t1
  have hks := (FK.out W2 (Below.refl _ _)).c0
  rw [hk] at hks
  go_upto_region 3 with fail
  rw [← hWa, ← hX0]
  clear hWa hX0 hk hks
  have ch := CI.out X0
  obtain ⟨s0, s1⟩ := FS.out X0 FX0.out
  go_wp2_with fail
  refine ch.mono ?_
  rintro e Y1 ⟨rfl, bY1⟩
  have FY1 : Hid (From W2 Y1) := FX0.out.trans (Below.mono bY1 FX0.out.size)
  have LY1 : Hid (LQ Y1 W2.heap.size (.slice (some ⟨W2.heap.size + 1, 0, none⟩) 1 1) [[5]]) := LX0.out.below bY1
  clear ch bY1 s0 s1 FX0 LX0
  have q1 := (FK.out Y1 FY1.out).c1
  have cn := fnum_own p.id Y1 (FT.out Y1 FY1.out)
  go_wp2_with fail
  refine cn.mono ?_
  rintro e Y2 ⟨u, rfl, ou, bY2⟩
  have FY2 : Hid (From W2 Y2) := FY1.out.trans (Below.mono bY2 FY1.out.size)
  have LY2 : Hid (LQ Y2 W2.heap.size (.slice (some ⟨W2.heap.size + 1, 0, none⟩) 1 1) [[5]]) := LY1.out.below bY2
  obtain ⟨ua, uc, rfl⟩ := ou.shape
  have PU : Hid (Pt Y2 (.slice ua (nB p.id).length uc) (nB p.id)) := Pt.ow ou
  clear cn ou q1 bY2 FY1 LY1
  obtain ⟨V3, hV3⟩ : ∃ V3, V3 = Y2.alloc (.cells #[.slice ua (nB p.id).length uc] 34) := ⟨_, rfl⟩
  have bV3 : Below Y2.heap.size Y2 V3 := by rw [hV3]; exact al_below _ _
  have PV : Hid (Pt V3 (.slice ua (nB p.id).length uc) (nB p.id)) := PU.out.below bV3
  have CV : Hid (V3.cell? ⟨Y2.heap.size, 0, none⟩ = some (.slice ua (nB p.id).length uc)) := by unfold Hid; rw [hV3, World.cell?_alloc_at _ _ _ _ rfl]; rfl
  have FV3 : Hid (From W2 V3) := FY2.out.trans (Below.mono bV3 FY2.out.size)
  have LV3 : Hid (LQ V3 W2.heap.size (.slice (some ⟨W2.heap.size + 1, 0, none⟩) 1 1) [[5]]) := LY2.out.below bV3
  have zV3 := FV3.out.size
  clear bV3 PU FY2 LY2
  go_wp2_with (at_builtin; rw [← hV3]; refine wpList_append_lq rfl _ _ rfl W2.heap.size _ [[5]] rfl LV3.out Y2.heap.size _ _ 1 PV.out rfl CV.out (by simp) zV3 (Hid.out ?_))
  unfold Hid
  intro v3 Y3 lY3 bY3
  try rw [← hV3] at bY3
  have FY3 : Hid (From W2 Y3) := FV3.out.trans bY3
  have LY3 : Hid (LQ Y3 W2.heap.size v3 [[5], nB p.id]) := lY3
  clear bY3 lY3 zV3 FV3 LV3 PV CV hV3
  have ch := CN.out Y3
  obtain ⟨s0, s1⟩ := FS.out Y3 FY3.out
  go_wp2_with fail
  refine ch.mono ?_
  rintro e Y4 ⟨rfl, bY4⟩
  have FY4 : Hid (From W2 Y4) := FY3.out.trans (Below.mono bY4 FY3.out.size)
  have LY4 : Hid (LQ Y4 W2.heap.size v3 [[5], nB p.id]) := LY3.out.below bY4
  clear ch bY4 s0 s1 FY3 LY3
  have ch := CF.out Y4
  obtain ⟨s0, s1⟩ := FS.out Y4 FY4.out
  go_wp2_with fail
  refine ch.mono ?_
  rintro e Y5 ⟨rfl, bY5⟩
  have FY5 : Hid (From W2 Y5) := FY4.out.trans (Below.mono bY5 FY4.out.size)
  have LY5 : Hid (LQ Y5 W2.heap.size v3 [[5], nB p.id]) := LY4.out.below bY5
  clear ch bY5 s0 s1 FY4 LY4
  have ch := CC.out Y5
  obtain ⟨s0, s1⟩ := FS.out Y5 FY5.out
  go_wp2_with fail
  refine ch.mono ?_
  rintro e Y6 ⟨rfl, bY6⟩
  have FY6 : Hid (From W2 Y6) := FY5.out.trans (Below.mono bY6 FY5.out.size)
  have LY6 : Hid (LQ Y6 W2.heap.size v3 [[5], nB p.id]) := LY5.out.below bY6
  clear ch bY6 s0 s1 FY5 LY5
  have q1 := (FK.out Y6 FY6.out).c3
  have cn := fnum_own p.cd Y6 (FT.out Y6 FY6.out)
  go_wp2_with fail
  refine cn.mono ?_
  rintro e Y7 ⟨u, rfl, ou, bY7⟩
  have FY7 : Hid (From W2 Y7) := FY6.out.trans (Below.mono bY7 FY6.out.size)
  have LY7 : Hid (LQ Y7 W2.heap.size v3 [[5], nB p.id]) := LY6.out.below bY7
  obtain ⟨ua, uc, rfl⟩ := ou.shape
  have PU : Hid (Pt Y7 (.slice ua (nB p.cd).length uc) (nB p.cd)) := Pt.ow ou
  clear cn ou q1 bY7 FY6 LY6
  obtain ⟨V8, hV8⟩ : ∃ V8, V8 = Y7.alloc (.cells #[.slice ua (nB p.cd).length uc] 34) := ⟨_, rfl⟩
  have bV8 : Below Y7.heap.size Y7 V8 := by rw [hV8]; exact al_below _ _
  have PV : Hid (Pt V8 (.slice ua (nB p.cd).length uc) (nB p.cd)) := PU.out.below bV8
  have CV : Hid (V8.cell? ⟨Y7.heap.size, 0, none⟩ = some (.slice ua (nB p.cd).length uc)) := by unfold Hid; rw [hV8, World.cell?_alloc_at _ _ _ _ rfl]; rfl
  have FV8 : Hid (From W2 V8) := FY7.out.trans (Below.mono bV8 FY7.out.size)
  have LV8 : Hid (LQ V8 W2.heap.size v3 [[5], nB p.id]) := LY7.out.below bV8
  have zV8 := FV8.out.size
  clear bV8 PU FY7 LY7
  go_wp2_with (at_builtin; rw [← hV8]; refine wpList_append_lq rfl _ _ rfl W2.heap.size _ [[5], nB p.id] rfl LV8.out Y7.heap.size _ _ 1 PV.out rfl CV.out (by simp) zV8 (Hid.out ?_))
  unfold Hid
  intro v8 Y8 lY8 bY8
  try rw [← hV8] at bY8
  have FY8 : Hid (From W2 Y8) := FV8.out.trans bY8
  have LY8 : Hid (LQ Y8 W2.heap.size v8 [[5], nB p.id, nB p.cd]) := lY8
  clear bY8 lY8 zV8 FV8 LV8 PV CV hV8
  have ch := CO.out Y8
  obtain ⟨s0, s1⟩ := FS.out Y8 FY8.out
  go_wp2_with fail
  refine ch.mono ?_
  rintro e Y9 ⟨rfl, bY9⟩
  have FY9 : Hid (From W2 Y9) := FY8.out.trans (Below.mono bY9 FY8.out.size)
  have LY9 : Hid (LQ Y9 W2.heap.size v8 [[5], nB p.id, nB p.cd]) := LY8.out.below bY9
  clear ch bY9 s0 s1 FY8 LY8
  have ch := CT.out Y9
  obtain ⟨s0, s1⟩ := FS.out Y9 FY9.out
  go_wp2_with fail
  refine ch.mono ?_
  rintro e Y10 ⟨rfl, bY10⟩
  have FY10 : Hid (From W2 Y10) := FY9.out.trans (Below.mono bY10 FY9.out.size)
  have LY10 : Hid (LQ Y10 W2.heap.size v8 [[5], nB p.id, nB p.cd]) := LY9.out.below bY10
  clear ch bY10 s0 s1 FY9 LY9
  have ch := CS.out Y10
  obtain ⟨s0, s1⟩ := FS.out Y10 FY10.out
  go_wp2_with fail
  refine ch.mono ?_
  rintro e Y11 ⟨rfl, bY11⟩
  have FY11 : Hid (From W2 Y11) := FY10.out.trans (Below.mono bY11 FY10.out.size)
  have LY11 : Hid (LQ Y11 W2.heap.size v8 [[5], nB p.id, nB p.cd]) := LY10.out.below bY11
  clear ch bY11 s0 s1 FY10 LY10
  obtain ⟨pp, pc, rfl, HP⟩ := LY11.out.parts (by simp)
  have cj := fjoin_any pp pc [[5], nB p.id, nB p.cd] Y11 HP (by have := hlen_ok HOK.out HI.out.k.nl; rw [HPM.out] at this; exact this)
  have cjl : ([[5], nB p.id, nB p.cd] : List (List Int)).length = 3 := rfl
  rw [cjl] at cj
  have HFM : Hid (putM p = ([[5], nB p.id, nB p.cd] : List (List Int)).flatten) := HPM.out
  clear HP HPM cjl
  generalize ([[5], nB p.id, nB p.cd] : List (List Int)).flatten = FM at *
  go_wp2_with fail
  refine cj.mono ?_
  rintro e w9 ⟨v9, rfl, o9, b9⟩
  have HB9 : Hid (Below w.heap.size w w9) := (FB.out Y11 FY11.out).trans (b9.mono (FB.out Y11 FY11.out).size)
  have HO9 : Hid (Ow w9 w.heap.size v9 FM) := o9.mono (Nat.le_trans HWN.out FY11.out.size)
  clear cj b9 o9
  go_wp2
  go_ret
  exact ⟨_, rfl, by rw [HFM.out]; exact HO9.out, HB9.out⟩
end Go.Proofs.YtmplpdjkhdaniaaGreatDoor
