/-
  What the document's Step answers: a Skip.
-/
import Derived.Test.YtcenchnmibdebaaDoorRap
import Derived.Test.YtcenchnmibdebaaDoorRis
import Derived.BigQuiet
namespace Go.Proofs.YtcenchnmibdebaaDoor
open Go.RowKit
set_option maxRecDepth 100000

/-- Where the part of an ID is, of the first j; else -1. -/
def lst (l : List Pa) (i : Int) (j : Nat) : Int := if plc l i < j then (plc l i : Int) else -1
theorem lst_hit {s : Ste} (h : Ris s) {j : Nat} {i : Int} (hj : j < s.l.length) (hi : (atP s.l j).i = i) : lst s.l i (j + 1) = j := by
  unfold lst
  rw [h.one hj hi, if_pos (by omega)]
theorem lst_miss {s : Ste} {j : Nat} {i : Int} (hj : j < s.l.length) (hi : ¬ (atP s.l j).i = i) : lst s.l i (j + 1) = lst s.l i j := by
  unfold lst
  by_cases h1 : plc s.l i < j
  · rw [if_pos h1, if_pos (by omega)]
  · rw [if_neg h1]
    by_cases h2 : plc s.l i = j
    · exact absurd (h2 ▸ plc_at (i := i) (by omega)) hi
    · rw [if_neg (by omega)]
theorem bTq (a : Option Addr) (n c : Nat) (m : Int) : Tryd.prog.built 46 [(0, .slice a n c), (1, .int .i64 m)] = some #[.slice a n c, .int .i64 m] := by kernel_rfl
theorem retSq {tmps : Array Value} {w : World} {g : Nat} {v : Value} {n : Int} {b : Bool} (hp : tmps.getD 4 undef = .pointer (some ⟨g, 0, none⟩)) (he : tmps.getD 5 undef = .bool b)
    (hg : w.heap[g]? = some (.cells #[v, .int .i64 n] 46 (0, 0))) : (results Tryd.f11 tmps).run Tryd.prog w = .ok (.tuple #[.agg #[v, .int .i64 n], .bool b]) w := by
  have hld : (loadVar 46 ⟨g, 0, none⟩).run Tryd.prog w = .ok (.agg #[v, .int .i64 n]) w := run_loadVar_row w g 46 46 #[v, .int .i64 n] (0, 0) _ hg Tryd.underlying46 rfl sizeTq
  rw [results_cell_tmp rfl, hp, he]
  simp [asAddr, Result.andThen, hld]
set_option maxHeartbeats 2000000 in
theorem rstep_skip (v : Value) (s : Ste) (r : Rc) (w : World) (h : PS w v s.l) (hs : Ris s) (hr : r.ok) (hi : r.x.i ≤ 4611686018427387904) (hk : r.k = 4) :
    Calls Tryd.prog 11 #[.agg #[v, .int .i64 s.n], r.val] w fun e w' => ∃ v', e = .returned (.tuple #[SVal v' ((step s r).getD s), .bool (step s r).isSome]) ∧ PS w' v' ((step s r).getD s).l ∧ Below w.heap.size w w' ∧ ((v' = v ∧ ((step s r).getD s).l = s.l) ∨ RPq w' w.heap.size v' ((step s r).getD s).l) := by
  obtain ⟨a, c, rfl, -, -, -⟩ := h.shape
  have hln := hs.ln
  obtain ⟨W0, hW0⟩ : ∃ W0, W0 = w.alloc (.cells #[.slice a s.l.length c, .int .i64 s.n] 46) := ⟨_, rfl⟩
  have b0 : Below w.heap.size w W0 := by rw [hW0]; exact al_below _ _
  have z0 : W0.heap.size = w.heap.size + 1 := by rw [hW0]; simp
  have g0 : W0.heap[w.heap.size]? = some (.cells #[.slice a s.l.length c, .int .i64 s.n] 46 (0, 0)) := by rw [hW0]; exact heap_alloc_new _ _
  obtain ⟨W1, hW1⟩ : ∃ W1, W1 = W0.alloc (.cells r.cells.toArray 25) := ⟨_, rfl⟩
  have b1 : Below W0.heap.size W0 W1 := by rw [hW1]; exact al_below _ _
  have z1 : W1.heap.size = W0.heap.size + 1 := by rw [hW1]; simp
  have r1 : W1.rangeAt W0.heap.size 0 r.cells := by rw [hW1]; exact blk_range (heap_alloc_new _ _)
  obtain ⟨W2, hW2⟩ : ∃ W2, W2 = W1.alloc (.cells #[.slice none 0 0, .int .i64 0] 46) := ⟨_, rfl⟩
  have b2 : Below W1.heap.size W1 W2 := by rw [hW2]; exact al_below _ _
  have z2 : W2.heap.size = W1.heap.size + 1 := by rw [hW2]; simp
  have g2 : W2.heap[W1.heap.size]? = some (.cells #[.slice none 0 0, .int .i64 0] 46 (0, 0)) := by rw [hW2]; exact heap_alloc_new _ _
  have b02 : Below W0.heap.size W0 W2 := b1.trans (b2.mono b1.size)
  have b2' : Below w.heap.size w W2 := b0.trans (b02.mono b0.size)
  have FK : Hid (∀ W, Below W2.heap.size W2 W → W.cell? ⟨w.heap.size, 0, none⟩ = some (.slice a s.l.length c) ∧ W.cell? ⟨w.heap.size, 1, none⟩ = some (.int .i64 s.n) ∧ W.rangeAt w.heap.size 0 [.slice a s.l.length c, .int .i64 s.n] ∧ W.cell? ⟨W0.heap.size, 0, none⟩ = some (.int .u8 r.k) ∧ W.cell? ⟨W0.heap.size, 1, none⟩ = some (.int .i64 r.x.i) ∧ W.heap[W1.heap.size]? = some (.cells #[.slice none 0 0, .int .i64 0] 46 (0, 0)) ∧ Below w.heap.size w W) := fun W hb => by
    have h1 := blk_kept (blk_kept g0 b02 (by omega)) hb (by omega)
    obtain ⟨q0, q1, -⟩ := rcC (range_kept (range_kept r1 b2) hb) hr
    simp only [Nat.zero_add] at q0 q1
    exact ⟨by simp [World.cell?, h1], by simp [World.cell?, h1], blk_range h1, q0, q1, blk_kept g2 hb (by omega), b2'.trans (hb.mono b2'.size)⟩
  have HS : Hid (PS W2 (.slice a s.l.length c) s.l) := h.kept b2'
  have HI : Hid (Ris s) := hs
  have H0 : Hid (PS w (.slice a s.l.length c) s.l) := h
  have HST : Hid (step s r = if r.x.i < s.n then none else some ⟨s.l, r.x.i + 1⟩) := by unfold Hid step; rw [hk]; simp
  have HSZ : Hid (w.heap.size ≤ W1.heap.size) := by unfold Hid; omega
  have yw : wrap64 (r.x.i + 1) = r.x.i + 1 := by have := hr.2.2.2.2.1.1; unfold wrap64; omega
  have yp : IntKind.i64.wrap (r.x.i + 1) = r.x.i + 1 := by have := hr.2.2.2.2.1.1; rw [IntKind.wrap_i64]; omega
  rw [hk] at FK
  unfold Rc.val
  have hw0 := hW0.symm
  have hw1 := hW1.symm
  have hw2 := hW2.symm
  obtain ⟨n, hn'⟩ : ∃ n, n = s.l.length := ⟨_, rfl⟩
  have HN : Hid (n = s.l.length) := hn'
  rw [← hn'] at HS H0 hln FK hw0 ⊢
  clear h hs hr hi hk hn' hW0 b0 z0 g0 hW1 b1 z1 r1 hW2 b2 z2 g2 b02 b2'
  generalize r.cells = rcs at *
  generalize hSTP : step s r = R at *
  generalize r.x.i = ii at *
  clear hSTP
  go_enter Tryd.func11, Tryd.ntmps11
  go_wp2_with fail
  try rw [hw0]
  try rw [hw1]
  try rw [hw2]
  try clear hw2
  try clear hw1
  try clear hw0
  go_loopw [7, 8] (fun y z wr => ∃ j : Nat, j ≤ n ∧ z = .int .i64 j ∧ y = .int .i64 (lst s.l ii j) ∧ Below W2.heap.size W2 wr) (fun _ z _ => n - (intOf z).toNat)
  case atStart => exact ⟨0, by omega, rfl, rfl, Below.refl _ _⟩
  case round =>
    obtain ⟨j, hj, rfl, rfl, bel⟩ := hrel
    obtain ⟨c0, c1, c2, c3, c4, c5, c6⟩ := FK.out wr bel
    have C2 : Hid (wr.rangeAt w.heap.size 0 [.slice a n c, .int .i64 s.n]) := c2
    have C5 : Hid (wr.heap[W1.heap.size]? = some (.cells #[.slice none 0 0, .int .i64 0] 46 (0, 0)) ∧ Below w.heap.size w wr) := ⟨c5, c6⟩
    have HB : Hid (Below W2.heap.size W2 wr) := bel
    clear c2 c5 c6
    by_cases hlt : j < n
    · have lt2 : (j : Int) < (n : Int) := by omega
      have lt3 : (0 : Int) ≤ (j : Int) := by omega
      obtain ⟨b, off, rfl, hr1⟩ := (HS.out.kept bel).at j (by rw [← HN.out]; exact hlt)
      have hx := Pa.at s.l HI.out.ok j
      obtain ⟨k0, -⟩ := paC hr1 hx
      have NH : Hid ((atP s.l j).i = ii → lst s.l ii (j + 1) = j) := fun e => lst_hit HI.out (by rw [← HN.out]; exact hlt) e
      have NM : Hid (¬ (atP s.l j).i = ii → lst s.l ii (j + 1) = lst s.l ii j) := fun e => lst_miss (by rw [← HN.out]; exact hlt) e
      clear hr1 hx bel C2 C5
      generalize atP s.l j = x at *
      by_cases hq : x.i = ii
      · have t0 : (x.i == ii) = true := by simpa using hq
        have NX : Hid (lst s.l ii (j + 1) = j) := NH.out hq
        clear NH NM hq
        generalize x.i = xi at *
        go_wp2_with fail
        go_quiet (fail)
        have BZ : Hid (Below W2.heap.size W2 (wr.drewN nq)) := ⟨HB.out.os, HB.out.tape, HB.out.output, HB.out.size, HB.out.block⟩
        go_wp2
        go_roundw
        case rel => exact ⟨j + 1, by omega, by go_num, by rw [NX.out], BZ.out⟩
        case measure => simp [intOf]; omega
      · have t0 : (x.i == ii) = false := by simpa using hq
        have NX : Hid (lst s.l ii (j + 1) = lst s.l ii j) := NM.out hq
        clear NH NM hq
        generalize x.i = xi at *
        go_wp2_with fail
        go_quiet (fail)
        have BZ : Hid (Below W2.heap.size W2 (wr.drewN nq)) := ⟨HB.out.os, HB.out.tape, HB.out.output, HB.out.size, HB.out.block⟩
        go_wp2
        go_roundw
        case rel => exact ⟨j + 1, by omega, by go_num, by rw [NX.out], BZ.out⟩
        case measure => simp [intOf]; omega
    · obtain rfl : j = n := by omega
      have HP := H0
      clear bel HB HS
      by_cases hq : ii < s.n
      · have d1 : decide (ii < s.n) = true := decide_eq_true hq
        have HR : Hid (R = none) := by unfold Hid; rw [HST.out, if_pos hq]
        clear hq HST
        go_wp2_with (first
          | refine wpList_load_mid rfl 46 _ rfl w.heap.size 0 rfl [.slice a j c, .int .i64 s.n] _ C2.out Tryd.underlying46 rfl sizeTq ?_
          | refine wpList_store_row rfl 46 _ _ rfl W1.heap.size #[.slice a j c, .int .i64 s.n] rfl rfl 46 #[.slice none 0 0, .int .i64 0] C5.out.1 sizeTq rfl (st_ones _ _ _ _) ?_)
        exact bodyPost_ret (v := .tuple #[.agg #[.slice a j c, .int .i64 s.n], .bool false]) (retSq rfl rfl (setRow_heap _ _ _ _ _ _ C5.out.1)) rfl ⟨.slice a j c, by rw [HR.out]; rfl, by rw [HR.out]; exact HP.out.kept (below_setRow C5.out.2 HSZ.out _), below_setRow C5.out.2 HSZ.out _, .inl ⟨rfl, by rw [HR.out]; rfl⟩⟩
      · have d1 : decide (ii < s.n) = false := decide_eq_false hq
        have HR : Hid (R = some ⟨s.l, ii + 1⟩) := by unfold Hid; rw [HST.out, if_neg hq]
        clear hq HST
        go_wp2_with (first
          | refine wpList_built rfl 46 [(0, _), (1, _)] rfl [(0, .slice a j c), (1, .int .i64 (ii + 1))] rfl #[.slice a j c, .int .i64 (ii + 1)] (bTq _ _ _ _) ?_
          | refine wpList_store_row rfl 46 _ _ rfl W1.heap.size #[.slice a j c, .int .i64 (ii + 1)] rfl rfl 46 #[.slice none 0 0, .int .i64 0] C5.out.1 sizeTq rfl (st_ones _ _ _ _) ?_)
        exact bodyPost_ret (v := .tuple #[.agg #[.slice a j c, .int .i64 (ii + 1)], .bool true]) (retSq rfl rfl (setRow_heap _ _ _ _ _ _ C5.out.1)) rfl ⟨.slice a j c, by rw [HR.out]; rfl, by rw [HR.out]; exact HP.out.kept (below_setRow C5.out.2 HSZ.out _), below_setRow C5.out.2 HSZ.out _, .inl ⟨rfl, by rw [HR.out]; rfl⟩⟩
end Go.Proofs.YtcenchnmibdebaaDoor
