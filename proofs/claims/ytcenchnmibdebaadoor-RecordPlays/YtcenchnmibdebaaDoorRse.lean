/-
  What the document's Step answers: a Done, a Drop.
-/
import Derived.Test.YtcenchnmibdebaaDoorRsb
import Derived.Test.YtcenchnmibdebaaDoorTg
import Derived.Test.YtcenchnmibdebaaDoorTm
import Derived.Deep.DeepCutAuto
namespace Go.Proofs.YtcenchnmibdebaaDoor
open Go.RowKit
set_option maxRecDepth 100000

theorem PS.cut {w : World} {a : Option Addr} {n c : Nat} {l : List Pa} (h : PS w (.slice a n c) l) (lo hi : Nat) (h1 : lo ≤ hi) (h2 : hi ≤ n) : PS w (sliced a lo hi c 36) ((l.take hi).drop lo) := by
  obtain ⟨h0, hok⟩ := h
  refine ⟨?_, fun x hx => hok x (List.mem_of_mem_take (List.mem_of_mem_drop hx))⟩
  obtain ⟨a', c', e, q2, q3, q4, q5, q6⟩ := h0
  cases e
  rw [List.length_map] at h2 q2
  have hl : (((l.take hi).drop lo).map Pa.cells).length = hi - lo := by rw [List.length_map, List.length_drop, List.length_take]; omega
  unfold sliced
  refine ⟨_, c - lo, by rw [hl], by rw [hl]; omega, by omega, fun e => ?_, cl_pa (fun x hx => hok x (List.mem_of_mem_take (List.mem_of_mem_drop hx))), ?_⟩
  · by_cases hc : c = lo
    · omega
    · rw [if_neg hc, Option.map_eq_none_iff] at e
      have := q4 e
      omega
  · by_cases hz : hi = lo
    · refine .inl (List.length_eq_zero_iff.1 ?_)
      rw [hl]
      omega
    · rcases q6 with q6 | ⟨b, off, rfl, q7⟩
      · have : l.length = 0 := by rw [← List.length_map (f := Pa.cells), q6]; rfl
        omega
      · refine .inr ⟨b, off + lo * 36, by rw [if_neg (by omega), Option.map_some, Addr.add_lit], fun i hi' => ?_⟩
        rw [hl] at hi'
        have := q7 (lo + i) (by rw [List.length_map]; omega)
        rw [atC_pa l (lo + i) (by omega)] at this
        rw [atC_pa _ i (by rw [List.length_drop, List.length_take]; omega)]
        have e : atP ((l.take hi).drop lo) i = atP l (lo + i) := by
          rw [atP_eq _ i (by rw [List.length_drop, List.length_take]; omega), atP_eq l (lo + i) (by omega)]
          simp
        rw [e]
        have e2 : off + lo * 36 + i * 36 = off + (lo + i) * 36 := by rw [Nat.add_mul]; omega
        rw [e2]
        exact this
set_option maxHeartbeats 4000000 in
theorem rstep_end (v : Value) (s : Ste) (r : Rc) (w : World) (h : PS w v s.l) (hs : Ris s) (hr : r.ok) (hi : r.x.i ≤ 4611686018427387904) (hk : r.k = 2 ∨ r.k = 3) (hp : plc s.l r.x.i < s.l.length) :
    Calls Tryd.prog 11 #[.agg #[v, .int .i64 s.n], r.val] w fun e w' => ∃ v', e = .returned (.tuple #[SVal v' ((step s r).getD s), .bool (step s r).isSome]) ∧ PS w' v' ((step s r).getD s).l ∧ Below w.heap.size w w' ∧ ((v' = v ∧ ((step s r).getD s).l = s.l) ∨ RPq w' w.heap.size v' ((step s r).getD s).l) := by
  obtain ⟨a, c, rfl, hac, hcm, -⟩ := h.shape
  have hln := hs.ln
  obtain ⟨W0, hW0⟩ : ∃ W0, W0 = w.alloc (.cells #[.slice a s.l.length c, .int .i64 s.n] 46) := ⟨_, rfl⟩
  have b0 : Below w.heap.size w W0 := by rw [hW0]; exact al_below _ _
  have z0 : W0.heap.size = w.heap.size + 1 := by rw [hW0]; simp
  have g0 : W0.heap[w.heap.size]? = some (.cells #[.slice a s.l.length c, .int .i64 s.n] 46 (0, 0)) := by rw [hW0]; exact heap_alloc_new _ _
  obtain ⟨W1, hW1⟩ : ∃ W1, W1 = W0.alloc (.cells r.cells.toArray 25) := ⟨_, rfl⟩
  have b1 : Below W0.heap.size W0 W1 := by rw [hW1]; exact al_below _ _
  have z1 : W1.heap.size = W0.heap.size + 1 := by rw [hW1]; simp
  have g1 : W1.heap[W0.heap.size]? = some (.cells r.cells.toArray 25 (0, 0)) := by rw [hW1]; exact heap_alloc_new _ _
  obtain ⟨W2, hW2⟩ : ∃ W2, W2 = W1.alloc (.cells #[.slice none 0 0, .int .i64 0] 46) := ⟨_, rfl⟩
  have b2 : Below W1.heap.size W1 W2 := by rw [hW2]; exact al_below _ _
  have z2 : W2.heap.size = W1.heap.size + 1 := by rw [hW2]; simp
  have g2 : W2.heap[W1.heap.size]? = some (.cells #[.slice none 0 0, .int .i64 0] 46 (0, 0)) := by rw [hW2]; exact heap_alloc_new _ _
  have b02 : Below W0.heap.size W0 W2 := b1.trans (b2.mono b1.size)
  have b2' : Below w.heap.size w W2 := b0.trans (b02.mono b0.size)
  have FB : Hid (∀ W, Below W2.heap.size W2 W → W.heap[w.heap.size]? = some (.cells #[.slice a s.l.length c, .int .i64 s.n] 46 (0, 0)) ∧ W.heap[W0.heap.size]? = some (.cells r.cells.toArray 25 (0, 0)) ∧ W.heap[W1.heap.size]? = some (.cells #[.slice none 0 0, .int .i64 0] 46 (0, 0)) ∧ Below w.heap.size w W) := fun W hb => ⟨blk_kept (blk_kept g0 b02 (by omega)) hb (by omega), blk_kept (blk_kept g1 b2 (by omega)) hb (by omega), blk_kept g2 hb (by omega), b2'.trans (hb.mono b2'.size)⟩
  have FK : Hid (∀ W, Below W2.heap.size W2 W → W.cell? ⟨w.heap.size, 0, none⟩ = some (.slice a s.l.length c) ∧ W.cell? ⟨w.heap.size, 1, none⟩ = some (.int .i64 s.n) ∧ W.rangeAt w.heap.size 0 [.slice a s.l.length c, .int .i64 s.n] ∧ W.cell? ⟨W0.heap.size, 0, none⟩ = some (.int .u8 r.k) ∧ W.cell? ⟨W0.heap.size, 1, none⟩ = some (.int .i64 r.x.i) ∧ W.cell? ⟨W0.heap.size, 2, none⟩ = some (.string r.x.p) ∧ W.cell? ⟨W0.heap.size, 35, none⟩ = some (.int .i64 r.x.n) ∧ W.cell? ⟨W0.heap.size, 36, none⟩ = some (.int .i64 r.x.o) ∧ W.heap[W1.heap.size]? = some (.cells #[.slice none 0 0, .int .i64 0] 46 (0, 0)) ∧ Below w.heap.size w W) := fun W hb => by
    obtain ⟨h1, h2, h3, h4⟩ := FB.out W hb
    obtain ⟨q0, q1, q2, -, q4, q5⟩ := rcC (blk_range h2) hr
    simp only [Nat.zero_add] at q0 q1 q2 q4 q5
    exact ⟨by simp [World.cell?, h1], by simp [World.cell?, h1], blk_range h1, q0, q1, q2, q4, q5, h3, h4⟩
  have HS : Hid (PS W2 (.slice a s.l.length c) s.l) := h.kept b2'
  have HI : Hid (Ris s) := hs
  have HRO : Hid r.ok := hr
  have H0 : Hid (PS w (.slice a s.l.length c) s.l) := h
  have HSZ : Hid (w.heap.size ≤ W1.heap.size) := by unfold Hid; omega
  have HSY : Hid (w.heap.size ≤ W2.heap.size ∧ w.heap.size ≠ W1.heap.size ∧ W0.heap.size ≠ W1.heap.size) := ⟨by omega, by omega, by omega⟩
  have yw : wrap64 (r.x.i + 1) = r.x.i + 1 := by have := hr.2.2.2.2.1.1; unfold wrap64; omega
  have yp : IntKind.i64.wrap (r.x.i + 1) = r.x.i + 1 := by have := hr.2.2.2.2.1.1; rw [IntKind.wrap_i64]; omega
  have HM : Hid (step s r = if plc s.l r.x.i < s.l.length then some ⟨s.l.eraseIdx (plc s.l r.x.i), s.n⟩ else none) := by unfold Hid step; rw [if_neg (by omega), if_neg (by omega), if_pos hk]
  have HR : Hid (step s r = some ⟨s.l.eraseIdx (plc s.l r.x.i), s.n⟩) := by unfold Hid; rw [HM.out, if_pos hp]
  have HP : Hid (plc s.l r.x.i < s.l.length) := hp
  have e0 : (r.k == 0) = false := by rcases hk with q | q <;> rw [q] <;> rfl
  have e4 : (r.k == 4) = false := by rcases hk with q | q <;> rw [q] <;> rfl
  have e1 : (r.k == 1) = false := by rcases hk with q | q <;> rw [q] <;> rfl
  have d4 : decide (4 < r.k) = false := by rcases hk with q | q <;> rw [q] <;> rfl
  clear HM
  unfold Rc.val
  have hw0 := hW0.symm
  have hw1 := hW1.symm
  have hw2 := hW2.symm
  obtain ⟨n, hn'⟩ : ∃ n, n = s.l.length := ⟨_, rfl⟩
  have HN : Hid (n = s.l.length) := hn'
  rw [← hn'] at HS H0 hln FK FB HP hw0 hac ⊢
  obtain ⟨rcs, hrcs⟩ : ∃ rcs, rcs = r.cells := ⟨_, rfl⟩
  have HCS : Hid (rcs = r.cells) := hrcs
  rw [← hrcs] at FB hw1 ⊢
  clear h hs hr hi hn' hrcs hW0 b0 z0 g0 hW1 b1 z1 g1 hW2 b2 z2 g2 b02 b2' hk hp hcm yw yp
  generalize hSTP : step s r = R at *
  generalize r.x.i = ii at *
  generalize r.k = kk at *
  clear hSTP
  go_enter Tryd.func11, Tryd.ntmps11
  go_wp2_with fail
  try rw [hw0]
  try rw [hw1]
  try rw [hw2]
  try clear hw2
  try clear hw1
  try clear hw0
  go_loopw [7, 8] (fun y z wr => ∃ j : Nat, j ≤ n ∧ z = .int .i64 j ∧ y = .int .i64 (lst s.l ii j) ∧ Below W2.heap.size W2 wr) (fun _ z _ => n - (intOf z).toNat)
  case atStart => exact ⟨0, by omega, rfl, rfl, Below.refl _ _⟩
  case round =>
    obtain ⟨j, hj, rfl, rfl, bel⟩ := hrel
    have HB : Hid (Below W2.heap.size W2 wr) := bel
    by_cases hlt : j < n
    · have lt2 : (j : Int) < (n : Int) := by omega
      have lt3 : (0 : Int) ≤ (j : Int) := by omega
      obtain ⟨c0, c1, -, c3, c4, -, -, -, -, -⟩ := FK.out wr bel
      obtain ⟨b, off, rfl, hr1⟩ := (HS.out.kept bel).at j (by rw [← HN.out]; exact hlt)
      have hx := Pa.at s.l HI.out.ok j
      obtain ⟨k0, -⟩ := paC hr1 hx
      have NH : Hid ((atP s.l j).i = ii → lst s.l ii (j + 1) = j) := fun e => lst_hit HI.out (by rw [← HN.out]; exact hlt) e
      have NM : Hid (¬ (atP s.l j).i = ii → lst s.l ii (j + 1) = lst s.l ii j) := fun e => lst_miss (by rw [← HN.out]; exact hlt) e
      clear hr1 hx bel FK FB
      generalize atP s.l j = x at *
      by_cases hq : x.i = ii
      · have t0 : (x.i == ii) = true := by simpa using hq
        have NX : Hid (lst s.l ii (j + 1) = j) := NH.out hq
        clear NH NM hq
        generalize x.i = xi at *
        go_wp2_with fail
        go_quiet (fail)
        have BZ : Hid (Below W2.heap.size W2 (wr.drewN nq)) := ⟨HB.out.os, HB.out.tape, HB.out.output, HB.out.size, HB.out.block⟩
        go_wp2
        go_roundw
        case rel => exact ⟨j + 1, by omega, by go_num, by rw [NX.out], BZ.out⟩
        case measure => simp [intOf]; omega
      · have t0 : (x.i == ii) = false := by simpa using hq
        have NX : Hid (lst s.l ii (j + 1) = lst s.l ii j) := NM.out hq
        clear NH NM hq
        generalize x.i = xi at *
        go_wp2_with fail
        go_quiet (fail)
        have BZ : Hid (Below W2.heap.size W2 (wr.drewN nq)) := ⟨HB.out.os, HB.out.tape, HB.out.output, HB.out.size, HB.out.block⟩
        go_wp2
        go_roundw
        case rel => exact ⟨j + 1, by omega, by go_num, by rw [NX.out], BZ.out⟩
        case measure => simp [intOf]; omega
    · obtain rfl : j = n := by omega
      obtain ⟨c0, c1, -, c3, c4, -, -, -, -, -⟩ := FK.out wr bel
      have el : lst s.l ii j = (plc s.l ii : Int) := by unfold lst; rw [if_pos HP.out]
      have HER : Hid (([] ++ (s.l.take (plc s.l ii)).drop 0) ++ (s.l.take j).drop (plc s.l ii + 1) = s.l.eraseIdx (plc s.l ii)) := by
        unfold Hid
        rw [HN.out, List.take_length, List.drop_zero, List.nil_append, List.eraseIdx_eq_take_drop_succ]
      have HLE : Hid ((s.l.eraseIdx (plc s.l ii)).length = j - 1) := by unfold Hid; rw [List.length_eraseIdx, ← HN.out, if_pos HP.out]
      have HL1 : Hid (([] ++ (s.l.take (plc s.l ii)).drop 0 : List Pa).length ≤ 1000) := by unfold Hid; rw [List.drop_zero, List.nil_append, List.length_take, ← HN.out]; omega
      have HL2 : Hid (((s.l.take j).drop (plc s.l ii + 1)).length ≤ 1000) := by unfold Hid; rw [List.length_drop, List.length_take, ← HN.out]; omega
      have HPS : Hid (∀ W, Below W2.heap.size W2 W → PS W (.slice a j c) s.l) := fun W hb => H0.out.kept ((FB.out W hb).2.2.2)
      obtain ⟨b, off, rfl, -⟩ := (HS.out.kept bel).at (plc s.l ii) (by rw [← HN.out]; exact HP.out)
      rw [el]
      clear el HS
      generalize plc s.l ii = pp at *
      have hp := HP.out
      have lp : (pp : Int) < (j : Int) := by omega
      have lp0 : (0 : Int) ≤ (pp : Int) := by omega
      have lp1 : (0 : Int) ≤ (pp : Int) + 1 := by omega
      have lp2 : (pp : Int) + 1 ≤ (j : Int) := by omega
      have lpc : (pp : Int) ≤ (c : Int) := by omega
      have yq : wrap64 ((pp : Int) + 1) = (pp : Int) + 1 := by unfold wrap64; omega
      have yr : IntKind.i64.wrap ((pp : Int) + 1) = (pp : Int) + 1 := by rw [IntKind.wrap_i64]; omega
      have tn : ((pp : Int) + 1).toNat = pp + 1 := by omega
      have d1 : decide ((pp : Int) < 0) = false := by simp
      have HF := HB
      clear HB bel
      go_upto_region 25 with fail
      clear c0 c1 c3 c4
      refine wp_region_held_drew (S := fun W : World => W.heap[w.heap.size]? = some (.cells #[.slice (some ⟨b, off, none⟩) j c, .int .i64 s.n] 46 (0, 0))) (by kernel_rfl) ((FB.out wr HF.out).1) (fun _ => ?_)
      refine wpAnyH_name (fun u0 hu0 => ?_)
      have su0 : (fun W : World => W.heap[w.heap.size]? = some (.cells #[.slice (some ⟨b, off, none⟩) j c, .int .i64 s.n] 46 (0, 0))) u0 := by rw [hu0.out]; exact ((FB.out wr HF.out).1)
      have Tu0 : Below W2.heap.size W2 u0 := by rw [hu0.out]; exact HF.out.drew
      refine wpAnyH_take (i := 0) (oi := { dst := some 137, op := Op.move (Operand.tmp 6), type := 44, pos := "ref.go:189", after := #[], guard := none }) (v := ?vq1) rfl (by kernel_rfl) (by kernel_rfl) (by kernel_rfl) (fun _ _ _ h => h) (Or.inl ⟨by rfl, ?yq1⟩) su0 ?rq1
      case yq1 => (intro w hSw; go_simp; try with_reducible rfl)
      try simp only [Act.put, List.setIfInBounds_toArray, List.set_cons_zero, List.set_cons_succ]
      refine wpAnyH_take (i := 1) (oi := { dst := some 138, op := Op.fieldAddr 46 (Operand.tmp 2) 0, type := 0, pos := "ref.go:189", after := #[], guard := none }) (v := ?vq2) rfl (by kernel_rfl) (by kernel_rfl) (by kernel_rfl) (fun _ _ _ h => h) (Or.inl ⟨by rfl, ?yq2⟩) su0 ?rq2
      case yq2 => (intro w hSw; go_simp; try with_reducible rfl)
      try simp only [Act.put, List.setIfInBounds_toArray, List.set_cons_zero, List.set_cons_succ]
      refine wpAnyH_take (i := 2) (oi := { dst := some 139, op := Op.load 44 (Operand.tmp 138), type := 44, pos := "ref.go:189", after := #[{ on := 1, ground := Ground.data }], guard := none }) (v := ?vq3) rfl (by kernel_rfl) (by kernel_rfl) (by kernel_rfl) (fun _ _ _ h => h) (Or.inl ⟨by rfl, ?yq3⟩) su0 ?rq3
      case yq3 => (intro w hSw; have t0 := blk_c0 hSw; go_simp; try with_reducible rfl)
      try simp only [Act.put, List.setIfInBounds_toArray, List.set_cons_zero, List.set_cons_succ]
      refine wpAnyH_take (i := 3) (oi := { dst := some 140, op := Op.move (Operand.tmp 7), type := 3, pos := "ref.go:189", after := #[], guard := none }) (v := ?vq4) rfl (by kernel_rfl) (by kernel_rfl) (by kernel_rfl) (fun _ _ _ h => h) (Or.inl ⟨by rfl, ?yq4⟩) su0 ?rq4
      case yq4 => (intro w hSw; go_simp; try with_reducible rfl)
      try simp only [Act.put, List.setIfInBounds_toArray, List.set_cons_zero, List.set_cons_succ]
      refine wpAnyH_take (i := 4) (oi := { dst := some 141, op := Op.slice 44 (Operand.tmp 139) none (some (Operand.tmp 140)) none, type := 44, pos := "ref.go:189", after := #[{ on := 2, ground := Ground.data }, { on := 3, ground := Ground.data }], guard := none }) (v := sliced (some ⟨b, off, none⟩) 0 pp c 36) rfl (by kernel_rfl) (by kernel_rfl) (by kernel_rfl) (fun _ _ _ h => h) (Or.inl ⟨by rfl, ?yq5⟩) su0 ?rq5
      case yq5 => (intro w hSw; go_simp; try with_reducible rfl)
      try simp only [Act.put, List.setIfInBounds_toArray, List.set_cons_zero, List.set_cons_succ]
      refine wpAnyH_take (i := 6) (oi := { dst := some 143, op := Op.fieldAddr 46 (Operand.tmp 2) 0, type := 0, pos := "ref.go:189", after := #[], guard := none }) (v := ?vq6) rfl (by kernel_rfl) (by kernel_rfl) (by kernel_rfl) (fun _ _ _ h => h) (Or.inl ⟨by rfl, ?yq6⟩) su0 ?rq6
      case yq6 => (intro w hSw; go_simp; try with_reducible rfl)
      try simp only [Act.put, List.setIfInBounds_toArray, List.set_cons_zero, List.set_cons_succ]
      refine wpAnyH_take (i := 7) (oi := { dst := some 144, op := Op.load 44 (Operand.tmp 143), type := 44, pos := "ref.go:189", after := #[{ on := 6, ground := Ground.data }], guard := none }) (v := ?vq7) rfl (by kernel_rfl) (by kernel_rfl) (by kernel_rfl) (fun _ _ _ h => h) (Or.inl ⟨by rfl, ?yq7⟩) su0 ?rq7
      case yq7 => (intro w hSw; have t0 := blk_c0 hSw; go_simp; try with_reducible rfl)
      try simp only [Act.put, List.setIfInBounds_toArray, List.set_cons_zero, List.set_cons_succ]
      refine wpAnyH_take (i := 8) (oi := { dst := some 145, op := Op.move (Operand.tmp 7), type := 3, pos := "ref.go:189", after := #[], guard := none }) (v := ?vq8) rfl (by kernel_rfl) (by kernel_rfl) (by kernel_rfl) (fun _ _ _ h => h) (Or.inl ⟨by rfl, ?yq8⟩) su0 ?rq8
      case yq8 => (intro w hSw; go_simp; try with_reducible rfl)
      try simp only [Act.put, List.setIfInBounds_toArray, List.set_cons_zero, List.set_cons_succ]
      refine wpAnyH_take (i := 9) (oi := { dst := some 146, op := Op.binOp BinOp.add 3 (Operand.tmp 145) (Operand.const (Value.int IntKind.i64 1)) 3, type := 3, pos := "ref.go:189", after := #[{ on := 8, ground := Ground.data }], guard := none }) (v := .int .i64 ((pp : Int) + 1)) rfl (by kernel_rfl) (by kernel_rfl) (by kernel_rfl) (fun _ _ _ h => h) (Or.inl ⟨by rfl, ?yq9⟩) su0 ?rq9
      case yq9 => (intro w hSw; go_simp; try with_reducible rfl)
      try simp only [Act.put, List.setIfInBounds_toArray, List.set_cons_zero, List.set_cons_succ]
      refine wpAnyH_take (i := 10) (oi := { dst := some 147, op := Op.slice 44 (Operand.tmp 144) (some (Operand.tmp 146)) none none, type := 44, pos := "ref.go:189", after := #[{ on := 7, ground := Ground.data }, { on := 9, ground := Ground.data }], guard := none }) (v := sliced (some ⟨b, off, none⟩) (pp + 1) j c 36) rfl (by kernel_rfl) (by kernel_rfl) (by kernel_rfl) (fun _ _ _ h => h) (Or.inl ⟨by rfl, ?yq10⟩) su0 ?rq10
      case yq10 => (intro w hSw; go_simp; try with_reducible rfl)
      try simp only [Act.put, List.setIfInBounds_toArray, List.set_cons_zero, List.set_cons_succ]
      refine wpAnyH_take (i := 12) (oi := { dst := some 149, op := Op.fieldAddr 46 (Operand.tmp 2) 1, type := 0, pos := "ref.go:189", after := #[], guard := none }) (v := ?vq11) rfl (by kernel_rfl) (by kernel_rfl) (by kernel_rfl) (fun _ _ _ h => h) (Or.inl ⟨by rfl, ?yq11⟩) su0 ?rq11
      case yq11 => (intro w hSw; go_simp; try with_reducible rfl)
      try simp only [Act.put, List.setIfInBounds_toArray, List.set_cons_zero, List.set_cons_succ]
      refine wpAnyH_take (i := 13) (oi := { dst := some 150, op := Op.load 3 (Operand.tmp 149), type := 3, pos := "ref.go:189", after := #[{ on := 12, ground := Ground.data }], guard := none }) (v := ?vq12) rfl (by kernel_rfl) (by kernel_rfl) (by kernel_rfl) (fun _ _ _ h => h) (Or.inl ⟨by rfl, ?yq12⟩) su0 ?rq12
      case yq12 => (intro w hSw; have t0 := blk_c1 hSw; go_simp; try with_reducible rfl)
      try simp only [Act.put, List.setIfInBounds_toArray, List.set_cons_zero, List.set_cons_succ]
      refine wpAnyH_ready (rs := [5]) (by kernel_rfl) (by simp) ?_
      refine AllReadyH.cons (o := { dst := some 142, op := Op.call { callee := Callee.builtin Builtin.append, args := #[Operand.tmp 137, Operand.tmp 141], argTypes := #[44, 44] }, type := 44, pos := "ref.go:189", after := #[{ on := 0, ground := Ground.data }, { on := 4, ground := Ground.data }], guard := none }) rfl (fun KK hKK => ?_) ?_
      · refine wp_append_psq _ _ rfl W2.heap.size _ [] rfl (RPt.nil _ _ _) _ ((s.l.take pp).drop 0) rfl ((HPS.out _ Tu0).cut 0 pp (Nat.zero_le _) (Nat.le_of_lt HP.out)) (by have := HL1.out; rw [List.nil_append] at this; simp only [List.length_nil]; omega) Tu0.size ?_
        intro v3 u13' r3 g3
        refine hKK.out _ _ ((g3.block _ (blk_lt su0) (fun e => own_ne (RPt.nil 61 u0 W2.heap.size).1.1 su0 (by decide) e.symm)).trans su0) (fun _ => ?_)
        clear hKK KK
        try simp only [Act.put, List.setIfInBounds_toArray, List.set_cons_zero, List.set_cons_succ]
        refine wpAnyH_name (fun u13 hu13 => ?_)
        have su13 : (fun W : World => W.heap[w.heap.size]? = some (.cells #[.slice (some ⟨b, off, none⟩) j c, .int .i64 s.n] 46 (0, 0))) u13 := by rw [hu13.out]; exact ((g3.block _ (blk_lt su0) (fun e => own_ne (RPt.nil 61 u0 W2.heap.size).1.1 su0 (by decide) e.symm)).trans su0)
        have Tu13 : Below W2.heap.size W2 u13 := by rw [hu13.out]; exact Tu0.trans ((Below.refl _ u0).grown g3 Tu0.size (own_base (RPt.nil 61 u0 W2.heap.size).1.1))
        rw [← hu13.out] at r3 g3
        have Ru13 := r3
        refine wpAnyH_ready (rs := [11]) (by kernel_rfl) (by simp) ?_
        refine AllReadyH.cons (o := { dst := some 148, op := Op.call { callee := Callee.builtin Builtin.append, args := #[Operand.tmp 142, Operand.tmp 147], argTypes := #[44, 44] }, type := 44, pos := "ref.go:189", after := #[{ on := 5, ground := Ground.data }, { on := 10, ground := Ground.data }, { on := 5, ground := Ground.chain }], guard := none }) rfl (fun KK hKK => ?_) ?_
        · refine wp_append_psq _ _ rfl W2.heap.size _ _ rfl Ru13 _ ((s.l.take j).drop (pp + 1)) rfl ((HPS.out _ Tu13).cut (pp + 1) j HP.out (Nat.le_refl _)) (by have := HL1.out; have := HL2.out; omega) Tu13.size ?_
          intro v9 u14' r9 g9
          refine hKK.out _ _ ((g9.block _ (blk_lt su13) (fun e => own_ne Ru13.1.1 su13 (by decide) e.symm)).trans su13) (fun _ => ?_)
          clear hKK KK
          try simp only [Act.put, List.setIfInBounds_toArray, List.set_cons_zero, List.set_cons_succ]
          refine wpAnyH_name (fun u14 hu14 => ?_)
          have su14 : (fun W : World => W.heap[w.heap.size]? = some (.cells #[.slice (some ⟨b, off, none⟩) j c, .int .i64 s.n] 46 (0, 0))) u14 := by rw [hu14.out]; exact ((g9.block _ (blk_lt su13) (fun e => own_ne Ru13.1.1 su13 (by decide) e.symm)).trans su13)
          have Tu14 : Below W2.heap.size W2 u14 := by rw [hu14.out]; exact Tu13.trans ((Below.refl _ u13).grown g9 Tu13.size (own_base Ru13.1.1))
          rw [← hu14.out] at r9 g9
          rw [HER.out] at r9
          obtain ⟨a9, c9, e9, -, -, -⟩ := r9.is.shape
          rw [HLE.out] at e9
          subst e9
          refine wpAnyH_take (i := 14) (oi := { dst := some 151, op := Op.build 46 #[(0, Operand.tmp 148), (1, Operand.tmp 150)], type := 46, pos := "ref.go:189", after := #[{ on := 11, ground := Ground.data }, { on := 13, ground := Ground.data }], guard := none }) (v := .agg #[.slice a9 (j - 1) c9, .int .i64 s.n]) rfl (by kernel_rfl) (by kernel_rfl) (by kernel_rfl) (fun _ _ _ h => h) (yields_built (by rfl) 46 [(0, _), (1, _)] rfl [(0, .slice a9 (j - 1) c9), (1, .int .i64 s.n)] rfl #[.slice a9 (j - 1) c9, .int .i64 s.n] (bTq _ _ _ _)) su14 ?_
          try simp only [Act.put, List.setIfInBounds_toArray, List.set_cons_zero, List.set_cons_succ]
          refine wpAnyH_ready (rs := [15]) (by kernel_rfl) (by simp) ?_
          refine AllReadyH.cons (o := { dst := none, op := Op.store 46 (Operand.tmp 4) (Operand.tmp 151), type := 0, pos := "ref.go:189", after := #[{ on := 14, ground := Ground.data }, { on := 11, ground := Ground.chain }, { on := 0, ground := Ground.phase }, { on := 1, ground := Ground.phase }, { on := 2, ground := Ground.phase }, { on := 3, ground := Ground.phase }, { on := 4, ground := Ground.phase }, { on := 5, ground := Ground.phase }, { on := 6, ground := Ground.phase }, { on := 7, ground := Ground.phase }, { on := 8, ground := Ground.phase }, { on := 9, ground := Ground.phase }, { on := 10, ground := Ground.phase }, { on := 11, ground := Ground.phase }, { on := 12, ground := Ground.phase }, { on := 13, ground := Ground.phase }, { on := 14, ground := Ground.phase }], guard := none }) rfl (fun KK hKK => ?_) ?_
          · refine wp_store_row 46 _ _ rfl W1.heap.size #[.slice a9 (j - 1) c9, .int .i64 s.n] rfl rfl 46 #[.slice none 0 0, .int .i64 0] (FB.out _ Tu14).2.2.1 sizeTq rfl (st_ones _ _ _ _) ?_
            refine hKK.out _ _ ((setRow_other _ _ _ _ HSY.out.2.1).trans su14) (fun _ => ?_)
            clear hKK KK
            try simp only [Act.put]
            refine wpAnyH_name (fun u16 hu16 => ?_)
            have su16 : (fun W : World => W.heap[w.heap.size]? = some (.cells #[.slice (some ⟨b, off, none⟩) j c, .int .i64 s.n] 46 (0, 0))) u16 := by rw [hu16.out]; exact ((setRow_other _ _ _ _ HSY.out.2.1).trans su14)
            have HZ : Hid (u16.heap[W1.heap.size]? = some (.cells #[.slice a9 (j - 1) c9, .int .i64 s.n] 46 (0, 0)) ∧ PS u16 (.slice a9 (j - 1) c9) (s.l.eraseIdx pp) ∧ Below w.heap.size w u16 ∧ RPq u16 w.heap.size (.slice a9 (j - 1) c9) (s.l.eraseIdx pp)) := by rw [hu16.out]; exact ⟨setRow_heap _ _ _ _ _ _ (FB.out _ Tu14).2.2.1, (r9.setRow _ _ (FB.out _ Tu14).2.2.1).is, below_setRow (FB.out _ Tu14).2.2.2 HSZ.out _, (r9.setRow _ _ (FB.out _ Tu14).2.2.1).mono HSY.out.1⟩
            refine wpAnyH_take (i := 16) (oi := { dst := some 5, op := Op.assign (Operand.const (Value.bool true)), type := 4, pos := "ref.go:189", after := #[{ on := 15, ground := Ground.chain }, { on := 0, ground := Ground.phase }, { on := 1, ground := Ground.phase }, { on := 2, ground := Ground.phase }, { on := 3, ground := Ground.phase }, { on := 4, ground := Ground.phase }, { on := 5, ground := Ground.phase }, { on := 6, ground := Ground.phase }, { on := 7, ground := Ground.phase }, { on := 8, ground := Ground.phase }, { on := 9, ground := Ground.phase }, { on := 10, ground := Ground.phase }, { on := 11, ground := Ground.phase }, { on := 12, ground := Ground.phase }, { on := 13, ground := Ground.phase }, { on := 14, ground := Ground.phase }, { on := 15, ground := Ground.phase }], guard := none }) (v := ?vq17) rfl (by kernel_rfl) (by kernel_rfl) (by kernel_rfl) (fun _ _ _ h => h) (Or.inl ⟨by rfl, ?yq17⟩) su16 ?rq17
            case yq17 => (intro w hSw; go_simp; try with_reducible rfl)
            try simp only [Act.put, List.setIfInBounds_toArray, List.set_cons_zero, List.set_cons_succ]
            refine wpAnyH_done (by kernel_rfl) ?_ _
            go_wp2_with fail
            all_goals exact bodyPost_ret (v := .tuple #[.agg #[.slice a9 (j - 1) c9, .int .i64 s.n], .bool true]) (retSq rfl rfl HZ.out.1) rfl ⟨_, by rw [HR.out]; rfl, by rw [HR.out]; exact HZ.out.2.1, HZ.out.2.2.1, .inr (by rw [HR.out]; exact HZ.out.2.2.2)⟩
          exact AllReadyH.nil
        exact AllReadyH.nil
      exact AllReadyH.nil
end Go.Proofs.YtcenchnmibdebaaDoor
