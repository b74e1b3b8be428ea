/-
  What the document's Same answers.
-/
import Derived.Test.YtcenchnmibdebaaDoorRfn
import Derived.Test.YtcenchnmibdebaaDoorEqs
namespace Go.Proofs.YtcenchnmibdebaaDoor
open Go.RowKit
set_option maxRecDepth 100000

theorem fieldsPq : (Tryd.prog.fieldsOf 61).toList.map (fun f => (decide (f.name ≠ "_"), f.type, f.offset)) = [(true, 3, 0), (true, 9, 1), (true, 23, 2), (true, 3, 34), (true, 3, 35)] := by kernel_rfl
theorem structPq : Tryd.prog.underlying 61 = some (.struct (Tryd.prog.fieldsOf 61)) := by kernel_rfl
theorem standsPq : Tryd.prog.stoodInHeld 61 = false := by kernel_rfl
theorem guardPq : Tryd.prog.eqGuardType Tryd.prog.depth 61 = false := by kernel_rfl
theorem eqdPq (d : Nat) (x y : Pa) (hx : x.ok) (hy : y.ok) (w : World) : (Op.equalIn (d + 3) 61 x.val y.val).run Tryd.prog w = .ok (sPa x y) w := by
  unfold Pa.val
  rw [run_equalIn_struct w (d + 2) 61 _ _ structPq standsPq]
  have hf := fieldsPq
  generalize (Tryd.prog.fieldsOf 61).toList = fs at hf
  have hlen : fs.length = 5 := by have := congrArg List.length hf; simpa using this
  match fs, hlen, hf with
  | [f1, f2, f3, f4, f5], _, hf =>
    simp only [List.map_cons, List.map_nil, List.cons.injEq, Prod.mk.injEq, and_true, decide_eq_true_eq] at hf
    obtain ⟨⟨n1, t1, o1⟩, ⟨n2, t2, o2⟩, ⟨n3, t3, o3⟩, ⟨n4, t4, o4⟩, n5, t5, o5⟩ := hf
    have a9 : (isAgg 9).run Tryd.prog w = .ok false w := by simp [isAgg, run_underlying Tryd.underlying9]
    have a3 : (isAgg 3).run Tryd.prog w = .ok false w := by simp [isAgg, run_underlying Tryd.underlying3]
    have aH : (isAgg 23).run Tryd.prog w = .ok true w := by simp [isAgg, run_underlying Tryd.underlying23]
    have p1 : ∀ z : Pa, z.ok → (part 3 z.cells.toArray 0).run Tryd.prog w = .ok (.int .i64 z.i) w := fun z hz => part_one a3 (paG z hz).1
    have p2 : ∀ z : Pa, z.ok → (part 9 z.cells.toArray 1).run Tryd.prog w = .ok (.string z.p) w := fun z hz => part_one a9 (paG z hz).2.1
    have p3 : ∀ z : Pa, z.ok → (part 23 z.cells.toArray 2).run Tryd.prog w = .ok (.agg (u8c z.s)) w := fun z hz => by
      simp only [part, Sem.run_bind, aH, Result.andThen_ok, if_true, sizeOfH, Sem.run_pure, cutP z hz]
    have p4 : ∀ z : Pa, z.ok → (part 3 z.cells.toArray 34).run Tryd.prog w = .ok (.int .i64 z.n) w := fun z hz => part_one a3 (paG z hz).2.2.1
    have p5 : ∀ z : Pa, z.ok → (part 3 z.cells.toArray 35).run Tryd.prog w = .ok (.int .i64 z.o) w := fun z hz => part_one a3 (paG z hz).2.2.2
    have e2 : (Op.equalIn (d + 2) 9 (.string x.p) (.string y.p)).run Tryd.prog w = .ok (x.p.toList == y.p.toList) w := run_equalIn_string w (d + 1) 9 _ _ Tryd.underlying9
    have ei : ∀ a b : Int, (Op.equalIn (d + 2) 3 (.int .i64 a) (.int .i64 b)).run Tryd.prog w = .ok (a == b) w := fun a b => run_equalIn_int w (d + 1) 3 .i64 .i64 _ _ Tryd.underlying3
    have e3 : (Op.equalIn (d + 2) 23 (.agg (u8c x.s)) (.agg (u8c y.s))).run Tryd.prog w = .ok (x.s == y.s) w := eq_u8c d _ _ hx.1 hy.1 w
    rw [eqf_cons n1 t1 o1 (p1 x hx) (p1 y hy) (ei _ _), eqf_cons n2 t2 o2 (p2 x hx) (p2 y hy) e2, eqf_cons n3 t3 o3 (p3 x hx) (p3 y hy) e3, eqf_cons n4 t4 o4 (p4 x hx) (p4 y hy) (ei _ _), eqf_cons n5 t5 o5 (p5 x hx) (p5 y hy) (ei _ _), eqf_nil, five, tl_beq]
    unfold sPa
    rw [bed x.i, bed x.s, bed x.n, bed x.o]
theorem eqPq (x y : Pa) (hx : x.ok) (hy : y.ok) (w : World) : (Op.equalIn 10000 61 x.val y.val).run Tryd.prog w = .ok (sPa x y) w := eqdPq 9997 x y hx hy w
/-- '==' or '!=' of two items in a region that draws its order. -/
theorem yields_eqiq {S : World → Prop} {ops : Array Oper} {o : Oper} {a : Act} (hw : Region.wanted o (yielded ops a.tmps) = true) (op : BinOp) (x y : Operand) (t : TypeId) (ho : o.op = .binOp op 61 x y t)
    (U V : Value) (b : Bool) (hx : a.eval x = U) (hy : a.eval y = V) (hG : ∀ w, (eqGuard op 61 x y U V).run Tryd.prog w = .ok () w) (hE : ∀ w, (binOp op 61 U V).run Tryd.prog w = .ok (.bool b) w) : YieldsIf Tryd.prog ops S o (.bool b) a :=
  .inl ⟨hw, fun w _ => by
    unfold execOp
    simp only [ho, hx, hy, Sem.run_bind, hG, hE, Result.andThen_ok, Sem.run_pure]⟩
theorem neq_runq (x y : Pa) (hx : x.ok) (hy : y.ok) (w : World) : (binOp .neq 61 x.val y.val).run Tryd.prog w = .ok (.bool (!sPa x y)) w := by
  have h := eqPq x y hx hy w
  unfold Pa.val at h ⊢
  rw [run_neq_struct, h]
  rfl
theorem eqg_runq (o : BinOp) (x y : Pa) (a b : Operand) (w : World) : (eqGuard o 61 a b x.val y.val).run Tryd.prog w = .ok () w := run_eqGuard_agg _ _ _ _ _ _ _ guardPq
set_option maxHeartbeats 2000000 in
theorem rsame_any (v u : Value) (l m : List Pa) (p q : Int) (w : World) (h1 : PS w v l) (h2 : PS w u m) (hl : l.length ≤ 100000) (hm : m.length ≤ 100000) :
    Calls Tryd.prog 12 #[.agg #[v, .int .i64 p], .agg #[u, .int .i64 q]] w fun e w' => e = .returned (.bool (decide (p = q) && saP l m)) ∧ Below w.heap.size w w' := by
  obtain ⟨a, c, rfl, _, _, _⟩ := h1.shape
  obtain ⟨a', c', rfl, _, _, _⟩ := h2.shape
  obtain ⟨W0, hW0⟩ : ∃ W0, W0 = w.alloc (.cells #[.slice a l.length c, .int .i64 p] 46) := ⟨_, rfl⟩
  have b0 : Below w.heap.size w W0 := by rw [hW0]; exact al_below _ _
  have z0 : W0.heap.size = w.heap.size + 1 := by rw [hW0]; simp
  have g0 : W0.heap[w.heap.size]? = some (.cells #[.slice a l.length c, .int .i64 p] 46 (0, 0)) := by rw [hW0]; exact heap_alloc_new _ _
  obtain ⟨W1, hW1⟩ : ∃ W1, W1 = W0.alloc (.cells #[.slice a' m.length c', .int .i64 q] 46) := ⟨_, rfl⟩
  have b1 : Below W0.heap.size W0 W1 := by rw [hW1]; exact al_below _ _
  have g1 : W1.heap[W0.heap.size]? = some (.cells #[.slice a' m.length c', .int .i64 q] 46 (0, 0)) := by rw [hW1]; exact heap_alloc_new _ _
  have g0' := blk_kept g0 b1 (by omega)
  have x0 : W1.cell? ⟨w.heap.size, 0, none⟩ = some (.slice a l.length c) := by simp [World.cell?, g0']
  have x1 : W1.cell? ⟨w.heap.size, 1, none⟩ = some (.int .i64 p) := by simp [World.cell?, g0']
  have y0 : W1.cell? ⟨W0.heap.size, 0, none⟩ = some (.slice a' m.length c') := by simp [World.cell?, g1]
  have y1 : W1.cell? ⟨W0.heap.size, 1, none⟩ = some (.int .i64 q) := by simp [World.cell?, g1]
  have b01 : Below w.heap.size w W1 := b0.trans (b1.mono b0.size)
  have KK : Hid (∀ W, Below W1.heap.size W1 W → W.cell? ⟨w.heap.size, 0, none⟩ = some (.slice a l.length c) ∧ W.cell? ⟨W0.heap.size, 0, none⟩ = some (.slice a' m.length c')) := fun W h =>
    ⟨(h.cell (World.block_lt_of_cell? _ _ x0)).trans x0, (h.cell (World.block_lt_of_cell? _ _ y0)).trans y0⟩
  have BB : Hid (Below w.heap.size w W1) := b01
  have HNE : Hid (l.length ≠ m.length → saP l m = false) := fun h => by unfold saP; simp [h]
  have HOK2 : Hid (l.length = m.length → (∀ k, k < l.length → sPa (atP l k) (atP m k) = true) → saP l m = true) := fun h k => by
    unfold saP
    rw [Bool.and_eq_true, decide_eq_true_eq, List.all_eq_true]
    exact ⟨h, fun i hi => k i (List.mem_range.1 hi)⟩
  have HHIT : Hid (∀ j, j < l.length → sPa (atP l j) (atP m j) = false → saP l m = false) := fun j hj h => by
    unfold saP
    rw [Bool.and_eq_false_iff]
    right
    rw [List.all_eq_false]
    exact ⟨j, List.mem_range.2 hj, by rw [h]; simp⟩
  have H1 : Hid (PS W1 (.slice a l.length c) l) := h1.kept b01
  have H2 : Hid (PS W1 (.slice a' m.length c') m) := h2.kept b01
  have K1 : Hid (∀ x ∈ l, x.ok) := h1.2
  have K2 : Hid (∀ x ∈ m, x.ok) := h2.2
  have hw0 := hW0.symm
  have hw1 := hW1.symm
  obtain ⟨n, hn'⟩ : ∃ n, n = l.length := ⟨_, rfl⟩
  obtain ⟨k, hk'⟩ : ∃ k, k = m.length := ⟨_, rfl⟩
  have HN : Hid (n = l.length) := hn'
  have HK : Hid (k = m.length) := hk'
  rw [← hn'] at H1 hl HNE HOK2 HHIT KK x0 hw0 ⊢
  rw [← hk'] at H2 hm HNE HOK2 KK y0 hw1 ⊢
  clear h1 h2 hn' hk' hW0 b0 z0 g0 hW1 b1 g1 g0' b01
  generalize saP l m = r at *
  by_cases hnk : n = k
  · subst hnk
    have t0 : ((n : Int) != (n : Int)) = false := by simp
    clear HNE
    by_cases hpq : p = q
    · have d1 : (p != q) = false := by simp [hpq]
      have HD : Hid (decide (p = q) = true) := decide_eq_true hpq
      clear hpq
      generalize decide (p = q) = dd at *
      go_enter Tryd.func12, Tryd.ntmps12
      go_wp2_with fail
      try rw [hw0]
      try rw [hw1]
      try clear hw1
      try clear hw0
      clear x0 x1 y0 y1
      go_loopw [5] (fun z wr => ∃ j : Nat, j ≤ n ∧ z = .int .i64 j ∧ (∀ k, k < j → sPa (atP l k) (atP m k) = true) ∧ Below W1.heap.size W1 wr) (fun z _ => n - (intOf z).toNat)
      case atStart => exact ⟨0, by omega, rfl, fun k hk => by omega, Below.refl _ _⟩
      case round =>
        obtain ⟨j, hj, rfl, ok, bel⟩ := hrel
        have OK : Hid (∀ k, k < j → sPa (atP l k) (atP m k) = true) := ok
        obtain ⟨c0, c1⟩ := KK.out wr bel
        have HB : Hid (Below W1.heap.size W1 wr) := bel
        clear ok
        by_cases hlt : j < n
        · have lt2 : (j : Int) < (n : Int) := by omega
          have lt3 : (0 : Int) ≤ (j : Int) := by omega
          obtain ⟨b, off, rfl, r1⟩ := (H1.out.kept bel).at j (by rw [← HN.out]; exact hlt)
          obtain ⟨b', off', rfl, r2⟩ := (H2.out.kept bel).at j (by rw [← HK.out]; exact hlt)
          have hx := Pa.at l K1.out j
          have hy := Pa.at m K2.out j
          have HF : Hid (sPa (atP l j) (atP m j) = false → r = false) := HHIT.out j hlt
          have NX : Hid (sPa (atP l j) (atP m j) = true → ∀ k, k < j + 1 → sPa (atP l k) (atP m k) = true) := fun h k hk => by
            rcases Nat.lt_or_ge k j with h' | h'
            · exact OK.out k h'
            · rw [show k = j by omega]; exact h
          clear OK HHIT
          generalize atP l j = x at *
          generalize atP m j = y at *
          have FX : Hid (∀ W, From wr W → W.rangeAt b (off + j * 36) x.cells) := fun W h => range_kept r1 h
          have FY : Hid (∀ W, From wr W → W.rangeAt b' (off' + j * 36) y.cells) := fun W h => range_kept r2 h
          have FB : Hid (∀ W, From wr W → Below W1.heap.size W1 W) := fun W h => bel.trans (Below.mono h bel.size)
          have FC : Hid (∀ W, From wr W → W.cell? ⟨w.heap.size, 0, none⟩ = some (.slice (some ⟨b, off, none⟩) n c) ∧ W.cell? ⟨W0.heap.size, 0, none⟩ = some (.slice (some ⟨b', off', none⟩) n c')) := fun W h => KK.out W (bel.trans (Below.mono h bel.size))
          have ZX : Hid ((Tryd.prog.info? 61).map (·.size) = some x.cells.length) := Pa.infoLq x hx
          have ZY : Hid ((Tryd.prog.info? 61).map (·.size) = some y.cells.length) := Pa.infoLq y hy
          have E1 : Hid (∀ W, (binOp .neq 61 (.agg x.cells.toArray) (.agg y.cells.toArray)).run Tryd.prog W = .ok (.bool (!sPa x y)) W) := fun W => neq_runq x y hx hy W
          have E2 : Hid (∀ (a b : Operand) W, (eqGuard .neq 61 a b (.agg x.cells.toArray) (.agg y.cells.toArray)).run Tryd.prog W = .ok () W) := fun a b W => eqg_runq .neq x y a b W
          clear bel r1 r2 hx hy
          generalize x.cells = cs at *
          generalize y.cells = ds at *
          generalize sPa x y = sb at *
          cases sb with
          | true =>
            have NX2 : Hid (∀ k, k < j + 1 → sPa (atP l k) (atP m k) = true) := NX.out rfl
            clear NX HF
            go_wp2_with fail
            refine wp_region_held_drew (S := From wr) (by kernel_rfl) ((Below.refl _ _).drew) (fun _ => ?_)
            refine wpAnyH_on ((Below.refl _ _).drew) (fun u0 hu0 bu0 => ?_)
            replace FX := on FX bu0
            replace FY := on FY bu0
            replace FB := on FB bu0
            replace FC := on FC bu0
            refine wpAnyH_take (i := 0) (oi := { dst := some 27, op := Op.fieldAddr 46 (Operand.tmp 2) 0, type := 0, pos := "ref.go:229", after := #[], guard := none }) (v := ?vr1) rfl (by kernel_rfl) (by kernel_rfl) (by kernel_rfl) (fun _ _ _ h => h) (Or.inl ⟨by rfl, ?yr1⟩) (Below.refl _ _) ?rr1
            case yr1 => (intro w hSw; go_simp; try with_reducible rfl)
            try simp only [Act.put, List.setIfInBounds_toArray, List.set_cons_zero, List.set_cons_succ]
            refine wpAnyH_take (i := 1) (oi := { dst := some 28, op := Op.load 44 (Operand.tmp 27), type := 44, pos := "ref.go:229", after := #[{ on := 0, ground := Ground.data }], guard := none }) (v := ?vr2) rfl (by kernel_rfl) (by kernel_rfl) (by kernel_rfl) (fun _ _ _ h => h) (Or.inl ⟨by rfl, ?yr2⟩) (Below.refl _ _) ?rr2
            case yr2 => (intro w hSw; obtain ⟨t0, t1⟩ := FC.out w hSw; go_simp; try with_reducible rfl)
            try simp only [Act.put, List.setIfInBounds_toArray, List.set_cons_zero, List.set_cons_succ]
            refine wpAnyH_take (i := 2) (oi := { dst := some 29, op := Op.move (Operand.tmp 5), type := 3, pos := "ref.go:229", after := #[], guard := none }) (v := ?vr3) rfl (by kernel_rfl) (by kernel_rfl) (by kernel_rfl) (fun _ _ _ h => h) (Or.inl ⟨by rfl, ?yr3⟩) (Below.refl _ _) ?rr3
            case yr3 => (intro w hSw; go_simp; try with_reducible rfl)
            try simp only [Act.put, List.setIfInBounds_toArray, List.set_cons_zero, List.set_cons_succ]
            refine wpAnyH_take (i := 3) (oi := { dst := some 30, op := Op.indexAddr 44 (Operand.tmp 28) (Operand.tmp 29), type := 0, pos := "ref.go:229", after := #[{ on := 1, ground := Ground.data }, { on := 2, ground := Ground.data }], guard := none }) (v := ?vr4) rfl (by kernel_rfl) (by kernel_rfl) (by kernel_rfl) (fun _ _ _ h => h) (Or.inl ⟨by rfl, ?yr4⟩) (Below.refl _ _) ?rr4
            case yr4 => (intro w hSw; go_simp; try with_reducible rfl)
            try simp only [Act.put, List.setIfInBounds_toArray, List.set_cons_zero, List.set_cons_succ]
            refine wpAnyH_take (i := 4) (oi := { dst := some 31, op := Op.load 61 (Operand.tmp 30), type := 61, pos := "ref.go:229", after := #[{ on := 3, ground := Ground.data }], guard := none }) (v := .agg cs.toArray) rfl (by kernel_rfl) (by kernel_rfl) (by kernel_rfl) (fun _ _ _ h => h) (yieldsIf_load_mid (by rfl) 61 _ rfl b (off + j * 36) rfl cs _ (fun w hw => FX.out w hw) Tryd.underlying61 rfl ZX.out) (Below.refl _ _) ?_
            try simp only [Act.put, List.setIfInBounds_toArray, List.set_cons_zero, List.set_cons_succ]
            refine wpAnyH_take (i := 5) (oi := { dst := some 32, op := Op.fieldAddr 46 (Operand.tmp 3) 0, type := 0, pos := "ref.go:229", after := #[], guard := none }) (v := ?vr6) rfl (by kernel_rfl) (by kernel_rfl) (by kernel_rfl) (fun _ _ _ h => h) (Or.inl ⟨by rfl, ?yr6⟩) (Below.refl _ _) ?rr6
            case yr6 => (intro w hSw; go_simp; try with_reducible rfl)
            try simp only [Act.put, List.setIfInBounds_toArray, List.set_cons_zero, List.set_cons_succ]
            refine wpAnyH_take (i := 6) (oi := { dst := some 33, op := Op.load 44 (Operand.tmp 32), type := 44, pos := "ref.go:229", after := #[{ on := 5, ground := Ground.data }], guard := none }) (v := ?vr7) rfl (by kernel_rfl) (by kernel_rfl) (by kernel_rfl) (fun _ _ _ h => h) (Or.inl ⟨by rfl, ?yr7⟩) (Below.refl _ _) ?rr7
            case yr7 => (intro w hSw; obtain ⟨t0, t1⟩ := FC.out w hSw; go_simp; try with_reducible rfl)
            try simp only [Act.put, List.setIfInBounds_toArray, List.set_cons_zero, List.set_cons_succ]
            refine wpAnyH_take (i := 7) (oi := { dst := some 34, op := Op.move (Operand.tmp 5), type := 3, pos := "ref.go:229", after := #[], guard := none }) (v := ?vr8) rfl (by kernel_rfl) (by kernel_rfl) (by kernel_rfl) (fun _ _ _ h => h) (Or.inl ⟨by rfl, ?yr8⟩) (Below.refl _ _) ?rr8
            case yr8 => (intro w hSw; go_simp; try with_reducible rfl)
            try simp only [Act.put, List.setIfInBounds_toArray, List.set_cons_zero, List.set_cons_succ]
            refine wpAnyH_take (i := 8) (oi := { dst := some 35, op := Op.indexAddr 44 (Operand.tmp 33) (Operand.tmp 34), type := 0, pos := "ref.go:229", after := #[{ on := 6, ground := Ground.data }, { on := 7, ground := Ground.data }], guard := none }) (v := ?vr9) rfl (by kernel_rfl) (by kernel_rfl) (by kernel_rfl) (fun _ _ _ h => h) (Or.inl ⟨by rfl, ?yr9⟩) (Below.refl _ _) ?rr9
            case yr9 => (intro w hSw; go_simp; try with_reducible rfl)
            try simp only [Act.put, List.setIfInBounds_toArray, List.set_cons_zero, List.set_cons_succ]
            refine wpAnyH_take (i := 9) (oi := { dst := some 36, op := Op.load 61 (Operand.tmp 35), type := 61, pos := "ref.go:229", after := #[{ on := 8, ground := Ground.data }], guard := none }) (v := .agg ds.toArray) rfl (by kernel_rfl) (by kernel_rfl) (by kernel_rfl) (fun _ _ _ h => h) (yieldsIf_load_mid (by rfl) 61 _ rfl b' (off' + j * 36) rfl ds _ (fun w hw => FY.out w hw) Tryd.underlying61 rfl ZY.out) (Below.refl _ _) ?_
            try simp only [Act.put, List.setIfInBounds_toArray, List.set_cons_zero, List.set_cons_succ]
            refine wpAnyH_take (i := 10) (oi := { dst := some 37, op := Op.binOp BinOp.neq 61 (Operand.tmp 31) (Operand.tmp 36) 61, type := 4, pos := "ref.go:229", after := #[{ on := 4, ground := Ground.data }, { on := 9, ground := Ground.data }], guard := none }) (v := .bool (!true)) rfl (by kernel_rfl) (by kernel_rfl) (by kernel_rfl) (fun _ _ _ h => h) (yields_eqiq (by rfl) .neq _ _ _ rfl (.agg cs.toArray) (.agg ds.toArray) (!true) rfl rfl (fun w => E2.out _ _ w) (fun w => E1.out w)) (Below.refl _ _) ?_
            try simp only [Act.put, List.setIfInBounds_toArray, List.set_cons_zero, List.set_cons_succ]
            refine wpAnyH_done (by kernel_rfl) ?_ _
            have BZ : Hid (Below W1.heap.size W1 u0) := FB.out _ (Below.refl _ _)
            clear FX FY FB FC E1 E2 ZX ZY
            go_wp2
            go_roundw
            case rel => exact ⟨j + 1, by omega, by go_num, NX2.out, BZ.out⟩
            case measure => simp [intOf]; omega
          | false =>
            have HF2 : Hid (r = false) := HF.out rfl
            clear NX HF
            go_wp2_with fail
            refine wp_region_held_drew (S := From wr) (by kernel_rfl) ((Below.refl _ _).drew) (fun _ => ?_)
            refine wpAnyH_on ((Below.refl _ _).drew) (fun u0 hu0 bu0 => ?_)
            replace FX := on FX bu0
            replace FY := on FY bu0
            replace FB := on FB bu0
            replace FC := on FC bu0
            refine wpAnyH_take (i := 0) (oi := { dst := some 27, op := Op.fieldAddr 46 (Operand.tmp 2) 0, type := 0, pos := "ref.go:229", after := #[], guard := none }) (v := ?vs1) rfl (by kernel_rfl) (by kernel_rfl) (by kernel_rfl) (fun _ _ _ h => h) (Or.inl ⟨by rfl, ?ys1⟩) (Below.refl _ _) ?rs1
            case ys1 => (intro w hSw; go_simp; try with_reducible rfl)
            try simp only [Act.put, List.setIfInBounds_toArray, List.set_cons_zero, List.set_cons_succ]
            refine wpAnyH_take (i := 1) (oi := { dst := some 28, op := Op.load 44 (Operand.tmp 27), type := 44, pos := "ref.go:229", after := #[{ on := 0, ground := Ground.data }], guard := none }) (v := ?vs2) rfl (by kernel_rfl) (by kernel_rfl) (by kernel_rfl) (fun _ _ _ h => h) (Or.inl ⟨by rfl, ?ys2⟩) (Below.refl _ _) ?rs2
            case ys2 => (intro w hSw; obtain ⟨t0, t1⟩ := FC.out w hSw; go_simp; try with_reducible rfl)
            try simp only [Act.put, List.setIfInBounds_toArray, List.set_cons_zero, List.set_cons_succ]
            refine wpAnyH_take (i := 2) (oi := { dst := some 29, op := Op.move (Operand.tmp 5), type := 3, pos := "ref.go:229", after := #[], guard := none }) (v := ?vs3) rfl (by kernel_rfl) (by kernel_rfl) (by kernel_rfl) (fun _ _ _ h => h) (Or.inl ⟨by rfl, ?ys3⟩) (Below.refl _ _) ?rs3
            case ys3 => (intro w hSw; go_simp; try with_reducible rfl)
            try simp only [Act.put, List.setIfInBounds_toArray, List.set_cons_zero, List.set_cons_succ]
            refine wpAnyH_take (i := 3) (oi := { dst := some 30, op := Op.indexAddr 44 (Operand.tmp 28) (Operand.tmp 29), type := 0, pos := "ref.go:229", after := #[{ on := 1, ground := Ground.data }, { on := 2, ground := Ground.data }], guard := none }) (v := ?vs4) rfl (by kernel_rfl) (by kernel_rfl) (by kernel_rfl) (fun _ _ _ h => h) (Or.inl ⟨by rfl, ?ys4⟩) (Below.refl _ _) ?rs4
            case ys4 => (intro w hSw; go_simp; try with_reducible rfl)
            try simp only [Act.put, List.setIfInBounds_toArray, List.set_cons_zero, List.set_cons_succ]
            refine wpAnyH_take (i := 4) (oi := { dst := some 31, op := Op.load 61 (Operand.tmp 30), type := 61, pos := "ref.go:229", after := #[{ on := 3, ground := Ground.data }], guard := none }) (v := .agg cs.toArray) rfl (by kernel_rfl) (by kernel_rfl) (by kernel_rfl) (fun _ _ _ h => h) (yieldsIf_load_mid (by rfl) 61 _ rfl b (off + j * 36) rfl cs _ (fun w hw => FX.out w hw) Tryd.underlying61 rfl ZX.out) (Below.refl _ _) ?_
            try simp only [Act.put, List.setIfInBounds_toArray, List.set_cons_zero, List.set_cons_succ]
            refine wpAnyH_take (i := 5) (oi := { dst := some 32, op := Op.fieldAddr 46 (Operand.tmp 3) 0, type := 0, pos := "ref.go:229", after := #[], guard := none }) (v := ?vs6) rfl (by kernel_rfl) (by kernel_rfl) (by kernel_rfl) (fun _ _ _ h => h) (Or.inl ⟨by rfl, ?ys6⟩) (Below.refl _ _) ?rs6
            case ys6 => (intro w hSw; go_simp; try with_reducible rfl)
            try simp only [Act.put, List.setIfInBounds_toArray, List.set_cons_zero, List.set_cons_succ]
            refine wpAnyH_take (i := 6) (oi := { dst := some 33, op := Op.load 44 (Operand.tmp 32), type := 44, pos := "ref.go:229", after := #[{ on := 5, ground := Ground.data }], guard := none }) (v := ?vs7) rfl (by kernel_rfl) (by kernel_rfl) (by kernel_rfl) (fun _ _ _ h => h) (Or.inl ⟨by rfl, ?ys7⟩) (Below.refl _ _) ?rs7
            case ys7 => (intro w hSw; obtain ⟨t0, t1⟩ := FC.out w hSw; go_simp; try with_reducible rfl)
            try simp only [Act.put, List.setIfInBounds_toArray, List.set_cons_zero, List.set_cons_succ]
            refine wpAnyH_take (i := 7) (oi := { dst := some 34, op := Op.move (Operand.tmp 5), type := 3, pos := "ref.go:229", after := #[], guard := none }) (v := ?vs8) rfl (by kernel_rfl) (by kernel_rfl) (by kernel_rfl) (fun _ _ _ h => h) (Or.inl ⟨by rfl, ?ys8⟩) (Below.refl _ _) ?rs8
            case ys8 => (intro w hSw; go_simp; try with_reducible rfl)
            try simp only [Act.put, List.setIfInBounds_toArray, List.set_cons_zero, List.set_cons_succ]
            refine wpAnyH_take (i := 8) (oi := { dst := some 35, op := Op.indexAddr 44 (Operand.tmp 33) (Operand.tmp 34), type := 0, pos := "ref.go:229", after := #[{ on := 6, ground := Ground.data }, { on := 7, ground := Ground.data }], guard := none }) (v := ?vs9) rfl (by kernel_rfl) (by kernel_rfl) (by kernel_rfl) (fun _ _ _ h => h) (Or.inl ⟨by rfl, ?ys9⟩) (Below.refl _ _) ?rs9
            case ys9 => (intro w hSw; go_simp; try with_reducible rfl)
            try simp only [Act.put, List.setIfInBounds_toArray, List.set_cons_zero, List.set_cons_succ]
            refine wpAnyH_take (i := 9) (oi := { dst := some 36, op := Op.load 61 (Operand.tmp 35), type := 61, pos := "ref.go:229", after := #[{ on := 8, ground := Ground.data }], guard := none }) (v := .agg ds.toArray) rfl (by kernel_rfl) (by kernel_rfl) (by kernel_rfl) (fun _ _ _ h => h) (yieldsIf_load_mid (by rfl) 61 _ rfl b' (off' + j * 36) rfl ds _ (fun w hw => FY.out w hw) Tryd.underlying61 rfl ZY.out) (Below.refl _ _) ?_
            try simp only [Act.put, List.setIfInBounds_toArray, List.set_cons_zero, List.set_cons_succ]
            refine wpAnyH_take (i := 10) (oi := { dst := some 37, op := Op.binOp BinOp.neq 61 (Operand.tmp 31) (Operand.tmp 36) 61, type := 4, pos := "ref.go:229", after := #[{ on := 4, ground := Ground.data }, { on := 9, ground := Ground.data }], guard := none }) (v := .bool (!false)) rfl (by kernel_rfl) (by kernel_rfl) (by kernel_rfl) (fun _ _ _ h => h) (yields_eqiq (by rfl) .neq _ _ _ rfl (.agg cs.toArray) (.agg ds.toArray) (!false) rfl rfl (fun w => E2.out _ _ w) (fun w => E1.out w)) (Below.refl _ _) ?_
            try simp only [Act.put, List.setIfInBounds_toArray, List.set_cons_zero, List.set_cons_succ]
            refine wpAnyH_done (by kernel_rfl) ?_ _
            have BZ : Hid (Below w.heap.size w u0) := BB.out.trans ((FB.out _ (Below.refl _ _)).mono BB.out.size)
            clear FX FY FB FC E1 E2 ZX ZY
            go_wp2
            go_ret
            exact ⟨by rw [HF2.out, Bool.and_false]; rfl, BZ.out⟩
        · obtain rfl : j = n := by omega
          have HR : Hid (r = true) := HOK2.out (by trivial) OK.out
          have BZ : Hid (Below w.heap.size w wr) := BB.out.trans (bel.mono BB.out.size)
          clear HOK2 HHIT OK bel
          go_wp2
          go_ret
          exact ⟨by rw [HR.out, HD.out]; rfl, BZ.out⟩
    · have d1 : (p != q) = true := by simp [hpq]
      have HD : Hid (decide (p = q) = false) := decide_eq_false hpq
      clear hpq
      generalize decide (p = q) = dd at *
      go_enter Tryd.func12, Tryd.ntmps12
      go_wp2_with fail
      try rw [hw0]
      try rw [hw1]
      go_ret
      exact ⟨by rw [HD.out]; rfl, BB.out⟩
  · have HR : Hid (r = false) := HNE.out hnk
    have t0 : ((n : Int) != (k : Int)) = true := by simp; omega
    clear HNE HOK2 HHIT
    generalize decide (p = q) = dd at *
    go_enter Tryd.func12, Tryd.ntmps12
    go_wp2_with fail
    try rw [hw0]
    try rw [hw1]
    go_ret
    exact ⟨by rw [HR.out, Bool.and_false]; rfl, BB.out⟩
end Go.Proofs.YtcenchnmibdebaaDoor
