/-
  What the document's Find answers.
-/
import Derived.Test.YtjiefndjgkhcjaaDoorFd
import Derived.Test.YtjiefndjgkhcjaaDoorShROf
import Derived.Test.YtjiefndjgkhcjaaDoorRoRef
namespace Go.Proofs.YtjiefndjgkhcjaaDoor
open Go.RowKit
set_option maxRecDepth 100000

theorem fi_le (l : List Sg) (y : Sg) (j : Nat) (hj : j < l.length) (h : atI l j = y) : fi l y.k y.s ≤ j := by
  unfold fi
  rcases Nat.lt_or_ge j (l.findIdx fun x : Sg => decide (x.k = y.k) && decide (x.s = y.s)) with h1 | h1
  · have h2 := List.not_of_lt_findIdx h1
    rw [← atI_eq l j hj, h] at h2
    simp at h2
  · exact h1
theorem fi_hit (l : List Sg) (k : Int) (A : List Int) (j : Nat) (hj : j < l.length) (h : j ≤ fi l k A) (h1 : (atI l j).k = k) (h2 : (atI l j).s = A) : fi l k A = j := by
  subst h1 h2
  have := fi_le l (atI l j) j hj rfl
  omega
theorem fi_miss (l : List Sg) (k : Int) (A : List Int) (j : Nat) (hj : j < l.length) (h : j ≤ fi l k A) (hn : ¬ ((atI l j).k = k ∧ (atI l j).s = A)) : j + 1 ≤ fi l k A := by
  rcases Nat.lt_or_ge j (fi l k A) with h1 | h1
  · exact h1
  · exfalso
    have e : fi l k A = j := by omega
    have h2 : fi l k A < l.length := by omega
    have h3 := List.findIdx_getElem (w := h2)
    have h4 : l[fi l k A]'h2 = atI l j := by rw [atI_eq l j hj]; congr 1
    rw [show l[l.findIdx fun x => decide (x.k = k) && decide (x.s = A)]'h2 = atI l j from h4] at h3
    simp only [Bool.and_eq_true, decide_eq_true_eq] at h3
    exact hn h3
theorem eqb_of {U V : Array Value} {b : Bool} {w : World} (h : (Op.equalIn 10000 55 (.agg U) (.agg V)).run Tryd.prog w = .ok b w) : (binOp BinOp.eql 55 (.agg U) (.agg V)).run Tryd.prog w = .ok (.bool b) w := by
  have h' : (Op.equal 55 (.agg U) (.agg V)).run Tryd.prog w = .ok b w := h
  show (do pure (.bool (← Op.equal 55 (.agg U) (.agg V))) : Sem Value).run Tryd.prog w = _
  rw [Sem.run_bind, h']
  rfl
theorem egH : Tryd.prog.eqGuardType Tryd.prog.depth 55 = false := by kernel_rfl
theorem eg_run (x y : Operand) (U V : Array Value) (w : World) : (eqGuard BinOp.eql 55 x y (.agg U) (.agg V)).run Tryd.prog w = .ok () w := run_eqGuard_agg _ _ _ _ _ _ _ egH
theorem yields_eql {S : World → Prop} {ops : Array Oper} {o : Oper} {a : Act} (hw : Region.wanted o (yielded ops a.tmps) = true) (x y : Operand) (t : TypeId) (ho : o.op = .binOp .eql 55 x y t)
    (U V : Array Value) (b : Bool) (hx : a.eval x = .agg U) (hy : a.eval y = .agg V) (hE : ∀ w, (binOp BinOp.eql 55 (.agg U) (.agg V)).run Tryd.prog w = .ok (.bool b) w) : YieldsIf Tryd.prog ops S o (.bool b) a :=
  .inl ⟨hw, fun w _ => by
    unfold execOp
    simp only [ho, hx, hy, Sem.run_bind, eg_run, hE, Result.andThen_ok, Sem.run_pure]⟩
theorem eqH (A B : List Int) (hA : A.length = 32) (hB : B.length = 32) (w : World) : (binOp BinOp.eql 55 (.agg (A.map (Value.int .u8)).toArray) (.agg (B.map (Value.int .u8)).toArray)).run Tryd.prog w = .ok (.bool (decide (A = B))) w := by
  have := eqb_of (eq_u8c 9998 A B hA hB w)
  rw [bed] at this
  exact this
set_option maxHeartbeats 4000000 in
theorem rfind_any (z : Int) (v u : Value) (l : List Sg) (b : List Int) (w : World) (h1 : GS w v l) (h2 : Sl w u b) (hl : l.length ≤ 100000) (hb : b.length ≤ 100000) :
    Calls Tryd.prog 25 #[.int .i64 z, v, u] w fun e w' => e = .returned (.tuple #[.int .i64 (bfnd l z b).1, .bool (bfnd l z b).2]) ∧ Below w.heap.size w w' := by
  obtain ⟨a, c, rfl, hc, _, _⟩ := h1.shape
  obtain ⟨va, vc, rfl, -⟩ := id h2
  have HR : Hid (bfnd l z b = if (b.length : Int) = z ∧ fi l (Ro.rs b) (Sh.Pl.sha b) < l.length then ((fi l (Ro.rs b) (Sh.Pl.sha b) : Int) * z, true) else (0, false)) := rfl
  have H1 : Hid (GS w (.slice a l.length c) l) := h1
  have K1 : Hid (∀ x ∈ l, x.ok) := h1.ok
  have HFL : Hid (fi l (Ro.rs b) (Sh.Pl.sha b) ≤ l.length) := List.findIdx_le_length
  have C1 := Ro.rsum_any _ b w h2
  have C2 := Sh.rof_any _ b w h2 hb
  rw [u8_eq] at C2
  have HSL : Hid ((Sh.Pl.sha b).length = 32) := Sh.sha_len b
  have HHIT : Hid (∀ j, j < l.length → j ≤ fi l (Ro.rs b) (Sh.Pl.sha b) → (atI l j).k = Ro.rs b → (atI l j).s = Sh.Pl.sha b → fi l (Ro.rs b) (Sh.Pl.sha b) = j) := fun j => fi_hit l _ _ j
  have HMISS : Hid (∀ j, j < l.length → j ≤ fi l (Ro.rs b) (Sh.Pl.sha b) → ¬ ((atI l j).k = Ro.rs b ∧ (atI l j).s = Sh.Pl.sha b) → j + 1 ≤ fi l (Ro.rs b) (Sh.Pl.sha b)) := fun j => fi_miss l _ _ j
  obtain ⟨L, hL⟩ : ∃ L, L = b.length := ⟨_, rfl⟩
  obtain ⟨n, hn⟩ : ∃ n, n = l.length := ⟨_, rfl⟩
  have HN : Hid (n = l.length) := hn
  rw [← hL] at C1 C2 HR hb ⊢
  rw [← hn] at HR H1 hl hc HFL HHIT HMISS ⊢
  clear h1 h2 hL hn
  generalize bfnd l z b = R at *
  generalize fi l (Ro.rs b) (Sh.Pl.sha b) = f at *
  generalize Ro.rs b = kk at *
  generalize Sh.Pl.sha b = SS at *
  by_cases hz : (L : Int) = z
  · subst hz
    have HR2 : Hid (R = if f < n then ((f : Int) * (L : Int), true) else (0, false)) := by unfold Hid; have := HR.out; simpa using this
    clear HR
    have t0 : ((L : Int) != (L : Int)) = false := by simp
    go_enter Tryd.func25, Tryd.ntmps25
    go_wp2_with fail
    refine C1.mono ?_
    rintro e w5 ⟨rfl, hq5⟩
    replace hq5 := hq5.symm
    subst hq5
    clear C1
    go_wp2_with fail
    refine C2.mono ?_
    rintro e w2 ⟨rfl, b2⟩
    clear C2
    obtain ⟨W3, hW3⟩ : ∃ W3, W3 = w2.alloc (.cells (u8c SS) 55) := ⟨_, rfl⟩
    have e3 := alloc_h w2 SS
    rw [← hW3] at e3
    have HE3 : Hid ((w2.alloc (.cells #[.int .u8 0, .int .u8 0, .int .u8 0, .int .u8 0, .int .u8 0, .int .u8 0, .int .u8 0, .int .u8 0, .int .u8 0, .int .u8 0, .int .u8 0, .int .u8 0, .int .u8 0, .int .u8 0, .int .u8 0, .int .u8 0, .int .u8 0, .int .u8 0, .int .u8 0, .int .u8 0, .int .u8 0, .int .u8 0, .int .u8 0, .int .u8 0, .int .u8 0, .int .u8 0, .int .u8 0, .int .u8 0, .int .u8 0, .int .u8 0, .int .u8 0, .int .u8 0] 55)).setRow w2.heap.size (u8c SS) = W3) := e3
    have b3 : Below w2.heap.size w2 W3 := by rw [hW3]; exact al_below _ _
    have B3 : Hid (Below w.heap.size w W3) := b2.trans (b3.mono b2.size)
    have G3 : Hid (W3.heap[w2.heap.size]? = some (.cells (u8c SS) 55 (0, 0))) := by unfold Hid; rw [hW3]; exact heap_alloc_new _ _
    clear e3 hW3 b3 b2
    go_wp2_with (refine wpList_store_row rfl 55 _ _ rfl w2.heap.size (u8c SS) rfl rfl 55 hzc (new_h w2) (infoH _ HSL.out) (by rw [hzc_size, u8c_size, HSL.out]) (u8c_ones _) (Hid.out ?_))
    unfold Hid
    rw [HE3.out]
    go_wp2_with fail
    go_loopw [10] (fun q wr => ∃ j : Nat, j ≤ n ∧ q = .int .i64 j ∧ Hid (j ≤ f) ∧ Below W3.heap.size W3 wr) (fun q _ => n - (intOf q).toNat)
    case atStart => exact ⟨0, by omega, rfl, Nat.zero_le _, Below.refl _ _⟩
    case round =>
      obtain ⟨j, hj, rfl, hf, bel⟩ := hrel
      have HB : Hid (Below w.heap.size w wr) := B3.out.trans (bel.mono B3.out.size)
      by_cases hlt : j < n
      · have lt2 : (j : Int) < (n : Int) := by omega
        have lt3 : (0 : Int) ≤ (j : Int) := by omega
        obtain ⟨b', off, rfl, r1⟩ := (H1.out.kept HB.out).at j (by rw [← HN.out]; exact hlt)
        have hx := Sg.at l K1.out j
        have HH := HHIT.out j hlt hf.out
        have HMM := HMISS.out j hlt hf.out
        generalize atI l j = x at *
        have FK : Hid (∀ W, From wr W → W.cell? ⟨b', off + j * 33, none⟩ = some (.int .u32 x.k)) := fun W h => range_head (range_kept r1 h)
        have FX : Hid (∀ W, From wr W → W.rangeAt b' (off + j * 33 + 1) (x.s.map (Value.int .u8))) := fun W h => range_kept (range_sum r1) h
        have FS : Hid (∀ W, From wr W → W.rangeAt w2.heap.size 0 (SS.map (Value.int .u8))) := fun W h i v hv => by
          have g := (Below.block h _ (Nat.lt_of_lt_of_le (Array.getElem?_eq_some_iff.1 G3.out).1 bel.size)).trans ((bel.block _ (Array.getElem?_eq_some_iff.1 G3.out).1).trans G3.out)
          rw [Nat.zero_add, cell_of_row _ _ _ _ _ _ g]
          simpa [u8c] using hv
        have FB : Hid (∀ W, From wr W → Below W3.heap.size W3 W) := fun W h => bel.trans (Below.mono h bel.size)
        have ZX : Hid ((Tryd.prog.info? 55).map (·.size) = some (x.s.map (Value.int .u8)).length) := infoHl _ hx.1
        have ZS : Hid ((Tryd.prog.info? 55).map (·.size) = some (SS.map (Value.int .u8)).length) := infoHl _ HSL.out
        have E1 : Hid (∀ W, (binOp .eql 55 (.agg (x.s.map (Value.int .u8)).toArray) (.agg (SS.map (Value.int .u8)).toArray)).run Tryd.prog W = .ok (.bool (decide (x.s = SS))) W) := fun W => eqH x.s SS hx.1 HSL.out W
        clear bel r1 hx
        by_cases hk : x.k = kk
        · have hk2 : (x.k == kk) = true := by simpa using hk
          by_cases hs : x.s = SS
          · have hfj : Hid (f = j) := HH hk hs
            rw [decide_eq_true hs] at E1
            clear HH HMM hk hs
            generalize x.k = xk at *
            generalize x.s.map (Value.int .u8) = cs at *
            go_wp2_with fail
            refine wp_region_held_drew (S := From wr) (by kernel_rfl) ((Below.refl _ _).drew) (fun _ => ?_)
            refine wpAnyH_on ((Below.refl _ _).drew) (fun u0 hu0 bu0 => ?_)
            replace FK := on FK bu0
            replace FX := on FX bu0
            replace FS := on FS bu0
            replace FB := on FB bu0
            refine wpAnyH_take (i := 0) (oi := { dst := some 25, op := Op.move (Operand.tmp 1), type := 24, pos := "ref.go:104", after := #[], guard := none }) (v := ?vr1) rfl (by kernel_rfl) (by kernel_rfl) (by kernel_rfl) (fun _ _ _ h => h) (Or.inl ⟨by rfl, ?yr1⟩) (Below.refl _ _) ?rr1
            case yr1 => (intro w hSw; go_simp; try with_reducible rfl)
            try simp only [Act.put, List.setIfInBounds_toArray, List.set_cons_zero, List.set_cons_succ]
            refine wpAnyH_take (i := 1) (oi := { dst := some 26, op := Op.move (Operand.tmp 10), type := 3, pos := "ref.go:104", after := #[], guard := none }) (v := ?vr2) rfl (by kernel_rfl) (by kernel_rfl) (by kernel_rfl) (fun _ _ _ h => h) (Or.inl ⟨by rfl, ?yr2⟩) (Below.refl _ _) ?rr2
            case yr2 => (intro w hSw; go_simp; try with_reducible rfl)
            try simp only [Act.put, List.setIfInBounds_toArray, List.set_cons_zero, List.set_cons_succ]
            refine wpAnyH_take (i := 2) (oi := { dst := some 27, op := Op.indexAddr 24 (Operand.tmp 25) (Operand.tmp 26), type := 0, pos := "ref.go:104", after := #[{ on := 0, ground := Ground.data }, { on := 1, ground := Ground.data }], guard := none }) (v := ?vr3) rfl (by kernel_rfl) (by kernel_rfl) (by kernel_rfl) (fun _ _ _ h => h) (Or.inl ⟨by rfl, ?yr3⟩) (Below.refl _ _) ?rr3
            case yr3 => (intro w hSw; go_simp; try with_reducible rfl)
            try simp only [Act.put, List.setIfInBounds_toArray, List.set_cons_zero, List.set_cons_succ]
            refine wpAnyH_take (i := 3) (oi := { dst := some 28, op := Op.fieldAddr 57 (Operand.tmp 27) 0, type := 0, pos := "ref.go:104", after := #[{ on := 2, ground := Ground.data }], guard := none }) (v := ?vr4) rfl (by kernel_rfl) (by kernel_rfl) (by kernel_rfl) (fun _ _ _ h => h) (Or.inl ⟨by rfl, ?yr4⟩) (Below.refl _ _) ?rr4
            case yr4 => (intro w hSw; go_simp; try with_reducible rfl)
            try simp only [Act.put, List.setIfInBounds_toArray, List.set_cons_zero, List.set_cons_succ]
            refine wpAnyH_take (i := 4) (oi := { dst := some 29, op := Op.load 44 (Operand.tmp 28), type := 44, pos := "ref.go:104", after := #[{ on := 3, ground := Ground.data }], guard := none }) (v := ?vr5) rfl (by kernel_rfl) (by kernel_rfl) (by kernel_rfl) (fun _ _ _ h => h) (Or.inl ⟨by rfl, ?yr5⟩) (Below.refl _ _) ?rr5
            case yr5 => (intro w hSw; have t0 := FK.out w hSw; go_simp; try with_reducible rfl)
            try simp only [Act.put, List.setIfInBounds_toArray, List.set_cons_zero, List.set_cons_succ]
            refine wpAnyH_take (i := 5) (oi := { dst := some 30, op := Op.move (Operand.tmp 8), type := 44, pos := "ref.go:104", after := #[], guard := none }) (v := ?vr6) rfl (by kernel_rfl) (by kernel_rfl) (by kernel_rfl) (fun _ _ _ h => h) (Or.inl ⟨by rfl, ?yr6⟩) (Below.refl _ _) ?rr6
            case yr6 => (intro w hSw; go_simp; try with_reducible rfl)
            try simp only [Act.put, List.setIfInBounds_toArray, List.set_cons_zero, List.set_cons_succ]
            refine wpAnyH_take (i := 6) (oi := { dst := some 31, op := Op.binOp BinOp.eql 44 (Operand.tmp 29) (Operand.tmp 30) 44, type := 4, pos := "ref.go:104", after := #[{ on := 4, ground := Ground.data }, { on := 5, ground := Ground.data }], guard := none }) (v := ?vr7) rfl (by kernel_rfl) (by kernel_rfl) (by kernel_rfl) (fun _ _ _ h => h) (Or.inl ⟨by rfl, ?yr7⟩) (Below.refl _ _) ?rr7
            case yr7 => (intro w hSw; go_simp; try with_reducible rfl)
            try simp only [Act.put, List.setIfInBounds_toArray, List.set_cons_zero, List.set_cons_succ]
            refine wpAnyH_take (i := 7) (oi := { dst := some 32, op := Op.move (Operand.tmp 31), type := 4, pos := "ref.go:104", after := #[{ on := 6, ground := Ground.data }], guard := none }) (v := ?vr8) rfl (by kernel_rfl) (by kernel_rfl) (by kernel_rfl) (fun _ _ _ h => h) (Or.inl ⟨by rfl, ?yr8⟩) (Below.refl _ _) ?rr8
            case yr8 => (intro w hSw; go_simp; try with_reducible rfl)
            try simp only [Act.put, List.setIfInBounds_toArray, List.set_cons_zero, List.set_cons_succ]
            refine wpAnyH_take (i := 8) (oi := { dst := some 33, op := Op.move (Operand.tmp 1), type := 24, pos := "ref.go:104", after := #[{ on := 7, ground := Ground.guard }], guard := some (7, true) }) (v := ?vr9) rfl (by kernel_rfl) (by kernel_rfl) (by kernel_rfl) (fun _ _ _ h => h) (Or.inl ⟨by rfl, ?yr9⟩) (Below.refl _ _) ?rr9
            case yr9 => (intro w hSw; go_simp; try with_reducible rfl)
            try simp only [Act.put, List.setIfInBounds_toArray, List.set_cons_zero, List.set_cons_succ]
            refine wpAnyH_take (i := 9) (oi := { dst := some 34, op := Op.move (Operand.tmp 10), type := 3, pos := "ref.go:104", after := #[{ on := 7, ground := Ground.guard }], guard := some (7, true) }) (v := ?vr10) rfl (by kernel_rfl) (by kernel_rfl) (by kernel_rfl) (fun _ _ _ h => h) (Or.inl ⟨by rfl, ?yr10⟩) (Below.refl _ _) ?rr10
            case yr10 => (intro w hSw; go_simp; try with_reducible rfl)
            try simp only [Act.put, List.setIfInBounds_toArray, List.set_cons_zero, List.set_cons_succ]
            refine wpAnyH_take (i := 10) (oi := { dst := some 35, op := Op.indexAddr 24 (Operand.tmp 33) (Operand.tmp 34), type := 0, pos := "ref.go:104", after := #[{ on := 8, ground := Ground.data }, { on := 9, ground := Ground.data }, { on := 7, ground := Ground.guard }], guard := some (7, true) }) (v := ?vr11) rfl (by kernel_rfl) (by kernel_rfl) (by kernel_rfl) (fun _ _ _ h => h) (Or.inl ⟨by rfl, ?yr11⟩) (Below.refl _ _) ?rr11
            case yr11 => (intro w hSw; go_simp; try with_reducible rfl)
            try simp only [Act.put, List.setIfInBounds_toArray, List.set_cons_zero, List.set_cons_succ]
            refine wpAnyH_take (i := 11) (oi := { dst := some 36, op := Op.fieldAddr 57 (Operand.tmp 35) 1, type := 0, pos := "ref.go:104", after := #[{ on := 10, ground := Ground.data }, { on := 7, ground := Ground.guard }], guard := some (7, true) }) (v := ?vr12) rfl (by kernel_rfl) (by kernel_rfl) (by kernel_rfl) (fun _ _ _ h => h) (Or.inl ⟨by rfl, ?yr12⟩) (Below.refl _ _) ?rr12
            case yr12 => (intro w hSw; go_simp; try with_reducible rfl)
            try simp only [Act.put, List.setIfInBounds_toArray, List.set_cons_zero, List.set_cons_succ]
            refine wpAnyH_take (i := 12) (oi := { dst := some 37, op := Op.load 55 (Operand.tmp 36), type := 55, pos := "ref.go:104", after := #[{ on := 11, ground := Ground.data }, { on := 7, ground := Ground.guard }], guard := some (7, true) }) (v := .agg cs.toArray) rfl (by kernel_rfl) (by kernel_rfl) (by kernel_rfl) (fun _ _ _ h => h) (yieldsIf_load_mid (by rfl) 55 _ rfl b' (off + j * 33 + 1) rfl cs _ (fun w hw => FX.out w hw) Tryd.underlying55 rfl ZX.out) (Below.refl _ _) ?_
            try simp only [Act.put, List.setIfInBounds_toArray, List.set_cons_zero, List.set_cons_succ]
            refine wpAnyH_take (i := 13) (oi := { dst := some 38, op := Op.load 55 (Operand.tmp 9), type := 55, pos := "ref.go:104", after := #[{ on := 7, ground := Ground.guard }], guard := some (7, true) }) (v := .agg (SS.map (Value.int .u8)).toArray) rfl (by kernel_rfl) (by kernel_rfl) (by kernel_rfl) (fun _ _ _ h => h) (yieldsIf_load_mid (by rfl) 55 _ rfl w2.heap.size 0 rfl (SS.map (Value.int .u8)) _ (fun w hw => FS.out w hw) Tryd.underlying55 rfl ZS.out) (Below.refl _ _) ?_
            try simp only [Act.put, List.setIfInBounds_toArray, List.set_cons_zero, List.set_cons_succ]
            refine wpAnyH_take (i := 14) (oi := { dst := some 39, op := Op.binOp BinOp.eql 55 (Operand.tmp 37) (Operand.tmp 38) 55, type := 4, pos := "ref.go:104", after := #[{ on := 12, ground := Ground.data }, { on := 13, ground := Ground.data }, { on := 7, ground := Ground.guard }], guard := some (7, true) }) (v := .bool true) rfl (by kernel_rfl) (by kernel_rfl) (by kernel_rfl) (fun _ _ _ h => h) (yields_eql (by rfl) _ _ _ rfl cs.toArray (SS.map (Value.int .u8)).toArray true rfl rfl (fun w => E1.out w)) (Below.refl _ _) ?_
            try simp only [Act.put, List.setIfInBounds_toArray, List.set_cons_zero, List.set_cons_succ]
            refine wpAnyH_take (i := 15) (oi := { dst := some 40, op := Op.pick (Operand.tmp 32) (Operand.tmp 39) (Operand.const (Value.bool false)), type := 4, pos := "ref.go:104", after := #[{ on := 7, ground := Ground.data }, { on := 14, ground := Ground.data }], guard := none }) (v := ?vr16) rfl (by kernel_rfl) (by kernel_rfl) (by kernel_rfl) (fun _ _ _ h => h) (Or.inl ⟨by rfl, ?yr16⟩) (Below.refl _ _) ?rr16
            case yr16 => (intro w hSw; go_simp; try with_reducible rfl)
            try simp only [Act.put, List.setIfInBounds_toArray, List.set_cons_zero, List.set_cons_succ]
            refine wpAnyH_done (by kernel_rfl) ?_ _
            have BZ : Hid (Below w.heap.size w u0) := B3.out.trans (Below.mono (FB.out _ (Below.refl _ _)) B3.out.size)
            clear FK FX FS FB E1 ZX ZS
            have HRE : Hid (R = ((L : Int) * (j : Int), true)) := by
              unfold Hid
              have := HR2.out
              rw [hfj.out, if_pos hlt] at this
              rw [this, Int.mul_comm]
            have m0 : (L : Int) * (j : Int) ≤ 100000 * 100000 := Int.mul_le_mul (by omega) (by omega) (by omega) (by omega)
            have m1 : 0 ≤ (L : Int) * (j : Int) := Int.mul_nonneg (by omega) (by omega)
            clear HR2 hfj
            obtain ⟨mm, hmm⟩ : ∃ mm, (L : Int) * (j : Int) = mm := ⟨_, rfl⟩
            rw [hmm] at m0 m1 HRE
            go_wp2
            go_ret2
            exact ⟨by rw [HRE.out]; rfl, BZ.out⟩
          · have hfj : Hid (j + 1 ≤ f) := HMM (fun q => hs q.2)
            rw [decide_eq_false hs] at E1
            clear HH HMM hk hs
            generalize x.k = xk at *
            generalize x.s.map (Value.int .u8) = cs at *
            go_wp2_with fail
            refine wp_region_held_drew (S := From wr) (by kernel_rfl) ((Below.refl _ _).drew) (fun _ => ?_)
            refine wpAnyH_on ((Below.refl _ _).drew) (fun u0 hu0 bu0 => ?_)
            replace FK := on FK bu0
            replace FX := on FX bu0
            replace FS := on FS bu0
            replace FB := on FB bu0
            refine wpAnyH_take (i := 0) (oi := { dst := some 25, op := Op.move (Operand.tmp 1), type := 24, pos := "ref.go:104", after := #[], guard := none }) (v := ?vs1) rfl (by kernel_rfl) (by kernel_rfl) (by kernel_rfl) (fun _ _ _ h => h) (Or.inl ⟨by rfl, ?ys1⟩) (Below.refl _ _) ?rs1
            case ys1 => (intro w hSw; go_simp; try with_reducible rfl)
            try simp only [Act.put, List.setIfInBounds_toArray, List.set_cons_zero, List.set_cons_succ]
            refine wpAnyH_take (i := 1) (oi := { dst := some 26, op := Op.move (Operand.tmp 10), type := 3, pos := "ref.go:104", after := #[], guard := none }) (v := ?vs2) rfl (by kernel_rfl) (by kernel_rfl) (by kernel_rfl) (fun _ _ _ h => h) (Or.inl ⟨by rfl, ?ys2⟩) (Below.refl _ _) ?rs2
            case ys2 => (intro w hSw; go_simp; try with_reducible rfl)
            try simp only [Act.put, List.setIfInBounds_toArray, List.set_cons_zero, List.set_cons_succ]
            refine wpAnyH_take (i := 2) (oi := { dst := some 27, op := Op.indexAddr 24 (Operand.tmp 25) (Operand.tmp 26), type := 0, pos := "ref.go:104", after := #[{ on := 0, ground := Ground.data }, { on := 1, ground := Ground.data }], guard := none }) (v := ?vs3) rfl (by kernel_rfl) (by kernel_rfl) (by kernel_rfl) (fun _ _ _ h => h) (Or.inl ⟨by rfl, ?ys3⟩) (Below.refl _ _) ?rs3
            case ys3 => (intro w hSw; go_simp; try with_reducible rfl)
            try simp only [Act.put, List.setIfInBounds_toArray, List.set_cons_zero, List.set_cons_succ]
            refine wpAnyH_take (i := 3) (oi := { dst := some 28, op := Op.fieldAddr 57 (Operand.tmp 27) 0, type := 0, pos := "ref.go:104", after := #[{ on := 2, ground := Ground.data }], guard := none }) (v := ?vs4) rfl (by kernel_rfl) (by kernel_rfl) (by kernel_rfl) (fun _ _ _ h => h) (Or.inl ⟨by rfl, ?ys4⟩) (Below.refl _ _) ?rs4
            case ys4 => (intro w hSw; go_simp; try with_reducible rfl)
            try simp only [Act.put, List.setIfInBounds_toArray, List.set_cons_zero, List.set_cons_succ]
            refine wpAnyH_take (i := 4) (oi := { dst := some 29, op := Op.load 44 (Operand.tmp 28), type := 44, pos := "ref.go:104", after := #[{ on := 3, ground := Ground.data }], guard := none }) (v := ?vs5) rfl (by kernel_rfl) (by kernel_rfl) (by kernel_rfl) (fun _ _ _ h => h) (Or.inl ⟨by rfl, ?ys5⟩) (Below.refl _ _) ?rs5
            case ys5 => (intro w hSw; have t0 := FK.out w hSw; go_simp; try with_reducible rfl)
            try simp only [Act.put, List.setIfInBounds_toArray, List.set_cons_zero, List.set_cons_succ]
            refine wpAnyH_take (i := 5) (oi := { dst := some 30, op := Op.move (Operand.tmp 8), type := 44, pos := "ref.go:104", after := #[], guard := none }) (v := ?vs6) rfl (by kernel_rfl) (by kernel_rfl) (by kernel_rfl) (fun _ _ _ h => h) (Or.inl ⟨by rfl, ?ys6⟩) (Below.refl _ _) ?rs6
            case ys6 => (intro w hSw; go_simp; try with_reducible rfl)
            try simp only [Act.put, List.setIfInBounds_toArray, List.set_cons_zero, List.set_cons_succ]
            refine wpAnyH_take (i := 6) (oi := { dst := some 31, op := Op.binOp BinOp.eql 44 (Operand.tmp 29) (Operand.tmp 30) 44, type := 4, pos := "ref.go:104", after := #[{ on := 4, ground := Ground.data }, { on := 5, ground := Ground.data }], guard := none }) (v := ?vs7) rfl (by kernel_rfl) (by kernel_rfl) (by kernel_rfl) (fun _ _ _ h => h) (Or.inl ⟨by rfl, ?ys7⟩) (Below.refl _ _) ?rs7
            case ys7 => (intro w hSw; go_simp; try with_reducible rfl)
            try simp only [Act.put, List.setIfInBounds_toArray, List.set_cons_zero, List.set_cons_succ]
            refine wpAnyH_take (i := 7) (oi := { dst := some 32, op := Op.move (Operand.tmp 31), type := 4, pos := "ref.go:104", after := #[{ on := 6, ground := Ground.data }], guard := none }) (v := ?vs8) rfl (by kernel_rfl) (by kernel_rfl) (by kernel_rfl) (fun _ _ _ h => h) (Or.inl ⟨by rfl, ?ys8⟩) (Below.refl _ _) ?rs8
            case ys8 => (intro w hSw; go_simp; try with_reducible rfl)
            try simp only [Act.put, List.setIfInBounds_toArray, List.set_cons_zero, List.set_cons_succ]
            refine wpAnyH_take (i := 8) (oi := { dst := some 33, op := Op.move (Operand.tmp 1), type := 24, pos := "ref.go:104", after := #[{ on := 7, ground := Ground.guard }], guard := some (7, true) }) (v := ?vs9) rfl (by kernel_rfl) (by kernel_rfl) (by kernel_rfl) (fun _ _ _ h => h) (Or.inl ⟨by rfl, ?ys9⟩) (Below.refl _ _) ?rs9
            case ys9 => (intro w hSw; go_simp; try with_reducible rfl)
            try simp only [Act.put, List.setIfInBounds_toArray, List.set_cons_zero, List.set_cons_succ]
            refine wpAnyH_take (i := 9) (oi := { dst := some 34, op := Op.move (Operand.tmp 10), type := 3, pos := "ref.go:104", after := #[{ on := 7, ground := Ground.guard }], guard := some (7, true) }) (v := ?vs10) rfl (by kernel_rfl) (by kernel_rfl) (by kernel_rfl) (fun _ _ _ h => h) (Or.inl ⟨by rfl, ?ys10⟩) (Below.refl _ _) ?rs10
            case ys10 => (intro w hSw; go_simp; try with_reducible rfl)
            try simp only [Act.put, List.setIfInBounds_toArray, List.set_cons_zero, List.set_cons_succ]
            refine wpAnyH_take (i := 10) (oi := { dst := some 35, op := Op.indexAddr 24 (Operand.tmp 33) (Operand.tmp 34), type := 0, pos := "ref.go:104", after := #[{ on := 8, ground := Ground.data }, { on := 9, ground := Ground.data }, { on := 7, ground := Ground.guard }], guard := some (7, true) }) (v := ?vs11) rfl (by kernel_rfl) (by kernel_rfl) (by kernel_rfl) (fun _ _ _ h => h) (Or.inl ⟨by rfl, ?ys11⟩) (Below.refl _ _) ?rs11
            case ys11 => (intro w hSw; go_simp; try with_reducible rfl)
            try simp only [Act.put, List.setIfInBounds_toArray, List.set_cons_zero, List.set_cons_succ]
            refine wpAnyH_take (i := 11) (oi := { dst := some 36, op := Op.fieldAddr 57 (Operand.tmp 35) 1, type := 0, pos := "ref.go:104", after := #[{ on := 10, ground := Ground.data }, { on := 7, ground := Ground.guard }], guard := some (7, true) }) (v := ?vs12) rfl (by kernel_rfl) (by kernel_rfl) (by kernel_rfl) (fun _ _ _ h => h) (Or.inl ⟨by rfl, ?ys12⟩) (Below.refl _ _) ?rs12
            case ys12 => (intro w hSw; go_simp; try with_reducible rfl)
            try simp only [Act.put, List.setIfInBounds_toArray, List.set_cons_zero, List.set_cons_succ]
            refine wpAnyH_take (i := 12) (oi := { dst := some 37, op := Op.load 55 (Operand.tmp 36), type := 55, pos := "ref.go:104", after := #[{ on := 11, ground := Ground.data }, { on := 7, ground := Ground.guard }], guard := some (7, true) }) (v := .agg cs.toArray) rfl (by kernel_rfl) (by kernel_rfl) (by kernel_rfl) (fun _ _ _ h => h) (yieldsIf_load_mid (by rfl) 55 _ rfl b' (off + j * 33 + 1) rfl cs _ (fun w hw => FX.out w hw) Tryd.underlying55 rfl ZX.out) (Below.refl _ _) ?_
            try simp only [Act.put, List.setIfInBounds_toArray, List.set_cons_zero, List.set_cons_succ]
            refine wpAnyH_take (i := 13) (oi := { dst := some 38, op := Op.load 55 (Operand.tmp 9), type := 55, pos := "ref.go:104", after := #[{ on := 7, ground := Ground.guard }], guard := some (7, true) }) (v := .agg (SS.map (Value.int .u8)).toArray) rfl (by kernel_rfl) (by kernel_rfl) (by kernel_rfl) (fun _ _ _ h => h) (yieldsIf_load_mid (by rfl) 55 _ rfl w2.heap.size 0 rfl (SS.map (Value.int .u8)) _ (fun w hw => FS.out w hw) Tryd.underlying55 rfl ZS.out) (Below.refl _ _) ?_
            try simp only [Act.put, List.setIfInBounds_toArray, List.set_cons_zero, List.set_cons_succ]
            refine wpAnyH_take (i := 14) (oi := { dst := some 39, op := Op.binOp BinOp.eql 55 (Operand.tmp 37) (Operand.tmp 38) 55, type := 4, pos := "ref.go:104", after := #[{ on := 12, ground := Ground.data }, { on := 13, ground := Ground.data }, { on := 7, ground := Ground.guard }], guard := some (7, true) }) (v := .bool false) rfl (by kernel_rfl) (by kernel_rfl) (by kernel_rfl) (fun _ _ _ h => h) (yields_eql (by rfl) _ _ _ rfl cs.toArray (SS.map (Value.int .u8)).toArray false rfl rfl (fun w => E1.out w)) (Below.refl _ _) ?_
            try simp only [Act.put, List.setIfInBounds_toArray, List.set_cons_zero, List.set_cons_succ]
            refine wpAnyH_take (i := 15) (oi := { dst := some 40, op := Op.pick (Operand.tmp 32) (Operand.tmp 39) (Operand.const (Value.bool false)), type := 4, pos := "ref.go:104", after := #[{ on := 7, ground := Ground.data }, { on := 14, ground := Ground.data }], guard := none }) (v := ?vs16) rfl (by kernel_rfl) (by kernel_rfl) (by kernel_rfl) (fun _ _ _ h => h) (Or.inl ⟨by rfl, ?ys16⟩) (Below.refl _ _) ?rs16
            case ys16 => (intro w hSw; go_simp; try with_reducible rfl)
            try simp only [Act.put, List.setIfInBounds_toArray, List.set_cons_zero, List.set_cons_succ]
            refine wpAnyH_done (by kernel_rfl) ?_ _
            have BZ : Hid (Below W3.heap.size W3 u0) := FB.out _ (Below.refl _ _)
            clear FK FX FS FB E1 ZX ZS
            go_wp2
            go_roundw
            case rel => exact ⟨j + 1, by omega, by go_num, hfj.out, BZ.out⟩
            case measure => simp [intOf]; omega
        · have hk2 : (x.k == kk) = false := by simpa using hk
          have hfj : Hid (j + 1 ≤ f) := HMM (fun q => hk q.1)
          clear HH HMM hk
          generalize x.k = xk at *
          generalize x.s.map (Value.int .u8) = cs at *
          go_wp2_with fail
          refine wp_region_held_drew (S := From wr) (by kernel_rfl) ((Below.refl _ _).drew) (fun _ => ?_)
          refine wpAnyH_on ((Below.refl _ _).drew) (fun u0 hu0 bu0 => ?_)
          replace FK := on FK bu0
          replace FX := on FX bu0
          replace FS := on FS bu0
          replace FB := on FB bu0
          refine wpAnyH_take (i := 0) (oi := { dst := some 25, op := Op.move (Operand.tmp 1), type := 24, pos := "ref.go:104", after := #[], guard := none }) (v := ?vt1) rfl (by kernel_rfl) (by kernel_rfl) (by kernel_rfl) (fun _ _ _ h => h) (Or.inl ⟨by rfl, ?yt1⟩) (Below.refl _ _) ?rt1
          case yt1 => (intro w hSw; go_simp; try with_reducible rfl)
          try simp only [Act.put, List.setIfInBounds_toArray, List.set_cons_zero, List.set_cons_succ]
          refine wpAnyH_take (i := 1) (oi := { dst := some 26, op := Op.move (Operand.tmp 10), type := 3, pos := "ref.go:104", after := #[], guard := none }) (v := ?vt2) rfl (by kernel_rfl) (by kernel_rfl) (by kernel_rfl) (fun _ _ _ h => h) (Or.inl ⟨by rfl, ?yt2⟩) (Below.refl _ _) ?rt2
          case yt2 => (intro w hSw; go_simp; try with_reducible rfl)
          try simp only [Act.put, List.setIfInBounds_toArray, List.set_cons_zero, List.set_cons_succ]
          refine wpAnyH_take (i := 2) (oi := { dst := some 27, op := Op.indexAddr 24 (Operand.tmp 25) (Operand.tmp 26), type := 0, pos := "ref.go:104", after := #[{ on := 0, ground := Ground.data }, { on := 1, ground := Ground.data }], guard := none }) (v := ?vt3) rfl (by kernel_rfl) (by kernel_rfl) (by kernel_rfl) (fun _ _ _ h => h) (Or.inl ⟨by rfl, ?yt3⟩) (Below.refl _ _) ?rt3
          case yt3 => (intro w hSw; go_simp; try with_reducible rfl)
          try simp only [Act.put, List.setIfInBounds_toArray, List.set_cons_zero, List.set_cons_succ]
          refine wpAnyH_take (i := 3) (oi := { dst := some 28, op := Op.fieldAddr 57 (Operand.tmp 27) 0, type := 0, pos := "ref.go:104", after := #[{ on := 2, ground := Ground.data }], guard := none }) (v := ?vt4) rfl (by kernel_rfl) (by kernel_rfl) (by kernel_rfl) (fun _ _ _ h => h) (Or.inl ⟨by rfl, ?yt4⟩) (Below.refl _ _) ?rt4
          case yt4 => (intro w hSw; go_simp; try with_reducible rfl)
          try simp only [Act.put, List.setIfInBounds_toArray, List.set_cons_zero, List.set_cons_succ]
          refine wpAnyH_take (i := 4) (oi := { dst := some 29, op := Op.load 44 (Operand.tmp 28), type := 44, pos := "ref.go:104", after := #[{ on := 3, ground := Ground.data }], guard := none }) (v := ?vt5) rfl (by kernel_rfl) (by kernel_rfl) (by kernel_rfl) (fun _ _ _ h => h) (Or.inl ⟨by rfl, ?yt5⟩) (Below.refl _ _) ?rt5
          case yt5 => (intro w hSw; have t0 := FK.out w hSw; go_simp; try with_reducible rfl)
          try simp only [Act.put, List.setIfInBounds_toArray, List.set_cons_zero, List.set_cons_succ]
          refine wpAnyH_take (i := 5) (oi := { dst := some 30, op := Op.move (Operand.tmp 8), type := 44, pos := "ref.go:104", after := #[], guard := none }) (v := ?vt6) rfl (by kernel_rfl) (by kernel_rfl) (by kernel_rfl) (fun _ _ _ h => h) (Or.inl ⟨by rfl, ?yt6⟩) (Below.refl _ _) ?rt6
          case yt6 => (intro w hSw; go_simp; try with_reducible rfl)
          try simp only [Act.put, List.setIfInBounds_toArray, List.set_cons_zero, List.set_cons_succ]
          refine wpAnyH_take (i := 6) (oi := { dst := some 31, op := Op.binOp BinOp.eql 44 (Operand.tmp 29) (Operand.tmp 30) 44, type := 4, pos := "ref.go:104", after := #[{ on := 4, ground := Ground.data }, { on := 5, ground := Ground.data }], guard := none }) (v := ?vt7) rfl (by kernel_rfl) (by kernel_rfl) (by kernel_rfl) (fun _ _ _ h => h) (Or.inl ⟨by rfl, ?yt7⟩) (Below.refl _ _) ?rt7
          case yt7 => (intro w hSw; go_simp; try with_reducible rfl)
          try simp only [Act.put, List.setIfInBounds_toArray, List.set_cons_zero, List.set_cons_succ]
          refine wpAnyH_take (i := 7) (oi := { dst := some 32, op := Op.move (Operand.tmp 31), type := 4, pos := "ref.go:104", after := #[{ on := 6, ground := Ground.data }], guard := none }) (v := ?vt8) rfl (by kernel_rfl) (by kernel_rfl) (by kernel_rfl) (fun _ _ _ h => h) (Or.inl ⟨by rfl, ?yt8⟩) (Below.refl _ _) ?rt8
          case yt8 => (intro w hSw; go_simp; try with_reducible rfl)
          try simp only [Act.put, List.setIfInBounds_toArray, List.set_cons_zero, List.set_cons_succ]
          refine wpAnyH_take (i := 8) (oi := { dst := some 33, op := Op.move (Operand.tmp 1), type := 24, pos := "ref.go:104", after := #[{ on := 7, ground := Ground.guard }], guard := some (7, true) }) (v := undef) rfl (by kernel_rfl) (by kernel_rfl) (by kernel_rfl) (fun _ _ _ h => h) (Or.inr ⟨by rfl, rfl⟩) (Below.refl _ _) ?_
          try simp only [Act.put, List.setIfInBounds_toArray, List.set_cons_zero, List.set_cons_succ]
          refine wpAnyH_take (i := 9) (oi := { dst := some 34, op := Op.move (Operand.tmp 10), type := 3, pos := "ref.go:104", after := #[{ on := 7, ground := Ground.guard }], guard := some (7, true) }) (v := undef) rfl (by kernel_rfl) (by kernel_rfl) (by kernel_rfl) (fun _ _ _ h => h) (Or.inr ⟨by rfl, rfl⟩) (Below.refl _ _) ?_
          try simp only [Act.put, List.setIfInBounds_toArray, List.set_cons_zero, List.set_cons_succ]
          refine wpAnyH_take (i := 10) (oi := { dst := some 35, op := Op.indexAddr 24 (Operand.tmp 33) (Operand.tmp 34), type := 0, pos := "ref.go:104", after := #[{ on := 8, ground := Ground.data }, { on := 9, ground := Ground.data }, { on := 7, ground := Ground.guard }], guard := some (7, true) }) (v := undef) rfl (by kernel_rfl) (by kernel_rfl) (by kernel_rfl) (fun _ _ _ h => h) (Or.inr ⟨by rfl, rfl⟩) (Below.refl _ _) ?_
          try simp only [Act.put, List.setIfInBounds_toArray, List.set_cons_zero, List.set_cons_succ]
          refine wpAnyH_take (i := 11) (oi := { dst := some 36, op := Op.fieldAddr 57 (Operand.tmp 35) 1, type := 0, pos := "ref.go:104", after := #[{ on := 10, ground := Ground.data }, { on := 7, ground := Ground.guard }], guard := some (7, true) }) (v := undef) rfl (by kernel_rfl) (by kernel_rfl) (by kernel_rfl) (fun _ _ _ h => h) (Or.inr ⟨by rfl, rfl⟩) (Below.refl _ _) ?_
          try simp only [Act.put, List.setIfInBounds_toArray, List.set_cons_zero, List.set_cons_succ]
          refine wpAnyH_take (i := 12) (oi := { dst := some 37, op := Op.load 55 (Operand.tmp 36), type := 55, pos := "ref.go:104", after := #[{ on := 11, ground := Ground.data }, { on := 7, ground := Ground.guard }], guard := some (7, true) }) (v := undef) rfl (by kernel_rfl) (by kernel_rfl) (by kernel_rfl) (fun _ _ _ h => h) (Or.inr ⟨by rfl, rfl⟩) (Below.refl _ _) ?_
          try simp only [Act.put, List.setIfInBounds_toArray, List.set_cons_zero, List.set_cons_succ]
          refine wpAnyH_take (i := 13) (oi := { dst := some 38, op := Op.load 55 (Operand.tmp 9), type := 55, pos := "ref.go:104", after := #[{ on := 7, ground := Ground.guard }], guard := some (7, true) }) (v := undef) rfl (by kernel_rfl) (by kernel_rfl) (by kernel_rfl) (fun _ _ _ h => h) (Or.inr ⟨by rfl, rfl⟩) (Below.refl _ _) ?_
          try simp only [Act.put, List.setIfInBounds_toArray, List.set_cons_zero, List.set_cons_succ]
          refine wpAnyH_take (i := 14) (oi := { dst := some 39, op := Op.binOp BinOp.eql 55 (Operand.tmp 37) (Operand.tmp 38) 55, type := 4, pos := "ref.go:104", after := #[{ on := 12, ground := Ground.data }, { on := 13, ground := Ground.data }, { on := 7, ground := Ground.guard }], guard := some (7, true) }) (v := undef) rfl (by kernel_rfl) (by kernel_rfl) (by kernel_rfl) (fun _ _ _ h => h) (Or.inr ⟨by rfl, rfl⟩) (Below.refl _ _) ?_
          try simp only [Act.put, List.setIfInBounds_toArray, List.set_cons_zero, List.set_cons_succ]
          refine wpAnyH_take (i := 15) (oi := { dst := some 40, op := Op.pick (Operand.tmp 32) (Operand.tmp 39) (Operand.const (Value.bool false)), type := 4, pos := "ref.go:104", after := #[{ on := 7, ground := Ground.data }, { on := 14, ground := Ground.data }], guard := none }) (v := ?vt16) rfl (by kernel_rfl) (by kernel_rfl) (by kernel_rfl) (fun _ _ _ h => h) (Or.inl ⟨by rfl, ?yt16⟩) (Below.refl _ _) ?rt16
          case yt16 => (intro w hSw; go_simp; try with_reducible rfl)
          try simp only [Act.put, List.setIfInBounds_toArray, List.set_cons_zero, List.set_cons_succ]
          refine wpAnyH_done (by kernel_rfl) ?_ _
          have BZ : Hid (Below W3.heap.size W3 u0) := FB.out _ (Below.refl _ _)
          clear FK FX FS FB E1 ZX ZS
          go_wp2
          go_roundw
          case rel => exact ⟨j + 1, by omega, by go_num, hfj.out, BZ.out⟩
          case measure => simp [intOf]; omega
      · obtain rfl : j = n := by omega
        have hfn : ¬ f < j := by have := hf.out; omega
        have HRE : Hid (R = (0, false)) := by unfold Hid; have := HR2.out; rwa [if_neg hfn] at this
        clear HR2 hfn
        go_wp2
        go_ret2
        exact ⟨by rw [HRE.out]; rfl, HB.out⟩
  · obtain rfl : R = (0, false) := by have := HR.out; rwa [if_neg (fun hq => hz hq.1)] at this
    have hz2 : ((L : Int) != z) = true := by simpa using hz
    clear HR hz HHIT HMISS HFL
    go_enter Tryd.func25, Tryd.ntmps25
    go_wp2
    go_ret2
    exact ⟨rfl, Below.refl _ _⟩
end Go.Proofs.YtjiefndjgkhcjaaDoor
