/-
  What the document's Sign, Find, Whole and Search answer.
-/
import Derived.Test.YtlhmpcmlpfffoaaDoorSi
import Derived.Test.YtlhmpcmlpfffoaaDoorShROf
import Derived.Test.YtlhmpcmlpfffoaaDoorRoRef
import Derived.Test.YtlhmpcmlpfffoaaDoorFd
import Derived.Test.YtlhmpcmlpfffoaaDoorSx
import Derived.WalkSmall
namespace Go.Proofs.YtlhmpcmlpfffoaaDoor
open Go.RowKit
set_option maxRecDepth 100000

set_option maxHeartbeats 4000000 in
theorem rsign_any (v : Value) (b : List Int) (z : Int) (w : World) (h : Sl w v b) :
    Calls Tryd.prog 11 #[v, .int .i64 z] w fun e w' => ∃ v', e = .returned (.tuple #[v', .int .i64 (bsig b z).2]) ∧ RI w' w.heap.size v' (bsig b z).1 ∧ Below w.heap.size w w' := by
  obtain ⟨a, c, rfl, h2, h3, h4, -⟩ := id h
  have HS : Hid (Sl w (.slice a b.length c) b) := h
  have HM : Hid (bsig b z = if z < 1 ∨ 4096 < z then ([], 2) else if 65536 < b.length ∨ 4096 < b.length / z.toNat then ([], 5) else (sgs b z.toNat (b.length / z.toNat), 0)) := rfl
  obtain ⟨L, hL⟩ : ∃ L, L = b.length := ⟨_, rfl⟩
  have HL : Hid (L = b.length) := hL
  rw [← hL] at HS HM h2 ⊢
  clear h hL h4
  generalize bsig b z = R at *
  by_cases h1 : z < 1 ∨ 4096 < z
  · obtain rfl : R = ([], 2) := by have := HM.out; rwa [if_pos h1] at this
    clear HM
    by_cases h6 : z < 1
    · clear h1
      go_enter Tryd.func11, Tryd.ntmps11
      go_wp2
      go_ret2
      exact ⟨_, rfl, RI.nil _ _, Below.refl _ _⟩
    · have h7 : 4096 < z := by omega
      clear h1
      go_enter Tryd.func11, Tryd.ntmps11
      go_wp2
      go_ret2
      exact ⟨_, rfl, RI.nil _ _, Below.refl _ _⟩
  have y1 : ¬ z < 1 := by omega
  have y2 : ¬ 4096 < z := by omega
  obtain ⟨zn, rfl⟩ : ∃ k : Nat, z = k := ⟨z.toNat, by omega⟩
  have hm : L ≤ 9223372036854775807 := by unfold maxLen at h3; omega
  have HM2 : Hid (R = if 65536 < L ∨ 4096 < L / zn then ([], 5) else (sgs b zn (L / zn), 0)) := by
    have := HM.out
    rw [if_neg h1, Int.toNat_natCast] at this
    exact this
  have z1 : 1 ≤ zn := by omega
  have z2 : zn ≤ 4096 := by omega
  have HBL : Hid (∀ j, j < L / zn → (j + 1) * zn ≤ L) := fun j hj => blk_le L zn j hj
  have HDV : Hid (∀ j, (j + 1) * zn ≤ L → j < L / zn) := fun j hj => by
    rw [Nat.lt_iff_add_one_le, Nat.le_div_iff_mul_le (by omega)]
    exact hj
  have g3 : ¬ (zn : Int) = 0 := by omega
  have g4 : Int.tdiv (L : Int) (zn : Int) = ((L / zn : Nat) : Int) := (Int.ofNat_tdiv L zn).symm
  have g4' : (L : Int) / (zn : Int) = ((L / zn : Nat) : Int) := (Int.natCast_ediv L zn).symm
  have g5 : L / zn ≤ L := Nat.div_le_self L zn
  clear HM h1
  generalize L / zn = q at *
  by_cases h5 : 65536 < L ∨ 4096 < q
  · obtain rfl : R = ([], 5) := by have := HM2.out; rwa [if_pos h5] at this
    clear HM2
    by_cases h6 : 65536 < L
    · have h7 : 65536 < (L : Int) := by omega
      clear h5
      go_enter Tryd.func11, Tryd.ntmps11
      go_wp2
      go_ret2
      exact ⟨_, rfl, RI.nil _ _, Below.refl _ _⟩
    · have h7 : ¬ 65536 < (L : Int) := by omega
      have h8 : 4096 < (q : Int) := by omega
      clear h5
      go_enter Tryd.func11, Tryd.ntmps11
      go_wp2
      go_ret2
      exact ⟨_, rfl, RI.nil _ _, Below.refl _ _⟩
  · obtain rfl : R = (sgs b zn q, 0) := by have := HM2.out; rwa [if_neg h5] at this
    have h7 : ¬ 65536 < (L : Int) := by omega
    have h8 : ¬ 4096 < (q : Int) := by omega
    have hq : q ≤ 4096 := by omega
    have hl : L ≤ 65536 := by omega
    clear HM2 h5
    go_enter Tryd.func11, Tryd.ntmps11
    go_wp2
    go_loopw [6, 7] (fun s p wr => ∃ j i : Nat, i = j * zn ∧ j ≤ q ∧ p = .int .i64 i ∧ RI wr w.heap.size s (sgs b zn j) ∧ Below w.heap.size w wr) (fun _ p _ => L + 1 - (intOf p).toNat)
    case atStart => exact ⟨0, 0, by omega, by omega, rfl, RI.nil _ _, Below.refl _ _⟩
    case round =>
      obtain ⟨j, i, hi, hj, rfl, oe, bel⟩ := hrel
      have HB : Hid (Below w.heap.size w wr) := bel
      have HO : Hid (RI wr w.heap.size u6 (sgs b zn j)) := oe
      obtain ⟨va, vc, rfl, -⟩ := oe.is.shape
      rw [sgs_len] at HO ⊢
      have HI : Hid (i = j * zn) := hi
      have e1 : (j + 1) * zn = i + zn := by rw [Nat.add_mul, Nat.one_mul, hi]
      have HE1 : Hid ((j + 1) * zn = i + zn) := e1
      clear bel oe hi
      by_cases hlt : j < q
      · have hbl := HBL.out j hlt
        rw [e1] at hbl
        have lt2 : (i : Int) + (zn : Int) ≤ (L : Int) := by omega
        have hs := HS.out.kept HB.out
        obtain ⟨bb, off, rfl⟩ : ∃ bb off, a = some ⟨bb, off, none⟩ := by
          obtain ⟨a', c', e, _, _, _, hr⟩ := hs
          cases e
          rcases hr with hr | ⟨_, bb, off, e, _⟩
          · have := HL.out; omega
          · exact ⟨bb, off, e⟩
        have HSB : Hid (∀ x, Below w.heap.size w x → Sl x (.slice (some ⟨bb, off + i, none⟩) zn (c - i)) (blk b zn j)) := fun x hx => sl_blk (HS.out.kept hx) zn i j hbl HI.out
        have hbk := blk_len b zn j (by rw [HE1.out, ← HL.out]; exact hbl)
        have C1 := Ro.rsum_any _ (blk b zn j) wr (HSB.out wr HB.out)
        have C2 := Sh.rof_any _ (blk b zn j) wr (HSB.out wr HB.out) (by omega)
        have HBF : Hid (Tryd.prog.built 57 [(0, .int .u32 (Ro.rs (blk b zn j))), (1, .agg (u8c (Sh.Pl.sha (blk b zn j))))] = some (sumB (blk b zn j)).cells.toArray) := builtF _ _ (Sh.sha_len _)
        have HT1 : Hid (sgs b zn (j + 1) = sgs b zn j ++ [sumB (blk b zn j)]) := sgs_succ b zn j
        have HY : Hid (Sg.ok (sumB (blk b zn j))) := sumB_ok _
        have HJ : Hid ((sgs b zn j).length = j) := sgs_len _ _ _
        rw [u8_eq] at C2
        clear hs e1 hbk HSB
        generalize sumB (blk b zn j) = y at *
        generalize sgs b zn j = LL at *
        generalize Ro.rs (blk b zn j) = kk at *
        generalize Sh.Pl.sha (blk b zn j) = SS at *
        have n1 : (0 : Int) ≤ (i : Int) := by omega
        have n2 : (i : Int) ≤ ((i + zn : Nat) : Int) := by omega
        have n3 : ((i + zn : Nat) : Int) ≤ (c : Int) := by omega
        have n4 : (i + zn) - i = zn := by omega
        go_wp2_with fail
        refine C1.mono ?_
        rintro e w5 ⟨rfl, hq5⟩
        replace hq5 := hq5.symm
        subst hq5
        clear C1
        go_wp2_with fail
        refine C2.mono ?_
        rintro e w2 ⟨rfl, b2⟩
        clear C2
        obtain ⟨W3, hW3⟩ : ∃ W3, W3 = w2.alloc (.cells y.cells.toArray 57) := ⟨_, rfl⟩
        have b3 : Below w2.heap.size w2 W3 := by rw [hW3]; exact al_below _ _
        have b13 : Below wr.heap.size wr W3 := b2.trans (b3.mono b2.size)
        have B3 : Hid (Below w.heap.size w W3) := HB.out.trans (b13.mono HB.out.size)
        have R3 : Hid (RI W3 w.heap.size (.slice va j vc) LL) := HO.out.below b13
        have K3 : Hid (W3.rangeAt w2.heap.size 0 y.cells) := by unfold Hid; rw [hW3]; exact (IB.new w2 y).range
        clear b2 b3 b13 HO
        go_wp2_with (refine wpList_built rfl 57 [(0, _), (1, _)] rfl _ rfl y.cells.toArray HBF.out (Hid.out ?_))
        unfold Hid
        go_wp2_with (refine wpList_bsI rfl _ rfl y HY.out rfl (Hid.out ?_))
        unfold Hid
        rw [← hW3]
        clear hW3
        go_wp2_with (at_builtin; refine wpList_append_it rfl _ _ rfl w.heap.size _ LL rfl R3.out w2.heap.size y 1 HY.out rfl K3.out (by rw [HJ.out]; omega) B3.out.size (Hid.out ?_))
        unfold Hid
        intro v4 w4 r4 g4x
        have B4 : Hid (Below w.heap.size w w4) := B3.out.grown g4x B3.out.size (own_base R3.out.1)
        have O4 : Hid (RI w4 w.heap.size v4 (sgs b zn (j + 1))) := by
          unfold Hid
          rw [HT1.out]
          exact r4
        clear r4 g4x R3 K3
        go_wp2
        go_roundw
        case rel => exact ⟨j + 1, i + zn, HE1.out.symm, by omega, by go_num, O4.out, B4.out⟩
        case measure => simp [intOf]; omega
      · obtain rfl : j = q := by omega
        have hnl : ¬ i + zn ≤ L := fun h => hlt (HDV.out j (by rw [e1]; exact h))
        have lt2 : ¬ (i : Int) + (zn : Int) ≤ (L : Int) := by omega
        have hiL : i ≤ 16777216 := by rw [HI.out]; exact Nat.le_trans (Nat.mul_le_mul hq z2) (by omega)
        clear e1
        go_wp2
        go_ret2
        exact ⟨_, rfl, HO.out, HB.out⟩
end Go.Proofs.YtlhmpcmlpfffoaaDoor
namespace Go.Proofs.YtlhmpcmlpfffoaaDoor
open Go.RowKit
set_option maxRecDepth 100000

theorem fi_le (l : List Sg) (y : Sg) (j : Nat) (hj : j < l.length) (h : atI l j = y) : fi l y.k y.s ≤ j := by
  unfold fi
  rcases Nat.lt_or_ge j (l.findIdx fun x : Sg => decide (x.k = y.k) && decide (x.s = y.s)) with h1 | h1
  · have h2 := List.not_of_lt_findIdx h1
    rw [← atI_eq l j hj, h] at h2
    simp at h2
  · exact h1
theorem fi_hit (l : List Sg) (k : Int) (A : List Int) (j : Nat) (hj : j < l.length) (h : j ≤ fi l k A) (h1 : (atI l j).k = k) (h2 : (atI l j).s = A) : fi l k A = j := by
  subst h1 h2
  have := fi_le l (atI l j) j hj rfl
  omega
theorem fi_miss (l : List Sg) (k : Int) (A : List Int) (j : Nat) (hj : j < l.length) (h : j ≤ fi l k A) (hn : ¬ ((atI l j).k = k ∧ (atI l j).s = A)) : j + 1 ≤ fi l k A := by
  rcases Nat.lt_or_ge j (fi l k A) with h1 | h1
  · exact h1
  · exfalso
    have e : fi l k A = j := by omega
    have h2 : fi l k A < l.length := by omega
    have h3 := List.findIdx_getElem (w := h2)
    have h4 : l[fi l k A]'h2 = atI l j := by rw [atI_eq l j hj]; congr 1
    rw [show l[l.findIdx fun x => decide (x.k = k) && decide (x.s = A)]'h2 = atI l j from h4] at h3
    simp only [Bool.and_eq_true, decide_eq_true_eq] at h3
    exact hn h3
theorem eqb_of {U V : Array Value} {b : Bool} {w : World} (h : (Op.equalIn 10000 48 (.agg U) (.agg V)).run Tryd.prog w = .ok b w) : (binOp BinOp.eql 48 (.agg U) (.agg V)).run Tryd.prog w = .ok (.bool b) w := by
  have h' : (Op.equal 48 (.agg U) (.agg V)).run Tryd.prog w = .ok b w := h
  show (do pure (.bool (← Op.equal 48 (.agg U) (.agg V))) : Sem Value).run Tryd.prog w = _
  rw [Sem.run_bind, h']
  rfl
theorem egH : Tryd.prog.eqGuardType Tryd.prog.depth 48 = false := by kernel_rfl
theorem eg_run (x y : Operand) (U V : Array Value) (w : World) : (eqGuard BinOp.eql 48 x y (.agg U) (.agg V)).run Tryd.prog w = .ok () w := run_eqGuard_agg _ _ _ _ _ _ _ egH
theorem yields_eql {S : World → Prop} {ops : Array Oper} {o : Oper} {a : Act} (hw : Region.wanted o (yielded ops a.tmps) = true) (x y : Operand) (t : TypeId) (ho : o.op = .binOp .eql 48 x y t)
    (U V : Array Value) (b : Bool) (hx : a.eval x = .agg U) (hy : a.eval y = .agg V) (hE : ∀ w, (binOp BinOp.eql 48 (.agg U) (.agg V)).run Tryd.prog w = .ok (.bool b) w) : YieldsIf Tryd.prog ops S o (.bool b) a :=
  .inl ⟨hw, fun w _ => by
    unfold execOp
    simp only [ho, hx, hy, Sem.run_bind, eg_run, hE, Result.andThen_ok, Sem.run_pure]⟩
theorem eqH (A B : List Int) (hA : A.length = 32) (hB : B.length = 32) (w : World) : (binOp BinOp.eql 48 (.agg (A.map (Value.int .u8)).toArray) (.agg (B.map (Value.int .u8)).toArray)).run Tryd.prog w = .ok (.bool (decide (A = B))) w := by
  have := eqb_of (eq_u8c 9998 A B hA hB w)
  rw [bed] at this
  exact this
set_option maxHeartbeats 4000000 in
theorem rfind_any (z : Int) (v u : Value) (l : List Sg) (b : List Int) (w : World) (h1 : GS w v l) (h2 : Sl w u b) (hl : l.length ≤ 100000) (hb : b.length ≤ 100000) :
    Calls Tryd.prog 33 #[.int .i64 z, v, u] w fun e w' => e = .returned (.tuple #[.int .i64 (bfnd l z b).1, .bool (bfnd l z b).2]) ∧ Below w.heap.size w w' := by
  obtain ⟨a, c, rfl, hc, _, _⟩ := h1.shape
  obtain ⟨va, vc, rfl, -⟩ := id h2
  have HR : Hid (bfnd l z b = if (b.length : Int) = z ∧ fi l (Ro.rs b) (Sh.Pl.sha b) < l.length then ((fi l (Ro.rs b) (Sh.Pl.sha b) : Int) * z, true) else (0, false)) := rfl
  have H1 : Hid (GS w (.slice a l.length c) l) := h1
  have K1 : Hid (∀ x ∈ l, x.ok) := h1.ok
  have HFL : Hid (fi l (Ro.rs b) (Sh.Pl.sha b) ≤ l.length) := List.findIdx_le_length
  have C1 := Ro.rsum_any _ b w h2
  have C2 := Sh.rof_any _ b w h2 hb
  rw [u8_eq] at C2
  have HSL : Hid ((Sh.Pl.sha b).length = 32) := Sh.sha_len b
  have HHIT : Hid (∀ j, j < l.length → j ≤ fi l (Ro.rs b) (Sh.Pl.sha b) → (atI l j).k = Ro.rs b → (atI l j).s = Sh.Pl.sha b → fi l (Ro.rs b) (Sh.Pl.sha b) = j) := fun j => fi_hit l _ _ j
  have HMISS : Hid (∀ j, j < l.length → j ≤ fi l (Ro.rs b) (Sh.Pl.sha b) → ¬ ((atI l j).k = Ro.rs b ∧ (atI l j).s = Sh.Pl.sha b) → j + 1 ≤ fi l (Ro.rs b) (Sh.Pl.sha b)) := fun j => fi_miss l _ _ j
  obtain ⟨L, hL⟩ : ∃ L, L = b.length := ⟨_, rfl⟩
  obtain ⟨n, hn⟩ : ∃ n, n = l.length := ⟨_, rfl⟩
  have HN : Hid (n = l.length) := hn
  rw [← hL] at C1 C2 HR hb ⊢
  rw [← hn] at HR H1 hl hc HFL HHIT HMISS ⊢
  clear h1 h2 hL hn
  generalize bfnd l z b = R at *
  generalize fi l (Ro.rs b) (Sh.Pl.sha b) = f at *
  generalize Ro.rs b = kk at *
  generalize Sh.Pl.sha b = SS at *
  by_cases hz : (L : Int) = z
  · subst hz
    have HR2 : Hid (R = if f < n then ((f : Int) * (L : Int), true) else (0, false)) := by unfold Hid; have := HR.out; simpa using this
    clear HR
    have t0 : ((L : Int) != (L : Int)) = false := by simp
    go_enter Tryd.func33, Tryd.ntmps33
    go_wp2_with fail
    refine C1.mono ?_
    rintro e w5 ⟨rfl, hq5⟩
    replace hq5 := hq5.symm
    subst hq5
    clear C1
    go_wp2_with fail
    refine C2.mono ?_
    rintro e w2 ⟨rfl, b2⟩
    clear C2
    obtain ⟨W3, hW3⟩ : ∃ W3, W3 = w2.alloc (.cells (u8c SS) 48) := ⟨_, rfl⟩
    have e3 := alloc_h w2 SS
    rw [← hW3] at e3
    have HE3 : Hid ((w2.alloc (.cells #[.int .u8 0, .int .u8 0, .int .u8 0, .int .u8 0, .int .u8 0, .int .u8 0, .int .u8 0, .int .u8 0, .int .u8 0, .int .u8 0, .int .u8 0, .int .u8 0, .int .u8 0, .int .u8 0, .int .u8 0, .int .u8 0, .int .u8 0, .int .u8 0, .int .u8 0, .int .u8 0, .int .u8 0, .int .u8 0, .int .u8 0, .int .u8 0, .int .u8 0, .int .u8 0, .int .u8 0, .int .u8 0, .int .u8 0, .int .u8 0, .int .u8 0, .int .u8 0] 48)).setRow w2.heap.size (u8c SS) = W3) := e3
    have b3 : Below w2.heap.size w2 W3 := by rw [hW3]; exact al_below _ _
    have B3 : Hid (Below w.heap.size w W3) := b2.trans (b3.mono b2.size)
    have G3 : Hid (W3.heap[w2.heap.size]? = some (.cells (u8c SS) 48 (0, 0))) := by unfold Hid; rw [hW3]; exact heap_alloc_new _ _
    clear e3 hW3 b3 b2
    go_wp2_with (refine wpList_store_row rfl 48 _ _ rfl w2.heap.size (u8c SS) rfl rfl 48 hzc (new_h w2) (infoH _ HSL.out) (by rw [hzc_size, u8c_size, HSL.out]) (u8c_ones _) (Hid.out ?_))
    unfold Hid
    rw [HE3.out]
    go_wp2_with fail
    go_loopw [10] (fun q wr => ∃ j : Nat, j ≤ n ∧ q = .int .i64 j ∧ Hid (j ≤ f) ∧ Below W3.heap.size W3 wr) (fun q _ => n - (intOf q).toNat)
    case atStart => exact ⟨0, by omega, rfl, Nat.zero_le _, Below.refl _ _⟩
    case round =>
      obtain ⟨j, hj, rfl, hf, bel⟩ := hrel
      have HB : Hid (Below w.heap.size w wr) := B3.out.trans (bel.mono B3.out.size)
      by_cases hlt : j < n
      · have lt2 : (j : Int) < (n : Int) := by omega
        have lt3 : (0 : Int) ≤ (j : Int) := by omega
        obtain ⟨b', off, rfl, r1⟩ := (H1.out.kept HB.out).at j (by rw [← HN.out]; exact hlt)
        have hx := Sg.at l K1.out j
        have HH := HHIT.out j hlt hf.out
        have HMM := HMISS.out j hlt hf.out
        generalize atI l j = x at *
        have FK : Hid (∀ W, From wr W → W.cell? ⟨b', off + j * 33, none⟩ = some (.int .u32 x.k)) := fun W h => range_head (range_kept r1 h)
        have FX : Hid (∀ W, From wr W → W.rangeAt b' (off + j * 33 + 1) (x.s.map (Value.int .u8))) := fun W h => range_kept (range_sum r1) h
        have FS : Hid (∀ W, From wr W → W.rangeAt w2.heap.size 0 (SS.map (Value.int .u8))) := fun W h i v hv => by
          have g := (Below.block h _ (Nat.lt_of_lt_of_le (Array.getElem?_eq_some_iff.1 G3.out).1 bel.size)).trans ((bel.block _ (Array.getElem?_eq_some_iff.1 G3.out).1).trans G3.out)
          rw [Nat.zero_add, cell_of_row _ _ _ _ _ _ g]
          simpa [u8c] using hv
        have FB : Hid (∀ W, From wr W → Below W3.heap.size W3 W) := fun W h => bel.trans (Below.mono h bel.size)
        have ZX : Hid ((Tryd.prog.info? 48).map (·.size) = some (x.s.map (Value.int .u8)).length) := infoHl _ hx.1
        have ZS : Hid ((Tryd.prog.info? 48).map (·.size) = some (SS.map (Value.int .u8)).length) := infoHl _ HSL.out
        have E1 : Hid (∀ W, (binOp .eql 48 (.agg (x.s.map (Value.int .u8)).toArray) (.agg (SS.map (Value.int .u8)).toArray)).run Tryd.prog W = .ok (.bool (decide (x.s = SS))) W) := fun W => eqH x.s SS hx.1 HSL.out W
        clear bel r1 hx
        by_cases hk : x.k = kk
        · have hk2 : (x.k == kk) = true := by simpa using hk
          by_cases hs : x.s = SS
          · have hfj : Hid (f = j) := HH hk hs
            rw [decide_eq_true hs] at E1
            clear HH HMM hk hs
            generalize x.k = xk at *
            generalize x.s.map (Value.int .u8) = cs at *
            go_wp2_with fail
            refine wp_region_held_drew (S := From wr) (by kernel_rfl) ((Below.refl _ _).drew) (fun _ => ?_)
            refine wpAnyH_on ((Below.refl _ _).drew) (fun u0 hu0 bu0 => ?_)
            replace FK := on FK bu0
            replace FX := on FX bu0
            replace FS := on FS bu0
            replace FB := on FB bu0
            refine wpAnyH_take (i := 0) (oi := { dst := some 25, op := Op.move (Operand.tmp 1), type := 27, pos := "ref.go:104", after := #[], guard := none }) (v := ?vr1) rfl (by kernel_rfl) (by kernel_rfl) (by kernel_rfl) (fun _ _ _ h => h) (Or.inl ⟨by rfl, ?yr1⟩) (Below.refl _ _) ?rr1
            case yr1 => (intro w hSw; go_simp; try with_reducible rfl)
            try simp only [Act.put, List.setIfInBounds_toArray, List.set_cons_zero, List.set_cons_succ]
            refine wpAnyH_take (i := 1) (oi := { dst := some 26, op := Op.move (Operand.tmp 10), type := 3, pos := "ref.go:104", after := #[], guard := none }) (v := ?vr2) rfl (by kernel_rfl) (by kernel_rfl) (by kernel_rfl) (fun _ _ _ h => h) (Or.inl ⟨by rfl, ?yr2⟩) (Below.refl _ _) ?rr2
            case yr2 => (intro w hSw; go_simp; try with_reducible rfl)
            try simp only [Act.put, List.setIfInBounds_toArray, List.set_cons_zero, List.set_cons_succ]
            refine wpAnyH_take (i := 2) (oi := { dst := some 27, op := Op.indexAddr 27 (Operand.tmp 25) (Operand.tmp 26), type := 0, pos := "ref.go:104", after := #[{ on := 0, ground := Ground.data }, { on := 1, ground := Ground.data }], guard := none }) (v := ?vr3) rfl (by kernel_rfl) (by kernel_rfl) (by kernel_rfl) (fun _ _ _ h => h) (Or.inl ⟨by rfl, ?yr3⟩) (Below.refl _ _) ?rr3
            case yr3 => (intro w hSw; go_simp; try with_reducible rfl)
            try simp only [Act.put, List.setIfInBounds_toArray, List.set_cons_zero, List.set_cons_succ]
            refine wpAnyH_take (i := 3) (oi := { dst := some 28, op := Op.fieldAddr 57 (Operand.tmp 27) 0, type := 0, pos := "ref.go:104", after := #[{ on := 2, ground := Ground.data }], guard := none }) (v := ?vr4) rfl (by kernel_rfl) (by kernel_rfl) (by kernel_rfl) (fun _ _ _ h => h) (Or.inl ⟨by rfl, ?yr4⟩) (Below.refl _ _) ?rr4
            case yr4 => (intro w hSw; go_simp; try with_reducible rfl)
            try simp only [Act.put, List.setIfInBounds_toArray, List.set_cons_zero, List.set_cons_succ]
            refine wpAnyH_take (i := 4) (oi := { dst := some 29, op := Op.load 53 (Operand.tmp 28), type := 53, pos := "ref.go:104", after := #[{ on := 3, ground := Ground.data }], guard := none }) (v := ?vr5) rfl (by kernel_rfl) (by kernel_rfl) (by kernel_rfl) (fun _ _ _ h => h) (Or.inl ⟨by rfl, ?yr5⟩) (Below.refl _ _) ?rr5
            case yr5 => (intro w hSw; have t0 := FK.out w hSw; go_simp; try with_reducible rfl)
            try simp only [Act.put, List.setIfInBounds_toArray, List.set_cons_zero, List.set_cons_succ]
            refine wpAnyH_take (i := 5) (oi := { dst := some 30, op := Op.move (Operand.tmp 8), type := 53, pos := "ref.go:104", after := #[], guard := none }) (v := ?vr6) rfl (by kernel_rfl) (by kernel_rfl) (by kernel_rfl) (fun _ _ _ h => h) (Or.inl ⟨by rfl, ?yr6⟩) (Below.refl _ _) ?rr6
            case yr6 => (intro w hSw; go_simp; try with_reducible rfl)
            try simp only [Act.put, List.setIfInBounds_toArray, List.set_cons_zero, List.set_cons_succ]
            refine wpAnyH_take (i := 6) (oi := { dst := some 31, op := Op.binOp BinOp.eql 53 (Operand.tmp 29) (Operand.tmp 30) 53, type := 4, pos := "ref.go:104", after := #[{ on := 4, ground := Ground.data }, { on := 5, ground := Ground.data }], guard := none }) (v := ?vr7) rfl (by kernel_rfl) (by kernel_rfl) (by kernel_rfl) (fun _ _ _ h => h) (Or.inl ⟨by rfl, ?yr7⟩) (Below.refl _ _) ?rr7
            case yr7 => (intro w hSw; go_simp; try with_reducible rfl)
            try simp only [Act.put, List.setIfInBounds_toArray, List.set_cons_zero, List.set_cons_succ]
            refine wpAnyH_take (i := 7) (oi := { dst := some 32, op := Op.move (Operand.tmp 31), type := 4, pos := "ref.go:104", after := #[{ on := 6, ground := Ground.data }], guard := none }) (v := ?vr8) rfl (by kernel_rfl) (by kernel_rfl) (by kernel_rfl) (fun _ _ _ h => h) (Or.inl ⟨by rfl, ?yr8⟩) (Below.refl _ _) ?rr8
            case yr8 => (intro w hSw; go_simp; try with_reducible rfl)
            try simp only [Act.put, List.setIfInBounds_toArray, List.set_cons_zero, List.set_cons_succ]
            refine wpAnyH_take (i := 8) (oi := { dst := some 33, op := Op.move (Operand.tmp 1), type := 27, pos := "ref.go:104", after := #[{ on := 7, ground := Ground.guard }], guard := some (7, true) }) (v := ?vr9) rfl (by kernel_rfl) (by kernel_rfl) (by kernel_rfl) (fun _ _ _ h => h) (Or.inl ⟨by rfl, ?yr9⟩) (Below.refl _ _) ?rr9
            case yr9 => (intro w hSw; go_simp; try with_reducible rfl)
            try simp only [Act.put, List.setIfInBounds_toArray, List.set_cons_zero, List.set_cons_succ]
            refine wpAnyH_take (i := 9) (oi := { dst := some 34, op := Op.move (Operand.tmp 10), type := 3, pos := "ref.go:104", after := #[{ on := 7, ground := Ground.guard }], guard := some (7, true) }) (v := ?vr10) rfl (by kernel_rfl) (by kernel_rfl) (by kernel_rfl) (fun _ _ _ h => h) (Or.inl ⟨by rfl, ?yr10⟩) (Below.refl _ _) ?rr10
            case yr10 => (intro w hSw; go_simp; try with_reducible rfl)
            try simp only [Act.put, List.setIfInBounds_toArray, List.set_cons_zero, List.set_cons_succ]
            refine wpAnyH_take (i := 10) (oi := { dst := some 35, op := Op.indexAddr 27 (Operand.tmp 33) (Operand.tmp 34), type := 0, pos := "ref.go:104", after := #[{ on := 8, ground := Ground.data }, { on := 9, ground := Ground.data }, { on := 7, ground := Ground.guard }], guard := some (7, true) }) (v := ?vr11) rfl (by kernel_rfl) (by kernel_rfl) (by kernel_rfl) (fun _ _ _ h => h) (Or.inl ⟨by rfl, ?yr11⟩) (Below.refl _ _) ?rr11
            case yr11 => (intro w hSw; go_simp; try with_reducible rfl)
            try simp only [Act.put, List.setIfInBounds_toArray, List.set_cons_zero, List.set_cons_succ]
            refine wpAnyH_take (i := 11) (oi := { dst := some 36, op := Op.fieldAddr 57 (Operand.tmp 35) 1, type := 0, pos := "ref.go:104", after := #[{ on := 10, ground := Ground.data }, { on := 7, ground := Ground.guard }], guard := some (7, true) }) (v := ?vr12) rfl (by kernel_rfl) (by kernel_rfl) (by kernel_rfl) (fun _ _ _ h => h) (Or.inl ⟨by rfl, ?yr12⟩) (Below.refl _ _) ?rr12
            case yr12 => (intro w hSw; go_simp; try with_reducible rfl)
            try simp only [Act.put, List.setIfInBounds_toArray, List.set_cons_zero, List.set_cons_succ]
            refine wpAnyH_take (i := 12) (oi := { dst := some 37, op := Op.load 48 (Operand.tmp 36), type := 48, pos := "ref.go:104", after := #[{ on := 11, ground := Ground.data }, { on := 7, ground := Ground.guard }], guard := some (7, true) }) (v := .agg cs.toArray) rfl (by kernel_rfl) (by kernel_rfl) (by kernel_rfl) (fun _ _ _ h => h) (yieldsIf_load_mid (by rfl) 48 _ rfl b' (off + j * 33 + 1) rfl cs _ (fun w hw => FX.out w hw) Tryd.underlying48 rfl ZX.out) (Below.refl _ _) ?_
            try simp only [Act.put, List.setIfInBounds_toArray, List.set_cons_zero, List.set_cons_succ]
            refine wpAnyH_take (i := 13) (oi := { dst := some 38, op := Op.load 48 (Operand.tmp 9), type := 48, pos := "ref.go:104", after := #[{ on := 7, ground := Ground.guard }], guard := some (7, true) }) (v := .agg (SS.map (Value.int .u8)).toArray) rfl (by kernel_rfl) (by kernel_rfl) (by kernel_rfl) (fun _ _ _ h => h) (yieldsIf_load_mid (by rfl) 48 _ rfl w2.heap.size 0 rfl (SS.map (Value.int .u8)) _ (fun w hw => FS.out w hw) Tryd.underlying48 rfl ZS.out) (Below.refl _ _) ?_
            try simp only [Act.put, List.setIfInBounds_toArray, List.set_cons_zero, List.set_cons_succ]
            refine wpAnyH_take (i := 14) (oi := { dst := some 39, op := Op.binOp BinOp.eql 48 (Operand.tmp 37) (Operand.tmp 38) 48, type := 4, pos := "ref.go:104", after := #[{ on := 12, ground := Ground.data }, { on := 13, ground := Ground.data }, { on := 7, ground := Ground.guard }], guard := some (7, true) }) (v := .bool true) rfl (by kernel_rfl) (by kernel_rfl) (by kernel_rfl) (fun _ _ _ h => h) (yields_eql (by rfl) _ _ _ rfl cs.toArray (SS.map (Value.int .u8)).toArray true rfl rfl (fun w => E1.out w)) (Below.refl _ _) ?_
            try simp only [Act.put, List.setIfInBounds_toArray, List.set_cons_zero, List.set_cons_succ]
            refine wpAnyH_take (i := 15) (oi := { dst := some 40, op := Op.pick (Operand.tmp 32) (Operand.tmp 39) (Operand.const (Value.bool false)), type := 4, pos := "ref.go:104", after := #[{ on := 7, ground := Ground.data }, { on := 14, ground := Ground.data }], guard := none }) (v := ?vr16) rfl (by kernel_rfl) (by kernel_rfl) (by kernel_rfl) (fun _ _ _ h => h) (Or.inl ⟨by rfl, ?yr16⟩) (Below.refl _ _) ?rr16
            case yr16 => (intro w hSw; go_simp; try with_reducible rfl)
            try simp only [Act.put, List.setIfInBounds_toArray, List.set_cons_zero, List.set_cons_succ]
            refine wpAnyH_done (by kernel_rfl) ?_ _
            have BZ : Hid (Below w.heap.size w u0) := B3.out.trans (Below.mono (FB.out _ (Below.refl _ _)) B3.out.size)
            clear FK FX FS FB E1 ZX ZS
            have HRE : Hid (R = ((L : Int) * (j : Int), true)) := by
              unfold Hid
              have := HR2.out
              rw [hfj.out, if_pos hlt] at this
              rw [this, Int.mul_comm]
            have m0 : (L : Int) * (j : Int) ≤ 100000 * 100000 := Int.mul_le_mul (by omega) (by omega) (by omega) (by omega)
            have m1 : 0 ≤ (L : Int) * (j : Int) := Int.mul_nonneg (by omega) (by omega)
            clear HR2 hfj
            obtain ⟨mm, hmm⟩ : ∃ mm, (L : Int) * (j : Int) = mm := ⟨_, rfl⟩
            rw [hmm] at m0 m1 HRE
            go_wp2
            go_ret2
            exact ⟨by rw [HRE.out]; rfl, BZ.out⟩
          · have hfj : Hid (j + 1 ≤ f) := HMM (fun q => hs q.2)
            rw [decide_eq_false hs] at E1
            clear HH HMM hk hs
            generalize x.k = xk at *
            generalize x.s.map (Value.int .u8) = cs at *
            go_wp2_with fail
            refine wp_region_held_drew (S := From wr) (by kernel_rfl) ((Below.refl _ _).drew) (fun _ => ?_)
            refine wpAnyH_on ((Below.refl _ _).drew) (fun u0 hu0 bu0 => ?_)
            replace FK := on FK bu0
            replace FX := on FX bu0
            replace FS := on FS bu0
            replace FB := on FB bu0
            refine wpAnyH_take (i := 0) (oi := { dst := some 25, op := Op.move (Operand.tmp 1), type := 27, pos := "ref.go:104", after := #[], guard := none }) (v := ?vs1) rfl (by kernel_rfl) (by kernel_rfl) (by kernel_rfl) (fun _ _ _ h => h) (Or.inl ⟨by rfl, ?ys1⟩) (Below.refl _ _) ?rs1
            case ys1 => (intro w hSw; go_simp; try with_reducible rfl)
            try simp only [Act.put, List.setIfInBounds_toArray, List.set_cons_zero, List.set_cons_succ]
            refine wpAnyH_take (i := 1) (oi := { dst := some 26, op := Op.move (Operand.tmp 10), type := 3, pos := "ref.go:104", after := #[], guard := none }) (v := ?vs2) rfl (by kernel_rfl) (by kernel_rfl) (by kernel_rfl) (fun _ _ _ h => h) (Or.inl ⟨by rfl, ?ys2⟩) (Below.refl _ _) ?rs2
            case ys2 => (intro w hSw; go_simp; try with_reducible rfl)
            try simp only [Act.put, List.setIfInBounds_toArray, List.set_cons_zero, List.set_cons_succ]
            refine wpAnyH_take (i := 2) (oi := { dst := some 27, op := Op.indexAddr 27 (Operand.tmp 25) (Operand.tmp 26), type := 0, pos := "ref.go:104", after := #[{ on := 0, ground := Ground.data }, { on := 1, ground := Ground.data }], guard := none }) (v := ?vs3) rfl (by kernel_rfl) (by kernel_rfl) (by kernel_rfl) (fun _ _ _ h => h) (Or.inl ⟨by rfl, ?ys3⟩) (Below.refl _ _) ?rs3
            case ys3 => (intro w hSw; go_simp; try with_reducible rfl)
            try simp only [Act.put, List.setIfInBounds_toArray, List.set_cons_zero, List.set_cons_succ]
            refine wpAnyH_take (i := 3) (oi := { dst := some 28, op := Op.fieldAddr 57 (Operand.tmp 27) 0, type := 0, pos := "ref.go:104", after := #[{ on := 2, ground := Ground.data }], guard := none }) (v := ?vs4) rfl (by kernel_rfl) (by kernel_rfl) (by kernel_rfl) (fun _ _ _ h => h) (Or.inl ⟨by rfl, ?ys4⟩) (Below.refl _ _) ?rs4
            case ys4 => (intro w hSw; go_simp; try with_reducible rfl)
            try simp only [Act.put, List.setIfInBounds_toArray, List.set_cons_zero, List.set_cons_succ]
            refine wpAnyH_take (i := 4) (oi := { dst := some 29, op := Op.load 53 (Operand.tmp 28), type := 53, pos := "ref.go:104", after := #[{ on := 3, ground := Ground.data }], guard := none }) (v := ?vs5) rfl (by kernel_rfl) (by kernel_rfl) (by kernel_rfl) (fun _ _ _ h => h) (Or.inl ⟨by rfl, ?ys5⟩) (Below.refl _ _) ?rs5
            case ys5 => (intro w hSw; have t0 := FK.out w hSw; go_simp; try with_reducible rfl)
            try simp only [Act.put, List.setIfInBounds_toArray, List.set_cons_zero, List.set_cons_succ]
            refine wpAnyH_take (i := 5) (oi := { dst := some 30, op := Op.move (Operand.tmp 8), type := 53, pos := "ref.go:104", after := #[], guard := none }) (v := ?vs6) rfl (by kernel_rfl) (by kernel_rfl) (by kernel_rfl) (fun _ _ _ h => h) (Or.inl ⟨by rfl, ?ys6⟩) (Below.refl _ _) ?rs6
            case ys6 => (intro w hSw; go_simp; try with_reducible rfl)
            try simp only [Act.put, List.setIfInBounds_toArray, List.set_cons_zero, List.set_cons_succ]
            refine wpAnyH_take (i := 6) (oi := { dst := some 31, op := Op.binOp BinOp.eql 53 (Operand.tmp 29) (Operand.tmp 30) 53, type := 4, pos := "ref.go:104", after := #[{ on := 4, ground := Ground.data }, { on := 5, ground := Ground.data }], guard := none }) (v := ?vs7) rfl (by kernel_rfl) (by kernel_rfl) (by kernel_rfl) (fun _ _ _ h => h) (Or.inl ⟨by rfl, ?ys7⟩) (Below.refl _ _) ?rs7
            case ys7 => (intro w hSw; go_simp; try with_reducible rfl)
            try simp only [Act.put, List.setIfInBounds_toArray, List.set_cons_zero, List.set_cons_succ]
            refine wpAnyH_take (i := 7) (oi := { dst := some 32, op := Op.move (Operand.tmp 31), type := 4, pos := "ref.go:104", after := #[{ on := 6, ground := Ground.data }], guard := none }) (v := ?vs8) rfl (by kernel_rfl) (by kernel_rfl) (by kernel_rfl) (fun _ _ _ h => h) (Or.inl ⟨by rfl, ?ys8⟩) (Below.refl _ _) ?rs8
            case ys8 => (intro w hSw; go_simp; try with_reducible rfl)
            try simp only [Act.put, List.setIfInBounds_toArray, List.set_cons_zero, List.set_cons_succ]
            refine wpAnyH_take (i := 8) (oi := { dst := some 33, op := Op.move (Operand.tmp 1), type := 27, pos := "ref.go:104", after := #[{ on := 7, ground := Ground.guard }], guard := some (7, true) }) (v := ?vs9) rfl (by kernel_rfl) (by kernel_rfl) (by kernel_rfl) (fun _ _ _ h => h) (Or.inl ⟨by rfl, ?ys9⟩) (Below.refl _ _) ?rs9
            case ys9 => (intro w hSw; go_simp; try with_reducible rfl)
            try simp only [Act.put, List.setIfInBounds_toArray, List.set_cons_zero, List.set_cons_succ]
            refine wpAnyH_take (i := 9) (oi := { dst := some 34, op := Op.move (Operand.tmp 10), type := 3, pos := "ref.go:104", after := #[{ on := 7, ground := Ground.guard }], guard := some (7, true) }) (v := ?vs10) rfl (by kernel_rfl) (by kernel_rfl) (by kernel_rfl) (fun _ _ _ h => h) (Or.inl ⟨by rfl, ?ys10⟩) (Below.refl _ _) ?rs10
            case ys10 => (intro w hSw; go_simp; try with_reducible rfl)
            try simp only [Act.put, List.setIfInBounds_toArray, List.set_cons_zero, List.set_cons_succ]
            refine wpAnyH_take (i := 10) (oi := { dst := some 35, op := Op.indexAddr 27 (Operand.tmp 33) (Operand.tmp 34), type := 0, pos := "ref.go:104", after := #[{ on := 8, ground := Ground.data }, { on := 9, ground := Ground.data }, { on := 7, ground := Ground.guard }], guard := some (7, true) }) (v := ?vs11) rfl (by kernel_rfl) (by kernel_rfl) (by kernel_rfl) (fun _ _ _ h => h) (Or.inl ⟨by rfl, ?ys11⟩) (Below.refl _ _) ?rs11
            case ys11 => (intro w hSw; go_simp; try with_reducible rfl)
            try simp only [Act.put, List.setIfInBounds_toArray, List.set_cons_zero, List.set_cons_succ]
            refine wpAnyH_take (i := 11) (oi := { dst := some 36, op := Op.fieldAddr 57 (Operand.tmp 35) 1, type := 0, pos := "ref.go:104", after := #[{ on := 10, ground := Ground.data }, { on := 7, ground := Ground.guard }], guard := some (7, true) }) (v := ?vs12) rfl (by kernel_rfl) (by kernel_rfl) (by kernel_rfl) (fun _ _ _ h => h) (Or.inl ⟨by rfl, ?ys12⟩) (Below.refl _ _) ?rs12
            case ys12 => (intro w hSw; go_simp; try with_reducible rfl)
            try simp only [Act.put, List.setIfInBounds_toArray, List.set_cons_zero, List.set_cons_succ]
            refine wpAnyH_take (i := 12) (oi := { dst := some 37, op := Op.load 48 (Operand.tmp 36), type := 48, pos := "ref.go:104", after := #[{ on := 11, ground := Ground.data }, { on := 7, ground := Ground.guard }], guard := some (7, true) }) (v := .agg cs.toArray) rfl (by kernel_rfl) (by kernel_rfl) (by kernel_rfl) (fun _ _ _ h => h) (yieldsIf_load_mid (by rfl) 48 _ rfl b' (off + j * 33 + 1) rfl cs _ (fun w hw => FX.out w hw) Tryd.underlying48 rfl ZX.out) (Below.refl _ _) ?_
            try simp only [Act.put, List.setIfInBounds_toArray, List.set_cons_zero, List.set_cons_succ]
            refine wpAnyH_take (i := 13) (oi := { dst := some 38, op := Op.load 48 (Operand.tmp 9), type := 48, pos := "ref.go:104", after := #[{ on := 7, ground := Ground.guard }], guard := some (7, true) }) (v := .agg (SS.map (Value.int .u8)).toArray) rfl (by kernel_rfl) (by kernel_rfl) (by kernel_rfl) (fun _ _ _ h => h) (yieldsIf_load_mid (by rfl) 48 _ rfl w2.heap.size 0 rfl (SS.map (Value.int .u8)) _ (fun w hw => FS.out w hw) Tryd.underlying48 rfl ZS.out) (Below.refl _ _) ?_
            try simp only [Act.put, List.setIfInBounds_toArray, List.set_cons_zero, List.set_cons_succ]
            refine wpAnyH_take (i := 14) (oi := { dst := some 39, op := Op.binOp BinOp.eql 48 (Operand.tmp 37) (Operand.tmp 38) 48, type := 4, pos := "ref.go:104", after := #[{ on := 12, ground := Ground.data }, { on := 13, ground := Ground.data }, { on := 7, ground := Ground.guard }], guard := some (7, true) }) (v := .bool false) rfl (by kernel_rfl) (by kernel_rfl) (by kernel_rfl) (fun _ _ _ h => h) (yields_eql (by rfl) _ _ _ rfl cs.toArray (SS.map (Value.int .u8)).toArray false rfl rfl (fun w => E1.out w)) (Below.refl _ _) ?_
            try simp only [Act.put, List.setIfInBounds_toArray, List.set_cons_zero, List.set_cons_succ]
            refine wpAnyH_take (i := 15) (oi := { dst := some 40, op := Op.pick (Operand.tmp 32) (Operand.tmp 39) (Operand.const (Value.bool false)), type := 4, pos := "ref.go:104", after := #[{ on := 7, ground := Ground.data }, { on := 14, ground := Ground.data }], guard := none }) (v := ?vs16) rfl (by kernel_rfl) (by kernel_rfl) (by kernel_rfl) (fun _ _ _ h => h) (Or.inl ⟨by rfl, ?ys16⟩) (Below.refl _ _) ?rs16
            case ys16 => (intro w hSw; go_simp; try with_reducible rfl)
            try simp only [Act.put, List.setIfInBounds_toArray, List.set_cons_zero, List.set_cons_succ]
            refine wpAnyH_done (by kernel_rfl) ?_ _
            have BZ : Hid (Below W3.heap.size W3 u0) := FB.out _ (Below.refl _ _)
            clear FK FX FS FB E1 ZX ZS
            go_wp2
            go_roundw
            case rel => exact ⟨j + 1, by omega, by go_num, hfj.out, BZ.out⟩
            case measure => simp [intOf]; omega
        · have hk2 : (x.k == kk) = false := by simpa using hk
          have hfj : Hid (j + 1 ≤ f) := HMM (fun q => hk q.1)
          clear HH HMM hk
          generalize x.k = xk at *
          generalize x.s.map (Value.int .u8) = cs at *
          go_wp2_with fail
          refine wp_region_held_drew (S := From wr) (by kernel_rfl) ((Below.refl _ _).drew) (fun _ => ?_)
          refine wpAnyH_on ((Below.refl _ _).drew) (fun u0 hu0 bu0 => ?_)
          replace FK := on FK bu0
          replace FX := on FX bu0
          replace FS := on FS bu0
          replace FB := on FB bu0
          refine wpAnyH_take (i := 0) (oi := { dst := some 25, op := Op.move (Operand.tmp 1), type := 27, pos := "ref.go:104", after := #[], guard := none }) (v := ?vt1) rfl (by kernel_rfl) (by kernel_rfl) (by kernel_rfl) (fun _ _ _ h => h) (Or.inl ⟨by rfl, ?yt1⟩) (Below.refl _ _) ?rt1
          case yt1 => (intro w hSw; go_simp; try with_reducible rfl)
          try simp only [Act.put, List.setIfInBounds_toArray, List.set_cons_zero, List.set_cons_succ]
          refine wpAnyH_take (i := 1) (oi := { dst := some 26, op := Op.move (Operand.tmp 10), type := 3, pos := "ref.go:104", after := #[], guard := none }) (v := ?vt2) rfl (by kernel_rfl) (by kernel_rfl) (by kernel_rfl) (fun _ _ _ h => h) (Or.inl ⟨by rfl, ?yt2⟩) (Below.refl _ _) ?rt2
          case yt2 => (intro w hSw; go_simp; try with_reducible rfl)
          try simp only [Act.put, List.setIfInBounds_toArray, List.set_cons_zero, List.set_cons_succ]
          refine wpAnyH_take (i := 2) (oi := { dst := some 27, op := Op.indexAddr 27 (Operand.tmp 25) (Operand.tmp 26), type := 0, pos := "ref.go:104", after := #[{ on := 0, ground := Ground.data }, { on := 1, ground := Ground.data }], guard := none }) (v := ?vt3) rfl (by kernel_rfl) (by kernel_rfl) (by kernel_rfl) (fun _ _ _ h => h) (Or.inl ⟨by rfl, ?yt3⟩) (Below.refl _ _) ?rt3
          case yt3 => (intro w hSw; go_simp; try with_reducible rfl)
          try simp only [Act.put, List.setIfInBounds_toArray, List.set_cons_zero, List.set_cons_succ]
          refine wpAnyH_take (i := 3) (oi := { dst := some 28, op := Op.fieldAddr 57 (Operand.tmp 27) 0, type := 0, pos := "ref.go:104", after := #[{ on := 2, ground := Ground.data }], guard := none }) (v := ?vt4) rfl (by kernel_rfl) (by kernel_rfl) (by kernel_rfl) (fun _ _ _ h => h) (Or.inl ⟨by rfl, ?yt4⟩) (Below.refl _ _) ?rt4
          case yt4 => (intro w hSw; go_simp; try with_reducible rfl)
          try simp only [Act.put, List.setIfInBounds_toArray, List.set_cons_zero, List.set_cons_succ]
          refine wpAnyH_take (i := 4) (oi := { dst := some 29, op := Op.load 53 (Operand.tmp 28), type := 53, pos := "ref.go:104", after := #[{ on := 3, ground := Ground.data }], guard := none }) (v := ?vt5) rfl (by kernel_rfl) (by kernel_rfl) (by kernel_rfl) (fun _ _ _ h => h) (Or.inl ⟨by rfl, ?yt5⟩) (Below.refl _ _) ?rt5
          case yt5 => (intro w hSw; have t0 := FK.out w hSw; go_simp; try with_reducible rfl)
          try simp only [Act.put, List.setIfInBounds_toArray, List.set_cons_zero, List.set_cons_succ]
          refine wpAnyH_take (i := 5) (oi := { dst := some 30, op := Op.move (Operand.tmp 8), type := 53, pos := "ref.go:104", after := #[], guard := none }) (v := ?vt6) rfl (by kernel_rfl) (by kernel_rfl) (by kernel_rfl) (fun _ _ _ h => h) (Or.inl ⟨by rfl, ?yt6⟩) (Below.refl _ _) ?rt6
          case yt6 => (intro w hSw; go_simp; try with_reducible rfl)
          try simp only [Act.put, List.setIfInBounds_toArray, List.set_cons_zero, List.set_cons_succ]
          refine wpAnyH_take (i := 6) (oi := { dst := some 31, op := Op.binOp BinOp.eql 53 (Operand.tmp 29) (Operand.tmp 30) 53, type := 4, pos := "ref.go:104", after := #[{ on := 4, ground := Ground.data }, { on := 5, ground := Ground.data }], guard := none }) (v := ?vt7) rfl (by kernel_rfl) (by kernel_rfl) (by kernel_rfl) (fun _ _ _ h => h) (Or.inl ⟨by rfl, ?yt7⟩) (Below.refl _ _) ?rt7
          case yt7 => (intro w hSw; go_simp; try with_reducible rfl)
          try simp only [Act.put, List.setIfInBounds_toArray, List.set_cons_zero, List.set_cons_succ]
          refine wpAnyH_take (i := 7) (oi := { dst := some 32, op := Op.move (Operand.tmp 31), type := 4, pos := "ref.go:104", after := #[{ on := 6, ground := Ground.data }], guard := none }) (v := ?vt8) rfl (by kernel_rfl) (by kernel_rfl) (by kernel_rfl) (fun _ _ _ h => h) (Or.inl ⟨by rfl, ?yt8⟩) (Below.refl _ _) ?rt8
          case yt8 => (intro w hSw; go_simp; try with_reducible rfl)
          try simp only [Act.put, List.setIfInBounds_toArray, List.set_cons_zero, List.set_cons_succ]
          refine wpAnyH_take (i := 8) (oi := { dst := some 33, op := Op.move (Operand.tmp 1), type := 27, pos := "ref.go:104", after := #[{ on := 7, ground := Ground.guard }], guard := some (7, true) }) (v := undef) rfl (by kernel_rfl) (by kernel_rfl) (by kernel_rfl) (fun _ _ _ h => h) (Or.inr ⟨by rfl, rfl⟩) (Below.refl _ _) ?_
          try simp only [Act.put, List.setIfInBounds_toArray, List.set_cons_zero, List.set_cons_succ]
          refine wpAnyH_take (i := 9) (oi := { dst := some 34, op := Op.move (Operand.tmp 10), type := 3, pos := "ref.go:104", after := #[{ on := 7, ground := Ground.guard }], guard := some (7, true) }) (v := undef) rfl (by kernel_rfl) (by kernel_rfl) (by kernel_rfl) (fun _ _ _ h => h) (Or.inr ⟨by rfl, rfl⟩) (Below.refl _ _) ?_
          try simp only [Act.put, List.setIfInBounds_toArray, List.set_cons_zero, List.set_cons_succ]
          refine wpAnyH_take (i := 10) (oi := { dst := some 35, op := Op.indexAddr 27 (Operand.tmp 33) (Operand.tmp 34), type := 0, pos := "ref.go:104", after := #[{ on := 8, ground := Ground.data }, { on := 9, ground := Ground.data }, { on := 7, ground := Ground.guard }], guard := some (7, true) }) (v := undef) rfl (by kernel_rfl) (by kernel_rfl) (by kernel_rfl) (fun _ _ _ h => h) (Or.inr ⟨by rfl, rfl⟩) (Below.refl _ _) ?_
          try simp only [Act.put, List.setIfInBounds_toArray, List.set_cons_zero, List.set_cons_succ]
          refine wpAnyH_take (i := 11) (oi := { dst := some 36, op := Op.fieldAddr 57 (Operand.tmp 35) 1, type := 0, pos := "ref.go:104", after := #[{ on := 10, ground := Ground.data }, { on := 7, ground := Ground.guard }], guard := some (7, true) }) (v := undef) rfl (by kernel_rfl) (by kernel_rfl) (by kernel_rfl) (fun _ _ _ h => h) (Or.inr ⟨by rfl, rfl⟩) (Below.refl _ _) ?_
          try simp only [Act.put, List.setIfInBounds_toArray, List.set_cons_zero, List.set_cons_succ]
          refine wpAnyH_take (i := 12) (oi := { dst := some 37, op := Op.load 48 (Operand.tmp 36), type := 48, pos := "ref.go:104", after := #[{ on := 11, ground := Ground.data }, { on := 7, ground := Ground.guard }], guard := some (7, true) }) (v := undef) rfl (by kernel_rfl) (by kernel_rfl) (by kernel_rfl) (fun _ _ _ h => h) (Or.inr ⟨by rfl, rfl⟩) (Below.refl _ _) ?_
          try simp only [Act.put, List.setIfInBounds_toArray, List.set_cons_zero, List.set_cons_succ]
          refine wpAnyH_take (i := 13) (oi := { dst := some 38, op := Op.load 48 (Operand.tmp 9), type := 48, pos := "ref.go:104", after := #[{ on := 7, ground := Ground.guard }], guard := some (7, true) }) (v := undef) rfl (by kernel_rfl) (by kernel_rfl) (by kernel_rfl) (fun _ _ _ h => h) (Or.inr ⟨by rfl, rfl⟩) (Below.refl _ _) ?_
          try simp only [Act.put, List.setIfInBounds_toArray, List.set_cons_zero, List.set_cons_succ]
          refine wpAnyH_take (i := 14) (oi := { dst := some 39, op := Op.binOp BinOp.eql 48 (Operand.tmp 37) (Operand.tmp 38) 48, type := 4, pos := "ref.go:104", after := #[{ on := 12, ground := Ground.data }, { on := 13, ground := Ground.data }, { on := 7, ground := Ground.guard }], guard := some (7, true) }) (v := undef) rfl (by kernel_rfl) (by kernel_rfl) (by kernel_rfl) (fun _ _ _ h => h) (Or.inr ⟨by rfl, rfl⟩) (Below.refl _ _) ?_
          try simp only [Act.put, List.setIfInBounds_toArray, List.set_cons_zero, List.set_cons_succ]
          refine wpAnyH_take (i := 15) (oi := { dst := some 40, op := Op.pick (Operand.tmp 32) (Operand.tmp 39) (Operand.const (Value.bool false)), type := 4, pos := "ref.go:104", after := #[{ on := 7, ground := Ground.data }, { on := 14, ground := Ground.data }], guard := none }) (v := ?vt16) rfl (by kernel_rfl) (by kernel_rfl) (by kernel_rfl) (fun _ _ _ h => h) (Or.inl ⟨by rfl, ?yt16⟩) (Below.refl _ _) ?rt16
          case yt16 => (intro w hSw; go_simp; try with_reducible rfl)
          try simp only [Act.put, List.setIfInBounds_toArray, List.set_cons_zero, List.set_cons_succ]
          refine wpAnyH_done (by kernel_rfl) ?_ _
          have BZ : Hid (Below W3.heap.size W3 u0) := FB.out _ (Below.refl _ _)
          clear FK FX FS FB E1 ZX ZS
          go_wp2
          go_roundw
          case rel => exact ⟨j + 1, by omega, by go_num, hfj.out, BZ.out⟩
          case measure => simp [intOf]; omega
      · obtain rfl : j = n := by omega
        have hfn : ¬ f < j := by have := hf.out; omega
        have HRE : Hid (R = (0, false)) := by unfold Hid; have := HR2.out; rwa [if_neg hfn] at this
        clear HR2 hfn
        go_wp2
        go_ret2
        exact ⟨by rw [HRE.out]; rfl, HB.out⟩
  · obtain rfl : R = (0, false) := by have := HR.out; rwa [if_neg (fun hq => hz hq.1)] at this
    have hz2 : ((L : Int) != z) = true := by simpa using hz
    clear HR hz HHIT HMISS HFL
    go_enter Tryd.func33, Tryd.ntmps33
    go_wp2
    go_ret2
    exact ⟨rfl, Below.refl _ _⟩
end Go.Proofs.YtlhmpcmlpfffoaaDoor
namespace Go.Proofs.YtlhmpcmlpfffoaaDoor
open Go.RowKit Go.Maps
set_option maxRecDepth 100000

set_option maxHeartbeats 1000000 in
theorem rbytes_any (v : Value) (b : List Int) (w : World) (h : Sl w v b) (hb : b.length ≤ 100000) :
    Calls Tryd.prog 34 #[v] w fun e w' => ∃ v', e = .returned v' ∧ OX w' w.heap.size v' (whl b) ∧ Below w.heap.size w w' := by
  have HB : Hid (∀ i, 0 ≤ b.getD i 0 ∧ b.getD i 0 < 256) := h.bytes
  obtain ⟨a, c, rfl, -⟩ := id h
  by_cases h0 : b = []
  · subst h0
    rw [whl_nil]
    clear h hb HB
    go_enter Tryd.func34, Tryd.ntmps34
    go_wp2
    go_ret
    exact ⟨_, rfl, OX.nil _ _, Below.refl _ _⟩
  · have hp : 0 < b.length := List.length_pos_iff.2 h0
    rw [whl_some h0]
    obtain ⟨W0, hW0⟩ : ∃ W0, W0 = w.alloc (.cells #[] 5) := ⟨_, rfl⟩
    have b0 : Below w.heap.size w W0 := by rw [hW0]; exact al_below _ _
    have O0 : Hid (W0.ownsRow w.heap.size 5 1 (.slice (some ⟨w.heap.size, 0, none⟩) 0 0) 0 []) := by unfold Hid; rw [hW0]; exact Ro.own_empty w
    have S0 : Hid (Sl W0 (.slice a b.length c) b) := h.kept b0
    have B0 : Hid (Below w.heap.size w W0) := b0
    have HBG : Hid (b.length ≤ 100000) := hb
    obtain ⟨L, hL⟩ : ∃ L, L = b.length := ⟨_, rfl⟩
    have HL : Hid (L = b.length) := hL
    rw [← hL] at S0 hp ⊢
    have hl : ((L : Int) == 0) = false := by
      have : ¬ (L : Int) = 0 := by omega
      simpa using this
    have hw0 := hW0.symm
    clear h hb h0 hL hp b0 hW0
    go_enter Tryd.func34, Tryd.ntmps34
    go_wp2_with (at_builtin; refine wpList_append_sl rfl _ _ rfl w.heap.size _ 0 [] rfl O0.out _ b rfl S0.out (by have := HBG.out; omega) B0.out.size (Hid.out ?_))
    unfold Hid
    intro v1 w1 o1 g1
    have B1 : Hid (Below w.heap.size w w1) := B0.out.grown g1 B0.out.size (own_base O0.out)
    have O1 : Hid (w1.ownsRow w.heap.size 5 1 v1 b.length (b.map (Value.int .u8))) := by unfold Hid; simpa using o1
    obtain ⟨a1, c1, rfl⟩ := own_shape O1.out
    clear o1 g1 O0 S0 hw0
    go_wp2
    go_ret
    exact ⟨_, rfl, OX.one w1 w.heap.size B1.out.size ⟨false, 0, 0, b⟩ _ O1.out HB.out, B1.out.trans ((al_below _ _).mono B1.out.size)⟩
set_option maxHeartbeats 1000000 in
theorem rwhole_any (v : Value) (b : List Int) (w : World) (h : Sl w v b) (hb : b.length ≤ 100000) :
    Calls Tryd.prog 22 #[v] w fun e w' => ∃ v', e = .returned v' ∧ OX w' w.heap.size v' (whl b) ∧ Below w.heap.size w w' := by
  have CC := rbytes_any v b w h hb
  obtain ⟨a, c, rfl, -⟩ := id h
  clear h hb
  generalize b.length = L at *
  generalize whl b = R at *
  go_enter Tryd.func22, Tryd.ntmps22
  go_wp2_with fail
  refine CC.mono ?_
  rintro e w1 ⟨v1, rfl, o1, b1⟩
  clear CC
  have O1 : Hid (OX w1 w.heap.size v1 R) := o1
  have B1 : Hid (Below w.heap.size w w1) := b1
  obtain ⟨a1, c1, rfl, -⟩ := o1.shape
  clear o1 b1
  generalize R.length = rn at *
  go_wp2
  go_ret
  exact ⟨_, rfl, O1.out, B1.out⟩
theorem ends_data (O : List Xp) (X : List Int) (a : Int) (h : X ≠ []) : ¬ ends (O ++ whl X) a := by
  rw [whl_some h]
  intro q
  have := q.2.1
  rw [last_snoc] at this
  cases this
set_option maxHeartbeats 8000000 in
theorem rsearch_any (w : World) (z : Nat) (vl : Value) (l : List Sg) (hg : GS w vl l) (v : Value) (b : List Int) (s : SlX w v b) (hz0 : 0 < z) (hz : z ≤ 4096) (hl : l.length ≤ 4096) (hb : b.length ≤ 4096) :
    Calls Tryd.prog 14 #[.int .i64 (z : Int), vl, v] w fun e w' => ∃ v', e = .returned v' ∧ OX w' w.heap.size v' (srch (bfnd l z) z b 0 0 []) ∧ Below w.heap.size w w' := by
  obtain ⟨s, ssp⟩ := s
  obtain ⟨a, c, rfl, hc, hm, hnc, -⟩ := id s
  obtain ⟨ga, gc, rfl, -⟩ := hg.shape
  have HS : Hid (Sl w (.slice a b.length c) b) := s
  have HSP : Hid (∀ x, a = some x → 0 < c → x.spot = none) := fun x hx h0 => by subst hx; exact ssp _ _ _ rfl h0
  have HNC : Hid (a = none → c = 0) := hnc
  have HF : Hid (∀ X, 0 ≤ (bfnd l z X).1 ∧ (bfnd l z X).1 ≤ 16777216) := fun X => bfnd_range l z X hl hz
  have CF : Hid (∀ x, Below w.heap.size w x → ∀ X u, Sl x u X → X.length ≤ 4096 → Calls Tryd.prog 33 #[.int .i64 (z : Int), .slice ga l.length gc, u] x fun e w' => e = .returned (.tuple #[.int .i64 (bfnd l z X).1, .bool (bfnd l z X).2]) ∧ Below x.heap.size x w') :=
    fun x hx X u hs hlx => rfind_any z _ u l X x (hg.kept hx) hs (by omega) (by omega)
  obtain ⟨R, hR⟩ : ∃ R, srch (bfnd l z) z b 0 0 [] = R := ⟨_, rfl⟩
  rw [hR]
  have HR : Hid (srch (bfnd l z) z b 0 0 [] = R) := hR
  obtain ⟨L, hL⟩ : ∃ L, L = b.length := ⟨_, rfl⟩
  have HL : Hid (L = b.length) := hL
  rw [← hL] at HS hc hb ⊢
  clear s ssp hnc hR hL hm hg
  generalize bfnd l (z : Int) = F at *
  generalize l.length = gl at *
  go_enter Tryd.func14, Tryd.ntmps14
  go_wp2_with fail
  go_loopg [7, 8, 9] (L + 1) (fun k s p q wr => ∃ (mm i : Nat) (O : List Xp), i + k = L + 1 ∧ mm ≤ i ∧ i ≤ L ∧ p = .int .i64 mm ∧ q = .int .i64 i ∧ OX wr w.heap.size s O ∧ Bd O mm ∧ Hid (srch F z b mm i O = R) ∧ Below w.heap.size w wr)
  case atStart => exact ⟨0, 0, [], by omega, by omega, by omega, rfl, rfl, OX.nil _ _, Bd.nil, HR.out, Below.refl _ _⟩
  case round =>
    obtain ⟨mm, i, O, hik, mi, iL, rfl, rfl, ox, bd, hsr, bel⟩ := hrel
    have HBD : Hid (Bd O mm) := bd
    have HO : Hid (OX wr w.heap.size u7 O) := ox
    have HB : Hid (Below w.heap.size w wr) := bel
    have HSR : Hid (srch F z b mm i O = R) := hsr
    obtain ⟨la, lc, rfl, -, -, -⟩ := ox.shape
    have hl4 : (O.length : Int) ≤ 4096 := by have := bd.1; omega
    obtain ⟨ln, hln⟩ : ∃ ln, ln = O.length := ⟨_, rfl⟩
    have HLN : Hid (ln = O.length) := hln
    rw [← hln] at HO hl4 ⊢
    clear ox bd bel hsr hln
    by_cases hlt : i + z ≤ L
    · have lt2 : (i : Int) + (z : Int) ≤ (L : Int) := by omega
      obtain ⟨xb, xo, rfl⟩ : ∃ xb xo, a = some ⟨xb, xo, none⟩ := by
        cases a with
        | none => have := HNC.out rfl; omega
        | some x =>
          obtain ⟨xb, xo, xs⟩ := x
          obtain rfl : xs = none := HSP.out _ rfl (by omega)
          exact ⟨xb, xo, rfl⟩
      have HSC : Hid (∀ x, Below w.heap.size w x → ∀ i n, i + n ≤ L → Sl x (.slice (some ⟨xb, xo + i, none⟩) n (c - i)) (cut b i n)) := fun x hx i n hin => ((HS.out.kept hx).drop i (by omega)).take n (by omega)
      have HC := CF.out wr HB.out (cut b i z) _ (HSC.out wr HB.out i z hlt) (by rw [cut_len b i z (by rw [← HL.out]; exact hlt)]; exact hz)
      obtain ⟨f1, f2, hFX⟩ : ∃ f1 f2, F (cut b i z) = (f1, f2) := ⟨_, _, rfl⟩
      have HFX : Hid (F (cut b i z) = (f1, f2)) := hFX
      have HFR := HF.out (cut b i z)
      rw [hFX] at HC HFR
      simp only at HC HFR
      obtain ⟨hf0, hf1⟩ := HFR
      have n1 : (0 : Int) ≤ (i : Int) := by omega
      have n2 : (i : Int) ≤ ((i + z : Nat) : Int) := by omega
      have n3 : ((i + z : Nat) : Int) ≤ (c : Int) := by omega
      have n4 : (i + z) - i = z := by omega
      have nci : ¬ c = i := by omega
      clear hFX
      go_wp2_with fail
      refine HC.mono ?_
      rintro e w3 ⟨rfl, b3⟩
      clear HC n1 n2 n3 n4
      have BW3 : Hid (Below w.heap.size w w3) := HB.out.trans (b3.mono HB.out.size)
      have HO3 : Hid (OX w3 w.heap.size (.slice la ln lc) O) := HO.out.below b3
      clear b3 HO
      cases f2 with
      | false =>
        have HQ : Hid (srch F z b mm (i + 1) O = R) := by
          have e := srch_miss (F := F) (z := z) (b := b) (m := mm) (i := i) (O := O) (by rw [← HL.out]; omega) hz0 (by rw [HFX.out])
          exact e.symm.trans HSR.out
        clear HFX HSR
        go_wp2
        go_roundg (gk - 1)
        case measure => omega
        case rel => exact ⟨mm, i + 1, O, by omega, by omega, by omega, rfl, by go_num, HO3.out, HBD.out, HQ.out, BW3.out⟩
      | true =>
        have HQ0 : Hid (srch F z b (i + z) (i + z) (wcp (O ++ whl (cut b mm (i - mm))) f1 z) = R) := by
          have e := srch_hit (F := F) (z := z) (b := b) (m := mm) (i := i) (O := O) (by rw [← HL.out]; omega) hz0 (by rw [HFX.out])
          rw [HFX.out] at e
          exact e.symm.trans HSR.out
        have HBQ0 : Hid (Bd (wcp (O ++ whl (cut b mm (i - mm))) f1 z) (i + z)) := HBD.out.hit mi (by rw [← HL.out]; omega) hz0 f1 hf0 hf1
        clear HFX
        by_cases hmi : mm = i
        · subst hmi
          rw [Nat.sub_self, cut_zero, whl_nil, List.append_nil] at HQ0 HBQ0
          obtain ⟨WL, hWL⟩ : ∃ WL : List Xp, WL = [] := ⟨_, rfl⟩
          have HWL : Hid (whl (cut b mm 0) = WL) := by unfold Hid; rw [hWL, cut_zero]; rfl
          have HWE : Hid (O ++ WL = O) := by unfold Hid; rw [hWL, List.append_nil]
          have HWN : Hid (WL.length ≤ 1) := by unfold Hid; rw [hWL]; exact Nat.zero_le _
          have HBO : Hid (O.length + WL.length ≤ 100000) := by unfold Hid; rw [hWL]; have := HBD.out.1; simp; omega
          clear hWL
          obtain ⟨Q, hQ⟩ : ∃ Q, Q = wcp O f1 z := ⟨_, rfl⟩
          rw [← hQ] at HQ0 HBQ0
          have HQ : Hid (srch F z b (mm + z) (mm + z) Q = R) := HQ0
          have HBQ : Hid (Bd Q (mm + z)) := HBQ0
          have HW : Hid (Q = if ends O f1 then longer O z else O ++ [⟨true, f1, z, []⟩]) := hQ
          have HNE : Hid (¬ ends O f1 → Q = O ++ WL ++ [⟨true, f1, z, []⟩]) := fun h => by rw [HW.out, if_neg h, HWE.out]
          clear HQ0 HBQ0 hQ
          by_cases h0 : ln = 0
          · subst h0
            have HQE : Hid (Q = O ++ WL ++ [⟨true, f1, z, []⟩]) := HNE.out (fun q => by have := q.1; have := HLN.out; omega)
            clear HNE HW HWE
            go_wp2_with fail
            go_quiet (fail)
            obtain ⟨W, hW⟩ : ∃ W, W = w3.drewN nq := ⟨_, rfl⟩
            have bW : Below w3.heap.size w3 W := by rw [hW]; exact drew_below _ _
            try rw [← hW]
            clear hW
            have BWW : Hid (Below w.heap.size w W) := BW3.out.trans (bW.mono BW3.out.size)
            have HOW : Hid (OX W w.heap.size (.slice la 0 lc) O) := HO3.out.below bW
            have CW := rbytes_any _ _ W (HSC.out W BWW.out mm 0 (by omega)) (by rw [cut_len b mm 0 (by rw [← HL.out]; omega)]; omega)
            have m1 : (0 : Int) ≤ (mm : Int) := by omega
            have m2 : (mm : Int) ≤ (mm : Int) := by omega
            have m3 : (mm : Int) ≤ (c : Int) := by omega
            have ncm : ¬ c = mm := by omega
            clear bW HO3 HSR
            rw [HWL.out] at CW
            go_wp2_with fail
            refine CW.mono ?_
            rintro e w4 ⟨v4, rfl, o4, b4⟩
            clear CW
            have O4 : Hid (OX w4 w.heap.size v4 WL) := o4.mono BWW.out.size
            have L4 : Hid (OX w4 w.heap.size (.slice la 0 lc) O) := HOW.out.below b4
            have B4 : Hid (Below w.heap.size w w4) := BWW.out.trans (b4.mono BWW.out.size)
            obtain ⟨a4, c4, rfl, -⟩ := o4.shape
            clear o4 b4 HOW m1 m2 m3 ncm
            go_wp2_with (at_builtin; refine wpList_append_ox rfl _ _ rfl w.heap.size _ O rfl L4.out _ WL rfl O4.out HBO.out B4.out.size (Hid.out ?_))
            unfold Hid
            intro v5 w5 o5 b5
            have B5 : Hid (Below w.heap.size w w5) := B4.out.trans b5
            obtain ⟨W6, hW6⟩ : ∃ W6, W6 = w5.alloc (.cells #[.bool true, .int .i64 f1, .int .i64 (z : Int), .slice none 0 0] 45) := ⟨_, rfl⟩
            have b6 : Below w5.heap.size w5 W6 := by rw [hW6]; exact al_below _ _
            have O6 : Hid (OX W6 w.heap.size v5 (O ++ WL)) := o5.below b6
            have S6 : Hid (OX W6 w.heap.size (.slice (some ⟨w5.heap.size, 0, none⟩) 1 1) [⟨true, f1, z, []⟩]) := by
              unfold Hid
              rw [hW6]
              exact OX.one w5 w.heap.size B5.out.size ⟨true, f1, z, []⟩ _ (World.ownsRow_nil _ _ _ _) (fun k => by simp)
            have B6 : Hid (Below w.heap.size w W6) := B5.out.trans (b6.mono B5.out.size)
            have hW6' := hW6.symm
            have HB6 : Hid ((O ++ WL).length + 1 ≤ 100000) := by unfold Hid; rw [List.length_append]; have := HBO.out; have := HWN.out; have := HBD.out.1; omega
            obtain ⟨a5, c5, rfl, -⟩ := o5.shape
            clear o5 b5 O4 L4 hW6 b6
            generalize hl5 : (O ++ WL).length = l5 at *
            go_wp2_with (at_builtin; refine wpList_append_ox rfl _ _ rfl w.heap.size _ (O ++ WL) rfl O6.out _ [⟨true, f1, z, []⟩] rfl S6.out (by rw [hl5, List.length_singleton]; exact HB6.out) B6.out.size (Hid.out ?_))
            unfold Hid
            intro v7 w7 o7 b7
            have O7 : Hid (OX w7 w.heap.size v7 Q) := by unfold Hid; rw [HQE.out, List.append_assoc]; exact o7
            have B7 : Hid (Below w.heap.size w w7) := B6.out.trans b7
            obtain ⟨a7, c7, rfl, -⟩ := o7.shape
            clear o7 b7 O6 S6 B6 hW6' HB6 hl5
            generalize (O ++ (WL ++ [(⟨true, f1, z, []⟩ : Xp)])).length = l7 at *
            go_wp2
            go_roundg (L + 1 - (mm + z))
            case measure => omega
            case rel => exact ⟨mm + z, mm + z, Q, by omega, Nat.le_refl _, by omega, by go_num, by go_num, O7.out, HBQ.out, HQ.out, B7.out⟩
          · obtain ⟨n, hn⟩ : ∃ n, ln = n + 1 := ⟨ln - 1, by omega⟩
            subst hn
            obtain ⟨g, cap, e, hcap, hg, fz, k0, k1, k2, -⟩ := HO3.out.longer (by have := HLN.out; omega) z
            have ol : ∀ W, Below w3.heap.size w3 W → OX (W.setCell ⟨g, (O.length - 1) * 4 + 2, none⟩ (.int .i64 ((atX O (O.length - 1)).n + z))) w.heap.size (.slice la (n + 1) lc) (longer O z) := fun W hb => by
              obtain ⟨g', cap', e', -, -, -, -, -, -, ol⟩ := (HO3.out.below hb).longer (by have := HLN.out; omega) z
              rw [e] at e' ol ⊢
              cases e'
              exact ol
            have hx := HBD.out.2 _ (atX_mem O n (by have := HLN.out; omega))
            rw [← HLN.out, Nat.add_sub_cancel] at k0 k1 k2 fz ol
            rw [← HLN.out] at e hcap
            cases e
            have HOL : Hid (∀ W, Below w3.heap.size w3 W → OX (W.setCell ⟨g, n * 4 + 2, none⟩ (.int .i64 ((atX O n).n + z))) w.heap.size (.slice (some ⟨g, 0, none⟩) (n + 1) lc) (longer O z)) := ol
            have HEN : Hid (ends O f1 ↔ (atX O n).c = true ∧ (atX O n).a + (atX O n).n = f1) := by
              unfold Hid ends
              rw [← HLN.out, Nat.add_sub_cancel]
              simp
            have h1 : (((n + 1 : Nat) : Int) - 1) = (n : Int) := by omega
            have h2 : (0 : Int) ≤ (n : Int) := by omega
            have h3 : (n : Int) < ((n + 1 : Nat) : Int) := by omega
            have h4 : (0 : Int) < ((n + 1 : Nat) : Int) := by omega
            clear ol
            generalize (atX O n).c = xc at *
            generalize (atX O n).a = xa at *
            generalize (atX O n).n = xn at *
            obtain ⟨y1, y2, y3, y4⟩ := hx
            have yw : wrap64 (xa + xn) = xa + xn := by unfold wrap64; omega
            have yv : wrap64 (xn + z) = xn + z := by unfold wrap64; omega
            cases xc with
            | false =>
              have HQE : Hid (Q = O ++ WL ++ [⟨true, f1, z, []⟩]) := HNE.out (fun q => by have := (HEN.out.1 q).1; cases this)
              clear HNE HW HWE HEN HOL k1 k2 fz
              go_wp2_with fail
              go_quiet (fail)
              obtain ⟨W, hW⟩ : ∃ W, W = w3.drewN nq := ⟨_, rfl⟩
              have bW : Below w3.heap.size w3 W := by rw [hW]; exact drew_below _ _
              try rw [← hW]
              clear hW
              have BWW : Hid (Below w.heap.size w W) := BW3.out.trans (bW.mono BW3.out.size)
              have HOW : Hid (OX W w.heap.size (.slice (some ⟨g, 0, none⟩) (n + 1) lc) O) := HO3.out.below bW
              have CW := rbytes_any _ _ W (HSC.out W BWW.out mm 0 (by omega)) (by rw [cut_len b mm 0 (by rw [← HL.out]; omega)]; omega)
              have m1 : (0 : Int) ≤ (mm : Int) := by omega
              have m2 : (mm : Int) ≤ (mm : Int) := by omega
              have m3 : (mm : Int) ≤ (c : Int) := by omega
              have ncm : ¬ c = mm := by omega
              clear bW HO3 HSR
              rw [HWL.out] at CW
              go_wp2_with fail
              refine CW.mono ?_
              rintro e w4 ⟨v4, rfl, o4, b4⟩
              clear CW
              have O4 : Hid (OX w4 w.heap.size v4 WL) := o4.mono BWW.out.size
              have L4 : Hid (OX w4 w.heap.size (.slice (some ⟨g, 0, none⟩) (n + 1) lc) O) := HOW.out.below b4
              have B4 : Hid (Below w.heap.size w w4) := BWW.out.trans (b4.mono BWW.out.size)
              obtain ⟨a4, c4, rfl, -⟩ := o4.shape
              clear o4 b4 HOW m1 m2 m3 ncm
              go_wp2_with (at_builtin; refine wpList_append_ox rfl _ _ rfl w.heap.size _ O rfl L4.out _ WL rfl O4.out HBO.out B4.out.size (Hid.out ?_))
              unfold Hid
              intro v5 w5 o5 b5
              have B5 : Hid (Below w.heap.size w w5) := B4.out.trans b5
              obtain ⟨W6, hW6⟩ : ∃ W6, W6 = w5.alloc (.cells #[.bool true, .int .i64 f1, .int .i64 (z : Int), .slice none 0 0] 45) := ⟨_, rfl⟩
              have b6 : Below w5.heap.size w5 W6 := by rw [hW6]; exact al_below _ _
              have O6 : Hid (OX W6 w.heap.size v5 (O ++ WL)) := o5.below b6
              have S6 : Hid (OX W6 w.heap.size (.slice (some ⟨w5.heap.size, 0, none⟩) 1 1) [⟨true, f1, z, []⟩]) := by
                unfold Hid
                rw [hW6]
                exact OX.one w5 w.heap.size B5.out.size ⟨true, f1, z, []⟩ _ (World.ownsRow_nil _ _ _ _) (fun k => by simp)
              have B6 : Hid (Below w.heap.size w W6) := B5.out.trans (b6.mono B5.out.size)
              have hW6' := hW6.symm
              have HB6 : Hid ((O ++ WL).length + 1 ≤ 100000) := by unfold Hid; rw [List.length_append]; have := HBO.out; have := HWN.out; have := HBD.out.1; omega
              obtain ⟨a5, c5, rfl, -⟩ := o5.shape
              clear o5 b5 O4 L4 hW6 b6
              generalize hl5 : (O ++ WL).length = l5 at *
              go_wp2_with (at_builtin; refine wpList_append_ox rfl _ _ rfl w.heap.size _ (O ++ WL) rfl O6.out _ [⟨true, f1, z, []⟩] rfl S6.out (by rw [hl5, List.length_singleton]; exact HB6.out) B6.out.size (Hid.out ?_))
              unfold Hid
              intro v7 w7 o7 b7
              have O7 : Hid (OX w7 w.heap.size v7 Q) := by unfold Hid; rw [HQE.out, List.append_assoc]; exact o7
              have B7 : Hid (Below w.heap.size w w7) := B6.out.trans b7
              obtain ⟨a7, c7, rfl, -⟩ := o7.shape
              clear o7 b7 O6 S6 B6 hW6' HB6 hl5
              generalize (O ++ (WL ++ [(⟨true, f1, z, []⟩ : Xp)])).length = l7 at *
              go_wp2
              go_roundg (L + 1 - (mm + z))
              case measure => omega
              case rel => exact ⟨mm + z, mm + z, Q, by omega, Nat.le_refl _, by omega, by go_num, by go_num, O7.out, HBQ.out, HQ.out, B7.out⟩
            | true =>
              by_cases hs : xa + xn = f1
              · have HQE : Hid (Q = longer O z) := by unfold Hid; rw [HW.out, if_pos (HEN.out.2 ⟨rfl, hs⟩)]
                have hs2 : (xa + xn == f1) = true := by simpa using hs
                clear HNE HW HWE HEN hs
                go_wp2_with fail
                go_quiet (fail)
                have kW : (w3.drewN nq).cell? ⟨g, n * 4 + 2, none⟩ = some (.int .i64 xn) := k2
                have fW : (w3.drewN nq).frozen? ⟨g, n * 4 + 2, none⟩ = false := fz
                have bW : Hid (Below w3.heap.size w3 (w3.drewN nq)) := drew_below _ _
                generalize w3.drewN nq = W at *
                have OF2 : Hid (OX (W.setCell ⟨g, n * 4 + 2, none⟩ (.int .i64 (xn + z))) w.heap.size (.slice (some ⟨g, 0, none⟩) (n + 1) lc) Q) := by unfold Hid; rw [HQE.out]; exact HOL.out W bW.out
                have B7 : Hid (Below w.heap.size w (W.setCell ⟨g, n * 4 + 2, none⟩ (.int .i64 (xn + z)))) := (BW3.out.trans (bW.out.mono BW3.out.size)).setCell hg _
                clear HOL HQE k0 k1 k2 fz
                go_wp2
                go_roundg (L + 1 - (mm + z))
                case measure => omega
                case rel => exact ⟨mm + z, mm + z, Q, by omega, Nat.le_refl _, by omega, by go_num, by go_num, OF2.out, HBQ.out, HQ.out, B7.out⟩
              · have hs2 : (xa + xn == f1) = false := by simpa using hs
                have HQE : Hid (Q = O ++ WL ++ [⟨true, f1, z, []⟩]) := HNE.out (fun q => hs (HEN.out.1 q).2)
                clear HNE HW HWE HEN HOL fz hs
                go_wp2_with fail
                go_quiet (fail)
                obtain ⟨W, hW⟩ : ∃ W, W = w3.drewN nq := ⟨_, rfl⟩
                have bW : Below w3.heap.size w3 W := by rw [hW]; exact drew_below _ _
                try rw [← hW]
                clear hW
                have BWW : Hid (Below w.heap.size w W) := BW3.out.trans (bW.mono BW3.out.size)
                have HOW : Hid (OX W w.heap.size (.slice (some ⟨g, 0, none⟩) (n + 1) lc) O) := HO3.out.below bW
                have CW := rbytes_any _ _ W (HSC.out W BWW.out mm 0 (by omega)) (by rw [cut_len b mm 0 (by rw [← HL.out]; omega)]; omega)
                have m1 : (0 : Int) ≤ (mm : Int) := by omega
                have m2 : (mm : Int) ≤ (mm : Int) := by omega
                have m3 : (mm : Int) ≤ (c : Int) := by omega
                have ncm : ¬ c = mm := by omega
                clear bW HO3 HSR
                rw [HWL.out] at CW
                go_wp2_with fail
                refine CW.mono ?_
                rintro e w4 ⟨v4, rfl, o4, b4⟩
                clear CW
                have O4 : Hid (OX w4 w.heap.size v4 WL) := o4.mono BWW.out.size
                have L4 : Hid (OX w4 w.heap.size (.slice (some ⟨g, 0, none⟩) (n + 1) lc) O) := HOW.out.below b4
                have B4 : Hid (Below w.heap.size w w4) := BWW.out.trans (b4.mono BWW.out.size)
                obtain ⟨a4, c4, rfl, -⟩ := o4.shape
                clear o4 b4 HOW m1 m2 m3 ncm
                go_wp2_with (at_builtin; refine wpList_append_ox rfl _ _ rfl w.heap.size _ O rfl L4.out _ WL rfl O4.out HBO.out B4.out.size (Hid.out ?_))
                unfold Hid
                intro v5 w5 o5 b5
                have B5 : Hid (Below w.heap.size w w5) := B4.out.trans b5
                obtain ⟨W6, hW6⟩ : ∃ W6, W6 = w5.alloc (.cells #[.bool true, .int .i64 f1, .int .i64 (z : Int), .slice none 0 0] 45) := ⟨_, rfl⟩
                have b6 : Below w5.heap.size w5 W6 := by rw [hW6]; exact al_below _ _
                have O6 : Hid (OX W6 w.heap.size v5 (O ++ WL)) := o5.below b6
                have S6 : Hid (OX W6 w.heap.size (.slice (some ⟨w5.heap.size, 0, none⟩) 1 1) [⟨true, f1, z, []⟩]) := by
                  unfold Hid
                  rw [hW6]
                  exact OX.one w5 w.heap.size B5.out.size ⟨true, f1, z, []⟩ _ (World.ownsRow_nil _ _ _ _) (fun k => by simp)
                have B6 : Hid (Below w.heap.size w W6) := B5.out.trans (b6.mono B5.out.size)
                have hW6' := hW6.symm
                have HB6 : Hid ((O ++ WL).length + 1 ≤ 100000) := by unfold Hid; rw [List.length_append]; have := HBO.out; have := HWN.out; have := HBD.out.1; omega
                obtain ⟨a5, c5, rfl, -⟩ := o5.shape
                clear o5 b5 O4 L4 hW6 b6
                generalize hl5 : (O ++ WL).length = l5 at *
                go_wp2_with (at_builtin; refine wpList_append_ox rfl _ _ rfl w.heap.size _ (O ++ WL) rfl O6.out _ [⟨true, f1, z, []⟩] rfl S6.out (by rw [hl5, List.length_singleton]; exact HB6.out) B6.out.size (Hid.out ?_))
                unfold Hid
                intro v7 w7 o7 b7
                have O7 : Hid (OX w7 w.heap.size v7 Q) := by unfold Hid; rw [HQE.out, List.append_assoc]; exact o7
                have B7 : Hid (Below w.heap.size w w7) := B6.out.trans b7
                obtain ⟨a7, c7, rfl, -⟩ := o7.shape
                clear o7 b7 O6 S6 B6 hW6' HB6 hl5
                generalize (O ++ (WL ++ [(⟨true, f1, z, []⟩ : Xp)])).length = l7 at *
                go_wp2
                go_roundg (L + 1 - (mm + z))
                case measure => omega
                case rel => exact ⟨mm + z, mm + z, Q, by omega, Nat.le_refl _, by omega, by go_num, by go_num, O7.out, HBQ.out, HQ.out, B7.out⟩
        · have hne : cut b mm (i - mm) ≠ [] := fun q => by
            have := congrArg List.length q
            rw [cut_len b mm (i - mm) (by rw [← HL.out]; omega)] at this
            simp at this
            omega
          have hmi2 : ((mm : Int) == (i : Int)) = false := by
            have : ¬ (mm : Int) = (i : Int) := by omega
            simpa using this
          have HQE0 : Hid (wcp (O ++ whl (cut b mm (i - mm))) f1 z = O ++ whl (cut b mm (i - mm)) ++ [⟨true, f1, z, []⟩]) := by
            unfold Hid wcp
            rw [if_neg (ends_data O _ f1 hne)]
          have HWN0 := (whl_len (cut b mm (i - mm))).2
          obtain ⟨WL, hWL⟩ : ∃ WL, WL = whl (cut b mm (i - mm)) := ⟨_, rfl⟩
          have HWL : Hid (whl (cut b mm (i - mm)) = WL) := hWL.symm
          rw [← hWL] at HQE0 HQ0 HBQ0 HWN0
          have HWN : Hid (WL.length ≤ 1) := HWN0
          have HBO : Hid (O.length + WL.length ≤ 100000) := by unfold Hid; have := HBD.out.1; omega
          obtain ⟨Q, hQ⟩ : ∃ Q, Q = wcp (O ++ WL) f1 z := ⟨_, rfl⟩
          rw [← hQ] at HQ0 HBQ0 HQE0
          have HQ : Hid (srch F z b (i + z) (i + z) Q = R) := HQ0
          have HBQ : Hid (Bd Q (i + z)) := HBQ0
          have HQE : Hid (Q = O ++ WL ++ [⟨true, f1, z, []⟩]) := HQE0
          clear HQ0 HBQ0 HQE0 hQ hWL HWN0 hne
          go_wp2_with fail
          go_quiet (fail)
          obtain ⟨W, hW⟩ : ∃ W, W = w3.drewN nq := ⟨_, rfl⟩
          have bW : Below w3.heap.size w3 W := by rw [hW]; exact drew_below _ _
          try rw [← hW]
          clear hW
          have BWW : Hid (Below w.heap.size w W) := BW3.out.trans (bW.mono BW3.out.size)
          have HOW : Hid (OX W w.heap.size (.slice la ln lc) O) := HO3.out.below bW
          have CW := rbytes_any _ _ W (HSC.out W BWW.out mm (i - mm) (by omega)) (by rw [cut_len b mm (i - mm) (by rw [← HL.out]; omega)]; omega)
          have m1 : (0 : Int) ≤ (mm : Int) := by omega
          have m2 : (mm : Int) ≤ (i : Int) := by omega
          have m3 : (i : Int) ≤ (c : Int) := by omega
          have ncm : ¬ c = mm := by omega
          clear bW HO3 HSR
          rw [HWL.out] at CW
          go_wp2_with fail
          refine CW.mono ?_
          rintro e w4 ⟨v4, rfl, o4, b4⟩
          clear CW
          have O4 : Hid (OX w4 w.heap.size v4 WL) := o4.mono BWW.out.size
          have L4 : Hid (OX w4 w.heap.size (.slice la ln lc) O) := HOW.out.below b4
          have B4 : Hid (Below w.heap.size w w4) := BWW.out.trans (b4.mono BWW.out.size)
          obtain ⟨a4, c4, rfl, -⟩ := o4.shape
          clear o4 b4 HOW m1 m2 m3 ncm
          go_wp2_with (at_builtin; refine wpList_append_ox rfl _ _ rfl w.heap.size _ O rfl L4.out _ WL rfl O4.out HBO.out B4.out.size (Hid.out ?_))
          unfold Hid
          intro v5 w5 o5 b5
          have B5 : Hid (Below w.heap.size w w5) := B4.out.trans b5
          obtain ⟨W6, hW6⟩ : ∃ W6, W6 = w5.alloc (.cells #[.bool true, .int .i64 f1, .int .i64 (z : Int), .slice none 0 0] 45) := ⟨_, rfl⟩
          have b6 : Below w5.heap.size w5 W6 := by rw [hW6]; exact al_below _ _
          have O6 : Hid (OX W6 w.heap.size v5 (O ++ WL)) := o5.below b6
          have S6 : Hid (OX W6 w.heap.size (.slice (some ⟨w5.heap.size, 0, none⟩) 1 1) [⟨true, f1, z, []⟩]) := by
            unfold Hid
            rw [hW6]
            exact OX.one w5 w.heap.size B5.out.size ⟨true, f1, z, []⟩ _ (World.ownsRow_nil _ _ _ _) (fun k => by simp)
          have B6 : Hid (Below w.heap.size w W6) := B5.out.trans (b6.mono B5.out.size)
          have hW6' := hW6.symm
          have HB6 : Hid ((O ++ WL).length + 1 ≤ 100000) := by unfold Hid; rw [List.length_append]; have := HBO.out; have := HWN.out; have := HBD.out.1; omega
          obtain ⟨a5, c5, rfl, -⟩ := o5.shape
          clear o5 b5 O4 L4 hW6 b6
          generalize hl5 : (O ++ WL).length = l5 at *
          go_wp2_with (at_builtin; refine wpList_append_ox rfl _ _ rfl w.heap.size _ (O ++ WL) rfl O6.out _ [⟨true, f1, z, []⟩] rfl S6.out (by rw [hl5, List.length_singleton]; exact HB6.out) B6.out.size (Hid.out ?_))
          unfold Hid
          intro v7 w7 o7 b7
          have O7 : Hid (OX w7 w.heap.size v7 Q) := by unfold Hid; rw [HQE.out, List.append_assoc]; exact o7
          have B7 : Hid (Below w.heap.size w w7) := B6.out.trans b7
          obtain ⟨a7, c7, rfl, -⟩ := o7.shape
          clear o7 b7 O6 S6 B6 hW6' HB6 hl5
          generalize (O ++ (WL ++ [(⟨true, f1, z, []⟩ : Xp)])).length = l7 at *
          go_wp2
          go_roundg (L + 1 - (i + z))
          case measure => omega
          case rel => exact ⟨i + z, i + z, Q, by omega, Nat.le_refl _, by omega, by go_num, by go_num, O7.out, HBQ.out, HQ.out, B7.out⟩
    · have lt2 : ¬ (i : Int) + (z : Int) ≤ (L : Int) := by omega
      have mL : mm ≤ L := by omega
      clear HLN
      have HTR : Hid (O ++ whl (b.drop mm) = R) := by unfold Hid; rw [← HSR.out, srch_end (by rw [← HL.out]; exact hlt)]
      have SD : Hid (∀ x, Below w.heap.size w x → Sl x (Ro.cutv a L c mm) (b.drop mm)) := fun x hx => cut_slx (n := mm) (HS.out.kept hx) mL HSP.out
      have HDL : Hid ((b.drop mm).length ≤ 4096) := by unfold Hid; rw [List.length_drop]; have := HL.out; omega
      have CW := rbytes_any _ _ wr (SD.out wr HB.out) (by have := HDL.out; omega)
      have HLN : Hid (R.length ≤ L) := by
        unfold Hid
        rw [← HTR.out]
        have h1 := ((HBD.out).whl (b.drop mm)).1
        rw [List.length_drop, ← HL.out, show mm + (L - mm) = L by omega] at h1
        exact h1
      have HBO : Hid (O.length + (whl (b.drop mm)).length ≤ 100000) := by
        unfold Hid
        have h1 := (HBD.out).1
        have h2 := (whl_len (b.drop mm)).2
        omega
      have BW0 : Hid (Below w.heap.size w wr) := HB.out
      have OW0 : Hid (OX wr w.heap.size (.slice la ln lc) O) := HO.out
      have hmc : (mm : Int) ≤ (c : Int) := by omega
      clear SD HDL HBD HS
      by_cases hcm : c = mm
      · unfold Ro.cutv at CW
        rw [if_pos hcm] at CW
        have hcm2 : L = mm := by omega
        go_wp2_with fail
        refine CW.mono ?_
        rintro e w6 ⟨v6, rfl, o6, b6⟩
        clear CW
        have O6 : Hid (OX w6 w.heap.size v6 (whl (b.drop mm))) := o6.mono BW0.out.size
        have L6 : Hid (OX w6 w.heap.size (.slice la ln lc) O) := OW0.out.below b6
        have B6 : Hid (Below w.heap.size w w6) := BW0.out.trans (b6.mono BW0.out.size)
        obtain ⟨a6, c6, rfl, -⟩ := o6.shape
        clear o6 b6 OW0
        go_wp2_with (at_builtin; refine wpList_append_ox rfl _ _ rfl w.heap.size _ O rfl L6.out _ (whl (b.drop mm)) rfl O6.out HBO.out B6.out.size (Hid.out ?_))
        unfold Hid
        rw [HTR.out]
        intro v7 w7 o7 b7
        have O7 : Hid (OX w7 w.heap.size v7 R) := o7
        have B7 : Hid (Below w.heap.size w w7) := B6.out.trans b7
        obtain ⟨a7, c7, rfl, -⟩ := o7.shape
        have hR : ¬ 4096 < (R.length : Int) := by have := HLN.out; omega
        clear o7 b7 O6 L6 B6 HTR HLN HBO
        generalize R.length = rn at *
        go_wp2
        go_ret
        exact ⟨_, rfl, O7.out, B7.out⟩
      · unfold Ro.cutv at CW
        rw [if_neg hcm] at CW
        cases a with
        | none => have := HNC.out rfl; omega
        | some x =>
          obtain ⟨xb, xo, xs⟩ := x
          obtain rfl : xs = none := HSP.out _ rfl (by omega)
          simp only at CW
          go_wp2_with fail
          refine CW.mono ?_
          rintro e w6 ⟨v6, rfl, o6, b6⟩
          clear CW
          have O6 : Hid (OX w6 w.heap.size v6 (whl (b.drop mm))) := o6.mono BW0.out.size
          have L6 : Hid (OX w6 w.heap.size (.slice la ln lc) O) := OW0.out.below b6
          have B6 : Hid (Below w.heap.size w w6) := BW0.out.trans (b6.mono BW0.out.size)
          obtain ⟨a6, c6, rfl, -⟩ := o6.shape
          clear o6 b6 OW0
          go_wp2_with (at_builtin; refine wpList_append_ox rfl _ _ rfl w.heap.size _ O rfl L6.out _ (whl (b.drop mm)) rfl O6.out HBO.out B6.out.size (Hid.out ?_))
          unfold Hid
          rw [HTR.out]
          intro v7 w7 o7 b7
          have O7 : Hid (OX w7 w.heap.size v7 R) := o7
          have B7 : Hid (Below w.heap.size w w7) := B6.out.trans b7
          obtain ⟨a7, c7, rfl, -⟩ := o7.shape
          have hR : ¬ 4096 < (R.length : Int) := by have := HLN.out; omega
          clear o7 b7 O6 L6 B6 HTR HLN HBO
          generalize R.length = rn at *
          go_wp2
          go_ret
          exact ⟨_, rfl, O7.out, B7.out⟩
end Go.Proofs.YtlhmpcmlpfffoaaDoor
