/-
  What add does: sums are put into an index, behind those that are there.
-/
import Derived.Test.YtlhmpcmlpfffoaaDoorIx
namespace Go.Proofs.YtlhmpcmlpfffoaaDoor
open Go.RowKit Go.Maps
set_option maxRecDepth 100000

/-- 'm[x] = v' behind a draw: the world is named. -/
theorem range_at {w : World} {g : Nat} {x : Sg} (h : IB w g x) : w.rangeAt g 1 (x.s.map (Value.int .u8)) := by
  have := range_sum h.range
  rwa [Nat.zero_add] at this
/-- What stands when a weak sum's map is there: the index, and the sums that are to be put. -/
def AS (w x : World) (B g m : Nat) (z N : Int) (n : Nat) (q : Int → Bool) (l : List Sg) (y : Sg) : Prop := IG x B g m z N n q (inn l z) ∧ IB x w.heap.size y ∧ Below B w x ∧ w.heap.size < x.heap.size
theorem AS.kept {w x x' : World} {B g m : Nat} {z N : Int} {n : Nat} {q : Int → Bool} {l : List Sg} {y : Sg} (h : AS w x B g m z N n q l y) (hb : Below x.heap.size x x') (hB : B ≤ x.heap.size) : AS w x' B g m z N n q l y :=
  ⟨h.1.kept hb, h.2.1.kept hb, h.2.2.1.trans (hb.mono hB), Nat.lt_of_lt_of_le h.2.2.2 hb.size⟩
/-- What the region that makes a map reads. -/
def CS (g m sz : Nat) (k : Int) (x : World) : Prop := x.cell? ⟨g, 2, none⟩ = some (.map (some m)) ∧ x.cell? ⟨sz, 0, none⟩ = some (.int .u32 k)
theorem AS.cs {w x : World} {B g m : Nat} {z N : Int} {n : Nat} {q : Int → Bool} {l : List Sg} {y : Sg} (h : AS w x B g m z N n q l y) : CS g m w.heap.size y.k x := ⟨(IG.cells h.1).2.2, range_head h.2.1.range⟩
set_option maxHeartbeats 8000000 in
theorem add_any (w : World) (B g m : Nat) (z N : Int) (l : List Sg) (hi : IX w B g m z N l) (y : Sg) (hy : y.ok) (hB : B ≤ w.heap.size) :
    Calls Tryd.prog 36 #[.pointer (some ⟨g, 0, none⟩), y.val, .int .i64 ((l.length : Int) * z)] w fun e w' => e = .returned (.tuple #[]) ∧ IX w' B g m z N (l ++ [y]) ∧ Below B w w' := by
  obtain ⟨n, h⟩ := hi
  obtain ⟨W1, hW1⟩ : ∃ W1, W1 = w.alloc (.cells y.cells.toArray 57) := ⟨_, rfl⟩
  have b1 : Below w.heap.size w W1 := by rw [hW1]; exact al_below _ _
  have g1 : IB W1 w.heap.size y := by rw [hW1]; exact IB.new w y
  have A1 : Hid (AS w W1 B g m z N n (wk l) l y) := ⟨h.kept b1, g1, b1.mono hB, g1.lt⟩
  have CW := weak_any W1 B g m z N n _ _ (h.kept b1) y.k hy.2.2
  have HKR : Hid (0 ≤ y.k ∧ y.k < 4294967296) := hy.2.2
  have HSL : Hid (y.s.length = 32) := hy.1
  have HSB : Hid (∀ k, 0 ≤ y.s.getD k 0 ∧ y.s.getD k 0 < 256) := hy.2.1
  have HBB : Hid (B ≤ w.heap.size) := hB
  have HWA : Hid (∀ k, wk (l ++ [y]) k = (wk l k || decide (k = y.k))) := fun k => by rw [wk_app]; congr 1; exact decide_eq_decide.2 ⟨fun e => e.symm, fun e => e.symm⟩
  have HIA : Hid (∀ k A, inn (l ++ [y]) z k A = if fi l k A < l.length then inn l z k A else if y.k = k ∧ y.s = A then some (.int .i64 ((l.length : Int) * z)) else none) := fun k A => inn_app l y z k A
  have HNO : Hid (wk l y.k = false → ∀ A, inn l z y.k A = none) := fun hw A => inn_no l z y.k A hw
  have k3 : y.cells.toArray[0]? = some (.int .u32 y.k) := rfl
  have HQ : Hid (∀ x n', AS w x B g m z N n' (wk l) l y → wk l y.k = true → fi l y.k y.s < l.length → IX x B g m z N (l ++ [y])) := fun x n' hx hw hf => ⟨n', hx.1.congr (fun k => by
      rw [HWA.out]
      by_cases e : k = y.k
      · subst e; simp [hw]
      · simp [e]) (fun k A => by
      rw [HIA.out]
      by_cases e : fi l k A < l.length
      · rw [if_pos e]
      · rw [if_neg e]
        by_cases e2 : y.k = k ∧ y.s = A
        · obtain ⟨rfl, rfl⟩ := e2; exact absurd hf e
        · rw [if_neg e2]; unfold inn; rw [if_neg e])⟩
  have HST : Hid (∀ x n' q, (∀ k, q k = wk (l ++ [y]) k) → ¬ fi l y.k y.s < l.length → IG x B g m z N n' q (fun k' A => if k' = y.k ∧ A = y.s then some (.int .i64 ((l.length : Int) * z)) else inn l z k' A) → IX x B g m z N (l ++ [y])) := fun x n' q hq hf hx => ⟨n', hx.congr hq (fun k A => by
      rw [HIA.out]
      by_cases e2 : k = y.k ∧ A = y.s
      · obtain ⟨rfl, rfl⟩ := e2
        rw [if_pos ⟨rfl, rfl⟩, if_neg hf, if_pos ⟨rfl, rfl⟩]
      · rw [if_neg e2]
        by_cases e : fi l k A < l.length
        · rw [if_pos e]
        · rw [if_neg e, if_neg (fun e3 => e2 ⟨e3.1.symm, e3.2.symm⟩)]
          unfold inn; rw [if_neg e])⟩
  have HIN : Hid (inn l z y.k y.s = if fi l y.k y.s < l.length then some (.int .i64 ((fi l y.k y.s : Int) * z)) else none) := rfl
  clear b1 g1 h hy hB HIA
  unfold Sg.val
  generalize (l.length : Int) * z = at' at *
  generalize y.cells.toArray = cs at *
  go_enter Tryd.func36, Tryd.ntmps36
  go_wp2_with fail
  rw [← hW1]
  clear hW1 k3
  refine CW.mono ?_
  rintro e w2 ⟨rfl, hq⟩
  replace hq := hq.symm
  subst hq
  clear CW
  cases hw : wk l y.k with
  | true =>
    have HW : Hid (wk l y.k = true) := hw
    by_cases hf : fi l y.k y.s < l.length
    · have hf0 := hf
      clear hf0
      have FT : Hid (∀ x, From W1 x → x.cell? ⟨g, 2, none⟩ = some (.map (some m)) ∧ x.cell? ⟨w.heap.size, 0, none⟩ = some (.int .u32 y.k)) := fun x hx => ⟨(IG.cells (A1.out.1.kept hx)).2.2, range_head (A1.out.2.1.kept hx).range⟩
      have FR : Hid (∀ x, From W1 x → x.rangeAt w.heap.size 1 (y.s.map (Value.int .u8))) := fun x hx => range_at (A1.out.2.1.kept hx)
      have FA : Hid (∀ x, From W1 x → AS w x B g m z N n (wk l) l y) := fun x hx => A1.out.kept hx (Nat.le_trans HBB.out (Nat.le_of_lt A1.out.2.2.2))
      obtain ⟨f, ib, u, hm, hf2, hu, hA, hbi, hback⟩ := IG.inner A1.out.1 y.k HW.out
      have FL : Hid (∀ x, From W1 x → (Instr.lookup 68 (.map (some m)) (.int .u32 y.k) false).run Tryd.prog x = .ok (.map (some ib)) x) := fun x hx => by
        have := (hm.kept hx).look (t := 68) lawU Tryd.underlying68 (zeroM x) (keyU y.k HKR.out) false
        rwa [hf2] at this
      have HUE : Hid (u (.agg (u8c y.s)) = inn l z y.k y.s) := hA _ HSL.out
      have FI : Hid (∀ x, From W1 x → (Instr.lookup 99 (.map (some ib)) (.agg (y.s.map (Value.int .u8)).toArray) true).run Tryd.prog x = .ok (.tuple #[.int .i64 ((fi l y.k y.s : Int) * z), .bool true]) x) := fun x hx => by
        have := (hu.kept hx).look (t := 99) lawH Tryd.underlying99 (zeroN x) (keyH y.s HSL.out HSB.out) true
        have e : u (.agg (y.s.map (Value.int .u8)).toArray) = some (.int .i64 ((fi l y.k y.s : Int) * z)) := by
          have := HUE.out
          rw [HIN.out, if_pos hf] at this
          exact this
        rwa [e] at this
      have FQ : Hid (∀ x, From W1 x → IX x B g m z N (l ++ [y]) ∧ Below B w x) := fun x hx => ⟨HQ.out x _ (FA.out x hx) HW.out hf, (FA.out x hx).2.2.1⟩
      clear hm hf2 hu hA hbi hback HUE
      clear HWA HST HQ HIN HNO hf
      go_wp2_with fail
      refine wp_region_held_drew (S := From W1) (by kernel_rfl) ((Below.refl _ _).drew) (fun _ => ?_)
      refine wpAnyH_on ((Below.refl _ _).drew) (fun u0 hu0 bu0 => ?_)
      replace FT := on FT bu0
      replace FL := on FL bu0
      replace FI := on FI bu0
      replace FR := on FR bu0
      replace FA := on FA bu0
      replace FQ := on FQ bu0
      refine wpAnyH_take (i := 0) (oi := { dst := some 21, op := Op.move (Operand.tmp 0), type := 24, pos := "block.go:134", after := #[], guard := none }) (v := ?vr1) rfl (by kernel_rfl) (by kernel_rfl) (by kernel_rfl) (fun _ _ _ h => h) (Or.inl ⟨by rfl, ?yr1⟩) (Below.refl _ _) ?rr1
      case yr1 => (intro w hSw; go_simp; try with_reducible rfl)
      try simp only [Act.put, List.setIfInBounds_toArray, List.set_cons_zero, List.set_cons_succ]
      refine wpAnyH_take (i := 1) (oi := { dst := some 22, op := Op.nilCheck (Operand.tmp 21), type := 0, pos := "block.go:134", after := #[{ on := 0, ground := Ground.data }], guard := none }) (v := ?vr2) rfl (by kernel_rfl) (by kernel_rfl) (by kernel_rfl) (fun _ _ _ h => h) (Or.inl ⟨by rfl, ?yr2⟩) (Below.refl _ _) ?rr2
      case yr2 => (intro w hSw; go_simp; try with_reducible rfl)
      try simp only [Act.put, List.setIfInBounds_toArray, List.set_cons_zero, List.set_cons_succ]
      refine wpAnyH_take (i := 2) (oi := { dst := some 23, op := Op.fieldAddr 70 (Operand.tmp 22) 2, type := 0, pos := "block.go:134", after := #[{ on := 1, ground := Ground.data }], guard := none }) (v := ?vr3) rfl (by kernel_rfl) (by kernel_rfl) (by kernel_rfl) (fun _ _ _ h => h) (Or.inl ⟨by rfl, ?yr3⟩) (Below.refl _ _) ?rr3
      case yr3 => (intro w hSw; go_simp; try with_reducible rfl)
      try simp only [Act.put, List.setIfInBounds_toArray, List.set_cons_zero, List.set_cons_succ]
      refine wpAnyH_take (i := 3) (oi := { dst := some 24, op := Op.load 68 (Operand.tmp 23), type := 68, pos := "block.go:134", after := #[{ on := 2, ground := Ground.data }], guard := none }) (v := ?vr4) rfl (by kernel_rfl) (by kernel_rfl) (by kernel_rfl) (fun _ _ _ h => h) (Or.inl ⟨by rfl, ?yr4⟩) (Below.refl _ _) ?rr4
      case yr4 => (intro w hSw; obtain ⟨t0, t1⟩ := FT.out w hSw; go_simp; try with_reducible rfl)
      try simp only [Act.put, List.setIfInBounds_toArray, List.set_cons_zero, List.set_cons_succ]
      refine wpAnyH_take (i := 4) (oi := { dst := some 25, op := Op.fieldAddr 57 (Operand.tmp 4) 0, type := 0, pos := "block.go:134", after := #[], guard := none }) (v := ?vr5) rfl (by kernel_rfl) (by kernel_rfl) (by kernel_rfl) (fun _ _ _ h => h) (Or.inl ⟨by rfl, ?yr5⟩) (Below.refl _ _) ?rr5
      case yr5 => (intro w hSw; go_simp; try with_reducible rfl)
      try simp only [Act.put, List.setIfInBounds_toArray, List.set_cons_zero, List.set_cons_succ]
      refine wpAnyH_take (i := 5) (oi := { dst := some 26, op := Op.load 53 (Operand.tmp 25), type := 53, pos := "block.go:134", after := #[{ on := 4, ground := Ground.data }], guard := none }) (v := ?vr6) rfl (by kernel_rfl) (by kernel_rfl) (by kernel_rfl) (fun _ _ _ h => h) (Or.inl ⟨by rfl, ?yr6⟩) (Below.refl _ _) ?rr6
      case yr6 => (intro w hSw; obtain ⟨t0, t1⟩ := FT.out w hSw; go_simp; try with_reducible rfl)
      try simp only [Act.put, List.setIfInBounds_toArray, List.set_cons_zero, List.set_cons_succ]
      refine wpAnyH_take (i := 6) (oi := { dst := some 27, op := Op.lookup 68 (Operand.tmp 24) (Operand.tmp 26) false, type := 99, pos := "block.go:134", after := #[{ on := 3, ground := Ground.data }, { on := 5, ground := Ground.data }], guard := none }) (v := .map (some ib)) rfl (by kernel_rfl) (by kernel_rfl) (by kernel_rfl) (fun _ _ _ h => h) (yields_look (by rfl) (.tmp 24) (.tmp 26) false rfl (.map (some m)) (.int .u32 y.k) (.map (some ib)) rfl rfl FL.out) (Below.refl _ _) ?_
      try simp only [Act.put, List.setIfInBounds_toArray, List.set_cons_zero, List.set_cons_succ]
      refine wpAnyH_take (i := 7) (oi := { dst := some 6, op := Op.assign (Operand.tmp 27), type := 99, pos := "block.go:134", after := #[{ on := 6, ground := Ground.data }, { on := 0, ground := Ground.phase }, { on := 1, ground := Ground.phase }, { on := 2, ground := Ground.phase }, { on := 3, ground := Ground.phase }, { on := 4, ground := Ground.phase }, { on := 5, ground := Ground.phase }, { on := 6, ground := Ground.phase }], guard := none }) (v := ?vr8) rfl (by kernel_rfl) (by kernel_rfl) (by kernel_rfl) (fun _ _ _ h => h) (Or.inl ⟨by rfl, ?yr8⟩) (Below.refl _ _) ?rr8
      case yr8 => (intro w hSw; go_simp; try with_reducible rfl)
      try simp only [Act.put, List.setIfInBounds_toArray, List.set_cons_zero, List.set_cons_succ]
      refine wpAnyH_done (by kernel_rfl) ?_ _
      have RN : Hid (u0.rangeAt w.heap.size 1 (y.s.map (Value.int .u8))) := FR.out _ (Below.refl _ _)
      have hI := FI.out _ (Below.refl _ _)
      have Z : Hid (IX u0 B g m z N (l ++ [y]) ∧ Below B w u0) := FQ.out _ (Below.refl _ _)
      clear FT FL FI FR FA
      go_wp2_with (refine wpList_load_mid rfl 48 _ rfl w.heap.size 1 rfl (y.s.map (Value.int .u8)) _ RN.out Tryd.underlying48 rfl (infoHl _ HSL.out) (Hid.out ?_))
      unfold Hid
      clear FQ
      go_wp2
      go_end0
      exact ⟨rfl, Z.out⟩
    · have hf0 := hf
      clear hf0
      have FT : Hid (∀ x, From W1 x → x.cell? ⟨g, 2, none⟩ = some (.map (some m)) ∧ x.cell? ⟨w.heap.size, 0, none⟩ = some (.int .u32 y.k)) := fun x hx => ⟨(IG.cells (A1.out.1.kept hx)).2.2, range_head (A1.out.2.1.kept hx).range⟩
      have FR : Hid (∀ x, From W1 x → x.rangeAt w.heap.size 1 (y.s.map (Value.int .u8))) := fun x hx => range_at (A1.out.2.1.kept hx)
      have FA : Hid (∀ x, From W1 x → AS w x B g m z N n (wk l) l y) := fun x hx => A1.out.kept hx (Nat.le_trans HBB.out (Nat.le_of_lt A1.out.2.2.2))
      obtain ⟨f, ib, u, hm, hf2, hu, hA, hbi, hback⟩ := IG.inner A1.out.1 y.k HW.out
      have FL : Hid (∀ x, From W1 x → (Instr.lookup 68 (.map (some m)) (.int .u32 y.k) false).run Tryd.prog x = .ok (.map (some ib)) x) := fun x hx => by
        have := (hm.kept hx).look (t := 68) lawU Tryd.underlying68 (zeroM x) (keyU y.k HKR.out) false
        rwa [hf2] at this
      have HUE : Hid (u (.agg (u8c y.s)) = inn l z y.k y.s) := hA _ HSL.out
      have FI : Hid (∀ x, From W1 x → (Instr.lookup 99 (.map (some ib)) (.agg (y.s.map (Value.int .u8)).toArray) true).run Tryd.prog x = .ok (.tuple #[.int .i64 0, .bool false]) x) := fun x hx => by
        have := (hu.kept hx).look (t := 99) lawH Tryd.underlying99 (zeroN x) (keyH y.s HSL.out HSB.out) true
        have e : u (.agg (y.s.map (Value.int .u8)).toArray) = none := by
          have := HUE.out
          rw [HIN.out, if_neg hf] at this
          exact this
        rwa [e] at this
      have FM : Hid (∀ x, From W1 x → MP Tryd.prog 48 x ib n u) := fun x hx => hu.kept hx
      have HUN : Hid (u (.agg (y.s.map (Value.int .u8)).toArray) = none) := by
        have := HUE.out
        rw [HIN.out, if_neg hf] at this
        exact this
      have FK : Hid (∀ x, From W1 x → ∀ ob u', u' (.agg (y.s.map (Value.int .u8)).toArray) = some (.int .i64 at') → (∀ r, r ≠ .agg (y.s.map (Value.int .u8)).toArray → u' r = u r) → MP Tryd.prog 48 (ChangeMaps.setBlock x ib ob) ib (n + 1) u' → IX (ChangeMaps.setBlock x ib ob) B g m z N (l ++ [y]) ∧ Below B w (ChangeMaps.setBlock x ib ob)) := fun x hx ob u' c1 c2 c3 => by
        have h1 := hback x hx ob u' y.s (.int .i64 at') c1 c2 c3
        refine ⟨HST.out _ _ _ (fun k => by
            rw [HWA.out]
            by_cases e : k = y.k
            · subst e; simp [HW.out]
            · simp [e]) hf h1, ((FA.out x hx).2.2.1).trans (setBlock_below ob hbi)⟩
      clear hm hf2 hu hA hbi hback HUE
      clear HWA HST HQ HIN HNO hf
      go_wp2_with fail
      refine wp_region_held_drew (S := From W1) (by kernel_rfl) ((Below.refl _ _).drew) (fun _ => ?_)
      refine wpAnyH_on ((Below.refl _ _).drew) (fun u0 hu0 bu0 => ?_)
      replace FT := on FT bu0
      replace FL := on FL bu0
      replace FI := on FI bu0
      replace FR := on FR bu0
      replace FA := on FA bu0
      replace FK := on FK bu0
      replace FM := on FM bu0
      refine wpAnyH_take (i := 0) (oi := { dst := some 21, op := Op.move (Operand.tmp 0), type := 24, pos := "block.go:134", after := #[], guard := none }) (v := ?vs1) rfl (by kernel_rfl) (by kernel_rfl) (by kernel_rfl) (fun _ _ _ h => h) (Or.inl ⟨by rfl, ?ys1⟩) (Below.refl _ _) ?rs1
      case ys1 => (intro w hSw; go_simp; try with_reducible rfl)
      try simp only [Act.put, List.setIfInBounds_toArray, List.set_cons_zero, List.set_cons_succ]
      refine wpAnyH_take (i := 1) (oi := { dst := some 22, op := Op.nilCheck (Operand.tmp 21), type := 0, pos := "block.go:134", after := #[{ on := 0, ground := Ground.data }], guard := none }) (v := ?vs2) rfl (by kernel_rfl) (by kernel_rfl) (by kernel_rfl) (fun _ _ _ h => h) (Or.inl ⟨by rfl, ?ys2⟩) (Below.refl _ _) ?rs2
      case ys2 => (intro w hSw; go_simp; try with_reducible rfl)
      try simp only [Act.put, List.setIfInBounds_toArray, List.set_cons_zero, List.set_cons_succ]
      refine wpAnyH_take (i := 2) (oi := { dst := some 23, op := Op.fieldAddr 70 (Operand.tmp 22) 2, type := 0, pos := "block.go:134", after := #[{ on := 1, ground := Ground.data }], guard := none }) (v := ?vs3) rfl (by kernel_rfl) (by kernel_rfl) (by kernel_rfl) (fun _ _ _ h => h) (Or.inl ⟨by rfl, ?ys3⟩) (Below.refl _ _) ?rs3
      case ys3 => (intro w hSw; go_simp; try with_reducible rfl)
      try simp only [Act.put, List.setIfInBounds_toArray, List.set_cons_zero, List.set_cons_succ]
      refine wpAnyH_take (i := 3) (oi := { dst := some 24, op := Op.load 68 (Operand.tmp 23), type := 68, pos := "block.go:134", after := #[{ on := 2, ground := Ground.data }], guard := none }) (v := ?vs4) rfl (by kernel_rfl) (by kernel_rfl) (by kernel_rfl) (fun _ _ _ h => h) (Or.inl ⟨by rfl, ?ys4⟩) (Below.refl _ _) ?rs4
      case ys4 => (intro w hSw; obtain ⟨t0, t1⟩ := FT.out w hSw; go_simp; try with_reducible rfl)
      try simp only [Act.put, List.setIfInBounds_toArray, List.set_cons_zero, List.set_cons_succ]
      refine wpAnyH_take (i := 4) (oi := { dst := some 25, op := Op.fieldAddr 57 (Operand.tmp 4) 0, type := 0, pos := "block.go:134", after := #[], guard := none }) (v := ?vs5) rfl (by kernel_rfl) (by kernel_rfl) (by kernel_rfl) (fun _ _ _ h => h) (Or.inl ⟨by rfl, ?ys5⟩) (Below.refl _ _) ?rs5
      case ys5 => (intro w hSw; go_simp; try with_reducible rfl)
      try simp only [Act.put, List.setIfInBounds_toArray, List.set_cons_zero, List.set_cons_succ]
      refine wpAnyH_take (i := 5) (oi := { dst := some 26, op := Op.load 53 (Operand.tmp 25), type := 53, pos := "block.go:134", after := #[{ on := 4, ground := Ground.data }], guard := none }) (v := ?vs6) rfl (by kernel_rfl) (by kernel_rfl) (by kernel_rfl) (fun _ _ _ h => h) (Or.inl ⟨by rfl, ?ys6⟩) (Below.refl _ _) ?rs6
      case ys6 => (intro w hSw; obtain ⟨t0, t1⟩ := FT.out w hSw; go_simp; try with_reducible rfl)
      try simp only [Act.put, List.setIfInBounds_toArray, List.set_cons_zero, List.set_cons_succ]
      refine wpAnyH_take (i := 6) (oi := { dst := some 27, op := Op.lookup 68 (Operand.tmp 24) (Operand.tmp 26) false, type := 99, pos := "block.go:134", after := #[{ on := 3, ground := Ground.data }, { on := 5, ground := Ground.data }], guard := none }) (v := .map (some ib)) rfl (by kernel_rfl) (by kernel_rfl) (by kernel_rfl) (fun _ _ _ h => h) (yields_look (by rfl) (.tmp 24) (.tmp 26) false rfl (.map (some m)) (.int .u32 y.k) (.map (some ib)) rfl rfl FL.out) (Below.refl _ _) ?_
      try simp only [Act.put, List.setIfInBounds_toArray, List.set_cons_zero, List.set_cons_succ]
      refine wpAnyH_take (i := 7) (oi := { dst := some 6, op := Op.assign (Operand.tmp 27), type := 99, pos := "block.go:134", after := #[{ on := 6, ground := Ground.data }, { on := 0, ground := Ground.phase }, { on := 1, ground := Ground.phase }, { on := 2, ground := Ground.phase }, { on := 3, ground := Ground.phase }, { on := 4, ground := Ground.phase }, { on := 5, ground := Ground.phase }, { on := 6, ground := Ground.phase }], guard := none }) (v := ?vs8) rfl (by kernel_rfl) (by kernel_rfl) (by kernel_rfl) (fun _ _ _ h => h) (Or.inl ⟨by rfl, ?ys8⟩) (Below.refl _ _) ?rs8
      case ys8 => (intro w hSw; go_simp; try with_reducible rfl)
      try simp only [Act.put, List.setIfInBounds_toArray, List.set_cons_zero, List.set_cons_succ]
      refine wpAnyH_done (by kernel_rfl) ?_ _
      have RN : Hid (u0.rangeAt w.heap.size 1 (y.s.map (Value.int .u8))) := FR.out _ (Below.refl _ _)
      have hI := FI.out _ (Below.refl _ _)
      have Z : Hid (∀ ob u', u' (.agg (y.s.map (Value.int .u8)).toArray) = some (.int .i64 at') → (∀ r, r ≠ .agg (y.s.map (Value.int .u8)).toArray → u' r = u r) → MP Tryd.prog 48 (ChangeMaps.setBlock u0 ib ob) ib (n + 1) u' → IX (ChangeMaps.setBlock u0 ib ob) B g m z N (l ++ [y]) ∧ Below B w (ChangeMaps.setBlock u0 ib ob)) := FK.out _ (Below.refl _ _)
      clear FT FL FI FR FA
      go_wp2_with (refine wpList_load_mid rfl 48 _ rfl w.heap.size 1 rfl (y.s.map (Value.int .u8)) _ RN.out Tryd.underlying48 rfl (infoHl _ HSL.out) (Hid.out ?_))
      unfold Hid
      have M : Hid (MP Tryd.prog 48 u0 ib n u) := FM.out _ (Below.refl _ _)
      clear FM FK
      go_wp2_with (refine wpList_load_mid rfl 48 _ rfl w.heap.size 1 rfl (y.s.map (Value.int .u8)) _ RN.out Tryd.underlying48 rfl (infoHl _ HSL.out) (Hid.out ?_))
      unfold Hid
      go_wp2_with (at_mapUpdate; refine wpList_mput rfl _ _ _ rfl lawH Tryd.underlying99 rfl M.out (.agg (y.s.map (Value.int .u8)).toArray) (.int .i64 at') rfl rfl (keyH y.s HSL.out HSB.out) HUN.out (Hid.out ?_))
      unfold Hid
      intro ob u' c1 c2 c3
      have ZZ := Z.out ob u' c1 c2 c3
      have HZZ : Hid (IX (ChangeMaps.setBlock u0 ib ob) B g m z N (l ++ [y]) ∧ Below B w (ChangeMaps.setBlock u0 ib ob)) := ZZ
      clear ZZ c1 c2 c3 M
      go_wp2
      go_end0
      exact ⟨rfl, HZZ.out⟩
  | false =>
    have hw0 := hw
    obtain ⟨f0, hm0, hf0, hc0⟩ := A1.out.1.outer
    have FM0 : Hid (∀ x, From W1 x → MP Tryd.prog 53 x m n f0) := fun x hx => hm0.kept hx
    have HF0 : Hid (f0 (.int .u32 y.k) = none) := (hf0 y.k).1 hw
    have hml := hm0.lt
    have HML : Hid (m ≠ w.heap.size) := fun e => by
      obtain ⟨es, clock, hh, _⟩ := hm0
      have := A1.out.2.1
      unfold IB at this
      rw [e, this] at hh
      cases hh
    have FA0 : Hid (∀ x, From W1 x → AS w x B g m z N n (wk l) l y) := fun x hx => A1.out.kept hx (Nat.le_trans HBB.out (Nat.le_of_lt A1.out.2.2.2))
    have HCT : Hid (∀ x nb ob f', From W1 x → W1.heap.size ≤ nb → MP Tryd.prog 48 x nb 0 (fun _ => none) → f' (.int .u32 y.k) = some (.map (some nb)) → (∀ r, r ≠ .int .u32 y.k → f' r = f0 r) → MP Tryd.prog 53 (ChangeMaps.setBlock x m ob) m (n + 1) f' → AS w (ChangeMaps.setBlock x m ob) B g m z N (n + 1) (wk (l ++ [y])) l y) := fun x nb ob f' hx hnb c0 c1 c2 c3 => by
      have h1 := hc0 x nb ob f' y.k hx hnb c0 hw (HNO.out hw) c1 c2 c3 (Nat.le_trans HBB.out (Nat.le_of_lt A1.out.2.2.2))
      have h2 := FA0.out x hx
      refine ⟨h1.congr (fun k => (HWA.out k).symm) (fun _ _ => rfl), (setBlock_other ob (fun e => HML.out e.symm)).trans h2.2.1, h2.2.2.1.trans (setBlock_below ob h1.2.2.1), by rw [setBlock_size]; exact h2.2.2.2⟩
    have HWT : Hid (wk (l ++ [y]) y.k = true) := by unfold Hid; rw [HWA.out]; simp
    have HNF : Hid (¬ fi l y.k y.s < l.length) := fun hq => by rw [fi_wk l _ _ hq] at hw; cases hw
    have HC1 : Hid (CS g m w.heap.size y.k W1) := A1.out.cs
    clear hm0 hf0 hc0 hw hw0 hml
    go_wp2_with fail
    refine wp_region_held_drew (S := CS g m w.heap.size y.k) (by kernel_rfl) (HC1.out) (fun _ => ?_)
    refine wpAnyH_name (fun u0 hu0 => ?_)
    have su0 : (CS g m w.heap.size y.k) u0 := by rw [hu0.out]; exact (HC1.out)
    refine wpAnyH_take (i := 0) (oi := { dst := some 14, op := Op.move (Operand.tmp 0), type := 24, pos := "block.go:132", after := #[], guard := none }) (v := ?vq1) rfl (by kernel_rfl) (by kernel_rfl) (by kernel_rfl) (fun _ _ _ h => h) (Or.inl ⟨by rfl, ?yq1⟩) su0 ?rq1
    case yq1 => (intro w hSw; go_simp; try with_reducible rfl)
    try simp only [Act.put, List.setIfInBounds_toArray, List.set_cons_zero, List.set_cons_succ]
    refine wpAnyH_take (i := 1) (oi := { dst := some 15, op := Op.nilCheck (Operand.tmp 14), type := 0, pos := "block.go:132", after := #[{ on := 0, ground := Ground.data }], guard := none }) (v := ?vq2) rfl (by kernel_rfl) (by kernel_rfl) (by kernel_rfl) (fun _ _ _ h => h) (Or.inl ⟨by rfl, ?yq2⟩) su0 ?rq2
    case yq2 => (intro w hSw; go_simp; try with_reducible rfl)
    try simp only [Act.put, List.setIfInBounds_toArray, List.set_cons_zero, List.set_cons_succ]
    refine wpAnyH_take (i := 2) (oi := { dst := some 16, op := Op.fieldAddr 70 (Operand.tmp 15) 2, type := 0, pos := "block.go:132", after := #[{ on := 1, ground := Ground.data }], guard := none }) (v := ?vq3) rfl (by kernel_rfl) (by kernel_rfl) (by kernel_rfl) (fun _ _ _ h => h) (Or.inl ⟨by rfl, ?yq3⟩) su0 ?rq3
    case yq3 => (intro w hSw; go_simp; try with_reducible rfl)
    try simp only [Act.put, List.setIfInBounds_toArray, List.set_cons_zero, List.set_cons_succ]
    refine wpAnyH_take (i := 3) (oi := { dst := some 17, op := Op.load 68 (Operand.tmp 16), type := 68, pos := "block.go:132", after := #[{ on := 2, ground := Ground.data }], guard := none }) (v := ?vq4) rfl (by kernel_rfl) (by kernel_rfl) (by kernel_rfl) (fun _ _ _ h => h) (Or.inl ⟨by rfl, ?yq4⟩) su0 ?rq4
    case yq4 => (intro w hSw; obtain ⟨t0, t1⟩ := hSw; go_simp; try with_reducible rfl)
    try simp only [Act.put, List.setIfInBounds_toArray, List.set_cons_zero, List.set_cons_succ]
    refine wpAnyH_take (i := 4) (oi := { dst := some 18, op := Op.fieldAddr 57 (Operand.tmp 4) 0, type := 0, pos := "block.go:132", after := #[], guard := none }) (v := ?vq5) rfl (by kernel_rfl) (by kernel_rfl) (by kernel_rfl) (fun _ _ _ h => h) (Or.inl ⟨by rfl, ?yq5⟩) su0 ?rq5
    case yq5 => (intro w hSw; go_simp; try with_reducible rfl)
    try simp only [Act.put, List.setIfInBounds_toArray, List.set_cons_zero, List.set_cons_succ]
    refine wpAnyH_take (i := 5) (oi := { dst := some 19, op := Op.load 53 (Operand.tmp 18), type := 53, pos := "block.go:132", after := #[{ on := 4, ground := Ground.data }], guard := none }) (v := ?vq6) rfl (by kernel_rfl) (by kernel_rfl) (by kernel_rfl) (fun _ _ _ h => h) (Or.inl ⟨by rfl, ?yq6⟩) su0 ?rq6
    case yq6 => (intro w hSw; obtain ⟨t0, t1⟩ := hSw; go_simp; try with_reducible rfl)
    try simp only [Act.put, List.setIfInBounds_toArray, List.set_cons_zero, List.set_cons_succ]
    refine wpAnyH_ready (rs := [6]) (by kernel_rfl) (by simp) ?_
    refine AllReadyH.cons (o := { dst := some 20, op := Op.makeMap 99 none, type := 99, pos := "block.go:132", after := #[], guard := none }) rfl (fun KK hKK => ?_) ?_
    · have tu7 := run_makeMap (P := Tryd.prog) 99 u0
      go_simp
      refine hKK.out _ _ (⟨(Below.cell (al_below u0 _) (World.block_lt_of_cell? _ _ su0.1)).trans su0.1, (Below.cell (al_below u0 _) (World.block_lt_of_cell? _ _ su0.2)).trans su0.2⟩) (fun _ => ?_)
      clear hKK KK
      try simp only [Act.put, List.setIfInBounds_toArray, List.set_cons_zero, List.set_cons_succ]
      refine wpAnyH_name (fun u7 hu7 => ?_)
      have su7 : (CS g m w.heap.size y.k) u7 := by rw [hu7.out]; exact (⟨(Below.cell (al_below u0 _) (World.block_lt_of_cell? _ _ su0.1)).trans su0.1, (Below.cell (al_below u0 _) (World.block_lt_of_cell? _ _ su0.2)).trans su0.2⟩)
      have fu0 : From W1 u0 := by rw [hu0.out]; exact (Below.refl _ _).drew
      have fu7 : From W1 u7 := by rw [hu7.out]; exact Below.trans fu0 ((al_below _ _).mono (Below.size fu0))
      have Mu7 : MP Tryd.prog 48 u7 u0.heap.size 0 (fun _ => none) := by rw [hu7.out]; exact MP.made _ _ _
      refine wpAnyH_ready (rs := [7]) (by kernel_rfl) (by simp) ?_
      refine AllReadyH.cons (o := { dst := none, op := Op.mapUpdate 68 (Operand.tmp 17) (Operand.tmp 19) (Operand.tmp 20), type := 0, pos := "block.go:132", after := #[{ on := 3, ground := Ground.data }, { on := 5, ground := Ground.data }, { on := 6, ground := Ground.data }, { on := 0, ground := Ground.phase }, { on := 1, ground := Ground.phase }, { on := 2, ground := Ground.phase }, { on := 3, ground := Ground.phase }, { on := 4, ground := Ground.phase }, { on := 5, ground := Ground.phase }, { on := 6, ground := Ground.phase }], guard := none }) rfl (fun KK hKK => ?_) ?_
      · refine wp_mput _ _ _ rfl lawU Tryd.underlying68 rfl (FM0.out _ fu7) (.int .u32 y.k) (.map (some u0.heap.size)) rfl rfl (keyU _ HKR.out) HF0.out (fun ob f' r1 r2 r3 => ?_)
        have Au8 := HCT.out _ u0.heap.size ob f' fu7 (Below.size fu0) Mu7 r1 r2 r3
        refine hKK.out _ _ (Au8.cs) (fun _ => ?_)
        clear hKK KK
        try simp only [Act.put]
        refine wpAnyH_name (fun u8 hu8 => ?_)
        have su8 : (CS g m w.heap.size y.k) u8 := by rw [hu8.out]; exact (Au8.cs)
        rw [← hu8.out] at Au8
        refine wpAnyH_done (by kernel_rfl) ?_ _
        have A7' : Hid (AS w u8 B g m z N (n + 1) (wk (l ++ [y])) l y) := Au8
        clear Au8
        obtain ⟨W7, hW7⟩ : ∃ W7, W7 = u8 := ⟨_, rfl⟩
        rw [← hW7] at A7' ⊢
        clear hW7
        have A7 : Hid (AS w W7 B g m z N (n + 1) (wk (l ++ [y])) l y) := A7'
        have hf := HNF.out
        clear FM0 FA0 HCT HC1 HF0 A7'
        have FT : Hid (∀ x, From W7 x → x.cell? ⟨g, 2, none⟩ = some (.map (some m)) ∧ x.cell? ⟨w.heap.size, 0, none⟩ = some (.int .u32 y.k)) := fun x hx => ⟨(IG.cells (A7.out.1.kept hx)).2.2, range_head (A7.out.2.1.kept hx).range⟩
        have FR : Hid (∀ x, From W7 x → x.rangeAt w.heap.size 1 (y.s.map (Value.int .u8))) := fun x hx => range_at (A7.out.2.1.kept hx)
        have FA : Hid (∀ x, From W7 x → AS w x B g m z N (n + 1) (wk (l ++ [y])) l y) := fun x hx => A7.out.kept hx (Nat.le_trans HBB.out (Nat.le_of_lt A7.out.2.2.2))
        obtain ⟨f, ib, u, hm, hf2, hu, hA, hbi, hback⟩ := IG.inner A7.out.1 y.k HWT.out
        have FL : Hid (∀ x, From W7 x → (Instr.lookup 68 (.map (some m)) (.int .u32 y.k) false).run Tryd.prog x = .ok (.map (some ib)) x) := fun x hx => by
          have := (hm.kept hx).look (t := 68) lawU Tryd.underlying68 (zeroM x) (keyU y.k HKR.out) false
          rwa [hf2] at this
        have HUE : Hid (u (.agg (u8c y.s)) = inn l z y.k y.s) := hA _ HSL.out
        have FI : Hid (∀ x, From W7 x → (Instr.lookup 99 (.map (some ib)) (.agg (y.s.map (Value.int .u8)).toArray) true).run Tryd.prog x = .ok (.tuple #[.int .i64 0, .bool false]) x) := fun x hx => by
          have := (hu.kept hx).look (t := 99) lawH Tryd.underlying99 (zeroN x) (keyH y.s HSL.out HSB.out) true
          have e : u (.agg (y.s.map (Value.int .u8)).toArray) = none := by
            have := HUE.out
            rw [HIN.out, if_neg hf] at this
            exact this
          rwa [e] at this
        have FM : Hid (∀ x, From W7 x → MP Tryd.prog 48 x ib (n + 1) u) := fun x hx => hu.kept hx
        have HUN : Hid (u (.agg (y.s.map (Value.int .u8)).toArray) = none) := by
          have := HUE.out
          rw [HIN.out, if_neg hf] at this
          exact this
        have FK : Hid (∀ x, From W7 x → ∀ ob u', u' (.agg (y.s.map (Value.int .u8)).toArray) = some (.int .i64 at') → (∀ r, r ≠ .agg (y.s.map (Value.int .u8)).toArray → u' r = u r) → MP Tryd.prog 48 (ChangeMaps.setBlock x ib ob) ib ((n + 1) + 1) u' → IX (ChangeMaps.setBlock x ib ob) B g m z N (l ++ [y]) ∧ Below B w (ChangeMaps.setBlock x ib ob)) := fun x hx ob u' c1 c2 c3 => by
          have h1 := hback x hx ob u' y.s (.int .i64 at') c1 c2 c3
          refine ⟨HST.out _ _ _ (fun k => rfl) hf h1, ((FA.out x hx).2.2.1).trans (setBlock_below ob hbi)⟩
        clear hm hf2 hu hA hbi hback HUE
        clear HWA HST HQ HIN HNO hf
        go_wp2_with fail
        refine wp_region_held_drew (S := From W7) (by kernel_rfl) ((Below.refl _ _).drew) (fun _ => ?_)
        refine wpAnyH_on ((Below.refl _ _).drew) (fun u0 hu0 bu0 => ?_)
        replace FT := on FT bu0
        replace FL := on FL bu0
        replace FI := on FI bu0
        replace FR := on FR bu0
        replace FA := on FA bu0
        replace FK := on FK bu0
        replace FM := on FM bu0
        refine wpAnyH_take (i := 0) (oi := { dst := some 21, op := Op.move (Operand.tmp 0), type := 24, pos := "block.go:134", after := #[], guard := none }) (v := ?vv1) rfl (by kernel_rfl) (by kernel_rfl) (by kernel_rfl) (fun _ _ _ h => h) (Or.inl ⟨by rfl, ?yv1⟩) (Below.refl _ _) ?rv1
        case yv1 => (intro w hSw; go_simp; try with_reducible rfl)
        try simp only [Act.put, List.setIfInBounds_toArray, List.set_cons_zero, List.set_cons_succ]
        refine wpAnyH_take (i := 1) (oi := { dst := some 22, op := Op.nilCheck (Operand.tmp 21), type := 0, pos := "block.go:134", after := #[{ on := 0, ground := Ground.data }], guard := none }) (v := ?vv2) rfl (by kernel_rfl) (by kernel_rfl) (by kernel_rfl) (fun _ _ _ h => h) (Or.inl ⟨by rfl, ?yv2⟩) (Below.refl _ _) ?rv2
        case yv2 => (intro w hSw; go_simp; try with_reducible rfl)
        try simp only [Act.put, List.setIfInBounds_toArray, List.set_cons_zero, List.set_cons_succ]
        refine wpAnyH_take (i := 2) (oi := { dst := some 23, op := Op.fieldAddr 70 (Operand.tmp 22) 2, type := 0, pos := "block.go:134", after := #[{ on := 1, ground := Ground.data }], guard := none }) (v := ?vv3) rfl (by kernel_rfl) (by kernel_rfl) (by kernel_rfl) (fun _ _ _ h => h) (Or.inl ⟨by rfl, ?yv3⟩) (Below.refl _ _) ?rv3
        case yv3 => (intro w hSw; go_simp; try with_reducible rfl)
        try simp only [Act.put, List.setIfInBounds_toArray, List.set_cons_zero, List.set_cons_succ]
        refine wpAnyH_take (i := 3) (oi := { dst := some 24, op := Op.load 68 (Operand.tmp 23), type := 68, pos := "block.go:134", after := #[{ on := 2, ground := Ground.data }], guard := none }) (v := ?vv4) rfl (by kernel_rfl) (by kernel_rfl) (by kernel_rfl) (fun _ _ _ h => h) (Or.inl ⟨by rfl, ?yv4⟩) (Below.refl _ _) ?rv4
        case yv4 => (intro w hSw; obtain ⟨t0, t1⟩ := FT.out w hSw; go_simp; try with_reducible rfl)
        try simp only [Act.put, List.setIfInBounds_toArray, List.set_cons_zero, List.set_cons_succ]
        refine wpAnyH_take (i := 4) (oi := { dst := some 25, op := Op.fieldAddr 57 (Operand.tmp 4) 0, type := 0, pos := "block.go:134", after := #[], guard := none }) (v := ?vv5) rfl (by kernel_rfl) (by kernel_rfl) (by kernel_rfl) (fun _ _ _ h => h) (Or.inl ⟨by rfl, ?yv5⟩) (Below.refl _ _) ?rv5
        case yv5 => (intro w hSw; go_simp; try with_reducible rfl)
        try simp only [Act.put, List.setIfInBounds_toArray, List.set_cons_zero, List.set_cons_succ]
        refine wpAnyH_take (i := 5) (oi := { dst := some 26, op := Op.load 53 (Operand.tmp 25), type := 53, pos := "block.go:134", after := #[{ on := 4, ground := Ground.data }], guard := none }) (v := ?vv6) rfl (by kernel_rfl) (by kernel_rfl) (by kernel_rfl) (fun _ _ _ h => h) (Or.inl ⟨by rfl, ?yv6⟩) (Below.refl _ _) ?rv6
        case yv6 => (intro w hSw; obtain ⟨t0, t1⟩ := FT.out w hSw; go_simp; try with_reducible rfl)
        try simp only [Act.put, List.setIfInBounds_toArray, List.set_cons_zero, List.set_cons_succ]
        refine wpAnyH_take (i := 6) (oi := { dst := some 27, op := Op.lookup 68 (Operand.tmp 24) (Operand.tmp 26) false, type := 99, pos := "block.go:134", after := #[{ on := 3, ground := Ground.data }, { on := 5, ground := Ground.data }], guard := none }) (v := .map (some ib)) rfl (by kernel_rfl) (by kernel_rfl) (by kernel_rfl) (fun _ _ _ h => h) (yields_look (by rfl) (.tmp 24) (.tmp 26) false rfl (.map (some m)) (.int .u32 y.k) (.map (some ib)) rfl rfl FL.out) (Below.refl _ _) ?_
        try simp only [Act.put, List.setIfInBounds_toArray, List.set_cons_zero, List.set_cons_succ]
        refine wpAnyH_take (i := 7) (oi := { dst := some 6, op := Op.assign (Operand.tmp 27), type := 99, pos := "block.go:134", after := #[{ on := 6, ground := Ground.data }, { on := 0, ground := Ground.phase }, { on := 1, ground := Ground.phase }, { on := 2, ground := Ground.phase }, { on := 3, ground := Ground.phase }, { on := 4, ground := Ground.phase }, { on := 5, ground := Ground.phase }, { on := 6, ground := Ground.phase }], guard := none }) (v := ?vv8) rfl (by kernel_rfl) (by kernel_rfl) (by kernel_rfl) (fun _ _ _ h => h) (Or.inl ⟨by rfl, ?yv8⟩) (Below.refl _ _) ?rv8
        case yv8 => (intro w hSw; go_simp; try with_reducible rfl)
        try simp only [Act.put, List.setIfInBounds_toArray, List.set_cons_zero, List.set_cons_succ]
        refine wpAnyH_done (by kernel_rfl) ?_ _
        have RN : Hid (u0.rangeAt w.heap.size 1 (y.s.map (Value.int .u8))) := FR.out _ (Below.refl _ _)
        have hI := FI.out _ (Below.refl _ _)
        have Z : Hid (∀ ob u', u' (.agg (y.s.map (Value.int .u8)).toArray) = some (.int .i64 at') → (∀ r, r ≠ .agg (y.s.map (Value.int .u8)).toArray → u' r = u r) → MP Tryd.prog 48 (ChangeMaps.setBlock u0 ib ob) ib ((n + 1) + 1) u' → IX (ChangeMaps.setBlock u0 ib ob) B g m z N (l ++ [y]) ∧ Below B w (ChangeMaps.setBlock u0 ib ob)) := FK.out _ (Below.refl _ _)
        clear FT FL FI FR FA
        go_wp2_with (refine wpList_load_mid rfl 48 _ rfl w.heap.size 1 rfl (y.s.map (Value.int .u8)) _ RN.out Tryd.underlying48 rfl (infoHl _ HSL.out) (Hid.out ?_))
        unfold Hid
        have M : Hid (MP Tryd.prog 48 u0 ib (n + 1) u) := FM.out _ (Below.refl _ _)
        clear FM FK
        go_wp2_with (refine wpList_load_mid rfl 48 _ rfl w.heap.size 1 rfl (y.s.map (Value.int .u8)) _ RN.out Tryd.underlying48 rfl (infoHl _ HSL.out) (Hid.out ?_))
        unfold Hid
        go_wp2_with (at_mapUpdate; refine wpList_mput rfl _ _ _ rfl lawH Tryd.underlying99 rfl M.out (.agg (y.s.map (Value.int .u8)).toArray) (.int .i64 at') rfl rfl (keyH y.s HSL.out HSB.out) HUN.out (Hid.out ?_))
        unfold Hid
        intro ob u' c1 c2 c3
        have ZZ := Z.out ob u' c1 c2 c3
        have HZZ : Hid (IX (ChangeMaps.setBlock u0 ib ob) B g m z N (l ++ [y]) ∧ Below B w (ChangeMaps.setBlock u0 ib ob)) := ZZ
        clear ZZ c1 c2 c3 M
        go_wp2
        go_end0
        exact ⟨rfl, HZZ.out⟩
      exact AllReadyH.nil
    exact AllReadyH.nil
end Go.Proofs.YtlhmpcmlpfffoaaDoor
