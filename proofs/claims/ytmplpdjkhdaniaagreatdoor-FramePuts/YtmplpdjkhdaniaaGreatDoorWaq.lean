/-
  The names of the families side by side; texts in rows of the call's own; a number laid, a number read.
  The document's May, Same, Count, Has.
  The document's Remove.
-/
import Derived.Test.YtmplpdjkhdaniaaGreatDoorWai
import Derived.Test.YtmplpdjkhdaniaaGreatDoorWah
import Derived.Test.YtmplpdjkhdaniaaGreatDoorWap
namespace Go.Proofs.YtmplpdjkhdaniaaGreatDoor
open Go.RowKit
set_option maxRecDepth 100000

theorem fsl {w : World} {v : Value} {xs : List Int} (h : Sl w v xs) : Fi.Sl w v xs := h
theorem slf {w : World} {v : Value} {xs : List Int} (h : Fi.Sl w v xs) : Sl w v xs := h
/-- Bytes in a row of the call's own. -/
def Ow (w : World) (B : Nat) (v : Value) (X : List Int) : Prop := w.ownsRow B 5 1 v X.length (X.map (Value.int .u8)) ∧ ∀ k, 0 ≤ X.getD k 0 ∧ X.getD k 0 < 256
theorem Ow.sl {w : World} {B : Nat} {v : Value} {X : List Int} (h : Ow w B v X) : Sl w v X := sl_owned h.1 h.2
theorem Ow.below {w w' : World} {B : Nat} {v : Value} {X : List Int} (h : Ow w B v X) (hb : Below w.heap.size w w') : Ow w' B v X := ⟨own_below h.1 hb, h.2⟩
theorem Ow.mono {w : World} {B B' : Nat} {v : Value} {X : List Int} (h : Ow w B v X) (hb : B' ≤ B) : Ow w B' v X := ⟨own_mono h.1 hb, h.2⟩
theorem Ow.shape {w : World} {B : Nat} {v : Value} {X : List Int} (h : Ow w B v X) : ∃ a c, v = .slice a X.length c := own_shape h.1
/-- A list of texts. -/
def LP (w : World) (B : Nat) (v : Value) (ZZ : List (List Int)) : Prop :=
  ∃ V : List Value, w.ownsRow B 34 1 v ZZ.length V ∧ ∀ i, i < ZZ.length → ∃ u, V[i]? = some u ∧ Ow w B u (ZZ.getD i [])
theorem LP.below {w w' : World} {B : Nat} {v : Value} {ZZ : List (List Int)} (h : LP w B v ZZ) (hb : Below w.heap.size w w') : LP w' B v ZZ := by
  obtain ⟨V, h1, h2⟩ := h
  refine ⟨V, own_below h1 hb, fun i hi => ?_⟩
  obtain ⟨u, h3, h4⟩ := h2 i hi
  exact ⟨u, h3, h4.below hb⟩
theorem LP.parts {w : World} {B : Nat} {v : Value} {ZZ : List (List Int)} (h : LP w B v ZZ) (hm : ZZ.length ≤ 100000) : ∃ p c, v = .slice p ZZ.length c ∧ Fi.Parts w p ZZ := by
  obtain ⟨V, ho, h⟩ := h
  have ho' := ho
  rcases ho.2 with ⟨rfl, h0⟩ | ⟨g, cap, cur, rfl, _⟩
  · exact ⟨none, 0, by rw [h0], by omega, .inl (List.length_eq_zero_iff.1 h0)⟩
  · refine ⟨_, cap, rfl, by omega, .inr ⟨g, 0, rfl, fun i hi => ?_⟩⟩
    obtain ⟨u, hu, sl⟩ := h i hi
    refine ⟨u, ?_, fsl sl.sl⟩
    have := ho'.cells (g := g) rfl i u hu
    rwa [Addr.add_lit] at this
theorem LP.one {w : World} {B : Nat} {u : Value} {X : List Int} (h : Ow w B u X) (hB : B ≤ w.heap.size) : LP (w.alloc (.cells #[u] 34)) B (.slice (some ⟨w.heap.size, 0, none⟩) 1 1) [X] := by
  refine ⟨[u], ⟨rfl, .inr ⟨w.heap.size, 1, #[u], rfl, hB, heap_alloc_new _ _, Nat.le_refl _, by unfold maxLen; omega, rfl, rfl⟩⟩, fun i hi => ?_⟩
  obtain rfl : i = 0 := by simpa using hi
  exact ⟨u, rfl, h.below (al_below _ _)⟩
theorem infoB : (Tryz.prog.info? 34).map (fun i => (i.zero, i.size, i.bytes)) = some (some (.slice none 0 0), 1, 24) := by kernel_rfl
theorem parts_bytes {w : World} {p : Option Addr} {ZZ : List (List Int)} (h : Fi.Parts w p ZZ) : ∀ i, 0 ≤ ZZ.flatten.getD i 0 ∧ ZZ.flatten.getD i 0 < 256 := by
  refine bytes_flat ZZ fun X hX => ?_
  obtain ⟨i, hi, rfl⟩ := List.getElem_of_mem hX
  rcases h.2 with h | ⟨b, off, e, h⟩
  · subst h; simp at hi
  · obtain ⟨v, _, s⟩ := h i hi
    have := (slf s).bytes
    simpa [List.getD, List.getElem?_eq_getElem hi] using this
theorem fjoin_any (p : Option Addr) (kc : Nat) (ZZ : List (List Int)) (w : World) (hP : Fi.Parts w p ZZ) (hbig : ZZ.flatten.length ≤ 200000000000000) :
    Calls Tryz.prog 48 #[.slice p ZZ.length kc] w fun r w' => ∃ v, r = .returned v ∧ Ow w' w.heap.size v ZZ.flatten ∧ Below w.heap.size w w' :=
  (Fi.join_any p kc ZZ w hP hbig).mono fun _ _ ⟨v, e1, o, b⟩ => ⟨v, e1, ⟨o, parts_bytes hP⟩, b⟩
set_option maxHeartbeats 1000000 in
theorem fnum_own (n : Int) (w : World) (hw : Fi.Wid w) :
    Calls Tryz.prog 44 #[.int .i64 n] w fun r w' => ∃ v, r = .returned v ∧ Ow w' w.heap.size v (Fi.numB n) ∧ Below w.heap.size w w' := by
  by_cases h0 : Fi.lenOf n = 0
  · have hn : Fi.numB n = [] := by unfold Fi.numB; rw [if_pos h0]
    rw [hn]
    have c := Fi.put_no n w hw h0
    clear hn h0
    go_enter Tryz.func44, Tryz.ntmps44
    go_wp2_with (go_at_call 66; refine c.mono ?_; rintro e w' ⟨rfl, rfl⟩)
    go_ret
    exact ⟨_, rfl, ⟨World.ownsRow_nil _ _ _ _, fun k => by simp⟩, Below.refl _ _⟩
  · obtain ⟨W, hW, hW0, hI, h1, h2, hn⟩ := Fi.pos_lim n h0
    have c := Fi.put_ok n W w hw hW hW0
    have hl := Fi.pb_len n W hI
    have hW8 : W ≤ 8 := by rcases hI with rfl | rfl | rfl | rfl <;> omega
    have HS : Hid (Ow (w.alloc (.cells (Fi.pbA n W) 5)) w.heap.size (.slice (some ⟨w.heap.size, 0, none⟩) W W) (Fi.numB n)) := by
      unfold Hid
      rw [hn]
      refine ⟨?_, Fi.pb_bytes n W hI h1 h2⟩
      rw [hl]
      refine ⟨by simp [hl], .inr ⟨w.heap.size, W, Fi.pbA n W, rfl, Nat.le_refl _, heap_alloc_new _ _, Nat.le_refl _, by unfold maxLen; omega, by unfold Fi.pbA; simp [hl], by unfold Fi.pbA; simp; exact List.take_of_length_le (by simp [hl])⟩⟩
    clear hn hl h0 hW hW0
    go_enter Tryz.func44, Tryz.ntmps44
    go_wp2_with (go_at_call 66; refine c.mono ?_; rintro e w' ⟨rfl, rfl⟩)
    go_ret
    exact ⟨_, rfl, HS.out, (Below.refl _ _).alloc (Nat.le_refl _) _⟩
theorem rdNum (g s : Nat) (xs : List Int) (e m : Int) (w : World) (hw : Fi.Wid w) (h : Fi.Rd w g s xs e) :
    Calls Tryz.prog 53 #[.pointer (some ⟨g, 0, none⟩), .int .i64 m] w fun r w' => r = .returned (.int .i64 (rN xs e m).1) ∧ Fi.Rd w' g s (rN xs e m).2.1 (rN xs e m).2.2 ∧ Fi.Off g w w' := by
  unfold rN
  split
  · rename_i he
    subst he
    exact Fi.num_any g s xs m w hw h
  · rename_i he
    refine (Fi.num_stop g s xs e m w h he).mono ?_
    rintro r w' ⟨rfl, rfl⟩
    exact ⟨rfl, h, Fi.Off.refl _ _⟩
theorem Rd.setRow {w : World} {g s k : Nat} {xs : List Int} {e : Int} (h : Fi.Rd w g s xs e) (hg : k ≠ g) (hs : k ≠ s) (cs : Array Value) : Fi.Rd (w.setRow k cs) g s xs e := by
  have hb : Fi.Off k w (w.setRow k cs) := ⟨rfl, rfl, rfl, by simp, fun j hj => setRow_other w k j cs hj⟩
  exact h.off hb (fun e => hg e.symm) (fun e => hs e.symm)
theorem Rd.lt {w : World} {g s : Nat} {xs : List Int} {e : Int} (h : Fi.Rd w g s xs e) : g < w.heap.size := by
  obtain ⟨a, cap, c0, _⟩ := h
  exact World.block_lt_of_cell? _ _ c0
end Go.Proofs.YtmplpdjkhdaniaaGreatDoor
namespace Go.Proofs.YtmplpdjkhdaniaaGreatDoor
open Go.RowKit Go.Shelf
set_option maxRecDepth 100000

set_option maxHeartbeats 1000000 in
theorem rmay_any (f t : Int) (w : World) : Calls Tryz.prog 59 #[.int .i64 f, .int .i64 t] w fun e w' => e = .returned (.bool (may f t)) ∧ w' = w := by
  have HM : Hid (may f t = (decide (0 ≤ f) && decide (f ≤ t) && decide (t ≤ 1099511627776))) := rfl
  generalize may f t = R at *
  by_cases h1 : 0 ≤ f
  · have d1 : decide (0 ≤ f) = true := by simpa using h1
    by_cases h2 : f ≤ t
    · have d2 : decide (f ≤ t) = true := by simpa using h2
      by_cases h3 : t ≤ 1099511627776
      · have d3 : decide (t ≤ 1099511627776) = true := by simpa using h3
        have HR : Hid (R = true) := by unfold Hid; rw [HM.out, d1, d2, d3]; rfl
        clear HM
        go_enter Tryz.func59, Tryz.ntmps59
        go_wp2
        go_ret
        exact ⟨by rw [HR.out]; rfl, rfl⟩
      · have d3 : decide (t ≤ 1099511627776) = false := by simpa using h3
        have HR : Hid (R = false) := by unfold Hid; rw [HM.out, d3, Bool.and_false]
        clear HM
        go_enter Tryz.func59, Tryz.ntmps59
        go_wp2
        go_ret
        exact ⟨by rw [HR.out]; rfl, rfl⟩
    · have d2 : decide (f ≤ t) = false := by simpa using h2
      have HR : Hid (R = false) := by unfold Hid; rw [HM.out, d2, Bool.and_false, Bool.false_and]
      clear HM
      go_enter Tryz.func59, Tryz.ntmps59
      go_wp2
      go_ret
      exact ⟨by rw [HR.out]; rfl, rfl⟩
  · have d1 : decide (0 ≤ f) = false := by simpa using h1
    have HR : Hid (R = false) := by unfold Hid; rw [HM.out, d1]; rfl
    clear HM
    go_enter Tryz.func59, Tryz.ntmps59
    go_wp2
    go_ret
    exact ⟨by rw [HR.out]; rfl, rfl⟩
theorem part_one {P : Program} {t : TypeId} {cs : Array Value} {o : Nat} {v : Value} {w : World} (h : (isAgg t).run P w = .ok false w) (hc : cs[o]? = some v) : (part t cs o).run P w = .ok v w := by
  simp [part, Sem.run_bind, h, hc]
theorem eqf_cons {P : Program} {d : Nat} {xs ys : Array Value} {f : Field} {fs : List Field} {u v : Value} {r : Bool} {w : World} {t : TypeId} {o : Nat} (hn : f.name ≠ "_") (ht : f.type = t) (ho : f.offset = o) (ha : (part t xs o).run P w = .ok u w) (hb : (part t ys o).run P w = .ok v w) (he : (Op.equalIn d t u v).run P w = .ok r w) :
    (Op.eqFields d xs ys (f :: fs)).run P w = if r = true then (Op.eqFields d xs ys fs).run P w else .ok false w := by
  subst ht ho
  rw [Op.eqFields, if_pos hn]
  simp only [Sem.run_bind, ha, hb, he, Result.andThen_ok]
  cases r
  · simp
  · simp
theorem bed {α : Type} [BEq α] [LawfulBEq α] [DecidableEq α] (a b : α) : (a == b) = decide (a = b) := by by_cases h : a = b <;> simp [h]
theorem eqf_nil {P : Program} {d : Nat} {xs ys : Array Value} {w : World} : (Op.eqFields d xs ys []).run P w = .ok true w := by
  rw [Op.eqFields, Sem.run_pure]
theorem two {w : World} {a b : Bool} : (if a = true then (if b = true then Result.ok true w else .ok false w) else (.ok false w : Result Bool)) = .ok (a && b) w := by
  cases a <;> cases b <;> rfl
theorem fieldsS : (Tryz.prog.fieldsOf 89).toList.map (fun f => (decide (f.name ≠ "_"), f.type, f.offset)) = [(true, 3, 0), (true, 3, 1)] := by kernel_rfl
theorem structS : Tryz.prog.underlying 89 = some (.struct (Tryz.prog.fieldsOf 89)) := by kernel_rfl
theorem standsS : Tryz.prog.stoodInHeld 89 = false := by kernel_rfl
theorem guardS : Tryz.prog.eqGuardType Tryz.prog.depth 89 = false := by kernel_rfl
def spv (x : Sp) : Value := .agg #[.int .i64 x.1, .int .i64 x.2]
def sSp (x y : Sp) : Bool := decide (x.1 = y.1) && decide (x.2 = y.2)
theorem sSp_iff (x y : Sp) : sSp x y = true ↔ x = y := by
  obtain ⟨a, b⟩ := x
  obtain ⟨c, d⟩ := y
  simp [sSp]
theorem eq_sp (x y : Sp) (w : World) : (Op.equalIn 10000 89 (spv x) (spv y)).run Tryz.prog w = .ok (sSp x y) w := by
  unfold spv
  rw [run_equalIn_struct w 9999 89 _ _ structS standsS]
  have hf := fieldsS
  generalize (Tryz.prog.fieldsOf 89).toList = fs at hf
  have hlen : fs.length = 2 := by have := congrArg List.length hf; simpa using this
  match fs, hlen, hf with
  | [f0, f1], _, hf =>
    simp only [List.map_cons, List.map_nil, List.cons.injEq, Prod.mk.injEq, and_true, decide_eq_true_eq] at hf
    obtain ⟨⟨n0, t0, o0⟩, n3, t3, o3⟩ := hf
    have aU : (isAgg 3).run Tryz.prog w = .ok false w := by simp [isAgg, run_underlying Tryz.underlying3]
    have p0 : ∀ z : Sp, (part 3 #[.int .i64 z.1, .int .i64 z.2] 0).run Tryz.prog w = .ok (.int .i64 z.1) w := fun z => part_one aU rfl
    have p1 : ∀ z : Sp, (part 3 #[.int .i64 z.1, .int .i64 z.2] 1).run Tryz.prog w = .ok (.int .i64 z.2) w := fun z => part_one aU rfl
    have e1 : (Op.equalIn 9999 3 (.int .i64 x.1) (.int .i64 y.1)).run Tryz.prog w = .ok (x.1 == y.1) w := run_equalIn_int w 9998 3 .i64 .i64 _ _ Tryz.underlying3
    have e2 : (Op.equalIn 9999 3 (.int .i64 x.2) (.int .i64 y.2)).run Tryz.prog w = .ok (x.2 == y.2) w := run_equalIn_int w 9998 3 .i64 .i64 _ _ Tryz.underlying3
    rw [eqf_cons n0 t0 o0 (p0 x) (p0 y) e1, eqf_cons n3 t3 o3 (p1 x) (p1 y) e2, eqf_nil, two]
    unfold sSp
    rw [bed x.1, bed x.2]
theorem neq_sp (x y : Sp) (w : World) : (binOp .neq 89 (spv x) (spv y)).run Tryz.prog w = .ok (.bool (!sSp x y)) w := by
  have hE := eq_sp x y w
  unfold spv at hE ⊢
  simp only [run_neq_struct, hE, Result.andThen_ok]
theorem eqg_sp (o : BinOp) (x y : Sp) (a b : Operand) (w : World) : (eqGuard o 89 a b (spv x) (spv y)).run Tryz.prog w = .ok () w := run_eqGuard_agg _ _ _ _ _ _ _ guardS
set_option maxHeartbeats 2000000 in
theorem rsame_any (w : World) (u v : Value) (l m : List Sp) (hu : SSp w u l) (hv : SSp w v m) (hl : l.length ≤ 100000) :
    Calls Tryz.prog 43 #[u, v] w fun e w' => e = .returned (.bool (decide (l = m))) ∧ Below w.heap.size w w' := by
  obtain ⟨a, c, rfl, h2, h3, h4⟩ := hu.shape
  obtain ⟨a', c', rfl, h2', h3', h4'⟩ := hv.shape
  by_cases hnk : l.length = m.length
  · have HAT : Hid (∀ j, j < l.length → ∀ W, Below w.heap.size w W → ∃ b off b' off', a = some ⟨b, off, none⟩ ∧ a' = some ⟨b', off', none⟩ ∧ W.cell? ⟨b, off + j * 2, none⟩ = some (.int .i64 (atS l j).1) ∧ W.cell? ⟨b, off + j * 2 + 1, none⟩ = some (.int .i64 (atS l j).2) ∧ W.cell? ⟨b', off' + j * 2, none⟩ = some (.int .i64 (atS m j).1) ∧ W.cell? ⟨b', off' + j * 2 + 1, none⟩ = some (.int .i64 (atS m j).2)) := fun j hj W hb => by
      obtain ⟨b, off, e, q⟩ := (hu.kept hb).at j hj
      obtain ⟨b', off', e', q'⟩ := (hv.kept hb).at j (by omega)
      exact ⟨b, off, b', off', e, e', (spC q).1, (spC q).2, (spC q').1, (spC q').2⟩
    have HYES : Hid ((∀ k, k < l.length → atS l k = atS m k) → decide (l = m) = true) := fun h => by
      rw [decide_eq_true_eq]
      refine List.ext_getElem hnk fun k h1 h2 => ?_
      have := h k h1
      rwa [atS_eq l k h1, atS_eq m k h2] at this
    have HNO : Hid (∀ k, k < l.length → atS l k ≠ atS m k → decide (l = m) = false) := fun k hk h => by
      rw [decide_eq_false_iff_not]
      exact fun e => h (by rw [e])
    obtain ⟨r, hr⟩ : ∃ r, r = decide (l = m) := ⟨_, rfl⟩
    rw [← hr] at HYES HNO ⊢
    rw [← hnk]
    clear hu hv hr hnk h2 h3 h4 h2' h3' h4'
    obtain ⟨n, hn⟩ : ∃ n, n = l.length := ⟨_, rfl⟩
    rw [← hn] at HAT HYES HNO hl ⊢
    clear hn
    have t0 : ((n : Int) != (n : Int)) = false := by simp
    go_enter Tryz.func43, Tryz.ntmps43
    go_wp2
    go_loopw [5] (fun u wr => ∃ j : Nat, j ≤ n ∧ u = .int .i64 j ∧ (∀ k, k < j → atS l k = atS m k) ∧ Below w.heap.size w wr) (fun u _ => n - (intOf u).toNat)
    case atStart => exact ⟨0, by omega, rfl, fun k hk => by omega, Below.refl _ _⟩
    case round =>
      obtain ⟨j, hj, rfl, ok, bel⟩ := hrel
      have OK : Hid (∀ k, k < j → atS l k = atS m k) := ok
      have HB : Hid (Below w.heap.size w wr) := bel
      clear ok bel
      by_cases hjn : j < n
      · have lt2 : (j : Int) < (n : Int) := by omega
        obtain ⟨b, off, b', off', rfl, rfl, k1, k2, k3, k4⟩ := HAT.out j hjn wr HB.out
        have HNX : Hid (atS l j = atS m j → ∀ k, k < j + 1 → atS l k = atS m k) := fun h k hk => by
          rcases Nat.lt_or_ge k j with h' | h'
          · exact OK.out k h'
          · rw [show k = j by omega]; exact h
        have HN : Hid (atS l j ≠ atS m j → r = false) := fun h => HNO.out j hjn h
        have E1 := neq_sp (atS l j) (atS m j)
        have E2 := fun (a b : Operand) => eqg_sp .neq (atS l j) (atS m j) a b
        have HE : Hid (sSp (atS l j) (atS m j) = true ↔ atS l j = atS m j) := sSp_iff _ _
        unfold spv at E1 E2
        generalize atS l j = x at *
        generalize atS m j = y at *
        obtain ⟨B, hB⟩ : ∃ B, B = sSp x y := ⟨_, rfl⟩
        rw [← hB] at E1 HE
        clear hB
        cases B with
        | true =>
          have hxy := HE.out.1 rfl
          have NX := HNX.out hxy
          have HN1 : Hid (∀ k, k < j + 1 → atS l k = atS m k) := NX
          clear HNX HN HE hxy NX
          rw [Bool.not_true] at E1
          go_wp2_with fail
          go_quiet (fail)
          have BD : Hid (Below w.heap.size w (wr.drewN nq)) := HB.out.trans ((drn wr nq).mono HB.out.size)
          generalize wr.drewN nq = DW at *
          go_wp2
          go_roundw
          case rel => exact ⟨j + 1, by omega, by go_num, HN1.out, BD.out⟩
          case measure => simp [intOf]; omega
        | false =>
          have hxy : x ≠ y := fun e => by have := HE.out.2 e; cases this
          have HR : Hid (r = false) := HN.out hxy
          clear HNX HN HE hxy
          rw [Bool.not_false] at E1
          go_wp2_with fail
          go_quiet (fail)
          have BD : Hid (Below w.heap.size w (wr.drewN nq)) := HB.out.trans ((drn wr nq).mono HB.out.size)
          generalize wr.drewN nq = DW at *
          go_wp2
          go_ret
          exact ⟨by rw [HR.out]; rfl, BD.out⟩
      · obtain rfl : j = n := by omega
        have HR : Hid (r = true) := HYES.out OK.out
        have lt2 : ¬ (j : Int) < (j : Int) := by omega
        clear HYES HNO OK HAT
        go_wp2
        go_ret
        exact ⟨by rw [HR.out]; rfl, HB.out⟩
  · have e : decide (l = m) = false := by rw [decide_eq_false_iff_not]; exact fun e => hnk (by rw [e])
    rw [e]
    have HB : Hid (Below w.heap.size w w) := Below.refl _ _
    have t0 : ((l.length : Int) != (m.length : Int)) = true := by simp; omega
    clear hu hv e hnk
    generalize l.length = n at *
    generalize m.length = k at *
    go_enter Tryz.func43, Tryz.ntmps43
    go_wp2
    go_ret
    exact ⟨rfl, HB.out⟩
end Go.Proofs.YtmplpdjkhdaniaaGreatDoor
namespace Go.Proofs.YtmplpdjkhdaniaaGreatDoor
open Go.RowKit Go.Shelf
set_option maxRecDepth 100000

/-- A span laid behind a row of the call's own. -/
theorem wpList_append_sp {w : World} {ops : Array Oper} {rest : List Oper} {o : Oper} {a : Act} {Q : Exit → Act → World → Prop} (hgd : o.guard = none) (s x : Operand)
    (ho : o.op = .call { callee := .builtin .append, args := #[s, x], argTypes := #[23, 23] }) (B : Nat) (v : Value) (l : List Sp) (hs : a.eval s = v) (hown : RSp w B v l) (g : Nat) (y : Sp) (hx : a.eval x = .slice (some ⟨g, 0, none⟩) 1 1) (hc : w.rangeAt g 0 (spc y)) (hbig : l.length ≤ 100000) (hbase : B ≤ w.heap.size)
    (h : ∀ v' w', RSp w' B v' (l ++ [y]) → w.grownBy w' v.ownBlock → wpList Tryz.prog ops Q rest (a.put o.dst v') w') : wpList Tryz.prog ops Q (o :: rest) a w := by
  refine wpList_append_it hgd s x 23 89 2 16 (.agg #[.int .i64 0, .int .i64 0]) ho Tryz.underlying23 infoN rfl (by decide) (by decide) B v (l.map spc) hs hown g (spc y) 1 rfl (by simp [spc, Value.oneCell']) hx hc (by rw [List.length_map]; exact hbig) hbase ?_
  intro v' w' r gr
  refine h v' w' ?_ gr
  unfold RSp
  rw [List.map_append]
  exact r
theorem sp_new (w : World) (x : Sp) : (w.alloc (.cells #[.int .i64 x.1, .int .i64 x.2] 89)).rangeAt w.heap.size 0 (spc x) := blk_range (cs := spc x) (heap_alloc_new _ _)
theorem take_snoc {l : List Sp} {j : Nat} (h : j < l.length) : l.take (j + 1) = l.take j ++ [atS l j] := by rw [atS_eq l j h, List.take_succ_eq_append_getElem h]
end Go.Proofs.YtmplpdjkhdaniaaGreatDoor
