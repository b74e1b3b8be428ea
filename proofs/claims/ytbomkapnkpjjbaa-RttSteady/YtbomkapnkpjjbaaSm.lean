/-
  What Sample answers.
-/
import Derived.Test.YtbomkapnkpjjbaaCk
namespace Go.Proofs.Ytbomkapnkpjjbaa
open Go.RowKit

theorem wrS {x : Int} (h0 : -9223372036854775808 ≤ x) (h1 : x ≤ 9223372036854775807) : IntKind.i64.wrap x = x := by rw [IntKind.wrap_i64]; omega
theorem SB.off {w : World} {g k : Nat} {t : TypeId} {x : Sta} (h : SB w g t x) (hk : g ≠ k) (cs : Array Value) : SB (w.setRow k cs) g t x := (setRow_other w k g cs hk).trans h
theorem SB.set {w : World} {g : Nat} {t : TypeId} {x : Sta} (h : SB w g t x) (y : Sta) : SB (w.setRow g y.c) g t y := setRow_heap w g _ _ t _ h
theorem infoS : (Try.prog.info? 24).map (·.size) = some 5 := by kernel_rfl
def adj (a d q : Int) : Int := if a - d < q then a else a - d
def apt (a b : Int) : Int := if a ≤ b then b - a else a - b
/-- What a sample makes of a state. -/
def smp (x : Sta) (a d : Int) : Sta :=
  if tm a = false ∨ tm d = false then x
  else if kn x = false then ⟨true, a, a, a, a / 2⟩
  else ⟨true, a, min x.m a, (7 * x.s + adj a d (min x.m a)) / 8, (3 * x.v + apt x.s (adj a d (min x.m a))) / 4⟩
theorem adj_any (a d q : Int) (w : World) (ha : 0 ≤ a ∧ a ≤ 1099511627776) (hd : 0 ≤ d ∧ d ≤ 1099511627776) : Calls Try.prog 19 #[.int .i64 a, .int .i64 d, .int .i64 q] w fun e w' => e = .returned (.int .i64 (adj a d q)) ∧ w' = w := by
  have y := wrS (x := a - d) (by omega) (by omega)
  obtain ⟨D, hD⟩ : ∃ D, D = a - d := ⟨_, rfl⟩
  unfold adj
  rw [← hD] at y ⊢
  by_cases hl : D < q
  · rw [if_pos hl]
    rw [hD] at y hl
    go_enter Try.func19, Try.ntmps19
    go_wp2
    go_ret
    exact ⟨rfl, rfl⟩
  · rw [if_neg hl]
    rw [hD] at y hl ⊢
    go_enter Try.func19, Try.ntmps19
    go_wp2
    go_ret
    exact ⟨rfl, rfl⟩
theorem apart_any (a b : Int) (w : World) (ha : 0 ≤ a ∧ a ≤ 1099511627776) (hb : 0 ≤ b ∧ b ≤ 1099511627776) : Calls Try.prog 20 #[.int .i64 a, .int .i64 b] w fun e w' => e = .returned (.int .i64 (apt a b)) ∧ w' = w := by
  have y1 := wrS (x := a - b) (by omega) (by omega)
  have y2 := wrS (x := b - a) (by omega) (by omega)
  unfold apt
  by_cases hl : a ≤ b
  · rw [if_pos hl]
    have e1 : max a b = b := by omega
    have e2 : min a b = a := by omega
    go_enter Try.func20, Try.ntmps20
    go_wp2
    go_ret
    exact ⟨rfl, rfl⟩
  · rw [if_neg hl]
    have e1 : max a b = a := by omega
    have e2 : min a b = b := by omega
    go_enter Try.func20, Try.ntmps20
    go_wp2
    go_ret
    exact ⟨rfl, rfl⟩
theorem kn_tm {h : Bool} {l m s v : Int} (e : kn ⟨h, l, m, s, v⟩ = true) : h = true ∧ (0 ≤ l ∧ l ≤ 1099511627776) ∧ (0 ≤ m ∧ m ≤ 1099511627776) ∧ (0 ≤ s ∧ s ≤ 1099511627776) ∧ (0 ≤ v ∧ v ≤ 1099511627776) ∧ m ≤ l := by
  unfold kn chk at e
  cases h
  · cases e
  · simp only [if_true, Bool.true_and, Bool.and_eq_true, tm_iff, decide_eq_true_eq] at e
    obtain ⟨⟨⟨⟨a, b⟩, c⟩, d⟩, f⟩ := e
    exact ⟨rfl, a, b, c, d, f⟩
theorem st5_one (h : Bool) (l m s v : Int) : (#[Value.bool h, .int .i64 l, .int .i64 m, .int .i64 s, .int .i64 v] : Array Value).all (·.oneCell') = true := by first | kernel_rfl | simp [Value.oneCell']
set_option maxHeartbeats 8000000 in
theorem sample_any (h : Bool) (l m s v a d : Int) (w : World) : Calls Try.prog 8 #[.agg #[.bool h, .int .i64 l, .int .i64 m, .int .i64 s, .int .i64 v], .int .i64 a, .int .i64 d] w fun e w' => e = .returned (.agg (smp ⟨h, l, m, s, v⟩ a d).c) ∧ Below w.heap.size w w' := by
  obtain ⟨W2, hW2⟩ : ∃ W2, W2 = (w.alloc (.cells #[.bool h, .int .i64 l, .int .i64 m, .int .i64 s, .int .i64 v] 24)).alloc (.cells #[.bool false, .int .i64 0, .int .i64 0, .int .i64 0, .int .i64 0] 24) := ⟨_, rfl⟩
  have b0 : Below w.heap.size w (w.alloc (.cells #[.bool h, .int .i64 l, .int .i64 m, .int .i64 s, .int .i64 v] 24)) := al_below _ _
  have z0 : (w.alloc (.cells #[.bool h, .int .i64 l, .int .i64 m, .int .i64 s, .int .i64 v] 24)).heap.size = w.heap.size + 1 := by simp
  have b2 : Below w.heap.size w W2 := by rw [hW2]; exact b0.trans ((al_below _ _).mono b0.size)
  have s2 : SB W2 w.heap.size 24 ⟨h, l, m, s, v⟩ := by rw [hW2]; exact SB.kept (heap_new _ _) (al_below _ _)
  have r2 : SB W2 (w.heap.size + 1) 24 Sta.z := by rw [hW2, ← z0]; exact heap_new _ _
  have HB : Hid (Below w.heap.size w W2) := b2
  have HS : Hid (SB W2 w.heap.size 24 ⟨h, l, m, s, v⟩) := s2
  have HR : Hid (SB W2 (w.heap.size + 1) 24 Sta.z) := r2
  clear b0 z0 b2 s2 r2
  by_cases ta' : tm a = false
  · have er : smp ⟨h, l, m, s, v⟩ a d = ⟨h, l, m, s, v⟩ := by unfold smp; rw [if_pos (.inl ta')]
    rw [er]
    clear er
    go_enter Try.func8, Try.ntmps8
    go_upto_region 1 with fail
    rw [← hW2]
    clear hW2
    go_wp2_with fail
    refine (isTime_any _ _).mono ?_
    rintro e w' ⟨rfl, rfl⟩
    go_wp2_with (first | refine wpList_load_row rfl 24 _ rfl w.heap.size rfl 24 #[.bool h, .int .i64 l, .int .i64 m, .int .i64 s, .int .i64 v] (0, 0) _ HS.out Try.underlying24 rfl infoS ?_ | refine wpList_store_row rfl 24 _ _ rfl (w.heap.size + 1) #[.bool h, .int .i64 l, .int .i64 m, .int .i64 s, .int .i64 v] rfl rfl 24 _ HR.out infoS rfl (st5_one _ _ _ _ _) (Hid.out ?_))
    unfold Hid
    go_wp2
    refine bodyPost_ret (v := .agg #[.bool h, .int .i64 l, .int .i64 m, .int .i64 s, .int .i64 v]) (results_cell_row rfl _ _ (w.heap.size + 1) 24 #[.bool h, .int .i64 l, .int .i64 m, .int .i64 s, .int .i64 v] (0, 0) _ rfl (setRow_heap _ _ _ _ _ _ HR.out) Try.underlying24 rfl infoS) rfl ?_
    exact ⟨rfl, below_setRow HB.out (Nat.le_succ _) _⟩
  have ta0 : tm a = true := by simpa using ta'
  by_cases td' : tm d = false
  · have er : smp ⟨h, l, m, s, v⟩ a d = ⟨h, l, m, s, v⟩ := by unfold smp; rw [if_pos (.inr td')]
    rw [er]
    clear er
    go_enter Try.func8, Try.ntmps8
    go_upto_region 1 with fail
    rw [← hW2]
    clear hW2
    go_wp2_with fail
    refine (isTime_any _ _).mono ?_
    rintro e w' ⟨rfl, rfl⟩
    go_wp2_with fail
    refine (isTime_any _ _).mono ?_
    rintro e w' ⟨rfl, rfl⟩
    go_wp2_with (first | refine wpList_load_row rfl 24 _ rfl w.heap.size rfl 24 #[.bool h, .int .i64 l, .int .i64 m, .int .i64 s, .int .i64 v] (0, 0) _ HS.out Try.underlying24 rfl infoS ?_ | refine wpList_store_row rfl 24 _ _ rfl (w.heap.size + 1) #[.bool h, .int .i64 l, .int .i64 m, .int .i64 s, .int .i64 v] rfl rfl 24 _ HR.out infoS rfl (st5_one _ _ _ _ _) (Hid.out ?_))
    unfold Hid
    go_wp2
    refine bodyPost_ret (v := .agg #[.bool h, .int .i64 l, .int .i64 m, .int .i64 s, .int .i64 v]) (results_cell_row rfl _ _ (w.heap.size + 1) 24 #[.bool h, .int .i64 l, .int .i64 m, .int .i64 s, .int .i64 v] (0, 0) _ rfl (setRow_heap _ _ _ _ _ _ HR.out) Try.underlying24 rfl infoS) rfl ?_
    exact ⟨rfl, below_setRow HB.out (Nat.le_succ _) _⟩
  have ta : tm a = true := ta0
  have td : tm d = true := by simpa using td'
  clear ta' td' ta0
  obtain ⟨a0, a1⟩ := tm_iff.1 ta
  obtain ⟨d0, d1⟩ := tm_iff.1 td
  by_cases tk' : kn ⟨h, l, m, s, v⟩ = false
  · have er : smp ⟨h, l, m, s, v⟩ a d = ⟨true, a, a, a, a / 2⟩ := by unfold smp; rw [if_neg (by simp [ta, td]), if_pos tk']
    rw [er]
    have q1 : Int.tdiv a 2 = a / 2 := Int.tdiv_eq_ediv_of_nonneg a0
    have q2 := wrS (x := a / 2) (by omega) (by omega)
    clear er
    go_enter Try.func8, Try.ntmps8
    go_upto_region 1 with fail
    rw [← hW2]
    clear hW2
    go_wp2_with fail
    refine (isTime_any _ _).mono ?_
    rintro e w' ⟨rfl, rfl⟩
    go_wp2_with fail
    refine (isTime_any _ _).mono ?_
    rintro e w' ⟨rfl, rfl⟩
    go_wp2_with (refine wpList_load_row rfl 24 _ rfl w.heap.size rfl 24 #[.bool h, .int .i64 l, .int .i64 m, .int .i64 s, .int .i64 v] (0, 0) _ HS.out Try.underlying24 rfl infoS ?_)
    refine (isKnown_any h l m s v _).mono ?_
    rintro e w3 ⟨rfl, b3⟩
    have HB3 : Hid (Below w.heap.size w w3) := HB.out.trans (b3.mono HB.out.size)
    have HS3 : Hid (SB w3 w.heap.size 24 ⟨h, l, m, s, v⟩) := HS.out.kept b3
    have HR3 : Hid (SB w3 (w.heap.size + 1) 24 Sta.z) := HR.out.kept b3
    clear b3 HB HS HR
    go_wp2_with (first | refine wpList_store_row rfl 24 _ _ rfl (w.heap.size + 1) #[.bool true, .int .i64 a, .int .i64 a, .int .i64 a, .int .i64 (a / 2)] rfl rfl 24 _ HR3.out infoS rfl (st5_one _ _ _ _ _) (Hid.out ?_))
    unfold Hid
    go_wp2
    refine bodyPost_ret (v := .agg #[.bool true, .int .i64 a, .int .i64 a, .int .i64 a, .int .i64 (a / 2)]) (results_cell_row rfl _ _ (w.heap.size + 1) 24 #[.bool true, .int .i64 a, .int .i64 a, .int .i64 a, .int .i64 (a / 2)] (0, 0) _ rfl (setRow_heap _ _ _ _ _ _ HR3.out) Try.underlying24 rfl infoS) rfl ?_
    exact ⟨rfl, below_setRow HB3.out (Nat.le_succ _) _⟩
  have tk : kn ⟨h, l, m, s, v⟩ = true := by simpa using tk'
  clear tk'
  obtain ⟨rfl, hl, hm, hs, hv, hml⟩ := kn_tm tk
  obtain ⟨q, hq⟩ : ∃ q, q = min m a := ⟨_, rfl⟩
  obtain ⟨b, hb⟩ : ∃ b, b = adj a d q := ⟨_, rfl⟩
  have hqb : 0 ≤ q ∧ q ≤ 1099511627776 := by omega
  have hbb : 0 ≤ b ∧ b ≤ 1099511627776 := by rw [hb]; unfold adj; split <;> omega
  obtain ⟨p, hp⟩ : ∃ p, p = apt s b := ⟨_, rfl⟩
  have hpb : 0 ≤ p ∧ p ≤ 1099511627776 := by rw [hp]; unfold apt; split <;> omega
  obtain ⟨S, hS⟩ : ∃ S, S = (7 * s + b) / 8 := ⟨_, rfl⟩
  obtain ⟨V, hV⟩ : ∃ V, V = (3 * v + p) / 4 := ⟨_, rfl⟩
  have er : smp ⟨true, l, m, s, v⟩ a d = ⟨true, a, q, S, V⟩ := by
    unfold smp
    rw [if_neg (by simp [ta, td]), if_neg (by rw [tk]; decide), hS, hV, hp, hb, hq]
  rw [er]
  have ca := fun W => adj_any a d q W ⟨a0, a1⟩ ⟨d0, d1⟩
  have cp := fun W => apart_any s b W hs hbb
  rw [← hb] at ca
  rw [← hp] at cp
  have k1 := wrS (x := 7 * s) (by omega) (by omega)
  have k2 := wrS (x := 7 * s + b) (by omega) (by omega)
  have k3 : Int.tdiv (7 * s + b) 8 = S := by rw [hS]; exact Int.tdiv_eq_ediv_of_nonneg (by omega)
  have k4 := wrS (x := S) (by omega) (by omega)
  have k5 := wrS (x := 3 * v) (by omega) (by omega)
  have k6 := wrS (x := 3 * v + p) (by omega) (by omega)
  have k7 : Int.tdiv (3 * v + p) 4 = V := by rw [hV]; exact Int.tdiv_eq_ediv_of_nonneg (by omega)
  have k8 := wrS (x := V) (by omega) (by omega)
  have HQ : Hid (min m a = q) := hq.symm
  clear hS hV hp hb hq er hpb hbb hqb hl hm hs hv hml a0 a1 d0 d1
  go_enter Try.func8, Try.ntmps8
  go_upto_region 1 with fail
  rw [← hW2]
  clear hW2
  go_wp2_with fail
  refine (isTime_any _ _).mono ?_
  rintro e w' ⟨rfl, rfl⟩
  go_wp2_with fail
  refine (isTime_any _ _).mono ?_
  rintro e w' ⟨rfl, rfl⟩
  go_wp2_with (refine wpList_load_row rfl 24 _ rfl w.heap.size rfl 24 #[.bool true, .int .i64 l, .int .i64 m, .int .i64 s, .int .i64 v] (0, 0) _ HS.out Try.underlying24 rfl infoS ?_)
  refine (isKnown_any true l m s v _).mono ?_
  rintro e w3 ⟨rfl, b3⟩
  have HB3 : Hid (Below w.heap.size w w3) := HB.out.trans (b3.mono HB.out.size)
  have HS3 : Hid (SB w3 w.heap.size 24 ⟨true, l, m, s, v⟩) := HS.out.kept b3
  have HR3 : Hid (SB w3 (w.heap.size + 1) 24 Sta.z) := HR.out.kept b3
  clear b3 HB HS HR
  obtain ⟨c0, c1, c2, c3, c4⟩ := HS3.out.sc
  have hq := HQ.out
  go_wp2_with fail
  refine (ca _).mono ?_
  rintro e w' ⟨rfl, rfl⟩
  clear c0 c1 c2 c3 c4 ca
  go_wp2_with fail
  refine wp_region_held_drew (S := fun x : World => Below w.heap.size w x ∧ SB x w.heap.size 24 ⟨true, l, m, s, v⟩ ∧ ∃ y : Sta, SB x (w.heap.size + 1) 24 y) (by kernel_rfl) (⟨Below.drew HB3.out, HS3.out, _, HR3.out⟩) (fun _ => ?_)
  refine wpAnyH_name (fun u0 hu0 => ?_)
  have su0 : (fun x : World => Below w.heap.size w x ∧ SB x w.heap.size 24 ⟨true, l, m, s, v⟩ ∧ ∃ y : Sta, SB x (w.heap.size + 1) 24 y) u0 := by rw [hu0.out]; exact (⟨Below.drew HB3.out, HS3.out, _, HR3.out⟩)
  refine wpAnyH_take (i := 0) (oi := { dst := some 37, op := Op.move (Operand.tmp 1), type := 3, pos := "rtt.go:34", after := #[], guard := none }) (v := ?vr1) rfl (by kernel_rfl) (by kernel_rfl) (by kernel_rfl) (fun _ _ _ h => h) (Or.inl ⟨by rfl, ?yr1⟩) su0 ?rr1
  case yr1 => (intro w hSw; go_simp; try with_reducible rfl)
  try simp only [Act.put, List.setIfInBounds_toArray, List.set_cons_zero, List.set_cons_succ]
  refine wpAnyH_take (i := 1) (oi := { dst := some 38, op := Op.move (Operand.tmp 7), type := 3, pos := "rtt.go:34", after := #[], guard := none }) (v := ?vr2) rfl (by kernel_rfl) (by kernel_rfl) (by kernel_rfl) (fun _ _ _ h => h) (Or.inl ⟨by rfl, ?yr2⟩) su0 ?rr2
  case yr2 => (intro w hSw; go_simp; try with_reducible rfl)
  try simp only [Act.put, List.setIfInBounds_toArray, List.set_cons_zero, List.set_cons_succ]
  refine wpAnyH_take (i := 2) (oi := { dst := some 39, op := Op.fieldAddr 24 (Operand.tmp 3) 3, type := 0, pos := "rtt.go:34", after := #[], guard := none }) (v := ?vr3) rfl (by kernel_rfl) (by kernel_rfl) (by kernel_rfl) (fun _ _ _ h => h) (Or.inl ⟨by rfl, ?yr3⟩) su0 ?rr3
  case yr3 => (intro w hSw; go_simp; try with_reducible rfl)
  try simp only [Act.put, List.setIfInBounds_toArray, List.set_cons_zero, List.set_cons_succ]
  refine wpAnyH_take (i := 3) (oi := { dst := some 40, op := Op.load 3 (Operand.tmp 39), type := 3, pos := "rtt.go:34", after := #[{ on := 2, ground := Ground.data }], guard := none }) (v := ?vr4) rfl (by kernel_rfl) (by kernel_rfl) (by kernel_rfl) (fun _ _ _ h => h) (Or.inl ⟨by rfl, ?yr4⟩) su0 ?rr4
  case yr4 => (intro w hSw; have t := hSw.2.1.sc.c3; go_simp; try with_reducible rfl)
  try simp only [Act.put, List.setIfInBounds_toArray, List.set_cons_zero, List.set_cons_succ]
  refine wpAnyH_take (i := 4) (oi := { dst := some 41, op := Op.binOp BinOp.mul 3 (Operand.const (Value.int IntKind.i64 7)) (Operand.tmp 40) 3, type := 3, pos := "rtt.go:34", after := #[{ on := 3, ground := Ground.data }], guard := none }) (v := ?vr5) rfl (by kernel_rfl) (by kernel_rfl) (by kernel_rfl) (fun _ _ _ h => h) (Or.inl ⟨by rfl, ?yr5⟩) su0 ?rr5
  case yr5 => (intro w hSw; go_simp; try with_reducible rfl)
  try simp only [Act.put, List.setIfInBounds_toArray, List.set_cons_zero, List.set_cons_succ]
  refine wpAnyH_take (i := 5) (oi := { dst := some 42, op := Op.move (Operand.tmp 8), type := 3, pos := "rtt.go:34", after := #[], guard := none }) (v := ?vr6) rfl (by kernel_rfl) (by kernel_rfl) (by kernel_rfl) (fun _ _ _ h => h) (Or.inl ⟨by rfl, ?yr6⟩) su0 ?rr6
  case yr6 => (intro w hSw; go_simp; try with_reducible rfl)
  try simp only [Act.put, List.setIfInBounds_toArray, List.set_cons_zero, List.set_cons_succ]
  refine wpAnyH_take (i := 6) (oi := { dst := some 43, op := Op.binOp BinOp.add 3 (Operand.tmp 41) (Operand.tmp 42) 3, type := 3, pos := "rtt.go:34", after := #[{ on := 4, ground := Ground.data }, { on := 5, ground := Ground.data }], guard := none }) (v := ?vr7) rfl (by kernel_rfl) (by kernel_rfl) (by kernel_rfl) (fun _ _ _ h => h) (Or.inl ⟨by rfl, ?yr7⟩) su0 ?rr7
  case yr7 => (intro w hSw; go_simp; try with_reducible rfl)
  try simp only [Act.put, List.setIfInBounds_toArray, List.set_cons_zero, List.set_cons_succ]
  refine wpAnyH_take (i := 7) (oi := { dst := some 44, op := Op.binOp BinOp.quo 3 (Operand.tmp 43) (Operand.const (Value.int IntKind.i64 8)) 3, type := 3, pos := "rtt.go:34", after := #[{ on := 6, ground := Ground.data }], guard := none }) (v := ?vr8) rfl (by kernel_rfl) (by kernel_rfl) (by kernel_rfl) (fun _ _ _ h => h) (Or.inl ⟨by rfl, ?yr8⟩) su0 ?rr8
  case yr8 => (intro w hSw; go_simp; try with_reducible rfl)
  try simp only [Act.put, List.setIfInBounds_toArray, List.set_cons_zero, List.set_cons_succ]
  refine wpAnyH_take (i := 8) (oi := { dst := some 45, op := Op.fieldAddr 24 (Operand.tmp 3) 4, type := 0, pos := "rtt.go:34", after := #[], guard := none }) (v := ?vr9) rfl (by kernel_rfl) (by kernel_rfl) (by kernel_rfl) (fun _ _ _ h => h) (Or.inl ⟨by rfl, ?yr9⟩) su0 ?rr9
  case yr9 => (intro w hSw; go_simp; try with_reducible rfl)
  try simp only [Act.put, List.setIfInBounds_toArray, List.set_cons_zero, List.set_cons_succ]
  refine wpAnyH_take (i := 9) (oi := { dst := some 46, op := Op.load 3 (Operand.tmp 45), type := 3, pos := "rtt.go:34", after := #[{ on := 8, ground := Ground.data }], guard := none }) (v := ?vr10) rfl (by kernel_rfl) (by kernel_rfl) (by kernel_rfl) (fun _ _ _ h => h) (Or.inl ⟨by rfl, ?yr10⟩) su0 ?rr10
  case yr10 => (intro w hSw; have t := hSw.2.1.sc.c4; go_simp; try with_reducible rfl)
  try simp only [Act.put, List.setIfInBounds_toArray, List.set_cons_zero, List.set_cons_succ]
  refine wpAnyH_take (i := 10) (oi := { dst := some 47, op := Op.binOp BinOp.mul 3 (Operand.const (Value.int IntKind.i64 3)) (Operand.tmp 46) 3, type := 3, pos := "rtt.go:34", after := #[{ on := 9, ground := Ground.data }], guard := none }) (v := ?vr11) rfl (by kernel_rfl) (by kernel_rfl) (by kernel_rfl) (fun _ _ _ h => h) (Or.inl ⟨by rfl, ?yr11⟩) su0 ?rr11
  case yr11 => (intro w hSw; go_simp; try with_reducible rfl)
  try simp only [Act.put, List.setIfInBounds_toArray, List.set_cons_zero, List.set_cons_succ]
  refine wpAnyH_take (i := 11) (oi := { dst := some 48, op := Op.fieldAddr 24 (Operand.tmp 3) 3, type := 0, pos := "rtt.go:34", after := #[], guard := none }) (v := ?vr12) rfl (by kernel_rfl) (by kernel_rfl) (by kernel_rfl) (fun _ _ _ h => h) (Or.inl ⟨by rfl, ?yr12⟩) su0 ?rr12
  case yr12 => (intro w hSw; go_simp; try with_reducible rfl)
  try simp only [Act.put, List.setIfInBounds_toArray, List.set_cons_zero, List.set_cons_succ]
  refine wpAnyH_take (i := 12) (oi := { dst := some 49, op := Op.load 3 (Operand.tmp 48), type := 3, pos := "rtt.go:34", after := #[{ on := 11, ground := Ground.data }], guard := none }) (v := ?vr13) rfl (by kernel_rfl) (by kernel_rfl) (by kernel_rfl) (fun _ _ _ h => h) (Or.inl ⟨by rfl, ?yr13⟩) su0 ?rr13
  case yr13 => (intro w hSw; have t := hSw.2.1.sc.c3; go_simp; try with_reducible rfl)
  try simp only [Act.put, List.setIfInBounds_toArray, List.set_cons_zero, List.set_cons_succ]
  refine wpAnyH_take (i := 13) (oi := { dst := some 50, op := Op.move (Operand.tmp 8), type := 3, pos := "rtt.go:34", after := #[], guard := none }) (v := ?vr14) rfl (by kernel_rfl) (by kernel_rfl) (by kernel_rfl) (fun _ _ _ h => h) (Or.inl ⟨by rfl, ?yr14⟩) su0 ?rr14
  case yr14 => (intro w hSw; go_simp; try with_reducible rfl)
  try simp only [Act.put, List.setIfInBounds_toArray, List.set_cons_zero, List.set_cons_succ]
  refine wpAnyH_ready (rs := [14]) (by kernel_rfl) (by simp) ?_
  refine AllReadyH.cons (o := { dst := some 51, op := Op.call { callee := Callee.value (Operand.func 20), args := #[Operand.tmp 49, Operand.tmp 50], argTypes := #[3, 3] }, type := 3, pos := "rtt.go:39", after := #[{ on := 12, ground := Ground.data }, { on := 13, ground := Ground.data }], guard := none }) rfl (fun KK hKK => ?_) ?_
  · go_simp
    refine (cp _).mono ?_
    rintro e u15' ⟨rfl, rfl⟩
    (try go_wp2_with fail)
    refine hKK.out _ _ (su0) (fun _ => ?_)
    clear hKK KK
    try simp only [Act.put, List.setIfInBounds_toArray, List.set_cons_zero, List.set_cons_succ]
    refine wpAnyH_name (fun u15 hu15 => ?_)
    have su15 : (fun x : World => Below w.heap.size w x ∧ SB x w.heap.size 24 ⟨true, l, m, s, v⟩ ∧ ∃ y : Sta, SB x (w.heap.size + 1) 24 y) u15 := by rw [hu15.out]; exact (su0)
    refine wpAnyH_take (i := 15) (oi := { dst := some 52, op := Op.binOp BinOp.add 3 (Operand.tmp 47) (Operand.tmp 51) 3, type := 3, pos := "rtt.go:34", after := #[{ on := 10, ground := Ground.data }, { on := 14, ground := Ground.data }], guard := none }) (v := ?vr16) rfl (by kernel_rfl) (by kernel_rfl) (by kernel_rfl) (fun _ _ _ h => h) (Or.inl ⟨by rfl, ?yr16⟩) su15 ?rr16
    case yr16 => (intro w hSw; go_simp; try with_reducible rfl)
    try simp only [Act.put, List.setIfInBounds_toArray, List.set_cons_zero, List.set_cons_succ]
    refine wpAnyH_take (i := 16) (oi := { dst := some 53, op := Op.binOp BinOp.quo 3 (Operand.tmp 52) (Operand.const (Value.int IntKind.i64 4)) 3, type := 3, pos := "rtt.go:34", after := #[{ on := 15, ground := Ground.data }], guard := none }) (v := ?vr17) rfl (by kernel_rfl) (by kernel_rfl) (by kernel_rfl) (fun _ _ _ h => h) (Or.inl ⟨by rfl, ?yr17⟩) su15 ?rr17
    case yr17 => (intro w hSw; go_simp; try with_reducible rfl)
    try simp only [Act.put, List.setIfInBounds_toArray, List.set_cons_zero, List.set_cons_succ]
    refine wpAnyH_take (i := 17) (oi := { dst := some 54, op := Op.build 24 #[(0, Operand.const (Value.bool true)), (1, Operand.tmp 37), (2, Operand.tmp 38), (3, Operand.tmp 44), (4, Operand.tmp 53)], type := 24, pos := "rtt.go:34", after := #[{ on := 0, ground := Ground.data }, { on := 1, ground := Ground.data }, { on := 7, ground := Ground.data }, { on := 16, ground := Ground.data }], guard := none }) (v := ?vr18) rfl (by kernel_rfl) (by kernel_rfl) (by kernel_rfl) (fun _ _ _ h => h) (Or.inl ⟨by rfl, ?yr18⟩) su15 ?rr18
    case yr18 => (intro w hSw; go_simp; try with_reducible rfl)
    try simp only [Act.put, List.setIfInBounds_toArray, List.set_cons_zero, List.set_cons_succ]
    refine wpAnyH_ready (rs := [18]) (by kernel_rfl) (by simp) ?_
    refine AllReadyH.cons (o := { dst := none, op := Op.store 24 (Operand.tmp 6) (Operand.tmp 54), type := 0, pos := "rtt.go:34", after := #[{ on := 17, ground := Ground.data }, { on := 14, ground := Ground.chain }, { on := 0, ground := Ground.phase }, { on := 1, ground := Ground.phase }, { on := 2, ground := Ground.phase }, { on := 3, ground := Ground.phase }, { on := 4, ground := Ground.phase }, { on := 5, ground := Ground.phase }, { on := 6, ground := Ground.phase }, { on := 7, ground := Ground.phase }, { on := 8, ground := Ground.phase }, { on := 9, ground := Ground.phase }, { on := 10, ground := Ground.phase }, { on := 11, ground := Ground.phase }, { on := 12, ground := Ground.phase }, { on := 13, ground := Ground.phase }, { on := 14, ground := Ground.phase }, { on := 15, ground := Ground.phase }, { on := 16, ground := Ground.phase }, { on := 17, ground := Ground.phase }], guard := none }) rfl (fun KK hKK => ?_) ?_
    · obtain ⟨sbu19, ssu19, syu19, sru19⟩ := su15
      refine wp_store_row 24 _ _ rfl (w.heap.size + 1) #[.bool true, .int .i64 a, .int .i64 q, .int .i64 S, .int .i64 V] rfl rfl 24 _ sru19 infoS rfl (st5_one _ _ _ _ _) ?_
      refine hKK.out _ _ (⟨below_setRow sbu19 (Nat.le_succ _) _, ssu19.off (Nat.ne_of_lt (Nat.lt_succ_self _)) _, _, sru19.set ⟨true, a, q, S, V⟩⟩) (fun _ => ?_)
      clear hKK KK
      try simp only [Act.put]
      refine wpAnyH_name (fun u19 hu19 => ?_)
      have su19 : (fun x : World => Below w.heap.size w x ∧ SB x w.heap.size 24 ⟨true, l, m, s, v⟩ ∧ ∃ y : Sta, SB x (w.heap.size + 1) 24 y) u19 := by rw [hu19.out]; exact (⟨below_setRow sbu19 (Nat.le_succ _) _, ssu19.off (Nat.ne_of_lt (Nat.lt_succ_self _)) _, _, sru19.set ⟨true, a, q, S, V⟩⟩)
      have zu19 : SB u19 (w.heap.size + 1) 24 ⟨true, a, q, S, V⟩ := by rw [hu19.out]; exact sru19.set ⟨true, a, q, S, V⟩
      refine wpAnyH_done (by kernel_rfl) ?_ _
      go_wp2
      refine bodyPost_ret (v := .agg #[.bool true, .int .i64 a, .int .i64 q, .int .i64 S, .int .i64 V]) (results_cell_row rfl _ _ (w.heap.size + 1) 24 #[.bool true, .int .i64 a, .int .i64 q, .int .i64 S, .int .i64 V] (0, 0) _ rfl zu19 Try.underlying24 rfl infoS) rfl ?_
      exact ⟨rfl, su19.1⟩
    exact AllReadyH.nil
  exact AllReadyH.nil
end Go.Proofs.Ytbomkapnkpjjbaa
