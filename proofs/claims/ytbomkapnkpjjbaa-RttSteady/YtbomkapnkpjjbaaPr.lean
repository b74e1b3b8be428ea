/-
  What Late and Probe answer.
-/
import Derived.Test.YtbomkapnkpjjbaaRf
namespace Go.Proofs.Ytbomkapnkpjjbaa
open Go.RowKit

def lat (x : Sta) : Int := if kn x = true then max (9 * max x.l x.s / 8) 1 else 18
theorem late_any (h : Bool) (l m s v : Int) (w : World) : Calls Try.prog 15 #[.agg #[.bool h, .int .i64 l, .int .i64 m, .int .i64 s, .int .i64 v]] w fun e w' => e = .returned (.int .i64 (lat ⟨h, l, m, s, v⟩)) ∧ Below w.heap.size w w' := by
  obtain ⟨W1, hW1⟩ : ∃ W1, W1 = w.alloc (.cells #[.bool h, .int .i64 l, .int .i64 m, .int .i64 s, .int .i64 v] 24) := ⟨_, rfl⟩
  have b1 : Below w.heap.size w W1 := by rw [hW1]; exact al_below _ _
  have g1 : SB W1 w.heap.size 24 ⟨h, l, m, s, v⟩ := by rw [hW1]; exact heap_new _ _
  have HB : Hid (Below w.heap.size w W1) := b1
  have HS : Hid (SB W1 w.heap.size 24 ⟨h, l, m, s, v⟩) := g1
  have ck := isKnown_any h l m s v W1
  clear b1 g1
  by_cases hk : kn ⟨h, l, m, s, v⟩ = true
  · have er : lat ⟨h, l, m, s, v⟩ = max (9 * max l s / 8) 1 := by unfold lat; rw [if_pos hk]
    obtain ⟨-, hl, -, hs, -, -⟩ := kn_tm hk
    obtain ⟨q, hq⟩ : ∃ q, q = max l s := ⟨_, rfl⟩
    have qb : 0 ≤ q ∧ q ≤ 1099511627776 := by omega
    rw [er, ← hq]
    have k1 := wrS (x := 9 * q) (by omega) (by omega)
    have k2 : Int.tdiv (9 * q) 8 = 9 * q / 8 := Int.tdiv_eq_ediv_of_nonneg (by omega)
    have k3 := wrS (x := 9 * q / 8) (by omega) (by omega)
    have k4 := hq.symm
    clear er hl hs hq qb
    go_enter Try.func15, Try.ntmps15
    go_upto_region 1 with fail
    rw [← hW1]
    clear hW1
    go_wp2_with (refine wpList_load_row rfl 24 _ rfl w.heap.size rfl 24 #[.bool h, .int .i64 l, .int .i64 m, .int .i64 s, .int .i64 v] (0, 0) _ HS.out Try.underlying24 rfl infoS ?_)
    refine ck.mono ?_
    rintro e w2 ⟨rfl, b2⟩
    have HB2 : Hid (Below w.heap.size w w2) := HB.out.trans (b2.mono HB.out.size)
    have HS2 : Hid (SB w2 w.heap.size 24 ⟨h, l, m, s, v⟩) := HS.out.kept b2
    obtain ⟨c0, c1, c2, c3, c4⟩ := HS2.out.sc
    clear ck b2 HB HS
    go_wp2
    go_ret
    exact ⟨rfl, HB2.out⟩
  · have er : lat ⟨h, l, m, s, v⟩ = 18 := by unfold lat; rw [if_neg hk]
    have hk' : kn ⟨h, l, m, s, v⟩ = false := by simpa using hk
    rw [er]
    clear er hk
    go_enter Try.func15, Try.ntmps15
    go_upto_region 1 with fail
    rw [← hW1]
    clear hW1
    go_wp2_with (refine wpList_load_row rfl 24 _ rfl w.heap.size rfl 24 #[.bool h, .int .i64 l, .int .i64 m, .int .i64 s, .int .i64 v] (0, 0) _ HS.out Try.underlying24 rfl infoS ?_)
    refine ck.mono ?_
    rintro e w2 ⟨rfl, b2⟩
    have HB2 : Hid (Below w.heap.size w w2) := HB.out.trans (b2.mono HB.out.size)
    have HS2 : Hid (SB w2 w.heap.size 24 ⟨h, l, m, s, v⟩) := HS.out.kept b2
    obtain ⟨c0, c1, c2, c3, c4⟩ := HS2.out.sc
    clear ck b2 HB HS
    go_wp2
    go_ret
    exact ⟨rfl, HB2.out⟩
/-- How long is waited ahead of the first probe. -/
def prb0 (x : Sta) : Int := if kn x = true then x.s + max (4 * x.v) 1 else 16
def prbK (c : Int) : Nat := (min (max c 0) 16).toNat
def prb (x : Sta) (c : Int) : Int := min (prb0 x * 2 ^ prbK c) 65536
theorem prb0_bd (x : Sta) : 1 ≤ prb0 x ∧ prb0 x ≤ 5497558138881 := by
  unfold prb0
  split
  · rename_i hk
    obtain ⟨h, l, m, s, v⟩ := x
    obtain ⟨-, -, -, hs, hv, -⟩ := kn_tm hk
    simp only
    omega
  · omega
theorem prbK_le (c : Int) : prbK c ≤ 16 := by unfold prbK; omega
theorem two_le {a b : Nat} (h : a ≤ b) : (2 : Int) ^ a ≤ 2 ^ b := by exact_mod_cast Nat.pow_le_pow_right (by decide) h
theorem prb_mul (x : Sta) (k : Nat) (hk : k ≤ 16) : 0 ≤ prb0 x * 2 ^ k ∧ prb0 x * 2 ^ k ≤ 360287970189705216 := by
  obtain ⟨h0, h1⟩ := prb0_bd x
  have h2 : (0 : Int) < 2 ^ k := Int.pow_pos (by decide)
  have h3 := two_le hk
  constructor
  · exact Int.mul_nonneg (by omega) (Int.le_of_lt h2)
  · exact Int.le_trans (Int.mul_le_mul h1 h3 (Int.le_of_lt h2) (by omega)) (by decide)
theorem spread_any (v : Int) (w : World) (hv : 0 ≤ v ∧ v ≤ 1099511627776) : Calls Try.prog 22 #[.int .i64 v] w fun e w' => e = .returned (.int .i64 (max (4 * v) 1)) ∧ w' = w := by
  have k1 := wrS (x := 4 * v) (by omega) (by omega)
  obtain ⟨q, hq⟩ : ∃ q, q = max (4 * v) 1 := ⟨_, rfl⟩
  rw [← hq]
  have k2 := hq.symm
  clear hq hv
  go_enter Try.func22, Try.ntmps22
  go_wp2
  go_ret
  exact ⟨rfl, rfl⟩
set_option maxHeartbeats 8000000 in
theorem probe_any (h : Bool) (l m s v c : Int) (w : World) : Calls Try.prog 13 #[.agg #[.bool h, .int .i64 l, .int .i64 m, .int .i64 s, .int .i64 v], .int .i64 c] w fun e w' => e = .returned (.int .i64 (prb ⟨h, l, m, s, v⟩ c)) ∧ Below w.heap.size w w' := by
  obtain ⟨W1, hW1⟩ : ∃ W1, W1 = w.alloc (.cells #[.bool h, .int .i64 l, .int .i64 m, .int .i64 s, .int .i64 v] 24) := ⟨_, rfl⟩
  have b1 : Below w.heap.size w W1 := by rw [hW1]; exact al_below _ _
  have g1 : SB W1 w.heap.size 24 ⟨h, l, m, s, v⟩ := by rw [hW1]; exact heap_new _ _
  have HB : Hid (Below w.heap.size w W1) := b1
  have HS : Hid (SB W1 w.heap.size 24 ⟨h, l, m, s, v⟩) := g1
  have ck := isKnown_any h l m s v W1
  clear b1 g1
  have hm := prb_mul ⟨h, l, m, s, v⟩ (prbK c) (prbK_le c)
  have hkl := prbK_le c
  have hkc : min (max c 0) 16 = ((prbK c : Nat) : Int) := by unfold prbK; omega
  unfold prb
  generalize prbK c = K at *
  by_cases hk : kn ⟨h, l, m, s, v⟩ = true
  · have er : prb0 ⟨h, l, m, s, v⟩ = s + max (4 * v) 1 := by unfold prb0; rw [if_pos hk]
    obtain ⟨-, hl, -, hs, hv, -⟩ := kn_tm hk
    obtain ⟨r, hr⟩ : ∃ r, r = max (4 * v) 1 := ⟨_, rfl⟩
    obtain ⟨q, hq⟩ : ∃ q, q = s + r := ⟨_, rfl⟩
    rw [er, ← hr, ← hq] at hm ⊢
    have sp := fun W => spread_any v W hv
    rw [← hr] at sp
    have k2 := wrS (x := q) (by omega) (by omega)
    have k3 := wrS (x := q * 2 ^ K) (by omega) (by omega)
    have k4 := hq.symm
    clear er hl hs hv hq hr hm
    go_enter Try.func13, Try.ntmps13
    go_upto_region 1 with fail
    rw [← hW1]
    clear hW1
    go_wp2_with (refine wpList_load_row rfl 24 _ rfl w.heap.size rfl 24 #[.bool h, .int .i64 l, .int .i64 m, .int .i64 s, .int .i64 v] (0, 0) _ HS.out Try.underlying24 rfl infoS ?_)
    refine ck.mono ?_
    rintro e w2 ⟨rfl, b2⟩
    have HB2 : Hid (Below w.heap.size w w2) := HB.out.trans (b2.mono HB.out.size)
    have HS2 : Hid (SB w2 w.heap.size 24 ⟨h, l, m, s, v⟩) := HS.out.kept b2
    obtain ⟨c0, c1, c2, c3, c4⟩ := HS2.out.sc
    clear ck b2 HB HS
    clear c0 c1 c2 c3 c4
    go_wp2_with fail
    refine wp_region_held_drew (S := fun x : World => Below w.heap.size w x ∧ SB x w.heap.size 24 ⟨h, l, m, s, v⟩) (by kernel_rfl) (⟨Below.drew HB2.out, HS2.out⟩) (fun _ => ?_)
    refine wpAnyH_name (fun u0 hu0 => ?_)
    have su0 : (fun x : World => Below w.heap.size w x ∧ SB x w.heap.size 24 ⟨h, l, m, s, v⟩) u0 := by rw [hu0.out]; exact (⟨Below.drew HB2.out, HS2.out⟩)
    refine wpAnyH_take (i := 0) (oi := { dst := some 9, op := Op.fieldAddr 24 (Operand.tmp 2) 3, type := 0, pos := "rtt.go:47", after := #[], guard := none }) (v := ?vp1) rfl (by kernel_rfl) (by kernel_rfl) (by kernel_rfl) (fun _ _ _ h => h) (Or.inl ⟨by rfl, ?yp1⟩) su0 ?rp1
    case yp1 => (intro w hSw; go_simp; try with_reducible rfl)
    try simp only [Act.put, List.setIfInBounds_toArray, List.set_cons_zero, List.set_cons_succ]
    refine wpAnyH_take (i := 1) (oi := { dst := some 10, op := Op.load 3 (Operand.tmp 9), type := 3, pos := "rtt.go:47", after := #[{ on := 0, ground := Ground.data }], guard := none }) (v := ?vp2) rfl (by kernel_rfl) (by kernel_rfl) (by kernel_rfl) (fun _ _ _ h => h) (Or.inl ⟨by rfl, ?yp2⟩) su0 ?rp2
    case yp2 => (intro w hSw; have t := hSw.2.sc.c3; go_simp; try with_reducible rfl)
    try simp only [Act.put, List.setIfInBounds_toArray, List.set_cons_zero, List.set_cons_succ]
    refine wpAnyH_take (i := 2) (oi := { dst := some 11, op := Op.fieldAddr 24 (Operand.tmp 2) 4, type := 0, pos := "rtt.go:47", after := #[], guard := none }) (v := ?vp3) rfl (by kernel_rfl) (by kernel_rfl) (by kernel_rfl) (fun _ _ _ h => h) (Or.inl ⟨by rfl, ?yp3⟩) su0 ?rp3
    case yp3 => (intro w hSw; go_simp; try with_reducible rfl)
    try simp only [Act.put, List.setIfInBounds_toArray, List.set_cons_zero, List.set_cons_succ]
    refine wpAnyH_take (i := 3) (oi := { dst := some 12, op := Op.load 3 (Operand.tmp 11), type := 3, pos := "rtt.go:47", after := #[{ on := 2, ground := Ground.data }], guard := none }) (v := ?vp4) rfl (by kernel_rfl) (by kernel_rfl) (by kernel_rfl) (fun _ _ _ h => h) (Or.inl ⟨by rfl, ?yp4⟩) su0 ?rp4
    case yp4 => (intro w hSw; have t := hSw.2.sc.c4; go_simp; try with_reducible rfl)
    try simp only [Act.put, List.setIfInBounds_toArray, List.set_cons_zero, List.set_cons_succ]
    refine wpAnyH_ready (rs := [4]) (by kernel_rfl) (by simp) ?_
    refine AllReadyH.cons (o := { dst := some 13, op := Op.call { callee := Callee.value (Operand.func 22), args := #[Operand.tmp 12], argTypes := #[3] }, type := 3, pos := "rtt.go:47", after := #[{ on := 3, ground := Ground.data }], guard := none }) rfl (fun KK hKK => ?_) ?_
    · go_simp
      refine (sp _).mono ?_
      rintro e u5' ⟨rfl, rfl⟩
      (try go_wp2_with fail)
      refine hKK.out _ _ (su0) (fun _ => ?_)
      clear hKK KK
      try simp only [Act.put, List.setIfInBounds_toArray, List.set_cons_zero, List.set_cons_succ]
      refine wpAnyH_name (fun u5 hu5 => ?_)
      have su5 : (fun x : World => Below w.heap.size w x ∧ SB x w.heap.size 24 ⟨h, l, m, s, v⟩) u5 := by rw [hu5.out]; exact (su0)
      refine wpAnyH_take (i := 5) (oi := { dst := some 14, op := Op.binOp BinOp.add 3 (Operand.tmp 10) (Operand.tmp 13) 3, type := 3, pos := "rtt.go:47", after := #[{ on := 1, ground := Ground.data }, { on := 4, ground := Ground.data }], guard := none }) (v := ?vp6) rfl (by kernel_rfl) (by kernel_rfl) (by kernel_rfl) (fun _ _ _ h => h) (Or.inl ⟨by rfl, ?yp6⟩) su5 ?rp6
      case yp6 => (intro w hSw; go_simp; try with_reducible rfl)
      try simp only [Act.put, List.setIfInBounds_toArray, List.set_cons_zero, List.set_cons_succ]
      refine wpAnyH_take (i := 6) (oi := { dst := some 5, op := Op.assign (Operand.tmp 14), type := 3, pos := "rtt.go:47", after := #[{ on := 5, ground := Ground.data }, { on := 4, ground := Ground.chain }, { on := 0, ground := Ground.phase }, { on := 1, ground := Ground.phase }, { on := 2, ground := Ground.phase }, { on := 3, ground := Ground.phase }, { on := 4, ground := Ground.phase }, { on := 5, ground := Ground.phase }], guard := none }) (v := ?vp7) rfl (by kernel_rfl) (by kernel_rfl) (by kernel_rfl) (fun _ _ _ h => h) (Or.inl ⟨by rfl, ?yp7⟩) su5 ?rp7
      case yp7 => (intro w hSw; go_simp; try with_reducible rfl)
      try simp only [Act.put, List.setIfInBounds_toArray, List.set_cons_zero, List.set_cons_succ]
      refine wpAnyH_done (by kernel_rfl) ?_ _
      go_wp2
      go_ret
      exact ⟨rfl, su5.1⟩
    exact AllReadyH.nil
  · have er : prb0 ⟨h, l, m, s, v⟩ = 16 := by unfold prb0; rw [if_neg hk]
    have hk' : kn ⟨h, l, m, s, v⟩ = false := by simpa using hk
    rw [er] at hm ⊢
    have k3 := wrS (x := 16 * 2 ^ K) (by omega) (by omega)
    clear er hk hm
    go_enter Try.func13, Try.ntmps13
    go_upto_region 1 with fail
    rw [← hW1]
    clear hW1
    go_wp2_with (refine wpList_load_row rfl 24 _ rfl w.heap.size rfl 24 #[.bool h, .int .i64 l, .int .i64 m, .int .i64 s, .int .i64 v] (0, 0) _ HS.out Try.underlying24 rfl infoS ?_)
    refine ck.mono ?_
    rintro e w2 ⟨rfl, b2⟩
    have HB2 : Hid (Below w.heap.size w w2) := HB.out.trans (b2.mono HB.out.size)
    have HS2 : Hid (SB w2 w.heap.size 24 ⟨h, l, m, s, v⟩) := HS.out.kept b2
    obtain ⟨c0, c1, c2, c3, c4⟩ := HS2.out.sc
    clear ck b2 HB HS
    go_wp2
    go_ret
    exact ⟨rfl, HB2.out⟩
end Go.Proofs.Ytbomkapnkpjjbaa
