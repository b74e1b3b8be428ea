/-
  Any step makes of any tree what the document says, or it is told why not; whether a path may have what it has is told as it says: for every two lists of entries, every step and every entry, no condition.
-/
import Derived.Test.YtajcabfeabbknaaGreatDoorFz
import Derived.Test.YtajcabfeabbknaaGreatDoorLz
import Derived.Test.YtajcabfeabbknaaGreatDoorRb
import Derived.Test.YtajcabfeabbknaaGreatDoorLa
import Derived.Test.YtajcabfeabbknaaGreatDoorOrd
import Derived.Deep.RegionHeld3
namespace Go.Proofs.YtajcabfeabbknaaGreatDoor.mergeSteps
open Go.ChangeShapes Go.WideShapes Go.ChangeAt Go.RowKit Go.Deep Go.ChangeMaps
set_option maxRecDepth 100000

set_option maxHeartbeats 8000000 in
set_option maxRecDepth 100000 in
theorem walk (v : Value) (q : (Value × List En) × (Value × List En)) (xv : Value) (x : St) (uv : Value) (y : En) (w : World) (hw : Mx w) (hq : v = .agg #[q.1.1, q.2.1] ∧ ES w q.1.1 q.1.2 ∧ ES w q.2.1 q.2.2) (hx : xv = .agg #[.int .u8 x.κ, .string x.p, .string x.t] ∧ x.p.size ≤ maxLen ∧ x.t.size ≤ maxLen) (hu : EV w uv y) :
    Calls Tryz.prog 4 #[v, xv, uv] w fun e w' => e = .returned (.bool true) ∧ Below w.heap.size w w' := by
  obtain ⟨rfl, hs, hd⟩ := hq
  obtain ⟨rfl, hxp, hxt⟩ := hx
  obtain ⟨⟨vs, s⟩, ⟨vd, d⟩⟩ := q
  simp only at hs hd ⊢
  obtain ⟨a, c, rfl, _, g3, _⟩ := hs.shape
  obtain ⟨a2, c2, rfl, _, g5, _⟩ := hd.shape
  obtain ⟨ua, un, uc, rfl, su⟩ := hu
  obtain ⟨W3, hW3⟩ : ∃ W3, W3 = ((w.alloc (.cells #[.slice a s.length c, .slice a2 d.length c2] 41)).alloc (.cells #[.int .u8 x.κ, .string x.p, .string x.t] 43)).alloc (.cells #[.string y.p, .bool y.d, .slice ua un uc] 46) := ⟨_, rfl⟩
  have b3 : Below w.heap.size w W3 := by rw [hW3]; exact (((Below.refl _ _).alloc (Nat.le_refl _) _).alloc (by simp) _).alloc (by simp; omega) _
  have k0 : ∀ j, W3.cell? ⟨w.heap.size, j, none⟩ = #[Value.slice a s.length c, .slice a2 d.length c2][j]? := fun j => by
    rw [hW3, World.cell?_alloc_past _ _ _ (by simp; omega), World.cell?_alloc_past _ _ _ (by simp), World.cell?_alloc_at _ _ _ _ rfl]
  have k1 : ∀ j, W3.cell? ⟨w.heap.size + 1, j, none⟩ = #[Value.int .u8 x.κ, .string x.p, .string x.t][j]? := fun j => by
    rw [hW3, World.cell?_alloc_past _ _ _ (by simp), World.cell?_alloc_at _ _ _ _ (by simp)]
  have k2 : ∀ j, W3.cell? ⟨w.heap.size + 1 + 1, j, none⟩ = #[Value.string y.p, .bool y.d, .slice ua un uc][j]? := fun j => by
    rw [hW3, World.cell?_alloc_at _ _ _ _ (by simp)]
  have kp : ∀ (W : World) (g j : Nat) (z : Value), Below W3.heap.size W3 W → W3.cell? ⟨g, j, none⟩ = some z → W.cell? ⟨g, j, none⟩ = some z := fun W g j z hb h => (hb.cell (World.block_lt_of_cell? _ _ h)).trans h
  have HC : Hid (∀ W, Below W3.heap.size W3 W → (W.cell? ⟨w.heap.size, 0, none⟩ = some (.slice a s.length c) ∧ W.cell? ⟨w.heap.size, 1, none⟩ = some (.slice a2 d.length c2)) ∧ (W.cell? ⟨w.heap.size + 1, 0, none⟩ = some (.int .u8 x.κ) ∧ W.cell? ⟨w.heap.size + 1, 1, none⟩ = some (.string x.p) ∧ W.cell? ⟨w.heap.size + 1, 2, none⟩ = some (.string x.t)) ∧
      W.cell? ⟨w.heap.size + 1 + 1, 0, none⟩ = some (.string y.p) ∧ W.cell? ⟨w.heap.size + 1 + 1, 1, none⟩ = some (.bool y.d) ∧ W.cell? ⟨w.heap.size + 1 + 1, 2, none⟩ = some (.slice ua un uc)) := fun W hb =>
    ⟨⟨kp W _ _ _ hb (k0 0), kp W _ _ _ hb (k0 1)⟩, ⟨kp W _ _ _ hb (k1 0), kp W _ _ _ hb (k1 1), kp W _ _ _ hb (k1 2)⟩, kp W _ _ _ hb (k2 0), kp W _ _ _ hb (k2 1), kp W _ _ _ hb (k2 2)⟩
  have HES : Hid (ES W3 (.slice a s.length c) s) := hs.kept b3
  have HED : Hid (ES W3 (.slice a2 d.length c2) d) := hd.kept b3
  have HU : Hid (∀ W, Below W3.heap.size W3 W → EV W (.agg #[.string y.p, .bool y.d, .slice ua un uc]) y) := fun W hb => ⟨ua, un, uc, rfl, (su.kept b3).kept hb⟩
  have HM : Hid (Mx W3) := hw.kept b3
  have B3 : Hid (Below w.heap.size w W3) := b3
  have CAW : Hid (∀ W, Below W3.heap.size W3 W → Calls Tryz.prog 6 #[] W fun e w' => e = .returned (.bool true) ∧ Below W.heap.size W w') := fun W hb => awake_any W (HM.out.kept hb)
  have CL1 := light2_any _ _ s d W3 HES.out HED.out
  obtain ⟨W4, hW4⟩ : ∃ W4, W4 = W3.alloc (.cells #[.string y.p, .bool y.d, .slice ua un uc] 46) := ⟨_, rfl⟩
  have b4 : Below W3.heap.size W3 W4 := by rw [hW4]; exact (Below.refl _ _).alloc (Nat.le_refl _) _
  have B4 : Hid (Below W3.heap.size W3 W4) := b4
  have CL2 := light_any (.slice (some ⟨W3.heap.size, 0, none⟩) 1 1) [y] 1 3000 W4 (es_one (by rw [hW4]; exact heap_alloc_new _ _) ((su.kept b3).kept b4)) (by omega) (by omega) (by simp)
  have S3 : W3.heap.size = w.heap.size + 1 + 1 + 1 := by rw [hW3]; simp
  have CA : Hid (∀ W, Below W3.heap.size W3 W → Lt s → Lt d → x.p.size ≤ 1000 → x.t.size ≤ 1000 → Calls Tryz.prog 14 #[.slice a2 d.length c2, .agg #[.int .u8 x.κ, .string x.p, .string x.t], .slice a s.length c] W fun e w' => ∃ v', e = .returned (.tuple #[v', .int .i64 (apl d x s).2]) ∧ OE w' W.heap.size v' (apl d x s).1 ∧ Below W.heap.size W w') := fun W hb l1 l2 h1 h2 => apply_any _ _ d s x W (HED.out.kept hb) l2 (HES.out.kept hb) l1 h1 h2 (HM.out.kept hb)
  have CR : Hid (∀ W, Below W3.heap.size W3 W → Lt s → Lt d → x.p.size ≤ 1000 → x.t.size ≤ 1000 → Calls Tryz.prog 15 #[.slice a2 d.length c2, .agg #[.int .u8 x.κ, .string x.p, .string x.t], .slice a s.length c] W fun e w' => ∃ v', e = .returned (.tuple #[v', .int .i64 (apl d x s).2]) ∧ ES w' v' (apl d x s).1 ∧ Below W.heap.size W w') := fun W hb l1 l2 h1 h2 => rapply_any _ _ d s x W (HED.out.kept hb) l2 (HES.out.kept hb) l1 h1 h2
  have CPI : Hid (∀ W, Below W3.heap.size W3 W → Lt s → Lt d → Calls Tryz.prog 16 #[.slice a2 d.length c2, .slice a s.length c, .string x.p, .agg #[.string y.p, .bool y.d, .slice ua un uc], .bool true] W fun e w' => e = .returned (.bool (pth d s x.p y true)) ∧ Below W.heap.size W w') := fun W hb l1 l2 => pathI_any _ _ _ d s x.p y W (HED.out.kept hb) l2 (HES.out.kept hb) l1 (HU.out W hb)
  have CPO : Hid (∀ W, Below W3.heap.size W3 W → Lt s → Lt d → Calls Tryz.prog 16 #[.slice a2 d.length c2, .slice a s.length c, .string x.p, .agg #[.string y.p, .bool y.d, .slice ua un uc], .bool false] W fun e w' => e = .returned (.bool (pth d s x.p y false)) ∧ Below W.heap.size W w') := fun W hb l1 l2 => pathO_any _ _ _ d s x.p y W (HED.out.kept hb) l2 (HES.out.kept hb) l1 (HU.out W hb)
  have CRT : Hid (∀ W, Below W3.heap.size W3 W → Lt s → Lt d → Calls Tryz.prog 17 #[.slice a2 d.length c2, .slice a s.length c, .string x.p, .agg #[.string y.p, .bool y.d, .slice ua un uc], .bool true] W fun e w' => e = .returned (.bool (pth d s x.p y true)) ∧ Below W.heap.size W w') := fun W hb l1 l2 => rpath_any _ _ _ d s x.p y true W (HED.out.kept hb) l2 (HES.out.kept hb) l1 (HU.out W hb)
  have CRF : Hid (∀ W, Below W3.heap.size W3 W → Lt s → Lt d → Calls Tryz.prog 17 #[.slice a2 d.length c2, .slice a s.length c, .string x.p, .agg #[.string y.p, .bool y.d, .slice ua un uc], .bool false] W fun e w' => e = .returned (.bool (pth d s x.p y false)) ∧ Below W.heap.size W w') := fun W hb l1 l2 => rpath_any _ _ _ d s x.p y false W (HED.out.kept hb) l2 (HES.out.kept hb) l1 (HU.out W hb)
  have CS : Hid (∀ W v1 v2 l, l.length ≤ 1000 → ES W v1 l → ES W v2 l → Calls Tryz.prog 11 #[v1, v2] W fun e w' => e = .returned (.bool true) ∧ Below W.heap.size W w') := fun W v1 v2 l hl h1 h2 => by
    have := rsame_any v1 v2 l l W h1 h2 (by omega) (by omega)
    rw [(sam_iff l l).2 rfl] at this
    exact this
  have HAL : Hid (Lt d → (apl d x s).1.length ≤ 1000) := fun hl => by
    have hput : ∀ l z, l.length ≤ 100 → (put l z).1.length ≤ 1000 := fun l z hl => by
      unfold put
      split
      · simp
      split
      · simp
      split
      · simp
      · show (mad l z).length ≤ 1000
        rw [mad_len]; split <;> omega
    have hpf : ∀ t m q, (pf d t m q).1.length ≤ 1000 := fun t m q => by
      unfold pf
      split
      · exact hput _ _ hl.1
      · simp
    unfold apl
    split
    · exact hpf _ _ _
    split
    · unfold rem
      split
      · simp
      split
      · simp
      split
      · simp
      · show (d.take _ ++ d.drop _).length ≤ 1000
        have := hl.1
        rw [List.length_append, List.length_take, List.length_drop]
        omega
    split
    · exact hput _ _ hl.1
    split
    · exact hpf _ _ _
    · simp
  have LS1 : Hid (Sm66 s → Lt s) := Sm66.lt
  have LD1 : Hid (Sm66 d → Lt d) := Sm66.lt
  have xp63 : x.p.size ≤ 9223372036854775807 := by unfold maxLen at hxp; omega
  have xt63 : x.t.size ≤ 9223372036854775807 := by unfold maxLen at hxt; omega
  obtain ⟨⟨c0, c1⟩, ⟨d0, d1, d2⟩, e0, e1, e2⟩ := HC.out W3 (Below.refl _ _)
  obtain ⟨⟨c0', c1'⟩, ⟨d0', d1', d2'⟩, e0', e1', e2'⟩ := HC.out W4 b4
  obtain ⟨G1, hG1⟩ : ∃ G1 : Prop, G1 = (Sm66 s ∧ Sm66 d) := ⟨_, rfl⟩
  rw [← hG1] at CL1
  have HG1 : Hid (G1 → Lt s ∧ Lt d) := fun h => by rw [hG1] at h; exact ⟨h.1.lt, h.2.lt⟩
  obtain ⟨G2, hG2⟩ : ∃ G2 : Prop, G2 = ([y].length ≤ 1 ∧ ∀ z ∈ [y], z.p.size ≤ 1000 ∧ z.z.length ≤ 3000) := ⟨_, rfl⟩
  rw [← hG2] at CL2
  rw [S3] at CL2
  clear hw hs hd su g3 g5 hxp hxt b3 b4 k0 k1 k2 kp hG1 hG2 LS1 LD1
  rw [hW3] at c0 c1 d0 d1 d2 e0 e1 e2
  rw [hW4] at c0' c1' d0' d1' d2' e0' e1' e2'
  generalize apl d x s = R at *
  generalize pth d s x.p y true = pt at *
  generalize pth d s x.p y false = pff at *
  generalize s.length = n at *
  generalize d.length = m at *
  generalize x.κ = κ at *
  generalize hxpe : x.p = xp at *
  generalize hxte : x.t = xt at *
  clear hxpe hxte
  generalize y.p = yp at *
  generalize y.d = yd at *
  go_enter Tryz.func4, Tryz.ntmps4
  go_wp2_with fail
  rw [← hW3]
  clear hW3
  refine CL1.mono ?_
  rintro e wq ⟨r1, rfl, hq, hr⟩
  replace hq := hq.symm
  subst hq
  have HR1 : Hid (r1 = true → G1) := hr
  clear hr CL1 c0 c1 d0 d1 d2 e0 e1 e2
  obtain ⟨⟨c0, c1⟩, ⟨d0, d1, d2⟩, e0, e1, e2⟩ := HC.out W3 (Below.refl _ _)
  cases r1 with
  | false =>
    clear CL2 hW4 c0' c1' d0' d1' d2' e0' e1' e2'
    go_wp2_with fail
    refine (CAW.out W3 (Below.refl _ _)).mono ?_
    rintro e w5 ⟨rfl, b5⟩
    have B5 : Hid (Below w.heap.size w w5) := B3.out.trans (b5.mono B3.out.size)
    clear b5
    go_wp2
    go_ret
    exact ⟨rfl, B5.out⟩
  | true =>
  have LS : Hid (Lt s) := (HG1.out (HR1.out rfl)).1
  have LD : Hid (Lt d) := (HG1.out (HR1.out rfl)).2
  clear HR1 HG1
  go_wp2_with fail
  first | rw [S3] | skip
  rw [← hW4]
  clear hW4 c0 c1 d0 d1 d2 e0 e1 e2 c0' c1' d0' d1' d2' e0' e1' e2'
  refine CL2.mono ?_
  rintro e wq ⟨r2, rfl, hq, hr⟩
  replace hq := hq.symm
  subst hq
  clear hr CL2
  obtain ⟨⟨c0, c1⟩, ⟨d0, d1, d2⟩, e0, e1, e2⟩ := HC.out W4 B4.out
  cases r2 with
  | false =>
    go_wp2_with fail
    refine (CAW.out W4 B4.out).mono ?_
    rintro e w5 ⟨rfl, b5⟩
    have B5 : Hid (Below w.heap.size w w5) := B3.out.trans ((B4.out.trans (b5.mono B4.out.size)).mono B3.out.size)
    clear b5
    go_wp2
    go_ret
    exact ⟨rfl, B5.out⟩
  | true =>
  by_cases h1 : 1000 < xp.size
  · have t1 : (1000 : Int) < (xp.size : Int) := by omega
    go_wp2_with fail
    refine (CAW.out W4 B4.out).mono ?_
    rintro e w5 ⟨rfl, b5⟩
    have B5 : Hid (Below w.heap.size w w5) := B3.out.trans ((B4.out.trans (b5.mono B4.out.size)).mono B3.out.size)
    clear b5
    go_wp2
    go_ret
    exact ⟨rfl, B5.out⟩
  have t1 : ¬ (1000 : Int) < (xp.size : Int) := by omega
  by_cases h2 : 1000 < xt.size
  · have t2 : (1000 : Int) < (xt.size : Int) := by omega
    go_wp2_with fail
    refine (CAW.out W4 B4.out).mono ?_
    rintro e w5 ⟨rfl, b5⟩
    have B5 : Hid (Below w.heap.size w w5) := B3.out.trans ((B4.out.trans (b5.mono B4.out.size)).mono B3.out.size)
    clear b5
    go_wp2
    go_ret
    exact ⟨rfl, B5.out⟩
  have t2 : ¬ (1000 : Int) < (xt.size : Int) := by omega
  have C1 := CA.out W4 B4.out LS.out LD.out (by omega) (by omega)
  have C2 : Hid (∀ W, Below W3.heap.size W3 W → Calls Tryz.prog 15 #[.slice a2 m c2, .agg #[.int .u8 κ, .string xp, .string xt], .slice a n c] W fun e w' => ∃ v', e = .returned (.tuple #[v', .int .i64 R.2]) ∧ ES w' v' R.1 ∧ Below W.heap.size W w') := fun W hb => CR.out W hb LS.out LD.out (by omega) (by omega)
  have hal := HAL.out LD.out
  clear CA CR HAL
  go_wp2_with fail
  refine C1.mono ?_
  rintro e w5 ⟨v5, rfl, o5, b5⟩
  have B5 : Hid (Below W3.heap.size W3 w5) := B4.out.trans (b5.mono B4.out.size)
  have E5 : Hid (ES w5 v5 R.1) := o5.es
  obtain ⟨a5, c5, rfl, _, _, _⟩ := o5.es.shape
  clear C1 b5 o5 c0 c1 d0 d1 d2 e0 e1 e2 B4
  obtain ⟨⟨c0, c1⟩, ⟨d0, d1, d2⟩, e0, e1, e2⟩ := HC.out w5 B5.out
  go_wp2_with fail
  refine (C2.out w5 B5.out).mono ?_
  rintro e w6 ⟨v6, rfl, o6, b6⟩
  have B6 : Hid (Below W3.heap.size W3 w6) := B5.out.trans (b6.mono B5.out.size)
  have E6 : Hid (ES w6 v6 R.1) := o6
  have A6 : Hid (ES w6 (.slice a5 R.1.length c5) R.1) := E5.out.kept b6
  obtain ⟨a6, c6, rfl, _, _, _⟩ := o6.shape
  clear C2 b6 o6 c0 c1 d0 d1 d2 e0 e1 e2 E5
  have HAL2 : Hid (R.1.length ≤ 1000) := hal
  clear hal
  generalize R.2 = rk at *
  obtain ⟨nr, hnr⟩ : ∃ nr, nr = R.1.length := ⟨_, rfl⟩
  rw [← hnr] at E6 A6 ⊢
  clear hnr
  go_wp2
  have FC : Hid (∀ x, From w6 x → (x.cell? ⟨w.heap.size, 0, none⟩ = some (.slice a n c) ∧ x.cell? ⟨w.heap.size, 1, none⟩ = some (.slice a2 m c2)) ∧ (x.cell? ⟨w.heap.size + 1, 0, none⟩ = some (.int .u8 κ) ∧ x.cell? ⟨w.heap.size + 1, 1, none⟩ = some (.string xp) ∧ x.cell? ⟨w.heap.size + 1, 2, none⟩ = some (.string xt)) ∧
      x.cell? ⟨w.heap.size + 1 + 1, 0, none⟩ = some (.string yp) ∧ x.cell? ⟨w.heap.size + 1 + 1, 1, none⟩ = some (.bool yd) ∧ x.cell? ⟨w.heap.size + 1 + 1, 2, none⟩ = some (.slice ua un uc)) := fun x hx => HC.out x (B6.out.trans (Below.mono hx B6.out.size))
  have FB : Hid (∀ x, From w6 x → Below W3.heap.size W3 x ∧ Below w6.heap.size w6 x) := fun x hx => ⟨B6.out.trans (Below.mono hx B6.out.size), hx⟩
  refine wp_region_held_drew (S := From w6) (by kernel_rfl) ((Below.refl _ _).drew) (fun _ => ?_)
  refine wpAnyH_on ((Below.refl _ _).drew) (fun u0 hu0 bu0 => ?_)
  replace FC := on FC bu0
  replace FB := on FB bu0
  refine wpAnyH_take (i := 0) (oi := { dst := some 62, op := Op.fieldAddr 41 (Operand.tmp 3) 1, type := 0, pos := "law.go:64", after := #[], guard := none }) (v := ?vr1) rfl (by kernel_rfl) (by kernel_rfl) (by kernel_rfl) (fun _ _ _ h => h) (Or.inl ⟨by rfl, ?yr1⟩) (Below.refl _ _) ?rr1
  case yr1 => (intro w hSw; go_simp; try with_reducible rfl)
  try simp only [Act.put, List.setIfInBounds_toArray, List.set_cons_zero, List.set_cons_succ]
  refine wpAnyH_take (i := 1) (oi := { dst := some 63, op := Op.load 22 (Operand.tmp 62), type := 22, pos := "law.go:64", after := #[{ on := 0, ground := Ground.data }], guard := none }) (v := ?vr2) rfl (by kernel_rfl) (by kernel_rfl) (by kernel_rfl) (fun _ _ _ h => h) (Or.inl ⟨by rfl, ?yr2⟩) (Below.refl _ _) ?rr2
  case yr2 => (intro w hSw; obtain ⟨⟨t0, t1⟩, -⟩ := FC.out w hSw; go_simp; try with_reducible rfl)
  try simp only [Act.put, List.setIfInBounds_toArray, List.set_cons_zero, List.set_cons_succ]
  refine wpAnyH_take (i := 2) (oi := { dst := some 64, op := Op.fieldAddr 41 (Operand.tmp 3) 0, type := 0, pos := "law.go:64", after := #[], guard := none }) (v := ?vr3) rfl (by kernel_rfl) (by kernel_rfl) (by kernel_rfl) (fun _ _ _ h => h) (Or.inl ⟨by rfl, ?yr3⟩) (Below.refl _ _) ?rr3
  case yr3 => (intro w hSw; go_simp; try with_reducible rfl)
  try simp only [Act.put, List.setIfInBounds_toArray, List.set_cons_zero, List.set_cons_succ]
  refine wpAnyH_take (i := 3) (oi := { dst := some 65, op := Op.load 22 (Operand.tmp 64), type := 22, pos := "law.go:64", after := #[{ on := 2, ground := Ground.data }], guard := none }) (v := ?vr4) rfl (by kernel_rfl) (by kernel_rfl) (by kernel_rfl) (fun _ _ _ h => h) (Or.inl ⟨by rfl, ?yr4⟩) (Below.refl _ _) ?rr4
  case yr4 => (intro w hSw; obtain ⟨⟨t0, t1⟩, -⟩ := FC.out w hSw; go_simp; try with_reducible rfl)
  try simp only [Act.put, List.setIfInBounds_toArray, List.set_cons_zero, List.set_cons_succ]
  refine wpAnyH_take (i := 4) (oi := { dst := some 66, op := Op.fieldAddr 43 (Operand.tmp 4) 1, type := 0, pos := "law.go:64", after := #[], guard := none }) (v := ?vr5) rfl (by kernel_rfl) (by kernel_rfl) (by kernel_rfl) (fun _ _ _ h => h) (Or.inl ⟨by rfl, ?yr5⟩) (Below.refl _ _) ?rr5
  case yr5 => (intro w hSw; go_simp; try with_reducible rfl)
  try simp only [Act.put, List.setIfInBounds_toArray, List.set_cons_zero, List.set_cons_succ]
  refine wpAnyH_take (i := 5) (oi := { dst := some 67, op := Op.load 9 (Operand.tmp 66), type := 9, pos := "law.go:64", after := #[{ on := 4, ground := Ground.data }], guard := none }) (v := ?vr6) rfl (by kernel_rfl) (by kernel_rfl) (by kernel_rfl) (fun _ _ _ h => h) (Or.inl ⟨by rfl, ?yr6⟩) (Below.refl _ _) ?rr6
  case yr6 => (intro w hSw; obtain ⟨-, ⟨t0, t1, t2⟩, -⟩ := FC.out w hSw; go_simp; try with_reducible rfl)
  try simp only [Act.put, List.setIfInBounds_toArray, List.set_cons_zero, List.set_cons_succ]
  refine wpAnyH_take (i := 6) (oi := { dst := some 68, op := Op.load 46 (Operand.tmp 5), type := 46, pos := "law.go:64", after := #[], guard := none }) (v := ?vr7) rfl (by kernel_rfl) (by kernel_rfl) (by kernel_rfl) (fun _ _ _ h => h) (Or.inl ⟨by rfl, ?yr7⟩) (Below.refl _ _) ?rr7
  case yr7 => (intro w hSw; obtain ⟨-, -, t0, t1, t2⟩ := FC.out w hSw; go_simp; try with_reducible rfl)
  try simp only [Act.put, List.setIfInBounds_toArray, List.set_cons_zero, List.set_cons_succ]
  refine wpAnyH_take (i := 8) (oi := { dst := some 70, op := Op.fieldAddr 41 (Operand.tmp 3) 1, type := 0, pos := "law.go:64", after := #[], guard := none }) (v := ?vr8) rfl (by kernel_rfl) (by kernel_rfl) (by kernel_rfl) (fun _ _ _ h => h) (Or.inl ⟨by rfl, ?yr8⟩) (Below.refl _ _) ?rr8
  case yr8 => (intro w hSw; go_simp; try with_reducible rfl)
  try simp only [Act.put, List.setIfInBounds_toArray, List.set_cons_zero, List.set_cons_succ]
  refine wpAnyH_take (i := 9) (oi := { dst := some 71, op := Op.load 22 (Operand.tmp 70), type := 22, pos := "law.go:64", after := #[{ on := 8, ground := Ground.data }], guard := none }) (v := ?vr9) rfl (by kernel_rfl) (by kernel_rfl) (by kernel_rfl) (fun _ _ _ h => h) (Or.inl ⟨by rfl, ?yr9⟩) (Below.refl _ _) ?rr9
  case yr9 => (intro w hSw; obtain ⟨⟨t0, t1⟩, -⟩ := FC.out w hSw; go_simp; try with_reducible rfl)
  try simp only [Act.put, List.setIfInBounds_toArray, List.set_cons_zero, List.set_cons_succ]
  refine wpAnyH_take (i := 10) (oi := { dst := some 72, op := Op.fieldAddr 41 (Operand.tmp 3) 0, type := 0, pos := "law.go:64", after := #[], guard := none }) (v := ?vr10) rfl (by kernel_rfl) (by kernel_rfl) (by kernel_rfl) (fun _ _ _ h => h) (Or.inl ⟨by rfl, ?yr10⟩) (Below.refl _ _) ?rr10
  case yr10 => (intro w hSw; go_simp; try with_reducible rfl)
  try simp only [Act.put, List.setIfInBounds_toArray, List.set_cons_zero, List.set_cons_succ]
  refine wpAnyH_take (i := 11) (oi := { dst := some 73, op := Op.load 22 (Operand.tmp 72), type := 22, pos := "law.go:64", after := #[{ on := 10, ground := Ground.data }], guard := none }) (v := ?vr11) rfl (by kernel_rfl) (by kernel_rfl) (by kernel_rfl) (fun _ _ _ h => h) (Or.inl ⟨by rfl, ?yr11⟩) (Below.refl _ _) ?rr11
  case yr11 => (intro w hSw; obtain ⟨⟨t0, t1⟩, -⟩ := FC.out w hSw; go_simp; try with_reducible rfl)
  try simp only [Act.put, List.setIfInBounds_toArray, List.set_cons_zero, List.set_cons_succ]
  refine wpAnyH_take (i := 12) (oi := { dst := some 74, op := Op.fieldAddr 43 (Operand.tmp 4) 1, type := 0, pos := "law.go:64", after := #[], guard := none }) (v := ?vr12) rfl (by kernel_rfl) (by kernel_rfl) (by kernel_rfl) (fun _ _ _ h => h) (Or.inl ⟨by rfl, ?yr12⟩) (Below.refl _ _) ?rr12
  case yr12 => (intro w hSw; go_simp; try with_reducible rfl)
  try simp only [Act.put, List.setIfInBounds_toArray, List.set_cons_zero, List.set_cons_succ]
  refine wpAnyH_take (i := 13) (oi := { dst := some 75, op := Op.load 9 (Operand.tmp 74), type := 9, pos := "law.go:64", after := #[{ on := 12, ground := Ground.data }], guard := none }) (v := ?vr13) rfl (by kernel_rfl) (by kernel_rfl) (by kernel_rfl) (fun _ _ _ h => h) (Or.inl ⟨by rfl, ?yr13⟩) (Below.refl _ _) ?rr13
  case yr13 => (intro w hSw; obtain ⟨-, ⟨t0, t1, t2⟩, -⟩ := FC.out w hSw; go_simp; try with_reducible rfl)
  try simp only [Act.put, List.setIfInBounds_toArray, List.set_cons_zero, List.set_cons_succ]
  refine wpAnyH_take (i := 14) (oi := { dst := some 76, op := Op.load 46 (Operand.tmp 5), type := 46, pos := "law.go:64", after := #[], guard := none }) (v := ?vr14) rfl (by kernel_rfl) (by kernel_rfl) (by kernel_rfl) (fun _ _ _ h => h) (Or.inl ⟨by rfl, ?yr14⟩) (Below.refl _ _) ?rr14
  case yr14 => (intro w hSw; obtain ⟨-, -, t0, t1, t2⟩ := FC.out w hSw; go_simp; try with_reducible rfl)
  try simp only [Act.put, List.setIfInBounds_toArray, List.set_cons_zero, List.set_cons_succ]
  refine wpAnyH_ready (rs := [7]) (by kernel_rfl) (by simp) ?_
  refine AllReadyH.cons (o := { dst := some 69, op := Op.call { callee := Callee.value (Operand.func 16), args := #[Operand.tmp 63, Operand.tmp 65, Operand.tmp 67, Operand.tmp 68, Operand.const (Value.bool true)], argTypes := #[22, 22, 9, 46, 4] }, type := 4, pos := "law.go:64", after := #[{ on := 1, ground := Ground.data }, { on := 3, ground := Ground.data }, { on := 5, ground := Ground.data }, { on := 6, ground := Ground.data }], guard := none }) rfl (fun KK hKK => ?_) ?_
  · go_simp
    refine (CPI.out _ (FB.out _ (Below.refl _ _)).1 LS.out LD.out).mono ?_
    rintro e u15' ⟨rfl, bu15'⟩
    (try go_wp2_with fail)
    refine hKK.out _ _ (bu15') (fun _ => ?_)
    clear hKK KK
    try simp only [Act.put, List.setIfInBounds_toArray, List.set_cons_zero, List.set_cons_succ]
    refine wpAnyH_on (bu15') (fun u15 hu15 bu15 => ?_)
    replace FC := on FC bu15
    replace FB := on FB bu15
    refine wpAnyH_ready (rs := [15]) (by kernel_rfl) (by simp) ?_
    refine AllReadyH.cons (o := { dst := some 77, op := Op.call { callee := Callee.value (Operand.func 16), args := #[Operand.tmp 71, Operand.tmp 73, Operand.tmp 75, Operand.tmp 76, Operand.const (Value.bool false)], argTypes := #[22, 22, 9, 46, 4] }, type := 4, pos := "law.go:64", after := #[{ on := 9, ground := Ground.data }, { on := 11, ground := Ground.data }, { on := 13, ground := Ground.data }, { on := 14, ground := Ground.data }, { on := 7, ground := Ground.chain }], guard := none }) rfl (fun KK hKK => ?_) ?_
    · go_simp
      refine (CPO.out _ (FB.out _ (Below.refl _ _)).1 LS.out LD.out).mono ?_
      rintro e u16' ⟨rfl, bu16'⟩
      (try go_wp2_with fail)
      refine hKK.out _ _ (bu16') (fun _ => ?_)
      clear hKK KK
      try simp only [Act.put, List.setIfInBounds_toArray, List.set_cons_zero, List.set_cons_succ]
      refine wpAnyH_on (bu16') (fun u16 hu16 bu16 => ?_)
      replace FC := on FC bu16
      replace FB := on FB bu16
      refine wpAnyH_take (i := 16) (oi := { dst := some 11, op := Op.assign (Operand.tmp 69), type := 4, pos := "law.go:64", after := #[{ on := 7, ground := Ground.data }, { on := 15, ground := Ground.chain }, { on := 0, ground := Ground.phase }, { on := 1, ground := Ground.phase }, { on := 2, ground := Ground.phase }, { on := 3, ground := Ground.phase }, { on := 4, ground := Ground.phase }, { on := 5, ground := Ground.phase }, { on := 6, ground := Ground.phase }, { on := 7, ground := Ground.phase }, { on := 8, ground := Ground.textOnly Departure.lateStores }, { on := 9, ground := Ground.textOnly Departure.lateStores }, { on := 10, ground := Ground.textOnly Departure.lateStores }, { on := 11, ground := Ground.textOnly Departure.lateStores }, { on := 12, ground := Ground.textOnly Departure.lateStores }, { on := 13, ground := Ground.textOnly Departure.lateStores }, { on := 14, ground := Ground.textOnly Departure.lateStores }, { on := 15, ground := Ground.textOnly Departure.lateStoresUnsure }], guard := none }) (v := ?vr17) rfl (by kernel_rfl) (by kernel_rfl) (by kernel_rfl) (fun _ _ _ h => h) (Or.inl ⟨by rfl, ?yr17⟩) (Below.refl _ _) ?rr17
      case yr17 => (intro w hSw; go_simp; try with_reducible rfl)
      try simp only [Act.put, List.setIfInBounds_toArray, List.set_cons_zero, List.set_cons_succ]
      refine wpAnyH_take (i := 17) (oi := { dst := some 12, op := Op.assign (Operand.tmp 77), type := 4, pos := "law.go:64", after := #[{ on := 15, ground := Ground.data }, { on := 16, ground := Ground.chain }, { on := 0, ground := Ground.phase }, { on := 1, ground := Ground.phase }, { on := 2, ground := Ground.phase }, { on := 3, ground := Ground.phase }, { on := 4, ground := Ground.phase }, { on := 5, ground := Ground.phase }, { on := 6, ground := Ground.phase }, { on := 7, ground := Ground.phase }, { on := 8, ground := Ground.phase }, { on := 9, ground := Ground.phase }, { on := 10, ground := Ground.phase }, { on := 11, ground := Ground.phase }, { on := 12, ground := Ground.phase }, { on := 13, ground := Ground.phase }, { on := 14, ground := Ground.phase }, { on := 15, ground := Ground.phase }, { on := 16, ground := Ground.phase }], guard := none }) (v := ?vr18) rfl (by kernel_rfl) (by kernel_rfl) (by kernel_rfl) (fun _ _ _ h => h) (Or.inl ⟨by rfl, ?yr18⟩) (Below.refl _ _) ?rr18
      case yr18 => (intro w hSw; go_simp; try with_reducible rfl)
      try simp only [Act.put, List.setIfInBounds_toArray, List.set_cons_zero, List.set_cons_succ]
      refine wpAnyH_done (by kernel_rfl) ?_ _
      have HB8 : Hid (Below W3.heap.size W3 u16) := (FB.out _ (Below.refl _ _)).1
      have E8 : Hid (ES u16 (.slice a6 nr c6) R.1) := E6.out.kept (FB.out _ (Below.refl _ _)).2
      have A8 : Hid (ES u16 (.slice a5 nr c5) R.1) := A6.out.kept (FB.out _ (Below.refl _ _)).2
      clear FC FB
      go_wp2_with fail
      refine (CS.out u16 _ _ R.1 HAL2.out A8.out E8.out).mono ?_
      rintro e w9 ⟨rfl, b9⟩
      have B9 : Hid (Below W3.heap.size W3 w9) := HB8.out.trans (b9.mono HB8.out.size)
      clear b9 E8 A8
      obtain ⟨⟨c0, c1⟩, ⟨d0, d1, d2⟩, e0, e1, e2⟩ := HC.out w9 B9.out
      go_wp2_with fail
      refine (CRT.out w9 B9.out LS.out LD.out).mono ?_
      rintro e w10 ⟨rfl, b10⟩
      have B10 : Hid (Below W3.heap.size W3 w10) := B9.out.trans (b10.mono B9.out.size)
      clear b10 c0 c1 d0 d1 d2 e0 e1 e2
      obtain ⟨⟨c0, c1⟩, ⟨d0, d1, d2⟩, e0, e1, e2⟩ := HC.out w10 B10.out
      go_wp2_with fail
      refine (CRF.out w10 B10.out LS.out LD.out).mono ?_
      rintro e w11 ⟨rfl, b11⟩
      have B11 : Hid (Below W3.heap.size W3 w11) := B10.out.trans (b11.mono B10.out.size)
      clear b11 c0 c1 d0 d1 d2 e0 e1 e2
      go_wp2_with fail
      refine (CAW.out w11 B11.out).mono ?_
      rintro e w12 ⟨rfl, b12⟩
      have B12 : Hid (Below w.heap.size w w12) := B3.out.trans ((B11.out.trans (b12.mono B11.out.size)).mono B3.out.size)
      clear b12
      go_wp2
      go_ret
      exact ⟨rfl, B12.out⟩
    exact AllReadyH.nil
  exact AllReadyH.nil

theorem contract (H : Type) (enc : TypeId × Value → H) (W : World) (base : Nat) (args : Array Value) (ds gs : List (DataW H)) (before : List MemPlace)
    (hval : ∀ (j : Nat) t v, Tryz.f4.params[j]? = some t → args[j]? = some v → Value.okWide Tryz.prog W .any base t v)
    (hW : DataW.Whole enc Tryz.prog Tryz.f4.params.toList Rows.mergeStepsSpec.vars false W args.toList ds gs before) (_hL : laidMetH Tryz.prog Rows.mergeStepsRow.laid W) (hsh : W.ShapedOpen Tryz.prog)
    (hsz0 : (DataW.weightsEach Tryz.prog (Tryz.f4.params.toList ++ Rows.mergeStepsSpec.plain.varTypes Tryz.prog) (ds ++ gs)).all (· ≤ reachBytes) = true) :
    Calls Tryz.prog 4 args W fun e W' => ∃ v, e = .returned v ∧ Rows.mergeStepsSpec.post enc Tryz.prog Tryz.f4 false true false false W args v W' := by
  have hW' := hW
  obtain ⟨p, q, hA0, hV, rfl, hfz, hnd⟩ := hW
  have hA : DataW.TrodAll enc Tryz.prog W 0 (fun _ => true) true Tryz.f4.params.toList args.toList ds p := hA0
  rw [Tryz.params4] at hA hval hsz0
  obtain ⟨v0, vs0, d0, ds0, p0, q0, hargs, rfl, rfl, h0, r0⟩ := trodAll_cons hA
  obtain ⟨v1, vs1, d1, ds1, p1, q1, rfl, rfl, rfl, h1, r1⟩ := trodAll_cons r0
  obtain ⟨v2, vs2, d2, ds2, p2, q2, rfl, rfl, rfl, h2, r2⟩ := trodAll_cons r1
  obtain ⟨rfl, rfl, rfl⟩ := trodAll_nil r2
  obtain rfl : args = #[v0, v1, v2] := by cases args; simp_all
  obtain ⟨rfl, rfl⟩ := trodVars_none hV
  have k0 := h0
  have lt0 : ∀ x ∈ p0, x.block < W.heap.size := by obtain ⟨m, hm⟩ := k0; exact DataW.trod_lt m _ _ _ hm
  obtain ⟨L0, w0⟩ := pair_in (hval 0 41 v0 rfl rfl) h0
  have k1 := h1
  have lt1 : ∀ x ∈ p1, x.block < W.heap.size := by obtain ⟨m, hm⟩ := k1; exact DataW.trod_lt m _ _ _ hm
  obtain ⟨L1, w1⟩ := step_in (hval 1 43 v1 rfl rfl) h1
  have k2 := h2
  have lt2 : ∀ x ∈ p2, x.block < W.heap.size := by obtain ⟨m, hm⟩ := k2; exact DataW.trod_lt m _ _ _ hm
  obtain ⟨L2, w2⟩ := ent_in (hval 2 46 v2 rfl rfl) h2
  clear hA0
  refine (walk v0 L0 v1 L1 v2 L2 W (mx_of hsh) w0 w1 w2).mono fun e W' ⟨he, bel⟩ => ?_
  subst he
  exact ⟨_, rfl, _, _, _, [], _, [], hW', trodAll_mk1 (shut_bool Tryz.underlying4 _), (trodAll_cons_mk (Below.trod laidOut (by kernel_rfl) (of_decide_eq_true (by kernel_rfl)) k0 bel lt0) (trodAll_cons_mk (Below.trod laidOut (by kernel_rfl) (of_decide_eq_true (by kernel_rfl)) k1 bel lt1) (trodAll_cons_mk (Below.trod laidOut (by kernel_rfl) (of_decide_eq_true (by kernel_rfl)) k2 bel lt2) trodAll_mk0))), rfl, bel.frame _, fun h => by cases h⟩

theorem laid_met (os : Os) : laidMet Tryz.prog Rows.mergeStepsRow.laid (({ World.holding Tryz.prog os ⟨#[], #[], []⟩ with heap := ((((World.holding Tryz.prog os ⟨#[], #[], []⟩).heap.modify 0 (fun
      | .cells _ t frozen => .cells #[.int .i64 0] t frozen
      | o => o)).modify 1 (fun
      | .cells _ t frozen => .cells firstCells t frozen
      | o => o)).modify 2 (fun
      | .cells _ t frozen => .cells rangeCells t frozen
      | o => o)) } : World).forCall (fun _ _ => 0) ⟨#[], #[.agg #[.slice none 0 0, .slice none 0 0], .agg #[.int .u8 0, .string ⟨#[]⟩, .string ⟨#[]⟩], .agg #[.string ⟨#[]⟩, .bool false, .slice none 0 0]], []⟩).memory :=
  laidMet_of_run' 8 (by kernel_rfl) (by kernel_rfl)
theorem reads (os : Os) {H : Type} (enc : TypeId × Value → H) : ∃ places, DataW.whole enc Tryz.prog (({ World.holding Tryz.prog os ⟨#[], #[], []⟩ with heap := ((((World.holding Tryz.prog os ⟨#[], #[], []⟩).heap.modify 0 (fun
      | .cells _ t frozen => .cells #[.int .i64 0] t frozen
      | o => o)).modify 1 (fun
      | .cells _ t frozen => .cells firstCells t frozen
      | o => o)).modify 2 (fun
      | .cells _ t frozen => .cells rangeCells t frozen
      | o => o)) } : World).forCall (fun _ _ => 0) ⟨#[], #[.agg #[.slice none 0 0, .slice none 0 0], .agg #[.int .u8 0, .string ⟨#[]⟩, .string ⟨#[]⟩], .agg #[.string ⟨#[]⟩, .bool false, .slice none 0 0]], []⟩).memory Tryz.f4.params.toList Rows.mergeStepsSpec.vars false #[Value.agg #[.slice none 0 0, .slice none 0 0], .agg #[.int .u8 0, .string ⟨#[]⟩, .string ⟨#[]⟩], .agg #[.string ⟨#[]⟩, .bool false, .slice none 0 0]].toList 8 = some ([.agg [.nil, .nil], .agg [.lit (.int .u8 0), .lit (.string []), .lit (.string [])], .agg [.lit (.string []), .lit (.bool false), .nil]], [], places) :=
  ⟨[], by kernel_rfl⟩

set_option maxRecDepth 100000 in
theorem lifted (os : Os) (started : os.Started) (H : Type) (enc : TypeId × Value → H) (F : Stop.Interp) :
    ReturnsInHanded {} Tryz.checked os 4 .any ((OpenSpec.ofChange Rows.mergeStepsSpec).preRow enc Tryz.prog Tryz.f4 Rows.mergeStepsRow.domain false Rows.mergeStepsRow.laid) (((OpenSpec.ofChange Rows.mergeStepsSpec).at F).post enc Tryz.prog Tryz.f4 false true false false) := by
  obtain ⟨places, hx⟩ := reads os enc
  refine returnsInHanded_of_row (C := Tryz.checked) (s := OpenSpec.ofChange Rows.mergeStepsSpec) own started (by kernel_rfl) Tryz.func4
    (witness_row_at (enc := enc) (C := Tryz.checked) false ({ World.holding Tryz.prog os ⟨#[], #[], []⟩ with heap := ((((World.holding Tryz.prog os ⟨#[], #[], []⟩).heap.modify 0 (fun
      | .cells _ t frozen => .cells #[.int .i64 0] t frozen
      | o => o)).modify 1 (fun
      | .cells _ t frozen => .cells firstCells t frozen
      | o => o)).modify 2 (fun
      | .cells _ t frozen => .cells rangeCells t frozen
      | o => o)) } : World) #[.agg #[.slice none 0 0, .slice none 0 0], .agg #[.int .u8 0, .string ⟨#[]⟩, .string ⟨#[]⟩], .agg #[.string ⟨#[]⟩, .bool false, .slice none 0 0]] rfl (by kernel_rfl) (by kernel_rfl) (by kernel_rfl)
      (OpenSpec.preRow_of_cond 8 hx (by kernel_rfl) (fun k hk => by cases hk) (by kernel_rfl) (laid_met os))) ?_
  intro W base args ds gs before hval hW _ _ hsz hL hsh _
  exact contract H enc W base args ds gs before hval hW hL hsh hsz

theorem said : Rows.MergeStepsSaid :=
  OpenClaim.holds_of_cond 4 Tryz.f4 rfl rfl rfl rfl rfl rfl rfl ⟨rfl, rfl, rfl, rfl, rfl⟩ rfl rfl rfl rfl rfl (by kernel_rfl) Tryz.func4 (by kernel_rfl)
    (of_decide_eq_true (by kernel_rfl)) (by unfold Func.isWrapper; first | (rw [if_pos (by decide +kernel)]; kernel_rfl) | (rw [if_neg (by decide +kernel)]; exact ⟨rfl, rfl⟩))
    (fun os started H enc _ F => by rw [OpenClaim.pre_eq_preRow]; exact lifted os started H enc F)

theorem plain (f : FuncId) (fn : Func) (hf : Tryz.pinned.checked.prog.funcNamed "sumpter/sumpterlaw09.MergeSteps" = some f) (hfn : Tryz.pinned.checked.prog.funcs[f]? = some fn) :
    false = Tryz.pinned.checked.prog.looks [] ∧ ∀ (j : Nat) t, fn.params[j]? = some t → Tryz.pinned.checked.prog.wantsStandIn t = false := by
  obtain rfl : f = 4 := Option.some.inj ((show Tryz.prog.funcNamed "sumpter/sumpterlaw09.MergeSteps" = some 4 by kernel_rfl).symm.trans hf) |>.symm
  obtain rfl : fn = Tryz.f4 := (Option.some.inj (Tryz.func4.symm.trans hfn)).symm
  refine ⟨by kernel_rfl, fun j t ht => ?_⟩
  rw [Tryz.params4] at ht
  have hm : t ∈ [41, 43, 46] := by simpa using Array.mem_of_getElem? ht
  have hall : ([41, 43, 46].all fun u => !Tryz.prog.wantsStandIn u) = true := by kernel_rfl
  exact (show Tryz.prog.wantsStandIn t = false by simpa using List.all_eq_true.1 hall t hm)
end Go.Proofs.YtajcabfeabbknaaGreatDoor.mergeSteps

namespace Go.Proofs.YtajcabfeabbknaaGreatDoor
/-- The card of MergeSteps. -/
theorem mergeSteps_card : Rows.MergeStepsCardSaid :=
  Claim7.holds_tied_plain_at .later [] _ _ _ _ mergeSteps.said (fun _ h => by cases h) (by kernel_rfl) (fun _ h => by cases h) mergeSteps_row_tie rfl ⟨rfl, rfl⟩ (by kernel_rfl) rfl mergeSteps.plain (by kernel_rfl)
#print axioms mergeSteps_card
end Go.Proofs.YtajcabfeabbknaaGreatDoor
