/-
  MacOpens answers true for every key, head and all bytes, and nothing that was there is changed; the three package-level tables start as the program's text lays them (the card ties them).
-/
import Derived.Test.YtkblcabibnnmcaaDoorEmp
namespace Go.Proofs.YtkblcabibnnmcaaDoor.macOpens
open Go.ChangeShapes Go.WideShapes Go.ChangeAt Go.RowKit Go.Deep Go.ChangeMaps

set_option maxHeartbeats 8000000 in
set_option maxRecDepth 100000 in
theorem walk (KB : List Int) (ha : Option Addr) (hl hcp : Nat) (zs : List Int) (a : Option Addr) (len cap : Nat) (ys : List Int) (w : World) (hw : Tabs w) (hK : KB.length = 32) (hKb : Pl.Byt KB) (hh : Bytes w ha hl hcp zs) (hb : Bytes w a len cap ys) :
    Calls Tryd.prog 5 #[.agg (u8s KB), .slice ha hl hcp, .slice a len cap] w fun e w' => e = .returned (.bool true) ∧ Below w.heap.size w w' := by
  have hm1 : hl ≤ 140737488351232 := by have := hh.2.2; omega
  have hm2 : len ≤ 140737488351232 := by have := hb.2.2; omega
  obtain ⟨wa, hwa⟩ : ∃ wa, wa = w.alloc (.cells (u8s KB) 26) := ⟨_, rfl⟩
  have ba : Below w.heap.size w wa := by rw [hwa]; exact al_below _ _
  have hwz : w.alloc (.cells (u8s KB) 26) = wa := hwa.symm
  have CA : Hid (∀ W, Below wa.heap.size wa W → Calls Tryd.prog 8 #[] W fun r w' => r = .returned (.bool true) ∧ Below W.heap.size W w') := fun W h => awake_any W ((hw.kept ba).kept h)
  have HBA : Hid (Below w.heap.size w wa) := ba
  by_cases h1 : 200 < hl
  · clear hh hb
    have g1 : (hl : Int) > 200 := by omega
    clear hwa ba
    generalize u8s KB = KU at *
    go_enter Tryd.func5, Tryd.ntmps5
    go_wp2_with (go_at_call 8; refine (CA.out _ (Below.refl _ _)).mono ?_; rintro e w' ⟨rfl, hbel⟩)
    go_ret
    exact ⟨rfl, HBA.out.trans (hbel.mono HBA.out.size)⟩
  by_cases h2 : 200 < len
  · clear hh hb
    have g1 : ¬ (hl : Int) > 200 := by omega
    have g2 : (len : Int) > 200 := by omega
    clear hwa ba
    generalize u8s KB = KU at *
    go_enter Tryd.func5, Tryd.ntmps5
    go_wp2_with (go_at_call 8; refine (CA.out _ (Below.refl _ _)).mono ?_; rintro e w' ⟨rfl, hbel⟩)
    go_ret
    exact ⟨rfl, HBA.out.trans (hbel.mono HBA.out.size)⟩
  have g1 : ¬ (hl : Int) > 200 := by omega
  have g2 : ¬ (len : Int) > 200 := by omega
  have sh := hh.sl
  have sb := hb.sl
  have hlh : (zs.take hl).length = hl := by rw [List.length_take]; have := hh.2.1; have := hh.2.2.1; omega
  have hlx : (ys.take len).length = len := by rw [List.length_take]; have := hb.2.1; have := hb.2.2.1; omega
  generalize zs.take hl = H at *
  generalize ys.take len = X at *
  have HLH : Hid (H.length = hl) := hlh
  have HLX : Hid (X.length = len) := hlx
  have HXB : Hid (Pl.Byt X) := sb.bytes
  have HHB : Hid (Pl.Byt H) := sh.bytes
  have HSH : Hid (∀ W, Below wa.heap.size wa W → Sl W (.slice ha hl hcp) H) := fun W h => (sh.kept ba).kept h
  have HSX : Hid (∀ W, Below wa.heap.size wa W → Sl W (.slice a len cap) X) := fun W h => (sb.kept ba).kept h
  have HTT : Hid (∀ W, Below wa.heap.size wa W → Tabs W) := fun W h => (hw.kept ba).kept h
  have HGA : Hid (∀ W, Below wa.heap.size wa W → W.heap[w.heap.size]? = some (.cells (u8s KB) 26 (0, 0))) := fun W h => (h.block _ (by rw [hwa]; simp)).trans (by rw [hwa]; exact heap_alloc_new _ _)
  have HI : Hid ((Tryd.prog.info? 26).map (·.size) = some (u8s KB).size) := by unfold Hid; rw [u8s_size, hK]; exact size26
  have HKK : Hid (KB.length = 32) := hK
  have HKB : Hid (Pl.Byt KB) := hKb
  have C14 : Hid (∀ W v, Below wa.heap.size wa W → Sl W v X → Calls Tryd.prog 14 #[.agg (u8s KB), .slice ha hl hcp, v] W fun e w' => ∃ v', e = .returned (.tuple #[v', .int .i64 (opE KB H X)]) ∧ Sl w' v' (opX KB H X) ∧ Below W.heap.size W w') := fun W v hW hS =>
    open_any KB _ v H X W HKK.out HKB.out (HTT.out _ hW) (HSH.out _ hW) hS (by rw [HLH.out]; omega) (by rw [HLX.out]; omega)
  have C15 : Hid (∀ W, Below wa.heap.size wa W → Calls Tryd.prog 15 #[.agg (u8s KB), .slice ha hl hcp, .slice a len cap] W fun e w' => ∃ v', e = .returned (.tuple #[v', .int .i64 (opE KB H X)]) ∧ Sl w' v' (opX KB H X) ∧ Below W.heap.size W w') := fun W hW =>
    ropen_any KB _ _ H X W HKK.out HKB.out (HSH.out _ hW) (HSX.out _ hW) (by rw [HLH.out]; omega) (by rw [HLX.out]; omega)
  have C16 : Hid (∀ W v, Tabs W → Sl W (.slice ha hl hcp) H → Sl W v X → Calls Tryd.prog 16 #[.agg (u8s KB), .slice ha hl hcp, v] W fun e w' => ∃ v', e = .returned v' ∧ w'.ownsRow W.heap.size 5 1 v' (X ++ btag KB H X).length ((X ++ btag KB H X).map (Value.int .u8)) ∧ Below W.heap.size W w') := fun W v hT hS hX =>
    seal_any KB _ v H X W HKK.out HKB.out hT hS hX (by rw [HLH.out]; omega) (by rw [HLX.out]; omega)
  have C17 : Hid (∀ W, Sl W (.slice ha hl hcp) H → Sl W (.slice a len cap) X → Calls Tryd.prog 17 #[.agg (u8s KB), .slice ha hl hcp, .slice a len cap] W fun e w' => ∃ v', e = .returned v' ∧ w'.ownsRow W.heap.size 5 1 v' (X ++ btag KB H X).length ((X ++ btag KB H X).map (Value.int .u8)) ∧ Below W.heap.size W w') := fun W hS hX =>
    rseal_any KB _ _ H X W HKK.out HKB.out hS hX (by rw [HLH.out]; omega) (by rw [HLX.out]; omega)
  have C18 : Hid (∀ W p, Tab W → Parts W p [H, X] → p ≠ none → Calls Tryd.prog 18 #[.agg (u8s KB), .slice p 2 2] W fun e w' => ∃ v', e = .returned v' ∧ w'.ownsRow W.heap.size 5 1 v' 16 ((tagB KB (H ++ X)).map (Value.int .u8)) ∧ Below W.heap.size W w') := fun W p hT hP hp =>
    tag2_any KB H X p W HKK.out HKB.out hT hP hp (by rw [HLH.out, HLX.out]; omega)
  have C19 : Hid (∀ W v, Sl W v (H ++ X) → Calls Tryd.prog 19 #[.agg (u8s KB), v] W fun e w' => ∃ v', e = .returned v' ∧ w'.ownsRow W.heap.size 5 1 v' 16 ((tagB KB (H ++ X)).map (Value.int .u8)) ∧ Below W.heap.size W w') := fun W v hS =>
    rtag_any KB v (H ++ X) W HKK.out HKB.out hS (by rw [List.length_append, HLH.out, HLX.out]; omega)
  have HSB : Hid (Pl.Byt (X ++ btag KB H X)) := byt_app HXB.out (tagB_byt _ _)
  have HTB : Hid (Pl.Byt (tagB KB (H ++ X))) := tagB_byt _ _
  have HTL : Hid ((tagB KB (H ++ X)).length = 16) := tagB_len _ _
  have hu26 := Tryd.underlying26
  have hi26 : (Tryd.prog.info? 26).map (·.size) = some (KB.map (Value.int .u8)).length := by rw [List.length_map, hK]; exact size26
  have FR0 : Hid (∀ W, Below wa.heap.size wa W → W.rangeAt w.heap.size 0 (KB.map (Value.int .u8))) := fun W h => range_sum (HGA.out W h)
  generalize X ++ btag KB H X = SL at *
  generalize tagB KB (H ++ X) = TG at *
  generalize opE KB H X = EE at *
  generalize opX KB H X = OX at *
  obtain ⟨ll, hll⟩ : ∃ ll, ll = SL.length := ⟨_, rfl⟩
  have HSLL : Hid (ll = SL.length) := hll
  rw [← hll] at C16 C17
  clear hll
  obtain ⟨KU, hKU⟩ : ∃ KU, KU = u8s KB := ⟨_, rfl⟩
  have HKU : Hid (KU = u8s KB) := hKU
  rw [← hKU] at HGA HI hwz C14 C15 ⊢
  have own0 := own_mono (own_empty wa) (Nat.le_refl _)
  have b0 := al_below wa (.cells #[] 5)
  have sx0 := HSX.out _ b0
  clear hh hb hw sh sb hlh hlx hwa ba hK hKb hKU
  go_enter Tryd.func5, Tryd.ntmps5
  go_wp2_with (at_builtin; refine wpList_append_sl rfl _ _ rfl wa.heap.size _ _ _ rfl own0 _ X rfl sx0 (by rw [HLX.out]; omega) b0.size (Hid.out ?_))
  unfold Hid
  intro v1 w1 own1 hg1
  have B1 : Below wa.heap.size wa w1 := b0.grown hg1 b0.size (own_base own0)
  have own1' : w1.ownsRow wa.heap.size 5 1 v1 X.length (X.map (Value.int .u8)) := own1
  have HS1 : Hid (∀ W, Below w1.heap.size w1 W → Sl W v1 X) := fun W hW => (sl_owned own1' HXB.out).kept hW
  have HB1 : Hid (Below wa.heap.size wa w1) := B1
  have c14 := C14.out w1 v1 B1 (HS1.out _ (Below.refl _ _))
  obtain ⟨a1, q1, rfl, -⟩ := sl_owned own1' HXB.out
  rw [HLX.out] at c14 HS1 ⊢
  clear own0 own1 own1' hg1 b0 sx0 B1
  go_wp2_with (refine wpList_load_row rfl 26 _ rfl w.heap.size rfl 26 KU (0, 0) _ (HGA.out _ HB1.out) Tryd.underlying26 rfl HI.out ?_)
  refine c14.mono ?_
  rintro e w2 ⟨v2, rfl, s2, b2⟩
  have HB2 : Hid (Below wa.heap.size wa w2) := HB1.out.trans (b2.mono HB1.out.size)
  have D2 : Hid (Below w1.heap.size w1 w2) := b2
  have HS2 : Hid (∀ W, Below w2.heap.size w2 W → Sl W v2 OX) := fun W hW => s2.kept hW
  have c15 := C15.out w2 HB2.out
  obtain ⟨a2, q2, rfl, -⟩ := s2
  clear c14 b2
  obtain ⟨ol, hol⟩ : ∃ ol, ol = OX.length := ⟨_, rfl⟩
  have HOL : Hid (ol = OX.length) := hol
  rw [← hol] at HS2 ⊢
  clear hol
  go_wp2_with (refine wpList_load_row rfl 26 _ rfl w.heap.size rfl 26 KU (0, 0) _ (HGA.out _ HB2.out) Tryd.underlying26 rfl HI.out ?_)
  refine c15.mono ?_
  rintro e w3 ⟨v3, rfl, s3, b3⟩
  have HB3 : Below wa.heap.size wa w3 := HB2.out.trans (b3.mono HB2.out.size)
  have D3 : Below w1.heap.size w1 w3 := D2.out.trans (b3.mono D2.out.size)
  have FR : Hid (∀ x, From w3 x → x.rangeAt w.heap.size 0 (KB.map (Value.int .u8))) := fun x hx => FR0.out x (HB3.trans (Below.mono hx HB3.size))
  have FH : Hid (∀ x, From w3 x → Sl x (.slice ha hl hcp) H) := fun x hx => HSH.out x (HB3.trans (Below.mono hx HB3.size))
  have FX : Hid (∀ x, From w3 x → Sl x (.slice a len cap) X) := fun x hx => HSX.out x (HB3.trans (Below.mono hx HB3.size))
  have FI : Hid (∀ x, From w3 x → Sl x (.slice a1 len q1) X) := fun x hx => HS1.out x (D3.trans (Below.mono hx D3.size))
  have FT : Hid (∀ x, From w3 x → Tabs x) := fun x hx => HTT.out x (HB3.trans (Below.mono hx HB3.size))
  have FZ : Hid (∀ x, From w3 x → Below wa.heap.size wa x) := fun x hx => HB3.trans (Below.mono hx HB3.size)
  have FCI : Hid (∀ x, From w3 x → (convert 22 9 (.slice a1 len q1)).run Tryd.prog x = .ok (.string (strB X)) x) := fun x hx => (FI.out x hx).conv
  have FCX : Hid (∀ x, From w3 x → (convert 22 9 (.slice a len cap)).run Tryd.prog x = .ok (.string (strB X)) x) := fun x hx => (FX.out x hx).conv
  have FC2 : Hid (∀ x, From w3 x → (convert 22 9 (.slice a2 ol q2)).run Tryd.prog x = .ok (.string (strB OX)) x) := fun x hx => (HS2.out x (b3.trans (Below.mono hx b3.size))).conv
  have FS3 : Hid (∀ x, From w3 x → Sl x v3 OX) := fun x hx => s3.kept hx
  obtain ⟨a3, q3, rfl, -⟩ := s3
  rw [← HOL.out] at FS3 ⊢
  have FC3 : Hid (∀ x, From w3 x → (convert 22 9 (.slice a3 ol q3)).run Tryd.prog x = .ok (.string (strB OX)) x) := fun x hx => (FS3.out x hx).conv
  generalize strB X = SX at *
  generalize strB OX = SO at *
  clear c15 b3 HB3 D3 D2 HS1 HS2 FS3 HGA FR0 HSH HSX HTT HB1 HB2 C14 C15 HOL
  go_wp2_with fail
  refine wp_region_held_drew (S := From w3) (by kernel_rfl) ((Below.refl _ _).drew) (fun _ => ?_)
  refine wpAnyH_on ((Below.refl _ _).drew) (fun u0 hu0 bu0 => ?_)
  replace FR := on FR bu0
  replace FH := on FH bu0
  replace FX := on FX bu0
  replace FI := on FI bu0
  replace FT := on FT bu0
  replace FZ := on FZ bu0
  replace FCI := on FCI bu0
  replace FCX := on FCX bu0
  replace FC2 := on FC2 bu0
  replace FC3 := on FC3 bu0
  refine wpAnyH_take (i := 0) (oi := { dst := some 38, op := Op.load 26 (Operand.tmp 3), type := 26, pos := "law.go:51", after := #[], guard := none }) (v := .agg (KB.map (Value.int .u8)).toArray) rfl (by kernel_rfl) (by kernel_rfl) (by kernel_rfl) (fun _ _ _ h => h) (yieldsIf_load_mid (by rfl) _ _ rfl w.heap.size 0 rfl _ _ (fun x h => FR.out x h) hu26 rfl hi26) (Below.refl _ _) ?_
  try simp only [Act.put, List.setIfInBounds_toArray, List.set_cons_zero, List.set_cons_succ]
  refine wpAnyH_take (i := 1) (oi := { dst := some 39, op := Op.move (Operand.tmp 1), type := 22, pos := "law.go:51", after := #[], guard := none }) (v := ?va2) rfl (by kernel_rfl) (by kernel_rfl) (by kernel_rfl) (fun _ _ _ h => h) (Or.inl ⟨by rfl, ?ya2⟩) (Below.refl _ _) ?ra2
  case ya2 => (intro w hSw; go_simp; try with_reducible rfl)
  try simp only [Act.put, List.setIfInBounds_toArray, List.set_cons_zero, List.set_cons_succ]
  refine wpAnyH_take (i := 2) (oi := { dst := some 40, op := Op.move (Operand.tmp 7), type := 22, pos := "law.go:51", after := #[], guard := none }) (v := ?va3) rfl (by kernel_rfl) (by kernel_rfl) (by kernel_rfl) (fun _ _ _ h => h) (Or.inl ⟨by rfl, ?ya3⟩) (Below.refl _ _) ?ra3
  case ya3 => (intro w hSw; go_simp; try with_reducible rfl)
  try simp only [Act.put, List.setIfInBounds_toArray, List.set_cons_zero, List.set_cons_succ]
  refine wpAnyH_take (i := 5) (oi := { dst := some 43, op := Op.load 26 (Operand.tmp 3), type := 26, pos := "law.go:51", after := #[], guard := none }) (v := .agg (KB.map (Value.int .u8)).toArray) rfl (by kernel_rfl) (by kernel_rfl) (by kernel_rfl) (fun _ _ _ h => h) (yieldsIf_load_mid (by rfl) _ _ rfl w.heap.size 0 rfl _ _ (fun x h => FR.out x h) hu26 rfl hi26) (Below.refl _ _) ?_
  try simp only [Act.put, List.setIfInBounds_toArray, List.set_cons_zero, List.set_cons_succ]
  refine wpAnyH_take (i := 6) (oi := { dst := some 44, op := Op.move (Operand.tmp 1), type := 22, pos := "law.go:51", after := #[], guard := none }) (v := ?va5) rfl (by kernel_rfl) (by kernel_rfl) (by kernel_rfl) (fun _ _ _ h => h) (Or.inl ⟨by rfl, ?ya5⟩) (Below.refl _ _) ?ra5
  case ya5 => (intro w hSw; go_simp; try with_reducible rfl)
  try simp only [Act.put, List.setIfInBounds_toArray, List.set_cons_zero, List.set_cons_succ]
  refine wpAnyH_take (i := 7) (oi := { dst := some 45, op := Op.move (Operand.tmp 2), type := 22, pos := "law.go:51", after := #[], guard := none }) (v := ?va6) rfl (by kernel_rfl) (by kernel_rfl) (by kernel_rfl) (fun _ _ _ h => h) (Or.inl ⟨by rfl, ?ya6⟩) (Below.refl _ _) ?ra6
  case ya6 => (intro w hSw; go_simp; try with_reducible rfl)
  try simp only [Act.put, List.setIfInBounds_toArray, List.set_cons_zero, List.set_cons_succ]
  refine wpAnyH_ready (rs := [3]) (by kernel_rfl) (by simp) ?_
  refine AllReadyH.cons (o := { dst := some 41, op := Op.call { callee := Callee.value (Operand.func 16), args := #[Operand.tmp 38, Operand.tmp 39, Operand.tmp 40], argTypes := #[26, 22, 22] }, type := 22, pos := "law.go:51", after := #[{ on := 0, ground := Ground.data }, { on := 1, ground := Ground.data }, { on := 2, ground := Ground.data }], guard := none }) rfl (fun KK hKK => ?_) ?_
  · go_simp
    refine (C16.out _ _ (FT.out _ (Below.refl _ _)) (FH.out _ (Below.refl _ _)) (FI.out _ (Below.refl _ _))).mono ?_
    rintro e u7' ⟨v3, rfl, own3, bu7'⟩
    rw [HSLL.out] at own3
    have s3 := sl_owned own3 HSB.out
    obtain ⟨a3, q3, rfl, -⟩ := id s3
    rw [← HSLL.out] at s3 ⊢
    (try go_wp2_with fail)
    refine hKK.out _ _ (bu7') (fun _ => ?_)
    clear hKK KK
    try simp only [Act.put, List.setIfInBounds_toArray, List.set_cons_zero, List.set_cons_succ]
    refine wpAnyH_on (bu7') (fun u7 hu7 bu7 => ?_)
    replace FR := on FR bu7
    replace FH := on FH bu7
    replace FX := on FX bu7
    replace FI := on FI bu7
    replace FT := on FT bu7
    replace FZ := on FZ bu7
    replace FCI := on FCI bu7
    replace FCX := on FCX bu7
    replace FC2 := on FC2 bu7
    replace FC3 := on FC3 bu7
    have F3 : Hid (∀ x, From u7 x → (convert 22 9 (.slice a3 ll q3)).run Tryd.prog x = .ok (.string (strB SL)) x) := fun x hx => by rw [hu7.out] at hx; exact (s3.kept hx).conv
    clear own3 s3
    refine wpAnyH_take (i := 4) (oi := { dst := some 42, op := Op.convert 22 9 (Operand.tmp 41), type := 9, pos := "law.go:51", after := #[{ on := 3, ground := Ground.data }], guard := none }) (v := ?va8) rfl (by kernel_rfl) (by kernel_rfl) (by kernel_rfl) (fun _ _ _ h => h) (Or.inl ⟨by rfl, ?ya8⟩) (Below.refl _ _) ?ra8
    case ya8 => (intro w hSw; have t := F3.out w hSw; go_simp; try with_reducible rfl)
    try simp only [Act.put, List.setIfInBounds_toArray, List.set_cons_zero, List.set_cons_succ]
    refine wpAnyH_ready (rs := [8]) (by kernel_rfl) (by simp) ?_
    refine AllReadyH.cons (o := { dst := some 46, op := Op.call { callee := Callee.value (Operand.func 17), args := #[Operand.tmp 43, Operand.tmp 44, Operand.tmp 45], argTypes := #[26, 22, 22] }, type := 22, pos := "law.go:51", after := #[{ on := 5, ground := Ground.data }, { on := 6, ground := Ground.data }, { on := 7, ground := Ground.data }, { on := 3, ground := Ground.chain }], guard := none }) rfl (fun KK hKK => ?_) ?_
    · go_simp
      refine (C17.out _ (FH.out _ (Below.refl _ _)) (FX.out _ (Below.refl _ _))).mono ?_
      rintro e u9' ⟨v8, rfl, own8, bu9'⟩
      rw [HSLL.out] at own8
      have s8 := sl_owned own8 HSB.out
      obtain ⟨a8, q8, rfl, -⟩ := id s8
      rw [← HSLL.out] at s8 ⊢
      (try go_wp2_with fail)
      refine hKK.out _ _ (bu9') (fun _ => ?_)
      clear hKK KK
      try simp only [Act.put, List.setIfInBounds_toArray, List.set_cons_zero, List.set_cons_succ]
      refine wpAnyH_on (bu9') (fun u9 hu9 bu9 => ?_)
      replace FR := on FR bu9
      replace FH := on FH bu9
      replace FX := on FX bu9
      replace FI := on FI bu9
      replace FT := on FT bu9
      replace FZ := on FZ bu9
      replace FCI := on FCI bu9
      replace FCX := on FCX bu9
      replace FC2 := on FC2 bu9
      replace FC3 := on FC3 bu9
      replace F3 := on F3 bu9
      have F8 : Hid (∀ x, From u9 x → (convert 22 9 (.slice a8 ll q8)).run Tryd.prog x = .ok (.string (strB SL)) x) := fun x hx => by rw [hu9.out] at hx; exact (s8.kept hx).conv
      clear own8 s8
      refine wpAnyH_take (i := 9) (oi := { dst := some 47, op := Op.convert 22 9 (Operand.tmp 46), type := 9, pos := "law.go:51", after := #[{ on := 8, ground := Ground.data }], guard := none }) (v := ?va10) rfl (by kernel_rfl) (by kernel_rfl) (by kernel_rfl) (fun _ _ _ h => h) (Or.inl ⟨by rfl, ?ya10⟩) (Below.refl _ _) ?ra10
      case ya10 => (intro w hSw; have t := F8.out w hSw; go_simp; try with_reducible rfl)
      try simp only [Act.put, List.setIfInBounds_toArray, List.set_cons_zero, List.set_cons_succ]
      refine wpAnyH_take (i := 10) (oi := { dst := some 48, op := Op.binOp BinOp.eql 9 (Operand.tmp 42) (Operand.tmp 47) 9, type := 4, pos := "law.go:51", after := #[{ on := 4, ground := Ground.data }, { on := 9, ground := Ground.data }], guard := none }) (v := ?va11) rfl (by kernel_rfl) (by kernel_rfl) (by kernel_rfl) (fun _ _ _ h => h) (Or.inl ⟨by rfl, ?ya11⟩) (Below.refl _ _) ?ra11
      case ya11 => (intro w hSw; go_simp; try with_reducible rfl)
      try simp only [Act.put, List.setIfInBounds_toArray, List.set_cons_zero, List.set_cons_succ]
      refine wpAnyH_take (i := 11) (oi := { dst := some 49, op := Op.move (Operand.tmp 48), type := 4, pos := "law.go:51", after := #[{ on := 10, ground := Ground.data }, { on := 8, ground := Ground.chain }], guard := none }) (v := ?va12) rfl (by kernel_rfl) (by kernel_rfl) (by kernel_rfl) (fun _ _ _ h => h) (Or.inl ⟨by rfl, ?ya12⟩) (Below.refl _ _) ?ra12
      case ya12 => (intro w hSw; go_simp; try with_reducible rfl)
      try simp only [Act.put, List.setIfInBounds_toArray, List.set_cons_zero, List.set_cons_succ]
      refine wpAnyH_take (i := 12) (oi := { dst := some 50, op := Op.load 26 (Operand.tmp 3), type := 26, pos := "law.go:51", after := #[{ on := 11, ground := Ground.guard }], guard := some (11, true) }) (v := .agg (KB.map (Value.int .u8)).toArray) rfl (by kernel_rfl) (by kernel_rfl) (by kernel_rfl) (fun _ _ _ h => h) (yieldsIf_load_mid (by rfl) _ _ rfl w.heap.size 0 rfl _ _ (fun x h => FR.out x h) hu26 rfl hi26) (Below.refl _ _) ?_
      try simp only [Act.put, List.setIfInBounds_toArray, List.set_cons_zero, List.set_cons_succ]
      refine wpAnyH_take (i := 13) (oi := { dst := some 51, op := Op.move (Operand.tmp 1), type := 22, pos := "law.go:51", after := #[{ on := 11, ground := Ground.guard }], guard := some (11, true) }) (v := ?va14) rfl (by kernel_rfl) (by kernel_rfl) (by kernel_rfl) (fun _ _ _ h => h) (Or.inl ⟨by rfl, ?ya14⟩) (Below.refl _ _) ?ra14
      case ya14 => (intro w hSw; go_simp; try with_reducible rfl)
      try simp only [Act.put, List.setIfInBounds_toArray, List.set_cons_zero, List.set_cons_succ]
      refine wpAnyH_take (i := 14) (oi := { dst := some 52, op := Op.move (Operand.tmp 7), type := 22, pos := "law.go:51", after := #[{ on := 11, ground := Ground.guard }], guard := some (11, true) }) (v := ?va15) rfl (by kernel_rfl) (by kernel_rfl) (by kernel_rfl) (fun _ _ _ h => h) (Or.inl ⟨by rfl, ?ya15⟩) (Below.refl _ _) ?ra15
      case ya15 => (intro w hSw; go_simp; try with_reducible rfl)
      try simp only [Act.put, List.setIfInBounds_toArray, List.set_cons_zero, List.set_cons_succ]
      refine wpAnyH_take (i := 18) (oi := { dst := some 56, op := Op.load 26 (Operand.tmp 3), type := 26, pos := "law.go:51", after := #[{ on := 11, ground := Ground.guard }], guard := some (11, true) }) (v := .agg (KB.map (Value.int .u8)).toArray) rfl (by kernel_rfl) (by kernel_rfl) (by kernel_rfl) (fun _ _ _ h => h) (yieldsIf_load_mid (by rfl) _ _ rfl w.heap.size 0 rfl _ _ (fun x h => FR.out x h) hu26 rfl hi26) (Below.refl _ _) ?_
      try simp only [Act.put, List.setIfInBounds_toArray, List.set_cons_zero, List.set_cons_succ]
      refine wpAnyH_take (i := 20) (oi := { dst := some 58, op := Op.move (Operand.tmp 1), type := 22, pos := "law.go:51", after := #[{ on := 11, ground := Ground.guard }], guard := some (11, true) }) (v := ?va17) rfl (by kernel_rfl) (by kernel_rfl) (by kernel_rfl) (fun _ _ _ h => h) (Or.inl ⟨by rfl, ?ya17⟩) (Below.refl _ _) ?ra17
      case ya17 => (intro w hSw; go_simp; try with_reducible rfl)
      try simp only [Act.put, List.setIfInBounds_toArray, List.set_cons_zero, List.set_cons_succ]
      refine wpAnyH_take (i := 22) (oi := { dst := some 60, op := Op.move (Operand.tmp 2), type := 22, pos := "law.go:51", after := #[{ on := 11, ground := Ground.guard }], guard := some (11, true) }) (v := ?va18) rfl (by kernel_rfl) (by kernel_rfl) (by kernel_rfl) (fun _ _ _ h => h) (Or.inl ⟨by rfl, ?ya18⟩) (Below.refl _ _) ?ra18
      case ya18 => (intro w hSw; go_simp; try with_reducible rfl)
      try simp only [Act.put, List.setIfInBounds_toArray, List.set_cons_zero, List.set_cons_succ]
      refine wpAnyH_ready (rs := [15, 19]) (by kernel_rfl) (by simp) ?_
      refine AllReadyH.cons (o := { dst := some 53, op := Op.buildSlice 30 2 #[(0, Operand.tmp 51), (1, Operand.tmp 52)], type := 30, pos := "law.go:51", after := #[{ on := 13, ground := Ground.data }, { on := 14, ground := Ground.data }, { on := 11, ground := Ground.guard }], guard := some (11, true) }) rfl (fun KK hKK => ?_) ?_
      · have pu19 := parts2 u9 _ _ H X (FH.out _ (Below.refl _ _)) (FI.out _ (Below.refl _ _))
        go_simp
        refine hKK.out _ _ (al_below _ _) (fun _ => ?_)
        clear hKK KK
        try simp only [Act.put, List.setIfInBounds_toArray, List.set_cons_zero, List.set_cons_succ]
        refine wpAnyH_on (al_below _ _) (fun u19 hu19 bu19 => ?_)
        replace FR := on FR bu19
        replace FH := on FH bu19
        replace FX := on FX bu19
        replace FI := on FI bu19
        replace FT := on FT bu19
        replace FZ := on FZ bu19
        replace FCI := on FCI bu19
        replace FCX := on FCX bu19
        replace FC2 := on FC2 bu19
        replace FC3 := on FC3 bu19
        replace F3 := on F3 bu19
        replace F8 := on F8 bu19
        have FP : Hid (∀ x, From u19 x → Parts x (some ⟨u9.heap.size, 0, none⟩) [H, X]) := fun x hx => Parts.kept (by rw [hu19.out]; exact pu19) hx
        clear pu19
        refine wpAnyH_ready (rs := [16, 19]) (by kernel_rfl) (by simp) ?_
        refine AllReadyH.cons (o := { dst := some 54, op := Op.call { callee := Callee.value (Operand.func 18), args := #[Operand.tmp 50, Operand.tmp 53], argTypes := #[26, 30] }, type := 22, pos := "law.go:51", after := #[{ on := 12, ground := Ground.data }, { on := 15, ground := Ground.data }, { on := 11, ground := Ground.chain }, { on := 11, ground := Ground.guard }], guard := some (11, true) }) rfl (fun KK hKK => ?_) ?_
        · go_simp
          refine (C18.out _ _ (FT.out _ (Below.refl _ _)).1 (FP.out _ (Below.refl _ _)) (by simp)).mono ?_
          rintro e u20' ⟨v16, rfl, own16, bu20'⟩
          rw [← HTL.out] at own16
          have s16 := sl_owned own16 HTB.out
          obtain ⟨a16, q16, rfl, -⟩ := id s16
          rw [HTL.out] at s16 ⊢
          (try go_wp2_with fail)
          refine hKK.out _ _ (bu20') (fun _ => ?_)
          clear hKK KK
          try simp only [Act.put, List.setIfInBounds_toArray, List.set_cons_zero, List.set_cons_succ]
          refine wpAnyH_on (bu20') (fun u20 hu20 bu20 => ?_)
          replace FR := on FR bu20
          replace FH := on FH bu20
          replace FX := on FX bu20
          replace FI := on FI bu20
          replace FT := on FT bu20
          replace FZ := on FZ bu20
          replace FCI := on FCI bu20
          replace FCX := on FCX bu20
          replace FC2 := on FC2 bu20
          replace FC3 := on FC3 bu20
          replace F3 := on F3 bu20
          replace F8 := on F8 bu20
          replace FP := on FP bu20
          have F16 : Hid (∀ x, From u20 x → (convert 22 9 (.slice a16 16 q16)).run Tryd.prog x = .ok (.string (strB TG)) x) := fun x hx => by rw [hu20.out] at hx; exact (s16.kept hx).conv
          clear own16 s16
          refine wpAnyH_take (i := 17) (oi := { dst := some 55, op := Op.convert 22 9 (Operand.tmp 54), type := 9, pos := "law.go:51", after := #[{ on := 16, ground := Ground.data }, { on := 11, ground := Ground.guard }], guard := some (11, true) }) (v := ?va21) rfl (by kernel_rfl) (by kernel_rfl) (by kernel_rfl) (fun _ _ _ h => h) (Or.inl ⟨by rfl, ?ya21⟩) (Below.refl _ _) ?ra21
          case ya21 => (intro w hSw; have t := F16.out w hSw; go_simp; try with_reducible rfl)
          try simp only [Act.put, List.setIfInBounds_toArray, List.set_cons_zero, List.set_cons_succ]
          refine wpAnyH_ready (rs := [19]) (by kernel_rfl) (by simp) ?_
          refine AllReadyH.cons (o := { dst := some 57, op := Op.buildSlice 22 0 #[], type := 22, pos := "law.go:51", after := #[{ on := 11, ground := Ground.guard }], guard := some (11, true) }) rfl (fun KK hKK => ?_) ?_
          · go_simp
            refine hKK.out _ _ (al_below _ _) (fun _ => ?_)
            clear hKK KK
            try simp only [Act.put, List.setIfInBounds_toArray, List.set_cons_zero, List.set_cons_succ]
            refine wpAnyH_on (al_below _ _) (fun u22 hu22 bu22 => ?_)
            replace FR := on FR bu22
            replace FH := on FH bu22
            replace FX := on FX bu22
            replace FI := on FI bu22
            replace FT := on FT bu22
            replace FZ := on FZ bu22
            replace FCI := on FCI bu22
            replace FCX := on FCX bu22
            replace FC2 := on FC2 bu22
            replace FC3 := on FC3 bu22
            replace F3 := on F3 bu22
            replace F8 := on F8 bu22
            replace FP := on FP bu22
            replace F16 := on F16 bu22
            have FE : Hid (∀ x, From u22 x → x.heap[u20.heap.size]? = some (.cells #[] 5 (0, 0))) := fun x hx => (Below.block hx _ (by rw [hu22.out]; simp)).trans (by rw [hu22.out]; exact heap_alloc_new _ _)
            refine wpAnyH_ready (rs := [21]) (by kernel_rfl) (by simp) ?_
            refine AllReadyH.cons (o := { dst := some 59, op := Op.call { callee := Callee.builtin Builtin.append, args := #[Operand.tmp 57, Operand.tmp 58], argTypes := #[22, 22] }, type := 22, pos := "law.go:51", after := #[{ on := 19, ground := Ground.data }, { on := 20, ground := Ground.data }, { on := 16, ground := Ground.chain }, { on := 11, ground := Ground.guard }], guard := some (11, true) }) rfl (fun KK hKK => ?_) ?_
            · rw [if_pos (by rfl)]
              refine wp_append_emp _ _ rfl _ rfl (FE.out _ (Below.refl _ _)) _ H rfl (FH.out _ (Below.refl _ _)) (by rw [HLH.out]; omega) ?_
              intro v21 u23' e21 bu23'
              refine hKK.out _ _ (bu23') (fun _ => ?_)
              clear hKK KK
              try simp only [Act.put, List.setIfInBounds_toArray, List.set_cons_zero, List.set_cons_succ]
              refine wpAnyH_name (fun u23 hu23 => ?_)
              have bu23 : Below u22.heap.size u22 u23 := by rw [hu23.out]; exact (bu23')
              have E21 : Hid (Emp u23 u22.heap.size v21 H) := by unfold Hid; rw [hu23.out]; exact e21
              clear e21
              refine wpAnyH_ready (rs := [23]) (by kernel_rfl) (by simp) ?_
              refine AllReadyH.cons (o := { dst := some 61, op := Op.call { callee := Callee.builtin Builtin.append, args := #[Operand.tmp 59, Operand.tmp 60], argTypes := #[22, 22] }, type := 22, pos := "law.go:51", after := #[{ on := 21, ground := Ground.data }, { on := 22, ground := Ground.data }, { on := 21, ground := Ground.chain }, { on := 11, ground := Ground.guard }], guard := some (11, true) }) rfl (fun KK hKK => ?_) ?_
              · rw [if_pos (by rfl)]
                refine wp_append_emp2 _ _ rfl u22.heap.size _ H rfl E21.out bu23.size HHB.out _ X rfl (FX.out _ bu23) (by rw [HLH.out, HLX.out]; omega) ?_
                intro v23 u24' s23 bu24'
                refine hKK.out _ _ (bu23.trans bu24') (fun _ => ?_)
                clear hKK KK
                try simp only [Act.put, List.setIfInBounds_toArray, List.set_cons_zero, List.set_cons_succ]
                refine wpAnyH_name (fun u24 hu24 => ?_)
                have bu24 : Below u22.heap.size u22 u24 := by rw [hu24.out]; exact (bu23.trans bu24')
                have S23 : Hid (Sl u24 v23 (H ++ X)) := by unfold Hid; rw [hu24.out]; exact s23
                clear s23 E21
                refine wpAnyH_ready (rs := [24]) (by kernel_rfl) (by simp) ?_
                refine AllReadyH.cons (o := { dst := some 62, op := Op.call { callee := Callee.value (Operand.func 19), args := #[Operand.tmp 56, Operand.tmp 61], argTypes := #[26, 22] }, type := 22, pos := "law.go:51", after := #[{ on := 18, ground := Ground.data }, { on := 23, ground := Ground.data }, { on := 23, ground := Ground.chain }, { on := 11, ground := Ground.guard }], guard := some (11, true) }) rfl (fun KK hKK => ?_) ?_
                · go_simp
                  refine (C19.out _ _ S23.out).mono ?_
                  rintro e u25' ⟨v24, rfl, own24, bu25'⟩
                  rw [← HTL.out] at own24
                  have s24 := sl_owned own24 HTB.out
                  obtain ⟨a24, q24, rfl, -⟩ := id s24
                  rw [HTL.out] at s24 ⊢
                  (try go_wp2_with fail)
                  refine hKK.out _ _ (bu24.trans (Below.mono (bu25') bu24.size)) (fun _ => ?_)
                  clear hKK KK
                  try simp only [Act.put, List.setIfInBounds_toArray, List.set_cons_zero, List.set_cons_succ]
                  refine wpAnyH_on (bu24.trans (Below.mono (bu25') bu24.size)) (fun u25 hu25 bu25 => ?_)
                  replace FR := on FR bu25
                  replace FH := on FH bu25
                  replace FX := on FX bu25
                  replace FI := on FI bu25
                  replace FT := on FT bu25
                  replace FZ := on FZ bu25
                  replace FCI := on FCI bu25
                  replace FCX := on FCX bu25
                  replace FC2 := on FC2 bu25
                  replace FC3 := on FC3 bu25
                  replace F3 := on F3 bu25
                  replace F8 := on F8 bu25
                  replace FP := on FP bu25
                  replace F16 := on F16 bu25
                  replace FE := on FE bu25
                  have F24 : Hid (∀ x, From u25 x → (convert 22 9 (.slice a24 16 q24)).run Tryd.prog x = .ok (.string (strB TG)) x) := fun x hx => by rw [hu25.out] at hx; exact (s24.kept hx).conv
                  clear own24 s24
                  refine wpAnyH_take (i := 25) (oi := { dst := some 63, op := Op.convert 22 9 (Operand.tmp 62), type := 9, pos := "law.go:51", after := #[{ on := 24, ground := Ground.data }, { on := 11, ground := Ground.guard }], guard := some (11, true) }) (v := ?va26) rfl (by kernel_rfl) (by kernel_rfl) (by kernel_rfl) (fun _ _ _ h => h) (Or.inl ⟨by rfl, ?ya26⟩) (Below.refl _ _) ?ra26
                  case ya26 => (intro w hSw; have t := F24.out w hSw; go_simp; try with_reducible rfl)
                  try simp only [Act.put, List.setIfInBounds_toArray, List.set_cons_zero, List.set_cons_succ]
                  refine wpAnyH_take (i := 26) (oi := { dst := some 64, op := Op.binOp BinOp.eql 9 (Operand.tmp 55) (Operand.tmp 63) 9, type := 4, pos := "law.go:51", after := #[{ on := 17, ground := Ground.data }, { on := 25, ground := Ground.data }, { on := 11, ground := Ground.guard }], guard := some (11, true) }) (v := ?va27) rfl (by kernel_rfl) (by kernel_rfl) (by kernel_rfl) (fun _ _ _ h => h) (Or.inl ⟨by rfl, ?ya27⟩) (Below.refl _ _) ?ra27
                  case ya27 => (intro w hSw; go_simp; try with_reducible rfl)
                  try simp only [Act.put, List.setIfInBounds_toArray, List.set_cons_zero, List.set_cons_succ]
                  refine wpAnyH_take (i := 27) (oi := { dst := some 65, op := Op.pick (Operand.tmp 49) (Operand.tmp 64) (Operand.const (Value.bool false)), type := 4, pos := "law.go:51", after := #[{ on := 11, ground := Ground.data }, { on := 26, ground := Ground.data }], guard := none }) (v := ?va28) rfl (by kernel_rfl) (by kernel_rfl) (by kernel_rfl) (fun _ _ _ h => h) (Or.inl ⟨by rfl, ?ya28⟩) (Below.refl _ _) ?ra28
                  case ya28 => (intro w hSw; go_simp; try with_reducible rfl)
                  try simp only [Act.put, List.setIfInBounds_toArray, List.set_cons_zero, List.set_cons_succ]
                  refine wpAnyH_take (i := 28) (oi := { dst := some 66, op := Op.move (Operand.tmp 65), type := 4, pos := "law.go:51", after := #[{ on := 27, ground := Ground.data }, { on := 24, ground := Ground.chain }], guard := none }) (v := ?va29) rfl (by kernel_rfl) (by kernel_rfl) (by kernel_rfl) (fun _ _ _ h => h) (Or.inl ⟨by rfl, ?ya29⟩) (Below.refl _ _) ?ra29
                  case ya29 => (intro w hSw; go_simp; try with_reducible rfl)
                  try simp only [Act.put, List.setIfInBounds_toArray, List.set_cons_zero, List.set_cons_succ]
                  refine wpAnyH_take (i := 29) (oi := { dst := some 67, op := Op.move (Operand.tmp 8), type := 22, pos := "law.go:51", after := #[{ on := 28, ground := Ground.guard }], guard := some (28, true) }) (v := ?va30) rfl (by kernel_rfl) (by kernel_rfl) (by kernel_rfl) (fun _ _ _ h => h) (Or.inl ⟨by rfl, ?ya30⟩) (Below.refl _ _) ?ra30
                  case ya30 => (intro w hSw; go_simp; try with_reducible rfl)
                  try simp only [Act.put, List.setIfInBounds_toArray, List.set_cons_zero, List.set_cons_succ]
                  refine wpAnyH_take (i := 30) (oi := { dst := some 68, op := Op.convert 22 9 (Operand.tmp 67), type := 9, pos := "law.go:51", after := #[{ on := 29, ground := Ground.data }, { on := 28, ground := Ground.guard }], guard := some (28, true) }) (v := ?va31) rfl (by kernel_rfl) (by kernel_rfl) (by kernel_rfl) (fun _ _ _ h => h) (Or.inl ⟨by rfl, ?ya31⟩) (Below.refl _ _) ?ra31
                  case ya31 => (intro w hSw; have t := FC2.out w hSw; go_simp; try with_reducible rfl)
                  try simp only [Act.put, List.setIfInBounds_toArray, List.set_cons_zero, List.set_cons_succ]
                  refine wpAnyH_take (i := 31) (oi := { dst := some 69, op := Op.move (Operand.tmp 10), type := 22, pos := "law.go:51", after := #[{ on := 28, ground := Ground.guard }], guard := some (28, true) }) (v := ?va32) rfl (by kernel_rfl) (by kernel_rfl) (by kernel_rfl) (fun _ _ _ h => h) (Or.inl ⟨by rfl, ?ya32⟩) (Below.refl _ _) ?ra32
                  case ya32 => (intro w hSw; go_simp; try with_reducible rfl)
                  try simp only [Act.put, List.setIfInBounds_toArray, List.set_cons_zero, List.set_cons_succ]
                  refine wpAnyH_take (i := 32) (oi := { dst := some 70, op := Op.convert 22 9 (Operand.tmp 69), type := 9, pos := "law.go:51", after := #[{ on := 31, ground := Ground.data }, { on := 28, ground := Ground.guard }], guard := some (28, true) }) (v := ?va33) rfl (by kernel_rfl) (by kernel_rfl) (by kernel_rfl) (fun _ _ _ h => h) (Or.inl ⟨by rfl, ?ya33⟩) (Below.refl _ _) ?ra33
                  case ya33 => (intro w hSw; have t := FC3.out w hSw; go_simp; try with_reducible rfl)
                  try simp only [Act.put, List.setIfInBounds_toArray, List.set_cons_zero, List.set_cons_succ]
                  refine wpAnyH_take (i := 33) (oi := { dst := some 71, op := Op.binOp BinOp.eql 9 (Operand.tmp 68) (Operand.tmp 70) 9, type := 4, pos := "law.go:51", after := #[{ on := 30, ground := Ground.data }, { on := 32, ground := Ground.data }, { on := 28, ground := Ground.guard }], guard := some (28, true) }) (v := ?va34) rfl (by kernel_rfl) (by kernel_rfl) (by kernel_rfl) (fun _ _ _ h => h) (Or.inl ⟨by rfl, ?ya34⟩) (Below.refl _ _) ?ra34
                  case ya34 => (intro w hSw; go_simp; try with_reducible rfl)
                  try simp only [Act.put, List.setIfInBounds_toArray, List.set_cons_zero, List.set_cons_succ]
                  refine wpAnyH_take (i := 34) (oi := { dst := some 72, op := Op.pick (Operand.tmp 66) (Operand.tmp 71) (Operand.const (Value.bool false)), type := 4, pos := "law.go:51", after := #[{ on := 28, ground := Ground.data }, { on := 33, ground := Ground.data }], guard := none }) (v := ?va35) rfl (by kernel_rfl) (by kernel_rfl) (by kernel_rfl) (fun _ _ _ h => h) (Or.inl ⟨by rfl, ?ya35⟩) (Below.refl _ _) ?ra35
                  case ya35 => (intro w hSw; go_simp; try with_reducible rfl)
                  try simp only [Act.put, List.setIfInBounds_toArray, List.set_cons_zero, List.set_cons_succ]
                  refine wpAnyH_take (i := 35) (oi := { dst := some 73, op := Op.move (Operand.tmp 72), type := 4, pos := "law.go:51", after := #[{ on := 34, ground := Ground.data }, { on := 28, ground := Ground.chain }], guard := none }) (v := ?va36) rfl (by kernel_rfl) (by kernel_rfl) (by kernel_rfl) (fun _ _ _ h => h) (Or.inl ⟨by rfl, ?ya36⟩) (Below.refl _ _) ?ra36
                  case ya36 => (intro w hSw; go_simp; try with_reducible rfl)
                  try simp only [Act.put, List.setIfInBounds_toArray, List.set_cons_zero, List.set_cons_succ]
                  refine wpAnyH_take (i := 36) (oi := { dst := some 74, op := Op.move (Operand.tmp 9), type := 35, pos := "law.go:51", after := #[{ on := 35, ground := Ground.guard }], guard := some (35, true) }) (v := ?va37) rfl (by kernel_rfl) (by kernel_rfl) (by kernel_rfl) (fun _ _ _ h => h) (Or.inl ⟨by rfl, ?ya37⟩) (Below.refl _ _) ?ra37
                  case ya37 => (intro w hSw; go_simp; try with_reducible rfl)
                  try simp only [Act.put, List.setIfInBounds_toArray, List.set_cons_zero, List.set_cons_succ]
                  refine wpAnyH_take (i := 37) (oi := { dst := some 75, op := Op.move (Operand.tmp 11), type := 3, pos := "law.go:51", after := #[{ on := 35, ground := Ground.guard }], guard := some (35, true) }) (v := ?va38) rfl (by kernel_rfl) (by kernel_rfl) (by kernel_rfl) (fun _ _ _ h => h) (Or.inl ⟨by rfl, ?ya38⟩) (Below.refl _ _) ?ra38
                  case ya38 => (intro w hSw; go_simp; try with_reducible rfl)
                  try simp only [Act.put, List.setIfInBounds_toArray, List.set_cons_zero, List.set_cons_succ]
                  refine wpAnyH_take (i := 38) (oi := { dst := some 76, op := Op.binOp BinOp.eql 3 (Operand.tmp 74) (Operand.tmp 75) 3, type := 4, pos := "law.go:51", after := #[{ on := 36, ground := Ground.data }, { on := 37, ground := Ground.data }, { on := 35, ground := Ground.guard }], guard := some (35, true) }) (v := ?va39) rfl (by kernel_rfl) (by kernel_rfl) (by kernel_rfl) (fun _ _ _ h => h) (Or.inl ⟨by rfl, ?ya39⟩) (Below.refl _ _) ?ra39
                  case ya39 => (intro w hSw; go_simp; try with_reducible rfl)
                  try simp only [Act.put, List.setIfInBounds_toArray, List.set_cons_zero, List.set_cons_succ]
                  refine wpAnyH_take (i := 39) (oi := { dst := some 77, op := Op.pick (Operand.tmp 73) (Operand.tmp 76) (Operand.const (Value.bool false)), type := 4, pos := "law.go:51", after := #[{ on := 35, ground := Ground.data }, { on := 38, ground := Ground.data }], guard := none }) (v := ?va40) rfl (by kernel_rfl) (by kernel_rfl) (by kernel_rfl) (fun _ _ _ h => h) (Or.inl ⟨by rfl, ?ya40⟩) (Below.refl _ _) ?ra40
                  case ya40 => (intro w hSw; go_simp; try with_reducible rfl)
                  try simp only [Act.put, List.setIfInBounds_toArray, List.set_cons_zero, List.set_cons_succ]
                  refine wpAnyH_take (i := 40) (oi := { dst := some 78, op := Op.move (Operand.tmp 77), type := 4, pos := "law.go:51", after := #[{ on := 39, ground := Ground.data }, { on := 35, ground := Ground.chain }], guard := none }) (v := ?va41) rfl (by kernel_rfl) (by kernel_rfl) (by kernel_rfl) (fun _ _ _ h => h) (Or.inl ⟨by rfl, ?ya41⟩) (Below.refl _ _) ?ra41
                  case ya41 => (intro w hSw; go_simp; try with_reducible rfl)
                  try simp only [Act.put, List.setIfInBounds_toArray, List.set_cons_zero, List.set_cons_succ]
                  refine wpAnyH_take (i := 41) (oi := { dst := some 79, op := Op.move (Operand.tmp 7), type := 22, pos := "law.go:51", after := #[{ on := 40, ground := Ground.guard }], guard := some (40, true) }) (v := ?va42) rfl (by kernel_rfl) (by kernel_rfl) (by kernel_rfl) (fun _ _ _ h => h) (Or.inl ⟨by rfl, ?ya42⟩) (Below.refl _ _) ?ra42
                  case ya42 => (intro w hSw; go_simp; try with_reducible rfl)
                  try simp only [Act.put, List.setIfInBounds_toArray, List.set_cons_zero, List.set_cons_succ]
                  refine wpAnyH_take (i := 42) (oi := { dst := some 80, op := Op.convert 22 9 (Operand.tmp 79), type := 9, pos := "law.go:51", after := #[{ on := 41, ground := Ground.data }, { on := 40, ground := Ground.guard }], guard := some (40, true) }) (v := ?va43) rfl (by kernel_rfl) (by kernel_rfl) (by kernel_rfl) (fun _ _ _ h => h) (Or.inl ⟨by rfl, ?ya43⟩) (Below.refl _ _) ?ra43
                  case ya43 => (intro w hSw; have t := FCI.out w hSw; go_simp; try with_reducible rfl)
                  try simp only [Act.put, List.setIfInBounds_toArray, List.set_cons_zero, List.set_cons_succ]
                  refine wpAnyH_take (i := 43) (oi := { dst := some 81, op := Op.move (Operand.tmp 2), type := 22, pos := "law.go:51", after := #[{ on := 40, ground := Ground.guard }], guard := some (40, true) }) (v := ?va44) rfl (by kernel_rfl) (by kernel_rfl) (by kernel_rfl) (fun _ _ _ h => h) (Or.inl ⟨by rfl, ?ya44⟩) (Below.refl _ _) ?ra44
                  case ya44 => (intro w hSw; go_simp; try with_reducible rfl)
                  try simp only [Act.put, List.setIfInBounds_toArray, List.set_cons_zero, List.set_cons_succ]
                  refine wpAnyH_take (i := 44) (oi := { dst := some 82, op := Op.convert 22 9 (Operand.tmp 81), type := 9, pos := "law.go:51", after := #[{ on := 43, ground := Ground.data }, { on := 40, ground := Ground.guard }], guard := some (40, true) }) (v := ?va45) rfl (by kernel_rfl) (by kernel_rfl) (by kernel_rfl) (fun _ _ _ h => h) (Or.inl ⟨by rfl, ?ya45⟩) (Below.refl _ _) ?ra45
                  case ya45 => (intro w hSw; have t := FCX.out w hSw; go_simp; try with_reducible rfl)
                  try simp only [Act.put, List.setIfInBounds_toArray, List.set_cons_zero, List.set_cons_succ]
                  refine wpAnyH_take (i := 45) (oi := { dst := some 83, op := Op.binOp BinOp.eql 9 (Operand.tmp 80) (Operand.tmp 82) 9, type := 4, pos := "law.go:51", after := #[{ on := 42, ground := Ground.data }, { on := 44, ground := Ground.data }, { on := 40, ground := Ground.guard }], guard := some (40, true) }) (v := ?va46) rfl (by kernel_rfl) (by kernel_rfl) (by kernel_rfl) (fun _ _ _ h => h) (Or.inl ⟨by rfl, ?ya46⟩) (Below.refl _ _) ?ra46
                  case ya46 => (intro w hSw; go_simp; try with_reducible rfl)
                  try simp only [Act.put, List.setIfInBounds_toArray, List.set_cons_zero, List.set_cons_succ]
                  refine wpAnyH_take (i := 46) (oi := { dst := some 84, op := Op.pick (Operand.tmp 78) (Operand.tmp 83) (Operand.const (Value.bool false)), type := 4, pos := "law.go:51", after := #[{ on := 40, ground := Ground.data }, { on := 45, ground := Ground.data }], guard := none }) (v := ?va47) rfl (by kernel_rfl) (by kernel_rfl) (by kernel_rfl) (fun _ _ _ h => h) (Or.inl ⟨by rfl, ?ya47⟩) (Below.refl _ _) ?ra47
                  case ya47 => (intro w hSw; go_simp; try with_reducible rfl)
                  try simp only [Act.put, List.setIfInBounds_toArray, List.set_cons_zero, List.set_cons_succ]
                  refine wpAnyH_take (i := 47) (oi := { dst := some 85, op := Op.move (Operand.tmp 84), type := 4, pos := "law.go:51", after := #[{ on := 46, ground := Ground.data }, { on := 40, ground := Ground.chain }], guard := none }) (v := ?va48) rfl (by kernel_rfl) (by kernel_rfl) (by kernel_rfl) (fun _ _ _ h => h) (Or.inl ⟨by rfl, ?ya48⟩) (Below.refl _ _) ?ra48
                  case ya48 => (intro w hSw; go_simp; try with_reducible rfl)
                  try simp only [Act.put, List.setIfInBounds_toArray, List.set_cons_zero, List.set_cons_succ]
                  refine wpAnyH_ready (rs := [48]) (by kernel_rfl) (by simp) ?_
                  refine AllReadyH.cons (o := { dst := some 86, op := Op.call { callee := Callee.value (Operand.func 8), args := #[], argTypes := #[] }, type := 4, pos := "law.go:51", after := #[{ on := 47, ground := Ground.chain }, { on := 47, ground := Ground.guard }], guard := some (47, true) }) rfl (fun KK hKK => ?_) ?_
                  · go_simp
                    refine (CA.out _ (FZ.out _ (Below.refl _ _))).mono ?_
                    rintro e u49' ⟨rfl, bu49'⟩
                    (try go_wp2_with fail)
                    refine hKK.out _ _ (bu49') (fun _ => ?_)
                    clear hKK KK
                    try simp only [Act.put, List.setIfInBounds_toArray, List.set_cons_zero, List.set_cons_succ]
                    refine wpAnyH_on (bu49') (fun u49 hu49 bu49 => ?_)
                    replace FR := on FR bu49
                    replace FH := on FH bu49
                    replace FX := on FX bu49
                    replace FI := on FI bu49
                    replace FT := on FT bu49
                    replace FZ := on FZ bu49
                    replace FCI := on FCI bu49
                    replace FCX := on FCX bu49
                    replace FC2 := on FC2 bu49
                    replace FC3 := on FC3 bu49
                    replace F3 := on F3 bu49
                    replace F8 := on F8 bu49
                    replace FP := on FP bu49
                    replace F16 := on F16 bu49
                    replace FE := on FE bu49
                    replace F24 := on F24 bu49
                    refine wpAnyH_take (i := 49) (oi := { dst := some 87, op := Op.pick (Operand.tmp 85) (Operand.tmp 86) (Operand.const (Value.bool false)), type := 4, pos := "law.go:51", after := #[{ on := 47, ground := Ground.data }, { on := 48, ground := Ground.data }], guard := none }) (v := ?va50) rfl (by kernel_rfl) (by kernel_rfl) (by kernel_rfl) (fun _ _ _ h => h) (Or.inl ⟨by rfl, ?ya50⟩) (Below.refl _ _) ?ra50
                    case ya50 => (intro w hSw; go_simp; try with_reducible rfl)
                    try simp only [Act.put, List.setIfInBounds_toArray, List.set_cons_zero, List.set_cons_succ]
                    refine wpAnyH_take (i := 50) (oi := { dst := some 6, op := Op.assign (Operand.tmp 87), type := 4, pos := "law.go:51", after := #[{ on := 49, ground := Ground.data }, { on := 48, ground := Ground.chain }, { on := 0, ground := Ground.phase }, { on := 1, ground := Ground.phase }, { on := 2, ground := Ground.phase }, { on := 3, ground := Ground.phase }, { on := 4, ground := Ground.phase }, { on := 5, ground := Ground.phase }, { on := 6, ground := Ground.phase }, { on := 7, ground := Ground.phase }, { on := 8, ground := Ground.phase }, { on := 9, ground := Ground.phase }, { on := 10, ground := Ground.phase }, { on := 11, ground := Ground.phase }, { on := 12, ground := Ground.phase }, { on := 13, ground := Ground.phase }, { on := 14, ground := Ground.phase }, { on := 15, ground := Ground.phase }, { on := 16, ground := Ground.phase }, { on := 17, ground := Ground.phase }, { on := 18, ground := Ground.phase }, { on := 19, ground := Ground.phase }, { on := 20, ground := Ground.phase }, { on := 21, ground := Ground.phase }, { on := 22, ground := Ground.phase }, { on := 23, ground := Ground.phase }, { on := 24, ground := Ground.phase }, { on := 25, ground := Ground.phase }, { on := 26, ground := Ground.phase }, { on := 27, ground := Ground.phase }, { on := 28, ground := Ground.phase }, { on := 29, ground := Ground.phase }, { on := 30, ground := Ground.phase }, { on := 31, ground := Ground.phase }, { on := 32, ground := Ground.phase }, { on := 33, ground := Ground.phase }, { on := 34, ground := Ground.phase }, { on := 35, ground := Ground.phase }, { on := 36, ground := Ground.phase }, { on := 37, ground := Ground.phase }, { on := 38, ground := Ground.phase }, { on := 39, ground := Ground.phase }, { on := 40, ground := Ground.phase }, { on := 41, ground := Ground.phase }, { on := 42, ground := Ground.phase }, { on := 43, ground := Ground.phase }, { on := 44, ground := Ground.phase }, { on := 45, ground := Ground.phase }, { on := 46, ground := Ground.phase }, { on := 47, ground := Ground.phase }, { on := 48, ground := Ground.phase }, { on := 49, ground := Ground.phase }], guard := none }) (v := ?va51) rfl (by kernel_rfl) (by kernel_rfl) (by kernel_rfl) (fun _ _ _ h => h) (Or.inl ⟨by rfl, ?ya51⟩) (Below.refl _ _) ?ra51
                    case ya51 => (intro w hSw; go_simp; try with_reducible rfl)
                    try simp only [Act.put, List.setIfInBounds_toArray, List.set_cons_zero, List.set_cons_succ]
                    refine wpAnyH_done (by kernel_rfl) ?_ _
                    have BZ := FZ.out _ (Below.refl _ _)
                    go_wp2
                    go_ret
                    exact ⟨rfl, HBA.out.trans (BZ.mono HBA.out.size)⟩
                  exact AllReadyH.nil
                exact AllReadyH.nil
              exact AllReadyH.nil
            exact AllReadyH.nil
          exact AllReadyH.nil
        refine AllReadyH.cons (o := { dst := some 57, op := Op.buildSlice 22 0 #[], type := 22, pos := "law.go:51", after := #[{ on := 11, ground := Ground.guard }], guard := some (11, true) }) rfl (fun KK hKK => ?_) ?_
        · go_simp
          refine hKK.out _ _ (al_below _ _) (fun _ => ?_)
          clear hKK KK
          try simp only [Act.put, List.setIfInBounds_toArray, List.set_cons_zero, List.set_cons_succ]
          refine wpAnyH_on (al_below _ _) (fun u52 hu52 bu52 => ?_)
          replace FR := on FR bu52
          replace FH := on FH bu52
          replace FX := on FX bu52
          replace FI := on FI bu52
          replace FT := on FT bu52
          replace FZ := on FZ bu52
          replace FCI := on FCI bu52
          replace FCX := on FCX bu52
          replace FC2 := on FC2 bu52
          replace FC3 := on FC3 bu52
          replace F3 := on F3 bu52
          replace F8 := on F8 bu52
          replace FP := on FP bu52
          have FE : Hid (∀ x, From u52 x → x.heap[u19.heap.size]? = some (.cells #[] 5 (0, 0))) := fun x hx => (Below.block hx _ (by rw [hu52.out]; simp)).trans (by rw [hu52.out]; exact heap_alloc_new _ _)
          refine wpAnyH_ready (rs := [16]) (by kernel_rfl) (by simp) ?_
          refine AllReadyH.cons (o := { dst := some 54, op := Op.call { callee := Callee.value (Operand.func 18), args := #[Operand.tmp 50, Operand.tmp 53], argTypes := #[26, 30] }, type := 22, pos := "law.go:51", after := #[{ on := 12, ground := Ground.data }, { on := 15, ground := Ground.data }, { on := 11, ground := Ground.chain }, { on := 11, ground := Ground.guard }], guard := some (11, true) }) rfl (fun KK hKK => ?_) ?_
          · go_simp
            refine (C18.out _ _ (FT.out _ (Below.refl _ _)).1 (FP.out _ (Below.refl _ _)) (by simp)).mono ?_
            rintro e u53' ⟨v16, rfl, own16, bu53'⟩
            rw [← HTL.out] at own16
            have s16 := sl_owned own16 HTB.out
            obtain ⟨a16, q16, rfl, -⟩ := id s16
            rw [HTL.out] at s16 ⊢
            (try go_wp2_with fail)
            refine hKK.out _ _ (bu53') (fun _ => ?_)
            clear hKK KK
            try simp only [Act.put, List.setIfInBounds_toArray, List.set_cons_zero, List.set_cons_succ]
            refine wpAnyH_on (bu53') (fun u53 hu53 bu53 => ?_)
            replace FR := on FR bu53
            replace FH := on FH bu53
            replace FX := on FX bu53
            replace FI := on FI bu53
            replace FT := on FT bu53
            replace FZ := on FZ bu53
            replace FCI := on FCI bu53
            replace FCX := on FCX bu53
            replace FC2 := on FC2 bu53
            replace FC3 := on FC3 bu53
            replace F3 := on F3 bu53
            replace F8 := on F8 bu53
            replace FP := on FP bu53
            replace FE := on FE bu53
            have F16 : Hid (∀ x, From u53 x → (convert 22 9 (.slice a16 16 q16)).run Tryd.prog x = .ok (.string (strB TG)) x) := fun x hx => by rw [hu53.out] at hx; exact (s16.kept hx).conv
            clear own16 s16
            refine wpAnyH_take (i := 17) (oi := { dst := some 55, op := Op.convert 22 9 (Operand.tmp 54), type := 9, pos := "law.go:51", after := #[{ on := 16, ground := Ground.data }, { on := 11, ground := Ground.guard }], guard := some (11, true) }) (v := ?va54) rfl (by kernel_rfl) (by kernel_rfl) (by kernel_rfl) (fun _ _ _ h => h) (Or.inl ⟨by rfl, ?ya54⟩) (Below.refl _ _) ?ra54
            case ya54 => (intro w hSw; have t := F16.out w hSw; go_simp; try with_reducible rfl)
            try simp only [Act.put, List.setIfInBounds_toArray, List.set_cons_zero, List.set_cons_succ]
            refine wpAnyH_ready (rs := [21]) (by kernel_rfl) (by simp) ?_
            refine AllReadyH.cons (o := { dst := some 59, op := Op.call { callee := Callee.builtin Builtin.append, args := #[Operand.tmp 57, Operand.tmp 58], argTypes := #[22, 22] }, type := 22, pos := "law.go:51", after := #[{ on := 19, ground := Ground.data }, { on := 20, ground := Ground.data }, { on := 16, ground := Ground.chain }, { on := 11, ground := Ground.guard }], guard := some (11, true) }) rfl (fun KK hKK => ?_) ?_
            · rw [if_pos (by rfl)]
              refine wp_append_emp _ _ rfl _ rfl (FE.out _ (Below.refl _ _)) _ H rfl (FH.out _ (Below.refl _ _)) (by rw [HLH.out]; omega) ?_
              intro v21 u55' e21 bu55'
              refine hKK.out _ _ (bu55') (fun _ => ?_)
              clear hKK KK
              try simp only [Act.put, List.setIfInBounds_toArray, List.set_cons_zero, List.set_cons_succ]
              refine wpAnyH_name (fun u55 hu55 => ?_)
              have bu55 : Below u53.heap.size u53 u55 := by rw [hu55.out]; exact (bu55')
              have E21 : Hid (Emp u55 u53.heap.size v21 H) := by unfold Hid; rw [hu55.out]; exact e21
              clear e21
              refine wpAnyH_ready (rs := [23]) (by kernel_rfl) (by simp) ?_
              refine AllReadyH.cons (o := { dst := some 61, op := Op.call { callee := Callee.builtin Builtin.append, args := #[Operand.tmp 59, Operand.tmp 60], argTypes := #[22, 22] }, type := 22, pos := "law.go:51", after := #[{ on := 21, ground := Ground.data }, { on := 22, ground := Ground.data }, { on := 21, ground := Ground.chain }, { on := 11, ground := Ground.guard }], guard := some (11, true) }) rfl (fun KK hKK => ?_) ?_
              · rw [if_pos (by rfl)]
                refine wp_append_emp2 _ _ rfl u53.heap.size _ H rfl E21.out bu55.size HHB.out _ X rfl (FX.out _ bu55) (by rw [HLH.out, HLX.out]; omega) ?_
                intro v23 u56' s23 bu56'
                refine hKK.out _ _ (bu55.trans bu56') (fun _ => ?_)
                clear hKK KK
                try simp only [Act.put, List.setIfInBounds_toArray, List.set_cons_zero, List.set_cons_succ]
                refine wpAnyH_name (fun u56 hu56 => ?_)
                have bu56 : Below u53.heap.size u53 u56 := by rw [hu56.out]; exact (bu55.trans bu56')
                have S23 : Hid (Sl u56 v23 (H ++ X)) := by unfold Hid; rw [hu56.out]; exact s23
                clear s23 E21
                refine wpAnyH_ready (rs := [24]) (by kernel_rfl) (by simp) ?_
                refine AllReadyH.cons (o := { dst := some 62, op := Op.call { callee := Callee.value (Operand.func 19), args := #[Operand.tmp 56, Operand.tmp 61], argTypes := #[26, 22] }, type := 22, pos := "law.go:51", after := #[{ on := 18, ground := Ground.data }, { on := 23, ground := Ground.data }, { on := 23, ground := Ground.chain }, { on := 11, ground := Ground.guard }], guard := some (11, true) }) rfl (fun KK hKK => ?_) ?_
                · go_simp
                  refine (C19.out _ _ S23.out).mono ?_
                  rintro e u57' ⟨v24, rfl, own24, bu57'⟩
                  rw [← HTL.out] at own24
                  have s24 := sl_owned own24 HTB.out
                  obtain ⟨a24, q24, rfl, -⟩ := id s24
                  rw [HTL.out] at s24 ⊢
                  (try go_wp2_with fail)
                  refine hKK.out _ _ (bu56.trans (Below.mono (bu57') bu56.size)) (fun _ => ?_)
                  clear hKK KK
                  try simp only [Act.put, List.setIfInBounds_toArray, List.set_cons_zero, List.set_cons_succ]
                  refine wpAnyH_on (bu56.trans (Below.mono (bu57') bu56.size)) (fun u57 hu57 bu57 => ?_)
                  replace FR := on FR bu57
                  replace FH := on FH bu57
                  replace FX := on FX bu57
                  replace FI := on FI bu57
                  replace FT := on FT bu57
                  replace FZ := on FZ bu57
                  replace FCI := on FCI bu57
                  replace FCX := on FCX bu57
                  replace FC2 := on FC2 bu57
                  replace FC3 := on FC3 bu57
                  replace F3 := on F3 bu57
                  replace F8 := on F8 bu57
                  replace FP := on FP bu57
                  replace FE := on FE bu57
                  replace F16 := on F16 bu57
                  have F24 : Hid (∀ x, From u57 x → (convert 22 9 (.slice a24 16 q24)).run Tryd.prog x = .ok (.string (strB TG)) x) := fun x hx => by rw [hu57.out] at hx; exact (s24.kept hx).conv
                  clear own24 s24
                  refine wpAnyH_take (i := 25) (oi := { dst := some 63, op := Op.convert 22 9 (Operand.tmp 62), type := 9, pos := "law.go:51", after := #[{ on := 24, ground := Ground.data }, { on := 11, ground := Ground.guard }], guard := some (11, true) }) (v := ?va58) rfl (by kernel_rfl) (by kernel_rfl) (by kernel_rfl) (fun _ _ _ h => h) (Or.inl ⟨by rfl, ?ya58⟩) (Below.refl _ _) ?ra58
                  case ya58 => (intro w hSw; have t := F24.out w hSw; go_simp; try with_reducible rfl)
                  try simp only [Act.put, List.setIfInBounds_toArray, List.set_cons_zero, List.set_cons_succ]
                  refine wpAnyH_take (i := 26) (oi := { dst := some 64, op := Op.binOp BinOp.eql 9 (Operand.tmp 55) (Operand.tmp 63) 9, type := 4, pos := "law.go:51", after := #[{ on := 17, ground := Ground.data }, { on := 25, ground := Ground.data }, { on := 11, ground := Ground.guard }], guard := some (11, true) }) (v := ?va59) rfl (by kernel_rfl) (by kernel_rfl) (by kernel_rfl) (fun _ _ _ h => h) (Or.inl ⟨by rfl, ?ya59⟩) (Below.refl _ _) ?ra59
                  case ya59 => (intro w hSw; go_simp; try with_reducible rfl)
                  try simp only [Act.put, List.setIfInBounds_toArray, List.set_cons_zero, List.set_cons_succ]
                  refine wpAnyH_take (i := 27) (oi := { dst := some 65, op := Op.pick (Operand.tmp 49) (Operand.tmp 64) (Operand.const (Value.bool false)), type := 4, pos := "law.go:51", after := #[{ on := 11, ground := Ground.data }, { on := 26, ground := Ground.data }], guard := none }) (v := ?va60) rfl (by kernel_rfl) (by kernel_rfl) (by kernel_rfl) (fun _ _ _ h => h) (Or.inl ⟨by rfl, ?ya60⟩) (Below.refl _ _) ?ra60
                  case ya60 => (intro w hSw; go_simp; try with_reducible rfl)
                  try simp only [Act.put, List.setIfInBounds_toArray, List.set_cons_zero, List.set_cons_succ]
                  refine wpAnyH_take (i := 28) (oi := { dst := some 66, op := Op.move (Operand.tmp 65), type := 4, pos := "law.go:51", after := #[{ on := 27, ground := Ground.data }, { on := 24, ground := Ground.chain }], guard := none }) (v := ?va61) rfl (by kernel_rfl) (by kernel_rfl) (by kernel_rfl) (fun _ _ _ h => h) (Or.inl ⟨by rfl, ?ya61⟩) (Below.refl _ _) ?ra61
                  case ya61 => (intro w hSw; go_simp; try with_reducible rfl)
                  try simp only [Act.put, List.setIfInBounds_toArray, List.set_cons_zero, List.set_cons_succ]
                  refine wpAnyH_take (i := 29) (oi := { dst := some 67, op := Op.move (Operand.tmp 8), type := 22, pos := "law.go:51", after := #[{ on := 28, ground := Ground.guard }], guard := some (28, true) }) (v := ?va62) rfl (by kernel_rfl) (by kernel_rfl) (by kernel_rfl) (fun _ _ _ h => h) (Or.inl ⟨by rfl, ?ya62⟩) (Below.refl _ _) ?ra62
                  case ya62 => (intro w hSw; go_simp; try with_reducible rfl)
                  try simp only [Act.put, List.setIfInBounds_toArray, List.set_cons_zero, List.set_cons_succ]
                  refine wpAnyH_take (i := 30) (oi := { dst := some 68, op := Op.convert 22 9 (Operand.tmp 67), type := 9, pos := "law.go:51", after := #[{ on := 29, ground := Ground.data }, { on := 28, ground := Ground.guard }], guard := some (28, true) }) (v := ?va63) rfl (by kernel_rfl) (by kernel_rfl) (by kernel_rfl) (fun _ _ _ h => h) (Or.inl ⟨by rfl, ?ya63⟩) (Below.refl _ _) ?ra63
                  case ya63 => (intro w hSw; have t := FC2.out w hSw; go_simp; try with_reducible rfl)
                  try simp only [Act.put, List.setIfInBounds_toArray, List.set_cons_zero, List.set_cons_succ]
                  refine wpAnyH_take (i := 31) (oi := { dst := some 69, op := Op.move (Operand.tmp 10), type := 22, pos := "law.go:51", after := #[{ on := 28, ground := Ground.guard }], guard := some (28, true) }) (v := ?va64) rfl (by kernel_rfl) (by kernel_rfl) (by kernel_rfl) (fun _ _ _ h => h) (Or.inl ⟨by rfl, ?ya64⟩) (Below.refl _ _) ?ra64
                  case ya64 => (intro w hSw; go_simp; try with_reducible rfl)
                  try simp only [Act.put, List.setIfInBounds_toArray, List.set_cons_zero, List.set_cons_succ]
                  refine wpAnyH_take (i := 32) (oi := { dst := some 70, op := Op.convert 22 9 (Operand.tmp 69), type := 9, pos := "law.go:51", after := #[{ on := 31, ground := Ground.data }, { on := 28, ground := Ground.guard }], guard := some (28, true) }) (v := ?va65) rfl (by kernel_rfl) (by kernel_rfl) (by kernel_rfl) (fun _ _ _ h => h) (Or.inl ⟨by rfl, ?ya65⟩) (Below.refl _ _) ?ra65
                  case ya65 => (intro w hSw; have t := FC3.out w hSw; go_simp; try with_reducible rfl)
                  try simp only [Act.put, List.setIfInBounds_toArray, List.set_cons_zero, List.set_cons_succ]
                  refine wpAnyH_take (i := 33) (oi := { dst := some 71, op := Op.binOp BinOp.eql 9 (Operand.tmp 68) (Operand.tmp 70) 9, type := 4, pos := "law.go:51", after := #[{ on := 30, ground := Ground.data }, { on := 32, ground := Ground.data }, { on := 28, ground := Ground.guard }], guard := some (28, true) }) (v := ?va66) rfl (by kernel_rfl) (by kernel_rfl) (by kernel_rfl) (fun _ _ _ h => h) (Or.inl ⟨by rfl, ?ya66⟩) (Below.refl _ _) ?ra66
                  case ya66 => (intro w hSw; go_simp; try with_reducible rfl)
                  try simp only [Act.put, List.setIfInBounds_toArray, List.set_cons_zero, List.set_cons_succ]
                  refine wpAnyH_take (i := 34) (oi := { dst := some 72, op := Op.pick (Operand.tmp 66) (Operand.tmp 71) (Operand.const (Value.bool false)), type := 4, pos := "law.go:51", after := #[{ on := 28, ground := Ground.data }, { on := 33, ground := Ground.data }], guard := none }) (v := ?va67) rfl (by kernel_rfl) (by kernel_rfl) (by kernel_rfl) (fun _ _ _ h => h) (Or.inl ⟨by rfl, ?ya67⟩) (Below.refl _ _) ?ra67
                  case ya67 => (intro w hSw; go_simp; try with_reducible rfl)
                  try simp only [Act.put, List.setIfInBounds_toArray, List.set_cons_zero, List.set_cons_succ]
                  refine wpAnyH_take (i := 35) (oi := { dst := some 73, op := Op.move (Operand.tmp 72), type := 4, pos := "law.go:51", after := #[{ on := 34, ground := Ground.data }, { on := 28, ground := Ground.chain }], guard := none }) (v := ?va68) rfl (by kernel_rfl) (by kernel_rfl) (by kernel_rfl) (fun _ _ _ h => h) (Or.inl ⟨by rfl, ?ya68⟩) (Below.refl _ _) ?ra68
                  case ya68 => (intro w hSw; go_simp; try with_reducible rfl)
                  try simp only [Act.put, List.setIfInBounds_toArray, List.set_cons_zero, List.set_cons_succ]
                  refine wpAnyH_take (i := 36) (oi := { dst := some 74, op := Op.move (Operand.tmp 9), type := 35, pos := "law.go:51", after := #[{ on := 35, ground := Ground.guard }], guard := some (35, true) }) (v := ?va69) rfl (by kernel_rfl) (by kernel_rfl) (by kernel_rfl) (fun _ _ _ h => h) (Or.inl ⟨by rfl, ?ya69⟩) (Below.refl _ _) ?ra69
                  case ya69 => (intro w hSw; go_simp; try with_reducible rfl)
                  try simp only [Act.put, List.setIfInBounds_toArray, List.set_cons_zero, List.set_cons_succ]
                  refine wpAnyH_take (i := 37) (oi := { dst := some 75, op := Op.move (Operand.tmp 11), type := 3, pos := "law.go:51", after := #[{ on := 35, ground := Ground.guard }], guard := some (35, true) }) (v := ?va70) rfl (by kernel_rfl) (by kernel_rfl) (by kernel_rfl) (fun _ _ _ h => h) (Or.inl ⟨by rfl, ?ya70⟩) (Below.refl _ _) ?ra70
                  case ya70 => (intro w hSw; go_simp; try with_reducible rfl)
                  try simp only [Act.put, List.setIfInBounds_toArray, List.set_cons_zero, List.set_cons_succ]
                  refine wpAnyH_take (i := 38) (oi := { dst := some 76, op := Op.binOp BinOp.eql 3 (Operand.tmp 74) (Operand.tmp 75) 3, type := 4, pos := "law.go:51", after := #[{ on := 36, ground := Ground.data }, { on := 37, ground := Ground.data }, { on := 35, ground := Ground.guard }], guard := some (35, true) }) (v := ?va71) rfl (by kernel_rfl) (by kernel_rfl) (by kernel_rfl) (fun _ _ _ h => h) (Or.inl ⟨by rfl, ?ya71⟩) (Below.refl _ _) ?ra71
                  case ya71 => (intro w hSw; go_simp; try with_reducible rfl)
                  try simp only [Act.put, List.setIfInBounds_toArray, List.set_cons_zero, List.set_cons_succ]
                  refine wpAnyH_take (i := 39) (oi := { dst := some 77, op := Op.pick (Operand.tmp 73) (Operand.tmp 76) (Operand.const (Value.bool false)), type := 4, pos := "law.go:51", after := #[{ on := 35, ground := Ground.data }, { on := 38, ground := Ground.data }], guard := none }) (v := ?va72) rfl (by kernel_rfl) (by kernel_rfl) (by kernel_rfl) (fun _ _ _ h => h) (Or.inl ⟨by rfl, ?ya72⟩) (Below.refl _ _) ?ra72
                  case ya72 => (intro w hSw; go_simp; try with_reducible rfl)
                  try simp only [Act.put, List.setIfInBounds_toArray, List.set_cons_zero, List.set_cons_succ]
                  refine wpAnyH_take (i := 40) (oi := { dst := some 78, op := Op.move (Operand.tmp 77), type := 4, pos := "law.go:51", after := #[{ on := 39, ground := Ground.data }, { on := 35, ground := Ground.chain }], guard := none }) (v := ?va73) rfl (by kernel_rfl) (by kernel_rfl) (by kernel_rfl) (fun _ _ _ h => h) (Or.inl ⟨by rfl, ?ya73⟩) (Below.refl _ _) ?ra73
                  case ya73 => (intro w hSw; go_simp; try with_reducible rfl)
                  try simp only [Act.put, List.setIfInBounds_toArray, List.set_cons_zero, List.set_cons_succ]
                  refine wpAnyH_take (i := 41) (oi := { dst := some 79, op := Op.move (Operand.tmp 7), type := 22, pos := "law.go:51", after := #[{ on := 40, ground := Ground.guard }], guard := some (40, true) }) (v := ?va74) rfl (by kernel_rfl) (by kernel_rfl) (by kernel_rfl) (fun _ _ _ h => h) (Or.inl ⟨by rfl, ?ya74⟩) (Below.refl _ _) ?ra74
                  case ya74 => (intro w hSw; go_simp; try with_reducible rfl)
                  try simp only [Act.put, List.setIfInBounds_toArray, List.set_cons_zero, List.set_cons_succ]
                  refine wpAnyH_take (i := 42) (oi := { dst := some 80, op := Op.convert 22 9 (Operand.tmp 79), type := 9, pos := "law.go:51", after := #[{ on := 41, ground := Ground.data }, { on := 40, ground := Ground.guard }], guard := some (40, true) }) (v := ?va75) rfl (by kernel_rfl) (by kernel_rfl) (by kernel_rfl) (fun _ _ _ h => h) (Or.inl ⟨by rfl, ?ya75⟩) (Below.refl _ _) ?ra75
                  case ya75 => (intro w hSw; have t := FCI.out w hSw; go_simp; try with_reducible rfl)
                  try simp only [Act.put, List.setIfInBounds_toArray, List.set_cons_zero, List.set_cons_succ]
                  refine wpAnyH_take (i := 43) (oi := { dst := some 81, op := Op.move (Operand.tmp 2), type := 22, pos := "law.go:51", after := #[{ on := 40, ground := Ground.guard }], guard := some (40, true) }) (v := ?va76) rfl (by kernel_rfl) (by kernel_rfl) (by kernel_rfl) (fun _ _ _ h => h) (Or.inl ⟨by rfl, ?ya76⟩) (Below.refl _ _) ?ra76
                  case ya76 => (intro w hSw; go_simp; try with_reducible rfl)
                  try simp only [Act.put, List.setIfInBounds_toArray, List.set_cons_zero, List.set_cons_succ]
                  refine wpAnyH_take (i := 44) (oi := { dst := some 82, op := Op.convert 22 9 (Operand.tmp 81), type := 9, pos := "law.go:51", after := #[{ on := 43, ground := Ground.data }, { on := 40, ground := Ground.guard }], guard := some (40, true) }) (v := ?va77) rfl (by kernel_rfl) (by kernel_rfl) (by kernel_rfl) (fun _ _ _ h => h) (Or.inl ⟨by rfl, ?ya77⟩) (Below.refl _ _) ?ra77
                  case ya77 => (intro w hSw; have t := FCX.out w hSw; go_simp; try with_reducible rfl)
                  try simp only [Act.put, List.setIfInBounds_toArray, List.set_cons_zero, List.set_cons_succ]
                  refine wpAnyH_take (i := 45) (oi := { dst := some 83, op := Op.binOp BinOp.eql 9 (Operand.tmp 80) (Operand.tmp 82) 9, type := 4, pos := "law.go:51", after := #[{ on := 42, ground := Ground.data }, { on := 44, ground := Ground.data }, { on := 40, ground := Ground.guard }], guard := some (40, true) }) (v := ?va78) rfl (by kernel_rfl) (by kernel_rfl) (by kernel_rfl) (fun _ _ _ h => h) (Or.inl ⟨by rfl, ?ya78⟩) (Below.refl _ _) ?ra78
                  case ya78 => (intro w hSw; go_simp; try with_reducible rfl)
                  try simp only [Act.put, List.setIfInBounds_toArray, List.set_cons_zero, List.set_cons_succ]
                  refine wpAnyH_take (i := 46) (oi := { dst := some 84, op := Op.pick (Operand.tmp 78) (Operand.tmp 83) (Operand.const (Value.bool false)), type := 4, pos := "law.go:51", after := #[{ on := 40, ground := Ground.data }, { on := 45, ground := Ground.data }], guard := none }) (v := ?va79) rfl (by kernel_rfl) (by kernel_rfl) (by kernel_rfl) (fun _ _ _ h => h) (Or.inl ⟨by rfl, ?ya79⟩) (Below.refl _ _) ?ra79
                  case ya79 => (intro w hSw; go_simp; try with_reducible rfl)
                  try simp only [Act.put, List.setIfInBounds_toArray, List.set_cons_zero, List.set_cons_succ]
                  refine wpAnyH_take (i := 47) (oi := { dst := some 85, op := Op.move (Operand.tmp 84), type := 4, pos := "law.go:51", after := #[{ on := 46, ground := Ground.data }, { on := 40, ground := Ground.chain }], guard := none }) (v := ?va80) rfl (by kernel_rfl) (by kernel_rfl) (by kernel_rfl) (fun _ _ _ h => h) (Or.inl ⟨by rfl, ?ya80⟩) (Below.refl _ _) ?ra80
                  case ya80 => (intro w hSw; go_simp; try with_reducible rfl)
                  try simp only [Act.put, List.setIfInBounds_toArray, List.set_cons_zero, List.set_cons_succ]
                  refine wpAnyH_ready (rs := [48]) (by kernel_rfl) (by simp) ?_
                  refine AllReadyH.cons (o := { dst := some 86, op := Op.call { callee := Callee.value (Operand.func 8), args := #[], argTypes := #[] }, type := 4, pos := "law.go:51", after := #[{ on := 47, ground := Ground.chain }, { on := 47, ground := Ground.guard }], guard := some (47, true) }) rfl (fun KK hKK => ?_) ?_
                  · go_simp
                    refine (CA.out _ (FZ.out _ (Below.refl _ _))).mono ?_
                    rintro e u81' ⟨rfl, bu81'⟩
                    (try go_wp2_with fail)
                    refine hKK.out _ _ (bu81') (fun _ => ?_)
                    clear hKK KK
                    try simp only [Act.put, List.setIfInBounds_toArray, List.set_cons_zero, List.set_cons_succ]
                    refine wpAnyH_on (bu81') (fun u81 hu81 bu81 => ?_)
                    replace FR := on FR bu81
                    replace FH := on FH bu81
                    replace FX := on FX bu81
                    replace FI := on FI bu81
                    replace FT := on FT bu81
                    replace FZ := on FZ bu81
                    replace FCI := on FCI bu81
                    replace FCX := on FCX bu81
                    replace FC2 := on FC2 bu81
                    replace FC3 := on FC3 bu81
                    replace F3 := on F3 bu81
                    replace F8 := on F8 bu81
                    replace FP := on FP bu81
                    replace FE := on FE bu81
                    replace F16 := on F16 bu81
                    replace F24 := on F24 bu81
                    refine wpAnyH_take (i := 49) (oi := { dst := some 87, op := Op.pick (Operand.tmp 85) (Operand.tmp 86) (Operand.const (Value.bool false)), type := 4, pos := "law.go:51", after := #[{ on := 47, ground := Ground.data }, { on := 48, ground := Ground.data }], guard := none }) (v := ?va82) rfl (by kernel_rfl) (by kernel_rfl) (by kernel_rfl) (fun _ _ _ h => h) (Or.inl ⟨by rfl, ?ya82⟩) (Below.refl _ _) ?ra82
                    case ya82 => (intro w hSw; go_simp; try with_reducible rfl)
                    try simp only [Act.put, List.setIfInBounds_toArray, List.set_cons_zero, List.set_cons_succ]
                    refine wpAnyH_take (i := 50) (oi := { dst := some 6, op := Op.assign (Operand.tmp 87), type := 4, pos := "law.go:51", after := #[{ on := 49, ground := Ground.data }, { on := 48, ground := Ground.chain }, { on := 0, ground := Ground.phase }, { on := 1, ground := Ground.phase }, { on := 2, ground := Ground.phase }, { on := 3, ground := Ground.phase }, { on := 4, ground := Ground.phase }, { on := 5, ground := Ground.phase }, { on := 6, ground := Ground.phase }, { on := 7, ground := Ground.phase }, { on := 8, ground := Ground.phase }, { on := 9, ground := Ground.phase }, { on := 10, ground := Ground.phase }, { on := 11, ground := Ground.phase }, { on := 12, ground := Ground.phase }, { on := 13, ground := Ground.phase }, { on := 14, ground := Ground.phase }, { on := 15, ground := Ground.phase }, { on := 16, ground := Ground.phase }, { on := 17, ground := Ground.phase }, { on := 18, ground := Ground.phase }, { on := 19, ground := Ground.phase }, { on := 20, ground := Ground.phase }, { on := 21, ground := Ground.phase }, { on := 22, ground := Ground.phase }, { on := 23, ground := Ground.phase }, { on := 24, ground := Ground.phase }, { on := 25, ground := Ground.phase }, { on := 26, ground := Ground.phase }, { on := 27, ground := Ground.phase }, { on := 28, ground := Ground.phase }, { on := 29, ground := Ground.phase }, { on := 30, ground := Ground.phase }, { on := 31, ground := Ground.phase }, { on := 32, ground := Ground.phase }, { on := 33, ground := Ground.phase }, { on := 34, ground := Ground.phase }, { on := 35, ground := Ground.phase }, { on := 36, ground := Ground.phase }, { on := 37, ground := Ground.phase }, { on := 38, ground := Ground.phase }, { on := 39, ground := Ground.phase }, { on := 40, ground := Ground.phase }, { on := 41, ground := Ground.phase }, { on := 42, ground := Ground.phase }, { on := 43, ground := Ground.phase }, { on := 44, ground := Ground.phase }, { on := 45, ground := Ground.phase }, { on := 46, ground := Ground.phase }, { on := 47, ground := Ground.phase }, { on := 48, ground := Ground.phase }, { on := 49, ground := Ground.phase }], guard := none }) (v := ?va83) rfl (by kernel_rfl) (by kernel_rfl) (by kernel_rfl) (fun _ _ _ h => h) (Or.inl ⟨by rfl, ?ya83⟩) (Below.refl _ _) ?ra83
                    case ya83 => (intro w hSw; go_simp; try with_reducible rfl)
                    try simp only [Act.put, List.setIfInBounds_toArray, List.set_cons_zero, List.set_cons_succ]
                    refine wpAnyH_done (by kernel_rfl) ?_ _
                    have BZ := FZ.out _ (Below.refl _ _)
                    go_wp2
                    go_ret
                    exact ⟨rfl, HBA.out.trans (BZ.mono HBA.out.size)⟩
                  exact AllReadyH.nil
                exact AllReadyH.nil
              exact AllReadyH.nil
            exact AllReadyH.nil
          exact AllReadyH.nil
        exact AllReadyH.nil
      refine AllReadyH.cons (o := { dst := some 57, op := Op.buildSlice 22 0 #[], type := 22, pos := "law.go:51", after := #[{ on := 11, ground := Ground.guard }], guard := some (11, true) }) rfl (fun KK hKK => ?_) ?_
      · go_simp
        refine hKK.out _ _ (al_below _ _) (fun _ => ?_)
        clear hKK KK
        try simp only [Act.put, List.setIfInBounds_toArray, List.set_cons_zero, List.set_cons_succ]
        refine wpAnyH_on (al_below _ _) (fun u84 hu84 bu84 => ?_)
        replace FR := on FR bu84
        replace FH := on FH bu84
        replace FX := on FX bu84
        replace FI := on FI bu84
        replace FT := on FT bu84
        replace FZ := on FZ bu84
        replace FCI := on FCI bu84
        replace FCX := on FCX bu84
        replace FC2 := on FC2 bu84
        replace FC3 := on FC3 bu84
        replace F3 := on F3 bu84
        replace F8 := on F8 bu84
        have FE : Hid (∀ x, From u84 x → x.heap[u9.heap.size]? = some (.cells #[] 5 (0, 0))) := fun x hx => (Below.block hx _ (by rw [hu84.out]; simp)).trans (by rw [hu84.out]; exact heap_alloc_new _ _)
        refine wpAnyH_ready (rs := [15]) (by kernel_rfl) (by simp) ?_
        refine AllReadyH.cons (o := { dst := some 53, op := Op.buildSlice 30 2 #[(0, Operand.tmp 51), (1, Operand.tmp 52)], type := 30, pos := "law.go:51", after := #[{ on := 13, ground := Ground.data }, { on := 14, ground := Ground.data }, { on := 11, ground := Ground.guard }], guard := some (11, true) }) rfl (fun KK hKK => ?_) ?_
        · have pu85 := parts2 u84 _ _ H X (FH.out _ (Below.refl _ _)) (FI.out _ (Below.refl _ _))
          go_simp
          refine hKK.out _ _ (al_below _ _) (fun _ => ?_)
          clear hKK KK
          try simp only [Act.put, List.setIfInBounds_toArray, List.set_cons_zero, List.set_cons_succ]
          refine wpAnyH_on (al_below _ _) (fun u85 hu85 bu85 => ?_)
          replace FR := on FR bu85
          replace FH := on FH bu85
          replace FX := on FX bu85
          replace FI := on FI bu85
          replace FT := on FT bu85
          replace FZ := on FZ bu85
          replace FCI := on FCI bu85
          replace FCX := on FCX bu85
          replace FC2 := on FC2 bu85
          replace FC3 := on FC3 bu85
          replace F3 := on F3 bu85
          replace F8 := on F8 bu85
          replace FE := on FE bu85
          have FP : Hid (∀ x, From u85 x → Parts x (some ⟨u84.heap.size, 0, none⟩) [H, X]) := fun x hx => Parts.kept (by rw [hu85.out]; exact pu85) hx
          clear pu85
          refine wpAnyH_ready (rs := [16]) (by kernel_rfl) (by simp) ?_
          refine AllReadyH.cons (o := { dst := some 54, op := Op.call { callee := Callee.value (Operand.func 18), args := #[Operand.tmp 50, Operand.tmp 53], argTypes := #[26, 30] }, type := 22, pos := "law.go:51", after := #[{ on := 12, ground := Ground.data }, { on := 15, ground := Ground.data }, { on := 11, ground := Ground.chain }, { on := 11, ground := Ground.guard }], guard := some (11, true) }) rfl (fun KK hKK => ?_) ?_
          · go_simp
            refine (C18.out _ _ (FT.out _ (Below.refl _ _)).1 (FP.out _ (Below.refl _ _)) (by simp)).mono ?_
            rintro e u86' ⟨v16, rfl, own16, bu86'⟩
            rw [← HTL.out] at own16
            have s16 := sl_owned own16 HTB.out
            obtain ⟨a16, q16, rfl, -⟩ := id s16
            rw [HTL.out] at s16 ⊢
            (try go_wp2_with fail)
            refine hKK.out _ _ (bu86') (fun _ => ?_)
            clear hKK KK
            try simp only [Act.put, List.setIfInBounds_toArray, List.set_cons_zero, List.set_cons_succ]
            refine wpAnyH_on (bu86') (fun u86 hu86 bu86 => ?_)
            replace FR := on FR bu86
            replace FH := on FH bu86
            replace FX := on FX bu86
            replace FI := on FI bu86
            replace FT := on FT bu86
            replace FZ := on FZ bu86
            replace FCI := on FCI bu86
            replace FCX := on FCX bu86
            replace FC2 := on FC2 bu86
            replace FC3 := on FC3 bu86
            replace F3 := on F3 bu86
            replace F8 := on F8 bu86
            replace FE := on FE bu86
            replace FP := on FP bu86
            have F16 : Hid (∀ x, From u86 x → (convert 22 9 (.slice a16 16 q16)).run Tryd.prog x = .ok (.string (strB TG)) x) := fun x hx => by rw [hu86.out] at hx; exact (s16.kept hx).conv
            clear own16 s16
            refine wpAnyH_take (i := 17) (oi := { dst := some 55, op := Op.convert 22 9 (Operand.tmp 54), type := 9, pos := "law.go:51", after := #[{ on := 16, ground := Ground.data }, { on := 11, ground := Ground.guard }], guard := some (11, true) }) (v := ?va87) rfl (by kernel_rfl) (by kernel_rfl) (by kernel_rfl) (fun _ _ _ h => h) (Or.inl ⟨by rfl, ?ya87⟩) (Below.refl _ _) ?ra87
            case ya87 => (intro w hSw; have t := F16.out w hSw; go_simp; try with_reducible rfl)
            try simp only [Act.put, List.setIfInBounds_toArray, List.set_cons_zero, List.set_cons_succ]
            refine wpAnyH_ready (rs := [21]) (by kernel_rfl) (by simp) ?_
            refine AllReadyH.cons (o := { dst := some 59, op := Op.call { callee := Callee.builtin Builtin.append, args := #[Operand.tmp 57, Operand.tmp 58], argTypes := #[22, 22] }, type := 22, pos := "law.go:51", after := #[{ on := 19, ground := Ground.data }, { on := 20, ground := Ground.data }, { on := 16, ground := Ground.chain }, { on := 11, ground := Ground.guard }], guard := some (11, true) }) rfl (fun KK hKK => ?_) ?_
            · rw [if_pos (by rfl)]
              refine wp_append_emp _ _ rfl _ rfl (FE.out _ (Below.refl _ _)) _ H rfl (FH.out _ (Below.refl _ _)) (by rw [HLH.out]; omega) ?_
              intro v21 u88' e21 bu88'
              refine hKK.out _ _ (bu88') (fun _ => ?_)
              clear hKK KK
              try simp only [Act.put, List.setIfInBounds_toArray, List.set_cons_zero, List.set_cons_succ]
              refine wpAnyH_name (fun u88 hu88 => ?_)
              have bu88 : Below u86.heap.size u86 u88 := by rw [hu88.out]; exact (bu88')
              have E21 : Hid (Emp u88 u86.heap.size v21 H) := by unfold Hid; rw [hu88.out]; exact e21
              clear e21
              refine wpAnyH_ready (rs := [23]) (by kernel_rfl) (by simp) ?_
              refine AllReadyH.cons (o := { dst := some 61, op := Op.call { callee := Callee.builtin Builtin.append, args := #[Operand.tmp 59, Operand.tmp 60], argTypes := #[22, 22] }, type := 22, pos := "law.go:51", after := #[{ on := 21, ground := Ground.data }, { on := 22, ground := Ground.data }, { on := 21, ground := Ground.chain }, { on := 11, ground := Ground.guard }], guard := some (11, true) }) rfl (fun KK hKK => ?_) ?_
              · rw [if_pos (by rfl)]
                refine wp_append_emp2 _ _ rfl u86.heap.size _ H rfl E21.out bu88.size HHB.out _ X rfl (FX.out _ bu88) (by rw [HLH.out, HLX.out]; omega) ?_
                intro v23 u89' s23 bu89'
                refine hKK.out _ _ (bu88.trans bu89') (fun _ => ?_)
                clear hKK KK
                try simp only [Act.put, List.setIfInBounds_toArray, List.set_cons_zero, List.set_cons_succ]
                refine wpAnyH_name (fun u89 hu89 => ?_)
                have bu89 : Below u86.heap.size u86 u89 := by rw [hu89.out]; exact (bu88.trans bu89')
                have S23 : Hid (Sl u89 v23 (H ++ X)) := by unfold Hid; rw [hu89.out]; exact s23
                clear s23 E21
                refine wpAnyH_ready (rs := [24]) (by kernel_rfl) (by simp) ?_
                refine AllReadyH.cons (o := { dst := some 62, op := Op.call { callee := Callee.value (Operand.func 19), args := #[Operand.tmp 56, Operand.tmp 61], argTypes := #[26, 22] }, type := 22, pos := "law.go:51", after := #[{ on := 18, ground := Ground.data }, { on := 23, ground := Ground.data }, { on := 23, ground := Ground.chain }, { on := 11, ground := Ground.guard }], guard := some (11, true) }) rfl (fun KK hKK => ?_) ?_
                · go_simp
                  refine (C19.out _ _ S23.out).mono ?_
                  rintro e u90' ⟨v24, rfl, own24, bu90'⟩
                  rw [← HTL.out] at own24
                  have s24 := sl_owned own24 HTB.out
                  obtain ⟨a24, q24, rfl, -⟩ := id s24
                  rw [HTL.out] at s24 ⊢
                  (try go_wp2_with fail)
                  refine hKK.out _ _ (bu89.trans (Below.mono (bu90') bu89.size)) (fun _ => ?_)
                  clear hKK KK
                  try simp only [Act.put, List.setIfInBounds_toArray, List.set_cons_zero, List.set_cons_succ]
                  refine wpAnyH_on (bu89.trans (Below.mono (bu90') bu89.size)) (fun u90 hu90 bu90 => ?_)
                  replace FR := on FR bu90
                  replace FH := on FH bu90
                  replace FX := on FX bu90
                  replace FI := on FI bu90
                  replace FT := on FT bu90
                  replace FZ := on FZ bu90
                  replace FCI := on FCI bu90
                  replace FCX := on FCX bu90
                  replace FC2 := on FC2 bu90
                  replace FC3 := on FC3 bu90
                  replace F3 := on F3 bu90
                  replace F8 := on F8 bu90
                  replace FE := on FE bu90
                  replace FP := on FP bu90
                  replace F16 := on F16 bu90
                  have F24 : Hid (∀ x, From u90 x → (convert 22 9 (.slice a24 16 q24)).run Tryd.prog x = .ok (.string (strB TG)) x) := fun x hx => by rw [hu90.out] at hx; exact (s24.kept hx).conv
                  clear own24 s24
                  refine wpAnyH_take (i := 25) (oi := { dst := some 63, op := Op.convert 22 9 (Operand.tmp 62), type := 9, pos := "law.go:51", after := #[{ on := 24, ground := Ground.data }, { on := 11, ground := Ground.guard }], guard := some (11, true) }) (v := ?va91) rfl (by kernel_rfl) (by kernel_rfl) (by kernel_rfl) (fun _ _ _ h => h) (Or.inl ⟨by rfl, ?ya91⟩) (Below.refl _ _) ?ra91
                  case ya91 => (intro w hSw; have t := F24.out w hSw; go_simp; try with_reducible rfl)
                  try simp only [Act.put, List.setIfInBounds_toArray, List.set_cons_zero, List.set_cons_succ]
                  refine wpAnyH_take (i := 26) (oi := { dst := some 64, op := Op.binOp BinOp.eql 9 (Operand.tmp 55) (Operand.tmp 63) 9, type := 4, pos := "law.go:51", after := #[{ on := 17, ground := Ground.data }, { on := 25, ground := Ground.data }, { on := 11, ground := Ground.guard }], guard := some (11, true) }) (v := ?va92) rfl (by kernel_rfl) (by kernel_rfl) (by kernel_rfl) (fun _ _ _ h => h) (Or.inl ⟨by rfl, ?ya92⟩) (Below.refl _ _) ?ra92
                  case ya92 => (intro w hSw; go_simp; try with_reducible rfl)
                  try simp only [Act.put, List.setIfInBounds_toArray, List.set_cons_zero, List.set_cons_succ]
                  refine wpAnyH_take (i := 27) (oi := { dst := some 65, op := Op.pick (Operand.tmp 49) (Operand.tmp 64) (Operand.const (Value.bool false)), type := 4, pos := "law.go:51", after := #[{ on := 11, ground := Ground.data }, { on := 26, ground := Ground.data }], guard := none }) (v := ?va93) rfl (by kernel_rfl) (by kernel_rfl) (by kernel_rfl) (fun _ _ _ h => h) (Or.inl ⟨by rfl, ?ya93⟩) (Below.refl _ _) ?ra93
                  case ya93 => (intro w hSw; go_simp; try with_reducible rfl)
                  try simp only [Act.put, List.setIfInBounds_toArray, List.set_cons_zero, List.set_cons_succ]
                  refine wpAnyH_take (i := 28) (oi := { dst := some 66, op := Op.move (Operand.tmp 65), type := 4, pos := "law.go:51", after := #[{ on := 27, ground := Ground.data }, { on := 24, ground := Ground.chain }], guard := none }) (v := ?va94) rfl (by kernel_rfl) (by kernel_rfl) (by kernel_rfl) (fun _ _ _ h => h) (Or.inl ⟨by rfl, ?ya94⟩) (Below.refl _ _) ?ra94
                  case ya94 => (intro w hSw; go_simp; try with_reducible rfl)
                  try simp only [Act.put, List.setIfInBounds_toArray, List.set_cons_zero, List.set_cons_succ]
                  refine wpAnyH_take (i := 29) (oi := { dst := some 67, op := Op.move (Operand.tmp 8), type := 22, pos := "law.go:51", after := #[{ on := 28, ground := Ground.guard }], guard := some (28, true) }) (v := ?va95) rfl (by kernel_rfl) (by kernel_rfl) (by kernel_rfl) (fun _ _ _ h => h) (Or.inl ⟨by rfl, ?ya95⟩) (Below.refl _ _) ?ra95
                  case ya95 => (intro w hSw; go_simp; try with_reducible rfl)
                  try simp only [Act.put, List.setIfInBounds_toArray, List.set_cons_zero, List.set_cons_succ]
                  refine wpAnyH_take (i := 30) (oi := { dst := some 68, op := Op.convert 22 9 (Operand.tmp 67), type := 9, pos := "law.go:51", after := #[{ on := 29, ground := Ground.data }, { on := 28, ground := Ground.guard }], guard := some (28, true) }) (v := ?va96) rfl (by kernel_rfl) (by kernel_rfl) (by kernel_rfl) (fun _ _ _ h => h) (Or.inl ⟨by rfl, ?ya96⟩) (Below.refl _ _) ?ra96
                  case ya96 => (intro w hSw; have t := FC2.out w hSw; go_simp; try with_reducible rfl)
                  try simp only [Act.put, List.setIfInBounds_toArray, List.set_cons_zero, List.set_cons_succ]
                  refine wpAnyH_take (i := 31) (oi := { dst := some 69, op := Op.move (Operand.tmp 10), type := 22, pos := "law.go:51", after := #[{ on := 28, ground := Ground.guard }], guard := some (28, true) }) (v := ?va97) rfl (by kernel_rfl) (by kernel_rfl) (by kernel_rfl) (fun _ _ _ h => h) (Or.inl ⟨by rfl, ?ya97⟩) (Below.refl _ _) ?ra97
                  case ya97 => (intro w hSw; go_simp; try with_reducible rfl)
                  try simp only [Act.put, List.setIfInBounds_toArray, List.set_cons_zero, List.set_cons_succ]
                  refine wpAnyH_take (i := 32) (oi := { dst := some 70, op := Op.convert 22 9 (Operand.tmp 69), type := 9, pos := "law.go:51", after := #[{ on := 31, ground := Ground.data }, { on := 28, ground := Ground.guard }], guard := some (28, true) }) (v := ?va98) rfl (by kernel_rfl) (by kernel_rfl) (by kernel_rfl) (fun _ _ _ h => h) (Or.inl ⟨by rfl, ?ya98⟩) (Below.refl _ _) ?ra98
                  case ya98 => (intro w hSw; have t := FC3.out w hSw; go_simp; try with_reducible rfl)
                  try simp only [Act.put, List.setIfInBounds_toArray, List.set_cons_zero, List.set_cons_succ]
                  refine wpAnyH_take (i := 33) (oi := { dst := some 71, op := Op.binOp BinOp.eql 9 (Operand.tmp 68) (Operand.tmp 70) 9, type := 4, pos := "law.go:51", after := #[{ on := 30, ground := Ground.data }, { on := 32, ground := Ground.data }, { on := 28, ground := Ground.guard }], guard := some (28, true) }) (v := ?va99) rfl (by kernel_rfl) (by kernel_rfl) (by kernel_rfl) (fun _ _ _ h => h) (Or.inl ⟨by rfl, ?ya99⟩) (Below.refl _ _) ?ra99
                  case ya99 => (intro w hSw; go_simp; try with_reducible rfl)
                  try simp only [Act.put, List.setIfInBounds_toArray, List.set_cons_zero, List.set_cons_succ]
                  refine wpAnyH_take (i := 34) (oi := { dst := some 72, op := Op.pick (Operand.tmp 66) (Operand.tmp 71) (Operand.const (Value.bool false)), type := 4, pos := "law.go:51", after := #[{ on := 28, ground := Ground.data }, { on := 33, ground := Ground.data }], guard := none }) (v := ?va100) rfl (by kernel_rfl) (by kernel_rfl) (by kernel_rfl) (fun _ _ _ h => h) (Or.inl ⟨by rfl, ?ya100⟩) (Below.refl _ _) ?ra100
                  case ya100 => (intro w hSw; go_simp; try with_reducible rfl)
                  try simp only [Act.put, List.setIfInBounds_toArray, List.set_cons_zero, List.set_cons_succ]
                  refine wpAnyH_take (i := 35) (oi := { dst := some 73, op := Op.move (Operand.tmp 72), type := 4, pos := "law.go:51", after := #[{ on := 34, ground := Ground.data }, { on := 28, ground := Ground.chain }], guard := none }) (v := ?va101) rfl (by kernel_rfl) (by kernel_rfl) (by kernel_rfl) (fun _ _ _ h => h) (Or.inl ⟨by rfl, ?ya101⟩) (Below.refl _ _) ?ra101
                  case ya101 => (intro w hSw; go_simp; try with_reducible rfl)
                  try simp only [Act.put, List.setIfInBounds_toArray, List.set_cons_zero, List.set_cons_succ]
                  refine wpAnyH_take (i := 36) (oi := { dst := some 74, op := Op.move (Operand.tmp 9), type := 35, pos := "law.go:51", after := #[{ on := 35, ground := Ground.guard }], guard := some (35, true) }) (v := ?va102) rfl (by kernel_rfl) (by kernel_rfl) (by kernel_rfl) (fun _ _ _ h => h) (Or.inl ⟨by rfl, ?ya102⟩) (Below.refl _ _) ?ra102
                  case ya102 => (intro w hSw; go_simp; try with_reducible rfl)
                  try simp only [Act.put, List.setIfInBounds_toArray, List.set_cons_zero, List.set_cons_succ]
                  refine wpAnyH_take (i := 37) (oi := { dst := some 75, op := Op.move (Operand.tmp 11), type := 3, pos := "law.go:51", after := #[{ on := 35, ground := Ground.guard }], guard := some (35, true) }) (v := ?va103) rfl (by kernel_rfl) (by kernel_rfl) (by kernel_rfl) (fun _ _ _ h => h) (Or.inl ⟨by rfl, ?ya103⟩) (Below.refl _ _) ?ra103
                  case ya103 => (intro w hSw; go_simp; try with_reducible rfl)
                  try simp only [Act.put, List.setIfInBounds_toArray, List.set_cons_zero, List.set_cons_succ]
                  refine wpAnyH_take (i := 38) (oi := { dst := some 76, op := Op.binOp BinOp.eql 3 (Operand.tmp 74) (Operand.tmp 75) 3, type := 4, pos := "law.go:51", after := #[{ on := 36, ground := Ground.data }, { on := 37, ground := Ground.data }, { on := 35, ground := Ground.guard }], guard := some (35, true) }) (v := ?va104) rfl (by kernel_rfl) (by kernel_rfl) (by kernel_rfl) (fun _ _ _ h => h) (Or.inl ⟨by rfl, ?ya104⟩) (Below.refl _ _) ?ra104
                  case ya104 => (intro w hSw; go_simp; try with_reducible rfl)
                  try simp only [Act.put, List.setIfInBounds_toArray, List.set_cons_zero, List.set_cons_succ]
                  refine wpAnyH_take (i := 39) (oi := { dst := some 77, op := Op.pick (Operand.tmp 73) (Operand.tmp 76) (Operand.const (Value.bool false)), type := 4, pos := "law.go:51", after := #[{ on := 35, ground := Ground.data }, { on := 38, ground := Ground.data }], guard := none }) (v := ?va105) rfl (by kernel_rfl) (by kernel_rfl) (by kernel_rfl) (fun _ _ _ h => h) (Or.inl ⟨by rfl, ?ya105⟩) (Below.refl _ _) ?ra105
                  case ya105 => (intro w hSw; go_simp; try with_reducible rfl)
                  try simp only [Act.put, List.setIfInBounds_toArray, List.set_cons_zero, List.set_cons_succ]
                  refine wpAnyH_take (i := 40) (oi := { dst := some 78, op := Op.move (Operand.tmp 77), type := 4, pos := "law.go:51", after := #[{ on := 39, ground := Ground.data }, { on := 35, ground := Ground.chain }], guard := none }) (v := ?va106) rfl (by kernel_rfl) (by kernel_rfl) (by kernel_rfl) (fun _ _ _ h => h) (Or.inl ⟨by rfl, ?ya106⟩) (Below.refl _ _) ?ra106
                  case ya106 => (intro w hSw; go_simp; try with_reducible rfl)
                  try simp only [Act.put, List.setIfInBounds_toArray, List.set_cons_zero, List.set_cons_succ]
                  refine wpAnyH_take (i := 41) (oi := { dst := some 79, op := Op.move (Operand.tmp 7), type := 22, pos := "law.go:51", after := #[{ on := 40, ground := Ground.guard }], guard := some (40, true) }) (v := ?va107) rfl (by kernel_rfl) (by kernel_rfl) (by kernel_rfl) (fun _ _ _ h => h) (Or.inl ⟨by rfl, ?ya107⟩) (Below.refl _ _) ?ra107
                  case ya107 => (intro w hSw; go_simp; try with_reducible rfl)
                  try simp only [Act.put, List.setIfInBounds_toArray, List.set_cons_zero, List.set_cons_succ]
                  refine wpAnyH_take (i := 42) (oi := { dst := some 80, op := Op.convert 22 9 (Operand.tmp 79), type := 9, pos := "law.go:51", after := #[{ on := 41, ground := Ground.data }, { on := 40, ground := Ground.guard }], guard := some (40, true) }) (v := ?va108) rfl (by kernel_rfl) (by kernel_rfl) (by kernel_rfl) (fun _ _ _ h => h) (Or.inl ⟨by rfl, ?ya108⟩) (Below.refl _ _) ?ra108
                  case ya108 => (intro w hSw; have t := FCI.out w hSw; go_simp; try with_reducible rfl)
                  try simp only [Act.put, List.setIfInBounds_toArray, List.set_cons_zero, List.set_cons_succ]
                  refine wpAnyH_take (i := 43) (oi := { dst := some 81, op := Op.move (Operand.tmp 2), type := 22, pos := "law.go:51", after := #[{ on := 40, ground := Ground.guard }], guard := some (40, true) }) (v := ?va109) rfl (by kernel_rfl) (by kernel_rfl) (by kernel_rfl) (fun _ _ _ h => h) (Or.inl ⟨by rfl, ?ya109⟩) (Below.refl _ _) ?ra109
                  case ya109 => (intro w hSw; go_simp; try with_reducible rfl)
                  try simp only [Act.put, List.setIfInBounds_toArray, List.set_cons_zero, List.set_cons_succ]
                  refine wpAnyH_take (i := 44) (oi := { dst := some 82, op := Op.convert 22 9 (Operand.tmp 81), type := 9, pos := "law.go:51", after := #[{ on := 43, ground := Ground.data }, { on := 40, ground := Ground.guard }], guard := some (40, true) }) (v := ?va110) rfl (by kernel_rfl) (by kernel_rfl) (by kernel_rfl) (fun _ _ _ h => h) (Or.inl ⟨by rfl, ?ya110⟩) (Below.refl _ _) ?ra110
                  case ya110 => (intro w hSw; have t := FCX.out w hSw; go_simp; try with_reducible rfl)
                  try simp only [Act.put, List.setIfInBounds_toArray, List.set_cons_zero, List.set_cons_succ]
                  refine wpAnyH_take (i := 45) (oi := { dst := some 83, op := Op.binOp BinOp.eql 9 (Operand.tmp 80) (Operand.tmp 82) 9, type := 4, pos := "law.go:51", after := #[{ on := 42, ground := Ground.data }, { on := 44, ground := Ground.data }, { on := 40, ground := Ground.guard }], guard := some (40, true) }) (v := ?va111) rfl (by kernel_rfl) (by kernel_rfl) (by kernel_rfl) (fun _ _ _ h => h) (Or.inl ⟨by rfl, ?ya111⟩) (Below.refl _ _) ?ra111
                  case ya111 => (intro w hSw; go_simp; try with_reducible rfl)
                  try simp only [Act.put, List.setIfInBounds_toArray, List.set_cons_zero, List.set_cons_succ]
                  refine wpAnyH_take (i := 46) (oi := { dst := some 84, op := Op.pick (Operand.tmp 78) (Operand.tmp 83) (Operand.const (Value.bool false)), type := 4, pos := "law.go:51", after := #[{ on := 40, ground := Ground.data }, { on := 45, ground := Ground.data }], guard := none }) (v := ?va112) rfl (by kernel_rfl) (by kernel_rfl) (by kernel_rfl) (fun _ _ _ h => h) (Or.inl ⟨by rfl, ?ya112⟩) (Below.refl _ _) ?ra112
                  case ya112 => (intro w hSw; go_simp; try with_reducible rfl)
                  try simp only [Act.put, List.setIfInBounds_toArray, List.set_cons_zero, List.set_cons_succ]
                  refine wpAnyH_take (i := 47) (oi := { dst := some 85, op := Op.move (Operand.tmp 84), type := 4, pos := "law.go:51", after := #[{ on := 46, ground := Ground.data }, { on := 40, ground := Ground.chain }], guard := none }) (v := ?va113) rfl (by kernel_rfl) (by kernel_rfl) (by kernel_rfl) (fun _ _ _ h => h) (Or.inl ⟨by rfl, ?ya113⟩) (Below.refl _ _) ?ra113
                  case ya113 => (intro w hSw; go_simp; try with_reducible rfl)
                  try simp only [Act.put, List.setIfInBounds_toArray, List.set_cons_zero, List.set_cons_succ]
                  refine wpAnyH_ready (rs := [48]) (by kernel_rfl) (by simp) ?_
                  refine AllReadyH.cons (o := { dst := some 86, op := Op.call { callee := Callee.value (Operand.func 8), args := #[], argTypes := #[] }, type := 4, pos := "law.go:51", after := #[{ on := 47, ground := Ground.chain }, { on := 47, ground := Ground.guard }], guard := some (47, true) }) rfl (fun KK hKK => ?_) ?_
                  · go_simp
                    refine (CA.out _ (FZ.out _ (Below.refl _ _))).mono ?_
                    rintro e u114' ⟨rfl, bu114'⟩
                    (try go_wp2_with fail)
                    refine hKK.out _ _ (bu114') (fun _ => ?_)
                    clear hKK KK
                    try simp only [Act.put, List.setIfInBounds_toArray, List.set_cons_zero, List.set_cons_succ]
                    refine wpAnyH_on (bu114') (fun u114 hu114 bu114 => ?_)
                    replace FR := on FR bu114
                    replace FH := on FH bu114
                    replace FX := on FX bu114
                    replace FI := on FI bu114
                    replace FT := on FT bu114
                    replace FZ := on FZ bu114
                    replace FCI := on FCI bu114
                    replace FCX := on FCX bu114
                    replace FC2 := on FC2 bu114
                    replace FC3 := on FC3 bu114
                    replace F3 := on F3 bu114
                    replace F8 := on F8 bu114
                    replace FE := on FE bu114
                    replace FP := on FP bu114
                    replace F16 := on F16 bu114
                    replace F24 := on F24 bu114
                    refine wpAnyH_take (i := 49) (oi := { dst := some 87, op := Op.pick (Operand.tmp 85) (Operand.tmp 86) (Operand.const (Value.bool false)), type := 4, pos := "law.go:51", after := #[{ on := 47, ground := Ground.data }, { on := 48, ground := Ground.data }], guard := none }) (v := ?va115) rfl (by kernel_rfl) (by kernel_rfl) (by kernel_rfl) (fun _ _ _ h => h) (Or.inl ⟨by rfl, ?ya115⟩) (Below.refl _ _) ?ra115
                    case ya115 => (intro w hSw; go_simp; try with_reducible rfl)
                    try simp only [Act.put, List.setIfInBounds_toArray, List.set_cons_zero, List.set_cons_succ]
                    refine wpAnyH_take (i := 50) (oi := { dst := some 6, op := Op.assign (Operand.tmp 87), type := 4, pos := "law.go:51", after := #[{ on := 49, ground := Ground.data }, { on := 48, ground := Ground.chain }, { on := 0, ground := Ground.phase }, { on := 1, ground := Ground.phase }, { on := 2, ground := Ground.phase }, { on := 3, ground := Ground.phase }, { on := 4, ground := Ground.phase }, { on := 5, ground := Ground.phase }, { on := 6, ground := Ground.phase }, { on := 7, ground := Ground.phase }, { on := 8, ground := Ground.phase }, { on := 9, ground := Ground.phase }, { on := 10, ground := Ground.phase }, { on := 11, ground := Ground.phase }, { on := 12, ground := Ground.phase }, { on := 13, ground := Ground.phase }, { on := 14, ground := Ground.phase }, { on := 15, ground := Ground.phase }, { on := 16, ground := Ground.phase }, { on := 17, ground := Ground.phase }, { on := 18, ground := Ground.phase }, { on := 19, ground := Ground.phase }, { on := 20, ground := Ground.phase }, { on := 21, ground := Ground.phase }, { on := 22, ground := Ground.phase }, { on := 23, ground := Ground.phase }, { on := 24, ground := Ground.phase }, { on := 25, ground := Ground.phase }, { on := 26, ground := Ground.phase }, { on := 27, ground := Ground.phase }, { on := 28, ground := Ground.phase }, { on := 29, ground := Ground.phase }, { on := 30, ground := Ground.phase }, { on := 31, ground := Ground.phase }, { on := 32, ground := Ground.phase }, { on := 33, ground := Ground.phase }, { on := 34, ground := Ground.phase }, { on := 35, ground := Ground.phase }, { on := 36, ground := Ground.phase }, { on := 37, ground := Ground.phase }, { on := 38, ground := Ground.phase }, { on := 39, ground := Ground.phase }, { on := 40, ground := Ground.phase }, { on := 41, ground := Ground.phase }, { on := 42, ground := Ground.phase }, { on := 43, ground := Ground.phase }, { on := 44, ground := Ground.phase }, { on := 45, ground := Ground.phase }, { on := 46, ground := Ground.phase }, { on := 47, ground := Ground.phase }, { on := 48, ground := Ground.phase }, { on := 49, ground := Ground.phase }], guard := none }) (v := ?va116) rfl (by kernel_rfl) (by kernel_rfl) (by kernel_rfl) (fun _ _ _ h => h) (Or.inl ⟨by rfl, ?ya116⟩) (Below.refl _ _) ?ra116
                    case ya116 => (intro w hSw; go_simp; try with_reducible rfl)
                    try simp only [Act.put, List.setIfInBounds_toArray, List.set_cons_zero, List.set_cons_succ]
                    refine wpAnyH_done (by kernel_rfl) ?_ _
                    have BZ := FZ.out _ (Below.refl _ _)
                    go_wp2
                    go_ret
                    exact ⟨rfl, HBA.out.trans (BZ.mono HBA.out.size)⟩
                  exact AllReadyH.nil
                exact AllReadyH.nil
              exact AllReadyH.nil
            exact AllReadyH.nil
          exact AllReadyH.nil
        exact AllReadyH.nil
      exact AllReadyH.nil
    exact AllReadyH.nil
  exact AllReadyH.nil

theorem contract (H : Type) (enc : TypeId × Value → H) (W : World) (base : Nat) (args : Array Value) (ds gs : List (DataW H)) (before : List MemPlace)
    (hval : ∀ (j : Nat) t v, Tryd.f5.params[j]? = some t → args[j]? = some v → Value.okWide Tryd.prog W .any base t v)
    (hW : DataW.Whole enc Tryd.prog Tryd.f5.params.toList Rows.macOpensSpec.vars false W args.toList ds gs before) (hL : laidMetH Tryd.prog Rows.macOpensRow.laid W)
    (hsz0 : (DataW.weightsEach Tryd.prog (Tryd.f5.params.toList ++ Rows.macOpensSpec.plain.varTypes Tryd.prog) (ds ++ gs)).all (· ≤ reachBytes) = true) :
    Calls Tryd.prog 5 args W fun e W' => ∃ v, e = .returned v ∧ Rows.macOpensSpec.post enc Tryd.prog Tryd.f5 false true false false W args v W' := by
  have hW' := hW
  obtain ⟨p, q, hA0, hV, rfl, hfz, hnd⟩ := hW
  have hA : DataW.TrodAll enc Tryd.prog W 0 (fun _ => true) true Tryd.f5.params.toList args.toList ds p := hA0
  rw [Tryd.params5] at hA hval hsz0
  obtain ⟨v0, vs0, d0, ds0, p0, q0, hargs, rfl, rfl, h0, r0⟩ := trodAll_cons hA
  obtain ⟨v1, vs1, d1, ds1, p1, q1, rfl, rfl, rfl, h1, r1⟩ := trodAll_cons r0
  obtain ⟨v2, vs2, d2, ds2, p2, q2, rfl, rfl, rfl, h2, r2⟩ := trodAll_cons r1
  obtain ⟨rfl, rfl, rfl⟩ := trodAll_nil r2
  obtain rfl : args = #[v0, v1, v2] := by cases args; simp_all
  obtain ⟨rfl, rfl⟩ := trodVars_none hV
  have hsz : (DataW.weightsEach Tryd.prog [26, 22, 22] [d0, d1, d2]).all (· ≤ reachBytes) = true := hsz0
  have k0 := h0
  have lt0 : ∀ x ∈ p0, x.block < W.heap.size := by obtain ⟨m, hm⟩ := k0; exact DataW.trod_lt m _ _ _ hm
  obtain ⟨A0, rfl, wl0, wb0⟩ := hash_open (hval 0 26 v0 rfl rfl) h0
  have k1 := h1
  have lt1 : ∀ x ∈ p1, x.block < W.heap.size := by obtain ⟨m, hm⟩ := k1; exact DataW.trod_lt m _ _ _ hm
  obtain ⟨a1, len1, cap1, z1, rfl, w1⟩ := bytes_open 1 (hval 1 22 v1 rfl rfl) h1 hsz rfl rfl
  have k2 := h2
  have lt2 : ∀ x ∈ p2, x.block < W.heap.size := by obtain ⟨m, hm⟩ := k2; exact DataW.trod_lt m _ _ _ hm
  obtain ⟨a2, len2, cap2, z2, rfl, w2⟩ := bytes_open 2 (hval 2 22 v2 rfl rfl) h2 hsz rfl rfl
  clear hA0
  refine (walk A0 a1 len1 cap1 z1 a2 len2 cap2 z2 W (tab_of hL) wl0 wb0 w1 w2).mono fun e W' ⟨he, bel⟩ => ?_
  subst he
  exact ⟨_, rfl, _, _, _, [], _, [], hW', trodAll_mk1 (shut_bool Tryd.underlying4 _), (trodAll_cons_mk (Below.trod laidOut (by kernel_rfl) (of_decide_eq_true (by kernel_rfl)) k0 bel lt0) (trodAll_cons_mk (Below.trod laidOut (by kernel_rfl) (of_decide_eq_true (by kernel_rfl)) k1 bel lt1) (trodAll_cons_mk (Below.trod laidOut (by kernel_rfl) (of_decide_eq_true (by kernel_rfl)) k2 bel lt2) trodAll_mk0))), rfl, bel.frame _, fun h => by cases h⟩

theorem laid_met (os : Os) : laidMet Tryd.prog Rows.macOpensRow.laid (({ World.holding Tryd.prog os ⟨#[], #[], []⟩ with heap := ((((World.holding Tryd.prog os ⟨#[], #[], []⟩).heap.modify 0 (fun
      | .cells _ t frozen => .cells #[.int .u32 1779033703, .int .u32 3144134277, .int .u32 1013904242, .int .u32 2773480762, .int .u32 1359893119, .int .u32 2600822924, .int .u32 528734635, .int .u32 1541459225] t frozen
      | o => o)).modify 1 (fun
      | .cells _ t frozen => .cells #[.int .u32 1116352408, .int .u32 1899447441, .int .u32 3049323471, .int .u32 3921009573, .int .u32 961987163, .int .u32 1508970993, .int .u32 2453635748, .int .u32 2870763221, .int .u32 3624381080, .int .u32 310598401, .int .u32 607225278, .int .u32 1426881987, .int .u32 1925078388, .int .u32 2162078206, .int .u32 2614888103, .int .u32 3248222580, .int .u32 3835390401, .int .u32 4022224774, .int .u32 264347078, .int .u32 604807628, .int .u32 770255983, .int .u32 1249150122, .int .u32 1555081692, .int .u32 1996064986, .int .u32 2554220882, .int .u32 2821834349, .int .u32 2952996808, .int .u32 3210313671, .int .u32 3336571891, .int .u32 3584528711, .int .u32 113926993, .int .u32 338241895, .int .u32 666307205, .int .u32 773529912, .int .u32 1294757372, .int .u32 1396182291, .int .u32 1695183700, .int .u32 1986661051, .int .u32 2177026350, .int .u32 2456956037, .int .u32 2730485921, .int .u32 2820302411, .int .u32 3259730800, .int .u32 3345764771, .int .u32 3516065817, .int .u32 3600352804, .int .u32 4094571909, .int .u32 275423344, .int .u32 430227734, .int .u32 506948616, .int .u32 659060556, .int .u32 883997877, .int .u32 958139571, .int .u32 1322822218, .int .u32 1537002063, .int .u32 1747873779, .int .u32 1955562222, .int .u32 2024104815, .int .u32 2227730452, .int .u32 2361852424, .int .u32 2428436474, .int .u32 2756734187, .int .u32 3204031479, .int .u32 3329325298] t frozen
      | o => o)).modify 2 (fun
      | .cells _ t frozen => .cells #[.int .i64 1, .int .i64 2, .int .i64 4, .int .i64 8] t frozen
      | o => o)) } : World).forCall (fun _ _ => 0) ⟨#[], #[.agg #[.int .u8 0, .int .u8 0, .int .u8 0, .int .u8 0, .int .u8 0, .int .u8 0, .int .u8 0, .int .u8 0, .int .u8 0, .int .u8 0, .int .u8 0, .int .u8 0, .int .u8 0, .int .u8 0, .int .u8 0, .int .u8 0, .int .u8 0, .int .u8 0, .int .u8 0, .int .u8 0, .int .u8 0, .int .u8 0, .int .u8 0, .int .u8 0, .int .u8 0, .int .u8 0, .int .u8 0, .int .u8 0, .int .u8 0, .int .u8 0, .int .u8 0, .int .u8 0], .slice none 0 0, .slice none 0 0], []⟩).memory :=
  laidMet_of_run' 8 (by kernel_rfl) (by kernel_rfl)
theorem reads (os : Os) {H : Type} (enc : TypeId × Value → H) : ∃ places, DataW.whole enc Tryd.prog (({ World.holding Tryd.prog os ⟨#[], #[], []⟩ with heap := ((((World.holding Tryd.prog os ⟨#[], #[], []⟩).heap.modify 0 (fun
      | .cells _ t frozen => .cells #[.int .u32 1779033703, .int .u32 3144134277, .int .u32 1013904242, .int .u32 2773480762, .int .u32 1359893119, .int .u32 2600822924, .int .u32 528734635, .int .u32 1541459225] t frozen
      | o => o)).modify 1 (fun
      | .cells _ t frozen => .cells #[.int .u32 1116352408, .int .u32 1899447441, .int .u32 3049323471, .int .u32 3921009573, .int .u32 961987163, .int .u32 1508970993, .int .u32 2453635748, .int .u32 2870763221, .int .u32 3624381080, .int .u32 310598401, .int .u32 607225278, .int .u32 1426881987, .int .u32 1925078388, .int .u32 2162078206, .int .u32 2614888103, .int .u32 3248222580, .int .u32 3835390401, .int .u32 4022224774, .int .u32 264347078, .int .u32 604807628, .int .u32 770255983, .int .u32 1249150122, .int .u32 1555081692, .int .u32 1996064986, .int .u32 2554220882, .int .u32 2821834349, .int .u32 2952996808, .int .u32 3210313671, .int .u32 3336571891, .int .u32 3584528711, .int .u32 113926993, .int .u32 338241895, .int .u32 666307205, .int .u32 773529912, .int .u32 1294757372, .int .u32 1396182291, .int .u32 1695183700, .int .u32 1986661051, .int .u32 2177026350, .int .u32 2456956037, .int .u32 2730485921, .int .u32 2820302411, .int .u32 3259730800, .int .u32 3345764771, .int .u32 3516065817, .int .u32 3600352804, .int .u32 4094571909, .int .u32 275423344, .int .u32 430227734, .int .u32 506948616, .int .u32 659060556, .int .u32 883997877, .int .u32 958139571, .int .u32 1322822218, .int .u32 1537002063, .int .u32 1747873779, .int .u32 1955562222, .int .u32 2024104815, .int .u32 2227730452, .int .u32 2361852424, .int .u32 2428436474, .int .u32 2756734187, .int .u32 3204031479, .int .u32 3329325298] t frozen
      | o => o)).modify 2 (fun
      | .cells _ t frozen => .cells #[.int .i64 1, .int .i64 2, .int .i64 4, .int .i64 8] t frozen
      | o => o)) } : World).forCall (fun _ _ => 0) ⟨#[], #[.agg #[.int .u8 0, .int .u8 0, .int .u8 0, .int .u8 0, .int .u8 0, .int .u8 0, .int .u8 0, .int .u8 0, .int .u8 0, .int .u8 0, .int .u8 0, .int .u8 0, .int .u8 0, .int .u8 0, .int .u8 0, .int .u8 0, .int .u8 0, .int .u8 0, .int .u8 0, .int .u8 0, .int .u8 0, .int .u8 0, .int .u8 0, .int .u8 0, .int .u8 0, .int .u8 0, .int .u8 0, .int .u8 0, .int .u8 0, .int .u8 0, .int .u8 0, .int .u8 0], .slice none 0 0, .slice none 0 0], []⟩).memory Tryd.f5.params.toList Rows.macOpensSpec.vars false #[Value.agg #[.int .u8 0, .int .u8 0, .int .u8 0, .int .u8 0, .int .u8 0, .int .u8 0, .int .u8 0, .int .u8 0, .int .u8 0, .int .u8 0, .int .u8 0, .int .u8 0, .int .u8 0, .int .u8 0, .int .u8 0, .int .u8 0, .int .u8 0, .int .u8 0, .int .u8 0, .int .u8 0, .int .u8 0, .int .u8 0, .int .u8 0, .int .u8 0, .int .u8 0, .int .u8 0, .int .u8 0, .int .u8 0, .int .u8 0, .int .u8 0, .int .u8 0, .int .u8 0], .slice none 0 0, .slice none 0 0].toList 8 = some ([.agg [.lit (.int .u8 0), .lit (.int .u8 0), .lit (.int .u8 0), .lit (.int .u8 0), .lit (.int .u8 0), .lit (.int .u8 0), .lit (.int .u8 0), .lit (.int .u8 0), .lit (.int .u8 0), .lit (.int .u8 0), .lit (.int .u8 0), .lit (.int .u8 0), .lit (.int .u8 0), .lit (.int .u8 0), .lit (.int .u8 0), .lit (.int .u8 0), .lit (.int .u8 0), .lit (.int .u8 0), .lit (.int .u8 0), .lit (.int .u8 0), .lit (.int .u8 0), .lit (.int .u8 0), .lit (.int .u8 0), .lit (.int .u8 0), .lit (.int .u8 0), .lit (.int .u8 0), .lit (.int .u8 0), .lit (.int .u8 0), .lit (.int .u8 0), .lit (.int .u8 0), .lit (.int .u8 0), .lit (.int .u8 0)], .nil, .nil], [], places) :=
  ⟨[], by kernel_rfl⟩

set_option maxRecDepth 100000 in
theorem lifted (os : Os) (started : os.Started) (H : Type) (enc : TypeId × Value → H) (F : Stop.Interp) :
    ReturnsInHanded {} Tryd.checked os 5 .any ((OpenSpec.ofChange Rows.macOpensSpec).preRow enc Tryd.prog Tryd.f5 Rows.macOpensRow.domain false Rows.macOpensRow.laid) (((OpenSpec.ofChange Rows.macOpensSpec).at F).post enc Tryd.prog Tryd.f5 false true false false) := by
  obtain ⟨places, hx⟩ := reads os enc
  refine returnsInHanded_of_row (C := Tryd.checked) (s := OpenSpec.ofChange Rows.macOpensSpec) own started (by kernel_rfl) Tryd.func5
    (witness_row_at (enc := enc) (C := Tryd.checked) false ({ World.holding Tryd.prog os ⟨#[], #[], []⟩ with heap := ((((World.holding Tryd.prog os ⟨#[], #[], []⟩).heap.modify 0 (fun
      | .cells _ t frozen => .cells #[.int .u32 1779033703, .int .u32 3144134277, .int .u32 1013904242, .int .u32 2773480762, .int .u32 1359893119, .int .u32 2600822924, .int .u32 528734635, .int .u32 1541459225] t frozen
      | o => o)).modify 1 (fun
      | .cells _ t frozen => .cells #[.int .u32 1116352408, .int .u32 1899447441, .int .u32 3049323471, .int .u32 3921009573, .int .u32 961987163, .int .u32 1508970993, .int .u32 2453635748, .int .u32 2870763221, .int .u32 3624381080, .int .u32 310598401, .int .u32 607225278, .int .u32 1426881987, .int .u32 1925078388, .int .u32 2162078206, .int .u32 2614888103, .int .u32 3248222580, .int .u32 3835390401, .int .u32 4022224774, .int .u32 264347078, .int .u32 604807628, .int .u32 770255983, .int .u32 1249150122, .int .u32 1555081692, .int .u32 1996064986, .int .u32 2554220882, .int .u32 2821834349, .int .u32 2952996808, .int .u32 3210313671, .int .u32 3336571891, .int .u32 3584528711, .int .u32 113926993, .int .u32 338241895, .int .u32 666307205, .int .u32 773529912, .int .u32 1294757372, .int .u32 1396182291, .int .u32 1695183700, .int .u32 1986661051, .int .u32 2177026350, .int .u32 2456956037, .int .u32 2730485921, .int .u32 2820302411, .int .u32 3259730800, .int .u32 3345764771, .int .u32 3516065817, .int .u32 3600352804, .int .u32 4094571909, .int .u32 275423344, .int .u32 430227734, .int .u32 506948616, .int .u32 659060556, .int .u32 883997877, .int .u32 958139571, .int .u32 1322822218, .int .u32 1537002063, .int .u32 1747873779, .int .u32 1955562222, .int .u32 2024104815, .int .u32 2227730452, .int .u32 2361852424, .int .u32 2428436474, .int .u32 2756734187, .int .u32 3204031479, .int .u32 3329325298] t frozen
      | o => o)).modify 2 (fun
      | .cells _ t frozen => .cells #[.int .i64 1, .int .i64 2, .int .i64 4, .int .i64 8] t frozen
      | o => o)) } : World) #[.agg #[.int .u8 0, .int .u8 0, .int .u8 0, .int .u8 0, .int .u8 0, .int .u8 0, .int .u8 0, .int .u8 0, .int .u8 0, .int .u8 0, .int .u8 0, .int .u8 0, .int .u8 0, .int .u8 0, .int .u8 0, .int .u8 0, .int .u8 0, .int .u8 0, .int .u8 0, .int .u8 0, .int .u8 0, .int .u8 0, .int .u8 0, .int .u8 0, .int .u8 0, .int .u8 0, .int .u8 0, .int .u8 0, .int .u8 0, .int .u8 0, .int .u8 0, .int .u8 0], .slice none 0 0, .slice none 0 0] rfl (by kernel_rfl) (by kernel_rfl) (by kernel_rfl)
      (OpenSpec.preRow_of_cond 8 hx (by kernel_rfl) (fun k hk => by cases hk) (by kernel_rfl) (laid_met os))) ?_
  intro W base args ds gs before hval hW _ _ hsz hL _ _
  exact contract H enc W base args ds gs before hval hW hL hsz

theorem said : Rows.MacOpensSaid :=
  OpenClaim.holds_of_cond 5 Tryd.f5 rfl rfl rfl rfl rfl rfl rfl ⟨rfl, rfl, rfl, rfl, rfl⟩ rfl rfl rfl rfl rfl (by kernel_rfl) Tryd.func5 (by kernel_rfl)
    (of_decide_eq_true (by kernel_rfl)) (by unfold Func.isWrapper; first | (rw [if_pos (by decide +kernel)]; kernel_rfl) | (rw [if_neg (by decide +kernel)]; exact ⟨rfl, rfl⟩))
    (fun os started H enc _ F => by rw [OpenClaim.pre_eq_preRow]; exact lifted os started H enc F)

theorem plain (f : FuncId) (fn : Func) (hf : Tryd.pinned.checked.prog.funcNamed "sumpter/sumpterlaw05.MacOpens" = some f) (hfn : Tryd.pinned.checked.prog.funcs[f]? = some fn) :
    false = Tryd.pinned.checked.prog.looks [] ∧ ∀ (j : Nat) t, fn.params[j]? = some t → Tryd.pinned.checked.prog.wantsStandIn t = false := by
  obtain rfl : f = 5 := Option.some.inj ((show Tryd.prog.funcNamed "sumpter/sumpterlaw05.MacOpens" = some 5 by kernel_rfl).symm.trans hf) |>.symm
  obtain rfl : fn = Tryd.f5 := (Option.some.inj (Tryd.func5.symm.trans hfn)).symm
  refine ⟨by kernel_rfl, fun j t ht => ?_⟩
  rw [Tryd.params5] at ht
  have hm : t ∈ [26, 22, 22] := by simpa using Array.mem_of_getElem? ht
  have hall : ([26, 22, 22].all fun u => !Tryd.prog.wantsStandIn u) = true := by kernel_rfl
  exact (show Tryd.prog.wantsStandIn t = false by simpa using List.all_eq_true.1 hall t hm)
end Go.Proofs.YtkblcabibnnmcaaDoor.macOpens

namespace Go.Proofs.YtkblcabibnnmcaaDoor
/-- The card of MacOpens. -/
theorem macOpens_card : Rows.MacOpensCardSaid :=
  Claim7.holds_tied_plain_at .later [] _ _ _ _ macOpens.said (fun _ h => by cases h) (by kernel_rfl) (fun _ h => by cases h) macOpens_row_tie rfl ⟨rfl, rfl⟩ (by kernel_rfl) rfl macOpens.plain (by kernel_rfl)
#print axioms macOpens_card
end Go.Proofs.YtkblcabibnnmcaaDoor
