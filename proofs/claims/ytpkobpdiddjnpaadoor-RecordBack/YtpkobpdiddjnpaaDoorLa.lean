/-
  What lengthAhead answers.
-/
import Derived.Test.YtpkobpdiddjnpaaDoorRep
import Derived.Test.YtpkobpdiddjnpaaDoorPu
import Derived.Test.YtpkobpdiddjnpaaDoorOrd
import Derived.Deep.DeepCutAuto
namespace Go.Proofs.YtpkobpdiddjnpaaDoor
open Go.RowKit
set_option maxRecDepth 100000

/-- The bytes, at most eight, filled up. -/
def fil (X : List Int) : List Int := X.take 8 ++ List.replicate 8 255
abbrev fN (X : List Int) : Int := Fi.shN (fil X).length (fil X)
abbrev fU (X : List Int) : Int := Fi.shU (fil X).length (fil X)
abbrev fE (X : List Int) : Int := Fi.shE (fil X).length (fil X)
/-- What lengthAhead tells. -/
def laE (X : List Int) : Int := if fE X ≠ 0 then 4 else if (X.length : Int) < fU X then 3 else if 512 < fN X then 4 else 0
def laN (X : List Int) : Int := if laE X = 0 then fN X else 0
def laU (X : List Int) : Int := if laE X = 0 then fU X else 0
theorem take_min (X : List Int) (m : Nat) (h : m = min X.length 8) : X.take m = X.take 8 := by
  subst h
  rcases Nat.le_total X.length 8 with h | h
  · rw [Nat.min_eq_left h, List.take_length, List.take_of_length_le h]
  · rw [Nat.min_eq_right h]
set_option maxHeartbeats 2000000 in
theorem length_any (v : Value) (X : List Int) (w : World) (h : Sl w v X) (ht : Tb w) (hl : X.length ≤ 1000000) :
    Calls Tryd.prog 55 #[v] w fun e w' => e = .returned (.tuple #[.int .i64 (laN X), .int .i64 (laU X), .int .i64 (laE X)]) ∧ Below w.heap.size w w' := by
  obtain ⟨a, c, rfl, h1, h2, h3, h4⟩ := id h
  obtain ⟨m, hm⟩ : ∃ m, m = min X.length 8 := ⟨_, rfl⟩
  have hmin : min (X.length : Int) 8 = (m : Int) := by rw [hm]; omega
  have hm1 : (m : Int) ≤ (c : Int) := by omega
  have hm0 : (0 : Int) ≤ (m : Int) := by omega
  have ml : m ≤ X.length := by omega
  have hXm : X.take m = X.take 8 := take_min X m hm
  have FX : Hid (∀ W, From w W → Sl W (.slice a m c) (X.take 8)) := fun W hb => by rw [← hXm]; exact (h.take m ml).kept hb
  have lm : (X.take 8).length = m := by rw [← hXm, List.length_take]; omega
  have FB : Hid (∀ W, From w W → Below w.heap.size w W) := fun W hb => hb
  have FW : Hid (∀ W, From w W → Fi.Wid W) := fun W hb => (ht.kept hb).2.1
  have CR : Hid (∀ W b, W.cell? ⟨b, 0, none⟩ = some (.int .u8 255) → Calls Tryd.prog 71 #[.slice (some ⟨b, 0, none⟩) 1 1, .int .i64 8] W fun e w' => ∃ v, e = .returned v ∧ Sl w' v (List.replicate 8 255) ∧ Below W.heap.size W w') := fun W b hc => repeat_any b W hc
  have CJ : Hid (∀ W (g : Nat), Fi.Parts W (some ⟨g, 0, none⟩) [X.take 8, List.replicate 8 255] → Calls Tryd.prog 38 #[.slice (some ⟨g, 0, none⟩) 2 2] W fun r' w' => ∃ v, r' = .returned v ∧ Sl w' v (fil X) ∧ Below W.heap.size W w') := fun W g hP => by
    have := fjoin_any (some ⟨g, 0, none⟩) 2 _ W hP (by simp; omega)
    rw [show [X.take 8, List.replicate 8 255].flatten = fil X by simp [fil]] at this
    exact this
  have CS : Hid (∀ W fa fc, From w W → Sl W (.slice fa (fil X).length fc) (fil X) → Calls Tryd.prog 72 #[.slice fa (fil X).length fc] W fun e w' => e = .returned (.tuple #[.int .i64 (fN X), .int .i64 (fU X), .int .i64 (fE X)]) ∧ w' = W) := fun W fa fc hf hs => by
    obtain ⟨a', c', e, _, _, _, hr⟩ := hs
    cases e
    exact Fi.shortest_any fa (fil X).length fc (fil X) W (FW.out W hf) hr
  have HLA : Hid (laE X = if fE X ≠ 0 then 4 else if (X.length : Int) < fU X then 3 else if 512 < fN X then 4 else 0) := rfl
  have HLN : Hid (laN X = if laE X = 0 then fN X else 0) := rfl
  have HLU : Hid (laU X = if laE X = 0 then fU X else 0) := rfl
  clear h h1 h2 h3 h4 ht hl hXm
  generalize fN X = nq at *
  generalize fU X = uq at *
  generalize fE X = eq9 at *
  generalize laE X = E at *
  generalize laN X = N at *
  generalize laU X = U at *
  generalize fil X = F at *
  generalize X.take 8 = X8 at *
  have HLM : Hid (X8.length = m) := lm
  generalize X.length = L at *
  clear lm hm ml
  generalize hR8 : List.replicate 8 (255 : Int) = R8 at *
  have HR8 : Hid (R8.length = 8) := by unfold Hid; rw [← hR8]; rfl
  clear hR8
  go_enter Tryd.func55, Tryd.ntmps55
  go_wp2_with fail
  have FF : Hid (∀ W, From w W → From w W) := fun W hb => hb
  go_cut [5] (fun s5 wx => (∃ fa fc, s5 = .slice fa F.length fc ∧ Sl wx s5 F) ∧ From w wx)
  case first =>
    refine wp_region_held_drew (S := From w) (by kernel_rfl) ((Below.refl _ _).drew) (fun _ => ?_)
    refine wpAnyH_on ((Below.refl _ _).drew) (fun u0 hu0 bu0 => ?_)
    replace FX := on FX bu0
    replace FB := on FB bu0
    replace FW := on FW bu0
    replace FF := on FF bu0
    refine wpAnyH_take (i := 0) (oi := { dst := some 6, op := Op.move (Operand.tmp 0), type := 27, pos := "record.go:203", after := #[], guard := none }) (v := ?vr1) rfl (by kernel_rfl) (by kernel_rfl) (by kernel_rfl) (fun _ _ _ h => h) (Or.inl ⟨by rfl, ?yr1⟩) (Below.refl _ _) ?rr1
    case yr1 => (intro w hSw; go_simp; try with_reducible rfl)
    try simp only [Act.put, List.setIfInBounds_toArray, List.set_cons_zero, List.set_cons_succ]
    refine wpAnyH_take (i := 1) (oi := { dst := some 7, op := Op.move (Operand.tmp 0), type := 27, pos := "record.go:203", after := #[], guard := none }) (v := ?vr2) rfl (by kernel_rfl) (by kernel_rfl) (by kernel_rfl) (fun _ _ _ h => h) (Or.inl ⟨by rfl, ?yr2⟩) (Below.refl _ _) ?rr2
    case yr2 => (intro w hSw; go_simp; try with_reducible rfl)
    try simp only [Act.put, List.setIfInBounds_toArray, List.set_cons_zero, List.set_cons_succ]
    refine wpAnyH_take (i := 2) (oi := { dst := some 8, op := Op.call { callee := Callee.builtin Builtin.len, args := #[Operand.tmp 7], argTypes := #[27] }, type := 3, pos := "record.go:203", after := #[{ on := 1, ground := Ground.data }], guard := none }) (v := ?vr3) rfl (by kernel_rfl) (by kernel_rfl) (by kernel_rfl) (fun _ _ _ h => h) (Or.inl ⟨by rfl, ?yr3⟩) (Below.refl _ _) ?rr3
    case yr3 => (intro w hSw; go_simp; try with_reducible rfl)
    try simp only [Act.put, List.setIfInBounds_toArray, List.set_cons_zero, List.set_cons_succ]
    refine wpAnyH_take (i := 3) (oi := { dst := some 9, op := Op.call { callee := Callee.builtin Builtin.min, args := #[Operand.tmp 8, Operand.const (Value.int IntKind.i64 8)], argTypes := #[3, 3] }, type := 3, pos := "record.go:203", after := #[{ on := 2, ground := Ground.data }], guard := none }) (v := .int .i64 (m : Int)) rfl (by kernel_rfl) (by kernel_rfl) (by kernel_rfl) (fun _ _ _ h => h) (Or.inl ⟨by rfl, ?yr4⟩) (Below.refl _ _) ?rr4
    case yr4 => (intro w hSw; go_simp; try with_reducible rfl)
    try simp only [Act.put, List.setIfInBounds_toArray, List.set_cons_zero, List.set_cons_succ]
    refine wpAnyH_take (i := 4) (oi := { dst := some 10, op := Op.slice 27 (Operand.tmp 6) none (some (Operand.tmp 9)) none, type := 27, pos := "record.go:203", after := #[{ on := 0, ground := Ground.data }, { on := 3, ground := Ground.data }], guard := none }) (v := .slice a m c) rfl (by kernel_rfl) (by kernel_rfl) (by kernel_rfl) (fun _ _ _ h => h) (Or.inl ⟨by rfl, ?yr5⟩) (Below.refl _ _) ?rr5
    case yr5 => (intro w hSw; go_simp; try with_reducible rfl)
    try simp only [Act.put, List.setIfInBounds_toArray, List.set_cons_zero, List.set_cons_succ]
    refine wpAnyH_ready (rs := [5]) (by kernel_rfl) (by simp) ?_
    refine AllReadyH.cons (o := { dst := some 11, op := Op.buildSlice 27 1 #[(0, Operand.const (Value.int IntKind.u8 255))], type := 27, pos := "record.go:203", after := #[], guard := none }) rfl (fun KK hKK => ?_) ?_
    · have su6 : (u0.alloc (.cells #[.int .u8 255] 5)).cell? ⟨u0.heap.size, 0, none⟩ = some (.int .u8 255) := by rw [World.cell?_alloc_at _ _ _ _ rfl]; rfl
      go_simp
      refine hKK.out _ _ (al_below _ _) (fun _ => ?_)
      clear hKK KK
      try simp only [Act.put, List.setIfInBounds_toArray, List.set_cons_zero, List.set_cons_succ]
      refine wpAnyH_on (al_below _ _) (fun u6 hu6 bu6 => ?_)
      replace FX := on FX bu6
      replace FB := on FB bu6
      replace FW := on FW bu6
      replace FF := on FF bu6
      have KZ : u6.cell? ⟨u0.heap.size, 0, none⟩ = some (.int .u8 255) := by rw [hu6.out]; exact su6
      clear su6
      refine wpAnyH_ready (rs := [6]) (by kernel_rfl) (by simp) ?_
      refine AllReadyH.cons (o := { dst := some 12, op := Op.call { callee := Callee.value (Operand.func 71), args := #[Operand.tmp 11, Operand.const (Value.int IntKind.i64 8)], argTypes := #[27, 3] }, type := 27, pos := "record.go:203", after := #[{ on := 5, ground := Ground.data }], guard := none }) rfl (fun KK hKK => ?_) ?_
      · go_simp
        refine (CR.out _ _ KZ).mono ?_
        rintro e u7' ⟨vu7, rfl, su7, bu7'⟩
        obtain ⟨ra, rc, rfl, -⟩ := id su7
        rw [HR8.out] at su7 ⊢
        (try go_wp2_with fail)
        refine hKK.out _ _ (bu7') (fun _ => ?_)
        clear hKK KK
        try simp only [Act.put, List.setIfInBounds_toArray, List.set_cons_zero, List.set_cons_succ]
        refine wpAnyH_on (bu7') (fun u7 hu7 bu7 => ?_)
        replace FX := on FX bu7
        replace FB := on FB bu7
        replace FW := on FW bu7
        replace FF := on FF bu7
        have FR : Hid (∀ x, From u7 x → Sl x (.slice ra 8 rc) R8) := fun x hx => Sl.kept (by rw [hu7.out]; exact su7) hx
        clear su7
        refine wpAnyH_ready (rs := [7]) (by kernel_rfl) (by simp) ?_
        refine AllReadyH.cons (o := { dst := some 13, op := Op.buildSlice 100 2 #[(0, Operand.tmp 10), (1, Operand.tmp 12)], type := 100, pos := "record.go:203", after := #[{ on := 4, ground := Ground.data }, { on := 6, ground := Ground.data }], guard := none }) rfl (fun KK hKK => ?_) ?_
        · have pu8 := partsL (w := u7) [.slice a m c, .slice ra 8 rc] [X8, R8] (by simp) (two_get (P := fun u X => Sl u7 u X) (FX.out _ (Below.refl _ _)) (FR.out _ (Below.refl _ _)))
          go_simp
          refine hKK.out _ _ (al_below _ _) (fun _ => ?_)
          clear hKK KK
          try simp only [Act.put, List.setIfInBounds_toArray, List.set_cons_zero, List.set_cons_succ]
          refine wpAnyH_on (al_below _ _) (fun u8 hu8 bu8 => ?_)
          replace FX := on FX bu8
          replace FB := on FB bu8
          replace FW := on FW bu8
          replace FF := on FF bu8
          replace FR := on FR bu8
          have FP : Hid (∀ x, From u8 x → Fi.Parts x (some ⟨u7.heap.size, 0, none⟩) [X8, R8]) := fun x hx => fparts_kept (by rw [hu8.out]; exact pu8) hx
          clear pu8
          refine wpAnyH_ready (rs := [8]) (by kernel_rfl) (by simp) ?_
          refine AllReadyH.cons (o := { dst := some 14, op := Op.call { callee := Callee.value (Operand.func 38), args := #[Operand.tmp 13], argTypes := #[100] }, type := 27, pos := "record.go:203", after := #[{ on := 7, ground := Ground.data }, { on := 6, ground := Ground.chain }], guard := none }) rfl (fun KK hKK => ?_) ?_
          · go_simp
            refine (CJ.out _ _ (FP.out _ (Below.refl _ _))).mono ?_
            rintro e u9' ⟨vu9, rfl, su9, bu9'⟩
            obtain ⟨fa, fc, rfl, -⟩ := id su9
            (try go_wp2_with fail)
            refine hKK.out _ _ (bu9') (fun _ => ?_)
            clear hKK KK
            try simp only [Act.put, List.setIfInBounds_toArray, List.set_cons_zero, List.set_cons_succ]
            refine wpAnyH_on (bu9') (fun u9 hu9 bu9 => ?_)
            replace FX := on FX bu9
            replace FB := on FB bu9
            replace FW := on FW bu9
            replace FF := on FF bu9
            replace FR := on FR bu9
            replace FP := on FP bu9
            have HZ : Hid (Sl u9 (.slice fa F.length fc) F) := by unfold Hid; rw [hu9.out]; exact su9
            clear su9
            refine wpAnyH_take (i := 9) (oi := { dst := some 5, op := Op.assign (Operand.tmp 14), type := 27, pos := "record.go:203", after := #[{ on := 8, ground := Ground.data }, { on := 8, ground := Ground.chain }, { on := 0, ground := Ground.phase }, { on := 1, ground := Ground.phase }, { on := 2, ground := Ground.phase }, { on := 3, ground := Ground.phase }, { on := 4, ground := Ground.phase }, { on := 5, ground := Ground.phase }, { on := 6, ground := Ground.phase }, { on := 7, ground := Ground.phase }, { on := 8, ground := Ground.phase }], guard := none }) (v := ?vr10) rfl (by kernel_rfl) (by kernel_rfl) (by kernel_rfl) (fun _ _ _ h => h) (Or.inl ⟨by rfl, ?yr10⟩) (Below.refl _ _) ?rr10
            case yr10 => (intro w hSw; go_simp; try with_reducible rfl)
            try simp only [Act.put, List.setIfInBounds_toArray, List.set_cons_zero, List.set_cons_succ]
            refine wpAnyH_done (by kernel_rfl) ?_ _
            have FZZ : Hid (From w u9) := FF.out _ (Below.refl _ _)
            clear FX FB FW FF FR FP
            go_wp2_with fail
            go_meet
            exact ⟨⟨fa, fc, rfl, HZ.out⟩, FZZ.out⟩
          exact AllReadyH.nil
        exact AllReadyH.nil
      exact AllReadyH.nil
    exact AllReadyH.nil
  case rest =>
    obtain ⟨⟨fa, fc, rfl, hs⟩, hf⟩ := hcut
    have c := CS.out wc fa fc hf hs
    have HB : Hid (Below w.heap.size w wc) := hf
    clear CS CJ CR FX FB FW FF hf hs hmin hm1 hm0
    generalize F.length = fl at *
    go_wp2_with fail
    refine c.mono ?_
    rintro e w2 ⟨rfl, e2⟩
    replace e2 := e2.symm
    subst e2
    clear c
    by_cases h1 : eq9 = 0
    · subst h1
      by_cases h2 : (L : Int) < uq
      · have hE : Hid (E = 3) := by unfold Hid; rw [HLA.out, if_neg (by simp), if_pos h2]
        have hN : Hid (N = 0 ∧ U = 0) := ⟨by rw [HLN.out, hE.out]; rfl, by rw [HLU.out, hE.out]; rfl⟩
        have d2 : decide ((L : Int) < uq) = true := by simpa using h2
        clear HLA HLN HLU
        go_wp2
        go_ret3
        exact ⟨by rw [hE.out, hN.out.1, hN.out.2]; rfl, HB.out⟩
      · have d2 : decide ((L : Int) < uq) = false := by simpa using h2
        by_cases h3 : 512 < nq
        · have hE : Hid (E = 4) := by unfold Hid; rw [HLA.out, if_neg (by simp), if_neg h2, if_pos h3]
          have hN : Hid (N = 0 ∧ U = 0) := ⟨by rw [HLN.out, hE.out]; rfl, by rw [HLU.out, hE.out]; rfl⟩
          have d3 : decide (512 < nq) = true := by simpa using h3
          clear HLA HLN HLU
          go_wp2
          go_ret3
          exact ⟨by rw [hE.out, hN.out.1, hN.out.2]; rfl, HB.out⟩
        · have hE : Hid (E = 0) := by unfold Hid; rw [HLA.out, if_neg (by simp), if_neg h2, if_neg h3]
          have hN : Hid (N = nq ∧ U = uq) := ⟨by rw [HLN.out, hE.out]; rfl, by rw [HLU.out, hE.out]; rfl⟩
          have d3 : decide (512 < nq) = false := by simpa using h3
          clear HLA HLN HLU
          go_wp2
          go_ret3
          exact ⟨by rw [hE.out, hN.out.1, hN.out.2]; rfl, HB.out⟩
    · have hE : Hid (E = 4) := by unfold Hid; rw [HLA.out, if_pos h1]
      have hN : Hid (N = 0 ∧ U = 0) := ⟨by rw [HLN.out, hE.out]; rfl, by rw [HLU.out, hE.out]; rfl⟩
      have d1 : (eq9 != 0) = true := by simpa using h1
      clear HLA HLN HLU
      go_wp2
      go_ret3
      exact ⟨by rw [hE.out, hN.out.1, hN.out.2]; rfl, HB.out⟩
end Go.Proofs.YtpkobpdiddjnpaaDoor
