/-
  What lengthAhead answers.
  The reader's calls, at whatever error; what read makes of bytes.
  What read answers.
  What recordAhead makes of bytes, plainly; what is read is a record.
-/
import Derived.Test.YtcenchnmibdebaaDoorRep
import Derived.Test.YtcenchnmibdebaaDoorPu
import Derived.Test.YtcenchnmibdebaaDoorOrd
import Derived.Deep.DeepCutAuto
import Derived.Lib.BufferWrite
namespace Go.Proofs.YtcenchnmibdebaaDoor
open Go.RowKit
set_option maxRecDepth 100000

/-- The bytes, at most eight, filled up. -/
def fil (X : List Int) : List Int := X.take 8 ++ List.replicate 8 255
abbrev fN (X : List Int) : Int := Fi.shN (fil X).length (fil X)
abbrev fU (X : List Int) : Int := Fi.shU (fil X).length (fil X)
abbrev fE (X : List Int) : Int := Fi.shE (fil X).length (fil X)
/-- What lengthAhead tells. -/
def laE (X : List Int) : Int := if fE X ≠ 0 then 4 else if (X.length : Int) < fU X then 3 else if 512 < fN X then 4 else 0
def laN (X : List Int) : Int := if laE X = 0 then fN X else 0
def laU (X : List Int) : Int := if laE X = 0 then fU X else 0
theorem take_min (X : List Int) (m : Nat) (h : m = min X.length 8) : X.take m = X.take 8 := by
  subst h
  rcases Nat.le_total X.length 8 with h | h
  · rw [Nat.min_eq_left h, List.take_length, List.take_of_length_le h]
  · rw [Nat.min_eq_right h]
set_option maxHeartbeats 2000000 in
theorem length_any (v : Value) (X : List Int) (w : World) (h : Sl w v X) (ht : Tb w) (hl : X.length ≤ 1000000) :
    Calls Tryd.prog 48 #[v] w fun e w' => e = .returned (.tuple #[.int .i64 (laN X), .int .i64 (laU X), .int .i64 (laE X)]) ∧ Below w.heap.size w w' := by
  obtain ⟨a, c, rfl, h1, h2, h3, h4⟩ := id h
  obtain ⟨m, hm⟩ : ∃ m, m = min X.length 8 := ⟨_, rfl⟩
  have hmin : min (X.length : Int) 8 = (m : Int) := by rw [hm]; omega
  have hm1 : (m : Int) ≤ (c : Int) := by omega
  have hm0 : (0 : Int) ≤ (m : Int) := by omega
  have ml : m ≤ X.length := by omega
  have hXm : X.take m = X.take 8 := take_min X m hm
  have FX : Hid (∀ W, From w W → Sl W (.slice a m c) (X.take 8)) := fun W hb => by rw [← hXm]; exact (h.take m ml).kept hb
  have lm : (X.take 8).length = m := by rw [← hXm, List.length_take]; omega
  have FB : Hid (∀ W, From w W → Below w.heap.size w W) := fun W hb => hb
  have FW : Hid (∀ W, From w W → Fi.Wid W) := fun W hb => (ht.kept hb).2.1
  have CR : Hid (∀ W b, W.cell? ⟨b, 0, none⟩ = some (.int .u8 255) → Calls Tryd.prog 64 #[.slice (some ⟨b, 0, none⟩) 1 1, .int .i64 8] W fun e w' => ∃ v, e = .returned v ∧ Sl w' v (List.replicate 8 255) ∧ Below W.heap.size W w') := fun W b hc => repeat_any b W hc
  have CJ : Hid (∀ W (g : Nat), Fi.Parts W (some ⟨g, 0, none⟩) [X.take 8, List.replicate 8 255] → Calls Tryd.prog 31 #[.slice (some ⟨g, 0, none⟩) 2 2] W fun r' w' => ∃ v, r' = .returned v ∧ Sl w' v (fil X) ∧ Below W.heap.size W w') := fun W g hP => by
    have := fjoin_any (some ⟨g, 0, none⟩) 2 _ W hP (by simp; omega)
    rw [show [X.take 8, List.replicate 8 255].flatten = fil X by simp [fil]] at this
    exact this
  have CS : Hid (∀ W fa fc, From w W → Sl W (.slice fa (fil X).length fc) (fil X) → Calls Tryd.prog 65 #[.slice fa (fil X).length fc] W fun e w' => e = .returned (.tuple #[.int .i64 (fN X), .int .i64 (fU X), .int .i64 (fE X)]) ∧ w' = W) := fun W fa fc hf hs => by
    obtain ⟨a', c', e, _, _, _, hr⟩ := hs
    cases e
    exact Fi.shortest_any fa (fil X).length fc (fil X) W (FW.out W hf) hr
  have HLA : Hid (laE X = if fE X ≠ 0 then 4 else if (X.length : Int) < fU X then 3 else if 512 < fN X then 4 else 0) := rfl
  have HLN : Hid (laN X = if laE X = 0 then fN X else 0) := rfl
  have HLU : Hid (laU X = if laE X = 0 then fU X else 0) := rfl
  clear h h1 h2 h3 h4 ht hl hXm
  generalize fN X = nq at *
  generalize fU X = uq at *
  generalize fE X = eq9 at *
  generalize laE X = E at *
  generalize laN X = N at *
  generalize laU X = U at *
  generalize fil X = F at *
  generalize X.take 8 = X8 at *
  have HLM : Hid (X8.length = m) := lm
  generalize X.length = L at *
  clear lm hm ml
  generalize hR8 : List.replicate 8 (255 : Int) = R8 at *
  have HR8 : Hid (R8.length = 8) := by unfold Hid; rw [← hR8]; rfl
  clear hR8
  go_enter Tryd.func48, Tryd.ntmps48
  go_wp2_with fail
  have FF : Hid (∀ W, From w W → From w W) := fun W hb => hb
  go_cut [5] (fun s5 wx => (∃ fa fc, s5 = .slice fa F.length fc ∧ Sl wx s5 F) ∧ From w wx)
  case first =>
    refine wp_region_held_drew (S := From w) (by kernel_rfl) ((Below.refl _ _).drew) (fun _ => ?_)
    refine wpAnyH_on ((Below.refl _ _).drew) (fun u0 hu0 bu0 => ?_)
    replace FX := on FX bu0
    replace FB := on FB bu0
    replace FW := on FW bu0
    replace FF := on FF bu0
    refine wpAnyH_take (i := 0) (oi := { dst := some 6, op := Op.move (Operand.tmp 0), type := 27, pos := "record.go:203", after := #[], guard := none }) (v := ?vr1) rfl (by kernel_rfl) (by kernel_rfl) (by kernel_rfl) (fun _ _ _ h => h) (Or.inl ⟨by rfl, ?yr1⟩) (Below.refl _ _) ?rr1
    case yr1 => (intro w hSw; go_simp; try with_reducible rfl)
    try simp only [Act.put, List.setIfInBounds_toArray, List.set_cons_zero, List.set_cons_succ]
    refine wpAnyH_take (i := 1) (oi := { dst := some 7, op := Op.move (Operand.tmp 0), type := 27, pos := "record.go:203", after := #[], guard := none }) (v := ?vr2) rfl (by kernel_rfl) (by kernel_rfl) (by kernel_rfl) (fun _ _ _ h => h) (Or.inl ⟨by rfl, ?yr2⟩) (Below.refl _ _) ?rr2
    case yr2 => (intro w hSw; go_simp; try with_reducible rfl)
    try simp only [Act.put, List.setIfInBounds_toArray, List.set_cons_zero, List.set_cons_succ]
    refine wpAnyH_take (i := 2) (oi := { dst := some 8, op := Op.call { callee := Callee.builtin Builtin.len, args := #[Operand.tmp 7], argTypes := #[27] }, type := 3, pos := "record.go:203", after := #[{ on := 1, ground := Ground.data }], guard := none }) (v := ?vr3) rfl (by kernel_rfl) (by kernel_rfl) (by kernel_rfl) (fun _ _ _ h => h) (Or.inl ⟨by rfl, ?yr3⟩) (Below.refl _ _) ?rr3
    case yr3 => (intro w hSw; go_simp; try with_reducible rfl)
    try simp only [Act.put, List.setIfInBounds_toArray, List.set_cons_zero, List.set_cons_succ]
    refine wpAnyH_take (i := 3) (oi := { dst := some 9, op := Op.call { callee := Callee.builtin Builtin.min, args := #[Operand.tmp 8, Operand.const (Value.int IntKind.i64 8)], argTypes := #[3, 3] }, type := 3, pos := "record.go:203", after := #[{ on := 2, ground := Ground.data }], guard := none }) (v := .int .i64 (m : Int)) rfl (by kernel_rfl) (by kernel_rfl) (by kernel_rfl) (fun _ _ _ h => h) (Or.inl ⟨by rfl, ?yr4⟩) (Below.refl _ _) ?rr4
    case yr4 => (intro w hSw; go_simp; try with_reducible rfl)
    try simp only [Act.put, List.setIfInBounds_toArray, List.set_cons_zero, List.set_cons_succ]
    refine wpAnyH_take (i := 4) (oi := { dst := some 10, op := Op.slice 27 (Operand.tmp 6) none (some (Operand.tmp 9)) none, type := 27, pos := "record.go:203", after := #[{ on := 0, ground := Ground.data }, { on := 3, ground := Ground.data }], guard := none }) (v := .slice a m c) rfl (by kernel_rfl) (by kernel_rfl) (by kernel_rfl) (fun _ _ _ h => h) (Or.inl ⟨by rfl, ?yr5⟩) (Below.refl _ _) ?rr5
    case yr5 => (intro w hSw; go_simp; try with_reducible rfl)
    try simp only [Act.put, List.setIfInBounds_toArray, List.set_cons_zero, List.set_cons_succ]
    refine wpAnyH_ready (rs := [5]) (by kernel_rfl) (by simp) ?_
    refine AllReadyH.cons (o := { dst := some 11, op := Op.buildSlice 27 1 #[(0, Operand.const (Value.int IntKind.u8 255))], type := 27, pos := "record.go:203", after := #[], guard := none }) rfl (fun KK hKK => ?_) ?_
    · have su6 : (u0.alloc (.cells #[.int .u8 255] 5)).cell? ⟨u0.heap.size, 0, none⟩ = some (.int .u8 255) := by rw [World.cell?_alloc_at _ _ _ _ rfl]; rfl
      go_simp
      refine hKK.out _ _ (al_below _ _) (fun _ => ?_)
      clear hKK KK
      try simp only [Act.put, List.setIfInBounds_toArray, List.set_cons_zero, List.set_cons_succ]
      refine wpAnyH_on (al_below _ _) (fun u6 hu6 bu6 => ?_)
      replace FX := on FX bu6
      replace FB := on FB bu6
      replace FW := on FW bu6
      replace FF := on FF bu6
      have KZ : u6.cell? ⟨u0.heap.size, 0, none⟩ = some (.int .u8 255) := by rw [hu6.out]; exact su6
      clear su6
      refine wpAnyH_ready (rs := [6]) (by kernel_rfl) (by simp) ?_
      refine AllReadyH.cons (o := { dst := some 12, op := Op.call { callee := Callee.value (Operand.func 64), args := #[Operand.tmp 11, Operand.const (Value.int IntKind.i64 8)], argTypes := #[27, 3] }, type := 27, pos := "record.go:203", after := #[{ on := 5, ground := Ground.data }], guard := none }) rfl (fun KK hKK => ?_) ?_
      · go_simp
        refine (CR.out _ _ KZ).mono ?_
        rintro e u7' ⟨vu7, rfl, su7, bu7'⟩
        obtain ⟨ra, rc, rfl, -⟩ := id su7
        rw [HR8.out] at su7 ⊢
        (try go_wp2_with fail)
        refine hKK.out _ _ (bu7') (fun _ => ?_)
        clear hKK KK
        try simp only [Act.put, List.setIfInBounds_toArray, List.set_cons_zero, List.set_cons_succ]
        refine wpAnyH_on (bu7') (fun u7 hu7 bu7 => ?_)
        replace FX := on FX bu7
        replace FB := on FB bu7
        replace FW := on FW bu7
        replace FF := on FF bu7
        have FR : Hid (∀ x, From u7 x → Sl x (.slice ra 8 rc) R8) := fun x hx => Sl.kept (by rw [hu7.out]; exact su7) hx
        clear su7
        refine wpAnyH_ready (rs := [7]) (by kernel_rfl) (by simp) ?_
        refine AllReadyH.cons (o := { dst := some 13, op := Op.buildSlice 91 2 #[(0, Operand.tmp 10), (1, Operand.tmp 12)], type := 91, pos := "record.go:203", after := #[{ on := 4, ground := Ground.data }, { on := 6, ground := Ground.data }], guard := none }) rfl (fun KK hKK => ?_) ?_
        · have pu8 := partsL (w := u7) [.slice a m c, .slice ra 8 rc] [X8, R8] (by simp) (two_get (P := fun u X => Sl u7 u X) (FX.out _ (Below.refl _ _)) (FR.out _ (Below.refl _ _)))
          go_simp
          refine hKK.out _ _ (al_below _ _) (fun _ => ?_)
          clear hKK KK
          try simp only [Act.put, List.setIfInBounds_toArray, List.set_cons_zero, List.set_cons_succ]
          refine wpAnyH_on (al_below _ _) (fun u8 hu8 bu8 => ?_)
          replace FX := on FX bu8
          replace FB := on FB bu8
          replace FW := on FW bu8
          replace FF := on FF bu8
          replace FR := on FR bu8
          have FP : Hid (∀ x, From u8 x → Fi.Parts x (some ⟨u7.heap.size, 0, none⟩) [X8, R8]) := fun x hx => fparts_kept (by rw [hu8.out]; exact pu8) hx
          clear pu8
          refine wpAnyH_ready (rs := [8]) (by kernel_rfl) (by simp) ?_
          refine AllReadyH.cons (o := { dst := some 14, op := Op.call { callee := Callee.value (Operand.func 31), args := #[Operand.tmp 13], argTypes := #[91] }, type := 27, pos := "record.go:203", after := #[{ on := 7, ground := Ground.data }, { on := 6, ground := Ground.chain }], guard := none }) rfl (fun KK hKK => ?_) ?_
          · go_simp
            refine (CJ.out _ _ (FP.out _ (Below.refl _ _))).mono ?_
            rintro e u9' ⟨vu9, rfl, su9, bu9'⟩
            obtain ⟨fa, fc, rfl, -⟩ := id su9
            (try go_wp2_with fail)
            refine hKK.out _ _ (bu9') (fun _ => ?_)
            clear hKK KK
            try simp only [Act.put, List.setIfInBounds_toArray, List.set_cons_zero, List.set_cons_succ]
            refine wpAnyH_on (bu9') (fun u9 hu9 bu9 => ?_)
            replace FX := on FX bu9
            replace FB := on FB bu9
            replace FW := on FW bu9
            replace FF := on FF bu9
            replace FR := on FR bu9
            replace FP := on FP bu9
            have HZ : Hid (Sl u9 (.slice fa F.length fc) F) := by unfold Hid; rw [hu9.out]; exact su9
            clear su9
            refine wpAnyH_take (i := 9) (oi := { dst := some 5, op := Op.assign (Operand.tmp 14), type := 27, pos := "record.go:203", after := #[{ on := 8, ground := Ground.data }, { on := 8, ground := Ground.chain }, { on := 0, ground := Ground.phase }, { on := 1, ground := Ground.phase }, { on := 2, ground := Ground.phase }, { on := 3, ground := Ground.phase }, { on := 4, ground := Ground.phase }, { on := 5, ground := Ground.phase }, { on := 6, ground := Ground.phase }, { on := 7, ground := Ground.phase }, { on := 8, ground := Ground.phase }], guard := none }) (v := ?vr10) rfl (by kernel_rfl) (by kernel_rfl) (by kernel_rfl) (fun _ _ _ h => h) (Or.inl ⟨by rfl, ?yr10⟩) (Below.refl _ _) ?rr10
            case yr10 => (intro w hSw; go_simp; try with_reducible rfl)
            try simp only [Act.put, List.setIfInBounds_toArray, List.set_cons_zero, List.set_cons_succ]
            refine wpAnyH_done (by kernel_rfl) ?_ _
            have FZZ : Hid (From w u9) := FF.out _ (Below.refl _ _)
            clear FX FB FW FF FR FP
            go_wp2_with fail
            go_meet
            exact ⟨⟨fa, fc, rfl, HZ.out⟩, FZZ.out⟩
          exact AllReadyH.nil
        exact AllReadyH.nil
      exact AllReadyH.nil
    exact AllReadyH.nil
  case rest =>
    obtain ⟨⟨fa, fc, rfl, hs⟩, hf⟩ := hcut
    have c := CS.out wc fa fc hf hs
    have HB : Hid (Below w.heap.size w wc) := hf
    clear CS CJ CR FX FB FW FF hf hs hmin hm1 hm0
    generalize F.length = fl at *
    go_wp2_with fail
    refine c.mono ?_
    rintro e w2 ⟨rfl, e2⟩
    replace e2 := e2.symm
    subst e2
    clear c
    by_cases h1 : eq9 = 0
    · subst h1
      by_cases h2 : (L : Int) < uq
      · have hE : Hid (E = 3) := by unfold Hid; rw [HLA.out, if_neg (by simp), if_pos h2]
        have hN : Hid (N = 0 ∧ U = 0) := ⟨by rw [HLN.out, hE.out]; rfl, by rw [HLU.out, hE.out]; rfl⟩
        have d2 : decide ((L : Int) < uq) = true := by simpa using h2
        clear HLA HLN HLU
        go_wp2
        go_ret3
        exact ⟨by rw [hE.out, hN.out.1, hN.out.2]; rfl, HB.out⟩
      · have d2 : decide ((L : Int) < uq) = false := by simpa using h2
        by_cases h3 : 512 < nq
        · have hE : Hid (E = 4) := by unfold Hid; rw [HLA.out, if_neg (by simp), if_neg h2, if_pos h3]
          have hN : Hid (N = 0 ∧ U = 0) := ⟨by rw [HLN.out, hE.out]; rfl, by rw [HLU.out, hE.out]; rfl⟩
          have d3 : decide (512 < nq) = true := by simpa using h3
          clear HLA HLN HLU
          go_wp2
          go_ret3
          exact ⟨by rw [hE.out, hN.out.1, hN.out.2]; rfl, HB.out⟩
        · have hE : Hid (E = 0) := by unfold Hid; rw [HLA.out, if_neg (by simp), if_neg h2, if_neg h3]
          have hN : Hid (N = nq ∧ U = uq) := ⟨by rw [HLN.out, hE.out]; rfl, by rw [HLU.out, hE.out]; rfl⟩
          have d3 : decide (512 < nq) = false := by simpa using h3
          clear HLA HLN HLU
          go_wp2
          go_ret3
          exact ⟨by rw [hE.out, hN.out.1, hN.out.2]; rfl, HB.out⟩
    · have hE : Hid (E = 4) := by unfold Hid; rw [HLA.out, if_pos h1]
      have hN : Hid (N = 0 ∧ U = 0) := ⟨by rw [HLN.out, hE.out]; rfl, by rw [HLU.out, hE.out]; rfl⟩
      have d1 : (eq9 != 0) = true := by simpa using h1
      clear HLA HLN HLU
      go_wp2
      go_ret3
      exact ⟨by rw [hE.out, hN.out.1, hN.out.2]; rfl, HB.out⟩
end Go.Proofs.YtcenchnmibdebaaDoor
namespace Go.Proofs.YtcenchnmibdebaaDoor
open Go.RowKit
set_option maxRecDepth 100000

/-- What a reader answers: the value, what is left, the error. -/
def rT (xs : List Int) (e : Int) (m : Int) : List Int × List Int × Int := if e = 0 then (Fi.txS xs m, Fi.txR xs m, Fi.txE xs m) else ([], xs, e)
def rB (xs : List Int) (e : Int) : Int × List Int × Int := if e = 0 then (Fi.byV xs, xs.drop (Fi.raN xs 1), Fi.raE xs 1) else (0, xs, e)
def rN (xs : List Int) (e : Int) (m : Int) : Int × List Int × Int := if e = 0 then (Fi.naN xs m, xs.drop (Fi.naU xs m).toNat, Fi.naE xs m) else (0, xs, e)
def rR (xs : List Int) (e : Int) (n : Int) : List Int × List Int × Int := if e = 0 then (xs.take (Fi.raN xs n), xs.drop (Fi.raN xs n), Fi.raE xs n) else ([], xs, e)
theorem rdText (g s : Nat) (xs : List Int) (e m : Int) (w : World) (hw : Fi.Wid w) (h : Fi.Rd w g s xs e) :
    Calls Tryd.prog 69 #[.pointer (some ⟨g, 0, none⟩), .int .i64 m] w fun r w' => r = .returned (.string (Fi.strB (rT xs e m).1)) ∧ Fi.Rd w' g s (rT xs e m).2.1 (rT xs e m).2.2 ∧ Fi.Off g w w' := by
  unfold rT
  split
  · rename_i he
    subst he
    exact Fi.text_any g s xs m w hw h
  · rename_i he
    refine (Fi.text_stop g s xs e m w h he).mono ?_
    rintro r w' ⟨rfl, rfl⟩
    exact ⟨rfl, h, Fi.Off.refl _ _⟩
theorem rdByte (g s : Nat) (xs : List Int) (e : Int) (w : World) (h : Fi.Rd w g s xs e) :
    Calls Tryd.prog 67 #[.pointer (some ⟨g, 0, none⟩)] w fun r w' => r = .returned (.int .u8 (rB xs e).1) ∧ Fi.Rd w' g s (rB xs e).2.1 (rB xs e).2.2 ∧ Fi.Off g w w' := by
  unfold rB
  split
  · rename_i he
    subst he
    exact Fi.byte_any g s xs w h
  · rename_i he
    refine (Fi.byte_stop g s xs e w h he).mono ?_
    rintro r w' ⟨rfl, rfl⟩
    exact ⟨rfl, h, Fi.Off.refl _ _⟩
theorem rdNum (g s : Nat) (xs : List Int) (e m : Int) (w : World) (hw : Fi.Wid w) (h : Fi.Rd w g s xs e) :
    Calls Tryd.prog 68 #[.pointer (some ⟨g, 0, none⟩), .int .i64 m] w fun r w' => r = .returned (.int .i64 (rN xs e m).1) ∧ Fi.Rd w' g s (rN xs e m).2.1 (rN xs e m).2.2 ∧ Fi.Off g w w' := by
  unfold rN
  split
  · rename_i he
    subst he
    exact Fi.num_any g s xs m w hw h
  · rename_i he
    refine (Fi.num_stop g s xs e m w h he).mono ?_
    rintro r w' ⟨rfl, rfl⟩
    exact ⟨rfl, h, Fi.Off.refl _ _⟩
theorem rdRaw (g s : Nat) (xs : List Int) (e n : Int) (w : World) (h : Fi.Rd w g s xs e) :
    Calls Tryd.prog 70 #[.pointer (some ⟨g, 0, none⟩), .int .i64 n] w fun r w' => r = .returned (.string (Fi.strB (rR xs e n).1)) ∧ Fi.Rd w' g s (rR xs e n).2.1 (rR xs e n).2.2 ∧ Fi.Off g w w' := by
  unfold rR
  split
  · rename_i he
    subst he
    exact Fi.raw_any g s xs n w h
  · rename_i he
    refine (Fi.raw_stop g s xs e n w h he).mono ?_
    rintro r w' ⟨rfl, rfl⟩
    exact ⟨rfl, h, Fi.Off.refl _ _⟩
/-- A sum, of which the first bytes are given. -/
def ov32 (X : List Int) : List Int := X ++ z32.drop X.length
theorem ov32_len (X : List Int) (h : X.length ≤ 32) : (ov32 X).length = 32 := by unfold ov32; rw [List.length_append, List.length_drop, z32_len]; omega
theorem ov32_bytes (X : List Int) (hX : ∀ k, 0 ≤ X.getD k 0 ∧ X.getD k 0 < 256) : ∀ k, 0 ≤ (ov32 X).getD k 0 ∧ (ov32 X).getD k 0 < 256 := by
  intro k
  unfold ov32
  rcases Nat.lt_or_ge k X.length with h | h
  · have : (X ++ z32.drop X.length).getD k 0 = X.getD k 0 := by simp [List.getD, List.getElem?_append_left h]
    rw [this]; exact hX k
  · have : (X ++ z32.drop X.length).getD k 0 = z32.getD (X.length + (k - X.length)) 0 := by
      simp [List.getD, List.getElem?_append_right h, List.getElem?_drop]
    rw [this]; exact z32_bytes _
theorem strB_cells (X : List Int) (hX : ∀ k, 0 ≤ X.getD k 0 ∧ X.getD k 0 < 256) : Lib.byteCells (Fi.strB X).data.toList = X.map (Value.int .u8) := by
  unfold Lib.byteCells Fi.strB
  simp only [List.map_map]
  apply List.ext_getElem?
  intro i
  rw [List.getElem?_map, List.getElem?_map]
  rcases Nat.lt_or_ge i X.length with h | h
  · rw [List.getElem?_eq_getElem h]
    have := hX i
    simp only [List.getD, List.getElem?_eq_getElem h, Option.getD_some] at this
    simp only [Option.map_some, Function.comp_apply]
    congr 2
    rw [UInt8.toNat_ofNat']
    omega
  · rw [List.getElem?_eq_none h]; rfl
theorem wp_copy_str {P : Program} {w : World} {o : Oper} {a : Act} {K : Act → World → Prop} {Q : Exit → Act → World → Prop} (d s : Operand) (dT sT : TypeId)
    (ho : o.op = .call { callee := .builtin .copy, args := #[d, s], argTypes := #[dT, sT] }) (elem : TypeId) (hu : P.underlying dT = some (.slice elem)) (hsz : (P.info? elem).map (·.size) = some 1)
    (g off dLen dCap : Nat) (S : ByteArray) (hd : a.eval d = .slice (some ⟨g, off, none⟩) dLen dCap) (hs : a.eval s = .string S) (cur : Array Value) (t : TypeId) (hg : w.heap[g]? = some (.cells cur t (0, 0))) (hle : S.size ≤ dLen) (hfit : off + S.size ≤ cur.size)
    (h : K (a.put o.dst (goInt S.size)) (w.setRow g (cur.toList.take off ++ Lib.byteCells S.data.toList ++ cur.toList.drop (off + S.size)).toArray)) : o.wp P a w K Q := by
  have hrun := Lib.run_copy_row_string (P := P) w dT sT o.type elem g off dLen dCap S cur t hu hsz hg hle hfit
  unfold Oper.wp
  simp only [execOp, ho, resolve, invoke, builtin, Sem.run_bind, Sem.run_pure, List.map_toArray, List.map_cons, List.map_nil, hd, hs, hrun, Result.andThen_ok]
  exact h
theorem rN_bd (xs : List Int) (e m : Int) (hb : ∀ i, 0 ≤ xs.getD i 0 ∧ xs.getD i 0 < 256) : 0 ≤ (rN xs e m).1 ∧ (rN xs e m).1 < 4611686018427387904 := by
  unfold rN
  split
  · have := Fi.na_bd xs m hb
    exact ⟨this.1, this.2.1⟩
  · exact ⟨by show (0 : Int) ≤ 0; omega, by show (0 : Int) < 4611686018427387904; omega⟩
theorem rR_len (xs : List Int) (e : Int) (n : Nat) : (rR xs e n).1.length ≤ n := by
  unfold rR
  split
  · show (xs.take (Fi.raN xs n)).length ≤ n
    rw [List.length_take]
    unfold Fi.raN
    split <;> omega
  · simp
theorem take_bytes (xs : List Int) (m : Nat) (hx : ∀ i, 0 ≤ xs.getD i 0 ∧ xs.getD i 0 < 256) : ∀ i, 0 ≤ (xs.take m).getD i 0 ∧ (xs.take m).getD i 0 < 256 := by
  intro i
  rcases Nat.lt_or_ge i m with h | h
  · have : (xs.take m).getD i 0 = xs.getD i 0 := by simp [List.getD, h]
    rw [this]; exact hx i
  · have : (xs.take m).getD i 0 = 0 := by simp [List.getD, List.getElem?_take, show ¬ i < m by omega]
    rw [this]; omega
theorem rR_bytes (xs : List Int) (e n : Int) (hb : ∀ i, 0 ≤ xs.getD i 0 ∧ xs.getD i 0 < 256) : ∀ k, 0 ≤ (rR xs e n).1.getD k 0 ∧ (rR xs e n).1.getD k 0 < 256 := by
  unfold rR
  split
  · exact take_bytes xs _ hb
  · intro k; simp
/-- A record is read. -/
def rdR (X : List Int) : Rc :=
  let b := rB X 0
  let n := rN b.2.1 b.2.2 1099511627776
  if b.1 = 0 then
    let t := rT n.2.1 n.2.2 128
    let q := rR t.2.1 t.2.2 32
    let z := rN q.2.1 q.2.2 65536
    ⟨b.1, ⟨n.1, Fi.strB t.1, ov32 q.1, z.1, 0⟩⟩
  else if b.1 = 1 then
    let o := rN n.2.1 n.2.2 65536
    ⟨b.1, ⟨n.1, ⟨#[]⟩, z32, 0, o.1⟩⟩
  else ⟨b.1, ⟨n.1, ⟨#[]⟩, z32, 0, 0⟩⟩
/-- A reader of the call's own, beside the cell of the result. -/
structure RX (w0 : World) (g s : Nat) (X : List Int) (e : Int) (w : World) : Prop where
  rd : Fi.Rd w g s X e
  res : w.heap[w0.heap.size]? = some (.cells rzc 33 (0, 0))
  bel : Below w0.heap.size w0 w
  gt : w0.heap.size < g
  st : s ≠ w0.heap.size
  lt : g < w.heap.size
  sl : s < w.heap.size
  wid : Fi.Wid w
theorem RX.off {w0 w w' : World} {g s : Nat} {X Y : List Int} {e f : Int} (h : RX w0 g s X e w) (r : Fi.Rd w' g s Y f) (o : Fi.Off g w w') : RX w0 g s Y f w' :=
  ⟨r, (o.block _ (Nat.ne_of_lt h.gt)).trans h.res, h.bel.trans (o.below (B := w0.heap.size) (Nat.le_of_lt h.gt)), h.gt, h.st, by rw [o.size]; exact h.lt, by rw [o.size]; exact h.sl, h.wid.off o (by have := h.gt; omega)⟩
/-- And a record that is a variable. -/
structure RY (w0 : World) (g s : Nat) (X : List Int) (e : Int) (R : Nat) (x : Rc) (w : World) : Prop where
  rx : RX w0 g s X e w
  rcd : w.heap[R]? = some (.cells x.cells.toArray 33 (0, 0))
  gr : g < R
  sr : s ≠ R
theorem RY.off {w0 w w' : World} {g s R : Nat} {X Y : List Int} {e f : Int} {x : Rc} (h : RY w0 g s X e R x w) (r : Fi.Rd w' g s Y f) (o : Fi.Off g w w') : RY w0 g s Y f R x w' :=
  ⟨h.rx.off r o, (o.block _ (Nat.ne_of_gt h.gr)).trans h.rcd, h.gr, h.sr⟩
theorem RY.upd {w0 w w' : World} {g s R : Nat} {X : List Int} {e : Int} {x y : Rc} (h : RY w0 g s X e R x w) (hb : Fi.Off R w w') (hr : w'.heap[R]? = some (.cells y.cells.toArray 33 (0, 0))) : RY w0 g s X e R y w' := by
  have h1 := h.gr
  have h2 := h.rx.gt
  exact ⟨⟨h.rx.rd.off hb (by omega) h.sr, (hb.block _ (by omega)).trans h.rx.res, h.rx.bel.trans (hb.below (B := w0.heap.size) (by omega)), h2, h.rx.st, by rw [hb.size]; exact h.rx.lt, by rw [hb.size]; exact h.rx.sl, h.rx.wid.off hb (by omega)⟩, hr, h1, h.sr⟩
theorem RX.alloc {w0 w : World} {g s : Nat} {X : List Int} {e : Int} (h : RX w0 g s X e w) (x : Rc) : RY w0 g s X e w.heap.size x (w.alloc (.cells x.cells.toArray 33)) := by
  have b := al_below w (.cells x.cells.toArray 33)
  exact ⟨⟨h.rd.kept b, blk_kept h.res b (blk_lt h.res), h.bel.trans (b.mono (Nat.le_of_lt (Nat.lt_trans h.gt h.lt))), h.gt, h.st, Nat.lt_of_lt_of_le h.lt b.size, Nat.lt_of_lt_of_le h.sl b.size, h.wid.below b h.wid.pos⟩, heap_alloc_new _ _, h.lt, Nat.ne_of_lt h.sl⟩
theorem off_setCell (w : World) (g i : Nat) (v : Value) : Fi.Off g w (w.setCell ⟨g, i, none⟩ v) := Fi.Off.setCell g i w v
theorem off_setRow (w : World) (g : Nat) (cs : Array Value) : Fi.Off g w (w.setRow g cs) := ⟨rfl, rfl, rfl, by simp, fun j hj => setRow_other w g j cs hj⟩
theorem arr_set {cs ds : List Value} {i : Nat} {v : Value} (h : cs.set i v = ds) : cs.toArray.setIfInBounds i v = ds.toArray := by rw [← h]; simp
theorem rc_setP (x : Rc) (p : ByteArray) : x.cells.set 2 (.string p) = Rc.cells { x with x := { x.x with p := p } } := rfl
theorem rc_setN (x : Rc) (hl : x.x.s.length = 32) (n : Int) : x.cells.set 35 (.int .i64 n) = Rc.cells { x with x := { x.x with n := n } } := by
  unfold Rc.cells Pa.cells
  rw [List.set_cons_succ, List.set_cons_succ, List.set_cons_succ, List.set_append_right _ _ (by simp [hl])]
  simp [hl]
theorem rc_setO (x : Rc) (hl : x.x.s.length = 32) (n : Int) : x.cells.set 36 (.int .i64 n) = Rc.cells { x with x := { x.x with o := n } } := by
  unfold Rc.cells Pa.cells
  rw [List.set_cons_succ, List.set_cons_succ, List.set_cons_succ, List.set_append_right _ _ (by simp [hl])]
  simp [hl]
theorem RY.set {w0 w : World} {g s R : Nat} {X : List Int} {e : Int} {x y : Rc} (h : RY w0 g s X e R x w) (i : Nat) (v : Value) (hs : x.cells.set i v = y.cells) : RY w0 g s X e R y (w.setCell ⟨R, i, none⟩ v) := by
  refine h.upd (off_setCell _ _ _ _) ?_
  have h1 := h.rcd
  rw [heap_setCell_same _ _ _ _ _ _ h1, arr_set hs]
/-- The cells of a record whose sum is laid over. -/
theorem over_rc (x : Rc) (hz : x.x.s = z32) (S : List Int) (hX : ∀ k, 0 ≤ S.getD k 0 ∧ S.getD k 0 < 256) (hl : S.length ≤ 32) :
    (x.cells.toArray.toList.take 3 ++ Lib.byteCells (Fi.strB S).data.toList ++ x.cells.toArray.toList.drop (3 + S.length)) = Rc.cells { x with x := { x.x with s := ov32 S } } := by
  rw [strB_cells S hX]
  unfold Rc.cells Pa.cells ov32
  rw [hz, show 3 + S.length = S.length + 3 by omega]
  have e : (z32.map (Value.int .u8) ++ [Value.int .i64 x.x.n, .int .i64 x.x.o]).drop S.length = (z32.drop S.length).map (Value.int .u8) ++ [Value.int .i64 x.x.n, .int .i64 x.x.o] := by
    rw [List.drop_append_of_le_length (by rw [List.length_map, z32_len]; exact hl), List.map_drop]
  simp [List.drop_succ_cons, e]
end Go.Proofs.YtcenchnmibdebaaDoor
namespace Go.Proofs.YtcenchnmibdebaaDoor
open Go.RowKit
set_option maxRecDepth 100000

theorem rB_bd (xs : List Int) (e : Int) (hb : ∀ i, 0 ≤ xs.getD i 0 ∧ xs.getD i 0 < 256) : 0 ≤ (rB xs e).1 ∧ (rB xs e).1 < 256 := by
  unfold rB
  split
  · exact hb 0
  · exact ⟨by show (0 : Int) ≤ 0; omega, by show (0 : Int) < 256; omega⟩
theorem slb {w : World} {g s : Nat} {xs : List Int} {e : Int} (h : Fi.Rd w g s xs e) : ∀ i, 0 ≤ xs.getD i 0 ∧ xs.getD i 0 < 256 := h.bytes
theorem nx_ok (k i : Int) (hk : 0 ≤ k ∧ k < 256) (hi : 0 ≤ i ∧ i < 4611686018427387904) : Rc.ok ⟨k, ⟨i, ⟨#[]⟩, z32, 0, 0⟩⟩ := ⟨hk.1, hk.2, z32_len, z32_bytes, by unfold i64; simp; omega, i64_0, i64_0⟩
theorem pw_le {i : Int} (h : 0 ≤ i ∧ i < 4611686018427387904) : i64 i := by unfold i64; omega
set_option maxHeartbeats 4000000 in
theorem read_any (v : Value) (X : List Int) (w : World) (h : Sl w v X) (ht : Tb w) (hl : X.length ≤ 1000000) :
    Calls Tryd.prog 49 #[v] w fun e w' => e = .returned (rdR X).val ∧ Below w.heap.size w w' := by
  obtain ⟨W1, hW1⟩ : ∃ W1, W1 = w.alloc (.cells rzc 33) := ⟨_, rfl⟩
  have hwz : w.alloc (.cells #[.int .u8 0, .int .i64 0, .string ⟨#[]⟩, .int .u8 0, .int .u8 0, .int .u8 0, .int .u8 0, .int .u8 0, .int .u8 0, .int .u8 0, .int .u8 0, .int .u8 0, .int .u8 0, .int .u8 0, .int .u8 0, .int .u8 0, .int .u8 0, .int .u8 0, .int .u8 0, .int .u8 0, .int .u8 0, .int .u8 0, .int .u8 0, .int .u8 0, .int .u8 0, .int .u8 0, .int .u8 0, .int .u8 0, .int .u8 0, .int .u8 0, .int .u8 0, .int .u8 0, .int .u8 0, .int .u8 0, .int .u8 0, .int .i64 0, .int .i64 0] 33) = W1 := hW1.symm
  have b1 : Below w.heap.size w W1 := by rw [hW1]; exact al_below _ _
  have s1 : W1.heap.size = w.heap.size + 1 := by rw [hW1]; simp
  have g1 : W1.heap[w.heap.size]? = some (.cells rzc 33 (0, 0)) := by rw [hW1]; exact heap_alloc_new _ _
  have hw1 := (ht.kept b1).2.1
  have hpos := ht.2.1.pos
  have C0 : Hid (Calls Tryd.prog 66 #[v] W1 fun r w' => ∃ g s, r = .returned (.pointer (some ⟨g, 0, none⟩)) ∧ RX w g s X 0 w') := by
    refine (Fi.new_any v X W1 hw1 (fsl (h.kept b1)) (by omega)).mono ?_
    rintro e w' ⟨g, s, rfl, h1, h2, h3, h4, h5⟩
    refine ⟨g, s, rfl, h4, blk_kept g1 h5 (by omega), b1.trans (h5.mono b1.size), by omega, ?_, h2, ?_, hw1.below h5 hw1.pos⟩
    · rcases h3 with h3 | h3 <;> omega
    · have := h5.size
      rcases h3 with h3 | h3 <;> omega
  have HBY : Hid (∀ i, 0 ≤ X.getD i 0 ∧ X.getD i 0 < 256) := h.bytes
  obtain ⟨va, vc, rfl, -⟩ := id h
  have HT : Hid (rdR X = (let b := rB X 0; let n := rN b.2.1 b.2.2 1099511627776; if b.1 = 0 then let t := rT n.2.1 n.2.2 128; let q := rR t.2.1 t.2.2 32; let z := rN q.2.1 q.2.2 65536; ⟨b.1, ⟨n.1, Fi.strB t.1, ov32 q.1, z.1, 0⟩⟩ else if b.1 = 1 then let o := rN n.2.1 n.2.2 65536; ⟨b.1, ⟨n.1, ⟨#[]⟩, z32, 0, o.1⟩⟩ else ⟨b.1, ⟨n.1, ⟨#[]⟩, z32, 0, 0⟩⟩)) := rfl
  have BB := rB_bd X 0 h.bytes
  clear hW1 b1 s1 g1 hw1 hpos h ht hl
  generalize rdR X = R9 at *
  have c0 := C0.out
  clear C0
  generalize X.length = XL at *
  go_enter Tryd.func49, Tryd.ntmps49
  go_wp2_with fail
  try rw [hwz]
  clear hwz
  refine c0.mono ?_
  rintro e w2 ⟨g, s, rfl, rx2⟩
  have C2 := rdByte g s X 0 w2 rx2.rd
  have X2 : Hid (RX w g s X 0 w2) := rx2
  clear c0 rx2
  generalize rB X 0 = b at *
  obtain ⟨bb, by', be⟩ := b
  simp only at C2 HT BB
  go_wp2_with fail
  refine C2.mono ?_
  rintro e w3 ⟨rfl, rd3, of3⟩
  have rx3 := X2.out.off rd3 of3
  have C3 := rdNum g s by' be 1099511627776 w3 rx3.wid rx3.rd
  have NB := rN_bd by' be 1099511627776 (slb rd3)
  have X3 : Hid (RX w g s by' be w3) := rx3
  clear C2 rd3 of3 rx3 X2
  generalize rN by' be 1099511627776 = n at *
  obtain ⟨nn, ny, ne⟩ := n
  simp only at C3 HT NB
  obtain ⟨x0, hx0⟩ : ∃ x0 : Rc, x0 = ⟨bb, ⟨nn, ⟨#[]⟩, z32, 0, 0⟩⟩ := ⟨_, rfl⟩
  have ok0 : x0.ok := by rw [hx0]; exact nx_ok bb nn BB NB
  have BX : Hid (Tryd.prog.built 33 [(0, .int .u8 bb), (1, .int .i64 nn)] = some x0.cells.toArray) := by unfold Hid; rw [hx0]; exact bRS bb nn
  have HX0 : Hid (x0 = ⟨bb, ⟨nn, ⟨#[]⟩, z32, 0, 0⟩⟩) := hx0
  have HOK : Hid x0.ok := ok0
  have HI : Hid ((Tryd.prog.info? 33).map (·.size) = some x0.cells.toArray.size) := Rc.infoA x0 ok0
  have HE2 : Hid (rzc.size = x0.cells.toArray.size) := rzc_size.trans (Rc.size x0 ok0).symm
  have H1 : Hid (x0.cells.toArray.all (·.oneCell') = true) := Rc.ones x0
  go_wp2_with fail
  refine C3.mono ?_
  rintro e w4 ⟨rfl, rd4, of4⟩
  have rx4 := X3.out.off rd4 of4
  have X4 : Hid (RX w g s ny ne w4) := rx4
  have HBN : Hid (∀ i, 0 ≤ ny.getD i 0 ∧ ny.getD i 0 < 256) := slb rd4
  clear C3 rd4 of4 X3 ok0 hx0
  obtain ⟨W5, hW5⟩ : ∃ W5, W5 = w4.alloc (.cells x0.cells.toArray 33) := ⟨_, rfl⟩
  have e1 := alloc_rc w4 x0
  rw [← hW5] at e1
  have HE1 : Hid ((w4.alloc (.cells #[.int .u8 0, .int .i64 0, .string ⟨#[]⟩, .int .u8 0, .int .u8 0, .int .u8 0, .int .u8 0, .int .u8 0, .int .u8 0, .int .u8 0, .int .u8 0, .int .u8 0, .int .u8 0, .int .u8 0, .int .u8 0, .int .u8 0, .int .u8 0, .int .u8 0, .int .u8 0, .int .u8 0, .int .u8 0, .int .u8 0, .int .u8 0, .int .u8 0, .int .u8 0, .int .u8 0, .int .u8 0, .int .u8 0, .int .u8 0, .int .u8 0, .int .u8 0, .int .u8 0, .int .u8 0, .int .u8 0, .int .u8 0, .int .i64 0, .int .i64 0] 33)).setRow w4.heap.size x0.cells.toArray = W5) := e1
  have ry5 : RY w g s ny ne w4.heap.size x0 W5 := by rw [hW5]; exact rx4.alloc x0
  clear e1 hW5 rx4 X4
  go_wp2_with (refine wpList_built rfl 33 _ rfl [(0, .int .u8 bb), (1, .int .i64 nn)] rfl x0.cells.toArray BX.out (Hid.out ?_))
  unfold Hid
  go_wp2_with (refine wpList_store_row rfl 33 _ _ rfl w4.heap.size x0.cells.toArray rfl rfl 33 rzc (new_rc w4) HI.out HE2.out H1.out (Hid.out ?_))
  unfold Hid
  rw [HE1.out]
  obtain ⟨RN, hRN⟩ : ∃ RN, RN = w4.heap.size := ⟨_, rfl⟩
  rw [← hRN] at ry5 ⊢
  clear hRN HE1 HI HE2 H1 BX
  have k0 : W5.cell? ⟨RN, 0, none⟩ = some (.int .u8 bb) := by
    have := (rcC (blk_range ry5.rcd) HOK.out).1
    rw [HX0.out] at this
    exact this
  have Y5 : Hid (RY w g s ny ne RN x0 W5) := ry5
  clear ry5
  by_cases hb0 : bb = 0
  · have HT2 := HT.out
    rw [if_pos hb0] at HT2
    rw [hb0] at k0
    have C6 := rdText g s ny ne 128 W5 Y5.out.rx.wid Y5.out.rx.rd
    clear HT
    generalize rT ny ne 128 = t at *
    obtain ⟨tt, ty, te⟩ := t
    simp only at C6 HT2
    generalize Fi.strB tt = PP at *
    go_wp2_with fail
    refine C6.mono ?_
    rintro e w6 ⟨rfl, rd6, of6⟩
    have ry6 := Y5.out.off rd6 of6
    have HBT : Hid (∀ i, 0 ≤ ty.getD i 0 ∧ ty.getD i 0 < 256) := slb rd6
    obtain ⟨x1, hx1⟩ : ∃ x1 : Rc, x1 = { x0 with x := { x0.x with p := PP } } := ⟨_, rfl⟩
    have ry7 := ry6.set (y := x1) 2 (.string PP) (by rw [hx1]; exact rc_setP x0 PP)
    have k2 : w6.cell? ⟨RN, 2, none⟩ = some (.string x0.x.p) := (rcC (blk_range ry6.rcd) HOK.out).2.2.1
    have f2 : w6.frozen? ⟨RN, 2, none⟩ = false := by simp [World.frozen?, ry6.rcd]
    have HX1 : Hid (x1 = ⟨bb, ⟨nn, PP, z32, 0, 0⟩⟩) := by unfold Hid; rw [hx1, HX0.out]
    obtain ⟨W7, hW7⟩ : ∃ W7, W7 = w6.setCell ⟨RN, 2, none⟩ (.string PP) := ⟨_, rfl⟩
    rw [← hW7] at ry7
    have hw7 := hW7.symm
    have Y7 : Hid (RY w g s ty te RN x1 W7) := ry7
    clear C6 rd6 of6 Y5 ry6 ry7 k0 hW7 hx1
    go_wp2_with fail
    try rw [hw7]
    clear hw7 k2 f2
    have CR : Hid (∀ W, RY w g s ty te RN x1 W → Calls Tryd.prog 70 #[.pointer (some ⟨g, 0, none⟩), .int .i64 32] W fun r w' => r = .returned (.string (Fi.strB (rR ty te 32).1)) ∧ Fi.Rd w' g s (rR ty te 32).2.1 (rR ty te 32).2.2 ∧ Fi.Off g W w') := fun W hW => rdRaw g s ty te 32 W hW.rx.rd
    have HQL : Hid ((rR ty te 32).1.length ≤ 32) := rR_len ty te 32
    have HQB : Hid (∀ k, 0 ≤ (rR ty te 32).1.getD k 0 ∧ (rR ty te 32).1.getD k 0 < 256) := rR_bytes ty te 32 HBT.out
    generalize rR ty te 32 = q at *
    obtain ⟨qq, qy, qe⟩ := q
    simp only at CR HT2 HQL HQB
    obtain ⟨x2, hx2⟩ : ∃ x2 : Rc, x2 = { x1 with x := { x1.x with s := ov32 qq } } := ⟨_, rfl⟩
    have HX2 : Hid (x2 = ⟨bb, ⟨nn, PP, ov32 qq, 0, 0⟩⟩) := by unfold Hid; rw [hx2, HX1.out]
    have HOV : Hid ((x1.cells.toArray.toList.take 3 ++ Lib.byteCells (Fi.strB qq).data.toList ++ x1.cells.toArray.toList.drop (3 + qq.length)) = x2.cells) := by
      unfold Hid
      rw [hx2]
      exact over_rc x1 (by rw [HX1.out]) qq HQB.out HQL.out
    have HSB : Hid ((Fi.strB qq).size = qq.length) := Fi.strB_size qq
    have HX1S : Hid (x1.cells.toArray.size = 37) := by
      unfold Hid
      rw [HX1.out]
      simp [Rc.cells, Pa.cells, z32_len]
    clear hx2
    generalize Fi.strB qq = SS at *
    refine wp_region_held_drew (S := fun _ => True) (by kernel_rfl) trivial (fun _ => ?_)
    refine wpAnyH_name (fun u0 hu0 => ?_)
    have bu0 : Below W7.heap.size W7 u0 := by rw [hu0.out]; exact (Below.refl _ _).drew
    have Yu0 : RY w g s ty te RN x1 u0 := by rw [hu0.out]; exact ⟨⟨Y7.out.rx.rd.kept (Below.refl _ _).drew, Y7.out.rx.res, Y7.out.rx.bel.drew, Y7.out.rx.gt, Y7.out.rx.st, Y7.out.rx.lt, Y7.out.rx.sl, Y7.out.rx.wid.below (Below.refl _ _).drew Y7.out.rx.wid.pos⟩, Y7.out.rcd, Y7.out.gr, Y7.out.sr⟩
    refine wpAnyH_take (i := 0) (oi := { dst := some 19, op := Op.fieldAddr 33 (Operand.tmp 4) 3, type := 0, pos := "record.go:223", after := #[], guard := none }) (v := ?vr1) rfl (by kernel_rfl) (by kernel_rfl) (by kernel_rfl) (fun _ _ _ h => h) (Or.inl ⟨by rfl, ?yr1⟩) trivial ?rr1
    case yr1 => (intro w hSw; go_simp; try with_reducible rfl)
    try simp only [Act.put, List.setIfInBounds_toArray, List.set_cons_zero, List.set_cons_succ]
    refine wpAnyH_take (i := 1) (oi := { dst := some 20, op := Op.slice 23 (Operand.tmp 19) none none none, type := 27, pos := "record.go:223", after := #[{ on := 0, ground := Ground.data }], guard := none }) (v := ?vr2) rfl (by kernel_rfl) (by kernel_rfl) (by kernel_rfl) (fun _ _ _ h => h) (Or.inl ⟨by rfl, ?yr2⟩) trivial ?rr2
    case yr2 => (intro w hSw; go_simp; try with_reducible rfl)
    try simp only [Act.put, List.setIfInBounds_toArray, List.set_cons_zero, List.set_cons_succ]
    refine wpAnyH_take (i := 2) (oi := { dst := some 21, op := Op.move (Operand.tmp 3), type := 102, pos := "record.go:223", after := #[], guard := none }) (v := ?vr3) rfl (by kernel_rfl) (by kernel_rfl) (by kernel_rfl) (fun _ _ _ h => h) (Or.inl ⟨by rfl, ?yr3⟩) trivial ?rr3
    case yr3 => (intro w hSw; go_simp; try with_reducible rfl)
    try simp only [Act.put, List.setIfInBounds_toArray, List.set_cons_zero, List.set_cons_succ]
    refine wpAnyH_ready (rs := [3]) (by kernel_rfl) (by simp) ?_
    refine AllReadyH.cons (o := { dst := some 22, op := Op.call { callee := Callee.value (Operand.func 70), args := #[Operand.tmp 21, Operand.const (Value.int IntKind.i64 32)], argTypes := #[102, 3] }, type := 9, pos := "record.go:223", after := #[{ on := 2, ground := Ground.data }], guard := none }) rfl (fun KK hKK => ?_) ?_
    · go_simp
      refine (CR.out _ Yu0).mono ?_
      rintro r u4' ⟨rfl, rdu4, ofu4⟩
      (try go_wp2_with fail)
      refine hKK.out _ _ trivial (fun _ => ?_)
      clear hKK KK
      try simp only [Act.put, List.setIfInBounds_toArray, List.set_cons_zero, List.set_cons_succ]
      refine wpAnyH_name (fun u4 hu4 => ?_)
      rw [← hu4.out] at rdu4 ofu4
      have Yu4 := Yu0.off rdu4 ofu4
      clear ofu4 rdu4
      refine wpAnyH_ready (rs := [4]) (by kernel_rfl) (by simp) ?_
      refine AllReadyH.cons (o := { dst := some 23, op := Op.call { callee := Callee.builtin Builtin.copy, args := #[Operand.tmp 20, Operand.tmp 22], argTypes := #[27, 9] }, type := 3, pos := "record.go:223", after := #[{ on := 1, ground := Ground.data }, { on := 3, ground := Ground.data }, { on := 3, ground := Ground.chain }], guard := none }) rfl (fun KK hKK => ?_) ?_
      · refine wp_copy_str _ _ 27 9 rfl 5 Tryd.underlying27 size5 RN 3 32 32 SS rfl rfl x1.cells.toArray 33 Yu4.rcd (by have := HSB.out; have := HQL.out; omega) (by have := HSB.out; have := HQL.out; have := HX1S.out; omega) ?_
        rw [HSB.out, HOV.out]
        refine hKK.out _ _ trivial (fun _ => ?_)
        clear hKK KK
        try simp only [Act.put, List.setIfInBounds_toArray, List.set_cons_zero, List.set_cons_succ]
        refine wpAnyH_name (fun u5 hu5 => ?_)
        have Zu5 := Yu4.upd (y := x2) (off_setRow u4 RN x2.cells.toArray) (setRow_heap _ _ _ _ _ _ Yu4.rcd)
        rw [← hu5.out] at Zu5
        refine wpAnyH_done (by kernel_rfl) ?_ _
        obtain ⟨W8, hW8⟩ : ∃ W8, W8 = u5 := ⟨_, rfl⟩
        have Z8 : RY w g s qy qe RN x2 W8 := by rw [hW8]; exact Zu5
        rw [← hW8]
        clear hW8 Zu5
        have C9 := rdNum g s qy qe 65536 W8 Z8.rx.wid Z8.rx.rd
        have NB2 := rN_bd qy qe 65536 (slb Z8.rx.rd)
        have Y8 : Hid (RY w g s qy qe RN x2 W8) := Z8
        clear Z8 CR HOV
        generalize rN qy qe 65536 = z at *
        obtain ⟨zz, zy, ze⟩ := z
        simp only at C9 HT2 NB2
        go_wp2_with fail
        refine C9.mono ?_
        rintro e w9 ⟨rfl, rd9, of9⟩
        have ry9 := Y8.out.off rd9 of9
        have ok2 : x2.ok := by rw [HX2.out]; have h0 := HOK.out; rw [HX0.out] at h0; exact ⟨h0.1, h0.2.1, ov32_len _ HQL.out, ov32_bytes _ HQB.out, h0.2.2.2.2.1, i64_0, i64_0⟩
        obtain ⟨x3, hx3⟩ : ∃ x3 : Rc, x3 = { x2 with x := { x2.x with n := zz } } := ⟨_, rfl⟩
        have rya := ry9.set (y := x3) 35 (.int .i64 zz) (by rw [hx3]; exact rc_setN x2 ok2.2.2.1 zz)
        have k2 : w9.cell? ⟨RN, 35, none⟩ = some (.int .i64 x2.x.n) := (rcC (blk_range ry9.rcd) ok2).2.2.2.2.1
        have f2 : w9.frozen? ⟨RN, 35, none⟩ = false := by simp [World.frozen?, ry9.rcd]
        have ok3 : x3.ok := by rw [hx3]; exact ⟨ok2.1, ok2.2.1, ok2.2.2.1, ok2.2.2.2.1, ok2.2.2.2.2.1, pw_le NB2, ok2.2.2.2.2.2.2⟩
        obtain rfl : R9 = x3 := by rw [HT2, hx3, HX2.out]
        obtain ⟨Wa, hWa⟩ : ∃ Wa, Wa = w9.setCell ⟨RN, 35, none⟩ (.int .i64 zz) := ⟨_, rfl⟩
        rw [← hWa] at rya
        have hwa := hWa.symm
        have Ya : Hid (RY w g s zy ze RN R9 Wa) := rya
        have OK3 : Hid R9.ok := ok3
        have ZR : Hid (Wa.rangeAt RN 0 R9.cells) := blk_range rya.rcd
        have ZZ : Hid ((Tryd.prog.info? 33).map (·.size) = some R9.cells.length) := Rc.infoL R9 ok3
        clear C9 rd9 of9 Y8 ry9 rya hWa hx3 HT2 ok2 ok3
        go_wp2_with (first | refine wpList_load_mid rfl 33 _ rfl RN 0 rfl R9.cells _ ZR.out Tryd.underlying33 rfl ZZ.out ?_ | refine wpList_store_row rfl 33 _ _ rfl w.heap.size R9.cells.toArray rfl rfl 33 rzc Ya.out.rx.res (Rc.infoA _ OK3.out) (rzc_size.trans (Rc.size _ OK3.out).symm) (Rc.ones _) ?_)
        exact bodyPost_ret (v := R9.val) (results_cell_row rfl _ _ w.heap.size 33 R9.cells.toArray (0, 0) _ rfl (setRow_heap _ _ _ _ _ _ Ya.out.rx.res) Tryd.underlying33 rfl (Rc.infoA _ OK3.out)) rfl ⟨rfl, below_setRow Ya.out.rx.bel (Nat.le_refl _) _⟩
      exact AllReadyH.nil
    exact AllReadyH.nil
  · have hb0' : (bb == 0) = false := by simpa using hb0
    by_cases hb1 : bb = 1
    · have HT2 := HT.out
      rw [if_neg hb0, if_pos hb1] at HT2
      rw [hb1] at k0
      have C6 := rdNum g s ny ne 65536 W5 Y5.out.rx.wid Y5.out.rx.rd
      have NB2 := rN_bd ny ne 65536 HBN.out
      clear HT
      generalize rN ny ne 65536 = o at *
      obtain ⟨oo, oy, oe⟩ := o
      simp only at C6 HT2 NB2
      go_wp2_with fail
      refine C6.mono ?_
      rintro e w6 ⟨rfl, rd6, of6⟩
      have ry6 := Y5.out.off rd6 of6
      obtain ⟨x1, hx1⟩ : ∃ x1 : Rc, x1 = { x0 with x := { x0.x with o := oo } } := ⟨_, rfl⟩
      have ry7 := ry6.set (y := x1) 36 (.int .i64 oo) (by rw [hx1]; exact rc_setO x0 HOK.out.2.2.1 oo)
      have k2 : w6.cell? ⟨RN, 36, none⟩ = some (.int .i64 x0.x.o) := (rcC (blk_range ry6.rcd) HOK.out).2.2.2.2.2
      have f2 : w6.frozen? ⟨RN, 36, none⟩ = false := by simp [World.frozen?, ry6.rcd]
      have ok1 : x1.ok := by rw [hx1]; exact ⟨HOK.out.1, HOK.out.2.1, HOK.out.2.2.1, HOK.out.2.2.2.1, HOK.out.2.2.2.2.1, HOK.out.2.2.2.2.2.1, pw_le NB2⟩
      obtain rfl : R9 = x1 := by rw [HT2, hx1, HX0.out]
      obtain ⟨W7, hW7⟩ : ∃ W7, W7 = w6.setCell ⟨RN, 36, none⟩ (.int .i64 oo) := ⟨_, rfl⟩
      rw [← hW7] at ry7
      have hw7 := hW7.symm
      have Y7 : Hid (RY w g s oy oe RN R9 W7) := ry7
      have OK1 : Hid R9.ok := ok1
      have ZR : Hid (W7.rangeAt RN 0 R9.cells) := blk_range ry7.rcd
      have ZZ : Hid ((Tryd.prog.info? 33).map (·.size) = some R9.cells.length) := Rc.infoL R9 ok1
      clear C6 rd6 of6 Y5 ry6 ry7 k0 hW7 hx1 HT2 ok1
      go_wp2_with (first
        | refine wpList_load_mid rfl 33 _ rfl RN 0 rfl R9.cells _ ZR.out Tryd.underlying33 rfl ZZ.out ?_
        | refine wpList_store_row rfl 33 _ _ rfl w.heap.size R9.cells.toArray rfl rfl 33 rzc Y7.out.rx.res (Rc.infoA _ OK1.out) (rzc_size.trans (Rc.size _ OK1.out).symm) (Rc.ones _) ?_)
      exact bodyPost_ret (v := R9.val) (results_cell_row rfl _ _ w.heap.size 33 R9.cells.toArray (0, 0) _ rfl (setRow_heap _ _ _ _ _ _ Y7.out.rx.res) Tryd.underlying33 rfl (Rc.infoA _ OK1.out)) rfl ⟨rfl, below_setRow Y7.out.rx.bel (Nat.le_refl _) _⟩
    · have hb1' : (bb == 1) = false := by simpa using hb1
      obtain rfl : R9 = x0 := by
        have HT2 := HT.out
        rw [if_neg hb0, if_neg hb1] at HT2
        rw [HT2, HX0.out]
      have ZR : Hid (W5.rangeAt RN 0 R9.cells) := blk_range Y5.out.rcd
      have ZZ : Hid ((Tryd.prog.info? 33).map (·.size) = some R9.cells.length) := Rc.infoL R9 HOK.out
      clear HT HX0
      go_wp2_with (first
        | refine wpList_load_mid rfl 33 _ rfl RN 0 rfl R9.cells _ ZR.out Tryd.underlying33 rfl ZZ.out ?_
        | refine wpList_store_row rfl 33 _ _ rfl w.heap.size R9.cells.toArray rfl rfl 33 rzc Y5.out.rx.res (Rc.infoA _ HOK.out) (rzc_size.trans (Rc.size _ HOK.out).symm) (Rc.ones _) ?_)
      exact bodyPost_ret (v := R9.val) (results_cell_row rfl _ _ w.heap.size 33 R9.cells.toArray (0, 0) _ rfl (setRow_heap _ _ _ _ _ _ Y5.out.rx.res) Tryd.underlying33 rfl (Rc.infoA _ HOK.out)) rfl ⟨rfl, below_setRow Y5.out.rx.bel (Nat.le_refl _) _⟩
end Go.Proofs.YtcenchnmibdebaaDoor
namespace Go.Proofs.YtcenchnmibdebaaDoor
open Go.RowKit
set_option maxRecDepth 100000

def Bts (xs : List Int) : Prop := ∀ i, 0 ≤ xs.getD i 0 ∧ xs.getD i 0 < 256
theorem bts_drop {xs : List Int} (h : Bts xs) (n : Nat) : Bts (xs.drop n) := bytes_drop xs n h
theorem bts_take {xs : List Int} (h : Bts xs) (n : Nat) : Bts (xs.take n) := bytes_take xs n h
theorem rB_rest {xs : List Int} (e : Int) (h : Bts xs) : Bts (rB xs e).2.1 := by
  unfold rB; split
  · exact bts_drop h _
  · exact h
theorem rN_rest {xs : List Int} (e m : Int) (h : Bts xs) : Bts (rN xs e m).2.1 := by
  unfold rN; split
  · exact bts_drop h _
  · exact h
theorem rT_rest {xs : List Int} (e m : Int) (h : Bts xs) : Bts (rT xs e m).2.1 := by
  unfold rT; split
  · show Bts (Fi.txR xs m)
    unfold Fi.txR; split
    · exact bts_drop h _
    · exact h
  · exact h
theorem rR_rest {xs : List Int} (e m : Int) (h : Bts xs) : Bts (rR xs e m).2.1 := by
  unfold rR; split
  · exact bts_drop h _
  · exact h
theorem naN_le (xs : List Int) (m : Int) (hm : 0 ≤ m) : Fi.naN xs m ≤ m := by
  unfold Fi.naN
  split
  · rename_i h
    unfold Fi.naE at h
    by_cases h1 : Fi.shE xs.length xs = 0
    · rw [if_pos h1] at h
      by_cases h2 : Fi.shN xs.length xs ≤ m
      · exact h2
      · rw [if_neg h2] at h; cases h
    · rw [if_neg h1] at h; exact absurd h h1
  · exact hm
theorem rT_len (xs : List Int) (e : Int) (m : Nat) : (rT xs e m).1.length ≤ m := by
  unfold rT; split
  · show (Fi.txS xs m).length ≤ m
    unfold Fi.txS; split
    · rw [List.length_take]
      have := naN_le xs m (by omega)
      omega
    · simp
  · simp
theorem rdR_ok (X : List Int) (h : Bts X) : (rdR X).ok ∧ (rdR X).x.p.size ≤ 128 ∧ (rdR X).x.i ≤ 4611686018427387904 := by
  have b0 := rB_bd X 0 h
  have h1 := rB_rest 0 h
  have n0 := rN_bd (rB X 0).2.1 (rB X 0).2.2 1099511627776 h1
  have h2 := rN_rest (rB X 0).2.2 1099511627776 h1
  unfold rdR
  simp only
  generalize hn : rN (rB X 0).2.1 (rB X 0).2.2 1099511627776 = n at *
  split
  · have h3 := rT_rest n.2.2 128 h2
    have h4 := rR_rest (rT n.2.1 n.2.2 128).2.2 32 h3
    have z0 := rN_bd (rR (rT n.2.1 n.2.2 128).2.1 (rT n.2.1 n.2.2 128).2.2 32).2.1 (rR (rT n.2.1 n.2.2 128).2.1 (rT n.2.1 n.2.2 128).2.2 32).2.2 65536 h4
    have q0 := rR_len (rT n.2.1 n.2.2 128).2.1 (rT n.2.1 n.2.2 128).2.2 32
    have q1 := rR_bytes (rT n.2.1 n.2.2 128).2.1 (rT n.2.1 n.2.2 128).2.2 32 h3
    have t0 := rT_len n.2.1 n.2.2 128
    refine ⟨⟨b0.1, b0.2, ov32_len _ q0, ov32_bytes _ q1, pw_le n0, pw_le z0, i64_0⟩, ?_, by show n.1 ≤ _; omega⟩
    show (Fi.strB (rT n.2.1 n.2.2 128).1).size ≤ 128
    rw [Fi.strB_size]
    exact t0
  · split
    · have o0 := rN_bd n.2.1 n.2.2 65536 h2
      exact ⟨⟨b0.1, b0.2, z32_len, z32_bytes, pw_le n0, i64_0, pw_le o0⟩, by show (⟨#[]⟩ : ByteArray).size ≤ 128; decide, by show n.1 ≤ _; omega⟩
    · exact ⟨nx_ok _ _ b0 n0, by show (⟨#[]⟩ : ByteArray).size ≤ 128; decide, by show n.1 ≤ _; omega⟩
/-- The bytes of the record ahead; what recordAhead tells. -/
def whl (X : List Int) : List Int := X.take ((laU X).toNat + (laN X).toNat)
def ahX (X : List Int) : Rc := rdR ((whl X).drop (laU X).toNat)
def ahE (X : List Int) : Int := if laE X ≠ 0 then laE X else if (X.length : Int) - laU X < laN X then 3 else if rck (ahX X) ≠ 0 ∨ ¬ putB (ahX X) = whl X then 4 else 0
def ahR (X : List Int) : Rc := if ahE X = 0 then ahX X else rc0
def ahU (X : List Int) : Int := if ahE X = 0 then (whl X).length else 0
theorem fil_bts {X : List Int} (h : Bts X) : Bts (fil X) := by
  unfold fil
  refine bytes_app (bts_take h 8) fun i => ?_
  rw [List.getD, List.getElem?_replicate]
  split <;> decide
theorem la_bd (X : List Int) (h : Bts X) : 0 ≤ laN X ∧ laN X ≤ 512 ∧ 0 ≤ laU X ∧ (laE X = 0 → laU X ≤ X.length ∧ 1 ≤ laU X) := by
  have hb := Fi.sh_bd (fil X) (fil_bts h)
  unfold laN laU
  by_cases h0 : laE X = 0
  · rw [if_pos h0, if_pos h0]
    have h1 := h0
    unfold laE at h1
    by_cases e1 : fE X = 0
    · rw [if_neg (by omega)] at h1
      by_cases e2 : (X.length : Int) < fU X
      · rw [if_pos e2] at h1; cases h1
      · rw [if_neg e2] at h1
        by_cases e3 : 512 < fN X
        · rw [if_pos e3] at h1; cases h1
        · refine ⟨hb.1, by omega, hb.2.2.1, fun _ => ⟨by omega, ?_⟩⟩
          have e1' : Fi.shE (fil X).length (fil X) = 0 := e1
          show 1 ≤ Fi.shU (fil X).length (fil X)
          unfold Fi.shE at e1'
          unfold Fi.shU
          by_cases g1 : Fi.getE (fil X).length (fil X) = 0
          · rw [if_pos g1] at e1'
            by_cases g2 : Fi.getU (fil X).length (fil X) ≤ Fi.lenOf (Fi.getN (fil X).length (fil X))
            · rw [if_pos ⟨g1, g2⟩]
              unfold Fi.getE at g1
              unfold Fi.getU
              split at g1
              · cases g1
              · rename_i g3
                rw [if_neg g3]
                have := Nat.one_le_two_pow (n := Fi.gk (fil X))
                omega
            · rw [if_neg g2] at e1'; cases e1'
          · rw [if_neg g1] at e1'; exact absurd e1' g1
    · rw [if_pos e1] at h1; cases h1
  · rw [if_neg h0, if_neg h0]
    exact ⟨by omega, by omega, by omega, fun h => absurd h h0⟩
end Go.Proofs.YtcenchnmibdebaaDoor
