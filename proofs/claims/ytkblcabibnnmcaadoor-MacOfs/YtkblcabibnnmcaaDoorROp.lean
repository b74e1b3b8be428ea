/-
  What the document's Open and Label answer; nothing that was there is changed.
-/
import Derived.Test.YtkblcabibnnmcaaDoorRSl
namespace Go.Proofs.YtkblcabibnnmcaaDoor
open Go.RowKit

set_option maxHeartbeats 4000000 in
set_option maxRecDepth 100000 in
theorem ropen_any (KB : List Int) (h v : Value) (H S : List Int) (w : World) (hK : KB.length = 32) (hKb : Pl.Byt KB) (sh : Sl w h H) (sv : Sl w v S) (hH : H.length ≤ 9000) (hS : S.length ≤ 80000) :
    Calls Tryd.prog 15 #[.agg (u8s KB), h, v] w fun e w' => ∃ v', e = .returned (.tuple #[v', .int .i64 (opE KB H S)]) ∧ Sl w' v' (opX KB H S) ∧ Below w.heap.size w w' := by
  obtain ⟨wa, hwa⟩ : ∃ wa, wa = w.alloc (.cells (u8s KB) 26) := ⟨_, rfl⟩
  have ba : Below w.heap.size w wa := by rw [hwa]; exact al_below _ _
  have hwz : w.alloc (.cells (u8s KB) 26) = wa := hwa.symm
  have sva := sv.kept ba
  obtain ⟨a, cap, rfl, h1, h2, h3, h4⟩ := id sva
  by_cases hs : S.length < 16
  · have e1 : opE KB H S = 3 := by unfold opE; rw [if_pos hs]
    have e2 : opX KB H S = [] := by unfold opX; rw [e1]; rfl
    rw [e1, e2]
    have HBA : Hid (Below w.heap.size w wa) := ba
    obtain ⟨ah, ch, rfl, -⟩ := sh
    clear e1 e2 sv sva h4 h3 hwa ba hK hKb
    generalize S.length = L at *
    generalize H.length = hl at *
    generalize u8s KB = KU at *
    go_enter Tryd.func15, Tryd.ntmps15
    go_wp2
    go_ret2
    exact ⟨_, rfl, Sl.none _, HBA.out⟩
  · obtain ⟨b, off, rfl⟩ : ∃ b off, a = some ⟨b, off, none⟩ := by
      rcases h4 with h | ⟨_, b, off, e, _⟩
      · omega
      · exact ⟨b, off, e⟩
    have hX : Hid (opE KB H S = if S.drop (S.length - 16) = btag KB H (S.take (S.length - 16)) then 0 else 15) := by unfold Hid opE; rw [if_neg hs]
    have hY : Hid (opX KB H S = if opE KB H S = 0 then S.take (S.length - 16) else []) := rfl
    have hAD : Hid (S = S.take (S.length - 16) ++ S.drop (S.length - 16)) := (List.take_append_drop _ _).symm
    have hA : (S.take (S.length - 16)).length ≤ 80000 := by rw [List.length_take]; omega
    have HAB : Hid (Pl.Byt (S.take (S.length - 16))) := bytes_take S (S.length - 16) sv.bytes
    have HSB : Hid (Pl.Byt S) := sv.bytes
    have st := sva.take (S.length - 16) (by omega)
    generalize opX KB H S = X at *
    generalize opE KB H S = E at *
    obtain ⟨A, hA'⟩ : ∃ A, A = S.take (S.length - 16) := ⟨_, rfl⟩
    rw [← hA'] at hX hY hA HAB st hAD
    obtain ⟨D, hD'⟩ : ∃ D, D = S.drop (S.length - 16) := ⟨_, rfl⟩
    rw [← hD'] at hX hAD
    clear hA' hD'
    have FR : Hid (∀ x, From wa x → x.rangeAt w.heap.size 0 (KB.map (Value.int .u8))) := fun x hx => range_sum ((Below.block hx _ (by rw [hwa]; simp)).trans (by rw [hwa]; exact heap_alloc_new _ _))
    have FA : Hid (∀ x, From wa x → Sl x (.slice (some ⟨b, off, none⟩) (S.length - 16) cap) A) := fun x hx => st.kept hx
    have FH : Hid (∀ x, From wa x → Sl x h H) := fun x hx => (sh.kept ba).kept hx
    have FB : Hid (∀ x, From wa x → Below w.heap.size w x) := fun x hx => ba.trans (Below.mono hx ba.size)
    have FS : Hid (∀ x, From wa x → (convert 22 9 (.slice (some ⟨b, off, none⟩) S.length cap)).run Tryd.prog x = .ok (.string (strB S)) x) := fun x hx => (sva.kept hx).conv
    have HTB : Hid (Pl.Byt (btag KB H A)) := tagB_byt _ _
    have HAL : Hid (A.length ≤ 80000) := hA
    have HHL : Hid (H.length ≤ 9000) := hH
    have HKK : Hid (KB.length = 32) := hK
    have HKB : Hid (Pl.Byt KB) := hKb
    have HNE : Hid (¬ D = btag KB H A → ((strB (A ++ btag KB H A)).toList == (strB S).toList) = false) := fun hne => by
      refine str_ne (byt_app HAB.out HTB.out) HSB.out (fun e => hne ?_)
      rw [hAD.out] at e
      exact (List.append_cancel_left e).symm
    have HEQ : Hid (D = btag KB H A → strB (A ++ btag KB H A) = strB S) := fun e => by rw [← e, ← hAD.out]
    have hu26 := Tryd.underlying26
    have hi26 : (Tryd.prog.info? 26).map (·.size) = some (KB.map (Value.int .u8)).length := by rw [List.length_map, hK]; exact size26
    obtain ⟨ah, ch, rfl, -⟩ := sh
    clear hwa ba hK hKb sv sva h4 h3 st hA hAD HSB
    obtain ⟨hl, hhl⟩ : ∃ hl, hl = H.length := ⟨_, rfl⟩
    rw [← hhl] at FH hH ⊢
    clear hhl
    generalize strB S = SS at *
    obtain ⟨M, hM⟩ : ∃ M, S.length = M + 16 := ⟨S.length - 16, by omega⟩
    rw [hM] at FA FS h1 hS hs ⊢
    rw [show M + 16 - 16 = M by omega] at FA
    clear hM hs
    unfold maxLen at h2
    have hcM : ¬ cap = M := by omega
    have g1 : (M : Int) ≤ (cap : Int) := by omega
    have g2 : (M : Int) ≤ ((M + 16 : Nat) : Int) := by omega
    by_cases hq : D = btag KB H A
    · have hE : E = 0 := by rw [hX.out, if_pos hq]
      have hXA : X = A := by rw [hY.out, if_pos hE]
      have EQ : Hid (strB (A ++ btag KB H A) = SS) := HEQ.out hq
      subst hE
      subst hXA
      clear hq hX hY HNE HEQ
      go_enter Tryd.func15, Tryd.ntmps15
      go_wp2_with fail
      refine wp_region_held_drew (S := From wa) (by kernel_rfl) ((Below.refl _ _).drew) (fun _ => ?_)
      refine wpAnyH_on ((Below.refl _ _).drew) (fun u0 hu0 bu0 => ?_)
      replace FR := on FR bu0
      replace FA := on FA bu0
      replace FH := on FH bu0
      replace FB := on FB bu0
      replace FS := on FS bu0
      refine wpAnyH_take (i := 0) (oi := { dst := some 14, op := Op.load 26 (Operand.tmp 3), type := 26, pos := "ref.go:66", after := #[], guard := none }) (v := .agg (KB.map (Value.int .u8)).toArray) rfl (by kernel_rfl) (by kernel_rfl) (by kernel_rfl) (fun _ _ _ h => h) (yieldsIf_load_mid (by rfl) _ _ rfl w.heap.size 0 rfl _ _ (fun x h => FR.out x h) hu26 rfl hi26) (Below.refl _ _) ?_
      try simp only [Act.put, List.setIfInBounds_toArray, List.set_cons_zero, List.set_cons_succ]
      refine wpAnyH_take (i := 1) (oi := { dst := some 15, op := Op.move (Operand.tmp 1), type := 22, pos := "ref.go:66", after := #[], guard := none }) (v := ?va2) rfl (by kernel_rfl) (by kernel_rfl) (by kernel_rfl) (fun _ _ _ h => h) (Or.inl ⟨by rfl, ?ya2⟩) (Below.refl _ _) ?ra2
      case ya2 => (intro w hSw; go_simp; try with_reducible rfl)
      try simp only [Act.put, List.setIfInBounds_toArray, List.set_cons_zero, List.set_cons_succ]
      refine wpAnyH_take (i := 2) (oi := { dst := some 16, op := Op.move (Operand.tmp 2), type := 22, pos := "ref.go:66", after := #[], guard := none }) (v := ?va3) rfl (by kernel_rfl) (by kernel_rfl) (by kernel_rfl) (fun _ _ _ h => h) (Or.inl ⟨by rfl, ?ya3⟩) (Below.refl _ _) ?ra3
      case ya3 => (intro w hSw; go_simp; try with_reducible rfl)
      try simp only [Act.put, List.setIfInBounds_toArray, List.set_cons_zero, List.set_cons_succ]
      refine wpAnyH_take (i := 3) (oi := { dst := some 17, op := Op.move (Operand.tmp 8), type := 3, pos := "ref.go:66", after := #[], guard := none }) (v := ?va4) rfl (by kernel_rfl) (by kernel_rfl) (by kernel_rfl) (fun _ _ _ h => h) (Or.inl ⟨by rfl, ?ya4⟩) (Below.refl _ _) ?ra4
      case ya4 => (intro w hSw; go_simp; try with_reducible rfl)
      try simp only [Act.put, List.setIfInBounds_toArray, List.set_cons_zero, List.set_cons_succ]
      refine wpAnyH_take (i := 4) (oi := { dst := some 18, op := Op.slice 22 (Operand.tmp 16) none (some (Operand.tmp 17)) none, type := 22, pos := "ref.go:66", after := #[{ on := 2, ground := Ground.data }, { on := 3, ground := Ground.data }], guard := none }) (v := ?va5) rfl (by kernel_rfl) (by kernel_rfl) (by kernel_rfl) (fun _ _ _ h => h) (Or.inl ⟨by rfl, ?ya5⟩) (Below.refl _ _) ?ra5
      case ya5 => (intro w hSw; go_simp; try with_reducible rfl)
      try simp only [Act.put, List.setIfInBounds_toArray, List.set_cons_zero, List.set_cons_succ]
      refine wpAnyH_take (i := 7) (oi := { dst := some 21, op := Op.move (Operand.tmp 2), type := 22, pos := "ref.go:66", after := #[], guard := none }) (v := ?va6) rfl (by kernel_rfl) (by kernel_rfl) (by kernel_rfl) (fun _ _ _ h => h) (Or.inl ⟨by rfl, ?ya6⟩) (Below.refl _ _) ?ra6
      case ya6 => (intro w hSw; go_simp; try with_reducible rfl)
      try simp only [Act.put, List.setIfInBounds_toArray, List.set_cons_zero, List.set_cons_succ]
      refine wpAnyH_take (i := 8) (oi := { dst := some 22, op := Op.convert 22 9 (Operand.tmp 21), type := 9, pos := "ref.go:66", after := #[{ on := 7, ground := Ground.data }], guard := none }) (v := ?va7) rfl (by kernel_rfl) (by kernel_rfl) (by kernel_rfl) (fun _ _ _ h => h) (Or.inl ⟨by rfl, ?ya7⟩) (Below.refl _ _) ?ra7
      case ya7 => (intro w hSw; have t := FS.out w hSw; go_simp; try with_reducible rfl)
      try simp only [Act.put, List.setIfInBounds_toArray, List.set_cons_zero, List.set_cons_succ]
      refine wpAnyH_ready (rs := [5]) (by kernel_rfl) (by simp) ?_
      refine AllReadyH.cons (o := { dst := some 19, op := Op.call { callee := Callee.value (Operand.func 17), args := #[Operand.tmp 14, Operand.tmp 15, Operand.tmp 18], argTypes := #[26, 22, 22] }, type := 22, pos := "ref.go:66", after := #[{ on := 0, ground := Ground.data }, { on := 1, ground := Ground.data }, { on := 4, ground := Ground.data }], guard := none }) rfl (fun KK hKK => ?_) ?_
      · go_simp
        refine (rseal_any KB _ _ H X _ HKK.out HKB.out (FH.out _ (Below.refl _ _)) (FA.out _ (Below.refl _ _)) HHL.out HAL.out).mono ?_
        rintro e u8' ⟨v5, rfl, own5, bu8'⟩
        have s5 := sl_owned own5 (byt_app HAB.out HTB.out)
        obtain ⟨a5, q5, rfl, -⟩ := id s5
        obtain ⟨l5, hl5⟩ : ∃ l5, l5 = (X ++ btag KB H X).length := ⟨_, rfl⟩
        rw [← hl5] at s5 ⊢
        clear hl5 own5
        (try go_wp2_with fail)
        refine hKK.out _ _ (bu8') (fun _ => ?_)
        clear hKK KK
        try simp only [Act.put, List.setIfInBounds_toArray, List.set_cons_zero, List.set_cons_succ]
        refine wpAnyH_on (bu8') (fun u8 hu8 bu8 => ?_)
        replace FR := on FR bu8
        replace FA := on FA bu8
        replace FH := on FH bu8
        replace FB := on FB bu8
        replace FS := on FS bu8
        have F5 : Hid (∀ x, From u8 x → (convert 22 9 (.slice a5 l5 q5)).run Tryd.prog x = .ok (.string SS) x) := fun x hx => by rw [hu8.out] at hx; have := (s5.kept hx).conv; rw [EQ.out] at this; exact this
        clear s5
        refine wpAnyH_take (i := 6) (oi := { dst := some 20, op := Op.convert 22 9 (Operand.tmp 19), type := 9, pos := "ref.go:66", after := #[{ on := 5, ground := Ground.data }], guard := none }) (v := ?va9) rfl (by kernel_rfl) (by kernel_rfl) (by kernel_rfl) (fun _ _ _ h => h) (Or.inl ⟨by rfl, ?ya9⟩) (Below.refl _ _) ?ra9
        case ya9 => (intro w hSw; have t := F5.out w hSw; go_simp; try with_reducible rfl)
        try simp only [Act.put, List.setIfInBounds_toArray, List.set_cons_zero, List.set_cons_succ]
        refine wpAnyH_take (i := 9) (oi := { dst := some 23, op := Op.binOp BinOp.neq 9 (Operand.tmp 20) (Operand.tmp 22) 9, type := 4, pos := "ref.go:66", after := #[{ on := 6, ground := Ground.data }, { on := 8, ground := Ground.data }], guard := none }) (v := ?va10) rfl (by kernel_rfl) (by kernel_rfl) (by kernel_rfl) (fun _ _ _ h => h) (Or.inl ⟨by rfl, ?ya10⟩) (Below.refl _ _) ?ra10
        case ya10 => (intro w hSw; go_simp; try with_reducible rfl)
        try simp only [Act.put, List.setIfInBounds_toArray, List.set_cons_zero, List.set_cons_succ]
        refine wpAnyH_done (by kernel_rfl) ?_ _
        have B6 : Hid (Below w.heap.size w u8) := FB.out _ (Below.refl _ _)
        have own0 := own_mono (own_empty u8) B6.out.size
        have b0 := al_below u8 (.cells #[] 5)
        have sv0 := FA.out _ b0
        have HB0 : Hid (Below w.heap.size w (u8.alloc (.cells #[] 5))) := B6.out.trans (b0.mono B6.out.size)
        clear FR FH FS FA F5 FB b0
        go_wp2_with (at_builtin; refine wpList_append_sl rfl _ _ rfl w.heap.size _ _ _ rfl own0 _ X rfl sv0 (by have := HAL.out; omega) HB0.out.size (Hid.out ?_))
        unfold Hid
        intro v8 w8 own8 hg8
        have B8 : Hid (Below w.heap.size w w8) := HB0.out.grown hg8 HB0.out.size (own_base own0)
        have S8 : Hid (Sl w8 v8 X) := sl_owned own8 HAB.out
        clear own8 own0 hg8 sv0
        go_wp2
        go_ret2
        exact ⟨_, rfl, S8.out, B8.out⟩
      exact AllReadyH.nil
    · have hE : E = 15 := by rw [hX.out, if_neg hq]
      have hXA : X = [] := by rw [hY.out, hE]; rfl
      have NE : Hid (((strB (A ++ btag KB H A)).toList == SS.toList) = false) := HNE.out hq
      subst hE
      subst hXA
      clear hq hX hY HNE HEQ
      go_enter Tryd.func15, Tryd.ntmps15
      go_wp2_with fail
      refine wp_region_held_drew (S := From wa) (by kernel_rfl) ((Below.refl _ _).drew) (fun _ => ?_)
      refine wpAnyH_on ((Below.refl _ _).drew) (fun u0 hu0 bu0 => ?_)
      replace FR := on FR bu0
      replace FA := on FA bu0
      replace FH := on FH bu0
      replace FB := on FB bu0
      replace FS := on FS bu0
      refine wpAnyH_take (i := 0) (oi := { dst := some 14, op := Op.load 26 (Operand.tmp 3), type := 26, pos := "ref.go:66", after := #[], guard := none }) (v := .agg (KB.map (Value.int .u8)).toArray) rfl (by kernel_rfl) (by kernel_rfl) (by kernel_rfl) (fun _ _ _ h => h) (yieldsIf_load_mid (by rfl) _ _ rfl w.heap.size 0 rfl _ _ (fun x h => FR.out x h) hu26 rfl hi26) (Below.refl _ _) ?_
      try simp only [Act.put, List.setIfInBounds_toArray, List.set_cons_zero, List.set_cons_succ]
      refine wpAnyH_take (i := 1) (oi := { dst := some 15, op := Op.move (Operand.tmp 1), type := 22, pos := "ref.go:66", after := #[], guard := none }) (v := ?vb2) rfl (by kernel_rfl) (by kernel_rfl) (by kernel_rfl) (fun _ _ _ h => h) (Or.inl ⟨by rfl, ?yb2⟩) (Below.refl _ _) ?rb2
      case yb2 => (intro w hSw; go_simp; try with_reducible rfl)
      try simp only [Act.put, List.setIfInBounds_toArray, List.set_cons_zero, List.set_cons_succ]
      refine wpAnyH_take (i := 2) (oi := { dst := some 16, op := Op.move (Operand.tmp 2), type := 22, pos := "ref.go:66", after := #[], guard := none }) (v := ?vb3) rfl (by kernel_rfl) (by kernel_rfl) (by kernel_rfl) (fun _ _ _ h => h) (Or.inl ⟨by rfl, ?yb3⟩) (Below.refl _ _) ?rb3
      case yb3 => (intro w hSw; go_simp; try with_reducible rfl)
      try simp only [Act.put, List.setIfInBounds_toArray, List.set_cons_zero, List.set_cons_succ]
      refine wpAnyH_take (i := 3) (oi := { dst := some 17, op := Op.move (Operand.tmp 8), type := 3, pos := "ref.go:66", after := #[], guard := none }) (v := ?vb4) rfl (by kernel_rfl) (by kernel_rfl) (by kernel_rfl) (fun _ _ _ h => h) (Or.inl ⟨by rfl, ?yb4⟩) (Below.refl _ _) ?rb4
      case yb4 => (intro w hSw; go_simp; try with_reducible rfl)
      try simp only [Act.put, List.setIfInBounds_toArray, List.set_cons_zero, List.set_cons_succ]
      refine wpAnyH_take (i := 4) (oi := { dst := some 18, op := Op.slice 22 (Operand.tmp 16) none (some (Operand.tmp 17)) none, type := 22, pos := "ref.go:66", after := #[{ on := 2, ground := Ground.data }, { on := 3, ground := Ground.data }], guard := none }) (v := ?vb5) rfl (by kernel_rfl) (by kernel_rfl) (by kernel_rfl) (fun _ _ _ h => h) (Or.inl ⟨by rfl, ?yb5⟩) (Below.refl _ _) ?rb5
      case yb5 => (intro w hSw; go_simp; try with_reducible rfl)
      try simp only [Act.put, List.setIfInBounds_toArray, List.set_cons_zero, List.set_cons_succ]
      refine wpAnyH_take (i := 7) (oi := { dst := some 21, op := Op.move (Operand.tmp 2), type := 22, pos := "ref.go:66", after := #[], guard := none }) (v := ?vb6) rfl (by kernel_rfl) (by kernel_rfl) (by kernel_rfl) (fun _ _ _ h => h) (Or.inl ⟨by rfl, ?yb6⟩) (Below.refl _ _) ?rb6
      case yb6 => (intro w hSw; go_simp; try with_reducible rfl)
      try simp only [Act.put, List.setIfInBounds_toArray, List.set_cons_zero, List.set_cons_succ]
      refine wpAnyH_take (i := 8) (oi := { dst := some 22, op := Op.convert 22 9 (Operand.tmp 21), type := 9, pos := "ref.go:66", after := #[{ on := 7, ground := Ground.data }], guard := none }) (v := ?vb7) rfl (by kernel_rfl) (by kernel_rfl) (by kernel_rfl) (fun _ _ _ h => h) (Or.inl ⟨by rfl, ?yb7⟩) (Below.refl _ _) ?rb7
      case yb7 => (intro w hSw; have t := FS.out w hSw; go_simp; try with_reducible rfl)
      try simp only [Act.put, List.setIfInBounds_toArray, List.set_cons_zero, List.set_cons_succ]
      refine wpAnyH_ready (rs := [5]) (by kernel_rfl) (by simp) ?_
      refine AllReadyH.cons (o := { dst := some 19, op := Op.call { callee := Callee.value (Operand.func 17), args := #[Operand.tmp 14, Operand.tmp 15, Operand.tmp 18], argTypes := #[26, 22, 22] }, type := 22, pos := "ref.go:66", after := #[{ on := 0, ground := Ground.data }, { on := 1, ground := Ground.data }, { on := 4, ground := Ground.data }], guard := none }) rfl (fun KK hKK => ?_) ?_
      · go_simp
        refine (rseal_any KB _ _ H A _ HKK.out HKB.out (FH.out _ (Below.refl _ _)) (FA.out _ (Below.refl _ _)) HHL.out HAL.out).mono ?_
        rintro e u8' ⟨v5, rfl, own5, bu8'⟩
        have s5 := sl_owned own5 (byt_app HAB.out HTB.out)
        obtain ⟨a5, q5, rfl, -⟩ := id s5
        obtain ⟨l5, hl5⟩ : ∃ l5, l5 = (A ++ btag KB H A).length := ⟨_, rfl⟩
        rw [← hl5] at s5 ⊢
        clear hl5 own5
        (try go_wp2_with fail)
        refine hKK.out _ _ (bu8') (fun _ => ?_)
        clear hKK KK
        try simp only [Act.put, List.setIfInBounds_toArray, List.set_cons_zero, List.set_cons_succ]
        refine wpAnyH_on (bu8') (fun u8 hu8 bu8 => ?_)
        replace FR := on FR bu8
        replace FA := on FA bu8
        replace FH := on FH bu8
        replace FB := on FB bu8
        replace FS := on FS bu8
        have F5 : Hid (∀ x, From u8 x → (convert 22 9 (.slice a5 l5 q5)).run Tryd.prog x = .ok (.string (strB (A ++ btag KB H A))) x) := fun x hx => by rw [hu8.out] at hx; have := (s5.kept hx).conv; exact this
        clear s5
        generalize strB (A ++ btag KB H A) = S5 at *
        refine wpAnyH_take (i := 6) (oi := { dst := some 20, op := Op.convert 22 9 (Operand.tmp 19), type := 9, pos := "ref.go:66", after := #[{ on := 5, ground := Ground.data }], guard := none }) (v := ?vb9) rfl (by kernel_rfl) (by kernel_rfl) (by kernel_rfl) (fun _ _ _ h => h) (Or.inl ⟨by rfl, ?yb9⟩) (Below.refl _ _) ?rb9
        case yb9 => (intro w hSw; have t := F5.out w hSw; go_simp; try with_reducible rfl)
        try simp only [Act.put, List.setIfInBounds_toArray, List.set_cons_zero, List.set_cons_succ]
        refine wpAnyH_take (i := 9) (oi := { dst := some 23, op := Op.binOp BinOp.neq 9 (Operand.tmp 20) (Operand.tmp 22) 9, type := 4, pos := "ref.go:66", after := #[{ on := 6, ground := Ground.data }, { on := 8, ground := Ground.data }], guard := none }) (v := ?vb10) rfl (by kernel_rfl) (by kernel_rfl) (by kernel_rfl) (fun _ _ _ h => h) (Or.inl ⟨by rfl, ?yb10⟩) (Below.refl _ _) ?rb10
        case yb10 => (intro w hSw; have t := NE.out; go_simp; try with_reducible rfl)
        try simp only [Act.put, List.setIfInBounds_toArray, List.set_cons_zero, List.set_cons_succ]
        refine wpAnyH_done (by kernel_rfl) ?_ _
        go_wp2
        go_ret2
        exact ⟨_, rfl, Sl.none _, FB.out _ (Below.refl _ _)⟩
      exact AllReadyH.nil
set_option maxHeartbeats 4000000 in
set_option maxRecDepth 100000 in
theorem rlabel_any (v : Value) (K : List Int) (s : ByteArray) (p : Option Addr) (kc : Nat) (PP : List (List Int)) (w : World) (sl : Sl w v K) (hP : Parts w p PP) (hk : K.length ≤ 99000) (hs : s.size ≤ 10000) (hPl : PP.length ≤ 100) (hPs : ∀ i, (PP.getD i []).length ≤ 500) :
    Calls Tryd.prog 13 #[v, .string s, .slice p PP.length kc] w fun e w' => e = .returned (.agg (u8s (hmac K (labL s PP)))) ∧ Below w.heap.size w w' := by
  obtain ⟨wa, hwa⟩ : ∃ wa, wa = w.alloc (.cells (u8s (List.replicate 32 0)) 26) := ⟨_, rfl⟩
  have ba : Below w.heap.size w wa := by rw [hwa]; exact al_below _ _
  have g0 : wa.heap[w.heap.size]? = some (.cells (u8s (List.replicate 32 0)) 26 (0, 0)) := by rw [hwa]; exact heap_alloc_new _ _
  have hlt : w.heap.size < wa.heap.size := by rw [hwa]; simp
  have hwz : w.alloc (.cells #[.int .u8 0, .int .u8 0, .int .u8 0, .int .u8 0, .int .u8 0, .int .u8 0, .int .u8 0, .int .u8 0, .int .u8 0, .int .u8 0, .int .u8 0, .int .u8 0, .int .u8 0, .int .u8 0, .int .u8 0, .int .u8 0, .int .u8 0, .int .u8 0, .int .u8 0, .int .u8 0, .int .u8 0, .int .u8 0, .int .u8 0, .int .u8 0, .int .u8 0, .int .u8 0, .int .u8 0, .int .u8 0, .int .u8 0, .int .u8 0, .int .u8 0, .int .u8 0] 26) = wa := hwa.symm
  have HSA : Hid (∀ W, Below wa.heap.size wa W → Sl W v K) := fun W h => (sl.kept ba).kept h
  have HGA : Hid (∀ W, Below wa.heap.size wa W → W.heap[w.heap.size]? = some (.cells (u8s (List.replicate 32 0)) 26 (0, 0))) := fun W h => (h.block _ hlt).trans g0
  have HBA : Hid (∀ W, Below wa.heap.size wa W → Below w.heap.size w W) := fun W h => ba.trans (h.mono ba.size)
  have HPP : Hid (∀ j, j < PP.length → ∃ b off u, p = some ⟨b, off, none⟩ ∧ ∀ W, Below wa.heap.size wa W → W.cell? ⟨b, off + j, none⟩ = some u ∧ Sl W u (PP.getD j [])) := fun j hj => by
    rcases (hP.kept ba).2 with h | ⟨b, off, rfl, hall⟩
    · rw [h] at hj; simp at hj
    · obtain ⟨u, h1, h2⟩ := hall j hj
      exact ⟨b, off, u, rfl, fun W hW => ⟨(hW.cell (World.block_lt_of_cell? _ _ h1)).trans h1, h2.kept hW⟩⟩
  have HI2 : Hid ((Tryd.prog.info? 26).map (·.size) = some (u8s (hmac K (labL s PP))).size) := by unfold Hid; rw [u8s_size, hmac_len]; exact size26
  have HO2 : Hid ((u8s (List.replicate 32 0)).size = (u8s (hmac K (labL s PP))).size) := by unfold Hid; rw [u8s_size, u8s_size, hmac_len]; simp
  have HON : Hid ((u8s (hmac K (labL s PP))).all (·.oneCell') = true) := u8s_one _
  have HPS : Hid (∀ i, (PP.getD i []).length ≤ 500) := hPs
  -- what is laid of the first j
  obtain ⟨F, hF⟩ : ∃ F : Nat → List Int, F = fun j => labL s (PP.take j) := ⟨_, rfl⟩
  have HF0 : Hid (F 0 = textB s) := by rw [hF]; simp [Hid, labL]
  have HFS : Hid (∀ j, j < PP.length → F (j + 1) = F j ++ textL (PP.getD j [])) := fun j hj => by
    have e : PP.take (j + 1) = PP.take j ++ [PP.getD j []] := by
      rw [List.take_add_one, List.getElem?_eq_getElem hj]
      simp [List.getD, List.getElem?_eq_getElem hj]
    rw [hF]
    show textB s ++ ((PP.take (j + 1)).map textL).flatten = (textB s ++ ((PP.take j).map textL).flatten) ++ textL (PP.getD j [])
    rw [e, List.map_append, List.flatten_append, List.append_assoc]
    simp only [List.map_cons, List.map_nil, List.flatten_cons, List.flatten_nil, List.append_nil]
  have HFA : Hid (F PP.length = labL s PP) := by rw [hF]; unfold Hid; simp only [List.take_length]
  have HFL : Hid (∀ j, j ≤ PP.length → (F j).length ≤ 10008 + 508 * j) := by
    intro j
    induction j with
    | zero =>
      intro _
      rw [HF0.out]
      unfold textB
      rw [List.length_append, sb_len]
      have := numB_le (s.size : Int)
      omega
    | succ j ih =>
      intro hj
      rw [HFS.out j (by omega), List.length_append]
      have h1 := ih (by omega)
      have h2 := textL_le (PP.getD j [])
      have h3 := hPs j
      omega
  have HFB : Hid (∀ j, j ≤ PP.length → Pl.Byt (F j)) := by
    intro j
    induction j with
    | zero => intro _; rw [HF0.out]; exact textB_byt s
    | succ j ih =>
      intro hj
      rw [HFS.out j (by omega)]
      obtain ⟨_, _, u, _, h2⟩ := HPP.out j (by omega)
      exact byt_app (ih (by omega)) (textL_byt (h2 wa (Below.refl _ _)).2.bytes)
  clear hF
  have HKL : Hid (K.length ≤ 99000) := hk
  have c1 := rtextB_any s wa (by omega)
  obtain ⟨av, cv, rfl, -⟩ := sl
  obtain ⟨k, hk'⟩ : ∃ k, k = PP.length := ⟨_, rfl⟩
  rw [← hk'] at HPP HFS HFA HFL HFB hPl ⊢
  generalize labL s PP = LL at *
  obtain ⟨U, hU⟩ : ∃ U, U = u8s (hmac K LL) := ⟨_, rfl⟩
  have HU : Hid (U = u8s (hmac K LL)) := hU
  rw [← hU] at HI2 HO2 HON ⊢
  clear hU
  obtain ⟨n, hn⟩ : ∃ n, n = K.length := ⟨_, rfl⟩
  rw [← hn] at HSA ⊢
  clear hwa ba g0 hP hk' hPs hk hn
  go_enter Tryd.func13, Tryd.ntmps13
  go_wp2_with fail
  refine c1.mono ?_
  rintro e w1 ⟨v1, rfl, own1, b1⟩
  rw [← HF0.out] at own1
  have O1 : Hid (w1.ownsRow wa.heap.size 5 1 v1 (F 0).length ((F 0).map (Value.int .u8))) := own1
  have B1 : Hid (Below wa.heap.size wa w1) := b1
  clear c1 own1 b1
  go_wp2_with fail
  go_loopw [7, 8] (fun va q wr => ∃ j : Nat, j ≤ k ∧ q = .int .i64 j ∧ wr.ownsRow wa.heap.size 5 1 va (F j).length ((F j).map (Value.int .u8)) ∧ Below wa.heap.size wa wr) (fun _ q _ => k - (intOf q).toNat)
  case atStart => exact ⟨0, by omega, rfl, O1.out, B1.out⟩
  case round =>
    clear O1 B1
    obtain ⟨j, hj, rfl, own, bel⟩ := hrel
    have BE : Hid (Below wa.heap.size wa wr) := bel
    have OE : Hid (wr.ownsRow wa.heap.size 5 1 u7 (F j).length ((F j).map (Value.int .u8))) := own
    by_cases hltj : j < k
    · have lt2 : (j : Int) < (k : Int) := by omega
      obtain ⟨b, off, u, rfl, hu⟩ := HPP.out j hltj
      obtain ⟨kc1, su⟩ := hu wr bel
      have cvs : (convert 22 9 u).run Tryd.prog wr = .ok (.string (strB (PP.getD j []))) wr := by
        obtain ⟨au, cu, rfl, -⟩ := id su
        exact su.conv
      have ct := rtextB_any (strB (PP.getD j [])) wr (by rw [strB_size]; have := HPS.out j; omega)
      rw [textB_strB su.bytes] at ct
      have HTY : Hid (Pl.Byt (textL (PP.getD j []))) := textL_byt su.bytes
      have HTE : Hid (F (j + 1) = F j ++ textL (PP.getD j [])) := HFS.out j hltj
      have HTL : Hid ((textL (PP.getD j [])).length ≤ 508) := by unfold Hid; have h2 := textL_le (PP.getD j []); have := HPS.out j; omega
      have HFJ := HFL.out j hj
      obtain ⟨au, cu, rfl, -⟩ := su
      generalize strB (PP.getD j []) = SS at *
      generalize textL (PP.getD j []) = TX at *
      generalize (PP.getD j []).length = ul at *
      clear bel own hu
      go_wp2_with fail
      refine ct.mono ?_
      rintro e w2 ⟨v2, rfl, own2, b2⟩
      have B2 : Hid (Below wa.heap.size wa w2) := BE.out.trans (b2.mono BE.out.size)
      have s2 := sl_owned own2 HTY.out
      have O2 : w2.ownsRow wa.heap.size 5 1 u7 (F j).length ((F j).map (Value.int .u8)) := own_lt' OE.out (fun g _ hg => b2.block g hg)
      clear ct cvs kc1 own2 b2 OE
      go_wp2_with (at_builtin; refine wpList_append_sl rfl _ _ rfl wa.heap.size _ _ _ rfl O2 _ TX rfl s2 (by have := HTL.out; omega) B2.out.size (Hid.out ?_))
      unfold Hid
      intro v4 w4 own4 hg4
      rw [← List.map_append, ← List.length_append, ← HTE.out] at own4
      have O4 : Hid (w4.ownsRow wa.heap.size 5 1 v4 (F (j + 1)).length ((F (j + 1)).map (Value.int .u8))) := own4
      have B4 : Hid (Below wa.heap.size wa w4) := B2.out.grown hg4 B2.out.size (own_base O2)
      clear own4 hg4 s2 O2 HFJ
      go_wp2
      go_roundw
      case rel => exact ⟨j + 1, by omega, by go_num, O4.out, B4.out⟩
      case measure => simp [intOf]; omega
    · obtain rfl : j = k := by omega
      rw [HFA.out] at own
      have hll : LL.length ≤ 99000 := by have := HFL.out j hj; rw [HFA.out] at this; omega
      have s4 := sl_owned own (by have := HFB.out j hj; rwa [HFA.out] at this)
      have c9 := rmof_any _ u7 K LL wr (HSA.out wr bel) s4 HKL.out hll
      rw [← HU.out] at c9
      obtain ⟨a4, q4, rfl, -⟩ := s4
      clear own bel OE
      generalize LL.length = ll at *
      go_wp2_with fail
      refine c9.mono ?_
      rintro e w4 ⟨rfl, b4⟩
      have B4 : Below wa.heap.size wa w4 := BE.out.trans (b4.mono BE.out.size)
      have G4 : Hid (w4.heap[w.heap.size]? = some (.cells (u8s (List.replicate 32 0)) 26 (0, 0))) := HGA.out w4 B4
      have E4 : Hid (Below w.heap.size w w4) := HBA.out w4 B4
      clear c9 b4 B4
      go_wp2_with (refine wpList_store_row rfl 26 _ _ rfl w.heap.size U rfl rfl 26 _ G4.out HI2.out HO2.out HON.out ?_)
      refine bodyPost_ret (v := .agg U) (results_cell_row rfl _ _ w.heap.size 26 U (0, 0) _ rfl (setRow_heap _ _ _ _ _ _ G4.out) Tryd.underlying26 rfl HI2.out) rfl ⟨rfl, below_setRow E4.out (Nat.le_refl _) _⟩
end Go.Proofs.YtkblcabibnnmcaaDoor
