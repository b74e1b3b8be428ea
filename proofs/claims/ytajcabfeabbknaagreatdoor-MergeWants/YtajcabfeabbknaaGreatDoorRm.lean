/-
  What Remove answers.
-/
import Derived.Test.YtajcabfeabbknaaGreatDoorPc
import Derived.Test.YtajcabfeabbknaaGreatDoorJ2
import Derived.Test.YtajcabfeabbknaaGreatDoorCp
import Derived.Test.YtajcabfeabbknaaGreatDoorTq
namespace Go.Proofs.YtajcabfeabbknaaGreatDoor
open Go.RowKit

set_option maxHeartbeats 4000000 in
theorem rem_any (v : Value) (l : List En) (q : ByteArray) (w : World) (h : ES w v l) (hl : Lt l) (hm : Mx w) :
    Calls Tryz.prog 44 #[v, .string q] w fun e w' => ∃ v', e = .returned (.tuple #[v', .int .i64 (rem l (dl q)).2]) ∧ OE w' w.heap.size v' (rem l (dl q)).1 ∧ Below w.heap.size w w' := by
  obtain ⟨a, c, rfl, g2, _, _⟩ := h.shape
  have HS : Hid (ES w (.slice a l.length c) l) := h
  have HL : Hid (Lt l) := hl
  have hn := hl.1
  have CC := checkT_any _ l w HS.out hl hm
  have CH : Hid (∀ W, Calls Tryz.prog 68 #[.string q] W fun e w' => ∃ g, e = .returned (.func (.func 88) #[] #[.pointer (some ⟨g, 0, none⟩)]) ∧ w'.cell? ⟨g, 0, none⟩ = some (.string q) ∧ Below W.heap.size W w') := hasPath_any q
  have CI : Hid (∀ W, Calls Tryz.prog 69 #[.string q] W fun e w' => ∃ g, e = .returned (.func (.func 89) #[] #[.pointer (some ⟨g, 0, none⟩)]) ∧ w'.cell? ⟨g, 0, none⟩ = some (.string q) ∧ Below W.heap.size W w') := isIn_any q
  have CF : Hid (∀ g W, Below w.heap.size w W → W.cell? ⟨g, 0, none⟩ = some (.string q) → Calls Tryz.prog 67 #[.slice a l.length c, .func (.func 88) #[] #[.pointer (some ⟨g, 0, none⟩)]] W fun e w' => e = .returned (.int .i64 (fnd l (dl q))) ∧ Below W.heap.size W w') := fun g W hb hc => findPath_any _ l q g W (HS.out.kept hb) hl hc
  have CG : Hid (∀ g W, Below w.heap.size w W → W.cell? ⟨g, 0, none⟩ = some (.string q) → Calls Tryz.prog 67 #[.slice a l.length c, .func (.func 89) #[] #[.pointer (some ⟨g, 0, none⟩)]] W fun e w' => e = .returned (.int .i64 (fnc l (dl q))) ∧ Below W.heap.size W w') := fun g W hb hc => findIn_any _ l q g W (HS.out.kept hb) hl hc
  have hfl := fnd_le l (dl q)
  have hfc : fnc l (dl q) ≤ l.length := List.findIdx_le_length
  have HR : Hid (rem l (dl q) = if ckT l ≠ 0 then ([], ckT l) else if fnd l (dl q) = l.length then ([], 8) else if fnc l (dl q) < l.length then ([], 10) else (l.take (fnd l (dl q)) ++ l.drop (fnd l (dl q) + 1), 0)) := rfl
  generalize rem l (dl q) = R at *
  obtain ⟨n, hn'⟩ : ∃ n, n = l.length := ⟨_, rfl⟩
  have HN : Hid (n = l.length) := hn'
  rw [← hn'] at HS CC CF CG HR g2 hn hfl hfc ⊢
  generalize fnd l (dl q) = k at *
  generalize fnc l (dl q) = f at *
  generalize ckT l = e1 at *
  clear h hl hm hn'
  go_enter Tryz.func44, Tryz.ntmps44
  go_wp2_with fail
  refine CC.mono ?_
  rintro e w1 ⟨rfl, b1⟩
  have B1 : Hid (Below w.heap.size w w1) := b1
  clear CC b1
  by_cases h1 : e1 = 0
  · subst h1
    have HR1 : Hid (R = if k = n then ([], 8) else if f < n then ([], 10) else (l.take k ++ l.drop (k + 1), 0)) := by unfold Hid; rw [HR.out, if_neg (by simp)]
    clear HR
    go_wp2_with fail
    refine (CH.out w1).mono ?_
    rintro e w2 ⟨g, rfl, hg, b2⟩
    have B2 : Hid (Below w.heap.size w w2) := B1.out.trans (b2.mono B1.out.size)
    have cf := CF.out g w2 B2.out hg
    clear b2 hg
    go_wp2_with fail
    refine cf.mono ?_
    rintro e w3 ⟨rfl, b3⟩
    have B3 : Hid (Below w.heap.size w w3) := B2.out.trans (b3.mono B2.out.size)
    clear b3 cf B2 B1
    by_cases hkn : k = n
    · have HR2 : Hid (R = ([], 8)) := by unfold Hid; rw [HR1.out, if_pos hkn]
      subst hkn
      clear HR1
      go_wp2
      go_ret2
      exact ⟨_, by rw [HR2.out]; rfl, by rw [HR2.out]; exact OE.nil _ _, B3.out⟩
    have HR2 : Hid (R = if f < n then ([], 10) else (l.take k ++ l.drop (k + 1), 0)) := by unfold Hid; rw [HR1.out, if_neg hkn]
    have t1 : ((k : Int) == (n : Int)) = false := by simp; omega
    clear HR1
    go_wp2_with fail
    refine (CI.out w3).mono ?_
    rintro e w4 ⟨g', rfl, hg, b4⟩
    have B4 : Hid (Below w.heap.size w w4) := B3.out.trans (b4.mono B3.out.size)
    have cg := CG.out g' w4 B4.out hg
    clear b4 hg
    go_wp2_with fail
    refine cg.mono ?_
    rintro e w5 ⟨rfl, b5⟩
    have B5 : Hid (Below w.heap.size w w5) := B4.out.trans (b5.mono B4.out.size)
    clear b5 cg B4 B3
    by_cases hfn : f < n
    · have HR3 : Hid (R = ([], 10)) := by unfold Hid; rw [HR2.out, if_pos hfn]
      have lt2 : (f : Int) < (n : Int) := by omega
      clear HR2
      go_wp2
      go_ret2
      exact ⟨_, by rw [HR3.out]; rfl, by rw [HR3.out]; exact OE.nil _ _, B5.out⟩
    have HR3 : Hid (R = (l.take k ++ l.drop (k + 1), 0)) := by unfold Hid; rw [HR2.out, if_neg hfn]
    have lt2 : ¬ (f : Int) < (n : Int) := by omega
    obtain rfl : f = n := by omega
    clear HR2
    obtain ⟨b, off, va, vn, vc, hab, -⟩ := HS.out.at k (by rw [← HN.out]; omega)
    subst hab
    obtain ⟨m, hm⟩ : ∃ m, m = k + 1 := ⟨_, rfl⟩
    have q1 : IntKind.i64.wrap ((k : Int) + 1) = (m : Int) := by rw [hm]; simp [IntKind.wrap, IntKind.bits, IntKind.signed]; omega
    have g4 : (k : Int) ≤ (c : Int) := by omega
    have g5 : (0 : Int) ≤ (k : Int) := by omega
    have g7 : (m : Int) ≤ (f : Int) := by omega
    have g8 : (0 : Int) ≤ (m : Int) := by omega
    have g9 : (m : Int) ≤ (c : Int) := by omega
    have gm : m ≤ f := by omega
    have gk : k ≤ f := by omega
    rw [← hm] at HR3
    have LM : Hid (Lt (l.take k ++ l.drop m)) := ⟨by rw [List.length_append, List.length_take, List.length_drop, ← HN.out]; omega, fun y hy => by
      rw [List.mem_append] at hy
      rcases hy with hy | hy
      · exact HL.out.2 y (List.mem_of_mem_take hy)
      · exact HL.out.2 y (List.mem_of_mem_drop hy)⟩
    clear hm
    by_cases hcm : c = m
    · obtain rfl : f = m := by omega
      subst hcm
      have CJ : Hid (∀ W, Below w5.heap.size w5 W → Calls Tryz.prog 70 #[.slice (some ⟨W.heap.size, 0, none⟩) 2 2] (W.alloc (.cells #[.slice (some ⟨b, off, none⟩) k c, .slice (some ⟨b, off, none⟩) 0 0] 22)).drew fun e w' => ∃ v, e = .returned v ∧ ES w' v (l.take k ++ l.drop c) ∧ Below W.heap.size W w') := fun W hb => by
        have es := HS.out.kept (B5.out.trans (hb.mono B5.out.size))
        exact join2 W _ c c k c l _ es (es.dropE) (by omega) (by rw [← HN.out]; omega)
      generalize l.take k ++ l.drop c = M at *
      have cj := CJ.out w5 (Below.refl _ _)
      have CY : Hid (∀ W v, ES W v M → Calls Tryz.prog 25 #[v] W fun e w' => ∃ v', e = .returned v' ∧ OE w' W.heap.size v' M ∧ Below W.heap.size W w') := fun W v hv => copy_any v M W hv LM.out
      go_wp2_with fail
      go_region_held3 (fun _ => True) (trivial) (first
        | (go_at_call 70; refine cj.mono ?_; rintro e w6 ⟨v6, rfl, es6, b6⟩)
        | (go_at_call 25; refine (CY.out _ _ es6).mono ?_; rintro e w7 ⟨v7, rfl, o7, b7⟩))
      have B6 : Hid (Below w.heap.size w w6) := B5.out.trans (b6.mono B5.out.size)
      have B7 : Hid (Below w.heap.size w w7) := B6.out.trans (b7.mono B6.out.size)
      have O7 : Hid (OE w7 w.heap.size v7 M) := o7.mono B6.out.size
      obtain ⟨a7, c7, rfl, -⟩ := o7.es.shape
      clear b6 b7 o7 es6 cj
      generalize M.length = nM2 at *
      go_wp2
      go_ret2
      exact ⟨_, by rw [HR3.out]; rfl, by rw [HR3.out]; exact O7.out, B7.out⟩
    · have CJ : Hid (∀ W, Below w5.heap.size w5 W → Calls Tryz.prog 70 #[.slice (some ⟨W.heap.size, 0, none⟩) 2 2] (W.alloc (.cells #[.slice (some ⟨b, off, none⟩) k c, .slice (some ⟨b, off + m * 3, none⟩) (f - m) (c - m)] 22)).drew fun e w' => ∃ v, e = .returned v ∧ ES w' v (l.take k ++ l.drop m) ∧ Below W.heap.size W w') := fun W hb => by
        have es := HS.out.kept (B5.out.trans (hb.mono B5.out.size))
        exact join2 W _ f c k m l _ es (es.dropB m (f - m) (by omega) rfl (by omega)) (by omega) (by rw [← HN.out]; omega)
      generalize l.take k ++ l.drop m = M at *
      have cj := CJ.out w5 (Below.refl _ _)
      have CY : Hid (∀ W v, ES W v M → Calls Tryz.prog 25 #[v] W fun e w' => ∃ v', e = .returned v' ∧ OE w' W.heap.size v' M ∧ Below W.heap.size W w') := fun W v hv => copy_any v M W hv LM.out
      go_wp2_with fail
      go_region_held3 (fun _ => True) (trivial) (first
        | (go_at_call 70; refine cj.mono ?_; rintro e w6 ⟨v6, rfl, es6, b6⟩)
        | (go_at_call 25; refine (CY.out _ _ es6).mono ?_; rintro e w7 ⟨v7, rfl, o7, b7⟩))
      have B6 : Hid (Below w.heap.size w w6) := B5.out.trans (b6.mono B5.out.size)
      have B7 : Hid (Below w.heap.size w w7) := B6.out.trans (b7.mono B6.out.size)
      have O7 : Hid (OE w7 w.heap.size v7 M) := o7.mono B6.out.size
      obtain ⟨a7, c7, rfl, -⟩ := o7.es.shape
      clear b6 b7 o7 es6 cj
      generalize M.length = nM2 at *
      go_wp2
      go_ret2
      exact ⟨_, by rw [HR3.out]; rfl, by rw [HR3.out]; exact O7.out, B7.out⟩
  · have HR1 : Hid (R = ([], e1)) := by unfold Hid; rw [HR.out, if_pos h1]
    have t0 : (e1 != 0) = true := by simp [h1]
    clear HR
    go_wp2
    go_ret2
    exact ⟨_, by rw [HR1.out]; rfl, by rw [HR1.out]; exact OE.nil _ _, B1.out⟩
end Go.Proofs.YtajcabfeabbknaaGreatDoor
