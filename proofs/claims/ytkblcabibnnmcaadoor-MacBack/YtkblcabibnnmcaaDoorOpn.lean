/-
  What mac.Open answers; nothing that was there is changed.
-/
import Derived.Test.YtkblcabibnnmcaaDoorTag
namespace Go.Proofs.YtkblcabibnnmcaaDoor
open Go.RowKit

/-- What opening answers: an error, or none. -/
def opE (K H S : List Int) : Int := if S.length < 16 then 3 else if S.drop (S.length - 16) = btag K H (S.take (S.length - 16)) then 0 else 15
/-- And the bytes. -/
def opX (K H S : List Int) : List Int := if opE K H S = 0 then S.take (S.length - 16) else []

set_option maxHeartbeats 4000000 in
set_option maxRecDepth 100000 in
theorem open_any (KB : List Int) (h v : Value) (H S : List Int) (w : World) (hK : KB.length = 32) (hKb : Pl.Byt KB) (ht : Tabs w) (sh : Sl w h H) (sv : Sl w v S) (hH : H.length ≤ 140737488351232) (hS : S.length ≤ 140737488351232) :
    Calls Tryd.prog 14 #[.agg (u8s KB), h, v] w fun e w' => ∃ v', e = .returned (.tuple #[v', .int .i64 (opE KB H S)]) ∧ Sl w' v' (opX KB H S) ∧ Below w.heap.size w w' := by
  obtain ⟨wa, hwa⟩ : ∃ wa, wa = w.alloc (.cells (u8s KB) 26) := ⟨_, rfl⟩
  have ba : Below w.heap.size w wa := by rw [hwa]; exact al_below _ _
  have hwz : w.alloc (.cells (u8s KB) 26) = wa := hwa.symm
  have HGA : Hid (wa.heap[w.heap.size]? = some (.cells (u8s KB) 26 (0, 0))) := by unfold Hid; rw [hwa]; exact heap_alloc_new _ _
  have HI : Hid ((Tryd.prog.info? 26).map (·.size) = some (u8s KB).size) := by unfold Hid; rw [u8s_size, hK]; exact size26
  have sva := sv.kept ba
  obtain ⟨a, cap, rfl, h1, h2, h3, h4⟩ := id sva
  by_cases hs : S.length < 16
  · have e1 : opE KB H S = 3 := by unfold opE; rw [if_pos hs]
    have e2 : opX KB H S = [] := by unfold opX; rw [e1]; rfl
    rw [e1, e2]
    have HBA : Hid (Below w.heap.size w wa) := ba
    obtain ⟨ah, ch, rfl, -⟩ := sh
    clear e1 e2 sv sva h4 h3 hwa ba hK hKb ht
    generalize S.length = L at *
    generalize H.length = hl at *
    generalize u8s KB = KU at *
    go_enter Tryd.func14, Tryd.ntmps14
    go_wp2
    go_ret2
    exact ⟨_, rfl, Sl.none _, HBA.out⟩
  · obtain ⟨b, off, rfl⟩ : ∃ b off, a = some ⟨b, off, none⟩ := by
      rcases h4 with h | ⟨_, b, off, e, _⟩
      · omega
      · exact ⟨b, off, e⟩
    have st := sva.take (S.length - 16) (by omega)
    have sd := sva.drop (S.length - 16) (by omega)
    have hX : Hid (opE KB H S = if S.drop (S.length - 16) = btag KB H (S.take (S.length - 16)) then 0 else 15) := by unfold Hid opE; rw [if_neg hs]
    have hY : Hid (opX KB H S = if opE KB H S = 0 then S.take (S.length - 16) else []) := rfl
    have hA : (S.take (S.length - 16)).length ≤ 140737488351232 := by rw [List.length_take]; omega
    have HAB : Hid (Pl.Byt (S.take (S.length - 16))) := bytes_take S (S.length - 16) sv.bytes
    generalize opX KB H S = X at *
    generalize opE KB H S = E at *
    generalize S.take (S.length - 16) = A at *
    generalize S.drop (S.length - 16) = D at *
    have HC27 : Hid (∀ W, Below wa.heap.size wa W → Calls Tryd.prog 27 #[.agg (u8s KB), h, .slice (some ⟨b, off, none⟩) (S.length - 16) cap] W fun e w' => ∃ v', e = .returned v' ∧ w'.ownsRow W.heap.size 5 1 v' 16 ((btag KB H A).map (Value.int .u8)) ∧ Below W.heap.size W w') := fun W hW =>
      btag_any KB h _ H A W hK hKb ((ht.kept ba).kept hW) ((sh.kept ba).kept hW) (st.kept hW) hH hA
    have HD : Hid (∀ W, Below wa.heap.size wa W → Sl W (.slice (some ⟨b, off + (S.length - 16), none⟩) (S.length - (S.length - 16)) (cap - (S.length - 16))) D) := fun W hW => sd.kept hW
    have HA : Hid (∀ W, Below wa.heap.size wa W → Sl W (.slice (some ⟨b, off, none⟩) (S.length - 16) cap) A) := fun W hW => st.kept hW
    have HBA : Hid (∀ W, Below wa.heap.size wa W → Below w.heap.size w W) := fun W hW => ba.trans (hW.mono ba.size)
    have HTB : Hid (Pl.Byt (btag KB H A)) := tagB_byt _ _
    have HTL : Hid ((btag KB H A).length = 16) := tagB_len _ _
    have HAL : Hid (A.length ≤ 200000000000000) := Nat.le_trans hA (by omega)
    obtain ⟨ah, ch, rfl, -⟩ := sh
    clear hwa ba ht hK hKb sv sva h4 h3 st sd hA
    generalize btag KB H A = T at *
    obtain ⟨M, hM⟩ : ∃ M, S.length = M + 16 := ⟨S.length - 16, by omega⟩
    rw [hM] at HC27 HD HA h1 hS hs ⊢
    rw [show M + 16 - 16 = M by omega, show M + 16 - M = 16 by omega] at HD
    rw [show M + 16 - 16 = M by omega] at HA HC27
    clear hM hs
    generalize H.length = hl at *
    generalize u8s KB = KU at *
    unfold maxLen at h2
    have hcM : ¬ cap = M := by omega
    have g1 : (M : Int) ≤ (cap : Int) := by omega
    have g2 : (M : Int) ≤ ((M + 16 : Nat) : Int) := by omega
    go_enter Tryd.func14, Tryd.ntmps14
    go_wp2
    go_quiet (fail)
    have BD : Below wa.heap.size wa (wa.drewN nq) := ⟨rfl, rfl, rfl, Nat.le_refl _, fun _ _ => rfl⟩
    have HGD : Hid ((wa.drewN nq).heap[w.heap.size]? = some (.cells KU 26 (0, 0))) := HGA.out
    have c27 := HC27.out _ BD
    generalize wa.drewN nq = wd at *
    have HBD : Hid (Below wa.heap.size wa wd) := BD
    clear BD HC27 HGA
    go_wp2_with (refine wpList_load_row rfl 26 _ rfl w.heap.size rfl 26 KU (0, 0) _ HGD.out Tryd.underlying26 rfl HI.out ?_)
    refine c27.mono ?_
    rintro e w1 ⟨v1, rfl, own1, b1⟩
    have s1 := sl_owned own1 HTB.out
    have B1 : Hid (Below wa.heap.size wa w1) := HBD.out.trans (b1.mono HBD.out.size)
    have c3 := equal_any _ v1 D T w1 (HD.out w1 B1.out) s1
    obtain ⟨a1, k1, rfl, -⟩ := id s1
    rw [HTL.out] at c3 ⊢
    clear c27 own1 b1 s1 HTB
    by_cases hq : D = T
    · have hE : E = 0 := by rw [hX.out, if_pos hq]
      have hXA : X = A := by rw [hY.out, if_pos hE]
      have hb : (D == T) = true := by simp [hq]
      rw [hb] at c3
      subst hE
      subst hXA
      clear hq hX hY hb HTL
      go_wp2_with fail
      refine c3.mono ?_
      rintro e w2 ⟨rfl, b2⟩
      have B2 : Hid (Below wa.heap.size wa w2) := B1.out.trans (b2.mono B1.out.size)
      have c4 := clone_any _ X w2 (HA.out w2 B2.out) HAL.out
      clear c3 b2
      go_wp2_with fail
      refine c4.mono ?_
      rintro e w3 ⟨v3, rfl, own3, b3⟩
      have S3 : Hid (Sl w3 v3 X) := sl_owned own3 HAB.out
      have B3 : Hid (Below w.heap.size w w3) := HBA.out _ (B2.out.trans (b3.mono B2.out.size))
      clear c4 own3 b3
      go_wp2
      go_ret2
      exact ⟨_, rfl, S3.out, B3.out⟩
    · have hE : E = 15 := by rw [hX.out, if_neg hq]
      have hXA : X = [] := by rw [hY.out, hE]; rfl
      have hb : (D == T) = false := by simp [hq]
      rw [hb] at c3
      subst hE
      subst hXA
      clear hq hX hY hb HTL
      go_wp2_with fail
      refine c3.mono ?_
      rintro e w2 ⟨rfl, b2⟩
      have B2 : Hid (Below w.heap.size w w2) := HBA.out _ (B1.out.trans (b2.mono B1.out.size))
      clear c3 b2
      go_wp2
      go_ret2
      exact ⟨_, rfl, Sl.none _, B2.out⟩
end Go.Proofs.YtkblcabibnnmcaaDoor
