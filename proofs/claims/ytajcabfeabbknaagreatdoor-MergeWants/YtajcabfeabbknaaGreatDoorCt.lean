/-
  What Check answers, of a list.
-/
import Derived.Test.YtajcabfeabbknaaGreatDoorCe
namespace Go.Proofs.YtajcabfeabbknaaGreatDoor
open Go.RowKit

set_option maxHeartbeats 2000000 in
theorem checkT_any (v : Value) (l : List En) (w : World) (h : ES w v l) (hl : Lt l) (hm : Mx w) :
    Calls Tryz.prog 19 #[v] w fun e w' => e = .returned (.int .i64 (ckT l)) ∧ Below w.heap.size w w' := by
  obtain ⟨a, c, rfl, g2, _, _⟩ := h.shape
  have HS : Hid (ES w (.slice a l.length c) l) := h
  have HL : Hid (Lt l) := hl
  have HM : Hid (Mx w) := hm
  have hn := hl.1
  have HLONG : Hid (64 < l.length → ckT l = 5) := ckT_long l
  have HHIT : Hid (¬ 64 < l.length → ∀ j, j < l.length → (∀ k, k < j → ckI l k = 0) → ckI l j ≠ 0 → ckT l = ckI l j) := ckT_hit l
  have HOK : Hid (¬ 64 < l.length → (∀ k, k < l.length → ckI l k = 0) → ckT l = 0) := ckT_ok l
  have HIE : Hid (∀ i, i < l.length → ckI l i = ckE (l.take i) (atE l i)) := ckI_E l
  obtain ⟨n, hn'⟩ : ∃ n, n = l.length := ⟨_, rfl⟩
  have HN : Hid (n = l.length) := hn'
  rw [← hn'] at HS HLONG HHIT HOK HIE g2 hn ⊢
  clear h hl hm hn'
  generalize ckT l = r at *
  by_cases h6 : 64 < n
  · have HR : Hid (r = 5) := HLONG.out h6
    have h6' : 64 < (n : Int) := by omega
    clear HLONG HHIT HOK
    go_enter Tryz.func19, Tryz.ntmps19
    go_wp2
    go_ret
    exact ⟨by rw [HR.out]; rfl, Below.refl _ _⟩
  have h6' : ¬ 64 < (n : Int) := by omega
  have HHIT2 : Hid (∀ j, j < n → (∀ k, k < j → ckI l k = 0) → ckI l j ≠ 0 → r = ckI l j) := HHIT.out h6
  have HOK2 : Hid ((∀ k, k < n → ckI l k = 0) → r = 0) := HOK.out h6
  clear HLONG HHIT HOK
  go_enter Tryz.func19, Tryz.ntmps19
  go_wp2
  go_loopw [11] (fun q wr => ∃ j : Nat, j ≤ n ∧ q = .int .i64 j ∧ (∀ k, k < j → ckI l k = 0) ∧ Below w.heap.size w wr) (fun q _ => n - (intOf q).toNat)
  case atStart => exact ⟨0, by omega, rfl, fun k hk => by omega, Below.refl _ _⟩
  case round =>
    obtain ⟨j, hj, rfl, ok, bel⟩ := hrel
    have HB : Hid (Below w.heap.size w wr) := bel
    have OK : Hid (∀ k, k < j → ckI l k = 0) := ok
    clear bel ok
    by_cases hlt : j < n
    · have lt2 : (j : Int) < (n : Int) := by omega
      have lt3 : (j : Int) ≤ (c : Int) := by omega
      have g0 : (0 : Int) ≤ (j : Int) := by omega
      obtain ⟨b, off, ua, un, uc, rfl, c1, c2, c3, hun, s1⟩ := (HS.out.kept HB.out).at j (by rw [← HN.out]; exact hlt)
      have q1 : IntKind.i64.wrap ((j : Int) + 1) = ((j + 1 : Nat) : Int) := by simp [IntKind.wrap, IntKind.bits, IntKind.signed]; omega
      have HT : Hid (ckI l j ≠ 0 → r = ckI l j) := HHIT2.out j hlt OK.out
      have NX : Hid (ckI l j = 0 → ∀ k, k < j + 1 → ckI l k = 0) := fun h k hk => by
        rcases Nat.lt_or_ge k j with h' | h'
        · exact OK.out k h'
        · rw [show k = j by omega]; exact h
      have CE : Hid (∀ W, Below wr.heap.size wr W → Calls Tryz.prog 49 #[.slice (some ⟨b, off, none⟩) j c, .agg #[.string (atE l j).p, .bool (atE l j).d, .slice ua un uc]] W fun e w' => e = .returned (.int .i64 (ckI l j)) ∧ Below W.heap.size W w') := fun W hb => by
        have hbw : Below w.heap.size w W := HB.out.trans (hb.mono HB.out.size)
        rw [HIE.out j hlt]
        exact checkEntry_any _ _ _ _ W ((HS.out.kept hbw).take j (by omega)) (HL.out.take j) ⟨ua, un, uc, rfl, s1.kept hb⟩ (HL.out.at j).1 (HL.out.at j).2 (HM.out.kept hbw)
      clear hun s1 OK
      generalize ckI l j = e at *
      generalize atE l j = x at *
      generalize x.p = xp at *
      generalize x.d = xd at *
      obtain ⟨W1, hW1⟩ : ∃ W1, W1 = wr.alloc (.cells #[.string xp, .bool xd, .slice ua un uc] 46) := ⟨_, rfl⟩
      have b1 : Below wr.heap.size wr W1 := by rw [hW1]; exact (Below.refl _ _).alloc (Nat.le_refl _) _
      have K1 : Hid (W1.heap[wr.heap.size]? = some (.cells #[.string xp, .bool xd, .slice ua un uc] 46 (0, 0))) := by unfold Hid; rw [hW1]; exact heap_alloc_new _ _
      have B1 : Hid (Below w.heap.size w W1) := HB.out.trans (b1.mono HB.out.size)
      obtain ⟨p0, p1, p2, -, -, -⟩ := trio K1.out
      have HP : Hid (∀ W, Below W1.heap.size W1 W → W.cell? ⟨wr.heap.size, 0, none⟩ = some (.string xp) ∧ W.cell? ⟨wr.heap.size, 1, none⟩ = some (.bool xd) ∧ W.cell? ⟨wr.heap.size, 2, none⟩ = some (.slice ua un uc)) := fun W hb => by
        obtain ⟨p0, p1, p2, -, -, -⟩ := trio ((hb.block _ (lt_of_block K1.out)).trans K1.out)
        exact ⟨p0, p1, p2⟩
      have pd := HP.out W1.drew (Below.refl _ _).drew
      have p00 := HP.out W1 (Below.refl _ _)
      have ce := CE.out W1.drew b1.drew
      clear CE b1 HHIT2
      go_wp2_with fail
      rw [← hW1]
      clear hW1
      go_region_held3 (fun W => W.cell? ⟨wr.heap.size, 0, none⟩ = some (.string xp) ∧ W.cell? ⟨wr.heap.size, 1, none⟩ = some (.bool xd) ∧ W.cell? ⟨wr.heap.size, 2, none⟩ = some (.slice ua un uc)) (first | exact p00 | exact pd | exact p3) (first
        | (go_at_call 49; refine ce.mono ?_; rintro e' w3 ⟨rfl, b3⟩; have d3 : Below W1.heap.size W1 w3 := (Below.refl W1.heap.size W1).drew.trans b3; have p3 := HP.out w3 d3))
      have B3 : Hid (Below w.heap.size w w3) := B1.out.trans (d3.mono B1.out.size)
      clear ce b3 d3 pd p00 p3
      by_cases he : e = 0
      · subst he
        have NX2 : Hid (∀ k, k < j + 1 → ckI l k = 0) := NX.out rfl
        clear NX HT
        go_wp2
        go_roundw
        case rel => exact ⟨j + 1, by omega, by go_num, NX2.out, B3.out⟩
        case measure => simp [intOf]; omega
      · have HT2 : Hid (r = e) := HT.out he
        have te : (e != 0) = true := by simp [he]
        clear NX HT
        go_wp2
        go_ret
        exact ⟨by rw [HT2.out]; rfl, B3.out⟩
    · obtain rfl : j = n := by omega
      have HR : Hid (r = 0) := HOK2.out OK.out
      clear HOK2 HHIT2 OK
      go_wp2
      go_ret
      exact ⟨by rw [HR.out]; rfl, HB.out⟩
end Go.Proofs.YtajcabfeabbknaaGreatDoor
