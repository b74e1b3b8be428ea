/-
  What the document's Get, Size and Same answer.
-/
import Derived.Test.YtajcabfeabbknaaGreatDoorCe
import Derived.Test.YtajcabfeabbknaaGreatDoorLg
namespace Go.Proofs.YtajcabfeabbknaaGreatDoor
open Go.RowKit

set_option maxHeartbeats 2000000 in
theorem rsame_any (v u : Value) (l m : List En) (w : World) (h1 : ES w v l) (h2 : ES w u m) (hl : l.length ≤ 100000) (hm : m.length ≤ 100000) :
    Calls Tryz.prog 11 #[v, u] w fun e w' => e = .returned (.bool (sam l m)) ∧ Below w.heap.size w w' := by
  obtain ⟨a, c, rfl, g2, _, _⟩ := h1.shape
  obtain ⟨a', c', rfl, g2', _, _⟩ := h2.shape
  have H1 : Hid (ES w (.slice a l.length c) l) := h1
  have H2 : Hid (ES w (.slice a' m.length c') m) := h2
  have HHIT : Hid (∀ j, samE (atE l j) (atE m j) = false → sam l m = false) := sam_hit l m
  have HOK : Hid (l.length = m.length → (∀ k, k < l.length → samE (atE l k) (atE m k) = true) → sam l m = true) := sam_ok l m
  have HNE : Hid (l.length ≠ m.length → sam l m = false) := fun h => by unfold sam; rw [decide_eq_false h]; rfl
  obtain ⟨n, hn⟩ : ∃ n, n = l.length := ⟨_, rfl⟩
  obtain ⟨k, hk⟩ : ∃ k, k = m.length := ⟨_, rfl⟩
  have HN : Hid (n = l.length) := hn
  have HK : Hid (k = m.length) := hk
  rw [← hn] at H1 HOK HNE hl g2 ⊢
  rw [← hk] at H2 HOK HNE hm g2' ⊢
  clear h1 h2 hn hk
  generalize sam l m = r at *
  by_cases hnk : n = k
  · subst hnk
    have HOK2 : Hid ((∀ k, k < n → samE (atE l k) (atE m k) = true) → r = true) := HOK.out rfl
    clear HOK HNE
    go_enter Tryz.func11, Tryz.ntmps11
    go_wp2
    go_loopw [5] (fun q wr => ∃ j : Nat, j ≤ n ∧ q = .int .i64 j ∧ (∀ k, k < j → samE (atE l k) (atE m k) = true) ∧ Below w.heap.size w wr) (fun q _ => n - (intOf q).toNat)
    case atStart => exact ⟨0, by omega, rfl, fun k hk => by omega, Below.refl _ _⟩
    case round =>
      obtain ⟨j, hj, rfl, ok, bel⟩ := hrel
      have HB : Hid (Below w.heap.size w wr) := bel
      have OK : Hid (∀ k, k < j → samE (atE l k) (atE m k) = true) := ok
      clear bel ok
      by_cases hlt : j < n
      · have lt2 : (j : Int) < (n : Int) := by omega
        have g0 : (0 : Int) ≤ (j : Int) := by omega
        obtain ⟨b, off, ua, un, uc, rfl, c1, c2, c3, hun, s1⟩ := (H1.out.kept HB.out).at j (by rw [← HN.out]; exact hlt)
        obtain ⟨b', off', va, vn, vc, rfl, d1, d2, d3, hvn, s2⟩ := (H2.out.kept HB.out).at j (by rw [← HK.out]; exact hlt)
        have q1 : IntKind.i64.wrap ((j : Int) + 1) = ((j + 1 : Nat) : Int) := by simp [IntKind.wrap, IntKind.bits, IntKind.signed]; omega
        have CS : Hid (∀ W, Below wr.heap.size wr W → Calls Tryz.prog 42 #[.agg #[.string (atE l j).p, .bool (atE l j).d, .slice ua un uc], .agg #[.string (atE m j).p, .bool (atE m j).d, .slice va vn vc]] W fun e w' => e = .returned (.bool (samE (atE l j) (atE m j))) ∧ Below W.heap.size W w') := fun W hb => rsameEntry_any _ _ _ _ W ⟨ua, un, uc, rfl, s1.kept hb⟩ ⟨va, vn, vc, rfl, s2.kept hb⟩
        have HF : Hid (samE (atE l j) (atE m j) = false → r = false) := HHIT.out j
        have NX : Hid (samE (atE l j) (atE m j) = true → ∀ k, k < j + 1 → samE (atE l k) (atE m k) = true) := fun h k hk => by
          rcases Nat.lt_or_ge k j with h' | h'
          · exact OK.out k h'
          · rw [show k = j by omega]; exact h
        clear s1 s2 OK hun hvn HHIT
        generalize atE l j = x at *
        generalize atE m j = y at *
        generalize hsb : samE x y = sb at *
        clear hsb
        generalize x.p = xp at *
        generalize x.d = xd at *
        generalize y.p = yp at *
        generalize y.d = yd at *
        have HP : Hid (∀ W, Below wr.heap.size wr W → (W.cell? ⟨b, off + j * 3, none⟩ = some (.string xp) ∧ W.cell? ⟨b, off + j * 3 + 1, none⟩ = some (.bool xd) ∧ W.cell? ⟨b, off + j * 3 + 2, none⟩ = some (.slice ua un uc)) ∧ W.cell? ⟨b', off' + j * 3, none⟩ = some (.string yp) ∧ W.cell? ⟨b', off' + j * 3 + 1, none⟩ = some (.bool yd) ∧ W.cell? ⟨b', off' + j * 3 + 2, none⟩ = some (.slice va vn vc)) := fun W hb => ⟨⟨(hb.cell (World.block_lt_of_cell? _ _ c1)).trans c1, (hb.cell (World.block_lt_of_cell? _ _ c2)).trans c2, (hb.cell (World.block_lt_of_cell? _ _ c3)).trans c3⟩, (hb.cell (World.block_lt_of_cell? _ _ d1)).trans d1, (hb.cell (World.block_lt_of_cell? _ _ d2)).trans d2, (hb.cell (World.block_lt_of_cell? _ _ d3)).trans d3⟩
        have cs := CS.out wr.drew (Below.refl _ _).drew
        clear CS
        go_wp2_with fail
        go_region_held3 (fun W => (W.cell? ⟨b, off + j * 3, none⟩ = some (.string xp) ∧ W.cell? ⟨b, off + j * 3 + 1, none⟩ = some (.bool xd) ∧ W.cell? ⟨b, off + j * 3 + 2, none⟩ = some (.slice ua un uc)) ∧ W.cell? ⟨b', off' + j * 3, none⟩ = some (.string yp) ∧ W.cell? ⟨b', off' + j * 3 + 1, none⟩ = some (.bool yd) ∧ W.cell? ⟨b', off' + j * 3 + 2, none⟩ = some (.slice va vn vc)) (first | exact HP.out _ (Below.refl _ _) | exact HP.out _ (Below.refl _ _).drew | exact HP.out _ d5) (first
          | (go_at_call 42; refine cs.mono ?_; rintro e w3 ⟨rfl, b3⟩; have d5 : Below wr.heap.size wr w3 := (Below.refl wr.heap.size wr).drew.trans b3))
        have B3 : Hid (Below w.heap.size w w3) := HB.out.trans (d5.mono HB.out.size)
        clear b3 d5 cs HP c1 c2 c3 d1 d2 d3
        cases sb with
        | true =>
          have NX2 : Hid (∀ k, k < j + 1 → samE (atE l k) (atE m k) = true) := NX.out rfl
          clear NX HF
          go_wp2
          go_roundw
          case rel => exact ⟨j + 1, by omega, by go_num, NX2.out, B3.out⟩
          case measure => simp [intOf]; omega
        | false =>
          have HF2 : Hid (r = false) := HF.out rfl
          clear NX HF
          go_wp2
          go_ret
          exact ⟨by rw [HF2.out]; rfl, B3.out⟩
      · obtain rfl : j = n := by omega
        have hr := HOK2.out OK.out
        have HR : Hid (r = true) := hr
        clear hr HOK2 HHIT OK
        go_wp2
        go_ret
        exact ⟨by rw [HR.out]; rfl, HB.out⟩
  · have hr := HNE.out hnk
    have HR : Hid (r = false) := hr
    have t0 : ((n : Int) != (k : Int)) = true := by simp; omega
    clear hr HNE HOK HHIT
    go_enter Tryz.func11, Tryz.ntmps11
    go_wp2
    go_ret
    exact ⟨by rw [HR.out]; rfl, Below.refl _ _⟩
end Go.Proofs.YtajcabfeabbknaaGreatDoor
