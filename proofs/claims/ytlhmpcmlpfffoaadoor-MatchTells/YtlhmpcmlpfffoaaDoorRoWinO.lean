/-
  What a window's Out and Roll answer and leave: its first byte is gone; all but the window and its row is as it was.
-/
import Derived.Test.YtlhmpcmlpfffoaaDoorRoWinI
namespace Go.Proofs.YtlhmpcmlpfffoaaDoor.Ro
open Go.RowKit
set_option maxRecDepth 100000

/-- A window behind a change of its first or its other cells. -/
theorem WinR.setGone {w : World} {base g : Nat} {hv : Value} {hs : List Int} {gone : Nat} {zs : List Int} (h : WinR w base g hv hs gone zs) (hv' : Value) (hs' : List Int)
    (w' : World) (own : w'.ownsRow base 5 1 hv' hs'.length (hs'.map (Value.int .u8))) (hh : w'.heap[g]? = some (.cells #[.complex .f64 (fl (pa zs)) (fl (pb zs)), hv', .int .i64 0] 92 (0, 0))) (e : hs' = zs) : Win w' base g hv' zs := by
  subst e
  exact ⟨hs', 0, ⟨h.1, rfl, by simp, h.bytes, own, hh⟩, by simp⟩

set_option maxHeartbeats 2000000 in
theorem tidy_any (base g : Nat) (hv : Value) (hs : List Int) (gone : Nat) (zs : List Int) (w : World) (h : WinR w base g hv hs gone zs) (hbig : hs.length ≤ 3000000) :
    Calls Tryd.prog 67 #[.pointer (some ⟨g, 0, none⟩)] w fun e w' => e = .returned (.tuple #[]) ∧ ∃ hv', Win w' base g hv' zs ∧ Fr g hv.ownBlock w w' ∧ (hv'.ownBlock = hv.ownBlock ∨ ∀ k, hv'.ownBlock = some k → w.heap.size ≤ k) := by
  have hlt := h.lt
  have cl := wlenR_any base g hv hs gone zs w.drew (h.kept (Below.refl _ _).drew) hbig
  have HCB : Hid (∀ W, Below w.heap.size w W → Calls Tryd.prog 74 #[.pointer (some ⟨g, 0, none⟩)] W fun e w' => ∃ v', e = .returned v' ∧ w'.ownsRow W.heap.size 5 1 v' zs.length (zs.map (Value.int .u8)) ∧ Below W.heap.size W w') := fun W hb => wbytesR_any base g hv hs gone zs W (h.kept hb) hbig
  have h' := h
  obtain ⟨a, cap, rfl, h2, h3, c0, c1, c2, hf, sl, own⟩ := h'.cells
  have hbg := h.1
  have hap := h.apart
  have hh := h.2.2.2.2.2
  have HK : Hid (∀ W, Below w.heap.size w W → gone ≤ zs.length → ∃ hv', Win W base g hv' zs ∧ Fr g (Value.slice a hs.length cap).ownBlock w W ∧ (hv'.ownBlock = (Value.slice a hs.length cap).ownBlock ∨ ∀ k, hv'.ownBlock = some k → w.heap.size ≤ k)) :=
    fun W hb hle => ⟨_, ⟨hs, gone, h.kept hb, hle⟩, Fr.of hb, .inl rfl⟩
  have HC2 : Hid (∀ W, Below w.heap.size w W → W.cell? ⟨g, 2, none⟩ = some (.int .i64 gone)) := fun W hb => (hb.cell (p := ⟨g, 2, none⟩) hlt).trans c2
  have HS : Hid (∀ W, Below w.heap.size w W → W.cell? ⟨g, 1, none⟩ = some (.slice a hs.length cap) ∧ W.frozen? ⟨g, 1, none⟩ = false ∧ W.cell? ⟨g, 2, none⟩ = some (.int .i64 gone) ∧ W.frozen? ⟨g, 2, none⟩ = false) := fun W hb => by
    have hW := (hb.block g hlt).trans hh
    exact ⟨by rw [cell_of_row _ _ _ _ _ _ hW]; rfl, frozen_of_row _ _ _ _ _ hW, by rw [cell_of_row _ _ _ _ _ _ hW]; rfl, frozen_of_row _ _ _ _ _ hW⟩
  have FIN : Hid (∀ W v', Below w.heap.size w W → W.ownsRow w.heap.size 5 1 v' zs.length (zs.map (Value.int .u8)) →
      ∃ hv', Win ((W.setCell ⟨g, 1, none⟩ v').setCell ⟨g, 2, none⟩ (.int .i64 0)) base g hv' zs ∧ Fr g (Value.slice a hs.length cap).ownBlock w ((W.setCell ⟨g, 1, none⟩ v').setCell ⟨g, 2, none⟩ (.int .i64 0)) ∧ (hv'.ownBlock = (Value.slice a hs.length cap).ownBlock ∨ ∀ k, hv'.ownBlock = some k → w.heap.size ≤ k)) := by
    intro W v' hb own'
    have hW := (hb.block g hlt).trans hh
    have hge := own_base own'
    have hne : v'.ownBlock ≠ some g := fun e => by have := hge g e; omega
    refine ⟨v', h.setGone v' zs _ (own_set (own_set (own_mono own' (by omega)) g 1 _ hne) g 2 _ hne) ?_ rfl, ?_, .inr hge⟩
    · rw [heap_setCell_same _ _ _ _ _ _ (heap_setCell_same _ _ _ _ _ _ hW)]; rfl
    · exact (Fr.of hb).trans ((Fr.set g 1 _ _ _).trans (Fr.set g 2 _ _ _))
  clear h2 sl own c0 c1 hf h hh h' hap hbg
  by_cases hle : gone ≤ zs.length
  · have hd : decide ((zs.length : Int) < gone) = false := by simp; omega
    generalize zs.length = n at *
    generalize hs.length = m at *
    go_enter Tryd.func67, Tryd.ntmps67
    go_wp2_with fail
    go_region_with ((go_at_call 65; refine cl.mono ?_; rintro e w1 ⟨rfl, bel1, _⟩; have bel2 := (Below.refl w.heap.size w).drew.trans bel1; have d2 := HC2.out w1 bel2; clear bel1))
    all_goals
      go_wp2_with fail
      go_end0
      exact ⟨rfl, HK.out _ bel2 hle⟩
  · have hgt : (zs.length : Int) < gone := by omega
    obtain ⟨n, hn⟩ : ∃ n, n = zs.length := ⟨_, rfl⟩
    rw [← hn] at cl hgt HCB FIN h3
    clear hn hle HK
    generalize hs.length = m at *
    go_enter Tryd.func67, Tryd.ntmps67
    go_wp2_with fail
    go_region_with ((go_at_call 65; refine cl.mono ?_; rintro e w1 ⟨rfl, bel1, _⟩; have bel2 := (Below.refl w.heap.size w).drew.trans bel1; have d2 := HC2.out w1 bel2; clear bel1))
    all_goals
      go_wp2_with fail
      refine (HCB.out _ bel2).mono ?_
      rintro e w2 ⟨v2, rfl, own2, bel3⟩
      have bel4 := bel2.trans (bel3.mono bel2.size)
      obtain ⟨s1, s2, s3, s4⟩ := HS.out w2 bel4
      have hF := FIN.out w2 v2 bel4 (own_mono own2 bel2.size)
      obtain ⟨a2, cap2, rfl⟩ := own_shape own2
      have HF : Hid (∃ hv', Win ((w2.setCell ⟨g, 1, none⟩ (.slice a2 n cap2)).setCell ⟨g, 2, none⟩ (.int .i64 0)) base g hv' zs ∧ Fr g (Value.slice a m cap).ownBlock w ((w2.setCell ⟨g, 1, none⟩ (.slice a2 n cap2)).setCell ⟨g, 2, none⟩ (.int .i64 0)) ∧ (hv'.ownBlock = (Value.slice a m cap).ownBlock ∨ ∀ k, hv'.ownBlock = some k → w.heap.size ≤ k)) := hF
      clear hF own2 bel3 bel4 bel2 d2 cl
      go_wp2_with fail
      go_end0
      exact ⟨rfl, HF.out⟩
end Go.Proofs.YtlhmpcmlpfffoaaDoor.Ro
