/-
  What Get answers.
-/
import Derived.Test.YtajcabfeabbknaaGreatDoorCe
namespace Go.Proofs.YtajcabfeabbknaaGreatDoor
open Go.RowKit

set_option maxHeartbeats 1000000 in
theorem get_any (v : Value) (l : List En) (q : ByteArray) (w : World) (h : ES w v l) (hl : Lt l) :
    Calls Tryz.prog 48 #[v, .string q] w fun e w' => ∃ u, e = .returned (.tuple #[u, .bool (gotB l (dl q))]) ∧ EV w' u (got l (dl q)) ∧ Below w.heap.size w w' := by
  obtain ⟨a, c, rfl, g2, _, _⟩ := h.shape
  have HS : Hid (ES w (.slice a l.length c) l) := h
  have HL : Hid (Lt l) := hl
  have hn := hl.1
  obtain ⟨W1, hW1⟩ : ∃ W1, W1 = w.alloc (.cells #[.string ⟨#[]⟩, .bool false, .slice none 0 0] 46) := ⟨_, rfl⟩
  have b1 : Below w.heap.size w W1 := by rw [hW1]; exact (Below.refl _ _).alloc (Nat.le_refl _) _
  have K1 : W1.heap[w.heap.size]? = some (.cells #[.string ⟨#[]⟩, .bool false, .slice none 0 0] 46 (0, 0)) := by rw [hW1]; exact heap_alloc_new _ _
  have HK : Hid (∀ W, Below W1.heap.size W1 W → W.heap[w.heap.size]? = some (.cells #[.string ⟨#[]⟩, .bool false, .slice none 0 0] 46 (0, 0))) := fun W hb => (hb.block _ (lt_of_block K1)).trans K1
  have B1 : Hid (Below w.heap.size w W1) := b1
  have CH := hasPath_any q W1
  have CF : Hid (∀ g W, Below W1.heap.size W1 W → W.cell? ⟨g, 0, none⟩ = some (.string q) → Calls Tryz.prog 67 #[.slice a l.length c, .func (.func 88) #[] #[.pointer (some ⟨g, 0, none⟩)]] W fun e w' => e = .returned (.int .i64 (fnd l (dl q))) ∧ Below W.heap.size W w') := fun g W hb hc => findPath_any _ l q g W (HS.out.kept (b1.trans (hb.mono b1.size))) hl hc
  have hfl := fnd_le l (dl q)
  have HR1 : Hid (got l (dl q) = if fnd l (dl q) = l.length then e0 else atE l (fnd l (dl q))) := rfl
  have HR2 : Hid (gotB l (dl q) = decide (fnd l (dl q) ≠ l.length)) := rfl
  generalize got l (dl q) = r at *
  generalize gotB l (dl q) = rb at *
  generalize fnd l (dl q) = k at *
  obtain ⟨n, hn'⟩ : ∃ n, n = l.length := ⟨_, rfl⟩
  have HN : Hid (n = l.length) := hn'
  rw [← hn'] at HS CF HR1 HR2 g2 hn hfl ⊢
  clear h hl hn' b1 K1
  go_enter Tryz.func48, Tryz.ntmps48
  go_wp2_with fail
  rw [← hW1]
  clear hW1
  refine CH.mono ?_
  rintro e w2 ⟨g, rfl, hg, b2⟩
  have B2 : Hid (Below W1.heap.size W1 w2) := b2
  have C1 := CF.out g w2 b2 hg
  clear b2 hg CF CH
  go_wp2_with fail
  refine C1.mono ?_
  rintro e w3 ⟨rfl, b3⟩
  have D3 : Hid (Below W1.heap.size W1 w3) := B2.out.trans (b3.mono B2.out.size)
  have B3 : Hid (Below w.heap.size w w3) := B1.out.trans (D3.out.mono B1.out.size)
  clear b3 C1
  by_cases hk : k = n
  · have HR3 : Hid (r = e0) := by unfold Hid; rw [HR1.out, if_pos hk]
    have HR4 : Hid (rb = false) := by unfold Hid; rw [HR2.out, decide_eq_false (by simp [hk])]
    obtain ⟨p0, p1, p2, f0, f1, f2⟩ := trio (HK.out w3 D3.out)
    subst hk
    clear HR1 HR2
    go_wp2
    refine bodyPost_ret (v := .tuple #[.agg #[.string ⟨#[]⟩, .bool false, .slice none 0 0], .bool false]) ?hres rfl ?_
    case hres => simp [results, Tryz.results48, go_sem, *]
    refine ⟨_, by rw [HR4.out], ?_, ?_⟩
    · rw [HR3.out]
      exact ⟨none, 0, 0, rfl, Sl.none _⟩
    · exact ((B3.out.setCell (Nat.le_refl _) _).setCell (Nat.le_refl _) _).setCell (Nat.le_refl _) _
  · have hlt : k < n := by omega
    have t1 : ((k : Int) == (n : Int)) = false := by simp; omega
    obtain ⟨b, off, ua, un, uc, rfl, c1, c2, c3, hun, s1⟩ := (HS.out.kept B3.out).at k (by rw [← HN.out]; exact hlt)
    have HR3 : Hid (r = atE l k) := by unfold Hid; rw [HR1.out, if_neg hk]
    have HR4 : Hid (rb = true) := by unfold Hid; rw [HR2.out, decide_eq_true hk]
    have co := own_any (.agg #[.string (atE l k).p, .bool (atE l k).d, .slice ua un uc]) (atE l k) w3 ⟨ua, un, uc, rfl, s1⟩ (HL.out.at k).2
    have HX : Hid (∀ i, 0 ≤ (atE l k).z.getD i 0 ∧ (atE l k).z.getD i 0 < 256) := s1.bytes
    clear HR1 HR2 hun s1
    generalize atE l k = x at *
    go_wp2_with fail
    refine co.mono ?_
    rintro e w4 ⟨u, rfl, o4, b4⟩
    have D4 : Hid (Below W1.heap.size W1 w4) := D3.out.trans (b4.mono D3.out.size)
    obtain ⟨p0, p1, p2, f0, f1, f2⟩ := trio (HK.out w4 D4.out)
    have O4 : Hid (Sl w4 u x.z) := sl_owned o4 HX.out
    have hbu : ∀ y, u.ownBlock = some y → w3.heap.size ≤ y := own_base o4
    have HB4 : Hid (w.heap.size < w3.heap.size) := by
      have := lt_of_block (HK.out w3 D3.out)
      exact this
    have O5 : Hid (w4.ownsRow w3.heap.size 5 1 u x.z.length (x.z.map (Value.int .u8))) := o4
    have B4 : Hid (Below w.heap.size w w4) := B3.out.trans (b4.mono B3.out.size)
    obtain ⟨au, cu, rfl⟩ := own_shape o4
    generalize hnz : x.z.length = nz at *
    have HNZ : Hid (x.z.length = nz) := hnz
    clear o4 b4 co hnz
    go_wp2
    refine bodyPost_ret (v := .tuple #[.agg #[.string x.p, .bool x.d, .slice au nz cu], .bool true]) ?hres2 rfl ?_
    case hres2 => simp [results, Tryz.results48, go_sem, *]
    have ne : (Value.slice au nz cu).ownBlock ≠ some w.heap.size := fun e => by
      have h1 := hbu _ e
      have h2 := HB4.out
      omega
    refine ⟨_, by rw [HR4.out], ?_, ?_⟩
    · rw [HR3.out]
      refine ⟨au, nz, cu, rfl, sl_owned (base := w3.heap.size) (n := nz) ?_ HX.out⟩
      exact ownsRow_setCell_other (ownsRow_setCell_other (ownsRow_setCell_other O5.out ne _) ne _) ne _
    · exact ((B4.out.setCell (Nat.le_refl _) _).setCell (Nat.le_refl _) _).setCell (Nat.le_refl _) _
end Go.Proofs.YtajcabfeabbknaaGreatDoor
