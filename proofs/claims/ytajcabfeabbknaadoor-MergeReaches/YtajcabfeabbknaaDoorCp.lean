/-
  What Copy answers.
-/
import Derived.Test.YtajcabfeabbknaaDoorFl
namespace Go.Proofs.YtajcabfeabbknaaDoor
open Go.RowKit

theorem sl_one {w : World} {v : Value} {xs : List Int} (h : Sl w v xs) : v.oneCell' = true := by
  obtain ⟨a, c, rfl, _⟩ := h
  rfl
theorem take_at (l : List En) (j : Nat) (h : j < l.length) : l.take (j + 1) = l.take j ++ [atE l j] := by
  rw [List.take_add_one, List.getElem?_eq_getElem h, atE_eq l j h]
  rfl
/-- What is laid behind, where an entry with bytes of the call's own was built. -/
theorem OE.step {w3 w4 : World} {B : Nat} {v v4 : Value} {L : List En} {U : Nat → Value} {x : En} {u : Value} (ho : ∀ i, i < L.length → w3.ownsRow B 5 1 (U i) (atE L i).z.length ((atE L i).z.map (Value.int .u8)) ∧ ∀ k, 0 ≤ (atE L i).z.getD k 0 ∧ (atE L i).z.getD k 0 < 256)
    (hr : RE w3 B v L U) (hu : w3.ownsRow B 5 1 u x.z.length (x.z.map (Value.int .u8))) (hx : ∀ k, 0 ≤ x.z.getD k 0 ∧ x.z.getD k 0 < 256)
    (h4 : RE w4 B v4 (L ++ [x]) (behU L.length U (fun _ => u))) (hg : w3.grownBy w4 v.ownBlock) : OE w4 B v4 (L ++ [x]) := by
  refine ⟨_, h4, fun i hi => ?_⟩
  rw [List.length_append, List.length_singleton] at hi
  rcases Nat.lt_or_ge i L.length with h | h
  · rw [atE_left L [x] i h]
    unfold behU
    rw [if_pos h]
    exact ⟨own_apart hr (ho i h).1 (by decide) hg, (ho i h).2⟩
  · obtain rfl : i = L.length := by omega
    have e := atE_right L [x] 0
    rw [Nat.add_zero] at e
    rw [e]
    unfold behU
    rw [if_neg (by omega)]
    exact ⟨own_apart hr hu (by decide) hg, hx⟩

set_option maxHeartbeats 1000000 in
theorem copy_any (v : Value) (l : List En) (w : World) (h : ES w v l) (hl : Lt l) :
    Calls Tryd.prog 25 #[v] w fun e w' => ∃ v', e = .returned v' ∧ OE w' w.heap.size v' l ∧ Below w.heap.size w w' := by
  obtain ⟨a, c, rfl, h2, h3, h4⟩ := h.shape
  have HS : Hid (ES w (.slice a l.length c) l) := h
  have HL : Hid (Lt l) := hl
  have hn := hl.1
  obtain ⟨n, hn'⟩ : ∃ n, n = l.length := ⟨_, rfl⟩
  have HN : Hid (n = l.length) := hn'
  rw [← hn'] at HS h2 hn ⊢
  clear h hl h3 h4 hn'
  go_enter Tryd.func25, Tryd.ntmps25
  go_wp2
  go_loopw [3, 8] (fun s q wr => ∃ j : Nat, j ≤ n ∧ q = .int .i64 j ∧ OE wr w.heap.size s (l.take j) ∧ Below w.heap.size w wr) (fun _ q _ => n - (intOf q).toNat)
  case atStart => exact ⟨0, by omega, rfl, OE.nil _ _, Below.refl _ _⟩
  case round =>
    obtain ⟨j, hj, rfl, oe, bel⟩ := hrel
    have HB : Hid (Below w.heap.size w wr) := bel
    have HO : Hid (OE wr w.heap.size u3 (l.take j)) := oe
    obtain ⟨va, vc, rfl, hv, _, _⟩ := oe.es.shape
    have hlj : (l.take j).length = j := by rw [List.length_take, ← HN.out]; omega
    rw [hlj] at HO ⊢
    clear bel hv oe
    by_cases hlt : j < n
    · have lt2 : (j : Int) < (n : Int) := by omega
      obtain ⟨b, off, ua, un, uc, rfl, c1, c2, c3, hun, hsl⟩ := (HS.out.kept HB.out).at j (by rw [← HN.out]; exact hlt)
      have q1 : IntKind.i64.wrap ((j : Int) + 1) = ((j + 1 : Nat) : Int) := by simp [IntKind.wrap, IntKind.bits, IntKind.signed]; omega
      have HT : Hid (l.take (j + 1) = l.take j ++ [atE l j]) := take_at l j (by rw [← HN.out]; exact hlt)
      have HX : Hid (∀ k, 0 ≤ (atE l j).z.getD k 0 ∧ (atE l j).z.getD k 0 < 256) := hsl.bytes
      obtain ⟨W1, hW1⟩ : ∃ W1, W1 = wr.alloc (.cells #[.string (atE l j).p, .bool (atE l j).d, .slice ua un uc] 43) := ⟨_, rfl⟩
      have b1 : Below wr.heap.size wr W1 := by rw [hW1]; exact (Below.refl _ _).alloc (Nat.le_refl _) _
      have CO := own_any (.agg #[.string (atE l j).p, .bool (atE l j).d, .slice ua un uc]) (atE l j) W1 ⟨ua, un, uc, rfl, hsl.kept b1⟩ (HL.out.at j).2
      have B1 : Hid (Below w.heap.size w W1) := HB.out.trans (b1.mono HB.out.size)
      have O1 : Hid (OE W1 w.heap.size (.slice va j vc) (l.take j)) := HO.out.below b1
      clear b1 hun hsl HO
      generalize hx : atE l j = x at *
      generalize l.take j = L at *
      obtain ⟨U, RU, OU⟩ := O1.out
      have R1 : Hid (RE W1 w.heap.size (.slice va j vc) L U) := RU
      have Q1 : Hid (∀ i, i < L.length → W1.ownsRow w.heap.size 5 1 (U i) (atE L i).z.length ((atE L i).z.map (Value.int .u8)) ∧ ∀ k, 0 ≤ (atE L i).z.getD k 0 ∧ (atE L i).z.getD k 0 < 256) := OU
      have HJ : Hid (L.length = j) := hlj
      clear RU OU O1 hlj
      go_wp2_with fail
      rw [← hW1]
      clear hW1
      refine CO.mono ?_
      rintro e w2 ⟨u, rfl, o2, b2⟩
      clear CO
      have hs2 := o2
      obtain ⟨au, cu, rfl⟩ := own_shape o2
      obtain ⟨W3, hW3⟩ : ∃ W3, W3 = w2.alloc (.cells #[.string x.p, .bool x.d, .slice au x.z.length cu] 43) := ⟨_, rfl⟩
      have b3 : Below w2.heap.size w2 W3 := by rw [hW3]; exact (Below.refl _ _).alloc (Nat.le_refl _) _
      have b13 : Below W1.heap.size W1 W3 := b2.trans (b3.mono b2.size)
      have B3 : Hid (Below w.heap.size w W3) := B1.out.trans (b13.mono B1.out.size)
      have R3 : Hid (RE W3 w.heap.size (.slice va j vc) L U) := R1.out.below b13
      have Q3 : Hid (∀ i, i < L.length → W3.ownsRow w.heap.size 5 1 (U i) (atE L i).z.length ((atE L i).z.map (Value.int .u8)) ∧ ∀ k, 0 ≤ (atE L i).z.getD k 0 ∧ (atE L i).z.getD k 0 < 256) := fun i hi => ⟨own_below (Q1.out i hi).1 b13, (Q1.out i hi).2⟩
      have O3 : Hid (W3.ownsRow w.heap.size 5 1 (.slice au x.z.length cu) x.z.length (x.z.map (Value.int .u8))) := own_mono (own_below o2 b3) B1.out.size
      have K3 : Hid (∀ j, j < [x].length * 3 → W3.cell? ⟨w2.heap.size, 0 + j, none⟩ = some (cellE [x] (fun _ => .slice au x.z.length cu) j)) := fun j hj => by
        have e := flat_get [x] (fun _ => Value.slice au x.z.length cu) j
        rw [if_pos hj, ← flat_one] at e
        rw [hW3, Nat.zero_add, World.cell?_alloc_at _ _ _ _ rfl, ← e]
        simp
      clear o2 hs2 b2 b3 b13 R1 Q1
      subst hW3
      obtain ⟨nz, hnz⟩ : ∃ nz, nz = x.z.length := ⟨_, rfl⟩
      have HNZ : Hid (nz = x.z.length) := hnz
      rw [← hnz] at O3 K3 R3 Q3 B3 ⊢
      clear hnz
      go_wp2_with (at_builtin; refine wpList_append_en rfl _ _ rfl w.heap.size _ L U rfl R3.out w2.heap.size 1 [x] (fun _ => .slice au nz cu) 1 0 rfl rfl K3.out (fun _ _ => rfl) (by rw [HJ.out]; simp; omega) B3.out.size (Hid.out ?_))
      unfold Hid
      intro v4 w4 r4 g4
      have B4 : Hid (Below w.heap.size w w4) := B3.out.grown g4 B3.out.size (own_base R3.out)
      have O4 : Hid (OE w4 w.heap.size v4 (l.take (j + 1))) := by
        unfold Hid
        rw [HT.out]
        have hz := HNZ.out
        subst hz
        exact OE.step Q3.out R3.out O3.out HX.out r4 g4
      clear r4 g4 R3 Q3 O3 K3
      go_wp2
      go_roundw
      case rel => exact ⟨j + 1, by omega, by go_num, O4.out, B4.out⟩
      case measure => simp [intOf]; omega
    · obtain rfl : j = n := by omega
      have HR : Hid (OE wr w.heap.size (.slice va j vc) l) := by
        have h1 := HO.out
        have h2 : l.take j = l := by rw [HN.out, List.take_length]
        rw [h2] at h1
        exact h1
      go_wp2
      go_ret
      exact ⟨_, rfl, HR.out, HB.out⟩
end Go.Proofs.YtajcabfeabbknaaDoor
