/-
  What the document's Copy answers.
-/
import Derived.Test.YtdomknajkipmnaaDoorSe
namespace Go.Proofs.YtdomknajkipmnaaDoor
open Go.RowKit

set_option maxHeartbeats 2000000 in
theorem rcopy_any (v : Value) (l : List En) (w : World) (h : ES w v l) (hl : Lt l) :
    Calls Tryd.prog 24 #[v] w fun e w' => ∃ v', e = .returned v' ∧ OE w' w.heap.size v' l ∧ Below w.heap.size w w' := by
  obtain ⟨a, c, rfl, h2, h3, h4⟩ := h.shape
  have HS : Hid (ES w (.slice a l.length c) l) := h
  have HL : Hid (Lt l) := hl
  have hn := hl.1
  obtain ⟨n, hn'⟩ : ∃ n, n = l.length := ⟨_, rfl⟩
  have HN : Hid (n = l.length) := hn'
  rw [← hn'] at HS h2 hn ⊢
  clear h hl h3 h4 hn'
  go_enter Tryd.func24, Tryd.ntmps24
  go_wp2
  go_loopw [3, 4] (fun s q wr => ∃ j : Nat, j ≤ n ∧ q = .int .i64 j ∧ OE wr w.heap.size s (l.take j) ∧ Below w.heap.size w wr) (fun _ q _ => n - (intOf q).toNat)
  case atStart => exact ⟨0, by omega, rfl, OE.nil _ _, Below.refl _ _⟩
  case round =>
    obtain ⟨j, hj, rfl, oe, bel⟩ := hrel
    have HB : Hid (Below w.heap.size w wr) := bel
    have HO : Hid (OE wr w.heap.size u3 (l.take j)) := oe
    obtain ⟨va, vc, rfl, hv, _, _⟩ := oe.es.shape
    have hlj : (l.take j).length = j := by rw [List.length_take, ← HN.out]; omega
    rw [hlj] at HO ⊢
    clear bel hv oe
    by_cases hlt : j < n
    · have lt2 : (j : Int) < (n : Int) := by omega
      obtain ⟨b, off, ua, un, uc, rfl, c1, c2, c3, hun, hsl⟩ := (HS.out.kept HB.out).at j (by rw [← HN.out]; exact hlt)
      have q1 : IntKind.i64.wrap ((j : Int) + 1) = ((j + 1 : Nat) : Int) := by simp [IntKind.wrap, IntKind.bits, IntKind.signed]; omega
      have HT : Hid (l.take (j + 1) = l.take j ++ [atE l j]) := take_at l j (by rw [← HN.out]; exact hlt)
      have HX : Hid (∀ k, 0 ≤ (atE l j).z.getD k 0 ∧ (atE l j).z.getD k 0 < 256) := hsl.bytes
      have hxz := (HL.out.at j).2
      obtain ⟨W1, hW1⟩ : ∃ W1, W1 = wr.alloc (.cells #[.string (atE l j).p, .bool (atE l j).d, .slice ua un uc] 32) := ⟨_, rfl⟩
      have n1 : Below wr.heap.size wr W1 := by rw [hW1]; exact (Below.refl _ _).alloc (Nat.le_refl _) _
      have k1 : W1.heap[wr.heap.size]? = some (.cells #[.string (atE l j).p, .bool (atE l j).d, .slice ua un uc] 32 (0, 0)) := by rw [hW1]; exact heap_alloc_new _ _
      have s1 : W1.heap.size = wr.heap.size + 1 := by rw [hW1]; simp
      obtain ⟨W2, hW2⟩ : ∃ W2, W2 = W1.alloc (.cells #[] 5) := ⟨_, rfl⟩
      have n2 : Below W1.heap.size W1 W2 := by rw [hW2]; exact (Below.refl _ _).alloc (Nat.le_refl _) _
      have own0 : W2.ownsRow W1.heap.size 5 1 (.slice (some ⟨W1.heap.size, 0, none⟩) 0 0) 0 [] := by rw [hW2]; exact World.ownsRow_made (base := W1.heap.size) (e := 5) (size := 1) W1 #[] 0 (Nat.le_refl _) (by unfold maxLen; omega) rfl
      have O2 : Hid (W2.ownsRow W1.heap.size 5 1 (.slice (some ⟨W1.heap.size, 0, none⟩) 0 0) 0 []) := own0
      have n12 : Below wr.heap.size wr W2 := n1.trans (n2.mono n1.size)
      have SL : Hid (Sl W2 (.slice ua un uc) (atE l j).z) := hsl.kept n12
      have K2 : Hid (W2.heap[wr.heap.size]? = some (.cells #[.string (atE l j).p, .bool (atE l j).d, .slice ua un uc] 32 (0, 0))) := (n2.block _ (lt_of_block k1)).trans k1
      have N12 : Hid (Below wr.heap.size wr W2) := n12
      have N2 : Hid (Below W1.heap.size W1 W2) := n2
      have S1 : Hid (W1.heap.size = wr.heap.size + 1) := s1
      rw [s1] at O2
      obtain ⟨i0, hi0, hz0, hz1, hz2⟩ := info_parts info5'
      obtain ⟨p0, p1, p2, -, -, -⟩ := trio K2.out
      have hbw : wr.heap.size + 1 ≤ W2.heap.size := by have := n2.size; omega
      clear hun hsl n1 n2 n12 own0 k1 s1
      generalize atE l j = x at *
      generalize l.take j = L at *
      subst hW2 hW1
      go_wp2_with (at_builtin; refine wpList_append_sl rfl _ _ rfl (wr.heap.size + 1) _ 0 [] rfl O2.out (.slice ua un uc) x.z rfl SL.out (by omega) hbw (Hid.out ?_))
      unfold Hid
      intro v3 w3 o3 g3
      obtain ⟨W2, hW2⟩ : ∃ W2, W2 = (wr.alloc (.cells #[.string x.p, .bool x.d, .slice ua un uc] 32)).alloc (.cells #[] 5) := ⟨_, rfl⟩
      rw [← hW2] at g3 K2 N12 hbw
      have b3 : Below (wr.heap.size + 1) W2 w3 := (Below.refl _ _).grown g3 hbw (fun k hk => by cases hk; exact Nat.le_refl _)
      have n3 : Below wr.heap.size wr w3 := N12.out.trans (b3.mono (Nat.le_succ _))
      have N3 : Hid (Below wr.heap.size wr w3) := n3
      have k3 : w3.heap[wr.heap.size]? = some (.cells #[.string x.p, .bool x.d, .slice ua un uc] 32 (0, 0)) := (b3.block _ (Nat.lt_succ_self _)).trans K2.out
      have O3 : Hid (w3.ownsRow (wr.heap.size + 1) 5 1 v3 x.z.length (x.z.map (Value.int .u8))) := o3
      obtain ⟨a3, c3', rfl⟩ := own_shape O3.out
      clear p0 p1 p2 c1 c2 c3 o3 g3 hW2 K2 N12 N2 S1 O2 SL b3 n3 hbw
      obtain ⟨p0, p1, p2, f0, f1, f2⟩ := trio k3
      have s3 : wr.heap.size < w3.heap.size := lt_of_block k3
      have ne : (Value.slice a3 x.z.length c3').ownBlock ≠ some wr.heap.size := fun e => by
        have := own_base O3.out _ e
        omega
      obtain ⟨W5, hW5⟩ : ∃ W5, W5 = (w3.setCell ⟨wr.heap.size, 2, none⟩ (.slice a3 x.z.length c3')).alloc (.cells #[.string x.p, .bool x.d, .slice a3 x.z.length c3'] 32) := ⟨_, rfl⟩
      have s4 : (w3.setCell ⟨wr.heap.size, 2, none⟩ (.slice a3 x.z.length c3')).heap.size = w3.heap.size := by simp [World.setCell]
      have n5 : Below wr.heap.size wr W5 := by
        rw [hW5]
        exact (N3.out.setCell (Nat.le_refl _) _).alloc (by rw [s4]; omega) _
      have B5 : Hid (Below w.heap.size w W5) := HB.out.trans (n5.mono HB.out.size)
      obtain ⟨U, RU, OU⟩ := HO.out
      have R5 : Hid (RE W5 w.heap.size (.slice va j vc) L U) := RU.below n5
      have Q5 : Hid (∀ i, i < L.length → W5.ownsRow w.heap.size 5 1 (U i) (atE L i).z.length ((atE L i).z.map (Value.int .u8)) ∧ ∀ k, 0 ≤ (atE L i).z.getD k 0 ∧ (atE L i).z.getD k 0 < 256) := fun i hi => ⟨own_below (OU i hi).1 n5, (OU i hi).2⟩
      have O5 : Hid (W5.ownsRow w.heap.size 5 1 (.slice a3 x.z.length c3') x.z.length (x.z.map (Value.int .u8))) := by
        have h1 : (w3.setCell ⟨wr.heap.size, 2, none⟩ (.slice a3 x.z.length c3')).ownsRow (wr.heap.size + 1) 5 1 (.slice a3 x.z.length c3') x.z.length (x.z.map (Value.int .u8)) := ownsRow_setCell_other O3.out ne _
        have h2 : W5.ownsRow (wr.heap.size + 1) 5 1 (.slice a3 x.z.length c3') x.z.length (x.z.map (Value.int .u8)) := by rw [hW5]; exact own_below h1 ((Below.refl _ _).alloc (Nat.le_refl _) _)
        exact own_mono h2 (Nat.le_trans HB.out.size (Nat.le_succ _))
      have K5 : Hid (∀ j, j < [x].length * 3 → W5.cell? ⟨w3.heap.size, 0 + j, none⟩ = some (cellE [x] (fun _ => .slice a3 x.z.length c3') j)) := fun j hj => by
        have e := flat_get [x] (fun _ => Value.slice a3 x.z.length c3') j
        rw [if_pos hj, ← flat_one] at e
        rw [hW5, Nat.zero_add, World.cell?_alloc_at _ _ _ _ s4.symm, ← e]
        simp
      have HJ : Hid (L.length = j) := hlj
      subst hW5
      obtain ⟨nz, hnz⟩ : ∃ nz, nz = x.z.length := ⟨_, rfl⟩
      have HNZ : Hid (nz = x.z.length) := hnz
      rw [← hnz] at O5 K5 R5 Q5 B5 ne hxz ⊢
      clear hnz n5 RU OU HO O3 hlj N3 s4 k3 ne
      go_wp2_with (at_builtin; refine wpList_append_en rfl _ _ rfl w.heap.size _ L U rfl R5.out w3.heap.size 1 [x] (fun _ => .slice a3 nz c3') 1 0 rfl rfl K5.out (fun _ _ => rfl) (by rw [HJ.out]; simp; omega) B5.out.size (Hid.out ?_))
      unfold Hid
      intro v6 w6 r6 g6
      have B6 : Hid (Below w.heap.size w w6) := B5.out.grown g6 B5.out.size (own_base R5.out)
      have O6 : Hid (OE w6 w.heap.size v6 (l.take (j + 1))) := by
        unfold Hid
        rw [HT.out]
        have hz := HNZ.out
        subst hz
        exact OE.step Q5.out R5.out O5.out HX.out r6 g6
      clear r6 g6 R5 Q5 O5 K5
      go_wp2
      go_roundw
      case rel => exact ⟨j + 1, by omega, by go_num, O6.out, B6.out⟩
      case measure => simp [intOf]; omega
    · obtain rfl : j = n := by omega
      have HR : Hid (OE wr w.heap.size (.slice va j vc) l) := by
        have h1 := HO.out
        have h2 : l.take j = l := by rw [HN.out, List.take_length]
        rw [h2] at h1
        exact h1
      go_wp2
      go_ret
      exact ⟨_, rfl, HR.out, HB.out⟩
end Go.Proofs.YtdomknajkipmnaaDoor
