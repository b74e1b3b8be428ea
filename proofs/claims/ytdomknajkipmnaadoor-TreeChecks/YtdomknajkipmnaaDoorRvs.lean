/-
  What the document's Visible answers.
-/
import Derived.Test.YtdomknajkipmnaaDoorVs
import Derived.Test.YtdomknajkipmnaaDoorSe
import Derived.Test.YtdomknajkipmnaaDoorRn
namespace Go.Proofs.YtdomknajkipmnaaDoor
open Go.RowKit

set_option maxHeartbeats 1000000 in
theorem rvisible_any (v : Value) (l : List En) (w : World) (h : ES w v l) (hl : Lt l) :
    Calls Tryd.prog 17 #[v] w fun e w' => ∃ v', e = .returned v' ∧ ES w' v' (vis l) ∧ Below w.heap.size w w' := by
  obtain ⟨a, c, rfl, h2, h3, h4⟩ := h.shape
  have HS : Hid (ES w (.slice a l.length c) l) := h
  have hn := hl.1
  have HV : Hid (∀ j, (vis (l.take j)).length ≤ 100) := fun j => by
    have h1 : (vis (l.take j)).length ≤ (l.take j).length := List.length_filter_le _ _
    rw [List.length_take] at h1
    omega
  obtain ⟨n, hn'⟩ : ∃ n, n = l.length := ⟨_, rfl⟩
  have HN : Hid (n = l.length) := hn'
  rw [← hn'] at HS h2 hn ⊢
  clear h hl h3 h4 hn'
  go_enter Tryd.func17, Tryd.ntmps17
  go_wp2
  go_loopw [3, 4] (fun s q wr => ∃ j : Nat, j ≤ n ∧ q = .int .i64 j ∧ SE w wr w.heap.size s (vis (l.take j)) ∧ Below w.heap.size w wr) (fun _ q _ => n - (intOf q).toNat)
  case atStart => exact ⟨0, by omega, rfl, SE.nil _ _ _, Below.refl _ _⟩
  case round =>
    obtain ⟨j, hj, rfl, se, bel⟩ := hrel
    have HB : Hid (Below w.heap.size w wr) := bel
    have HO : Hid (SE w wr w.heap.size u3 (vis (l.take j))) := se
    obtain ⟨va, vc, rfl⟩ := se.shape
    obtain ⟨nv, hnv⟩ : ∃ nv, nv = (vis (l.take j)).length := ⟨_, rfl⟩
    have HJ : Hid (nv = (vis (l.take j)).length) := hnv
    have hj9 : nv ≤ 100 := by rw [hnv]; exact HV.out j
    rw [← hnv] at HO ⊢
    clear bel se hnv
    by_cases hlt : j < n
    · have lt2 : (j : Int) < (n : Int) := by omega
      obtain ⟨b, off, ua, un, uc, rfl, d1, d2, d3, hun, hsl⟩ := HS.out.at j (by rw [← HN.out]; exact hlt)
      have c1 := (HB.out.cell (World.block_lt_of_cell? _ _ d1)).trans d1
      have c2 := (HB.out.cell (World.block_lt_of_cell? _ _ d2)).trans d2
      have c3 := (HB.out.cell (World.block_lt_of_cell? _ _ d3)).trans d3
      have q1 : IntKind.i64.wrap ((j : Int) + 1) = ((j + 1 : Nat) : Int) := by simp [IntKind.wrap, IntKind.bits, IntKind.signed]; omega
      have HT : Hid (vis (l.take (j + 1)) = if res (atE l j).k then vis (l.take j) else vis (l.take j) ++ [atE l j]) := vis_next l j (by rw [← HN.out]; exact hlt)
      have CR : Hid (∀ w, Calls Tryd.prog 38 #[.string (atE l j).p] w fun e w' => e = .returned (.bool (res (atE l j).k)) ∧ w' = w) := fun w => rreserved_any (atE l j).p w
      have SX : Hid (Sl w (.slice ua un uc) (atE l j).z) := hsl
      clear hun hsl d1 d2 d3
      generalize atE l j = x at *
      generalize hrb : res x.k = rb at *
      generalize vis (l.take j) = L at *
      clear hrb
      cases rb with
      | true =>
        have NX : Hid (vis (l.take (j + 1)) = L) := HT.out
        have ON : Hid (SE w wr w.heap.size (.slice va nv vc) (vis (l.take (j + 1)))) := by unfold Hid; rw [NX.out]; exact HO.out
        clear HT
        go_wp2_with (go_at_call 38; refine (CR.out _).mono ?_; rintro e wq ⟨rfl, hq⟩; replace hq := hq.symm; subst hq)
        go_roundw
        case rel => exact ⟨j + 1, by omega, by go_num, ON.out, HB.out⟩
        case measure => simp [intOf]; omega
      | false =>
        have HT2 : Hid (vis (l.take (j + 1)) = L ++ [x]) := HT.out
        clear HT
        go_wp2_with (first | (go_at_call 38; refine (CR.out _).mono ?_; rintro e wq ⟨rfl, hq⟩; replace hq := hq.symm; subst hq) | (at_builtin; refine wpList_append_se rfl _ _ rfl _ L rfl HO.out x _ SX.out rfl (by rw [← HJ.out]; omega) HB.out (Hid.out ?_)))
        unfold Hid
        intro v4 w4 s4 b4
        have S4 : Hid (SE w w4 w.heap.size v4 (vis (l.take (j + 1)))) := by unfold Hid; rw [HT2.out]; exact s4
        have B4 : Hid (Below w.heap.size w w4) := b4
        clear s4 b4 HO
        go_wp2
        go_roundw
        case rel => exact ⟨j + 1, by omega, by go_num, S4.out, B4.out⟩
        case measure => simp [intOf]; omega
    · obtain rfl : j = n := by omega
      have HR : Hid (ES wr (.slice va nv vc) (vis l)) := by
        have h1 := HO.out.es HB.out
        have h2 : l.take j = l := by rw [HN.out, List.take_length]
        rw [h2] at h1
        exact h1
      go_wp2
      go_ret
      exact ⟨_, rfl, HR.out, HB.out⟩
end Go.Proofs.YtdomknajkipmnaaDoor
