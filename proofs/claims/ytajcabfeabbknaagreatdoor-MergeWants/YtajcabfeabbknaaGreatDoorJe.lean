/-
  What join answers: the entries of some lists, one behind the other.
-/
import Derived.Test.YtajcabfeabbknaaGreatDoorCp
namespace Go.Proofs.YtajcabfeabbknaaGreatDoor
open Go.RowKit

/-- Some lists of entries, in a row. -/
def Pts (w : World) (g : Nat) (LL : List (List En)) : Prop := ∀ i, i < LL.length → ∃ v, w.cell? ⟨g, 0 + i, none⟩ = some v ∧ ES w v (LL.getD i [])
theorem flat_next (LL : List (List En)) (j : Nat) (h : j < LL.length) : (LL.take (j + 1)).flatten = (LL.take j).flatten ++ LL.getD j [] := by
  rw [List.take_add_one, List.getElem?_eq_getElem h, List.flatten_append]
  simp [List.getD, List.getElem?_eq_getElem h]
theorem flat_short (LL : List (List En)) (j : Nat) : (LL.take j).flatten.length ≤ LL.flatten.length := by
  have h : LL.flatten = (LL.take j).flatten ++ (LL.drop j).flatten := by rw [← List.flatten_append, List.take_append_drop]
  rw [h, List.length_append]; omega

set_option maxHeartbeats 1000000 in
theorem joinE_any (LL : List (List En)) (k : Nat) (g : Nat) (w : World) (hk : k = LL.length) (hk9 : k ≤ 9) (h : Pts w g LL) (hl : LL.flatten.length ≤ 1000) :
    Calls Tryz.prog 70 #[.slice (some ⟨g, 0, none⟩) k k] w fun e w' => ∃ v, e = .returned v ∧ ES w' v LL.flatten ∧ Below w.heap.size w w' := by
  have HS : Hid (Pts w g LL) := h
  have HK : Hid (k = LL.length) := hk
  have HL : Hid (LL.flatten.length ≤ 1000) := hl
  clear h hk hl
  go_enter Tryz.func70, Tryz.ntmps70
  go_wp2
  go_loopw [3, 8] (fun s q wr => ∃ (j : Nat) (U : Nat → Value), j ≤ k ∧ q = .int .i64 j ∧ RE wr w.heap.size s (LL.take j).flatten U ∧ (∀ i, i < (LL.take j).flatten.length → Sl w (U i) (atE (LL.take j).flatten i).z) ∧ Below w.heap.size w wr) (fun _ q _ => k - (intOf q).toNat)
  case atStart => exact ⟨0, fun _ => .slice none 0 0, by omega, rfl, RE.nil _ _ _, fun i hi => by simp at hi, Below.refl _ _⟩
  case round =>
    obtain ⟨j, U, hj, rfl, re, sl, bel⟩ := hrel
    have HB : Hid (Below w.heap.size w wr) := bel
    have HR : Hid (RE wr w.heap.size u3 (LL.take j).flatten U) := re
    have HU : Hid (∀ i, i < (LL.take j).flatten.length → Sl w (U i) (atE (LL.take j).flatten i).z) := sl
    obtain ⟨va, vc, rfl⟩ := own_shape re
    have HJ : Hid ((LL.take j).flatten.length ≤ 1000) := Nat.le_trans (flat_short LL j) HL.out
    have HRES : Hid (j = k → ES wr (.slice va (LL.take j).flatten.length vc) LL.flatten) := fun e => by
      have h1 : ES wr (.slice va (LL.take j).flatten.length vc) (LL.take j).flatten := HR.out.es fun i hi => (HU.out i hi).kept HB.out
      have h2 : LL.take j = LL := by rw [e, HK.out, List.take_length]
      rw [h2] at h1 ⊢
      exact h1
    clear bel re sl
    by_cases hlt : j < k
    · have lt2 : (j : Int) < (k : Int) := by omega
      obtain ⟨v, hc, V, es⟩ := HS.out j (by rw [← HK.out]; exact hlt)
      have HT : Hid ((LL.take (j + 1)).flatten = (LL.take j).flatten ++ LL.getD j []) := flat_next LL j (by rw [← HK.out]; exact hlt)
      have HTL : Hid ((LL.take j).flatten.length + (LL.getD j []).length ≤ 1000) := by
        have h1 := flat_short LL (j + 1)
        rw [HT.out, List.length_append] at h1
        have h2 := HL.out
        unfold Hid
        omega
      have ev : Hid (ESU wr v (LL.getD j []) V) := es.kept HB.out
      have es0 : Hid (ESU w v (LL.getD j []) V) := es
      have hcr : wr.cell? ⟨g, 0 + j, none⟩ = some v := (HB.out.cell (World.block_lt_of_cell? _ _ hc)).trans hc
      rw [Nat.zero_add] at hcr
      have HV : Hid (∀ i, i < (LL.getD j []).length → Sl w (V i) (atE (LL.getD j []) i).z) := fun i hi => by
        obtain ⟨a, c, _, _, _, _, h5⟩ := es0.out
        rcases h5 with h5 | ⟨b, off, _, h7⟩
        · rw [h5] at hi; simp at hi
        · exact (h7 i hi).2.2.2
      obtain ⟨ea, ec, rfl, _⟩ := es
      have q1 : IntKind.i64.wrap ((j : Int) + 1) = ((j + 1 : Nat) : Int) := by simp [IntKind.wrap, IntKind.bits, IntKind.signed]; omega
      clear hc HRES es0
      generalize (LL.take j).flatten = L at *
      generalize LL.getD j [] = M at *
      obtain ⟨nl, hnl⟩ : ∃ nl, nl = L.length := ⟨_, rfl⟩
      have HNL : Hid (nl = L.length) := hnl
      obtain ⟨nm, hnm⟩ : ∃ nm, nm = M.length := ⟨_, rfl⟩
      have HNM : Hid (nm = M.length) := hnm
      rw [← hnl] at HR ⊢
      rw [← hnm] at ev hcr
      clear hnl hnm
      go_wp2_with (at_builtin; refine wpList_append_es rfl _ _ rfl w.heap.size _ L U rfl HR.out _ M V rfl ev.out (by have := HTL.out; omega) HB.out.size (Hid.out ?_))
      unfold Hid
      intro v4 w4 r4 g4
      have B4 : Hid (Below w.heap.size w w4) := HB.out.grown g4 HB.out.size (own_base HR.out)
      have R4 : Hid (RE w4 w.heap.size v4 (LL.take (j + 1)).flatten (behU L.length U V)) := by unfold Hid; rw [HT.out]; exact r4
      have S4 : Hid (∀ i, i < (LL.take (j + 1)).flatten.length → Sl w (behU L.length U V i) (atE (LL.take (j + 1)).flatten i).z) := fun i hi => by
        rw [HT.out] at hi ⊢
        unfold behU
        rw [List.length_append] at hi
        by_cases hlt : i < L.length
        · rw [if_pos hlt, atE_left L M i hlt]; exact HU.out i hlt
        · obtain ⟨q, rfl⟩ : ∃ q, i = L.length + q := ⟨i - L.length, by omega⟩
          rw [if_neg hlt, atE_right, show L.length + q - L.length = q by omega]
          exact HV.out q (by omega)
      clear r4 g4 HR HU HV ev
      go_wp2
      go_roundw
      case rel => exact ⟨j + 1, _, by omega, by go_num, R4.out, S4.out, B4.out⟩
      case measure => simp [intOf]; omega
    · obtain rfl : j = k := by omega
      have HR2 := HRES.out rfl
      have HR3 : Hid (ES wr (.slice va (LL.take j).flatten.length vc) LL.flatten) := HR2
      clear HR2 HRES
      generalize (LL.take j).flatten.length = nn at *
      go_wp2
      go_ret
      exact ⟨_, rfl, HR3.out, HB.out⟩
end Go.Proofs.YtajcabfeabbknaaGreatDoor
