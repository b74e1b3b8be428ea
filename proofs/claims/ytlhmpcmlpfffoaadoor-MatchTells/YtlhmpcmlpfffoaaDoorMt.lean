/-
  What Whole and find answer.
-/
import Derived.Test.YtlhmpcmlpfffoaaDoorWc
import Derived.Test.YtlhmpcmlpfffoaaDoorFd
import Derived.Test.YtlhmpcmlpfffoaaDoorRoWinR
import Derived.BigQuiet
namespace Go.Proofs.YtlhmpcmlpfffoaaDoor
open Go.RowKit Go.Maps
set_option maxRecDepth 100000

set_option maxHeartbeats 1000000 in
theorem whole_any (v : Value) (b : List Int) (w : World) (h : Sl w v b) (hb : b.length ≤ 200000000000000) :
    Calls Tryd.prog 18 #[v] w fun e w' => ∃ v', e = .returned v' ∧ OX w' w.heap.size v' (whl b) ∧ Below w.heap.size w w' := by
  have CC := Ro.clone_any v b w h hb
  have HB : Hid (∀ i, 0 ≤ b.getD i 0 ∧ b.getD i 0 < 256) := h.bytes
  obtain ⟨a, c, rfl, -⟩ := id h
  by_cases h0 : b = []
  · subst h0
    rw [whl_nil]
    clear CC h hb HB
    go_enter Tryd.func18, Tryd.ntmps18
    go_wp2
    go_ret
    exact ⟨_, rfl, OX.nil _ _, Below.refl _ _⟩
  · have hp : 0 < b.length := List.length_pos_iff.2 h0
    rw [whl_some h0]
    obtain ⟨L, hL⟩ : ∃ L, L = b.length := ⟨_, rfl⟩
    have HL : Hid (L = b.length) := hL
    rw [← hL] at CC hp ⊢
    have hl : ((L : Int) == 0) = false := by
      have : ¬ (L : Int) = 0 := by omega
      simpa using this
    clear h hb h0 hL hp
    go_enter Tryd.func18, Tryd.ntmps18
    go_wp2_with fail
    refine CC.mono ?_
    rintro e w1 ⟨v1, rfl, o1, b1⟩
    clear CC
    have O1 : Hid (w1.ownsRow w.heap.size 5 1 v1 b.length (b.map (Value.int .u8))) := by unfold Hid; rw [← HL.out]; exact o1
    have B1 : Hid (Below w.heap.size w w1) := b1
    obtain ⟨a1, c1, rfl⟩ := own_shape o1
    clear o1 b1
    go_wp2
    go_ret
    exact ⟨_, rfl, OX.one w1 w.heap.size B1.out.size ⟨false, 0, 0, b⟩ _ O1.out HB.out, B1.out.trans ((al_below _ _).mono B1.out.size)⟩
set_option maxHeartbeats 2000000 in
theorem mfind_any (w : World) (B g m : Nat) (z N : Int) (l : List Sg) (hi : IX w B g m z N l) (base gw : Nat) (hv : Value) (b : List Int) (hw : Ro.Win w base gw hv b) (v : Value) (s : Sl w v b) (ht : Ta w) (hb : b.length ≤ 100000000000000000) :
    Calls Tryd.prog 30 #[.pointer (some ⟨g, 0, none⟩), .pointer (some ⟨gw, 0, none⟩), v] w fun e w' => e = .returned (.tuple #[.int .i64 (bfnd l z b).1, .bool (bfnd l z b).2]) ∧ Below w.heap.size w w' := by
  have C1 := Ro.wsum_any base gw hv b w hw
  have C3 := find_any w B g m z N l hi v b s ht hb
  obtain ⟨ni, h⟩ := hi
  have C2 := weak_any w _ _ _ _ _ _ _ _ h (Ro.rs b) (Ro.rs_range b)
  have HF : Hid (wk l (Ro.rs b) = false → bfnd l z b = (0, false)) := fun hq => by
    unfold bfnd
    rw [if_neg]
    rintro ⟨-, h2⟩
    rw [fi_wk l _ _ h2] at hq
    cases hq
  obtain ⟨a, c, rfl, -⟩ := id s
  clear h hw s ht hb
  generalize bfnd l z b = R at *
  generalize Ro.rs b = k at *
  generalize b.length = L at *
  cases hq : wk l k with
  | false =>
    obtain rfl := HF.out hq
    rw [hq] at C2
    clear HF hq C3
    go_enter Tryd.func30, Tryd.ntmps30
    go_wp2_with fail
    refine C1.mono ?_
    rintro e w1 ⟨rfl, hq1⟩
    replace hq1 := hq1.symm
    subst hq1
    clear C1
    go_wp2_with fail
    refine C2.mono ?_
    rintro e w1 ⟨rfl, hq1⟩
    replace hq1 := hq1.symm
    subst hq1
    clear C2
    go_wp2
    go_ret2
    exact ⟨rfl, Below.refl _ _⟩
  | true =>
    rw [hq] at C2
    clear HF hq
    go_enter Tryd.func30, Tryd.ntmps30
    go_wp2_with fail
    refine C1.mono ?_
    rintro e w1 ⟨rfl, hq1⟩
    replace hq1 := hq1.symm
    subst hq1
    clear C1
    go_wp2_with fail
    refine C2.mono ?_
    rintro e w1 ⟨rfl, hq1⟩
    replace hq1 := hq1.symm
    subst hq1
    clear C2
    go_wp2_with fail
    refine C3.mono ?_
    rintro e w1 ⟨rfl, b1⟩
    clear C3
    have B1 : Hid (Below w.heap.size w w1) := b1
    clear b1
    go_wp2
    go_ret2
    exact ⟨rfl, B1.out⟩
end Go.Proofs.YtlhmpcmlpfffoaaDoor
