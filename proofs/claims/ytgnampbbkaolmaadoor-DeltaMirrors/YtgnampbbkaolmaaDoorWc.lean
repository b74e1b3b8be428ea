/-
  What withCopy answers.
-/
import Derived.Test.YtgnampbbkaolmaaDoorXw
import Derived.BigQuiet
import Derived.WalkSmall
namespace Go.Proofs.YtgnampbbkaolmaaDoor
open Go.RowKit
set_option maxRecDepth 100000

theorem drew_below (w : World) (n : Nat) : Below w.heap.size w (w.drewN n) := ⟨rfl, rfl, rfl, Nat.le_refl _, fun _ _ => rfl⟩
set_option maxHeartbeats 4000000 in
theorem wcp_any (B : Nat) (v : Value) (O : List Xp) (at' : Int) (z m : Nat) (w : World) (h : OX w B v O) (hbd : Bd O m) (hm : m ≤ 50000) (hz : z ≤ 1000000) (hB : B ≤ w.heap.size) :
    Calls Tryd.prog 51 #[v, .int .i64 at', .int .i64 (z : Int)] w fun e w' => ∃ v', e = .returned v' ∧ OX w' B v' (wcp O at' z) ∧ Below B w w' := by
  obtain ⟨va, vc, rfl, hvc, hvm, -⟩ := h.shape
  have HO : Hid (OX w B (.slice va O.length vc) O) := h
  have HBD : Hid (Bd O m) := hbd
  have HM : Hid (m ≤ 50000) := hm
  have HW : Hid (wcp O at' z = if ends O at' then longer O z else O ++ [⟨true, at', z, []⟩]) := rfl
  generalize wcp O at' z = R at *
  obtain ⟨L, hL⟩ : ∃ L, L = O.length := ⟨_, rfl⟩
  have HL : Hid (L = O.length) := hL
  have hlm : L ≤ 50000 := by have := hbd.1; omega
  by_cases h0 : L = 0
  · rw [← hL, h0] at HO ⊢
    have HR : Hid (R = O ++ [⟨true, at', z, []⟩]) := by unfold Hid; rw [HW.out, if_neg (fun q => by have := q.1; omega)]
    clear HW
    clear h hbd hm hvc hvm hL h0 HL hlm
    go_enter Tryd.func51, Tryd.ntmps51
    go_wp2_with fail
    go_quiet (fail)
    obtain ⟨W, hW⟩ : ∃ W, W = w.drewN nq := ⟨_, rfl⟩
    have bW : Below w.heap.size w W := by rw [hW]; exact below_drewN (Below.refl _ _) _
    try rw [← hW]
    clear hW
    have B1 : Hid (Below w.heap.size w W) := bW
    have O1 : Hid (OX W B (.slice va 0 vc) O) := HO.out.below bW
    obtain ⟨W2, hW2⟩ : ∃ W2, W2 = W.alloc (.cells #[.bool true, .int .i64 at', .int .i64 (z : Int), .slice none 0 0] 63) := ⟨_, rfl⟩
    have b2 : Below W.heap.size W W2 := by rw [hW2]; exact al_below _ _
    have O2 : Hid (OX W2 B (.slice va 0 vc) O) := O1.out.below b2
    have S2 : Hid (OX W2 B (.slice (some ⟨W.heap.size, 0, none⟩) 1 1) [⟨true, at', z, []⟩]) := by
      unfold Hid
      rw [hW2]
      exact OX.one W B (Nat.le_trans hB bW.size) ⟨true, at', z, []⟩ _ (World.ownsRow_nil _ _ _ _) (fun k => by simp)
    have B2 : Hid (Below w.heap.size w W2) := bW.trans (b2.mono bW.size)
    have hB2 : B ≤ W2.heap.size := Nat.le_trans hB B2.out.size
    have hW2' := hW2.symm
    have HBG : Hid (O.length + 1 ≤ 100000) := by have := HBD.out.1; have := HM.out; unfold Hid; omega
    clear hW2 b2 O1 B1 bW
    go_wp2_with (at_builtin; refine wpList_append_ox rfl _ _ rfl B _ O rfl ?q1 _ [⟨true, at', z, []⟩] rfl ?q2 HBG.out ?q3 (Hid.out ?_))
    case q1 => exact O2.out
    case q2 => exact S2.out
    case q3 => exact hB2
    unfold Hid
    intro v3 w3 o3 b3
    have O3 : Hid (OX w3 B v3 R) := by unfold Hid; rw [HR.out]; exact o3
    have B3 : Hid (Below B w w3) := (B2.out.mono hB).trans b3
    obtain ⟨a3, c3, rfl, -⟩ := o3.shape
    clear o3 b3 O2 S2 B2 hW2'
    generalize (O ++ [(⟨true, at', z, []⟩ : Xp)]).length = L3 at *
    go_wp2
    go_ret
    exact ⟨_, rfl, O3.out, B3.out⟩
  · obtain ⟨n, hn⟩ : ∃ n, L = n + 1 := ⟨L - 1, by omega⟩
    obtain ⟨g, cap, e, hcap, hg, fz, k0, k1, k2, -⟩ := h.longer (by omega) z
    have ol : ∀ W, Below w.heap.size w W → OX (W.setCell ⟨g, (O.length - 1) * 4 + 2, none⟩ (.int .i64 ((atX O (O.length - 1)).n + z))) B (.slice va O.length vc) (longer O z) := fun W hb => by
      obtain ⟨g', cap', e', -, -, -, -, -, -, ol⟩ := (h.below hb).longer (by omega) z
      rw [e] at e' ol ⊢
      cases e'
      exact ol
    cases e
    have hx := hbd.2 _ (atX_mem O n (by omega))
    rw [← hL, hn, Nat.add_sub_cancel] at k0 k1 k2 fz ol
    rw [← hL, hn] at HO hcap ⊢
    have HOL : Hid (∀ W, Below w.heap.size w W → OX (W.setCell ⟨g, n * 4 + 2, none⟩ (.int .i64 ((atX O n).n + z))) B (.slice (some ⟨g, 0, none⟩) (n + 1) vc) (longer O z)) := ol
    have HEN : Hid (ends O at' ↔ (atX O n).c = true ∧ (atX O n).a + (atX O n).n = at') := by
      unfold Hid ends
      rw [← hL, hn, Nat.add_sub_cancel]
      simp
    have h1 : (((n + 1 : Nat) : Int) - 1) = (n : Int) := by omega
    have h2 : (0 : Int) ≤ (n : Int) := by omega
    have h3 : (n : Int) < ((n + 1 : Nat) : Int) := by omega
    have hmm : (m : Int) ≤ 50000 := by omega
    clear h hbd hm hvc hvm h0 ol
    generalize (atX O n).c = xc at *
    generalize (atX O n).a = xa at *
    generalize (atX O n).n = xn at *
    obtain ⟨y1, y2, y3, y4⟩ := hx
    have yw : wrap64 (xa + xn) = xa + xn := by unfold wrap64; omega
    have yv : wrap64 (xn + z) = xn + z := by unfold wrap64; omega
    cases xc with
    | false =>
      have HR : Hid (R = O ++ [⟨true, at', z, []⟩]) := by unfold Hid; rw [HW.out, if_neg (fun q => by have := (HEN.out.1 q).1; cases this)]
      clear HW
      clear HEN HOL k1 k2 fz
      go_enter Tryd.func51, Tryd.ntmps51
      go_wp2_with fail
      go_quiet (fail)
      obtain ⟨W, hW⟩ : ∃ W, W = w.drewN nq := ⟨_, rfl⟩
      have bW : Below w.heap.size w W := by rw [hW]; exact below_drewN (Below.refl _ _) _
      try rw [← hW]
      clear hW
      have B1 : Hid (Below w.heap.size w W) := bW
      have O1 : Hid (OX W B (.slice (some ⟨g, 0, none⟩) (n + 1) vc) O) := HO.out.below bW
      obtain ⟨W2, hW2⟩ : ∃ W2, W2 = W.alloc (.cells #[.bool true, .int .i64 at', .int .i64 (z : Int), .slice none 0 0] 63) := ⟨_, rfl⟩
      have b2 : Below W.heap.size W W2 := by rw [hW2]; exact al_below _ _
      have O2 : Hid (OX W2 B (.slice (some ⟨g, 0, none⟩) (n + 1) vc) O) := O1.out.below b2
      have S2 : Hid (OX W2 B (.slice (some ⟨W.heap.size, 0, none⟩) 1 1) [⟨true, at', z, []⟩]) := by
        unfold Hid
        rw [hW2]
        exact OX.one W B (Nat.le_trans hB bW.size) ⟨true, at', z, []⟩ _ (World.ownsRow_nil _ _ _ _) (fun k => by simp)
      have B2 : Hid (Below w.heap.size w W2) := bW.trans (b2.mono bW.size)
      have hB2 : B ≤ W2.heap.size := Nat.le_trans hB B2.out.size
      have hW2' := hW2.symm
      have HBG : Hid (O.length + 1 ≤ 100000) := by have := HBD.out.1; have := HM.out; unfold Hid; omega
      clear hW2 b2 O1 B1 bW
      go_wp2_with (at_builtin; refine wpList_append_ox rfl _ _ rfl B _ O rfl ?q1 _ [⟨true, at', z, []⟩] rfl ?q2 HBG.out ?q3 (Hid.out ?_))
      case q1 => exact O2.out
      case q2 => exact S2.out
      case q3 => exact hB2
      unfold Hid
      intro v3 w3 o3 b3
      have O3 : Hid (OX w3 B v3 R) := by unfold Hid; rw [HR.out]; exact o3
      have B3 : Hid (Below B w w3) := (B2.out.mono hB).trans b3
      obtain ⟨a3, c3, rfl, -⟩ := o3.shape
      clear o3 b3 O2 S2 B2 hW2'
      generalize (O ++ [(⟨true, at', z, []⟩ : Xp)]).length = L3 at *
      go_wp2
      go_ret
      exact ⟨_, rfl, O3.out, B3.out⟩
    | true =>
      by_cases hs : xa + xn = at'
      · have HR : Hid (R = longer O z) := by unfold Hid; rw [HW.out, if_pos (HEN.out.2 ⟨rfl, hs⟩)]
        have hs2 : (xa + xn == at') = true := by simpa using hs
        clear HW HEN hs
        go_enter Tryd.func51, Tryd.ntmps51
        go_wp2_with fail
        go_quiet (fail)
        have kW : (w.drewN nq).cell? ⟨g, n * 4 + 2, none⟩ = some (.int .i64 xn) := k2
        have fW : (w.drewN nq).frozen? ⟨g, n * 4 + 2, none⟩ = false := fz
        have bW : Hid (Below w.heap.size w (w.drewN nq)) := below_drewN (Below.refl _ _) _
        generalize w.drewN nq = W at *
        have OF := HOL.out W bW.out
        have OF2 : Hid (OX (W.setCell ⟨g, n * 4 + 2, none⟩ (.int .i64 (xn + z))) B (.slice (some ⟨g, 0, none⟩) (n + 1) vc) R) := by unfold Hid; rw [HR.out]; exact OF
        clear OF HOL HR k0 k1 k2 fz
        go_wp2
        go_ret
        exact ⟨_, rfl, OF2.out, (bW.out.mono hB).setCell hg _⟩
      · have hs2 : (xa + xn == at') = false := by simpa using hs
        have HR : Hid (R = O ++ [⟨true, at', z, []⟩]) := by unfold Hid; rw [HW.out, if_neg (fun q => hs (HEN.out.1 q).2)]
        clear HW
        clear HEN HOL fz hs
        go_enter Tryd.func51, Tryd.ntmps51
        go_wp2_with fail
        go_quiet (fail)
        obtain ⟨W, hW⟩ : ∃ W, W = w.drewN nq := ⟨_, rfl⟩
        have bW : Below w.heap.size w W := by rw [hW]; exact below_drewN (Below.refl _ _) _
        try rw [← hW]
        clear hW
        have B1 : Hid (Below w.heap.size w W) := bW
        have O1 : Hid (OX W B (.slice (some ⟨g, 0, none⟩) (n + 1) vc) O) := HO.out.below bW
        obtain ⟨W2, hW2⟩ : ∃ W2, W2 = W.alloc (.cells #[.bool true, .int .i64 at', .int .i64 (z : Int), .slice none 0 0] 63) := ⟨_, rfl⟩
        have b2 : Below W.heap.size W W2 := by rw [hW2]; exact al_below _ _
        have O2 : Hid (OX W2 B (.slice (some ⟨g, 0, none⟩) (n + 1) vc) O) := O1.out.below b2
        have S2 : Hid (OX W2 B (.slice (some ⟨W.heap.size, 0, none⟩) 1 1) [⟨true, at', z, []⟩]) := by
          unfold Hid
          rw [hW2]
          exact OX.one W B (Nat.le_trans hB bW.size) ⟨true, at', z, []⟩ _ (World.ownsRow_nil _ _ _ _) (fun k => by simp)
        have B2 : Hid (Below w.heap.size w W2) := bW.trans (b2.mono bW.size)
        have hB2 : B ≤ W2.heap.size := Nat.le_trans hB B2.out.size
        have hW2' := hW2.symm
        have HBG : Hid (O.length + 1 ≤ 100000) := by have := HBD.out.1; have := HM.out; unfold Hid; omega
        clear hW2 b2 O1 B1 bW
        go_wp2_with (at_builtin; refine wpList_append_ox rfl _ _ rfl B _ O rfl ?q1 _ [⟨true, at', z, []⟩] rfl ?q2 HBG.out ?q3 (Hid.out ?_))
        case q1 => exact O2.out
        case q2 => exact S2.out
        case q3 => exact hB2
        unfold Hid
        intro v3 w3 o3 b3
        have O3 : Hid (OX w3 B v3 R) := by unfold Hid; rw [HR.out]; exact o3
        have B3 : Hid (Below B w w3) := (B2.out.mono hB).trans b3
        obtain ⟨a3, c3, rfl, -⟩ := o3.shape
        clear o3 b3 O2 S2 B2 hW2'
        generalize (O ++ [(⟨true, at', z, []⟩ : Xp)]).length = L3 at *
        go_wp2
        go_ret
        exact ⟨_, rfl, O3.out, B3.out⟩
end Go.Proofs.YtgnampbbkaolmaaDoor
