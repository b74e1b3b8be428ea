/-
  What Copied, Literal and the document's Counts and Light answer.
-/
import Derived.Test.YtgnampbbkaolmaaDoorXw
import Derived.WalkSmall
namespace Go.Proofs.YtgnampbbkaolmaaDoor
open Go.RowKit
set_option maxRecDepth 100000

theorem cpd_succ (l : List Xp) (j : Nat) (h : j < l.length) : cpd (l.take (j + 1)) = cpd (l.take j) + (if (atX l j).c = true then (atX l j).n else 0) := by rw [takeX_at l j h, cpd_app, cpd_one]
theorem lit_succ (l : List Xp) (j : Nat) (h : j < l.length) : lit (l.take (j + 1)) = lit (l.take j) + (if (atX l j).c = true then 0 else (atX l j).d.length) := by rw [takeX_at l j h, lit_app, lit_one]
theorem lit_take (l : List Xp) (j : Nat) : lit (l.take j) ≤ lit l := by
  have := lit_app (l.take j) (l.drop j)
  rw [List.take_append_drop] at this
  omega
/-- Numbers that are not too great. -/
def Nb (l : List Xp) : Prop := ∀ x ∈ l, -1099511627776 ≤ x.n ∧ x.n ≤ 1099511627776
theorem Nb.at {l : List Xp} (h : Nb l) (j : Nat) (hj : j < l.length) : -1099511627776 ≤ (atX l j).n ∧ (atX l j).n ≤ 1099511627776 := h _ (atX_mem l j hj)
theorem Nb.sum {l : List Xp} (h : Nb l) : ∀ j, j ≤ l.length → -((j : Int) * 1099511627776) ≤ cpd (l.take j) ∧ cpd (l.take j) ≤ (j : Int) * 1099511627776
  | 0, _ => by simp [cpd]
  | j + 1, hj => by
    have ih := h.sum j (by omega)
    have hx := h.at j (by omega)
    rw [cpd_succ l j (by omega)]
    split <;> omega
set_option maxHeartbeats 2000000 in
theorem copied_any (v : Value) (l : List Xp) (w : World) (h : XS w v l) (hl : l.length ≤ 100000) (hn : Nb l) :
    Calls Tryd.prog 21 #[v] w fun e w' => e = .returned (.int .i64 (cpd l)) ∧ Below w.heap.size w w' := by
  obtain ⟨a, c, rfl, h2, h3, h4⟩ := h.shape
  have HS : Hid (XS w (.slice a l.length c) l) := h
  have HR : Hid (cpd l = cpd (l.take l.length)) := by unfold Hid; rw [List.take_length]
  have HZ : Hid (∀ j, j ≤ l.length → -((j : Int) * 1099511627776) ≤ cpd (l.take j) ∧ cpd (l.take j) ≤ (j : Int) * 1099511627776) := hn.sum
  have HY : Hid (∀ j, j < l.length → -1099511627776 ≤ (atX l j).n ∧ (atX l j).n ≤ 1099511627776) := hn.at
  have HU0 : Hid (∀ j, j < l.length → cpd (l.take (j + 1)) = cpd (l.take j) + (if (atX l j).c = true then (atX l j).n else 0)) := cpd_succ l
  obtain ⟨n, hn'⟩ : ∃ n, n = l.length := ⟨_, rfl⟩
  have HN : Hid (n = l.length) := hn'
  rw [← hn'] at HS HR HZ HY HU0 h2 hl ⊢
  generalize cpd l = r at *
  clear h hn h3 h4 hn'
  go_enter Tryd.func21, Tryd.ntmps21
  go_wp2
  go_loopw [3, 8] (fun s q wr => ∃ j : Nat, j ≤ n ∧ q = .int .i64 j ∧ s = .int .i64 (cpd (l.take j)) ∧ Below w.heap.size w wr) (fun _ q _ => n - (intOf q).toNat)
  case atStart => exact ⟨0, by omega, rfl, rfl, Below.refl _ _⟩
  case round =>
    obtain ⟨j, hj, rfl, rfl, bel⟩ := hrel
    have HB : Hid (Below w.heap.size w wr) := bel
    clear bel
    by_cases hlt : j < n
    · have lt2 : (j : Int) < (n : Int) := by omega
      obtain ⟨b, off, ua, un, uc, rfl, c0, c1, c2, c3, hun, _⟩ := (HS.out.kept HB.out).at j (by rw [← HN.out]; exact hlt)
      have hu := HU0.out j hlt
      obtain ⟨z1, z2⟩ := HZ.out j (by omega)
      obtain ⟨y1, y2⟩ := HY.out j hlt
      generalize cpd (l.take j) = s at *
      generalize (atX l j).c = xc at *
      generalize (atX l j).a = xa at *
      generalize (atX l j).n = xn at *
      clear hun
      cases xc with
      | true =>
        have HU : Hid (cpd (l.take (j + 1)) = s + xn) := by unfold Hid; simpa using hu
        have yw : wrap64 (s + xn) = s + xn := by unfold wrap64; omega
        clear hu
        go_wp2
        go_roundw
        case rel => exact ⟨j + 1, by omega, by go_num, by rw [HU.out], ((HB.out.alloc HB.out.size _))⟩
        case measure => simp [intOf]; omega
      | false =>
        have HU : Hid (cpd (l.take (j + 1)) = s) := by unfold Hid; simpa using hu
        clear hu
        go_wp2
        go_roundw
        case rel => exact ⟨j + 1, by omega, by go_num, by rw [HU.out], ((HB.out.alloc HB.out.size _))⟩
        case measure => simp [intOf]; omega
    · obtain rfl : j = n := by omega
      go_wp2
      go_ret
      exact ⟨by rw [HR.out]; rfl, HB.out⟩
set_option maxHeartbeats 2000000 in
theorem literal_any (v : Value) (l : List Xp) (w : World) (h : XS w v l) (hl : l.length ≤ 100000) (hn : lit l ≤ 1000000) :
    Calls Tryd.prog 22 #[v] w fun e w' => e = .returned (.int .i64 (lit l)) ∧ Below w.heap.size w w' := by
  obtain ⟨a, c, rfl, h2, h3, h4⟩ := h.shape
  have HS : Hid (XS w (.slice a l.length c) l) := h
  have HR : Hid (lit l = lit (l.take l.length)) := by unfold Hid; rw [List.take_length]
  have HZ : Hid (∀ j, lit (l.take j) ≤ 1000000) := fun j => Nat.le_trans (lit_take l j) hn
  have HU0 : Hid (∀ j, j < l.length → lit (l.take (j + 1)) = lit (l.take j) + (if (atX l j).c = true then 0 else (atX l j).d.length)) := lit_succ l
  obtain ⟨n, hn'⟩ : ∃ n, n = l.length := ⟨_, rfl⟩
  have HN : Hid (n = l.length) := hn'
  rw [← hn'] at HS HR HU0 h2 hl ⊢
  generalize lit l = r at *
  clear h hn h3 h4 hn'
  go_enter Tryd.func22, Tryd.ntmps22
  go_wp2
  go_loopw [3, 8] (fun s q wr => ∃ j : Nat, j ≤ n ∧ q = .int .i64 j ∧ s = .int .i64 (lit (l.take j)) ∧ Below w.heap.size w wr) (fun _ q _ => n - (intOf q).toNat)
  case atStart => exact ⟨0, by omega, rfl, rfl, Below.refl _ _⟩
  case round =>
    obtain ⟨j, hj, rfl, rfl, bel⟩ := hrel
    have HB : Hid (Below w.heap.size w wr) := bel
    clear bel
    by_cases hlt : j < n
    · have lt2 : (j : Int) < (n : Int) := by omega
      obtain ⟨b, off, ua, un, uc, rfl, c0, c1, c2, c3, hun, _⟩ := (HS.out.kept HB.out).at j (by rw [← HN.out]; exact hlt)
      have hu := HU0.out j hlt
      have z1 := HZ.out j
      have z2 := HZ.out (j + 1)
      rw [← hun] at hu
      generalize lit (l.take j) = s at *
      generalize (atX l j).c = xc at *
      generalize (atX l j).a = xa at *
      generalize (atX l j).n = xn at *
      clear hun
      cases xc with
      | true =>
        have HU : Hid (lit (l.take (j + 1)) = s) := by unfold Hid; simpa using hu
        clear hu z2
        go_wp2
        go_roundw
        case rel => exact ⟨j + 1, by omega, by go_num, by rw [HU.out], ((HB.out.alloc HB.out.size _))⟩
        case measure => simp [intOf]; omega
      | false =>
        have HU : Hid (lit (l.take (j + 1)) = s + un) := by unfold Hid; simpa using hu
        rw [HU.out] at z2
        have yw : wrap64 ((s : Int) + (un : Int)) = ((s + un : Nat) : Int) := by unfold wrap64; omega
        clear hu
        go_wp2
        go_roundw
        case rel => exact ⟨j + 1, by omega, by go_num, by rw [HU.out]; go_num, ((HB.out.alloc HB.out.size _))⟩
        case measure => simp [intOf]; omega
    · obtain rfl : j = n := by omega
      go_wp2
      go_ret
      exact ⟨by rw [HR.out]; rfl, HB.out⟩
/-- An answer that, if it is true, tells G; the world is as it was. -/
def LR (G : Prop) (w : World) (e : Ending) (w' : World) : Prop := ∃ r, e = .returned (.bool r) ∧ w' = w ∧ (r = true → G)
theorem LR.no (G : Prop) (w : World) : LR G w (.returned (.bool false)) w := ⟨false, rfl, rfl, fun h => by cases h⟩
theorem LR.yes {G : Prop} (w : World) (h : G) : LR G w (.returned (.bool true)) w := ⟨true, rfl, rfl, fun _ => h⟩
/-- All their bytes. -/
def byt (l : List Xp) : Nat := (l.map fun x => x.d.length).sum
theorem byt_succ (l : List Xp) (j : Nat) (h : j < l.length) : byt (l.take (j + 1)) = byt (l.take j) + (atX l j).d.length := by
  rw [takeX_at l j h]
  simp [byt]
theorem lit_byt : ∀ l : List Xp, lit l ≤ byt l
  | [] => Nat.le_refl _
  | x :: l => by
    have ih := lit_byt l
    unfold lit byt at *
    simp only [List.map_cons, List.sum_cons]
    split <;> omega
/-- What is light. -/
def Lgt (l : List Xp) (most bytes : Nat) : Prop := l.length ≤ most ∧ byt l ≤ bytes ∧ Nb l
set_option maxHeartbeats 4000000 in
theorem light_any (v : Value) (l : List Xp) (most bytes : Nat) (w : World) (h : XS w v l) (hb : bytes ≤ 100000) (hmo : most ≤ 100000) :
    Calls Tryd.prog 8 #[v, .int .i64 most, .int .i64 bytes] w (LR (Lgt l most bytes) w) := by
  obtain ⟨a, c, rfl, g2, g3, _⟩ := h.shape
  have HS : Hid (XS w (.slice a l.length c) l) := h
  have hl9 : l.length ≤ 9223372036854775807 := by unfold maxLen at g3; omega
  have HD : Hid (l.length ≤ most → byt (l.take l.length) ≤ bytes → (∀ k, k < l.length → -1099511627776 ≤ (atX l k).n ∧ (atX l k).n ≤ 1099511627776) → Lgt l most bytes) := fun h1 h2 h3 => by
    rw [List.take_length] at h2
    refine ⟨h1, h2, fun x hx => ?_⟩
    obtain ⟨i, hi, rfl⟩ := List.getElem_of_mem hx
    have := h3 i hi
    rwa [atX_eq l i hi] at this
  have HU0 : Hid (∀ j, j < l.length → byt (l.take (j + 1)) = byt (l.take j) + (atX l j).d.length) := byt_succ l
  have HP : Hid (byt (l.take 0) = 0) := rfl
  generalize Lgt l most bytes = G at *
  obtain ⟨n, hn'⟩ : ∃ n, n = l.length := ⟨_, rfl⟩
  have HN : Hid (n = l.length) := hn'
  rw [← hn'] at HS HD HU0 g2 hl9 ⊢
  clear h hn' g3
  by_cases hlong : most < n
  · have h1 : (most : Int) < (n : Int) := by omega
    clear HD HS
    go_enter Tryd.func8, Tryd.ntmps8
    go_wp2
    go_ret
    exact LR.no _ _
  have h1 : ¬ (most : Int) < (n : Int) := by omega
  have HD2 : Hid (byt (l.take n) ≤ bytes → (∀ k, k < n → -1099511627776 ≤ (atX l k).n ∧ (atX l k).n ≤ 1099511627776) → G) := HD.out (by omega)
  clear HD
  go_enter Tryd.func8, Tryd.ntmps8
  go_wp2
  go_loop [7, 8] (fun s q => ∃ j t : Nat, j ≤ n ∧ q = .int .i64 j ∧ s = .int .i64 t ∧ t ≤ bytes ∧ Hid (byt (l.take j) = t) ∧ ∀ k, k < j → -1099511627776 ≤ (atX l k).n ∧ (atX l k).n ≤ 1099511627776) (fun _ q => n - (intOf q).toNat)
  case atStart => exact ⟨0, 0, by omega, rfl, rfl, by omega, HP, fun k hk => by omega⟩
  case round =>
    obtain ⟨j, t, hj, rfl, rfl, ht, hby, ok⟩ := hrel
    have OK : Hid (∀ k, k < j → -1099511627776 ≤ (atX l k).n ∧ (atX l k).n ≤ 1099511627776) := ok
    clear ok
    by_cases hlt : j < n
    · have lt2 : (j : Int) < (n : Int) := by omega
      obtain ⟨b, off, ua, un, uc, rfl, c0, c1, c2, c3, hun, s1⟩ := HS.out.at j (by rw [← HN.out]; exact hlt)
      have q1 : IntKind.i64.wrap ((j : Int) + 1) = ((j + 1 : Nat) : Int) := by simp [IntKind.wrap, IntKind.bits, IntKind.signed]; omega
      have HU : Hid (byt (l.take (j + 1)) = t + un) := by unfold Hid; rw [HU0.out j hlt, hby.out, hun]
      have NX : Hid (-1099511627776 ≤ (atX l j).n → (atX l j).n ≤ 1099511627776 → ∀ k, k < j + 1 → -1099511627776 ≤ (atX l k).n ∧ (atX l k).n ≤ 1099511627776) := fun h1 h2 k hk => by
        rcases Nat.lt_or_ge k j with h' | h'
        · exact OK.out k h'
        · rw [show k = j by omega]; exact ⟨h1, h2⟩
      have hun9 : un ≤ 9223372036854775807 := by
        obtain ⟨_, _, e, h1, h2, _⟩ := s1
        cases e
        unfold maxLen at h2
        omega
      clear hun s1 OK c1 c0 hby
      generalize (atX l j).n = xn at *
      by_cases hu : un ≤ bytes
      · have hu2 : (un : Int) ≤ (bytes : Int) := by omega
        have hmin : min (un : Int) ((bytes : Int) + 1) = (un : Int) := by omega
        have q2 : IntKind.i64.wrap ((t : Int) + (un : Int)) = ((t + un : Nat) : Int) := by simp [IntKind.wrap, IntKind.bits, IntKind.signed]; omega
        by_cases ho : bytes < t + un
        · have ho2 : (bytes : Int) < (t : Int) + (un : Int) := by omega
          clear NX
          go_wp2
          go_ret
          exact LR.no _ _
        · have ho2 : ¬ (bytes : Int) < (t : Int) + (un : Int) := by omega
          by_cases hx : 1099511627776 < xn
          · clear NX
            go_wp2
            go_ret
            exact LR.no _ _
          · by_cases hy : xn < -1099511627776
            · clear NX
              go_wp2
              go_ret
              exact LR.no _ _
            · have NX2 : Hid (∀ k, k < j + 1 → -1099511627776 ≤ (atX l k).n ∧ (atX l k).n ≤ 1099511627776) := NX.out (by omega) (by omega)
              clear NX
              go_wp2
              go_round
              case rel => exact ⟨j + 1, t + un, by omega, by go_num, by go_num, by omega, HU, NX2.out⟩
              case measure => simp [intOf]; omega
      · have hu2 : (bytes : Int) < (un : Int) := by omega
        have hmin : min (un : Int) ((bytes : Int) + 1) = (bytes : Int) + 1 := by omega
        have q2 : IntKind.i64.wrap ((t : Int) + ((bytes : Int) + 1)) = ((t + (bytes + 1) : Nat) : Int) := by simp [IntKind.wrap, IntKind.bits, IntKind.signed]; omega
        have ho2 : (bytes : Int) < (t : Int) + ((bytes : Int) + 1) := by omega
        clear NX
        go_wp2
        go_ret
        exact LR.no _ _
    · obtain rfl : j = n := by omega
      have HG : Hid G := HD2.out (by rw [hby.out]; exact ht) OK.out
      clear HD2 OK hby
      go_wp2
      go_ret
      exact LR.yes _ HG.out
end Go.Proofs.YtgnampbbkaolmaaDoor
