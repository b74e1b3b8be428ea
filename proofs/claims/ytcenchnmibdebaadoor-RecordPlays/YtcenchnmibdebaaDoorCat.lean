/-
  What slices.Grow of nil, slices.Concat and bytes.Clone answer: a slice of the call's own that holds the parts' bytes, one behind the other; nothing that was there is changed.
-/
import Derived.Test.YtcenchnmibdebaaDoorBas
namespace Go.Proofs.YtcenchnmibdebaaDoor
open Go.RowKit
set_option maxRecDepth 100000

set_option maxHeartbeats 4000000 in
theorem grow_any (n : Nat) (w : World) (hbig : n ≤ 200000000000000) :
    Calls Tryd.prog 52 #[.slice none 0 0, .int .i64 n] w fun r w' => ∃ v, r = .returned v ∧ w'.ownsRow w.heap.size 5 1 v 0 [] ∧ Below w.heap.size w w' := by
  obtain ⟨i0, hi, hz0, hz1, hz2⟩ := info_parts info5'
  rcases Nat.eq_zero_or_pos n with rfl | hp
  · go_enter Tryd.func52, Tryd.ntmps52
    go_wp2
    go_ret
    exact ⟨_, rfl, World.ownsRow_nil _ _ _ _, Below.refl _ _⟩
  · have hrz : ∀ ty, (Builtin.append_ #[27, 3] ty #[.slice none 0 0, .int .i64 (n : Int)]).run Tryd.prog w =
      .ok (.slice (some ⟨w.heap.size, 0, none⟩) n (grownCap w n 0 5)) (w.drew.alloc (.cells (Builtin.zeroCells (Value.int .u8 0).cells n ++ Builtin.zeroCells (Value.int .u8 0).cells (grownCap w n 0 5 - n)) 5)) := fun ty => by
      have h := Lib.run_append_grow_zeros (P := Tryd.prog) w 27 3 ty 5 i0 (.int .u8 0) .i64 .i64 Tryd.underlying27 Tryd.underlying3 hi hz0 none 0 0 []
        (by rw [hz1]; exact run_firstCells_none w.drew 1 0 0 0) n hp (by omega) (by omega) (by omega) (by rw [hz2]; omega) (growslice_fits_wide (by omega) (by rw [hz2]; omega))
      simpa using h
    have hGn : n ≤ grownCap w n 0 5 := grownCap_ge w _ _ _
    have hGm := grownCap_le_maxLen w n 0 5 (by unfold maxLen; omega)
    obtain ⟨G, hG⟩ : ∃ G, G = grownCap w n 0 5 := ⟨_, rfl⟩
    rw [← hG] at hrz hGn hGm
    have hG63 : G ≤ 9223372036854775807 := by unfold maxLen at hGm; omega
    have HM : Hid (G ≤ maxLen) := hGm
    clear hG hGm
    go_enter Tryd.func52, Tryd.ntmps52
    go_wp2_with (at_builtin; refine Lib.wpList_append_run _ rfl _ _ _ _ rfl _ _ rfl rfl _ _ (hrz _) ?_)
    go_ret
    refine ⟨_, rfl, ?_, ?_⟩
    · exact World.ownsRow_made (base := w.heap.size) (e := 5) (size := 1) w.drew _ G (Nat.le_refl _) HM.out (by simp [size_zeroCells]; omega)
    · exact ((Below.refl _ w).alloc (Nat.le_refl _) _).drew

/-- A slice of slices of bytes, as Concat reads it. -/
def Parts (w : World) (p : Option Addr) (ZZ : List (List Int)) : Prop :=
  ZZ.length ≤ 9223372036854775807 ∧ (ZZ = [] ∨ ∃ b off, p = some ⟨b, off, none⟩ ∧ ∀ i, i < ZZ.length → ∃ v, w.cell? ⟨b, off + i, none⟩ = some v ∧ Sl w v (ZZ.getD i []))

/-- The first j parts' bytes, as cells, and how many they are. -/
def flen (ZZ : List (List Int)) (j : Nat) : Nat := (ZZ.take j).flatten.length
def fval (ZZ : List (List Int)) (j : Nat) : List Value := (ZZ.take j).flatten.map (Value.int .u8)

theorem flat_succ (ZZ : List (List Int)) (j : Nat) (h : j < ZZ.length) : (ZZ.take (j + 1)).flatten = (ZZ.take j).flatten ++ ZZ.getD j [] := by
  rw [List.take_add_one, List.getElem?_eq_getElem h, List.flatten_append]
  simp [List.getD, List.getElem?_eq_getElem h]

theorem flen_succ (ZZ : List (List Int)) (j : Nat) (h : j < ZZ.length) : flen ZZ (j + 1) = flen ZZ j + (ZZ.getD j []).length := by
  unfold flen; rw [flat_succ ZZ j h, List.length_append]
theorem fval_succ (ZZ : List (List Int)) (j : Nat) (h : j < ZZ.length) : fval ZZ (j + 1) = fval ZZ j ++ (ZZ.getD j []).map (Value.int .u8) := by
  unfold fval; rw [flat_succ ZZ j h, List.map_append]

theorem flen_le (ZZ : List (List Int)) (j : Nat) : flen ZZ j ≤ ZZ.flatten.length := by
  have h : ZZ.flatten = (ZZ.take j).flatten ++ (ZZ.drop j).flatten := by rw [← List.flatten_append, List.take_append_drop]
  unfold flen; rw [h, List.length_append]; omega
theorem flen_all (ZZ : List (List Int)) : flen ZZ ZZ.length = ZZ.flatten.length := by unfold flen; rw [List.take_length]
theorem fval_all (ZZ : List (List Int)) : fval ZZ ZZ.length = ZZ.flatten.map (Value.int .u8) := by unfold fval; rw [List.take_length]

set_option maxHeartbeats 4000000 in
theorem concat_aux (p : Option Addr) (kc : Nat) (ZZ : List (List Int)) (w : World) (hP : Parts w p ZZ) (k T : Nat) (hk : k = ZZ.length) (hT : T = flen ZZ ZZ.length) (hbig : T ≤ 200000000000000) :
    Calls Tryd.prog 33 #[.slice p k kc] w fun r w' => ∃ v, r = .returned v ∧ w'.ownsRow w.heap.size 5 1 v T (fval ZZ k) ∧ Below w.heap.size w w' := by
  obtain ⟨i0, hi, hz0, hz1, hz2⟩ := info_parts info5'
  obtain ⟨hk63, hP⟩ := hP
  have HP : Hid (ZZ = [] ∨ ∃ b off, p = some ⟨b, off, none⟩ ∧ ∀ i, i < ZZ.length → ∃ v, w.cell? ⟨b, off + i, none⟩ = some v ∧ Sl w v (ZZ.getD i [])) := hP
  have HK : Hid (k = ZZ.length) := hk
  have HT : Hid (T = flen ZZ k) := by rw [hk]; exact hT
  have HLE : Hid (∀ j, flen ZZ j ≤ T) := fun j => by rw [hT, flen_all]; exact flen_le ZZ j
  rw [← hk] at hk63
  clear hk hT hP
  go_enter Tryd.func33, Tryd.ntmps33
  go_wp2
  go_loop [3, 11] (fun n i => ∃ j : Nat, j ≤ k ∧ i = .int .i64 j ∧ n = .int .i64 (flen ZZ j : Nat)) (fun _ i => k - (intOf i).toNat)
  case atStart => exact ⟨0, by omega, rfl, rfl⟩
  case round =>
    obtain ⟨j, hj, rfl, rfl⟩ := hrel
    by_cases hlt : j < k
    · rcases HP.out with h0 | ⟨b, off, rfl, hall⟩
      · have := HK.out; rw [h0] at this; simp at this; omega
      · obtain ⟨v, hc, a, cap, rfl, h1, h2, h3, h4⟩ := hall j (by rw [← HK.out]; exact hlt)
        have hs := flen_succ ZZ j (by rw [← HK.out]; exact hlt)
        have hle := HLE.out (j + 1)
        have HS : Hid (flen ZZ (j + 1) = flen ZZ j + (ZZ.getD j []).length) := hs
        have hsum : flen ZZ j + (ZZ.getD j []).length ≤ 200000000000000 := by omega
        clear hs hle h4 hall h1 h2 h3
        generalize hL : (ZZ.getD j []).length = L at *
        have HL : Hid ((ZZ.getD j []).length = L) := hL
        clear hL
        go_wp2
        go_round
        case rel => exact ⟨j + 1, by omega, by go_num, by rw [HS.out]; go_num⟩
        case measure => simp [intOf]; omega
    · obtain rfl : j = k := by omega
      rw [← HT.out]
      have cg := grow_any T w hbig
      clear hlt
      go_wp2_with (go_at_call 52; refine cg.mono ?_; rintro e w1 ⟨v1, rfl, own1, bel1⟩)
      clear cg
      go_loopw [6, 27] (fun v i wr => ∃ m : Nat, m ≤ j ∧ i = .int .i64 m ∧ wr.ownsRow w.heap.size 5 1 v (flen ZZ m) (fval ZZ m) ∧ Below w.heap.size w wr) (fun _ i _ => j - (intOf i).toNat)
      case atStart => exact ⟨0, by omega, rfl, own1, bel1⟩
      case round =>
        clear own1 bel1
        obtain ⟨m, hm, rfl, hown, hbel⟩ := hrel
        by_cases hlt : m < j
        · rcases HP.out with h0 | ⟨b, off, rfl, hall⟩
          · have := HK.out; rw [h0] at this; simp at this; omega
          · obtain ⟨v, hc, a, cap, rfl, h1, h2, h3, h4⟩ := hall m (by rw [← HK.out]; exact hlt)
            have hcr : wr.cell? ⟨b, off + m, none⟩ = some (.slice a (ZZ.getD m []).length cap) := (hbel.cell (p := ⟨b, off + m, none⟩) (World.block_lt_of_cell? _ _ hc)).trans hc
            have HR : Hid (Row wr a (ZZ.getD m []).length cap (ZZ.getD m [])) := h4.kept hbel
            have HS : Hid (flen ZZ (m + 1) = flen ZZ m + (ZZ.getD m []).length) := flen_succ ZZ m (by rw [← HK.out]; exact hlt)
            have HV : Hid (fval ZZ (m + 1) = fval ZZ m ++ (ZZ.getD m []).map (Value.int .u8)) := fval_succ ZZ m (by rw [← HK.out]; exact hlt)
            have hsum : flen ZZ m + (ZZ.getD m []).length ≤ 200000000000000 := by have h5 := HLE.out (m + 1); rw [HS.out] at h5; omega
            have hob := own_base hown
            have hsz := hbel.size
            have hcap : Hid (a = none → cap = 0) := h3
            clear hc h4 hall h1 h2 h3
            generalize ZZ.getD m [] = X at *
            obtain ⟨L, hL⟩ : ∃ L, L = X.length := ⟨_, rfl⟩
            have HL : Hid (L = X.length) := hL
            rw [← hL] at hcr hsum
            clear hL
            cases a with
            | none =>
              obtain rfl : cap = 0 := hcap.out rfl
              have hX : X = [] := by
                rcases HR.out with h | ⟨_, _, _, e, _⟩
                · exact List.length_eq_zero_iff.1 h
                · cases e
              have hL0 : L = 0 := by rw [HL.out, hX]; rfl
              subst hL0
              go_wp2_with (at_builtin; refine wpList_append_own_none rfl _ _ 27 rfl w.heap.size 5 i0 1 Tryd.underlying27 hi _ _ _ rfl hown rfl ?_)
              go_wp2
              go_roundw
              case rel =>
                refine ⟨m + 1, by omega, ?_, ?_, hbel⟩
                · go_num
                · rw [HS.out, HV.out, hX]; simpa using hown
              case measure => simp [intOf]; omega
            | some x =>
              go_wp2_with (at_builtin; refine wpList_append_own_wide _ rfl _ _ 27 rfl w.heap.size 5 i0 (.int .u8 0) 1 1 Tryd.underlying27 hi hz0 hz1 hz2 rfl (by decide) _ _ _ rfl hown x L cap (X.map (Value.int .u8)) rfl (by rw [List.length_map, HL.out, Nat.mul_one]) (news_row HR.out) (ints_one X) (by unfold maxLen; omega) (by omega) hsz ?_)
              intro v' w2 hown' hgrow _
              have hbel' : Below w.heap.size w w2 := hbel.grown hgrow hsz hob
              clear hown hgrow hbel hob hsz
              go_wp2
              go_roundw
              case rel =>
                refine ⟨m + 1, by omega, ?_, ?_, hbel'⟩
                · go_num
                · rw [HS.out, HV.out, ← HL.out]; exact hown'
              case measure => simp [intOf]; omega
        · obtain rfl : m = j := by omega
          go_wp2
          go_ret
          exact ⟨_, rfl, by rw [HT.out]; exact hown, hbel⟩

theorem concat_any (p : Option Addr) (kc : Nat) (ZZ : List (List Int)) (w : World) (hP : Parts w p ZZ) (hbig : ZZ.flatten.length ≤ 200000000000000) :
    Calls Tryd.prog 33 #[.slice p ZZ.length kc] w fun r w' => ∃ v, r = .returned v ∧ w'.ownsRow w.heap.size 5 1 v ZZ.flatten.length (ZZ.flatten.map (Value.int .u8)) ∧ Below w.heap.size w w' := by
  have h := concat_aux p kc ZZ w hP ZZ.length (flen ZZ ZZ.length) rfl rfl (by rw [flen_all]; exact hbig)
  rw [flen_all, fval_all] at h
  exact h

theorem parts2 (w : World) (u1 u2 : Value) (X Y : List Int) (s1 : Sl w u1 X) (s2 : Sl w u2 Y) : Parts (w.alloc (.cells #[u1, u2] 27)) (some ⟨w.heap.size, 0, none⟩) [X, Y] := by
  have hb : Below w.heap.size w (w.alloc (.cells #[u1, u2] 27)) := (Below.refl _ _).alloc (Nat.le_refl _) _
  refine ⟨by simp, .inr ⟨_, 0, rfl, fun i hi => ?_⟩⟩
  have hi2 : i = 0 ∨ i = 1 := by simp at hi; omega
  rcases hi2 with rfl | rfl
  · exact ⟨u1, by rw [World.cell?_alloc_at _ _ _ _ rfl]; rfl, s1.kept hb⟩
  · exact ⟨u2, by rw [World.cell?_alloc_at _ _ _ _ rfl]; rfl, s2.kept hb⟩

theorem isnil (w : World) : (binOp BinOp.eql 27 (.slice none 0 0) (.slice none 0 0)).run Tryd.prog w = .ok (.bool true) w := by kernel_rfl
theorem notnil (x : Addr) (n c : Nat) (w : World) : (binOp BinOp.eql 27 (.slice (some x) n c) (.slice none 0 0)).run Tryd.prog w = .ok (.bool false) w := by kernel_rfl

set_option maxHeartbeats 1000000 in
/-- What bytes.Clone answers: a slice of its own of the same bytes, nil for nil. -/
theorem clone_any (v : Value) (xs : List Int) (w : World) (h : Sl w v xs) (hbig : xs.length ≤ 200000000000000) :
    Calls Tryd.prog 84 #[v] w fun r w' => ∃ v', r = .returned v' ∧ w'.ownsRow w.heap.size 5 1 v' xs.length (xs.map (Value.int .u8)) ∧ Below w.heap.size w w' := by
  obtain ⟨i0, hi, hz0, hz1, hz2⟩ := info_parts info5'
  obtain ⟨a, cap, rfl, h1, h2, h3, h4⟩ := h
  cases a with
  | none =>
    obtain rfl := h3 rfl
    obtain rfl : xs = [] := List.length_eq_zero_iff.1 (by omega)
    clear h1 h2 h3 h4 hbig
    have hnil := isnil w
    go_enter Tryd.func84, Tryd.ntmps84
    go_wp2
    go_ret
    exact ⟨_, rfl, World.ownsRow_nil _ _ _ _, Below.refl _ _⟩
  | some x =>
    have hown0 : (w.alloc (.cells #[] 5)).ownsRow w.heap.size 5 1 (.slice (some ⟨w.heap.size, 0, none⟩) 0 0) 0 [] := World.ownsRow_made (base := w.heap.size) (e := 5) (size := 1) w #[] 0 (Nat.le_refl _) (by unfold maxLen; omega) rfl
    have hb0 : Below w.heap.size w (w.alloc (.cells #[] 5)) := (Below.refl _ _).alloc (Nat.le_refl _) _
    have hnews := news_row (h4.kept hb0)
    obtain ⟨L, hL⟩ : ∃ L, L = xs.length := ⟨_, rfl⟩
    have HL : Hid (L = xs.length) := hL
    rw [← hL] at hbig h1 ⊢
    clear h3 h4 hL h2
    have hnil := notnil x L cap w
    go_enter Tryd.func84, Tryd.ntmps84
    go_wp2_with (at_builtin; refine wpList_append_own_wide _ rfl _ _ 27 rfl w.heap.size 5 i0 (.int .u8 0) 1 1 Tryd.underlying27 hi hz0 hz1 hz2 rfl (by decide) _ 0 [] rfl hown0 x L cap (xs.map (Value.int .u8)) rfl (by rw [List.length_map, HL.out, Nat.mul_one]) hnews (ints_one xs) (by unfold maxLen; omega) (by omega) (by simp) ?_)
    intro v' w2 hown' hgrow _
    have hbel' : Below w.heap.size w w2 := hb0.grown hgrow (by simp) (own_base hown0)
    try simp only [Nat.zero_add, List.nil_append] at hown'
    clear hown0 hgrow hb0 hnews
    go_wp2
    go_ret
    exact ⟨_, rfl, hown', hbel'⟩

end Go.Proofs.YtcenchnmibdebaaDoor
