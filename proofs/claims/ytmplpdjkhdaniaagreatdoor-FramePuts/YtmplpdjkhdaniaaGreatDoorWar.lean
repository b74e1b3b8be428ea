/-
  What the document's PutIn and Put answer: the number's bytes in the width, its mark added to the first one, in new memory; or the error that it names.
-/
import Derived.Deep.RegionWith
import Derived.Test.YtmplpdjkhdaniaaGreatDoorWag
namespace Go.Proofs.YtmplpdjkhdaniaaGreatDoor.Fi
open Go.RowKit
set_option maxRecDepth 100000
theorem info5 : (Tryz.prog.info? 5).map (fun i => (i.zero, i.size, i.bytes)) = some (some (.int .u8 0), 1, 1) := by kernel_rfl

/-- A number's bytes in a width, without the mark. -/
def rb (n : Int) : Nat → List Int
  | 1 => [n % 256]
  | 2 => [n / 256 % 256, n % 256]
  | 4 => [n / 16777216 % 256, n / 65536 % 256, n / 256 % 256, n % 256]
  | 8 => [n / 72057594037927936 % 256, n / 281474976710656 % 256, n / 1099511627776 % 256, n / 4294967296 % 256, n / 16777216 % 256, n / 65536 % 256, n / 256 % 256, n % 256]
  | _ => []

theorem and255 (x : Int) (h0 : 0 ≤ x) (h1 : x < 9223372036854775808) : bits .and .i64 x 255 % 256 = x % 256 := by
  have h : bits .and .i64 x 255 = x % 256 := bits_mask .i64 63 (by decide) wraps_i64 8 (by decide) x h0 (by omega)
  rw [h]; omega

theorem bits1 (w : World) : Calls Tryz.prog 76 #[.int .i64 1] w fun e w' => e = .returned (.int .u8 0) ∧ w' = w := by
  go_enter Tryz.func76, Tryz.ntmps76
  go_wp2
  go_ret
  exact ⟨rfl, rfl⟩
theorem bits2 (w : World) : Calls Tryz.prog 76 #[.int .i64 2] w fun e w' => e = .returned (.int .u8 64) ∧ w' = w := by
  go_enter Tryz.func76, Tryz.ntmps76
  go_wp2
  go_ret
  exact ⟨rfl, rfl⟩
theorem bits4 (w : World) : Calls Tryz.prog 76 #[.int .i64 4] w fun e w' => e = .returned (.int .u8 128) ∧ w' = w := by
  go_enter Tryz.func76, Tryz.ntmps76
  go_wp2
  go_ret
  exact ⟨rfl, rfl⟩
theorem bits8 (w : World) : Calls Tryz.prog 76 #[.int .i64 8] w fun e w' => e = .returned (.int .u8 192) ∧ w' = w := by
  go_enter Tryz.func76, Tryz.ntmps76
  go_wp2
  go_ret
  exact ⟨rfl, rfl⟩

/-- What is owned, behind a store into its first cell. -/
theorem owned_row {w : World} {base n : Nat} {v : Value} {xs : List Int} (h : w.ownsRow base 5 1 v n (xs.map (Value.int .u8))) (hn : 0 < n) :
    ∃ g cap, v = .slice (some ⟨g, 0, none⟩) n cap ∧ base ≤ g ∧ n ≤ cap ∧ cap ≤ maxLen ∧ w.frozen? ⟨g, 0, none⟩ = false ∧ ∀ i, i < n → w.cell? ⟨g, i, none⟩ = some (.int .u8 (xs.getD i 0)) := by
  have hl := h.1
  rcases h.2 with ⟨_, h0⟩ | ⟨g, cap, cur, rfl, hg, hh, hc, hm, hs, ht⟩
  · omega
  · simp at hl ht
    refine ⟨g, cap, rfl, hg, hc, hm, ?_, fun i hi => ?_⟩
    · unfold World.frozen?; rw [hh]; simp
    · have e : cur[i]? = some (.int .u8 (xs.getD i 0)) := by
        have := congrArg (·[i]?) ht
        simp only [List.getElem?_take, List.getElem?_map] at this
        rw [if_pos hi] at this
        have hi' : i < xs.length := by omega
        simpa [List.getElem?_eq_getElem hi', List.getD] using this
      unfold World.cell?; rw [hh]; simpa using e


/-- What is owned stays owned behind a store into its first cell. -/
theorem own_after {wr : World} {base g cap W : Nat} {y : Int} {zs ys : List Int} (h : wr.ownsRow base 5 1 (.slice (some ⟨g, 0, none⟩) W cap) W (zs.map (Value.int .u8))) (_hp : 0 < W) (hl : ys.length = W)
    (h0 : ys.getD 0 0 = y) (hr : ∀ i, 0 < i → i < W → ys.getD i 0 = zs.getD i 0) :
    (wr.setCell ⟨g, 0, none⟩ (.int .u8 y)).drew.ownsRow base 5 1 (.slice (some ⟨g, 0, none⟩) W cap) W (ys.map (Value.int .u8)) := by
  have hs := (h.stored 0 (.int .u8 y)).1
  have hzl : zs.length = W := by have := h.1; simpa using this
  have e : (zs.map (Value.int .u8)).set 0 (.int .u8 y) = ys.map (Value.int .u8) := by
    apply List.ext_getElem
    · simp; omega
    · intro i h1 h2
      have hi : i < ys.length := by simpa using h2
      rcases Nat.eq_zero_or_pos i with rfl | hpos
      · rw [List.getElem_set_self, List.getElem_map, ← h0]
        simp [List.getD, List.getElem?_eq_getElem hi]
      · rw [List.getElem_set_ne (by omega), List.getElem_map, List.getElem_map]
        have := hr i hpos (by omega)
        simp only [List.getD, List.getElem?_eq_getElem hi, List.getElem?_eq_getElem (show i < zs.length by omega), Option.getD_some] at this
        rw [this]
  rw [e] at hs
  exact hs

set_option maxHeartbeats 2000000 in
theorem rputIn1 (n : Int) (w : World) (h1 : 0 ≤ n) (h2 : n < 64) :
    Calls Tryz.prog 61 #[.int .i64 n, .int .i64 1] w fun e w' => ∃ g cap, e = .returned (.tuple #[.slice (some ⟨g, 0, none⟩) 1 cap, .int .i64 0]) ∧ w'.ownsRow w.heap.size 5 1 (.slice (some ⟨g, 0, none⟩) 1 cap) 1 ((pb n 1).map (Value.int .u8)) ∧ Below w.heap.size w w' := by
  obtain ⟨i0, hi, hz0, hz1, hz2⟩ := info_parts info5

  go_enter Tryz.func61, Tryz.ntmps61
  go_wp2
  go_loopw [6, 7] (fun v i wr => ∃ (k : Nat) (x : Int), k ≤ 1 ∧ x = 0 - k ∧ i = .int .i64 x ∧ wr.ownsRow w.heap.size 5 1 v k (((rb n 1).take k).map (Value.int .u8)) ∧ Below w.heap.size w wr)
    (fun _ i _ => (intOf i + 1).toNat)
  case atStart => exact ⟨0, 0, by omega, rfl, rfl, World.ownsRow_nil _ _ _ _, Below.refl _ _⟩
  case round =>
    obtain ⟨k, x, hk, hx, rfl, hown, hbel⟩ := hrel
    rcases (show k = 0 ∨ k = 1 by omega) with rfl | rfl
    · obtain rfl : x = 0 := by omega
      clear hx
      have hsz := hbel.size
      have hob := own_base hown
      go_wp2_with (at_builtin; refine wpList_append_own _ rfl _ _ 34 rfl w.heap.size 5 i0 (.int .u8 0) 1 1 Tryz.underlying34 hi hz0 hz1 hz2 rfl (by decide) _ _ _ rfl (hown.alloc _) ⟨wr.heap.size, 0, none⟩ 1 1 [.int .u8 (n % 256)] rfl rfl ?c1 ?c2 ?c3 ?c4 ?c5 ?_)
      case c1 =>
        intro j u hj
        match j, hj with
        | 0, hj => simp at hj; subst hj; simp [Addr.add]; exact and255 _ (by omega) (by omega)
      case c2 => intro u hu; simp at hu; subst hu; rfl
      case c3 => unfold maxLen; omega
      case c4 => omega
      case c5 => simp; omega
      · intro v' w1 hown' hgrow _
        have hbel' : Below w.heap.size w w1 := (hbel.alloc hsz _).grown hgrow (by simp; omega) hob
        clear hown hgrow hbel hob hsz
        go_wp2
        go_roundw
        case rel => exact ⟨_, _, _, _, _, _, _, _, _, _, _, _, _, _, _, ⟨1, -1, by omega, rfl, rfl, hown', hbel'⟩, rfl⟩
        case measure => simp [intOf]
    · obtain rfl : x = -1 := by omega
      obtain ⟨g, cap, rfl, hg, hcap, hmax, hfr, hcell⟩ := owned_row hown (by omega)
      have c0 : wr.cell? ⟨g, 0, none⟩ = some (.int .u8 (n % 256)) := hcell 0 (by omega)
      have HO : Hid (wr.ownsRow w.heap.size 5 1 (.slice (some ⟨g, 0, none⟩) 1 cap) 1 (((rb n 1).take 1).map (Value.int .u8))) := hown
      clear hown hcell hx hk
      go_wp2
      go_region_with (go_at_call 76; refine (bits1 _).mono ?_; rintro e w' ⟨rfl, rfl⟩)
      all_goals
        go_wp2
        go_ret2
        refine ⟨g, cap, rfl, own_after HO.out (by omega) (pb_len n 1 (by unfold IsW; omega)) ?_ ?_, (hbel.setCell hg _).drew⟩
        · rw [IntKind.wrap_u8]; simp [pb]; omega
        · intro i hi0 hiW
          rcases (show i = 1 by omega) with rfl <;> (simp [pb, rb]; try omega)
set_option maxHeartbeats 2000000 in
theorem rputIn2 (n : Int) (w : World) (h1 : 0 ≤ n) (h2 : n < 16384) :
    Calls Tryz.prog 61 #[.int .i64 n, .int .i64 2] w fun e w' => ∃ g cap, e = .returned (.tuple #[.slice (some ⟨g, 0, none⟩) 2 cap, .int .i64 0]) ∧ w'.ownsRow w.heap.size 5 1 (.slice (some ⟨g, 0, none⟩) 2 cap) 2 ((pb n 2).map (Value.int .u8)) ∧ Below w.heap.size w w' := by
  obtain ⟨i0, hi, hz0, hz1, hz2⟩ := info_parts info5

  go_enter Tryz.func61, Tryz.ntmps61
  go_wp2
  go_loopw [6, 7] (fun v i wr => ∃ (k : Nat) (x : Int), k ≤ 2 ∧ x = 1 - k ∧ i = .int .i64 x ∧ wr.ownsRow w.heap.size 5 1 v k (((rb n 2).take k).map (Value.int .u8)) ∧ Below w.heap.size w wr)
    (fun _ i _ => (intOf i + 1).toNat)
  case atStart => exact ⟨0, 1, by omega, rfl, rfl, World.ownsRow_nil _ _ _ _, Below.refl _ _⟩
  case round =>
    obtain ⟨k, x, hk, hx, rfl, hown, hbel⟩ := hrel
    rcases (show k = 0 ∨ k = 1 ∨ k = 2 by omega) with rfl | rfl | rfl
    · obtain rfl : x = 1 := by omega
      clear hx
      have hsz := hbel.size
      have hob := own_base hown
      go_wp2_with (at_builtin; refine wpList_append_own _ rfl _ _ 34 rfl w.heap.size 5 i0 (.int .u8 0) 1 1 Tryz.underlying34 hi hz0 hz1 hz2 rfl (by decide) _ _ _ rfl (hown.alloc _) ⟨wr.heap.size, 0, none⟩ 1 1 [.int .u8 (n / 256 % 256)] rfl rfl ?c1 ?c2 ?c3 ?c4 ?c5 ?_)
      case c1 =>
        intro j u hj
        match j, hj with
        | 0, hj => simp at hj; subst hj; simp [Addr.add]; exact and255 _ (by omega) (by omega)
      case c2 => intro u hu; simp at hu; subst hu; rfl
      case c3 => unfold maxLen; omega
      case c4 => omega
      case c5 => simp; omega
      · intro v' w1 hown' hgrow _
        have hbel' : Below w.heap.size w w1 := (hbel.alloc hsz _).grown hgrow (by simp; omega) hob
        clear hown hgrow hbel hob hsz
        go_wp2
        go_roundw
        case rel => exact ⟨_, _, _, _, _, _, _, _, _, _, _, _, _, _, _, ⟨1, 0, by omega, rfl, rfl, hown', hbel'⟩, rfl⟩
        case measure => simp [intOf]
    · obtain rfl : x = 0 := by omega
      clear hx
      have hsz := hbel.size
      have hob := own_base hown
      go_wp2_with (at_builtin; refine wpList_append_own _ rfl _ _ 34 rfl w.heap.size 5 i0 (.int .u8 0) 1 1 Tryz.underlying34 hi hz0 hz1 hz2 rfl (by decide) _ _ _ rfl (hown.alloc _) ⟨wr.heap.size, 0, none⟩ 1 1 [.int .u8 (n % 256)] rfl rfl ?c1 ?c2 ?c3 ?c4 ?c5 ?_)
      case c1 =>
        intro j u hj
        match j, hj with
        | 0, hj => simp at hj; subst hj; simp [Addr.add]; exact and255 _ (by omega) (by omega)
      case c2 => intro u hu; simp at hu; subst hu; rfl
      case c3 => unfold maxLen; omega
      case c4 => omega
      case c5 => simp; omega
      · intro v' w1 hown' hgrow _
        have hbel' : Below w.heap.size w w1 := (hbel.alloc hsz _).grown hgrow (by simp; omega) hob
        clear hown hgrow hbel hob hsz
        go_wp2
        go_roundw
        case rel => exact ⟨_, _, _, _, _, _, _, _, _, _, _, _, _, _, _, ⟨2, -1, by omega, rfl, rfl, hown', hbel'⟩, rfl⟩
        case measure => simp [intOf]
    · obtain rfl : x = -1 := by omega
      obtain ⟨g, cap, rfl, hg, hcap, hmax, hfr, hcell⟩ := owned_row hown (by omega)
      have c0 : wr.cell? ⟨g, 0, none⟩ = some (.int .u8 (n / 256 % 256)) := hcell 0 (by omega)
      have HO : Hid (wr.ownsRow w.heap.size 5 1 (.slice (some ⟨g, 0, none⟩) 2 cap) 2 (((rb n 2).take 2).map (Value.int .u8))) := hown
      clear hown hcell hx hk
      go_wp2
      go_region_with (go_at_call 76; refine (bits2 _).mono ?_; rintro e w' ⟨rfl, rfl⟩)
      all_goals
        go_wp2
        go_ret2
        refine ⟨g, cap, rfl, own_after HO.out (by omega) (pb_len n 2 (by unfold IsW; omega)) ?_ ?_, (hbel.setCell hg _).drew⟩
        · rw [IntKind.wrap_u8]; simp [pb]; omega
        · intro i hi0 hiW
          rcases (show i = 1 by omega) with rfl <;> (simp [pb, rb]; try omega)
set_option maxHeartbeats 2000000 in
theorem rputIn4 (n : Int) (w : World) (h1 : 0 ≤ n) (h2 : n < 1073741824) :
    Calls Tryz.prog 61 #[.int .i64 n, .int .i64 4] w fun e w' => ∃ g cap, e = .returned (.tuple #[.slice (some ⟨g, 0, none⟩) 4 cap, .int .i64 0]) ∧ w'.ownsRow w.heap.size 5 1 (.slice (some ⟨g, 0, none⟩) 4 cap) 4 ((pb n 4).map (Value.int .u8)) ∧ Below w.heap.size w w' := by
  obtain ⟨i0, hi, hz0, hz1, hz2⟩ := info_parts info5

  go_enter Tryz.func61, Tryz.ntmps61
  go_wp2
  go_loopw [6, 7] (fun v i wr => ∃ (k : Nat) (x : Int), k ≤ 4 ∧ x = 3 - k ∧ i = .int .i64 x ∧ wr.ownsRow w.heap.size 5 1 v k (((rb n 4).take k).map (Value.int .u8)) ∧ Below w.heap.size w wr)
    (fun _ i _ => (intOf i + 1).toNat)
  case atStart => exact ⟨0, 3, by omega, rfl, rfl, World.ownsRow_nil _ _ _ _, Below.refl _ _⟩
  case round =>
    obtain ⟨k, x, hk, hx, rfl, hown, hbel⟩ := hrel
    rcases (show k = 0 ∨ k = 1 ∨ k = 2 ∨ k = 3 ∨ k = 4 by omega) with rfl | rfl | rfl | rfl | rfl
    · obtain rfl : x = 3 := by omega
      clear hx
      have hsz := hbel.size
      have hob := own_base hown
      go_wp2_with (at_builtin; refine wpList_append_own _ rfl _ _ 34 rfl w.heap.size 5 i0 (.int .u8 0) 1 1 Tryz.underlying34 hi hz0 hz1 hz2 rfl (by decide) _ _ _ rfl (hown.alloc _) ⟨wr.heap.size, 0, none⟩ 1 1 [.int .u8 (n / 16777216 % 256)] rfl rfl ?c1 ?c2 ?c3 ?c4 ?c5 ?_)
      case c1 =>
        intro j u hj
        match j, hj with
        | 0, hj => simp at hj; subst hj; simp [Addr.add]; exact and255 _ (by omega) (by omega)
      case c2 => intro u hu; simp at hu; subst hu; rfl
      case c3 => unfold maxLen; omega
      case c4 => omega
      case c5 => simp; omega
      · intro v' w1 hown' hgrow _
        have hbel' : Below w.heap.size w w1 := (hbel.alloc hsz _).grown hgrow (by simp; omega) hob
        clear hown hgrow hbel hob hsz
        go_wp2
        go_roundw
        case rel => exact ⟨_, _, _, _, _, _, _, _, _, _, _, _, _, _, _, ⟨1, 2, by omega, rfl, rfl, hown', hbel'⟩, rfl⟩
        case measure => simp [intOf]
    · obtain rfl : x = 2 := by omega
      clear hx
      have hsz := hbel.size
      have hob := own_base hown
      go_wp2_with (at_builtin; refine wpList_append_own _ rfl _ _ 34 rfl w.heap.size 5 i0 (.int .u8 0) 1 1 Tryz.underlying34 hi hz0 hz1 hz2 rfl (by decide) _ _ _ rfl (hown.alloc _) ⟨wr.heap.size, 0, none⟩ 1 1 [.int .u8 (n / 65536 % 256)] rfl rfl ?c1 ?c2 ?c3 ?c4 ?c5 ?_)
      case c1 =>
        intro j u hj
        match j, hj with
        | 0, hj => simp at hj; subst hj; simp [Addr.add]; exact and255 _ (by omega) (by omega)
      case c2 => intro u hu; simp at hu; subst hu; rfl
      case c3 => unfold maxLen; omega
      case c4 => omega
      case c5 => simp; omega
      · intro v' w1 hown' hgrow _
        have hbel' : Below w.heap.size w w1 := (hbel.alloc hsz _).grown hgrow (by simp; omega) hob
        clear hown hgrow hbel hob hsz
        go_wp2
        go_roundw
        case rel => exact ⟨_, _, _, _, _, _, _, _, _, _, _, _, _, _, _, ⟨2, 1, by omega, rfl, rfl, hown', hbel'⟩, rfl⟩
        case measure => simp [intOf]
    · obtain rfl : x = 1 := by omega
      clear hx
      have hsz := hbel.size
      have hob := own_base hown
      go_wp2_with (at_builtin; refine wpList_append_own _ rfl _ _ 34 rfl w.heap.size 5 i0 (.int .u8 0) 1 1 Tryz.underlying34 hi hz0 hz1 hz2 rfl (by decide) _ _ _ rfl (hown.alloc _) ⟨wr.heap.size, 0, none⟩ 1 1 [.int .u8 (n / 256 % 256)] rfl rfl ?c1 ?c2 ?c3 ?c4 ?c5 ?_)
      case c1 =>
        intro j u hj
        match j, hj with
        | 0, hj => simp at hj; subst hj; simp [Addr.add]; exact and255 _ (by omega) (by omega)
      case c2 => intro u hu; simp at hu; subst hu; rfl
      case c3 => unfold maxLen; omega
      case c4 => omega
      case c5 => simp; omega
      · intro v' w1 hown' hgrow _
        have hbel' : Below w.heap.size w w1 := (hbel.alloc hsz _).grown hgrow (by simp; omega) hob
        clear hown hgrow hbel hob hsz
        go_wp2
        go_roundw
        case rel => exact ⟨_, _, _, _, _, _, _, _, _, _, _, _, _, _, _, ⟨3, 0, by omega, rfl, rfl, hown', hbel'⟩, rfl⟩
        case measure => simp [intOf]
    · obtain rfl : x = 0 := by omega
      clear hx
      have hsz := hbel.size
      have hob := own_base hown
      go_wp2_with (at_builtin; refine wpList_append_own _ rfl _ _ 34 rfl w.heap.size 5 i0 (.int .u8 0) 1 1 Tryz.underlying34 hi hz0 hz1 hz2 rfl (by decide) _ _ _ rfl (hown.alloc _) ⟨wr.heap.size, 0, none⟩ 1 1 [.int .u8 (n % 256)] rfl rfl ?c1 ?c2 ?c3 ?c4 ?c5 ?_)
      case c1 =>
        intro j u hj
        match j, hj with
        | 0, hj => simp at hj; subst hj; simp [Addr.add]; exact and255 _ (by omega) (by omega)
      case c2 => intro u hu; simp at hu; subst hu; rfl
      case c3 => unfold maxLen; omega
      case c4 => omega
      case c5 => simp; omega
      · intro v' w1 hown' hgrow _
        have hbel' : Below w.heap.size w w1 := (hbel.alloc hsz _).grown hgrow (by simp; omega) hob
        clear hown hgrow hbel hob hsz
        go_wp2
        go_roundw
        case rel => exact ⟨_, _, _, _, _, _, _, _, _, _, _, _, _, _, _, ⟨4, -1, by omega, rfl, rfl, hown', hbel'⟩, rfl⟩
        case measure => simp [intOf]
    · obtain rfl : x = -1 := by omega
      obtain ⟨g, cap, rfl, hg, hcap, hmax, hfr, hcell⟩ := owned_row hown (by omega)
      have c0 : wr.cell? ⟨g, 0, none⟩ = some (.int .u8 (n / 16777216 % 256)) := hcell 0 (by omega)
      have HO : Hid (wr.ownsRow w.heap.size 5 1 (.slice (some ⟨g, 0, none⟩) 4 cap) 4 (((rb n 4).take 4).map (Value.int .u8))) := hown
      clear hown hcell hx hk
      go_wp2
      go_region_with (go_at_call 76; refine (bits4 _).mono ?_; rintro e w' ⟨rfl, rfl⟩)
      all_goals
        go_wp2
        go_ret2
        refine ⟨g, cap, rfl, own_after HO.out (by omega) (pb_len n 4 (by unfold IsW; omega)) ?_ ?_, (hbel.setCell hg _).drew⟩
        · rw [IntKind.wrap_u8]; simp [pb]; omega
        · intro i hi0 hiW
          rcases (show i = 1 ∨ i = 2 ∨ i = 3 by omega) with rfl | rfl | rfl <;> (simp [pb, rb]; try omega)
set_option maxHeartbeats 2000000 in
theorem rputIn8 (n : Int) (w : World) (h1 : 0 ≤ n) (h2 : n < 4611686018427387904) :
    Calls Tryz.prog 61 #[.int .i64 n, .int .i64 8] w fun e w' => ∃ g cap, e = .returned (.tuple #[.slice (some ⟨g, 0, none⟩) 8 cap, .int .i64 0]) ∧ w'.ownsRow w.heap.size 5 1 (.slice (some ⟨g, 0, none⟩) 8 cap) 8 ((pb n 8).map (Value.int .u8)) ∧ Below w.heap.size w w' := by
  obtain ⟨i0, hi, hz0, hz1, hz2⟩ := info_parts info5
  have hmost : decide (n ≤ 4611686018427387903) = true := by simp; omega
  go_enter Tryz.func61, Tryz.ntmps61
  go_wp2
  go_loopw [6, 7] (fun v i wr => ∃ (k : Nat) (x : Int), k ≤ 8 ∧ x = 7 - k ∧ i = .int .i64 x ∧ wr.ownsRow w.heap.size 5 1 v k (((rb n 8).take k).map (Value.int .u8)) ∧ Below w.heap.size w wr)
    (fun _ i _ => (intOf i + 1).toNat)
  case atStart => exact ⟨0, 7, by omega, rfl, rfl, World.ownsRow_nil _ _ _ _, Below.refl _ _⟩
  case round =>
    obtain ⟨k, x, hk, hx, rfl, hown, hbel⟩ := hrel
    rcases (show k = 0 ∨ k = 1 ∨ k = 2 ∨ k = 3 ∨ k = 4 ∨ k = 5 ∨ k = 6 ∨ k = 7 ∨ k = 8 by omega) with rfl | rfl | rfl | rfl | rfl | rfl | rfl | rfl | rfl
    · obtain rfl : x = 7 := by omega
      clear hx
      have hsz := hbel.size
      have hob := own_base hown
      go_wp2_with (at_builtin; refine wpList_append_own _ rfl _ _ 34 rfl w.heap.size 5 i0 (.int .u8 0) 1 1 Tryz.underlying34 hi hz0 hz1 hz2 rfl (by decide) _ _ _ rfl (hown.alloc _) ⟨wr.heap.size, 0, none⟩ 1 1 [.int .u8 (n / 72057594037927936 % 256)] rfl rfl ?c1 ?c2 ?c3 ?c4 ?c5 ?_)
      case c1 =>
        intro j u hj
        match j, hj with
        | 0, hj => simp at hj; subst hj; simp [Addr.add]; exact and255 _ (by omega) (by omega)
      case c2 => intro u hu; simp at hu; subst hu; rfl
      case c3 => unfold maxLen; omega
      case c4 => omega
      case c5 => simp; omega
      · intro v' w1 hown' hgrow _
        have hbel' : Below w.heap.size w w1 := (hbel.alloc hsz _).grown hgrow (by simp; omega) hob
        clear hown hgrow hbel hob hsz
        go_wp2
        go_roundw
        case rel => exact ⟨_, _, _, _, _, _, _, _, _, _, _, _, _, _, _, ⟨1, 6, by omega, rfl, rfl, hown', hbel'⟩, rfl⟩
        case measure => simp [intOf]
    · obtain rfl : x = 6 := by omega
      clear hx
      have hsz := hbel.size
      have hob := own_base hown
      go_wp2_with (at_builtin; refine wpList_append_own _ rfl _ _ 34 rfl w.heap.size 5 i0 (.int .u8 0) 1 1 Tryz.underlying34 hi hz0 hz1 hz2 rfl (by decide) _ _ _ rfl (hown.alloc _) ⟨wr.heap.size, 0, none⟩ 1 1 [.int .u8 (n / 281474976710656 % 256)] rfl rfl ?c1 ?c2 ?c3 ?c4 ?c5 ?_)
      case c1 =>
        intro j u hj
        match j, hj with
        | 0, hj => simp at hj; subst hj; simp [Addr.add]; exact and255 _ (by omega) (by omega)
      case c2 => intro u hu; simp at hu; subst hu; rfl
      case c3 => unfold maxLen; omega
      case c4 => omega
      case c5 => simp; omega
      · intro v' w1 hown' hgrow _
        have hbel' : Below w.heap.size w w1 := (hbel.alloc hsz _).grown hgrow (by simp; omega) hob
        clear hown hgrow hbel hob hsz
        go_wp2
        go_roundw
        case rel => exact ⟨_, _, _, _, _, _, _, _, _, _, _, _, _, _, _, ⟨2, 5, by omega, rfl, rfl, hown', hbel'⟩, rfl⟩
        case measure => simp [intOf]
    · obtain rfl : x = 5 := by omega
      clear hx
      have hsz := hbel.size
      have hob := own_base hown
      go_wp2_with (at_builtin; refine wpList_append_own _ rfl _ _ 34 rfl w.heap.size 5 i0 (.int .u8 0) 1 1 Tryz.underlying34 hi hz0 hz1 hz2 rfl (by decide) _ _ _ rfl (hown.alloc _) ⟨wr.heap.size, 0, none⟩ 1 1 [.int .u8 (n / 1099511627776 % 256)] rfl rfl ?c1 ?c2 ?c3 ?c4 ?c5 ?_)
      case c1 =>
        intro j u hj
        match j, hj with
        | 0, hj => simp at hj; subst hj; simp [Addr.add]; exact and255 _ (by omega) (by omega)
      case c2 => intro u hu; simp at hu; subst hu; rfl
      case c3 => unfold maxLen; omega
      case c4 => omega
      case c5 => simp; omega
      · intro v' w1 hown' hgrow _
        have hbel' : Below w.heap.size w w1 := (hbel.alloc hsz _).grown hgrow (by simp; omega) hob
        clear hown hgrow hbel hob hsz
        go_wp2
        go_roundw
        case rel => exact ⟨_, _, _, _, _, _, _, _, _, _, _, _, _, _, _, ⟨3, 4, by omega, rfl, rfl, hown', hbel'⟩, rfl⟩
        case measure => simp [intOf]
    · obtain rfl : x = 4 := by omega
      clear hx
      have hsz := hbel.size
      have hob := own_base hown
      go_wp2_with (at_builtin; refine wpList_append_own _ rfl _ _ 34 rfl w.heap.size 5 i0 (.int .u8 0) 1 1 Tryz.underlying34 hi hz0 hz1 hz2 rfl (by decide) _ _ _ rfl (hown.alloc _) ⟨wr.heap.size, 0, none⟩ 1 1 [.int .u8 (n / 4294967296 % 256)] rfl rfl ?c1 ?c2 ?c3 ?c4 ?c5 ?_)
      case c1 =>
        intro j u hj
        match j, hj with
        | 0, hj => simp at hj; subst hj; simp [Addr.add]; exact and255 _ (by omega) (by omega)
      case c2 => intro u hu; simp at hu; subst hu; rfl
      case c3 => unfold maxLen; omega
      case c4 => omega
      case c5 => simp; omega
      · intro v' w1 hown' hgrow _
        have hbel' : Below w.heap.size w w1 := (hbel.alloc hsz _).grown hgrow (by simp; omega) hob
        clear hown hgrow hbel hob hsz
        go_wp2
        go_roundw
        case rel => exact ⟨_, _, _, _, _, _, _, _, _, _, _, _, _, _, _, ⟨4, 3, by omega, rfl, rfl, hown', hbel'⟩, rfl⟩
        case measure => simp [intOf]
    · obtain rfl : x = 3 := by omega
      clear hx
      have hsz := hbel.size
      have hob := own_base hown
      go_wp2_with (at_builtin; refine wpList_append_own _ rfl _ _ 34 rfl w.heap.size 5 i0 (.int .u8 0) 1 1 Tryz.underlying34 hi hz0 hz1 hz2 rfl (by decide) _ _ _ rfl (hown.alloc _) ⟨wr.heap.size, 0, none⟩ 1 1 [.int .u8 (n / 16777216 % 256)] rfl rfl ?c1 ?c2 ?c3 ?c4 ?c5 ?_)
      case c1 =>
        intro j u hj
        match j, hj with
        | 0, hj => simp at hj; subst hj; simp [Addr.add]; exact and255 _ (by omega) (by omega)
      case c2 => intro u hu; simp at hu; subst hu; rfl
      case c3 => unfold maxLen; omega
      case c4 => omega
      case c5 => simp; omega
      · intro v' w1 hown' hgrow _
        have hbel' : Below w.heap.size w w1 := (hbel.alloc hsz _).grown hgrow (by simp; omega) hob
        clear hown hgrow hbel hob hsz
        go_wp2
        go_roundw
        case rel => exact ⟨_, _, _, _, _, _, _, _, _, _, _, _, _, _, _, ⟨5, 2, by omega, rfl, rfl, hown', hbel'⟩, rfl⟩
        case measure => simp [intOf]
    · obtain rfl : x = 2 := by omega
      clear hx
      have hsz := hbel.size
      have hob := own_base hown
      go_wp2_with (at_builtin; refine wpList_append_own _ rfl _ _ 34 rfl w.heap.size 5 i0 (.int .u8 0) 1 1 Tryz.underlying34 hi hz0 hz1 hz2 rfl (by decide) _ _ _ rfl (hown.alloc _) ⟨wr.heap.size, 0, none⟩ 1 1 [.int .u8 (n / 65536 % 256)] rfl rfl ?c1 ?c2 ?c3 ?c4 ?c5 ?_)
      case c1 =>
        intro j u hj
        match j, hj with
        | 0, hj => simp at hj; subst hj; simp [Addr.add]; exact and255 _ (by omega) (by omega)
      case c2 => intro u hu; simp at hu; subst hu; rfl
      case c3 => unfold maxLen; omega
      case c4 => omega
      case c5 => simp; omega
      · intro v' w1 hown' hgrow _
        have hbel' : Below w.heap.size w w1 := (hbel.alloc hsz _).grown hgrow (by simp; omega) hob
        clear hown hgrow hbel hob hsz
        go_wp2
        go_roundw
        case rel => exact ⟨_, _, _, _, _, _, _, _, _, _, _, _, _, _, _, ⟨6, 1, by omega, rfl, rfl, hown', hbel'⟩, rfl⟩
        case measure => simp [intOf]
    · obtain rfl : x = 1 := by omega
      clear hx
      have hsz := hbel.size
      have hob := own_base hown
      go_wp2_with (at_builtin; refine wpList_append_own _ rfl _ _ 34 rfl w.heap.size 5 i0 (.int .u8 0) 1 1 Tryz.underlying34 hi hz0 hz1 hz2 rfl (by decide) _ _ _ rfl (hown.alloc _) ⟨wr.heap.size, 0, none⟩ 1 1 [.int .u8 (n / 256 % 256)] rfl rfl ?c1 ?c2 ?c3 ?c4 ?c5 ?_)
      case c1 =>
        intro j u hj
        match j, hj with
        | 0, hj => simp at hj; subst hj; simp [Addr.add]; exact and255 _ (by omega) (by omega)
      case c2 => intro u hu; simp at hu; subst hu; rfl
      case c3 => unfold maxLen; omega
      case c4 => omega
      case c5 => simp; omega
      · intro v' w1 hown' hgrow _
        have hbel' : Below w.heap.size w w1 := (hbel.alloc hsz _).grown hgrow (by simp; omega) hob
        clear hown hgrow hbel hob hsz
        go_wp2
        go_roundw
        case rel => exact ⟨_, _, _, _, _, _, _, _, _, _, _, _, _, _, _, ⟨7, 0, by omega, rfl, rfl, hown', hbel'⟩, rfl⟩
        case measure => simp [intOf]
    · obtain rfl : x = 0 := by omega
      clear hx
      have hsz := hbel.size
      have hob := own_base hown
      go_wp2_with (at_builtin; refine wpList_append_own _ rfl _ _ 34 rfl w.heap.size 5 i0 (.int .u8 0) 1 1 Tryz.underlying34 hi hz0 hz1 hz2 rfl (by decide) _ _ _ rfl (hown.alloc _) ⟨wr.heap.size, 0, none⟩ 1 1 [.int .u8 (n % 256)] rfl rfl ?c1 ?c2 ?c3 ?c4 ?c5 ?_)
      case c1 =>
        intro j u hj
        match j, hj with
        | 0, hj => simp at hj; subst hj; simp [Addr.add]; exact and255 _ (by omega) (by omega)
      case c2 => intro u hu; simp at hu; subst hu; rfl
      case c3 => unfold maxLen; omega
      case c4 => omega
      case c5 => simp; omega
      · intro v' w1 hown' hgrow _
        have hbel' : Below w.heap.size w w1 := (hbel.alloc hsz _).grown hgrow (by simp; omega) hob
        clear hown hgrow hbel hob hsz
        go_wp2
        go_roundw
        case rel => exact ⟨_, _, _, _, _, _, _, _, _, _, _, _, _, _, _, ⟨8, -1, by omega, rfl, rfl, hown', hbel'⟩, rfl⟩
        case measure => simp [intOf]
    · obtain rfl : x = -1 := by omega
      obtain ⟨g, cap, rfl, hg, hcap, hmax, hfr, hcell⟩ := owned_row hown (by omega)
      have c0 : wr.cell? ⟨g, 0, none⟩ = some (.int .u8 (n / 72057594037927936 % 256)) := hcell 0 (by omega)
      have HO : Hid (wr.ownsRow w.heap.size 5 1 (.slice (some ⟨g, 0, none⟩) 8 cap) 8 (((rb n 8).take 8).map (Value.int .u8))) := hown
      clear hown hcell hx hk
      go_wp2
      go_region_with (go_at_call 76; refine (bits8 _).mono ?_; rintro e w' ⟨rfl, rfl⟩)
      all_goals
        go_wp2
        go_ret2
        refine ⟨g, cap, rfl, own_after HO.out (by omega) (pb_len n 8 (by unfold IsW; omega)) ?_ ?_, (hbel.setCell hg _).drew⟩
        · rw [IntKind.wrap_u8]; simp [pb]; omega
        · intro i hi0 hiW
          rcases (show i = 1 ∨ i = 2 ∨ i = 3 ∨ i = 4 ∨ i = 5 ∨ i = 6 ∨ i = 7 by omega) with rfl | rfl | rfl | rfl | rfl | rfl | rfl <;> (simp [pb, rb]; try omega)

theorem rputIn_own (n : Int) (W : Nat) (w : World) (hW : IsW W) (h1 : 0 ≤ n) (h2 : n < lim W) :
    Calls Tryz.prog 61 #[.int .i64 n, .int .i64 W] w fun e w' => ∃ g cap, e = .returned (.tuple #[.slice (some ⟨g, 0, none⟩) W cap, .int .i64 0]) ∧ w'.ownsRow w.heap.size 5 1 (.slice (some ⟨g, 0, none⟩) W cap) W ((pb n W).map (Value.int .u8)) ∧ Below w.heap.size w w' := by
  rcases hW with rfl | rfl | rfl | rfl
  · exact rputIn1 n w h1 h2
  · exact rputIn2 n w h1 h2
  · exact rputIn4 n w h1 h2
  · exact rputIn8 n w h1 h2

set_option maxHeartbeats 1000000 in
theorem rput_no (n : Int) (w : World) (h : lenOf n = 0) :
    Calls Tryz.prog 39 #[.int .i64 n] w fun e w' => e = .returned (.tuple #[.slice none 0 0, .int .i64 13]) ∧ w' = w := by
  go_enter Tryz.func39, Tryz.ntmps39
  go_wp2_with (go_at_call 60; refine (rlen_any n _).mono ?_; rintro e w' ⟨rfl, rfl⟩)
  go_ret2
  exact ⟨rfl, rfl⟩

set_option maxHeartbeats 1000000 in
theorem rput_own (n : Int) (W : Nat) (w : World) (h : lenOf n = W) (h0 : W ≠ 0) :
    Calls Tryz.prog 39 #[.int .i64 n] w fun e w' => ∃ g cap, e = .returned (.tuple #[.slice (some ⟨g, 0, none⟩) W cap, .int .i64 0]) ∧ w'.ownsRow w.heap.size 5 1 (.slice (some ⟨g, 0, none⟩) W cap) W ((pb n W).map (Value.int .u8)) ∧ Below w.heap.size w w' := by
  obtain ⟨hW, h1, h2⟩ := lenOf_eq n W h h0
  have hne : ((W : Int) == 0) = false := by simp; omega
  clear h0
  go_enter Tryz.func39, Tryz.ntmps39
  go_wp2_with (first | (go_at_call 60; refine (rlen_any n _).mono ?_; rintro e w' ⟨rfl, rfl⟩) | (go_at_call 61; refine (rputIn_own n W _ hW h1 h2).mono ?_; rintro e w' ⟨g, cap, rfl, hr, hb⟩))
  go_ret2
  exact ⟨_, _, rfl, by assumption, by assumption⟩

end Go.Proofs.YtmplpdjkhdaniaaGreatDoor.Fi
