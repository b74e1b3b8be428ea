/-
  Texts on FiTools, FiRGet, FiRRd, FiRByte, FiRText, FiApp, in one.
-/
import Derived.Test.YtjiefndjgkhcjaaDoorFiLay
import Derived.Test.YtjiefndjgkhcjaaDoorFiRow
import Derived.Deep.RegionHeld3
namespace Go.Proofs.YtjiefndjgkhcjaaDoor.Fi
open Go.RowKit
set_option maxRecDepth 100000

theorem parts2 (w : World) (u1 u2 : Value) (X Y : List Int) (s1 : Sl w u1 X) (s2 : Sl w u2 Y) : Parts (w.alloc (.cells #[u1, u2] 22)) (some ⟨w.heap.size, 0, none⟩) [X, Y] := by
  have hb : Below w.heap.size w (w.alloc (.cells #[u1, u2] 22)) := (Below.refl _ _).alloc (Nat.le_refl _) _
  refine ⟨by simp, .inr ⟨_, 0, rfl, fun i hi => ?_⟩⟩
  have hi2 : i = 0 ∨ i = 1 := by simp at hi; omega
  rcases hi2 with rfl | rfl
  · exact ⟨u1, by rw [World.cell?_alloc_at _ _ _ _ rfl]; rfl, s1.kept hb⟩
  · exact ⟨u2, by rw [World.cell?_alloc_at _ _ _ _ rfl]; rfl, s2.kept hb⟩

theorem join2_any (w : World) (u1 u2 : Value) (X Y : List Int) (s1 : Sl w u1 X) (s2 : Sl w u2 Y) (hbig : X.length + Y.length ≤ 200000000000000) :
    Calls Tryd.prog 35 #[.slice (some ⟨w.heap.size, 0, none⟩) 2 2] (w.alloc (.cells #[u1, u2] 22)) fun r w' => ∃ v, r = .returned v ∧ Sl w' v (X ++ Y) ∧ Below w.heap.size w w' := by
  have hfl : [X, Y].flatten = X ++ Y := by simp
  have h := join_any _ 2 _ _ (parts2 w u1 u2 X Y s1 s2) (by rw [hfl, List.length_append]; exact hbig)
  rw [hfl] at h
  have hb : Below w.heap.size w (w.alloc (.cells #[u1, u2] 22)) := (Below.refl _ _).alloc (Nat.le_refl _) _
  refine h.mono ?_
  rintro e w' ⟨v, rfl, own, bel⟩
  refine ⟨v, rfl, sl_owned own ?_, hb.trans (bel.mono (by simp))⟩
  have := bytes_flat [X, Y] (by
    intro Z hZ
    simp at hZ
    rcases hZ with rfl | rfl
    · exact s1.bytes
    · exact s2.bytes)
  rwa [hfl] at this

/-- 'string(b)'. -/
theorem Sl.conv {w : World} {a : Option Addr} {len cap : Nat} {xs : List Int} (h : Sl w (.slice a len cap) xs) : (convert 22 9 (.slice a len cap)).run Tryd.prog w = .ok (.string (strB xs)) w := by
  obtain ⟨a', cap', e, h1, h2, h3, h4⟩ := h
  cases e
  have := conv_any a xs.length cap xs w (Nat.le_refl _) h4
  rwa [List.take_length] at this

set_option maxHeartbeats 1000000 in
theorem err_nil (w : World) : Calls Tryd.prog 39 #[.pointer none] w fun r w' => r = .returned (.int .i64 1) ∧ w' = w := by
  go_enter Tryd.func39, Tryd.ntmps39
  go_wp2
  go_ret
  exact ⟨rfl, rfl⟩
set_option maxHeartbeats 1000000 in
theorem stopped_nil (w : World) : Calls Tryd.prog 57 #[.pointer none] w fun r w' => r = .returned (.bool true) ∧ w' = w := by
  go_enter Tryd.func57, Tryd.ntmps57
  go_wp2_with (go_at_call 39; refine (err_nil _).mono ?_; rintro e w' ⟨rfl, rfl⟩)
  go_ret
  exact ⟨rfl, rfl⟩
set_option maxHeartbeats 1000000 in
theorem num_nil (n : Int) (w : World) : Calls Tryd.prog 38 #[.pointer none, .int .i64 n] w fun r w' => r = .returned (.int .i64 0) ∧ w' = w := by
  go_enter Tryd.func38, Tryd.ntmps38
  go_wp2_with (go_at_call 57; refine (stopped_nil _).mono ?_; rintro e w' ⟨rfl, rfl⟩)
  go_ret
  exact ⟨rfl, rfl⟩
set_option maxHeartbeats 1000000 in
theorem raw_nil (n : Int) (w : World) : Calls Tryd.prog 61 #[.pointer none, .int .i64 n] w fun r w' => r = .returned (.string ⟨#[]⟩) ∧ w' = w := by
  go_enter Tryd.func61, Tryd.ntmps61
  go_wp2_with (go_at_call 57; refine (stopped_nil _).mono ?_; rintro e w' ⟨rfl, rfl⟩)
  go_ret
  exact ⟨rfl, rfl⟩
set_option maxHeartbeats 1000000 in
theorem byte_nil (w : World) : Calls Tryd.prog 60 #[.pointer none] w fun r w' => r = .returned (.int .u8 0) ∧ w' = w := by
  go_enter Tryd.func60, Tryd.ntmps60
  go_wp2_with (go_at_call 61; refine (raw_nil 1 _).mono ?_; rintro e w' ⟨rfl, rfl⟩)
  go_ret
  exact ⟨rfl, rfl⟩

theorem bnext {a b c : World} {B : Nat} (h : Below B a b) (k : Below b.heap.size b c) (hB : B ≤ b.heap.size) : Below B a c := h.trans (k.mono hB)
end Go.Proofs.YtjiefndjgkhcjaaDoor.Fi

namespace Go.Proofs.YtjiefndjgkhcjaaDoor.Fi
open Go.RowKit
set_option maxRecDepth 100000

set_option maxHeartbeats 1000000 in
theorem rget_empty (a : Option Addr) (cap : Nat) (w : World) :
    Calls Tryd.prog 77 #[.slice a 0 cap] w fun e w' => e = .returned (.tuple #[.int .i64 0, .int .i64 0, .int .i64 3]) ∧ w' = w := by
  go_enter Tryd.func77, Tryd.ntmps77
  go_wp2
  go_ret3
  exact ⟨rfl, rfl⟩

set_option maxHeartbeats 1000000 in
theorem rget_cut (b off len cap : Nat) (z : Int) (w : World) (hm : len ≤ maxLen) (hp : 0 < len) (hc : w.cell? ⟨b, off, none⟩ = some (.int .u8 z)) (k : Nat) (hz : z / 64 = k) (h0 : 0 ≤ z) (h1 : z < 256) (hl : len < 2 ^ k) :
    Calls Tryd.prog 77 #[.slice (some ⟨b, off, none⟩) len cap] w fun e w' => e = .returned (.tuple #[.int .i64 0, .int .i64 0, .int .i64 3]) ∧ w' = w := by
  unfold maxLen at hm
  have hne : ((len : Int) == 0) = false := by simp; omega
  have hk : k = 0 ∨ k = 1 ∨ k = 2 ∨ k = 3 := by omega
  rcases hk with rfl | rfl | rfl | rfl
  all_goals
    simp at hz hl
  · omega
  all_goals
    go_enter Tryd.func77, Tryd.ntmps77
    go_wp2
    go_rounds 4
    go_ret3
    exact ⟨rfl, rfl⟩

set_option maxHeartbeats 2000000 in
theorem rget_ok (b off len cap : Nat) (zs : List Int) (w : World) (hlc : len ≤ cap) (hm : cap ≤ maxLen)
    (hc : ∀ i, i < len → w.cell? ⟨b, off + i, none⟩ = some (.int .u8 (zs.getD i 0))) (hb : ∀ i, 0 ≤ zs.getD i 0 ∧ zs.getD i 0 < 256)
    (k : Nat) (hz : zs.getD 0 0 / 64 = k) (hl : 2 ^ k ≤ len) :
    Calls Tryd.prog 77 #[.slice (some ⟨b, off, none⟩) len cap] w fun e w' => e = .returned (.tuple #[.int .i64 (gval zs (2 ^ k - 1)), .int .i64 (2 ^ k : Nat), .int .i64 0]) ∧ w' = w := by
  unfold maxLen at hm
  obtain ⟨h0, h1⟩ := hb 0
  have hp : 0 < len := Nat.lt_of_lt_of_le (Nat.two_pow_pos k) hl
  have hcz : w.cell? ⟨b, off, none⟩ = some (.int .u8 (zs.getD 0 0)) := hc 0 hp
  obtain ⟨z, hz'⟩ : ∃ z, zs.getD 0 0 = z := ⟨_, rfl⟩
  have hg0 : gval zs 0 = z % 64 := by rw [← hz']; rfl
  rw [hz'] at h0 h1 hz hcz
  clear hz'
  have hne : ((len : Int) == 0) = false := by simp; omega
  have hk : k = 0 ∨ k = 1 ∨ k = 2 ∨ k = 3 := by omega
  have HC : Hid (∀ i, i < len → w.cell? ⟨b, off + i, none⟩ = some (.int .u8 (zs.getD i 0))) := hc
  have HB : Hid (∀ i, 0 ≤ zs.getD i 0 ∧ zs.getD i 0 < 256) := hb
  have HG : Hid (gval zs 0 = z % 64) := hg0
  clear hc hb hg0
  rcases hk with rfl | rfl | rfl | rfl
  · simp at hz hl
    go_enter Tryd.func77, Tryd.ntmps77
    go_wp2
    go_rounds 4
    go_loop [7, 8] (fun n i => ∃ j : Nat, j ≤ 0 ∧ i = .int .i64 (j + 1) ∧ n = .int .i64 (gval zs j)) (fun _ i => 9 - (intOf i).toNat)
    case atStart => exact ⟨0, by omega, rfl, by rw [HG.out]⟩
    case round =>
      obtain ⟨j, hj, rfl, rfl⟩ := hrel
      obtain rfl : j = 0 := by omega
      go_wp2
      go_ret3
      exact ⟨rfl, rfl⟩
  · simp at hz hl
    go_enter Tryd.func77, Tryd.ntmps77
    go_wp2
    go_rounds 4
    go_loop [7, 8] (fun n i => ∃ j : Nat, j ≤ 1 ∧ i = .int .i64 (j + 1) ∧ n = .int .i64 (gval zs j)) (fun _ i => 9 - (intOf i).toNat)
    case atStart => exact ⟨0, by omega, rfl, by rw [HG.out]⟩
    case round =>
      obtain ⟨j, hj, rfl, rfl⟩ := hrel
      by_cases hlt : j < 1
      · have hcx : w.cell? ⟨b, off + (j + 1), none⟩ = some (.int .u8 (zs.getD (j + 1) 0)) := HC.out _ (by omega)
        obtain ⟨g0, g1⟩ := gval_lt zs HB.out j (by omega)
        obtain ⟨b0, b1⟩ := HB.out (j + 1)
        obtain ⟨y, hy⟩ : ∃ y, zs.getD (j + 1) 0 = y := ⟨_, rfl⟩
        have HY : Hid (gval zs (j + 1) = gval zs j * 256 + y) := by rw [← hy]; rfl
        rw [hy] at hcx b0 b1
        clear hy
        go_wp2
        go_round
        case rel => exact ⟨j + 1, by omega, by go_num, by rw [HY.out]; go_num⟩
        case measure => simp [intOf]; omega
      · obtain rfl : j = 1 := by omega
        go_wp2
        go_ret3
        exact ⟨rfl, rfl⟩
  · simp at hz hl
    go_enter Tryd.func77, Tryd.ntmps77
    go_wp2
    go_rounds 4
    go_loop [7, 8] (fun n i => ∃ j : Nat, j ≤ 3 ∧ i = .int .i64 (j + 1) ∧ n = .int .i64 (gval zs j)) (fun _ i => 9 - (intOf i).toNat)
    case atStart => exact ⟨0, by omega, rfl, by rw [HG.out]⟩
    case round =>
      obtain ⟨j, hj, rfl, rfl⟩ := hrel
      by_cases hlt : j < 3
      · have hcx : w.cell? ⟨b, off + (j + 1), none⟩ = some (.int .u8 (zs.getD (j + 1) 0)) := HC.out _ (by omega)
        obtain ⟨g0, g1⟩ := gval_lt zs HB.out j (by omega)
        obtain ⟨b0, b1⟩ := HB.out (j + 1)
        obtain ⟨y, hy⟩ : ∃ y, zs.getD (j + 1) 0 = y := ⟨_, rfl⟩
        have HY : Hid (gval zs (j + 1) = gval zs j * 256 + y) := by rw [← hy]; rfl
        rw [hy] at hcx b0 b1
        clear hy
        go_wp2
        go_round
        case rel => exact ⟨j + 1, by omega, by go_num, by rw [HY.out]; go_num⟩
        case measure => simp [intOf]; omega
      · obtain rfl : j = 3 := by omega
        go_wp2
        go_ret3
        exact ⟨rfl, rfl⟩
  · simp at hz hl
    go_enter Tryd.func77, Tryd.ntmps77
    go_wp2
    go_rounds 4
    go_loop [7, 8] (fun n i => ∃ j : Nat, j ≤ 7 ∧ i = .int .i64 (j + 1) ∧ n = .int .i64 (gval zs j)) (fun _ i => 9 - (intOf i).toNat)
    case atStart => exact ⟨0, by omega, rfl, by rw [HG.out]⟩
    case round =>
      obtain ⟨j, hj, rfl, rfl⟩ := hrel
      by_cases hlt : j < 7
      · have hcx : w.cell? ⟨b, off + (j + 1), none⟩ = some (.int .u8 (zs.getD (j + 1) 0)) := HC.out _ (by omega)
        obtain ⟨g0, g1⟩ := gval_lt zs HB.out j (by omega)
        obtain ⟨b0, b1⟩ := HB.out (j + 1)
        obtain ⟨y, hy⟩ : ∃ y, zs.getD (j + 1) 0 = y := ⟨_, rfl⟩
        have HY : Hid (gval zs (j + 1) = gval zs j * 256 + y) := by rw [← hy]; rfl
        rw [hy] at hcx b0 b1
        clear hy
        go_wp2
        go_round
        case rel => exact ⟨j + 1, by omega, by go_num, by rw [HY.out]; go_num⟩
        case measure => simp [intOf]; omega
      · obtain rfl : j = 7 := by omega
        go_wp2
        go_ret3
        exact ⟨rfl, rfl⟩

theorem rget_any (a : Option Addr) (len cap : Nat) (zs : List Int) (w : World) (hr : Row w a len cap zs) :
    Calls Tryd.prog 77 #[.slice a len cap] w fun e w' => e = .returned (.tuple #[.int .i64 (getN len zs), .int .i64 (getU len zs), .int .i64 (getE len zs)]) ∧ w' = w := by
  unfold getN getU getE
  rcases hr with rfl | ⟨hp, b, off, rfl, hlc, hm, hc, hb⟩
  · rw [if_pos (.inr rfl), if_pos (.inr rfl), if_pos (.inr rfl)]
    exact rget_empty a cap w
  · obtain ⟨h0, h1⟩ := hb 0
    have hz : zs.getD 0 0 / 64 = (gk zs : Nat) := by unfold gk; omega
    by_cases hl : len < 2 ^ gk zs
    · rw [if_pos (.inl hl), if_pos (.inl hl), if_pos (.inl hl)]
      exact rget_cut b off len cap _ w (by omega) hp (hc 0 hp) (gk zs) hz h0 h1 hl
    · rw [if_neg (by omega), if_neg (by omega), if_neg (by omega)]
      exact rget_ok b off len cap zs w hlc hm hc hb (gk zs) hz (by omega)

set_option maxHeartbeats 1000000 in
theorem rshortest_any (a : Option Addr) (len cap : Nat) (zs : List Int) (w : World) (hr : Row w a len cap zs) :
    Calls Tryd.prog 62 #[.slice a len cap] w fun e w' => e = .returned (.tuple #[.int .i64 (shN len zs), .int .i64 (shU len zs), .int .i64 (shE len zs)]) ∧ w' = w := by
  unfold shN shU shE
  have hg := rget_any a len cap zs w hr
  generalize getN len zs = n at *
  generalize getU len zs = u at *
  generalize getE len zs = g at *
  by_cases h : g = 0
  · subst h
    by_cases h2 : u ≤ lenOf n
    · rw [if_pos ⟨rfl, h2⟩, if_pos ⟨rfl, h2⟩, if_pos rfl, if_pos h2]
      go_enter Tryd.func62, Tryd.ntmps62
      go_wp2_with (first | (go_at_call 77; refine hg.mono ?_; rintro e w' ⟨rfl, rfl⟩) | (go_at_call 74; refine (rlen_any n _).mono ?_; rintro e w' ⟨rfl, rfl⟩))
      go_ret3
      exact ⟨rfl, rfl⟩
    · have h3 : lenOf n < u := by omega
      rw [if_neg (by omega), if_neg (by omega), if_pos rfl, if_neg h2]
      go_enter Tryd.func62, Tryd.ntmps62
      go_wp2_with (first | (go_at_call 77; refine hg.mono ?_; rintro e w' ⟨rfl, rfl⟩) | (go_at_call 74; refine (rlen_any n _).mono ?_; rintro e w' ⟨rfl, rfl⟩))
      go_ret3
      exact ⟨rfl, rfl⟩
  · have h' : (g == 0) = false := by simpa using h
    rw [if_neg (by omega), if_neg (by omega), if_neg h]
    go_enter Tryd.func62, Tryd.ntmps62
    go_wp2_with (first | (go_at_call 77; refine hg.mono ?_; rintro e w' ⟨rfl, rfl⟩) | (go_at_call 74; refine (rlen_any n _).mono ?_; rintro e w' ⟨rfl, rfl⟩))
    go_ret3
    exact ⟨rfl, rfl⟩
end Go.Proofs.YtjiefndjgkhcjaaDoor.Fi

namespace Go.Proofs.YtjiefndjgkhcjaaDoor.Fi
open Go.RowKit
set_option maxRecDepth 100000

/-- A value that is a slice of the bytes xs, its address plain where it has room. -/
def Rv (w : World) (v : Value) (xs : List Int) : Prop :=
  ∃ a cap, v = .slice a xs.length cap ∧ xs.length ≤ cap ∧ cap ≤ maxLen ∧ (a = none → cap = 0) ∧ (∀ x, a = some x → 0 < cap → x.spot = none) ∧ Row w a xs.length cap xs

theorem Rv.kept {w w' : World} {v : Value} {xs : List Int} (h : Rv w v xs) (hb : Below w.heap.size w w') : Rv w' v xs := by
  obtain ⟨a, cap, e, h1, h2, h3, h4, h5⟩ := h
  exact ⟨a, cap, e, h1, h2, h3, h4, h5.kept hb⟩

theorem Rv.bytes {w : World} {v : Value} {xs : List Int} (h : Rv w v xs) : ∀ i, 0 ≤ xs.getD i 0 ∧ xs.getD i 0 < 256 := by
  obtain ⟨a, cap, e, h1, h2, h3, h4, h5⟩ := h
  exact h5.bytes

theorem Rv.drop {w : World} {b off cap : Nat} {xs : List Int} (n : Nat) (hn : n ≤ xs.length) (hc : xs.length ≤ cap) (hm : cap ≤ maxLen) (h : Row w (some ⟨b, off, none⟩) xs.length cap xs) : Rv w (.slice (some ⟨b, off + n, none⟩) (xs.length - n) (cap - n)) (xs.drop n) := by
  have hl : (xs.drop n).length = xs.length - n := List.length_drop ..
  refine ⟨_, cap - n, by rw [hl], by omega, by omega, fun e => (by cases e), fun x hx _ => by cases hx; rfl, ?_⟩
  rw [hl]
  exact h.drop n hn

theorem Rv.nothing {w : World} (a : Option Addr) (cap : Nat) (hm : cap ≤ maxLen) (h1 : a = none → cap = 0) (h2 : ∀ x, a = some x → 0 < cap → x.spot = none) : Rv w (.slice a 0 cap) [] :=
  ⟨a, cap, rfl, Nat.zero_le _, hm, h1, h2, .inl rfl⟩

set_option maxHeartbeats 1000000 in
theorem rfail_any (a : Option Addr) (n c : Nat) (e e' : Int) (w : World) :
    Calls Tryd.prog 63 #[.agg #[.slice a n c, .int .i64 e], .int .i64 e'] w fun r w' => r = .returned (.agg #[.slice a n c, .int .i64 e']) ∧ w' = (w.alloc (.cells #[.slice a n c, .int .i64 e] 78)).alloc (.cells #[.slice a n c, .int .i64 e'] 78) := by
  go_enter Tryd.func63, Tryd.ntmps63
  go_wp2
  exact bodyPost_ret (v := .agg #[.slice a n c, .int .i64 e']) (by simp [results, Tryd.results63, go_sem]) rfl ⟨rfl, rfl⟩

set_option maxHeartbeats 1000000 in
theorem rdone_any (a : Option Addr) (cap : Nat) (xs : List Int) (e : Int) (w : World) (hl : xs.length ≤ 9223372036854775807) :
    Calls Tryd.prog 44 #[.agg #[.slice a xs.length cap, .int .i64 e]] w fun r w' => r = .returned (.int .i64 (dnE xs e)) ∧ Below w.heap.size w w' := by
  unfold dnE
  generalize xs.length = n at *
  by_cases h0 : e = 0
  · subst h0
    by_cases h1 : 0 < n
    · rw [if_pos rfl, if_pos h1]
      go_enter Tryd.func44, Tryd.ntmps44
      go_wp2
      go_ret
      exact ⟨rfl, (Below.refl _ _).alloc (Nat.le_refl _) _⟩
    · obtain rfl : n = 0 := by omega
      rw [if_pos rfl, if_neg h1]
      go_enter Tryd.func44, Tryd.ntmps44
      go_wp2
      go_ret
      exact ⟨rfl, (Below.refl _ _).alloc (Nat.le_refl _) _⟩
  · have hne : (e == 0) = false := by simpa using h0
    rw [if_neg h0]
    go_enter Tryd.func44, Tryd.ntmps44
    go_wp2
    go_ret
    exact ⟨rfl, (Below.refl _ _).alloc (Nat.le_refl _) _⟩

set_option maxHeartbeats 1000000 in
theorem rnum_stop (a : Option Addr) (n c : Nat) (e most : Int) (w : World) (he : e ≠ 0) :
    Calls Tryd.prog 42 #[.agg #[.slice a n c, .int .i64 e], .int .i64 most] w fun r w' => r = .returned (.tuple #[.agg #[.slice a n c, .int .i64 e], .int .i64 0]) ∧ Below w.heap.size w w' := by
  have hne : (e != 0) = true := by simpa using he
  go_enter Tryd.func42, Tryd.ntmps42
  go_wp2
  refine bodyPost_ret (v := .tuple #[.agg #[.slice a n c, .int .i64 e], .int .i64 0]) (by simp [results, Tryd.results42, go_sem]) rfl ⟨rfl, ?_⟩
  exact ((Below.refl _ _).alloc (Nat.le_refl _) _).alloc (by simp) _

set_option maxHeartbeats 1000000 in
theorem rraw_stop (a : Option Addr) (n c : Nat) (e m : Int) (w : World) (he : e ≠ 0) :
    Calls Tryd.prog 43 #[.agg #[.slice a n c, .int .i64 e], .int .i64 m] w fun r w' => r = .returned (.tuple #[.agg #[.slice a n c, .int .i64 e], .string (strB [])]) ∧ Below w.heap.size w w' := by
  have hne : (e != 0) = true := by simpa using he
  go_enter Tryd.func43, Tryd.ntmps43
  go_wp2
  refine bodyPost_ret (v := .tuple #[.agg #[.slice a n c, .int .i64 e], .string (strB [])]) (by simp [results, Tryd.results43, go_sem]; rfl) rfl ⟨rfl, ?_⟩
  exact ((Below.refl _ _).alloc (Nat.le_refl _) _).alloc (by simp) _

set_option maxHeartbeats 2000000 in
theorem rnum_any (a : Option Addr) (cap : Nat) (xs : List Int) (most : Int) (w : World) (h : Rv w (.slice a xs.length cap) xs) :
    Calls Tryd.prog 42 #[.agg #[.slice a xs.length cap, .int .i64 0], .int .i64 most] w fun r w' =>
      ∃ v', r = .returned (.tuple #[.agg #[v', .int .i64 (naE xs most)], .int .i64 (naN xs most)]) ∧ (∀ W, Rv W (.slice a xs.length cap) xs → Rv W v' (xs.drop (naU xs most).toNat)) ∧ Below w.heap.size w w' := by
  have hby := h.bytes
  have hk := h
  obtain ⟨a', cap', e, h1, h2, h3, h4, h5⟩ := h
  cases e
  have sb := sh_bd xs hby
  have HB : Hid (Below w.heap.size w ((w.alloc (.cells #[.slice a xs.length cap, .int .i64 0] 78)).alloc (.cells #[.slice none 0 0, .int .i64 0] 78))) := ((Below.refl _ _).alloc (Nat.le_refl _) _).alloc (by simp) _
  have cs := rshortest_any a xs.length cap xs _ (h5.kept HB.out)
  have HK : Hid (Rv w (.slice a xs.length cap) xs) := hk
  clear hk
  unfold naN naU naE
  by_cases hE : shE xs.length xs = 0
  · rw [hE] at cs
    rw [hE, if_pos rfl]
    obtain ⟨u, hu⟩ : ∃ u : Nat, shU xs.length xs = u := ⟨(shU xs.length xs).toNat, by omega⟩
    rw [hu] at cs sb ⊢
    by_cases hm : shN xs.length xs ≤ most
    · rw [if_pos hm, if_pos rfl, if_pos rfl]
      rcases h5 with h0 | ⟨hp, b, off, rfl, _⟩
      · exfalso
        obtain rfl := List.length_eq_zero_iff.1 h0
        have : shE ([] : List Int).length [] = 3 := by decide
        omega
      · have HR : Hid (∀ W, Rv W (.slice (some ⟨b, off, none⟩) xs.length cap) xs → Rv W (.slice (some ⟨b, off + u, none⟩) (xs.length - u) (cap - u)) (xs.drop u)) := by
          intro W hh
          obtain ⟨a', cap', e, h1, h2, h3, h4, h5⟩ := hh
          cases e
          exact Rv.drop u (by omega) h1 h2 h5
        have hul : u ≤ xs.length := by omega
        have hlm : xs.length ≤ 9223372036854775807 := by unfold maxLen at h2; omega
        have hcm : cap ≤ 9223372036854775807 := by unfold maxLen at h2; omega
        have HD : Hid (xs.length = u → xs.drop u = []) := fun e => List.drop_of_length_le (by omega)
        simp only [Int.toNat_natCast]
        generalize shN xs.length xs = N at *
        generalize xs.drop u = D at *
        generalize xs.length = len at *
        clear hby sb hE hu h3 h4
        by_cases hcu : cap = u
        · subst hcu
          obtain rfl : cap = len := by omega
          obtain rfl := HD.out rfl
          clear HR HD
          go_enter Tryd.func42, Tryd.ntmps42
          go_wp2_with (go_at_call 62; refine cs.mono ?_; rintro e w' ⟨rfl, rfl⟩)
          refine bodyPost_ret (v := .tuple #[.agg #[.slice (some ⟨b, off, none⟩) 0 0, .int .i64 0], .int .i64 N]) (by simp [results, Tryd.results42, go_sem]) rfl ⟨_, rfl, fun W _ => Rv.nothing _ _ (by simp) (fun e => (by cases e)) (fun x hx _ => by cases hx; rfl), ?_⟩
          exact ((Below.refl _ _).alloc (Nat.le_refl _) _).alloc (by simp) _
        · go_enter Tryd.func42, Tryd.ntmps42
          go_wp2_with (go_at_call 62; refine cs.mono ?_; rintro e w' ⟨rfl, rfl⟩)
          refine bodyPost_ret (v := .tuple #[.agg #[.slice (some ⟨b, off + u, none⟩) (len - u) (cap - u), .int .i64 0], .int .i64 N]) (by simp [results, Tryd.results42, go_sem]) rfl ⟨_, rfl, HR.out, ?_⟩
          exact ((Below.refl _ _).alloc (Nat.le_refl _) _).alloc (by simp) _
    · rw [if_neg hm, if_neg (by decide), if_neg (by decide)]
      have hm' : most < shN xs.length xs := by omega
      have cf := rfail_any a xs.length cap 0 5 ((w.alloc (.cells #[.slice a xs.length cap, .int .i64 0] 78)).alloc (.cells #[.slice none 0 0, .int .i64 0] 78))
      show Calls _ _ _ _ fun r w' => ∃ v', _ ∧ (∀ W, Rv W (.slice a xs.length cap) xs → Rv W v' xs) ∧ _
      generalize shN xs.length xs = N at *
      generalize xs.length = len at *
      clear hby sb hE hu h3 h4 h5 hm
      go_enter Tryd.func42, Tryd.ntmps42
      go_wp2_with fail
      refine cs.mono ?_
      rintro e w' ⟨rfl, rfl⟩
      go_wp2_with fail
      refine cf.mono ?_
      rintro e w1 ⟨rfl, rfl⟩
      go_wp2
      refine bodyPost_ret (v := .tuple #[.agg #[.slice a len cap, .int .i64 5], .int .i64 0]) (by simp [results, Tryd.results42, go_sem]) rfl ⟨_, rfl, fun W hh => hh, ?_⟩
      exact ((((Below.refl _ _).alloc (Nat.le_refl _) _).alloc (by simp) _).alloc (by simp; omega) _).alloc (by simp; omega) _
  · rw [if_neg hE, if_neg hE, if_neg hE]
    have cf := rfail_any a xs.length cap 0 (shE xs.length xs) ((w.alloc (.cells #[.slice a xs.length cap, .int .i64 0] 78)).alloc (.cells #[.slice none 0 0, .int .i64 0] 78))
    show Calls _ _ _ _ fun r w' => ∃ v', _ ∧ (∀ W, Rv W (.slice a xs.length cap) xs → Rv W v' xs) ∧ _
    generalize shN xs.length xs = N at *
    generalize shU xs.length xs = U at *
    generalize shE xs.length xs = E at *
    generalize xs.length = len at *
    have hne : (E != 0) = true := by simpa using hE
    clear hby sb hE h3 h4 h5
    go_enter Tryd.func42, Tryd.ntmps42
    go_wp2_with fail
    refine cs.mono ?_
    rintro e w' ⟨rfl, rfl⟩
    go_wp2_with fail
    refine cf.mono ?_
    rintro e w1 ⟨rfl, rfl⟩
    go_wp2
    refine bodyPost_ret (v := .tuple #[.agg #[.slice a len cap, .int .i64 E], .int .i64 0]) (by simp [results, Tryd.results42, go_sem]) rfl ⟨_, rfl, fun W hh => hh, ?_⟩
    exact ((((Below.refl _ _).alloc (Nat.le_refl _) _).alloc (by simp) _).alloc (by simp; omega) _).alloc (by simp; omega) _

set_option maxHeartbeats 4000000 in
theorem rraw_any (a : Option Addr) (cap : Nat) (xs : List Int) (n : Int) (w : World) (h : Rv w (.slice a xs.length cap) xs) :
    Calls Tryd.prog 43 #[.agg #[.slice a xs.length cap, .int .i64 0], .int .i64 n] w fun r w' =>
      ∃ v', r = .returned (.tuple #[.agg #[v', .int .i64 (raE xs n)], .string (strB (xs.take (raN xs n)))]) ∧ (∀ W, Rv W (.slice a xs.length cap) xs → Rv W v' (xs.drop (raN xs n))) ∧ Below w.heap.size w w' := by
  have HK : Hid (Rv w (.slice a xs.length cap) xs) := h
  obtain ⟨a', cap', e, h1, h2, h3, h4, h5⟩ := h
  cases e
  have hlm : xs.length ≤ 9223372036854775807 := by unfold maxLen at h2; omega
  have hcm : cap ≤ 9223372036854775807 := by unfold maxLen at h2; omega
  unfold raN raE
  by_cases hn : n < 0
  · simp only [if_pos hn]
    rw [if_neg (by decide)]
    have cf := rfail_any a xs.length cap 0 2 ((w.alloc (.cells #[.slice a xs.length cap, .int .i64 0] 78)).alloc (.cells #[.slice none 0 0, .int .i64 0] 78))
    show Calls _ _ _ _ fun r w' => ∃ v', r = .returned (.tuple #[.agg #[v', .int .i64 2], .string (strB [])]) ∧ (∀ W, Rv W (.slice a xs.length cap) xs → Rv W v' xs) ∧ _
    generalize xs.length = len at *
    clear h3 h4 h5
    go_enter Tryd.func43, Tryd.ntmps43
    go_wp2_with fail
    refine cf.mono ?_
    rintro e w1 ⟨rfl, rfl⟩
    go_wp2
    refine bodyPost_ret (v := .tuple #[.agg #[.slice a len cap, .int .i64 2], .string (strB [])]) (by simp [results, Tryd.results43, go_sem]; rfl) rfl ⟨_, rfl, fun W hh => hh, ?_⟩
    exact ((((Below.refl _ _).alloc (Nat.le_refl _) _).alloc (by simp) _).alloc (by simp; omega) _).alloc (by simp; omega) _
  · simp only [if_neg hn]
    obtain ⟨m, rfl⟩ : ∃ m : Nat, n = m := ⟨n.toNat, by omega⟩
    simp only [Int.toNat_natCast]
    by_cases hl : (xs.length : Int) < m
    · simp only [if_pos hl]
      rw [if_neg (by decide)]
      have cf := rfail_any a xs.length cap 0 3 ((w.alloc (.cells #[.slice a xs.length cap, .int .i64 0] 78)).alloc (.cells #[.slice none 0 0, .int .i64 0] 78))
      show Calls _ _ _ _ fun r w' => ∃ v', r = .returned (.tuple #[.agg #[v', .int .i64 3], .string (strB [])]) ∧ (∀ W, Rv W (.slice a xs.length cap) xs → Rv W v' xs) ∧ _
      generalize xs.length = len at *
      clear h3 h4 h5
      go_enter Tryd.func43, Tryd.ntmps43
      go_wp2_with fail
      refine cf.mono ?_
      rintro e w1 ⟨rfl, rfl⟩
      go_wp2
      refine bodyPost_ret (v := .tuple #[.agg #[.slice a len cap, .int .i64 3], .string (strB [])]) (by simp [results, Tryd.results43, go_sem]; rfl) rfl ⟨_, rfl, fun W hh => hh, ?_⟩
      exact ((((Below.refl _ _).alloc (Nat.le_refl _) _).alloc (by simp) _).alloc (by simp; omega) _).alloc (by simp; omega) _
    · simp only [if_neg hl, if_true]
      have hml : m ≤ xs.length := by omega
      have HC : Hid (∀ w', Below w.heap.size w w' → (convert 22 9 (.slice a m cap)).run Tryd.prog w' = .ok (.string (strB (xs.take m))) w') := fun w' hb => conv_any a m cap xs w' hml ((h5.kept hb).cut m hml)
      have HB : Hid (∀ o, Below w.heap.size w ((w.alloc (.cells #[.slice a xs.length cap, .int .i64 0] 78)).alloc o).drew) := fun o => (((Below.refl _ _).alloc (Nat.le_refl _) _).alloc (by simp) _).drew
      have HX : Hid (∀ o, ((w.alloc (.cells #[.slice a xs.length cap, .int .i64 0] 78)).alloc o).drew.cell? ⟨w.heap.size, 0, none⟩ = some (.slice a xs.length cap)) := fun o => by
        show ((w.alloc (.cells #[.slice a xs.length cap, .int .i64 0] 78)).alloc o).cell? ⟨w.heap.size, 0, none⟩ = _
        rw [World.cell?_alloc_past _ _ _ (by simp), World.cell?_alloc_at _ _ _ _ rfl]
        rfl
      have HS : Hid (∀ o, ((w.alloc (.cells #[.slice a xs.length cap, .int .i64 0] 78)).alloc o).drew.cell? ⟨w.heap.size, 0, none⟩ = some (.slice a xs.length cap) ∧
          (convert 22 9 (.slice a m cap)).run Tryd.prog ((w.alloc (.cells #[.slice a xs.length cap, .int .i64 0] 78)).alloc o).drew = .ok (.string (strB (xs.take m))) ((w.alloc (.cells #[.slice a xs.length cap, .int .i64 0] 78)).alloc o).drew) := fun o => ⟨HX.out o, HC.out _ (HB.out o)⟩
      have HD : Hid (xs.length = m → xs.drop m = []) := fun e => List.drop_of_length_le (by omega)
      have HR : Hid (∀ b off, a = some ⟨b, off, none⟩ → ∀ W, Rv W (.slice a xs.length cap) xs → Rv W (.slice (some ⟨b, off + m, none⟩) (xs.length - m) (cap - m)) (xs.drop m)) := fun b off e W hh => by
        subst e
        obtain ⟨a', cap', e, h1, h2, h3, h4, h5⟩ := hh
        cases e
        exact Rv.drop m hml h1 h2 h5
      generalize strB (xs.take m) = T at *
      generalize xs.drop m = D at *
      generalize xs.length = len at *
      clear h5 HC HX
      rcases Nat.lt_or_ge m cap with hcm' | hcm'
      · obtain ⟨b, off, rfl⟩ : ∃ b off, a = some ⟨b, off, none⟩ := by
          cases a with
          | none => have := h3 rfl; omega
          | some x =>
            obtain ⟨b, off, spot⟩ := x
            have := h4 _ rfl (by omega)
            simp only at this
            subst this
            exact ⟨b, off, rfl⟩
        have hr := HR.out b off rfl
        have HR' : Hid (∀ W, Rv W (.slice (some ⟨b, off, none⟩) len cap) xs → Rv W (.slice (some ⟨b, off + m, none⟩) (len - m) (cap - m)) D) := hr
        have hne : ¬ cap = m := by omega
        clear hr HR h3 h4 HK
        have q0 : (0 : Int) ≤ (m : Int) := by omega
        have q1 : (m : Int) ≤ (len : Int) := by omega
        have q2 : (m : Int) ≤ (cap : Int) := by omega
        go_enter Tryd.func43, Tryd.ntmps43
        go_wp2
        go_region_held3 (fun w' => w'.cell? ⟨w.heap.size, 0, none⟩ = some (.slice (some ⟨b, off, none⟩) len cap) ∧ (convert 22 9 (.slice (some ⟨b, off, none⟩) m cap)).run Tryd.prog w' = .ok (.string T) w') (exact HS.out _) (fail)
        all_goals
          go_wp2
          exact bodyPost_ret (v := .tuple #[.agg #[.slice (some ⟨b, off + m, none⟩) (len - m) (cap - m), .int .i64 0], .string T]) (by simp [results, Tryd.results43, go_sem]) rfl ⟨_, rfl, HR'.out, HB.out _⟩
      · obtain rfl : m = len := by omega
        obtain rfl : cap = m := by omega
        obtain rfl := HD.out rfl
        have HN : Hid (∀ w', Rv w' (.slice a 0 0) []) := fun w' => Rv.nothing a 0 (by simp) (fun _ => rfl) (fun x _ h => by omega)
        clear HR HD h3 h4 HK
        have q0 : (0 : Int) ≤ (cap : Int) := by omega
        cases a with
        | none =>
          go_enter Tryd.func43, Tryd.ntmps43
          go_wp2
          go_region_held3 (fun w' => w'.cell? ⟨w.heap.size, 0, none⟩ = some (.slice none cap cap) ∧ (convert 22 9 (.slice none cap cap)).run Tryd.prog w' = .ok (.string T) w') (exact HS.out _) (fail)
          all_goals
            go_wp2
            exact bodyPost_ret (v := .tuple #[.agg #[.slice none 0 0, .int .i64 0], .string T]) (by simp [results, Tryd.results43, go_sem]) rfl ⟨_, rfl, fun W _ => HN.out W, HB.out _⟩
        | some x =>
          obtain ⟨b, off, spot⟩ := x
          go_enter Tryd.func43, Tryd.ntmps43
          go_wp2
          go_region_held3 (fun w' => w'.cell? ⟨w.heap.size, 0, none⟩ = some (.slice (some ⟨b, off, spot⟩) cap cap) ∧ (convert 22 9 (.slice (some ⟨b, off, spot⟩) cap cap)).run Tryd.prog w' = .ok (.string T) w') (exact HS.out _) (fail)
          all_goals
            go_wp2
            exact bodyPost_ret (v := .tuple #[.agg #[.slice (some ⟨b, off, spot⟩) 0 0, .int .i64 0], .string T]) (by simp [results, Tryd.results43, go_sem]) rfl ⟨_, rfl, fun W _ => HN.out W, HB.out _⟩

/-- The cells of a new block of two. -/
theorem new_two (w : World) (u v : Value) (w' : World) (hb : Below (w.heap.size + 1) (w.alloc (.cells #[u, v] 78)) w') :
    w'.cell? ⟨w.heap.size, 0, none⟩ = some u ∧ w'.cell? ⟨w.heap.size, 1, none⟩ = some v ∧ w'.frozen? ⟨w.heap.size, 0, none⟩ = false ∧ w'.frozen? ⟨w.heap.size, 1, none⟩ = false := by
  refine ⟨?_, ?_, ?_, ?_⟩
  · rw [hb.cell (p := ⟨w.heap.size, 0, none⟩) (by simp), World.cell?_alloc_at _ _ _ _ rfl]; rfl
  · rw [hb.cell (p := ⟨w.heap.size, 1, none⟩) (by simp), World.cell?_alloc_at _ _ _ _ rfl]; rfl
  · rw [hb.frozen (p := ⟨w.heap.size, 0, none⟩) (by simp)]; exact World.frozen?_alloc_new ..
  · rw [hb.frozen (p := ⟨w.heap.size, 1, none⟩) (by simp)]; exact World.frozen?_alloc_new ..
end Go.Proofs.YtjiefndjgkhcjaaDoor.Fi

namespace Go.Proofs.YtjiefndjgkhcjaaDoor.Fi
open Go.RowKit
set_option maxRecDepth 100000

end Go.Proofs.YtjiefndjgkhcjaaDoor.Fi

namespace Go.Proofs.YtjiefndjgkhcjaaDoor.Fi
open Go.RowKit
set_option maxRecDepth 100000

theorem rt_cases (xs : List Int) (most : Int) (hb : ∀ i, 0 ≤ xs.getD i 0 ∧ xs.getD i 0 < 256) :
    (naE xs most ≠ 0 ∧ txE xs most = naE xs most ∧ txS xs most = [] ∧ txR xs most = xs ∧ naN xs most = 0) ∨
    (naE xs most = 0 ∧ raE (xs.drop (naU xs most).toNat) (naN xs most) = 3 ∧ txE xs most = 3 ∧ txS xs most = [] ∧ txR xs most = xs) ∨
    (naE xs most = 0 ∧ raE (xs.drop (naU xs most).toNat) (naN xs most) = 0 ∧ txE xs most = 0 ∧ txS xs most = (xs.drop (naU xs most).toNat).take (raN (xs.drop (naU xs most).toNat) (naN xs most)) ∧
      txR xs most = (xs.drop (naU xs most).toNat).drop (raN (xs.drop (naU xs most).toNat) (naN xs most))) := by
  have bd := na_bd xs most hb
  by_cases h : naE xs most = 0
  · by_cases h2 : naU xs most + naN xs most ≤ xs.length
    · have e1 : txE xs most = 0 := by unfold txE; rw [if_pos h, if_pos h2]
      have e2 : raE (xs.drop (naU xs most).toNat) (naN xs most) = 0 := by unfold raE; rw [if_neg (by omega), if_neg (by rw [List.length_drop]; omega)]
      refine .inr (.inr ⟨h, e2, e1, ?_, ?_⟩)
      · unfold txS raN; rw [if_pos e1, if_pos e2]
      · unfold txR raN; rw [if_pos e1, if_pos e2, List.drop_drop]
    · have e1 : txE xs most = 3 := by unfold txE; rw [if_pos h, if_neg h2]
      have e2 : raE (xs.drop (naU xs most).toNat) (naN xs most) = 3 := by unfold raE; rw [if_neg (by omega), if_pos (by rw [List.length_drop]; omega)]
      refine .inr (.inl ⟨h, e2, e1, ?_, ?_⟩)
      · unfold txS; rw [e1, if_neg (by decide)]
      · unfold txR; rw [e1, if_neg (by decide)]
  · have e1 : txE xs most = naE xs most := by unfold txE; rw [if_neg h]
    refine .inl ⟨h, e1, ?_, ?_, ?_⟩
    · unfold txS; rw [e1, if_neg h]
    · unfold txR; rw [e1, if_neg h]
    · unfold naN; rw [if_neg h]

theorem new_pair (w : World) (u v u' v' : Value) (w' : World) (hb : Below (w.heap.size + 2) ((w.alloc (.cells #[u, v] 78)).alloc (.cells #[u', v'] 78)) w') :
    w'.cell? ⟨w.heap.size, 0, none⟩ = some u ∧ w'.cell? ⟨w.heap.size, 1, none⟩ = some v ∧ w'.cell? ⟨w.heap.size + 1, 0, none⟩ = some u' ∧ w'.cell? ⟨w.heap.size + 1, 1, none⟩ = some v' ∧
    w'.frozen? ⟨w.heap.size + 1, 0, none⟩ = false ∧ w'.frozen? ⟨w.heap.size + 1, 1, none⟩ = false := by
  have hz : (w.alloc (.cells #[u, v] 78)).heap.size = w.heap.size + 1 := by simp
  have h2 := new_two (w.alloc (.cells #[u, v] 78)) u' v' w' (by rw [hz]; exact hb)
  rw [hz] at h2
  obtain ⟨c0, c1, f0, f1⟩ := h2
  refine ⟨?_, ?_, c0, c1, f0, f1⟩
  · rw [hb.cell (p := ⟨w.heap.size, 0, none⟩) (by simp), World.cell?_alloc_past _ _ _ (by simp), World.cell?_alloc_at _ _ _ _ rfl]; rfl
  · rw [hb.cell (p := ⟨w.heap.size, 1, none⟩) (by simp), World.cell?_alloc_past _ _ _ (by simp), World.cell?_alloc_at _ _ _ _ rfl]; rfl

end Go.Proofs.YtjiefndjgkhcjaaDoor.Fi

namespace Go.Proofs.YtjiefndjgkhcjaaDoor.Fi
open Go.RowKit
set_option maxRecDepth 100000

theorem wpList_append_sl {w : World} {ops : Array Oper} {rest : List Oper} {o : Oper} {a : Act} {Q : Exit → Act → World → Prop} (hgd : o.guard = none) (s x : Operand)
    (ho : o.op = .call { callee := .builtin .append, args := #[s, x], argTypes := #[22, 22] })
    (base : Nat) (v : Value) (n : Nat) (xs : List Value) (hs : a.eval s = v) (hown : w.ownsRow base 5 1 v n xs)
    (src : Value) (Z : List Int) (hx : a.eval x = src) (hsl : Sl w src Z) (hbig : n + Z.length ≤ 200000000000000) (hbase : base ≤ w.heap.size)
    (h : ∀ v' w', w'.ownsRow base 5 1 v' (n + Z.length) (xs ++ Z.map (Value.int .u8)) → w.grownBy w' v.ownBlock → wpList Tryd.prog ops Q rest (a.put o.dst v') w') : wpList Tryd.prog ops Q (o :: rest) a w := by
  obtain ⟨i0, hi, hz0, hz1, hz2⟩ := info_parts info5'
  obtain ⟨ad, cap, rfl, h1, h2, h3, h4⟩ := hsl
  cases ad with
  | none =>
    obtain rfl := h3 rfl
    obtain rfl : Z = [] := List.length_eq_zero_iff.1 (by omega)
    refine wpList_append_own_none hgd s x 22 ho base 5 i0 1 Tryd.underlying22 hi v n xs hs hown hx ?_
    exact h v w (by simpa using hown) ⟨rfl, rfl, rfl, Nat.le_refl _, fun _ _ _ => rfl⟩
  | some y =>
    refine wpList_append_own_wide w hgd s x 22 ho base 5 i0 (.int .u8 0) 1 1 Tryd.underlying22 hi hz0 hz1 hz2 rfl (by decide) v n xs hs hown y Z.length cap (Z.map (Value.int .u8)) hx (by rw [List.length_map, Nat.mul_one]) (news_row h4) (ints_one Z) (by unfold maxLen; omega) (by omega) hbase ?_
    intro v' w' ho' hg _
    exact h v' w' ho' hg

/-- What both readers leave and answer, by what the call is. -/
def stX (q : Nat) (xs : List Int) (e m : Int) : List Int :=
  if e = 0 then (match q with | 0 => xs.drop (naU xs m).toNat | 1 => txR xs m | 2 => xs.drop (raN xs m) | _ => xs.drop (raN xs 1)) else xs
def stE (q : Nat) (xs : List Int) (e m : Int) : Int :=
  if e = 0 then (match q with | 0 => naE xs m | 1 => txE xs m | 2 => raE xs m | _ => raE xs 1) else e
def vN (xs : List Int) (e m : Int) : Int := if e = 0 then naN xs m else 0
def vT (xs : List Int) (e m : Int) : ByteArray := if e = 0 then strB (txS xs m) else strB []
def vR (xs : List Int) (e m : Int) : ByteArray := if e = 0 then strB (xs.take (raN xs m)) else strB []
def vB (xs : List Int) (e : Int) : Int := if e = 0 then byV xs else 0

theorem n_real (g s : Nat) (xs : List Int) (e m : Int) (w : World) (hw : Wid w) (h : Rd w g s xs e) :
    Calls Tryd.prog 38 #[.pointer (some ⟨g, 0, none⟩), .int .i64 m] w fun r w' => r = .returned (.int .i64 (vN xs e m)) ∧ Rd w' g s (stX 0 xs e m) (stE 0 xs e m) ∧ Off g w w' := by
  unfold vN stX stE
  by_cases he : e = 0
  · subst he; exact num_any g s xs m w hw h
  · rw [if_neg he, if_neg he, if_neg he]
    refine (num_stop g s xs e m w h he).mono ?_
    rintro r w' ⟨rfl, rfl⟩
    exact ⟨rfl, h, Off.refl _ _⟩
theorem r_real (g s : Nat) (xs : List Int) (e m : Int) (w : World) (h : Rd w g s xs e) :
    Calls Tryd.prog 61 #[.pointer (some ⟨g, 0, none⟩), .int .i64 m] w fun r w' => r = .returned (.string (vR xs e m)) ∧ Rd w' g s (stX 2 xs e m) (stE 2 xs e m) ∧ Off g w w' := by
  unfold vR stX stE
  by_cases he : e = 0
  · subst he; exact raw_any g s xs m w h
  · rw [if_neg he, if_neg he, if_neg he]
    refine (raw_stop g s xs e m w h he).mono ?_
    rintro r w' ⟨rfl, rfl⟩
    exact ⟨rfl, h, Off.refl _ _⟩
theorem b_real (g s : Nat) (xs : List Int) (e m : Int) (w : World) (h : Rd w g s xs e) :
    Calls Tryd.prog 60 #[.pointer (some ⟨g, 0, none⟩)] w fun r w' => r = .returned (.int .u8 (vB xs e)) ∧ Rd w' g s (stX 3 xs e m) (stE 3 xs e m) ∧ Off g w w' := by
  unfold vB stX stE
  by_cases he : e = 0
  · subst he; exact byte_any g s xs w h
  · rw [if_neg he, if_neg he, if_neg he]
    refine (byte_stop g s xs e w h he).mono ?_
    rintro r w' ⟨rfl, rfl⟩
    exact ⟨rfl, h, Off.refl _ _⟩

/-- What a call of the document's reader leaves: a slice, of which the same holds in every world where it held of the one before. -/
def Left (a : Option Addr) (c : Nat) (xs : List Int) (v : Value) (X : List Int) : Prop := ∃ a' c', v = .slice a' X.length c' ∧ ∀ W, Rv W (.slice a xs.length c) xs → Rv W (.slice a' X.length c') X
theorem left_of {w : World} {a : Option Addr} {c : Nat} {xs X : List Int} {v : Value} (h : Rv w (.slice a xs.length c) xs) (hv : ∀ W, Rv W (.slice a xs.length c) xs → Rv W v X) : Left a c xs v X := by
  obtain ⟨a', c', rfl, _⟩ := hv w h
  exact ⟨a', c', rfl, hv⟩
theorem left_same (a : Option Addr) (c : Nat) (xs : List Int) : Left a c xs (.slice a xs.length c) xs := ⟨a, c, rfl, fun _ h => h⟩

theorem n_doc (a : Option Addr) (c : Nat) (xs : List Int) (e m : Int) (w : World) (h : Rv w (.slice a xs.length c) xs) :
    Calls Tryd.prog 42 #[.agg #[.slice a xs.length c, .int .i64 e], .int .i64 m] w fun r w' => ∃ v, r = .returned (.tuple #[.agg #[v, .int .i64 (stE 0 xs e m)], .int .i64 (vN xs e m)]) ∧ Left a c xs v (stX 0 xs e m) ∧ Below w.heap.size w w' := by
  unfold vN stX stE
  by_cases he : e = 0
  · subst he
    refine (rnum_any a c xs m w h).mono ?_
    rintro r w' ⟨v, rfl, hv, b⟩
    exact ⟨v, rfl, left_of h hv, b⟩
  · rw [if_neg he, if_neg he, if_neg he]
    refine (rnum_stop a _ c e m w he).mono ?_
    rintro r w' ⟨rfl, b⟩
    exact ⟨_, rfl, left_same a c xs, b⟩
theorem r_doc (a : Option Addr) (c : Nat) (xs : List Int) (e m : Int) (w : World) (h : Rv w (.slice a xs.length c) xs) :
    Calls Tryd.prog 43 #[.agg #[.slice a xs.length c, .int .i64 e], .int .i64 m] w fun r w' => ∃ v, r = .returned (.tuple #[.agg #[v, .int .i64 (stE 2 xs e m)], .string (vR xs e m)]) ∧ Left a c xs v (stX 2 xs e m) ∧ Below w.heap.size w w' := by
  unfold vR stX stE
  by_cases he : e = 0
  · subst he
    refine (rraw_any a c xs m w h).mono ?_
    rintro r w' ⟨v, rfl, hv, b⟩
    exact ⟨v, rfl, left_of h hv, b⟩
  · rw [if_neg he, if_neg he, if_neg he]
    refine (rraw_stop a _ c e m w he).mono ?_
    rintro r w' ⟨rfl, b⟩
    exact ⟨_, rfl, left_same a c xs, b⟩
end Go.Proofs.YtjiefndjgkhcjaaDoor.Fi
