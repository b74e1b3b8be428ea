/-
  What Same answers.
-/
import Derived.Test.YtgnampbbkaolmaaDoorXw
import Derived.Deep.QuietTactic
import Derived.BigQuiet
import Derived.Deep.RegionHeld3
namespace Go.Proofs.YtgnampbbkaolmaaDoor
open Go.RowKit
set_option maxRecDepth 100000

/-- A value that is an operation. -/
def XV (w : World) (v : Value) (x : Xp) : Prop := ∃ ua un uc, v = .agg #[.bool x.c, .int .i64 x.a, .int .i64 x.n, .slice ua un uc] ∧ Sl w (.slice ua un uc) x.d
theorem XV.kept {w w' : World} {v : Value} {x : Xp} (h : XV w v x) (hb : Below w.heap.size w w') : XV w' v x := by
  obtain ⟨ua, un, uc, h1, h2⟩ := h
  exact ⟨ua, un, uc, h1, h2.kept hb⟩
set_option maxHeartbeats 2000000 in
theorem sameOp_any (v u : Value) (x y : Xp) (w : World) (h1 : XV w v x) (h2 : XV w u y) :
    Calls Tryd.prog 40 #[v, u] w fun e w' => e = .returned (.bool (samX x y)) ∧ Below w.heap.size w w' := by
  obtain ⟨ua, un, uc, rfl, s1⟩ := h1
  obtain ⟨va, vn, vc, rfl, s2⟩ := h2
  have HE : Hid (∀ W, Below w.heap.size w W → Calls Tryd.prog 63 #[.slice ua un uc, .slice va vn vc] W fun r w' => r = .returned (.bool (decide (x.d = y.d))) ∧ w' = W) := fun W hb => equal_any _ _ _ _ W (s1.kept hb) (s2.kept hb)
  have HR : Hid (samX x y = (decide (x.c = y.c) && decide (x.a = y.a) && decide (x.n = y.n) && decide (x.d = y.d))) := rfl
  have B2 : Hid (Below w.heap.size w ((w.alloc (.cells #[.bool x.c, .int .i64 x.a, .int .i64 x.n, .slice ua un uc] 63)).alloc (.cells #[.bool y.c, .int .i64 y.a, .int .i64 y.n, .slice va vn vc] 63))) := ((Below.refl _ _).alloc (Nat.le_refl _) _).alloc (by simp) _
  generalize samX x y = r at *
  have tc : (x.c == y.c) = decide (x.c = y.c) := by cases x.c <;> cases y.c <;> rfl
  have ta : (x.a == y.a) = decide (x.a = y.a) := by by_cases e : x.a = y.a <;> simp [e]
  have tn : (x.n == y.n) = decide (x.n = y.n) := by by_cases e : x.n = y.n <;> simp [e]
  generalize decide (x.c = y.c) = t1 at *
  generalize decide (x.a = y.a) = t2 at *
  generalize decide (x.n = y.n) = t3 at *
  generalize decide (x.d = y.d) = t4 at *
  generalize x.c = xc at *
  generalize x.a = xa at *
  generalize x.n = xn at *
  generalize y.c = yc at *
  generalize y.a = ya at *
  generalize y.n = yn at *
  have c := HE.out _ B2.out
  clear s1 s2 HE
  cases t1 with
  | false =>
    go_enter Tryd.func40, Tryd.ntmps40
    go_wp2
    go_ret
    exact ⟨by rw [HR.out]; rfl, B2.out⟩
  | true =>
    cases t2 with
    | false =>
      go_enter Tryd.func40, Tryd.ntmps40
      go_wp2
      go_ret
      exact ⟨by rw [HR.out]; rfl, B2.out⟩
    | true =>
      cases t3 with
      | false =>
        go_enter Tryd.func40, Tryd.ntmps40
        go_wp2
        go_ret
        exact ⟨by rw [HR.out]; rfl, B2.out⟩
      | true =>
        go_enter Tryd.func40, Tryd.ntmps40
        go_wp2_with (go_at_call 63; refine c.mono ?_; rintro e w' ⟨rfl, rfl⟩)
        go_ret
        exact ⟨by rw [HR.out]; rfl, B2.out⟩
theorem saX_hit (l m : List Xp) (j : Nat) (h : samX (atX l j) (atX m j) = false) : saX l m = false := by
  cases hb : saX l m with
  | false => rfl
  | true =>
    rw [(saX_iff l m).1 hb, (samX_iff _ _).2 rfl] at h
    cases h
theorem saX_ok (l m : List Xp) (hl : l.length = m.length) (h : ∀ k, k < l.length → samX (atX l k) (atX m k) = true) : saX l m = true := by
  unfold saX
  rw [Bool.and_eq_true, decide_eq_true_eq, List.all_eq_true]
  exact ⟨hl, fun i hi => h i (List.mem_range.1 hi)⟩
set_option maxHeartbeats 1000000 in
theorem equalFunc_any (v u : Value) (l m : List Xp) (w : World) (h1 : XS w v l) (h2 : XS w u m) (hl : l.length ≤ 100000) (hm : m.length ≤ 100000) :
    Calls Tryd.prog 39 #[v, u, .func (.func 40) #[] #[]] w fun e w' => e = .returned (.bool (saX l m)) ∧ Below w.heap.size w w' := by
  obtain ⟨a, c, rfl, g2, _, _⟩ := h1.shape
  obtain ⟨a', c', rfl, g2', _, _⟩ := h2.shape
  have H1 : Hid (XS w (.slice a l.length c) l) := h1
  have H2 : Hid (XS w (.slice a' m.length c') m) := h2
  have HHIT : Hid (∀ j, samX (atX l j) (atX m j) = false → saX l m = false) := saX_hit l m
  have HOK : Hid (l.length = m.length → (∀ k, k < l.length → samX (atX l k) (atX m k) = true) → saX l m = true) := saX_ok l m
  have HNE : Hid (l.length ≠ m.length → saX l m = false) := fun h => by unfold saX; rw [decide_eq_false h]; rfl
  obtain ⟨n, hn⟩ : ∃ n, n = l.length := ⟨_, rfl⟩
  obtain ⟨k, hk⟩ : ∃ k, k = m.length := ⟨_, rfl⟩
  have HN : Hid (n = l.length) := hn
  have HK : Hid (k = m.length) := hk
  rw [← hn] at H1 HOK HNE hl g2 ⊢
  rw [← hk] at H2 HOK HNE hm g2' ⊢
  clear h1 h2 hn hk
  generalize saX l m = r at *
  by_cases hnk : n = k
  · subst hnk
    have HOK2 : Hid ((∀ k, k < n → samX (atX l k) (atX m k) = true) → r = true) := HOK.out rfl
    clear HOK HNE
    go_enter Tryd.func39, Tryd.ntmps39
    go_wp2
    go_loopw [17] (fun q wr => ∃ j : Nat, j ≤ n ∧ q = .int .i64 j ∧ (∀ k, k < j → samX (atX l k) (atX m k) = true) ∧ Below w.heap.size w wr) (fun q _ => n - (intOf q).toNat)
    case atStart => exact ⟨0, by omega, rfl, fun k hk => by omega, Below.refl _ _⟩
    case round =>
      obtain ⟨j, hj, rfl, ok, bel⟩ := hrel
      have HB : Hid (Below w.heap.size w wr) := bel
      have OK : Hid (∀ k, k < j → samX (atX l k) (atX m k) = true) := ok
      clear bel ok
      by_cases hlt : j < n
      · have lt2 : (j : Int) < (n : Int) := by omega
        obtain ⟨b, off, ua, un, uc, rfl, c0, c1, c2, c3, hun, s1⟩ := (H1.out.kept HB.out).at j (by rw [← HN.out]; exact hlt)
        obtain ⟨b', off', va, vn, vc, rfl, d0, d1, d2, d3, hvn, s2⟩ := (H2.out.kept HB.out).at j (by rw [← HK.out]; exact hlt)
        have q1 : IntKind.i64.wrap ((j : Int) + 1) = ((j + 1 : Nat) : Int) := by simp [IntKind.wrap, IntKind.bits, IntKind.signed]; omega
        have HS1 : Hid (XV wr (.agg #[.bool (atX l j).c, .int .i64 (atX l j).a, .int .i64 (atX l j).n, .slice ua un uc]) (atX l j)) := ⟨ua, un, uc, rfl, s1⟩
        have HS2 : Hid (XV wr (.agg #[.bool (atX m j).c, .int .i64 (atX m j).a, .int .i64 (atX m j).n, .slice va vn vc]) (atX m j)) := ⟨va, vn, vc, rfl, s2⟩
        obtain ⟨W2, hW2⟩ : ∃ W2, W2 = (wr.alloc (.cells #[.bool (atX l j).c, .int .i64 (atX l j).a, .int .i64 (atX l j).n, .slice ua un uc] 63)).alloc (.cells #[.bool (atX m j).c, .int .i64 (atX m j).a, .int .i64 (atX m j).n, .slice va vn vc] 63) := ⟨_, rfl⟩
        have b2 : Below wr.heap.size wr W2 := by rw [hW2]; exact ((Below.refl _ _).alloc (Nat.le_refl _) _).alloc (by simp) _
        have B2 : Hid (Below w.heap.size w W2) := HB.out.trans (b2.mono HB.out.size)
        have CS := sameOp_any _ _ _ _ W2 (HS1.out.kept b2) (HS2.out.kept b2)
        have d0' : (wr.alloc (.cells #[.bool (atX l j).c, .int .i64 (atX l j).a, .int .i64 (atX l j).n, .slice ua un uc] 63)).cell? ⟨b', off' + j * 4, none⟩ = some (.bool (atX m j).c) := by rw [World.cell?_alloc_past _ _ _ (World.block_lt_of_cell? _ _ d0)]; exact d0
        have d1' : (wr.alloc (.cells #[.bool (atX l j).c, .int .i64 (atX l j).a, .int .i64 (atX l j).n, .slice ua un uc] 63)).cell? ⟨b', off' + j * 4 + 1, none⟩ = some (.int .i64 (atX m j).a) := by rw [World.cell?_alloc_past _ _ _ (World.block_lt_of_cell? _ _ d1)]; exact d1
        have d2' : (wr.alloc (.cells #[.bool (atX l j).c, .int .i64 (atX l j).a, .int .i64 (atX l j).n, .slice ua un uc] 63)).cell? ⟨b', off' + j * 4 + 2, none⟩ = some (.int .i64 (atX m j).n) := by rw [World.cell?_alloc_past _ _ _ (World.block_lt_of_cell? _ _ d2)]; exact d2
        have d3' : (wr.alloc (.cells #[.bool (atX l j).c, .int .i64 (atX l j).a, .int .i64 (atX l j).n, .slice ua un uc] 63)).cell? ⟨b', off' + j * 4 + 3, none⟩ = some (.slice va vn vc) := by rw [World.cell?_alloc_past _ _ _ (World.block_lt_of_cell? _ _ d3)]; exact d3
        have HF : Hid (samX (atX l j) (atX m j) = false → r = false) := HHIT.out j
        have NX : Hid (samX (atX l j) (atX m j) = true → ∀ k, k < j + 1 → samX (atX l k) (atX m k) = true) := fun h k hk => by
          rcases Nat.lt_or_ge k j with h' | h'
          · exact OK.out k h'
          · rw [show k = j by omega]; exact h
        clear b2 s1 s2 HS1 HS2 d0 d1 d2 d3 OK hun hvn HHIT
        generalize atX l j = x at *
        generalize atX m j = y at *
        generalize hsb : samX x y = sb at *
        clear hsb
        go_wp2_with fail
        rw [← hW2]
        clear hW2
        refine CS.mono ?_
        rintro e w3 ⟨rfl, b3⟩
        have B3 : Hid (Below w.heap.size w w3) := B2.out.trans (b3.mono B2.out.size)
        clear b3 CS
        cases sb with
        | true =>
          have NX2 : Hid (∀ k, k < j + 1 → samX (atX l k) (atX m k) = true) := NX.out rfl
          clear NX HF
          go_wp2
          go_roundw
          case rel => exact ⟨j + 1, by omega, by go_num, NX2.out, B3.out⟩
          case measure => simp [intOf]; omega
        | false =>
          have HF2 : Hid (r = false) := HF.out rfl
          clear NX HF
          go_wp2
          go_ret
          exact ⟨by rw [HF2.out]; rfl, B3.out⟩
      · obtain rfl : j = n := by omega
        have hr := HOK2.out OK.out
        have HR : Hid (r = true) := hr
        clear hr HOK2 HHIT OK
        go_wp2
        go_ret
        exact ⟨by rw [HR.out]; rfl, HB.out⟩
  · have hr := HNE.out hnk
    have HR : Hid (r = false) := hr
    have t0 : ((n : Int) != (k : Int)) = true := by simp; omega
    clear hr HNE HOK HHIT
    go_enter Tryd.func39, Tryd.ntmps39
    go_wp2
    go_ret
    exact ⟨by rw [HR.out]; rfl, Below.refl _ _⟩
set_option maxHeartbeats 1000000 in
theorem same_any (v u : Value) (l m : List Xp) (w : World) (h1 : XS w v l) (h2 : XS w u m) (hl : l.length ≤ 100000) (hm : m.length ≤ 100000) :
    Calls Tryd.prog 20 #[v, u] w fun e w' => e = .returned (.bool (saX l m)) ∧ Below w.heap.size w w' := by
  have c := equalFunc_any v u l m w h1 h2 hl hm
  generalize saX l m = r at *
  clear h1 h2 hl hm
  go_enter Tryd.func20, Tryd.ntmps20
  go_wp2_with fail
  refine c.mono ?_
  rintro e w1 ⟨rfl, b1⟩
  clear c
  go_wp2
  go_ret
  exact ⟨rfl, b1⟩
end Go.Proofs.YtgnampbbkaolmaaDoor
