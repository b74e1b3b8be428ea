/-
  What the document's Same answers.
-/
import Derived.Test.YtfccjeepmhgckaaDoorSm
import Derived.Deep.QuietTactic
import Derived.BigQuiet
import Derived.Deep.RegionHeld3
namespace Go.Proofs.YtfccjeepmhgckaaDoor
open Go.RowKit
set_option maxRecDepth 100000

set_option maxHeartbeats 2000000 in
theorem rsameOp_any (v u : Value) (x y : Xp) (w : World) (h1 : XV w v x) (h2 : XV w u y) :
    Calls Tryd.prog 21 #[v, u] w fun e w' => e = .returned (.bool (samX x y)) ∧ Below w.heap.size w w' := by
  obtain ⟨ua, un, uc, rfl, s1⟩ := h1
  obtain ⟨va, vn, vc, rfl, s2⟩ := h2
  have tz := strB_beq s1.bytes s2.bytes
  have HR : Hid (samX x y = (decide (x.c = y.c) && decide (x.a = y.a) && decide (x.n = y.n) && decide (x.d = y.d))) := rfl
  have B2 : Hid (Below w.heap.size w ((w.alloc (.cells #[.bool x.c, .int .i64 x.a, .int .i64 x.n, .slice ua un uc] 46)).alloc (.cells #[.bool y.c, .int .i64 y.a, .int .i64 y.n, .slice va vn vc] 46))) := ((Below.refl _ _).alloc (Nat.le_refl _) _).alloc (by simp) _
  have v1 := (s1.kept B2.out).conv
  have v2 := (s2.kept B2.out).conv
  generalize samX x y = r at *
  have tc : (x.c == y.c) = decide (x.c = y.c) := by cases x.c <;> cases y.c <;> rfl
  have ta : (x.a == y.a) = decide (x.a = y.a) := by by_cases e : x.a = y.a <;> simp [e]
  have tn : (x.n == y.n) = decide (x.n = y.n) := by by_cases e : x.n = y.n <;> simp [e]
  generalize decide (x.c = y.c) = t1 at *
  generalize decide (x.a = y.a) = t2 at *
  generalize decide (x.n = y.n) = t3 at *
  generalize decide (x.d = y.d) = t4 at *
  generalize x.c = xc at *
  generalize x.a = xa at *
  generalize x.n = xn at *
  generalize y.c = yc at *
  generalize y.a = ya at *
  generalize y.n = yn at *
  generalize strB x.d = xs at *
  generalize strB y.d = ys at *
  clear s1 s2
  cases t1 with
  | false =>
    go_enter Tryd.func21, Tryd.ntmps21
    go_wp2
    go_ret
    exact ⟨by rw [HR.out]; rfl, B2.out⟩
  | true =>
    cases t2 with
    | false =>
      go_enter Tryd.func21, Tryd.ntmps21
      go_wp2
      go_ret
      exact ⟨by rw [HR.out]; rfl, B2.out⟩
    | true =>
      cases t3 with
      | false =>
        go_enter Tryd.func21, Tryd.ntmps21
        go_wp2
        go_ret
        exact ⟨by rw [HR.out]; rfl, B2.out⟩
      | true =>
        go_enter Tryd.func21, Tryd.ntmps21
        go_wp2
        go_ret
        exact ⟨by rw [HR.out]; rfl, B2.out⟩
set_option maxHeartbeats 2000000 in
theorem rsame_any (v u : Value) (l m : List Xp) (w : World) (h1 : XS w v l) (h2 : XS w u m) (hl : l.length ≤ 100000) (hm : m.length ≤ 100000) :
    Calls Tryd.prog 9 #[v, u] w fun e w' => e = .returned (.bool (saX l m)) ∧ Below w.heap.size w w' := by
  obtain ⟨a, c, rfl, g2, _, _⟩ := h1.shape
  obtain ⟨a', c', rfl, g2', _, _⟩ := h2.shape
  have H1 : Hid (XS w (.slice a l.length c) l) := h1
  have H2 : Hid (XS w (.slice a' m.length c') m) := h2
  have HHIT : Hid (∀ j, samX (atX l j) (atX m j) = false → saX l m = false) := saX_hit l m
  have HOK : Hid (l.length = m.length → (∀ k, k < l.length → samX (atX l k) (atX m k) = true) → saX l m = true) := saX_ok l m
  have HNE : Hid (l.length ≠ m.length → saX l m = false) := fun h => by unfold saX; rw [decide_eq_false h]; rfl
  obtain ⟨n, hn⟩ : ∃ n, n = l.length := ⟨_, rfl⟩
  obtain ⟨k, hk⟩ : ∃ k, k = m.length := ⟨_, rfl⟩
  have HN : Hid (n = l.length) := hn
  have HK : Hid (k = m.length) := hk
  rw [← hn] at H1 HOK HNE hl g2 ⊢
  rw [← hk] at H2 HOK HNE hm g2' ⊢
  clear h1 h2 hn hk
  generalize saX l m = r at *
  by_cases hnk : n = k
  · subst hnk
    have HOK2 : Hid ((∀ k, k < n → samX (atX l k) (atX m k) = true) → r = true) := HOK.out rfl
    clear HOK HNE
    go_enter Tryd.func9, Tryd.ntmps9
    go_wp2
    go_loopw [5] (fun q wr => ∃ j : Nat, j ≤ n ∧ q = .int .i64 j ∧ (∀ k, k < j → samX (atX l k) (atX m k) = true) ∧ Below w.heap.size w wr) (fun q _ => n - (intOf q).toNat)
    case atStart => exact ⟨0, by omega, rfl, fun k hk => by omega, Below.refl _ _⟩
    case round =>
      obtain ⟨j, hj, rfl, ok, bel⟩ := hrel
      have HB : Hid (Below w.heap.size w wr) := bel
      have OK : Hid (∀ k, k < j → samX (atX l k) (atX m k) = true) := ok
      clear bel ok
      by_cases hlt : j < n
      · have lt2 : (j : Int) < (n : Int) := by omega
        have g0 : (0 : Int) ≤ (j : Int) := by omega
        obtain ⟨b, off, ua, un, uc, rfl, c0, c1, c2, c3, hun, s1⟩ := (H1.out.kept HB.out).at j (by rw [← HN.out]; exact hlt)
        obtain ⟨b', off', va, vn, vc, rfl, d0, d1, d2, d3, hvn, s2⟩ := (H2.out.kept HB.out).at j (by rw [← HK.out]; exact hlt)
        have q1 : IntKind.i64.wrap ((j : Int) + 1) = ((j + 1 : Nat) : Int) := by simp [IntKind.wrap, IntKind.bits, IntKind.signed]; omega
        have CS : Hid (∀ W, Below wr.heap.size wr W → Calls Tryd.prog 21 #[.agg #[.bool (atX l j).c, .int .i64 (atX l j).a, .int .i64 (atX l j).n, .slice ua un uc], .agg #[.bool (atX m j).c, .int .i64 (atX m j).a, .int .i64 (atX m j).n, .slice va vn vc]] W fun e w' => e = .returned (.bool (samX (atX l j) (atX m j))) ∧ Below W.heap.size W w') := fun W hb => rsameOp_any _ _ _ _ W ⟨ua, un, uc, rfl, s1.kept hb⟩ ⟨va, vn, vc, rfl, s2.kept hb⟩
        have HF : Hid (samX (atX l j) (atX m j) = false → r = false) := HHIT.out j
        have NX : Hid (samX (atX l j) (atX m j) = true → ∀ k, k < j + 1 → samX (atX l k) (atX m k) = true) := fun h k hk => by
          rcases Nat.lt_or_ge k j with h' | h'
          · exact OK.out k h'
          · rw [show k = j by omega]; exact h
        clear s1 s2 OK hun hvn HHIT
        generalize atX l j = x at *
        generalize atX m j = y at *
        generalize hsb : samX x y = sb at *
        clear hsb
        generalize x.c = xc at *
        generalize x.a = xa at *
        generalize x.n = xn at *
        generalize y.c = yc at *
        generalize y.a = ya at *
        generalize y.n = yn at *
        have HP : Hid (∀ W, Below wr.heap.size wr W → (W.cell? ⟨b, off + j * 4, none⟩ = some (.bool xc) ∧ W.cell? ⟨b, off + j * 4 + 1, none⟩ = some (.int .i64 xa) ∧ W.cell? ⟨b, off + j * 4 + 2, none⟩ = some (.int .i64 xn) ∧ W.cell? ⟨b, off + j * 4 + 3, none⟩ = some (.slice ua un uc)) ∧ W.cell? ⟨b', off' + j * 4, none⟩ = some (.bool yc) ∧ W.cell? ⟨b', off' + j * 4 + 1, none⟩ = some (.int .i64 ya) ∧ W.cell? ⟨b', off' + j * 4 + 2, none⟩ = some (.int .i64 yn) ∧ W.cell? ⟨b', off' + j * 4 + 3, none⟩ = some (.slice va vn vc)) := fun W hb => ⟨⟨(hb.cell (World.block_lt_of_cell? _ _ c0)).trans c0, (hb.cell (World.block_lt_of_cell? _ _ c1)).trans c1, (hb.cell (World.block_lt_of_cell? _ _ c2)).trans c2, (hb.cell (World.block_lt_of_cell? _ _ c3)).trans c3⟩, (hb.cell (World.block_lt_of_cell? _ _ d0)).trans d0, (hb.cell (World.block_lt_of_cell? _ _ d1)).trans d1, (hb.cell (World.block_lt_of_cell? _ _ d2)).trans d2, (hb.cell (World.block_lt_of_cell? _ _ d3)).trans d3⟩
        have cs := CS.out wr.drew (Below.refl _ _).drew
        clear CS
        go_wp2_with fail
        go_region_held3 (fun W => (W.cell? ⟨b, off + j * 4, none⟩ = some (.bool xc) ∧ W.cell? ⟨b, off + j * 4 + 1, none⟩ = some (.int .i64 xa) ∧ W.cell? ⟨b, off + j * 4 + 2, none⟩ = some (.int .i64 xn) ∧ W.cell? ⟨b, off + j * 4 + 3, none⟩ = some (.slice ua un uc)) ∧ W.cell? ⟨b', off' + j * 4, none⟩ = some (.bool yc) ∧ W.cell? ⟨b', off' + j * 4 + 1, none⟩ = some (.int .i64 ya) ∧ W.cell? ⟨b', off' + j * 4 + 2, none⟩ = some (.int .i64 yn) ∧ W.cell? ⟨b', off' + j * 4 + 3, none⟩ = some (.slice va vn vc)) (first | exact HP.out _ (Below.refl _ _) | exact HP.out _ (Below.refl _ _).drew | exact HP.out _ d5) (first
          | (go_at_call 21; refine cs.mono ?_; rintro e w3 ⟨rfl, b3⟩; have d5 : Below wr.heap.size wr w3 := (Below.refl wr.heap.size wr).drew.trans b3))
        have B3 : Hid (Below w.heap.size w w3) := HB.out.trans (d5.mono HB.out.size)
        clear b3 d5 cs HP c0 c1 c2 c3 d0 d1 d2 d3
        cases sb with
        | true =>
          have NX2 : Hid (∀ k, k < j + 1 → samX (atX l k) (atX m k) = true) := NX.out rfl
          clear NX HF
          go_wp2
          go_roundw
          case rel => exact ⟨j + 1, by omega, by go_num, NX2.out, B3.out⟩
          case measure => simp [intOf]; omega
        | false =>
          have HF2 : Hid (r = false) := HF.out rfl
          clear NX HF
          go_wp2
          go_ret
          exact ⟨by rw [HF2.out]; rfl, B3.out⟩
      · obtain rfl : j = n := by omega
        have hr := HOK2.out OK.out
        have HR : Hid (r = true) := hr
        clear hr HOK2 HHIT OK
        go_wp2
        go_ret
        exact ⟨by rw [HR.out]; rfl, HB.out⟩
  · have hr := HNE.out hnk
    have HR : Hid (r = false) := hr
    have t0 : ((n : Int) != (k : Int)) = true := by simp; omega
    clear hr HNE HOK HHIT
    go_enter Tryd.func9, Tryd.ntmps9
    go_wp2
    go_ret
    exact ⟨by rw [HR.out]; rfl, Below.refl _ _⟩
end Go.Proofs.YtfccjeepmhgckaaDoor
