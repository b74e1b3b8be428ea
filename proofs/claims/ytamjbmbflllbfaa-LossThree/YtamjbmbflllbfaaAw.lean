/-
  What awake answers.
-/
import Derived.Test.YtamjbmbflllbfaaLd
import Derived.Test.YtamjbmbflllbfaaLb
import Derived.Test.YtamjbmbflllbfaaLs
namespace Go.Proofs.Ytamjbmbflllbfaa
open Go.RowKit Go.Shelf
set_option maxRecDepth 100000

/-- Packets sent one behind the other at one time. -/
def iv (t z : Int) (a m : Nat) : List Pk := (List.range' a m).map fun (i : Nat) => (⟨(i : Int), t, z, true⟩ : Pk)
theorem iv_len (t z : Int) (a m : Nat) : (iv t z a m).length = m := by unfold iv; simp
theorem iv_app (t z : Int) (a m k : Nat) : iv t z a (m + k) = iv t z a m ++ iv t z (a + m) k := by
  unfold iv
  have e := List.range'_append (s := a) (m := m) (n := k) (step := 1)
  rw [Nat.one_mul] at e
  rw [← List.map_append, e]
theorem iv_one (t z : Int) (a : Nat) : iv t z a 1 = [⟨(a : Int), t, z, true⟩] := rfl
theorem iv_mem {t z : Int} {a m : Nat} {p : Pk} (h : p ∈ iv t z a m) : (a : Int) ≤ p.n ∧ p.n < (a : Int) + (m : Int) ∧ p.t = t ∧ p.z = z ∧ p.a = true := by
  unfold iv at h
  obtain ⟨i, hi, rfl⟩ := List.mem_map.1 h
  have := List.mem_range'_1.1 hi
  exact ⟨by simp only; omega, by simp only; omega, rfl, rfl, rfl⟩
def stT (t z : Int) (n : Nat) : Lg := ⟨iv t z 0 n, (n : Int) - 1, if n = 0 then 0 else t, -1⟩
theorem stT_next {t z : Int} {n : Nat} (hn : n < 1024) (t0 : 0 ≤ t) (t1 : t ≤ 1099511627776) (z0 : 1 ≤ z) (z1 : z ≤ 1200) : sendE (stT t z n) ⟨(n : Int), t, z, true⟩ = 0 ∧ sendL (stT t z n) ⟨(n : Int), t, z, true⟩ = stT t z (n + 1) := by
  have hm : mgo (stT t z n) ⟨(n : Int), t, z, true⟩ = true := by
    refine mgo_iff.2 ⟨⟨by simp only; omega, by simp only; omega⟩, ⟨t0, t1⟩, by show (n : Int) - 1 < (n : Int); omega, ?_, z0, z1⟩
    show (if n = 0 then 0 else t) ≤ t
    split <;> omega
  obtain ⟨e1, e2⟩ := sendE_yes hm (by show (iv t z 0 n).length ≠ 1024; rw [iv_len]; omega)
  refine ⟨e1, ?_⟩
  rw [e2]
  unfold stT
  rw [iv_app, iv_one, Nat.zero_add, if_neg (Nat.succ_ne_zero n)]
  simp only [Lg.mk.injEq, and_true, true_and]
  omega
theorem stT_zero (t z : Int) : stT t z 0 = lg0 := rfl
theorem ssp_one (w : World) (x : Sp) : SSp (w.alloc (.cells #[.int .i64 x.1, .int .i64 x.2] 45)) (.slice (some ⟨w.heap.size, 0, none⟩) 1 1) [x] := by
  refine ⟨_, 1, rfl, by simp, by unfold maxLen; omega, fun e => (by cases e), spc_cl [x], .inr ⟨w.heap.size, 0, rfl, fun i hi => ?_⟩⟩
  have : i = 0 := by simp at hi; exact hi
  subst this
  exact blk_range (cs := spc x) (heap_alloc_new _ _)
def aw1 : Lg := ackN (stT 0 100 5) [(4, 4)] 9
def aw2 : Lg := lostL aw1 9 20
theorem aw_facts : comE (stT 0 100 5) [(4, 4)] 9 = 0 ∧ ackR (stT 0 100 5) [(4, 4)] 9 = (9, true) ∧ ackG (stT 0 100 5) [(4, 4)] 9 = [⟨4, 0, 100, true⟩] ∧ lostP aw1 9 20 = [⟨0, 0, 100, true⟩, ⟨1, 0, 100, true⟩] ∧ nxt aw2 20 = (20, true) ∧ fly aw2.o = 200 := by decide +kernel
set_option maxHeartbeats 4000000 in
theorem awake_any (w : World) : Calls Try.prog 9 #[] w fun e w' => e = .returned (.bool true) ∧ Below w.heap.size w w' := by
  have cn := lnew_any w w.heap.size
  obtain ⟨hA, eA⟩ : ∃ x, x = w.heap.size := ⟨_, rfl⟩
  obtain ⟨z1, z2, z3, z4, z5, z6⟩ := aw_facts
  have HZ : Hid (comE (stT 0 100 5) [(4, 4)] 9 = 0 ∧ ackR (stT 0 100 5) [(4, 4)] 9 = (9, true) ∧ ackG (stT 0 100 5) [(4, 4)] 9 = [⟨4, 0, 100, true⟩] ∧ lostP aw1 9 20 = [⟨0, 0, 100, true⟩, ⟨1, 0, 100, true⟩] ∧ nxt aw2 20 = (20, true) ∧ fly aw2.o = 200) := ⟨z1, z2, z3, z4, z5, z6⟩
  have HEA : Hid (hA = w.heap.size) := eA
  rw [← eA] at cn
  clear z1 z2 z3 z4 z5 z6
  go_enter Try.func9, Try.ntmps9
  go_wp2_with fail
  refine cn.mono ?_
  rintro e w1 ⟨rfl, e1, ls⟩
  have b1 : Below w.heap.size w w1 := by rw [e1]; exact al_b _ _
  have HB1 : Hid (Below w.heap.size w w1) := b1
  have HL1 : Hid (LS w1 hA hA (.slice none 0 0) (stT 0 100 0)) := ls
  clear cn e1 ls b1 eA
  go_wp2
  go_loopw [2] (fun u wr => ∃ (j : Nat) (v : Value), j ≤ 5 ∧ u = .int .i64 j ∧ LS wr hA hA v (stT 0 100 j) ∧ Below w.heap.size w wr) (fun u _ => 5 - (intOf u).toNat)
  case atStart => exact ⟨0, _, by omega, rfl, HL1.out, HB1.out⟩
  case round =>
    obtain ⟨j, v, hj, rfl, ls, bel⟩ := hrel
    have HB : Hid (Below w.heap.size w wr) := bel
    have HL : Hid (LS wr hA hA v (stT 0 100 j)) := ls
    clear HL1 HB1
    by_cases hj5 : j < 5
    · have lt2 : (j : Int) < 5 := by omega
      have cs := sent_any wr hA hA v (stT 0 100 j) ⟨(j : Int), 0, 100, true⟩ ls (by have := HEA.out; have := bel.size; omega)
      obtain ⟨s1, s2⟩ := stT_next (t := 0) (z := 100) (n := j) (by omega) (by omega) (by omega) (by omega) (by omega)
      rw [s1, s2] at cs
      clear ls bel s1 s2
      go_wp2_with fail
      refine cs.mono ?_
      rintro e w2 ⟨rfl, v2, l2, u2⟩
      have HB2 : Hid (Below w.heap.size w w2) := u2.below HB.out HB.out.size (by have := HEA.out; omega) (fun k hk => by have := HL.out.rs.base hk; have := HEA.out; omega)
      have HL2 : Hid (LS w2 hA hA v2 (stT 0 100 (j + 1))) := l2
      clear cs l2 u2
      go_wp2
      go_roundw
      case rel => exact ⟨j + 1, v2, by omega, by go_num, HL2.out, HB2.out⟩
      case measure => simp [intOf]; omega
    · obtain rfl : j = 5 := by omega
      obtain ⟨W3, hW3⟩ : ∃ W3, W3 = wr.alloc (.cells #[.int .i64 4, .int .i64 4] 45) := ⟨_, rfl⟩
      have b3 : Below wr.heap.size wr W3 := by rw [hW3]; exact al_b _ _
      have u3 : SSp W3 (.slice (some ⟨wr.heap.size, 0, none⟩) 1 1) [(4, 4)] := by rw [hW3]; exact ssp_one wr (4, 4)
      have HB3 : Hid (Below w.heap.size w W3) := bel.trans (b3.mono bel.size)
      have hgl := blk_lt ls.bk
      have ca := ack_any W3 hA hA v _ (stT 0 100 5) [(4, 4)] 9 (ls.below b3) (by have := HEA.out; have := HB3.out.size; omega) u3 (by simp) (fun a n c e q => by cases e; have := ls.rs.lt q; simp only at this; omega) (fun a n c e => by cases e; simp only; omega)
      rw [HZ.out.1, HZ.out.2.1, HZ.out.2.2.1] at ca
      have HBA : Hid (∀ v : Value, ∀ w' s, LS w' hA hA v s → ∀ k, v.ownBlock = some k → w.heap.size ≤ k) := fun v w' s ls k hk => by have := ls.rs.base hk; have := HEA.out; omega
      have HLV : Hid (∀ k, v.ownBlock = some k → w.heap.size ≤ k) := HBA.out v _ _ ls
      obtain ⟨hq, ehq⟩ : ∃ x, x = wr.heap.size := ⟨_, rfl⟩
      rw [← ehq] at ca
      clear ls bel b3 u3 hgl
      go_upto_region 7 with fail
      go_wp2_with fail
      try rw [← hW3]
      try rw [← ehq]
      clear hW3 ehq
      refine ca.mono ?_
      rintro e w4 ⟨vt, v4, rfl, rt, l4, u4⟩
      obtain ⟨ta, tc, rfl, -⟩ := id rt.is.shape
      have b4 : Below w.heap.size w w4 := u4.below HB3.out HB3.out.size (by have := HEA.out; omega) HLV.out
      have HB4 : Hid (Below w.heap.size w w4) := b4
      have cl := lost_any w4 hA hA v4 aw1 9 20 l4 (by have := HEA.out; have := b4.size; omega)
      have HL4 : Hid (∀ k, v4.ownBlock = some k → w.heap.size ≤ k) := HBA.out v4 _ _ l4
      rw [HZ.out.2.2.2.1] at cl
      clear ca rt l4 u4 b4
      go_wp2_with fail
      refine cl.mono ?_
      rintro e w5 ⟨vt5, v5, rfl, rt5, l5, u5⟩
      obtain ⟨ta5, tc5, rfl, -⟩ := id rt5.is.shape
      have b5 : Below w.heap.size w w5 := u5.below HB4.out HB4.out.size (by have := HEA.out; omega) HL4.out
      have HB5 : Hid (Below w.heap.size w w5) := b5
      have cx := next_any w5 hA hA v5 aw2 20 l5
      rw [HZ.out.2.2.2.2.1] at cx
      have HL5 : Hid (LS w5 hA hA v5 aw2) := l5
      have HR5 : Hid (PS w5 (.slice ta5 2 tc5) [⟨0, 0, 100, true⟩, ⟨1, 0, 100, true⟩]) := rt5.is
      clear cl rt5 l5 u5 b5
      go_wp2_with fail
      refine cx.mono ?_
      rintro e w6 ⟨rfl, b6⟩
      have HB6 : Hid (Below w.heap.size w w6) := HB5.out.trans (b6.mono HB5.out.size)
      have cf := flying_any w6 hA hA v5 aw2 (HL5.out.below b6)
      rw [HZ.out.2.2.2.2.2] at cf
      obtain ⟨bb, off, rfl, k0, k1, k2, k3⟩ := (HR5.out.kept b6).at 1 (by simp)
      have k0' : w6.cell? ⟨bb, off + 1 * 4, none⟩ = some (.int .i64 1) := k0
      clear cx b6 k0 k1 k2 k3
      simp only [Nat.one_mul] at k0'
      go_wp2_with fail
      refine cf.mono ?_
      rintro e w7 ⟨rfl, b7⟩
      have HB7 : Hid (Below w.heap.size w w7) := HB6.out.trans (b7.mono HB6.out.size)
      clear cf b7
      go_wp2
      go_ret
      exact ⟨rfl, HB7.out⟩
end Go.Proofs.Ytamjbmbflllbfaa
