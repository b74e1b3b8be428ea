/-
  What awake answers.
  What the statements of layer 21 share: what came in.
  Of packets sent one behind the other one came, plainly.
  Calls that came in; what Ack answers where the spans lie below.
  Few calls; '==' of packets; packets that are the same.
  What a call on both leaves: blocks.
  A call on both: ack.
  A call on both: lost.
  A call on both: sent.
  A call on both.
  What both have is told the same.
  What calls behind a fork make.
-/
import Derived.Test.YtamjbmbflllbfaaLd
import Derived.Test.YtamjbmbflllbfaaLb
import Derived.Test.YtamjbmbflllbfaaLs
import Derived.Test.YtamjbmbflllbfaaRows
import Derived.Carry
import Derived.ChangeMaps5
import Derived.ChangeOld
import Derived.ChangeSame
import Derived.Deep.DeepHandedRow
import Derived.Deep.SlicePairs
import Derived.Deep.Slices
import Derived.Deep.Strs
import Derived.LaidLaws
import Derived.Lib.LaidTab
import Derived.Lib.SmallJoins
import Derived.OpenShut
import Derived.ProofKit
import Derived.Shelf.Vars
import Derived.SizedLaws
import Derived.Stop.LaidErr
import Derived.Test.YtamjbmbflllbfaaRm
import Derived.Test.YtamjbmbflllbfaaRk
import Derived.Test.YtamjbmbflllbfaaLc
import Derived.Test.YtamjbmbflllbfaaRs
import Derived.Laws.ResultCell
import Derived.Test.YtamjbmbflllbfaaRn
import Derived.BigQuiet
import Derived.Test.YtamjbmbflllbfaaLf
namespace Go.Proofs.Ytamjbmbflllbfaa
open Go.RowKit Go.Shelf
set_option maxRecDepth 100000

/-- Packets sent one behind the other at one time. -/
def iv (t z : Int) (a m : Nat) : List Pk := (List.range' a m).map fun (i : Nat) => (⟨(i : Int), t, z, true⟩ : Pk)
theorem iv_len (t z : Int) (a m : Nat) : (iv t z a m).length = m := by unfold iv; simp
theorem iv_app (t z : Int) (a m k : Nat) : iv t z a (m + k) = iv t z a m ++ iv t z (a + m) k := by
  unfold iv
  have e := List.range'_append (s := a) (m := m) (n := k) (step := 1)
  rw [Nat.one_mul] at e
  rw [← List.map_append, e]
theorem iv_one (t z : Int) (a : Nat) : iv t z a 1 = [⟨(a : Int), t, z, true⟩] := rfl
theorem iv_mem {t z : Int} {a m : Nat} {p : Pk} (h : p ∈ iv t z a m) : (a : Int) ≤ p.n ∧ p.n < (a : Int) + (m : Int) ∧ p.t = t ∧ p.z = z ∧ p.a = true := by
  unfold iv at h
  obtain ⟨i, hi, rfl⟩ := List.mem_map.1 h
  have := List.mem_range'_1.1 hi
  exact ⟨by simp only; omega, by simp only; omega, rfl, rfl, rfl⟩
def stT (t z : Int) (n : Nat) : Lg := ⟨iv t z 0 n, (n : Int) - 1, if n = 0 then 0 else t, -1⟩
theorem stT_next {t z : Int} {n : Nat} (hn : n < 1024) (t0 : 0 ≤ t) (t1 : t ≤ 1099511627776) (z0 : 1 ≤ z) (z1 : z ≤ 1200) : sendE (stT t z n) ⟨(n : Int), t, z, true⟩ = 0 ∧ sendL (stT t z n) ⟨(n : Int), t, z, true⟩ = stT t z (n + 1) := by
  have hm : mgo (stT t z n) ⟨(n : Int), t, z, true⟩ = true := by
    refine mgo_iff.2 ⟨⟨by simp only; omega, by simp only; omega⟩, ⟨t0, t1⟩, by show (n : Int) - 1 < (n : Int); omega, ?_, z0, z1⟩
    show (if n = 0 then 0 else t) ≤ t
    split <;> omega
  obtain ⟨e1, e2⟩ := sendE_yes hm (by show (iv t z 0 n).length ≠ 1024; rw [iv_len]; omega)
  refine ⟨e1, ?_⟩
  rw [e2]
  unfold stT
  rw [iv_app, iv_one, Nat.zero_add, if_neg (Nat.succ_ne_zero n)]
  simp only [Lg.mk.injEq, and_true, true_and]
  omega
theorem stT_zero (t z : Int) : stT t z 0 = lg0 := rfl
theorem ssp_one (w : World) (x : Sp) : SSp (w.alloc (.cells #[.int .i64 x.1, .int .i64 x.2] 45)) (.slice (some ⟨w.heap.size, 0, none⟩) 1 1) [x] := by
  refine ⟨_, 1, rfl, by simp, by unfold maxLen; omega, fun e => (by cases e), spc_cl [x], .inr ⟨w.heap.size, 0, rfl, fun i hi => ?_⟩⟩
  have : i = 0 := by simp at hi; exact hi
  subst this
  exact blk_range (cs := spc x) (heap_alloc_new _ _)
def aw1 : Lg := ackN (stT 0 100 5) [(4, 4)] 9
def aw2 : Lg := lostL aw1 9 20
theorem aw_facts : comE (stT 0 100 5) [(4, 4)] 9 = 0 ∧ ackR (stT 0 100 5) [(4, 4)] 9 = (9, true) ∧ ackG (stT 0 100 5) [(4, 4)] 9 = [⟨4, 0, 100, true⟩] ∧ lostP aw1 9 20 = [⟨0, 0, 100, true⟩, ⟨1, 0, 100, true⟩] ∧ nxt aw2 20 = (20, true) ∧ fly aw2.o = 200 := by decide +kernel
set_option maxHeartbeats 4000000 in
theorem awake_any (w : World) : Calls Try.prog 9 #[] w fun e w' => e = .returned (.bool true) ∧ Below w.heap.size w w' := by
  have cn := lnew_any w w.heap.size
  obtain ⟨hA, eA⟩ : ∃ x, x = w.heap.size := ⟨_, rfl⟩
  obtain ⟨z1, z2, z3, z4, z5, z6⟩ := aw_facts
  have HZ : Hid (comE (stT 0 100 5) [(4, 4)] 9 = 0 ∧ ackR (stT 0 100 5) [(4, 4)] 9 = (9, true) ∧ ackG (stT 0 100 5) [(4, 4)] 9 = [⟨4, 0, 100, true⟩] ∧ lostP aw1 9 20 = [⟨0, 0, 100, true⟩, ⟨1, 0, 100, true⟩] ∧ nxt aw2 20 = (20, true) ∧ fly aw2.o = 200) := ⟨z1, z2, z3, z4, z5, z6⟩
  have HEA : Hid (hA = w.heap.size) := eA
  rw [← eA] at cn
  clear z1 z2 z3 z4 z5 z6
  go_enter Try.func9, Try.ntmps9
  go_wp2_with fail
  refine cn.mono ?_
  rintro e w1 ⟨rfl, e1, ls⟩
  have b1 : Below w.heap.size w w1 := by rw [e1]; exact al_b _ _
  have HB1 : Hid (Below w.heap.size w w1) := b1
  have HL1 : Hid (LS w1 hA hA (.slice none 0 0) (stT 0 100 0)) := ls
  clear cn e1 ls b1 eA
  go_wp2
  go_loopw [2] (fun u wr => ∃ (j : Nat) (v : Value), j ≤ 5 ∧ u = .int .i64 j ∧ LS wr hA hA v (stT 0 100 j) ∧ Below w.heap.size w wr) (fun u _ => 5 - (intOf u).toNat)
  case atStart => exact ⟨0, _, by omega, rfl, HL1.out, HB1.out⟩
  case round =>
    obtain ⟨j, v, hj, rfl, ls, bel⟩ := hrel
    have HB : Hid (Below w.heap.size w wr) := bel
    have HL : Hid (LS wr hA hA v (stT 0 100 j)) := ls
    clear HL1 HB1
    by_cases hj5 : j < 5
    · have lt2 : (j : Int) < 5 := by omega
      have cs := sent_any wr hA hA v (stT 0 100 j) ⟨(j : Int), 0, 100, true⟩ ls (by have := HEA.out; have := bel.size; omega)
      obtain ⟨s1, s2⟩ := stT_next (t := 0) (z := 100) (n := j) (by omega) (by omega) (by omega) (by omega) (by omega)
      rw [s1, s2] at cs
      clear ls bel s1 s2
      go_wp2_with fail
      refine cs.mono ?_
      rintro e w2 ⟨rfl, v2, l2, u2⟩
      have HB2 : Hid (Below w.heap.size w w2) := u2.below HB.out HB.out.size (by have := HEA.out; omega) (fun k hk => by have := HL.out.rs.base hk; have := HEA.out; omega)
      have HL2 : Hid (LS w2 hA hA v2 (stT 0 100 (j + 1))) := l2
      clear cs l2 u2
      go_wp2
      go_roundw
      case rel => exact ⟨j + 1, v2, by omega, by go_num, HL2.out, HB2.out⟩
      case measure => simp [intOf]; omega
    · obtain rfl : j = 5 := by omega
      obtain ⟨W3, hW3⟩ : ∃ W3, W3 = wr.alloc (.cells #[.int .i64 4, .int .i64 4] 45) := ⟨_, rfl⟩
      have b3 : Below wr.heap.size wr W3 := by rw [hW3]; exact al_b _ _
      have u3 : SSp W3 (.slice (some ⟨wr.heap.size, 0, none⟩) 1 1) [(4, 4)] := by rw [hW3]; exact ssp_one wr (4, 4)
      have HB3 : Hid (Below w.heap.size w W3) := bel.trans (b3.mono bel.size)
      have hgl := blk_lt ls.bk
      have ca := ack_any W3 hA hA v _ (stT 0 100 5) [(4, 4)] 9 (ls.below b3) (by have := HEA.out; have := HB3.out.size; omega) u3 (by simp) (fun a n c e q => by cases e; have := ls.rs.lt q; simp only at this; omega) (fun a n c e => by cases e; simp only; omega)
      rw [HZ.out.1, HZ.out.2.1, HZ.out.2.2.1] at ca
      have HBA : Hid (∀ v : Value, ∀ w' s, LS w' hA hA v s → ∀ k, v.ownBlock = some k → w.heap.size ≤ k) := fun v w' s ls k hk => by have := ls.rs.base hk; have := HEA.out; omega
      have HLV : Hid (∀ k, v.ownBlock = some k → w.heap.size ≤ k) := HBA.out v _ _ ls
      obtain ⟨hq, ehq⟩ : ∃ x, x = wr.heap.size := ⟨_, rfl⟩
      rw [← ehq] at ca
      clear ls bel b3 u3 hgl
      go_upto_region 7 with fail
      go_wp2_with fail
      try rw [← hW3]
      try rw [← ehq]
      clear hW3 ehq
      refine ca.mono ?_
      rintro e w4 ⟨vt, v4, rfl, rt, l4, u4⟩
      obtain ⟨ta, tc, rfl, -⟩ := id rt.is.shape
      have b4 : Below w.heap.size w w4 := u4.below HB3.out HB3.out.size (by have := HEA.out; omega) HLV.out
      have HB4 : Hid (Below w.heap.size w w4) := b4
      have cl := lost_any w4 hA hA v4 aw1 9 20 l4 (by have := HEA.out; have := b4.size; omega)
      have HL4 : Hid (∀ k, v4.ownBlock = some k → w.heap.size ≤ k) := HBA.out v4 _ _ l4
      rw [HZ.out.2.2.2.1] at cl
      clear ca rt l4 u4 b4
      go_wp2_with fail
      refine cl.mono ?_
      rintro e w5 ⟨vt5, v5, rfl, rt5, l5, u5⟩
      obtain ⟨ta5, tc5, rfl, -⟩ := id rt5.is.shape
      have b5 : Below w.heap.size w w5 := u5.below HB4.out HB4.out.size (by have := HEA.out; omega) HL4.out
      have HB5 : Hid (Below w.heap.size w w5) := b5
      have cx := next_any w5 hA hA v5 aw2 20 l5
      rw [HZ.out.2.2.2.2.1] at cx
      have HL5 : Hid (LS w5 hA hA v5 aw2) := l5
      have HR5 : Hid (PS w5 (.slice ta5 2 tc5) [⟨0, 0, 100, true⟩, ⟨1, 0, 100, true⟩]) := rt5.is
      clear cl rt5 l5 u5 b5
      go_wp2_with fail
      refine cx.mono ?_
      rintro e w6 ⟨rfl, b6⟩
      have HB6 : Hid (Below w.heap.size w w6) := HB5.out.trans (b6.mono HB5.out.size)
      have cf := flying_any w6 hA hA v5 aw2 (HL5.out.below b6)
      rw [HZ.out.2.2.2.2.2] at cf
      obtain ⟨bb, off, rfl, k0, k1, k2, k3⟩ := (HR5.out.kept b6).at 1 (by simp)
      have k0' : w6.cell? ⟨bb, off + 1 * 4, none⟩ = some (.int .i64 1) := k0
      clear cx b6 k0 k1 k2 k3
      simp only [Nat.one_mul] at k0'
      go_wp2_with fail
      refine cf.mono ?_
      rintro e w7 ⟨rfl, b7⟩
      have HB7 : Hid (Below w.heap.size w w7) := HB6.out.trans (b7.mono HB6.out.size)
      clear cf b7
      go_wp2
      go_ret
      exact ⟨rfl, HB7.out⟩
end Go.Proofs.Ytamjbmbflllbfaa
namespace Go.Proofs.Ytamjbmbflllbfaa
open Go.ChangeShapes Go.WideShapes Go.ChangeAt Go.RowKit Go.Deep
set_option maxRecDepth 100000

theorem own : ownKnob Try.prog.godebug = none := by kernel_rfl
theorem laidOut : laidOutB Try.prog = true := by kernel_rfl
theorem cells3 : Try.prog.cellsOf 3 = 1 := by kernel_rfl
theorem cells4 : Try.prog.cellsOf 4 = 1 := by kernel_rfl
theorem cellsU : Try.prog.cellsOf 57 = 1 := by kernel_rfl
end Go.Proofs.Ytamjbmbflllbfaa
namespace Go.Proofs.Ytamjbmbflllbfaa
open Go.RowKit
set_option maxRecDepth 100000

theorem filt_all {f : Pk → Bool} {l : List Pk} (h : ∀ p ∈ l, f p = true) : l.filter f = l := List.filter_eq_self.2 h
theorem filt_nil {f : Pk → Bool} {l : List Pk} (h : ∀ p ∈ l, f p = false) : l.filter f = [] := List.filter_eq_nil_iff.2 fun p hp => by rw [h p hp]; exact Bool.false_ne_true
theorem fly_iv (t z : Int) (a : Nat) : ∀ m, fly (iv t z a m) = z * (m : Int)
  | 0 => by simp [iv, fly]
  | m + 1 => by
    rw [iv_app, fly_app, fly_iv t z a m, iv_one]
    simp only [fly, if_true]
    rw [show ((m + 1 : Nat) : Int) = (m : Int) + 1 by omega, Int.mul_add]
    omega
theorem chk_one {k : Int} (h0 : 0 ≤ k) (h1 : k ≤ 1099511627776) : chkL [(k, k)] = 0 := by
  unfold chkL
  rw [if_neg (by simp), if_neg]
  rintro (e | e)
  · cases e
  · exact e (setL_canon (Canon.one (by unfold Okk; simp only; omega)))
theorem lst_one (k : Int) : lstT [(k, k)] = k := rfl
theorem in_one (k n : Int) : inS [(k, k)] n = decide (n = k) := by
  unfold inS
  rw [Bool.eq_iff_iff]
  simp only [List.any_cons, List.any_nil, Bool.or_false, Bool.and_eq_true, decide_eq_true_eq]
  omega
/-- The parts: far below, just below, above. -/
structure P3 (n k : Nat) (t : Int) : Prop where
  c0 : comE (stT 5 10 n) [((k : Int), (k : Int))] 5 = 0
  ag : ackG (stT 5 10 n) [((k : Int), (k : Int))] 5 = [⟨(k : Int), 5, 10, true⟩]
  ar : ackR (stT 5 10 n) [((k : Int), (k : Int))] 5 = (0, true)
  an : ackN (stT 5 10 n) [((k : Int), (k : Int))] 5 = ⟨iv 5 10 0 (k - 2) ++ (iv 5 10 (k - 2) (k - (k - 2)) ++ iv 5 10 (k + 1) (n - 1 - k)), (n : Int) - 1, 5, (k : Int)⟩
  l1 : lostP ⟨iv 5 10 0 (k - 2) ++ (iv 5 10 (k - 2) (k - (k - 2)) ++ iv 5 10 (k + 1) (n - 1 - k)), (n : Int) - 1, 5, (k : Int)⟩ 5 t = iv 5 10 0 (k - 2)
  s1 : lostL ⟨iv 5 10 0 (k - 2) ++ (iv 5 10 (k - 2) (k - (k - 2)) ++ iv 5 10 (k + 1) (n - 1 - k)), (n : Int) - 1, 5, (k : Int)⟩ 5 t = ⟨iv 5 10 (k - 2) (k - (k - 2)) ++ iv 5 10 (k + 1) (n - 1 - k), (n : Int) - 1, 5, (k : Int)⟩
  l2 : lostP ⟨iv 5 10 (k - 2) (k - (k - 2)) ++ iv 5 10 (k + 1) (n - 1 - k), (n : Int) - 1, 5, (k : Int)⟩ (4 + t) t = []
  s2 : lostL ⟨iv 5 10 (k - 2) (k - (k - 2)) ++ iv 5 10 (k + 1) (n - 1 - k), (n : Int) - 1, 5, (k : Int)⟩ (4 + t) t = ⟨iv 5 10 (k - 2) (k - (k - 2)) ++ iv 5 10 (k + 1) (n - 1 - k), (n : Int) - 1, 5, (k : Int)⟩
  l3 : lostP ⟨iv 5 10 (k - 2) (k - (k - 2)) ++ iv 5 10 (k + 1) (n - 1 - k), (n : Int) - 1, 5, (k : Int)⟩ (5 + t) t = iv 5 10 (k - 2) (k - (k - 2))
  s3 : lostL ⟨iv 5 10 (k - 2) (k - (k - 2)) ++ iv 5 10 (k + 1) (n - 1 - k), (n : Int) - 1, 5, (k : Int)⟩ (5 + t) t = ⟨iv 5 10 (k + 1) (n - 1 - k), (n : Int) - 1, 5, (k : Int)⟩
theorem lost_yes {s : Lg} {now late : Int} (h : (tm now && tm late) = true) : lostP s now late = s.o.filter (lstF s.g now late) ∧ lostL s now late = ⟨s.o.filter (fun p => !lstF s.g now late p), s.n, s.t, s.g⟩ := by
  unfold lostP lostL tkL
  rw [h]
  exact ⟨rfl, rfl⟩
theorem p3 {n k : Nat} {t : Int} (hk : k < n) (hn : n ≤ 60) (t0 : 1 ≤ t) (t1 : t ≤ 1000) : P3 n k t := by
  have e0 : iv 5 10 0 n = iv 5 10 0 (k - 2) ++ (iv 5 10 (k - 2) (k - (k - 2)) ++ ([⟨(k : Int), 5, 10, true⟩] ++ iv 5 10 (k + 1) (n - 1 - k))) := by
    rw [show n = (k - 2) + ((k - (k - 2)) + (1 + (n - 1 - k))) by omega, iv_app, iv_app, iv_app, iv_one]
    simp only [Nat.zero_add]
    rw [show k - 2 + (k - (k - 2)) = k by omega, show k - 2 + (k - (k - 2) + (1 + (n - 1 - k))) - 1 - k = n - 1 - k by omega]
  have A : ∀ p ∈ iv 5 10 0 (k - 2), p.n + 3 ≤ (k : Int) ∧ p.t = 5 := fun p hp => by have := iv_mem hp; omega
  have Bm : ∀ p ∈ iv 5 10 (k - 2) (k - (k - 2)), (k : Int) - 2 ≤ p.n ∧ p.n < (k : Int) ∧ p.t = 5 := fun p hp => by have := iv_mem hp; omega
  have D : ∀ p ∈ iv 5 10 (k + 1) (n - 1 - k), (k : Int) < p.n ∧ p.t = 5 := fun p hp => by have := iv_mem hp; omega
  have hc : comE (stT 5 10 n) [((k : Int), (k : Int))] 5 = 0 := by
    unfold comE
    rw [if_neg (fun e => e (chk_one (by omega) (by omega))), lst_one, if_neg (by show ¬ (n : Int) - 1 < (k : Int); omega), if_neg]
    show ¬ (5 < (if n = 0 then 0 else (5 : Int)) ∨ 1099511627776 < (5 : Int))
    rw [if_neg (by omega)]
    omega
  have hg : gotP (stT 5 10 n) [((k : Int), (k : Int))] = [⟨(k : Int), 5, 10, true⟩] := by
    unfold gotP
    show (iv 5 10 0 n).filter _ = _
    rw [e0, List.filter_append, List.filter_append, List.filter_append, filt_nil (l := iv 5 10 0 (k - 2)), filt_nil (l := iv 5 10 (k - 2) (k - (k - 2))), filt_nil (l := iv 5 10 (k + 1) (n - 1 - k)), filt_all (l := [_])]
    · simp
    · intro p hp; rw [List.mem_singleton.1 hp, in_one]; simp
    · intro p hp; rw [in_one]; have := D p hp; exact decide_eq_false (by omega)
    · intro p hp; rw [in_one]; have := Bm p hp; exact decide_eq_false (by omega)
    · intro p hp; rw [in_one]; have := A p hp; exact decide_eq_false (by omega)
  have ht : tm 5 = true := by decide
  have ht1 : tm t = true := tm_iff.2 (by omega)
  have ht2 : tm (4 + t) = true := tm_iff.2 (by omega)
  have ht3 : tm (5 + t) = true := tm_iff.2 (by omega)
  have LF : ∀ now (p : Pk), lstF (k : Int) now t p = (decide (p.n ≤ (k : Int) - 3) || (decide (p.n < (k : Int)) && decide (p.t ≤ now - t))) := fun _ _ => rfl
  refine ⟨hc, ?_, ?_, ?_, ?_, ?_, ?_, ?_, ?_, ?_⟩
  · unfold ackG; rw [if_pos hc, hg]
  · unfold ackR
    rw [if_pos hc]
    unfold ackS
    rw [hg, lst_one, if_pos (show (stT 5 10 n).g < (k : Int) by show (-1 : Int) < k; omega)]
    unfold smp
    rw [if_pos ⟨rfl, rfl⟩]
    rfl
  · unfold ackN
    rw [if_pos hc]
    unfold ackL
    rw [lst_one]
    show (⟨(iv 5 10 0 n).filter _, (n : Int) - 1, (if n = 0 then 0 else (5 : Int)), max (-1) (k : Int)⟩ : Lg) = _
    rw [if_neg (by omega), Int.max_eq_right (by omega), e0, List.filter_append, List.filter_append, List.filter_append, filt_all (l := iv 5 10 0 (k - 2)), filt_all (l := iv 5 10 (k - 2) (k - (k - 2))), filt_all (l := iv 5 10 (k + 1) (n - 1 - k)), filt_nil (l := [_])]
    · simp
    · intro p hp; rw [List.mem_singleton.1 hp, in_one]; simp
    · intro p hp; rw [in_one]; have := D p hp; rw [decide_eq_false (show ¬ p.n = (k : Int) by omega)]; rfl
    · intro p hp; rw [in_one]; have := Bm p hp; rw [decide_eq_false (show ¬ p.n = (k : Int) by omega)]; rfl
    · intro p hp; rw [in_one]; have := A p hp; rw [decide_eq_false (show ¬ p.n = (k : Int) by omega)]; rfl
  · rw [(lost_yes (by rw [ht, ht1]; rfl)).1, List.filter_append, List.filter_append, filt_all (l := iv 5 10 0 (k - 2)), filt_nil (l := iv 5 10 (k - 2) (k - (k - 2))), filt_nil (l := iv 5 10 (k + 1) (n - 1 - k))]
    · simp
    · intro p hp; have := D p hp; rw [LF, decide_eq_false (show ¬ p.n ≤ (k : Int) - 3 by omega), decide_eq_false (show ¬ p.n < (k : Int) by omega)]; rfl
    · intro p hp; have := Bm p hp; rw [LF, decide_eq_false (show ¬ p.n ≤ (k : Int) - 3 by omega), decide_eq_false (show ¬ p.t ≤ 5 - t by omega)]; simp
    · intro p hp; have := A p hp; rw [LF, decide_eq_true (show p.n ≤ (k : Int) - 3 by omega)]; rfl
  · rw [(lost_yes (by rw [ht, ht1]; rfl)).2, List.filter_append, List.filter_append, filt_nil (l := iv 5 10 0 (k - 2)), filt_all (l := iv 5 10 (k - 2) (k - (k - 2))), filt_all (l := iv 5 10 (k + 1) (n - 1 - k))]
    · simp
    · intro p hp; have := D p hp; rw [LF, decide_eq_false (show ¬ p.n ≤ (k : Int) - 3 by omega), decide_eq_false (show ¬ p.n < (k : Int) by omega)]; rfl
    · intro p hp; have := Bm p hp; rw [LF, decide_eq_false (show ¬ p.n ≤ (k : Int) - 3 by omega), decide_eq_false (show ¬ p.t ≤ 5 - t by omega)]; simp
    · intro p hp; have := A p hp; rw [LF, decide_eq_true (show p.n ≤ (k : Int) - 3 by omega)]; rfl
  · rw [(lost_yes (by rw [ht2, ht1]; rfl)).1, List.filter_append, filt_nil (l := iv 5 10 (k - 2) (k - (k - 2))), filt_nil (l := iv 5 10 (k + 1) (n - 1 - k))]
    · rfl
    · intro p hp; have := D p hp; rw [LF, decide_eq_false (show ¬ p.n ≤ (k : Int) - 3 by omega), decide_eq_false (show ¬ p.n < (k : Int) by omega)]; rfl
    · intro p hp; have := Bm p hp; rw [LF, decide_eq_false (show ¬ p.n ≤ (k : Int) - 3 by omega), decide_eq_false (show ¬ p.t ≤ 4 + t - t by omega)]; simp
  · rw [(lost_yes (by rw [ht2, ht1]; rfl)).2, List.filter_append, filt_all (l := iv 5 10 (k - 2) (k - (k - 2))), filt_all (l := iv 5 10 (k + 1) (n - 1 - k))]
    · intro p hp; have := D p hp; rw [LF, decide_eq_false (show ¬ p.n ≤ (k : Int) - 3 by omega), decide_eq_false (show ¬ p.n < (k : Int) by omega)]; rfl
    · intro p hp; have := Bm p hp; rw [LF, decide_eq_false (show ¬ p.n ≤ (k : Int) - 3 by omega), decide_eq_false (show ¬ p.t ≤ 4 + t - t by omega)]; simp
  · rw [(lost_yes (by rw [ht3, ht1]; rfl)).1, List.filter_append, filt_all (l := iv 5 10 (k - 2) (k - (k - 2))), filt_nil (l := iv 5 10 (k + 1) (n - 1 - k))]
    · simp
    · intro p hp; have := D p hp; rw [LF, decide_eq_false (show ¬ p.n ≤ (k : Int) - 3 by omega), decide_eq_false (show ¬ p.n < (k : Int) by omega)]; rfl
    · intro p hp; have := Bm p hp; rw [LF, decide_eq_true (show p.n < (k : Int) by omega), decide_eq_true (show p.t ≤ 5 + t - t by omega)]; simp
  · rw [(lost_yes (by rw [ht3, ht1]; rfl)).2, List.filter_append, filt_nil (l := iv 5 10 (k - 2) (k - (k - 2))), filt_all (l := iv 5 10 (k + 1) (n - 1 - k))]
    · simp
    · intro p hp; have := D p hp; rw [LF, decide_eq_false (show ¬ p.n ≤ (k : Int) - 3 by omega), decide_eq_false (show ¬ p.n < (k : Int) by omega)]; rfl
    · intro p hp; have := Bm p hp; rw [LF, decide_eq_true (show p.n < (k : Int) by omega), decide_eq_true (show p.t ≤ 5 + t - t by omega)]; simp
end Go.Proofs.Ytamjbmbflllbfaa
namespace Go.Proofs.Ytamjbmbflllbfaa
open Go.ChangeShapes Go.WideShapes Go.ChangeAt Go.RowKit Go.Deep Go.Shelf
set_option maxRecDepth 100000

set_option maxHeartbeats 4000000 in
theorem ack_ref (w : World) (B g : Nat) (v u : Value) (s : Lg) (l : List Sp) (now : Int) (h : LS w B g v s) (_ : B ≤ w.heap.size) (hu : SSp w u l) (hl : l.length ≤ 1000) (hz : comE s l now ≠ 0) :
    Calls Try.prog 15 #[.pointer (some ⟨g, 0, none⟩), u, .int .i64 now] w fun e w' => ∃ vt v', e = .returned (.tuple #[vt, .int .i64 (ackR s l now).1, .bool (ackR s l now).2, .int .i64 (comE s l now)]) ∧ RP 48 w' w.heap.size vt (ackG s l now) ∧ LS w' B g v' (ackN s l now) ∧ LU w w' g v v' := by
  obtain ⟨W1, hW1⟩ : ∃ W1, W1 = w.alloc (.cells #[u] 35) := ⟨_, rfl⟩
  have b1 : Below w.heap.size w W1 := by rw [hW1]; exact al_b _ _
  have g1 : W1.heap[w.heap.size]? = some (.cells #[u] 35 (0, 0)) := by rw [hW1]; exact heap_alloc_new _ _
  have d0 : W1.cell? ⟨w.heap.size, 0, none⟩ = some u := by simp [World.cell?, g1]
  have cm := mayCome_any W1 g v u s l now (h.bk.kept b1) (hu.kept b1) hl
  have HLS : Hid (LS w B g v s) := h
  have HB1 : Hid (Below w.heap.size w W1) := b1
  have HG1 : Hid (W1.heap[w.heap.size]? = some (.cells #[u] 35 (0, 0))) := g1
  have e1 : ackG s l now = [] := by unfold ackG; rw [if_neg hz]
  have e2 : ackR s l now = (0, false) := by unfold ackR; rw [if_neg hz]
  have e3 : ackN s l now = s := by unfold ackN; rw [if_neg hz]
  rw [e1, e2, e3]
  have t1 : (comE s l now != 0) = true := by simpa using hz
  obtain ⟨ua, uc, rfl, -⟩ := id hu.shape
  generalize l.length = n9 at *
  clear h hu b1 g1 hz e1 e2 e3
  generalize comE s l now = R at *
  go_enter Try.func15, Try.ntmps15
  go_upto_region 1 with fail
  rw [← hW1]
  clear hW1
  go_wp2_with fail
  refine cm.mono ?_
  rintro e w2 ⟨rfl, b2⟩
  have HB2 : Hid (Below w.heap.size w w2) := HB1.out.trans (b2.mono HB1.out.size)
  have HE : Hid (RP 48 w2 w.heap.size (.slice none 0 0) [] ∧ LS w2 B g v s ∧ LU w w2 g v v) := ⟨RP.nil _ _ _, HLS.out.below HB2.out, LU.of HB2.out⟩
  clear cm b2
  go_wp2
  refine bodyPost_ret (results_tmp4 rfl _ _ _) rfl ?_
  first | exact ⟨_, rfl, HE.out.1, _, HE.out.2⟩ | exact ⟨_, _, rfl, HE.out⟩

/-- Ack, the spans below where the ledger lies. -/
theorem ack_low (w : World) (B g : Nat) (v u : Value) (s : Lg) (l : List Sp) (now : Int) (h : LS w B g v s) (hB : B ≤ w.heap.size) (hg : B ≤ g) (w0 : World) (hw : B ≤ w0.heap.size) (hw2 : w0.heap.size ≤ B) (hb : Below w0.heap.size w0 w) (hu : SSp w0 u l) (hl : l.length ≤ 1000) :
    Calls Try.prog 15 #[.pointer (some ⟨g, 0, none⟩), u, .int .i64 now] w fun e w' => ∃ vt v', e = .returned (.tuple #[vt, .int .i64 (ackR s l now).1, .bool (ackR s l now).2, .int .i64 (comE s l now)]) ∧ RP 48 w' w.heap.size vt (ackG s l now) ∧ LS w' B g v' (ackN s l now) ∧ LU w w' g v v' := by
  by_cases hz : comE s l now = 0
  · have hne := (chkL_zero (comE_zero hz).1).2.1
    have hp := List.length_pos_iff.2 hne
    have hlt : ∀ a n c, u = .slice (some a) n c → a.block < w0.heap.size := fun a n c e => by
      subst e
      obtain ⟨b, off, e, q⟩ := hu.at 0 hp
      cases e
      exact World.block_lt_of_cell? _ _ (spC q).1
    exact ack_any w B g v u s l now h hB (hu.kept hb) hl (fun a n c e q => by have h1 := hlt a n c e; have h2 := h.rs.base q; omega) (fun a n c e => by have := hlt a n c e; omega)
  · exact ack_ref w B g v u s l now h hB (hu.kept hb) hl hz
/-- A call: its number, a packet, spans, two times. -/
structure Atc where
  k : Int
  p : Pk
  u : Value
  L : List Sp
  n : Int
  l : Int
def a8 (q : Atc) : List Value := [.int .u8 q.k, .int .i64 q.p.n, .int .i64 q.p.t, .int .i64 q.p.z, .bool q.p.a, q.u, .int .i64 q.n, .int .i64 q.l]
instance : Inhabited Atc := ⟨⟨0, pk0, .slice none 0 0, [], 0, 0⟩⟩
abbrev at0 : Atc := ⟨0, pk0, .slice none 0 0, [], 0, 0⟩
structure okA (w : World) (q : Atc) : Prop where
  k0 : 0 ≤ q.k
  k1 : q.k < 256
  sp : SSp w q.u q.L
abbrev atA (l : List Atc) (i : Nat) : Atc := l.getD i at0
theorem atA_eq (l : List Atc) (i : Nat) (h : i < l.length) : atA l i = l[i] := by simp [atA, List.getD, List.getElem?_eq_getElem h]
theorem atA_mem (l : List Atc) (i : Nat) (h : i < l.length) : atA l i ∈ l := by rw [atA_eq l i h]; exact List.getElem_mem h
structure AQ (w : World) (v : Value) (l : List Atc) : Prop where
  is : IS 8 w v (l.map a8)
  ok : ∀ q ∈ l, okA w q
theorem atC_a8 (l : List Atc) (i : Nat) (h : i < l.length) : atC (l.map a8) i = a8 (atA l i) := by
  rw [atC_eq _ _ (by rw [List.length_map]; exact h), atA_eq l i h, List.getElem_map]
structure AC (w : World) (b o : Nat) (q : Atc) : Prop where
  c0 : w.cell? ⟨b, o, none⟩ = some (.int .u8 q.k)
  c1 : w.cell? ⟨b, o + 1, none⟩ = some (.int .i64 q.p.n)
  c2 : w.cell? ⟨b, o + 2, none⟩ = some (.int .i64 q.p.t)
  c3 : w.cell? ⟨b, o + 3, none⟩ = some (.int .i64 q.p.z)
  c4 : w.cell? ⟨b, o + 4, none⟩ = some (.bool q.p.a)
  c5 : w.cell? ⟨b, o + 5, none⟩ = some q.u
  c6 : w.cell? ⟨b, o + 6, none⟩ = some (.int .i64 q.n)
  c7 : w.cell? ⟨b, o + 7, none⟩ = some (.int .i64 q.l)
theorem aC {w : World} {b o : Nat} {q : Atc} (h : w.rangeAt b o (a8 q)) : AC w b o q := ⟨h 0 _ rfl, h 1 _ rfl, h 2 _ rfl, h 3 _ rfl, h 4 _ rfl, h 5 _ rfl, h 6 _ rfl, h 7 _ rfl⟩
theorem AQ.shape {w : World} {v : Value} {l : List Atc} (h : AQ w v l) : ∃ a c, v = .slice a l.length c ∧ l.length ≤ c ∧ c ≤ maxLen ∧ (a = none → c = 0) := by
  have := h.is.shape
  rwa [List.length_map] at this
theorem AQ.at {w : World} {a : Option Addr} {n c : Nat} {l : List Atc} (h : AQ w (.slice a n c) l) (i : Nat) (hi : i < l.length) : ∃ b off, a = some ⟨b, off, none⟩ ∧ w.rangeAt b (off + i * 8) (a8 (atA l i)) := by
  obtain ⟨b, off, e, hr⟩ := h.is.at i (by rw [List.length_map]; exact hi)
  rw [atC_a8 l i hi] at hr
  exact ⟨b, off, e, hr⟩
theorem cells5 : Try.prog.cellsOf 5 = 1 := by kernel_rfl
theorem cellsSp : Try.prog.cellsOf 45 = 2 := by kernel_rfl
theorem cellsSl : Try.prog.cellsOf 35 = 1 := by kernel_rfl
theorem cellsPk : Try.prog.cellsOf 29 = 4 := by kernel_rfl
theorem cellsAc : Try.prog.cellsOf 37 = 8 := by kernel_rfl
theorem sps_trod {H : Type} {enc : TypeId × Value → H} {W : World} {fuel : Nat} {cs : List Value} {x : DataW H × List MemPlace}
    (h : DataW.trod enc Try.prog W 0 (fun _ => true) true fuel 35 cs = some x) : ∃ sv l, cs = [sv] ∧ SSp W sv l := by
  rcases open_slice Try.underlying35 h with ⟨hcs, _⟩ | ⟨a, len0, cap0, m, n, D, Pl, hcs, _, hl, hm, hmm, _, hall⟩
  · exact ⟨_, [], hcs, SSp.nil W⟩
  · simp only [if_true] at hmm
    have each : ∀ i, i < len0 → ∃ q : Sp, ∀ j v, (spc q)[j]? = some v → W.cell? (a.add (i * 2 + j)) = some v := by
      intro i hi
      obtain ⟨cs', h1, h2⟩ := hall i (by omega)
      rw [cellsSp] at h1
      obtain ⟨_, hlen, hcell⟩ := World.cells?_some h1
      obtain ⟨y0, y1, k, _, hl2, q0, q1⟩ := trod_struct2 Try.underlying45 h2
      obtain ⟨a0, e0, _, _⟩ := DataW.trod_int Try.underlying3 q0
      obtain ⟨a1, e1, _, _⟩ := DataW.trod_int Try.underlying3 q1
      refine ⟨(a0, a1), fun j v hv => ?_⟩
      have hj : j < 2 := (List.getElem?_eq_some_iff.1 hv).1
      have c0 := hcell j (by omega)
      rw [add_add] at c0
      rw [c0]
      have u0 := congrArg (·[0]?) e0
      have u1 := congrArg (·[0]?) e1
      simp only [List.getElem?_take, List.getElem?_drop, cells3] at u0 u1
      rcases (by omega : j = 0 ∨ j = 1) with rfl | rfl
      · have : v = .int .i64 a0 := by simpa [spc] using hv.symm
        rw [this]
        simpa using u0
      · have : v = .int .i64 a1 := by simpa [spc] using hv.symm
        rw [this]
        simpa using u1
    obtain ⟨q, hq⟩ := choose_lt each
    have hlen : ((List.range len0).map q).length = len0 := by simp
    refine ⟨_, (List.range len0).map q, hcs, ⟨some a, cap0, by rw [List.length_map, hlen], by rw [List.length_map, hlen]; exact hl, hm, (fun e => by cases e), spc_cl _, ?_⟩⟩
    rcases Nat.eq_zero_or_pos len0 with h0 | h0
    · subst h0; exact .inl rfl
    · obtain ⟨b, off, spot⟩ := a
      have hspot : spot = none := by simpa [Addr.add] using World.cell?_spot (hq 0 h0 0 _ rfl)
      subst hspot
      refine .inr ⟨b, off, rfl, fun i hi => ?_⟩
      rw [List.length_map, hlen] at hi
      have e : atC (((List.range len0).map q).map spc) i = spc (q i) := by simp [atC, List.getD, hi]
      rw [e]
      intro j v hv
      have := hq i hi j v hv
      rw [Addr.add_lit, ← Nat.add_assoc] at this
      exact this
theorem trod_struct5 {H : Type} {enc : TypeId × Value → H} {P : Program} {w : World} {base : Nat} {spare : Nat → Bool} {held : Bool} {t : TypeId} {f0 f1 f2 f3 f4 : Field} {fuel : Nat} {cs : List Value} {x : DataW H × List MemPlace} (ht : P.underlying t = some (.struct #[f0, f1, f2, f3, f4])) (h : DataW.trod enc P w base spare held fuel t cs = some x) :
    ∃ y0 y1 y2 y3 y4 n, cs.length = P.cellsOf t ∧ DataW.trod enc P w base spare held n f0.type ((cs.drop f0.offset).take (P.cellsOf f0.type)) = some y0 ∧
      DataW.trod enc P w base spare held n f1.type ((cs.drop f1.offset).take (P.cellsOf f1.type)) = some y1 ∧ DataW.trod enc P w base spare held n f2.type ((cs.drop f2.offset).take (P.cellsOf f2.type)) = some y2 ∧
      DataW.trod enc P w base spare held n f3.type ((cs.drop f3.offset).take (P.cellsOf f3.type)) = some y3 ∧ DataW.trod enc P w base spare held n f4.type ((cs.drop f4.offset).take (P.cellsOf f4.type)) = some y4 := by
  obtain ⟨xs, n, _, rfl, hl, hlen, hf⟩ := DataW.trod_struct ht h
  match xs, hlen with
  | [y0, y1, y2, y3, y4], _ => exact ⟨y0, y1, y2, y3, y4, n, hl, by simpa using hf 0 f0 rfl, by simpa using hf 1 f1 rfl, by simpa using hf 2 f2 rfl, by simpa using hf 3 f3 rfl, by simpa using hf 4 f4 rfl⟩
theorem trod_struct4 {H : Type} {enc : TypeId × Value → H} {P : Program} {w : World} {base : Nat} {spare : Nat → Bool} {held : Bool} {t : TypeId} {f0 f1 f2 f3 : Field} {fuel : Nat} {cs : List Value} {x : DataW H × List MemPlace} (ht : P.underlying t = some (.struct #[f0, f1, f2, f3])) (h : DataW.trod enc P w base spare held fuel t cs = some x) :
    ∃ y0 y1 y2 y3 n, cs.length = P.cellsOf t ∧ DataW.trod enc P w base spare held n f0.type ((cs.drop f0.offset).take (P.cellsOf f0.type)) = some y0 ∧
      DataW.trod enc P w base spare held n f1.type ((cs.drop f1.offset).take (P.cellsOf f1.type)) = some y1 ∧ DataW.trod enc P w base spare held n f2.type ((cs.drop f2.offset).take (P.cellsOf f2.type)) = some y2 ∧
      DataW.trod enc P w base spare held n f3.type ((cs.drop f3.offset).take (P.cellsOf f3.type)) = some y3 := by
  obtain ⟨xs, n, _, rfl, hl, hlen, hf⟩ := DataW.trod_struct ht h
  match xs, hlen with
  | [y0, y1, y2, y3], _ => exact ⟨y0, y1, y2, y3, n, hl, by simpa using hf 0 f0 rfl, by simpa using hf 1 f1 rfl, by simpa using hf 2 f2 rfl, by simpa using hf 3 f3 rfl⟩
theorem pk_trod {H : Type} {enc : TypeId × Value → H} {W : World} {fuel : Nat} {cs : List Value} {x : DataW H × List MemPlace}
    (h : DataW.trod enc Try.prog W 0 (fun _ => true) true fuel 29 cs = some x) : ∃ p : Pk, cs = p.c := by
  obtain ⟨y0, y1, y2, y3, n, hl, h0, h1, h2, h3⟩ := trod_struct4 Try.underlying29 h
  rw [cellsPk] at hl
  obtain ⟨v0, v1, v2, v3, rfl⟩ : ∃ v0 v1 v2 v3, cs = [v0, v1, v2, v3] := by
    match cs, hl with
    | [v0, v1, v2, v3], _ => exact ⟨v0, v1, v2, v3, rfl⟩
  simp only [cells4, cells3] at h0 h1 h2 h3
  obtain ⟨l, e0, _, _⟩ := DataW.trod_int Try.underlying3 h0
  obtain ⟨m, e1, _, _⟩ := DataW.trod_int Try.underlying3 h1
  obtain ⟨s, e2, _, _⟩ := DataW.trod_int Try.underlying3 h2
  obtain ⟨b, e3, _⟩ := DataW.trod_bool Try.underlying4 h3
  simp at e0 e1 e2 e3
  subst e0 e1 e2 e3
  exact ⟨⟨l, m, s, b⟩, rfl⟩
theorem act_trod {H : Type} {enc : TypeId × Value → H} {W : World} {fuel : Nat} {cs : List Value} {x : DataW H × List MemPlace}
    (h : DataW.trod enc Try.prog W 0 (fun _ => true) true fuel 37 cs = some x) : ∃ q : Atc, cs = a8 q ∧ okA W q := by
  obtain ⟨y0, y1, y2, y3, y4, n, hl, h0, h1, h2, h3, h4⟩ := trod_struct5 Try.underlying37 h
  rw [cellsAc] at hl
  obtain ⟨v0, v1, v2, v3, v4, v5, v6, v7, rfl⟩ : ∃ v0 v1 v2 v3 v4 v5 v6 v7, cs = [v0, v1, v2, v3, v4, v5, v6, v7] := by
    match cs, hl with
    | [v0, v1, v2, v3, v4, v5, v6, v7], _ => exact ⟨v0, v1, v2, v3, v4, v5, v6, v7, rfl⟩
  simp only [cells5, cells3, cellsPk, cellsSl] at h0 h1 h2 h3 h4
  obtain ⟨k, e0, _, w0⟩ := DataW.trod_int Try.underlying5 h0
  obtain ⟨p, e1⟩ := pk_trod h1
  obtain ⟨sv, l, e2, hs⟩ := sps_trod h2
  obtain ⟨n3, e3, _, _⟩ := DataW.trod_int Try.underlying3 h3
  obtain ⟨n4, e4, _, _⟩ := DataW.trod_int Try.underlying3 h4
  have := bounds_u8 w0
  simp [Pk.c] at e0 e1 e2 e3 e4
  obtain ⟨rfl, rfl, rfl, rfl⟩ := e1
  subst e0 e2 e3 e4
  exact ⟨⟨k, p, v5, l, n3, n4⟩, rfl, by simp only; omega, by simp only; omega, hs⟩
/-- Calls that came in. -/
theorem aqs_in {H : Type} {enc : TypeId × Value → H} {W : World} {base : Nat} {v : Value} {d : DataW H} {p : List MemPlace}
    (hval : Value.okWide Try.prog W .any base 22 v) (h : DataW.Trod enc Try.prog W 0 (fun _ => true) true 22 v d p) : ∃ l, AQ W v l := by
  obtain ⟨a0, len0, cap0, rfl⟩ := okWide_slice Try.underlying22 hval
  obtain ⟨fuel, hf⟩ := h
  rcases open_slice Try.underlying22 hf with ⟨hcs, _⟩ | ⟨x, l, c, m, n, D, Pl, hcs, _, hl, hm, hmm, _, hall⟩
  · simp [Value.cells] at hcs
    obtain ⟨rfl, rfl, rfl⟩ := hcs
    exact ⟨[], ⟨IS.nil 8 W, by simp⟩⟩
  · simp [Value.cells] at hcs
    obtain ⟨rfl, rfl, rfl⟩ := hcs
    simp only [if_true] at hmm
    have each : ∀ i, i < len0 → ∃ q : Atc, (∀ j v, (a8 q)[j]? = some v → W.cell? (x.add (i * 8 + j)) = some v) ∧ okA W q ∧ ∀ v ∈ a8 q, v.oneCell' = true := by
      intro i hi
      obtain ⟨cs', h1, h2⟩ := hall i (by omega)
      rw [cellsAc] at h1
      obtain ⟨_, hlen, hcell⟩ := World.cells?_some h1
      obtain ⟨y, rfl, hy⟩ := act_trod h2
      refine ⟨y, fun j v hv => ?_, hy, fun v hv => ?_⟩
      · have hj : j < 8 := (List.getElem?_eq_some_iff.1 hv).1
        have c0 := hcell j (by omega)
        rw [add_add] at c0
        rw [c0]
        simpa using hv
      · obtain ⟨ua, uc, hue, -⟩ := hy.sp.shape
        simp only [a8, List.mem_cons, List.not_mem_nil, or_false] at hv
        rcases hv with rfl | rfl | rfl | rfl | rfl | rfl | rfl | rfl <;> first | rfl | (rw [hue]; rfl)
    obtain ⟨q, hq⟩ := choose_lt each
    have hlen : ((List.range len0).map q).length = len0 := by simp
    have hcl : CL 8 (((List.range len0).map q).map a8) := fun c hc => by
      obtain ⟨y, hy, rfl⟩ := List.mem_map.1 hc
      obtain ⟨i, hi, rfl⟩ := List.mem_map.1 hy
      exact ⟨rfl, (hq i (List.mem_range.1 hi)).2.2⟩
    refine ⟨(List.range len0).map q, ⟨⟨some x, cap0, by rw [List.length_map, hlen], by rw [List.length_map, hlen]; exact hl, hm, (fun e => by cases e), hcl, ?_⟩, fun y hy => ?_⟩⟩
    · rcases Nat.eq_zero_or_pos len0 with h0 | h0
      · subst h0; exact .inl rfl
      · obtain ⟨b, off, spot⟩ := x
        have hspot : spot = none := by simpa [Addr.add] using World.cell?_spot ((hq 0 h0).1 0 _ rfl)
        subst hspot
        refine .inr ⟨b, off, rfl, fun i hi => ?_⟩
        rw [List.length_map, hlen] at hi
        have e : atC (((List.range len0).map q).map a8) i = a8 (q i) := by simp [atC, List.getD, hi]
        rw [e]
        intro j v hv
        have := (hq i hi).1 j v hv
        rw [Addr.add_lit, ← Nat.add_assoc] at this
        exact this
    · obtain ⟨i, hi, rfl⟩ := List.mem_map.1 hy
      exact (hq i (List.mem_range.1 hi)).2.1
end Go.Proofs.Ytamjbmbflllbfaa
namespace Go.Proofs.Ytamjbmbflllbfaa
open Go.ChangeShapes Go.WideShapes Go.ChangeAt Go.RowKit Go.Deep Go.Shelf
set_option maxRecDepth 100000

theorem fieldsK : (Try.prog.fieldsOf 29).toList.map (fun f => (decide (f.name ≠ "_"), f.type, f.offset)) = [(true, 3, 0), (true, 3, 1), (true, 3, 2), (true, 4, 3)] := by kernel_rfl
theorem structK : Try.prog.underlying 29 = some (.struct (Try.prog.fieldsOf 29)) := by kernel_rfl
theorem standsK : Try.prog.stoodInHeld 29 = false := by kernel_rfl
theorem guardK : Try.prog.eqGuardType Try.prog.depth 29 = false := by kernel_rfl
theorem eq_pk (p : Pk) (w : World) : (Op.equalIn 10000 29 p.v p.v).run Try.prog w = .ok true w := by
  unfold Pk.v
  rw [run_equalIn_struct w 9999 29 _ _ structK standsK]
  have hf := fieldsK
  generalize (Try.prog.fieldsOf 29).toList = fs at hf
  have hlen : fs.length = 4 := by have := congrArg List.length hf; simpa using this
  match fs, hlen, hf with
  | [f0, f1, f2, f3], _, hf =>
    simp only [List.map_cons, List.map_nil, List.cons.injEq, Prod.mk.injEq, and_true, decide_eq_true_eq] at hf
    obtain ⟨⟨n0, t0, o0⟩, ⟨n1, t1, o1⟩, ⟨n2, t2, o2⟩, n3, t3, o3⟩ := hf
    have aU : (isAgg 3).run Try.prog w = .ok false w := by simp [isAgg, run_underlying Try.underlying3]
    have bU : (isAgg 4).run Try.prog w = .ok false w := by simp [isAgg, run_underlying Try.underlying4]
    have p0 : (part 3 #[.int .i64 p.n, .int .i64 p.t, .int .i64 p.z, .bool p.a] 0).run Try.prog w = .ok (.int .i64 p.n) w := part_one aU rfl
    have p1 : (part 3 #[.int .i64 p.n, .int .i64 p.t, .int .i64 p.z, .bool p.a] 1).run Try.prog w = .ok (.int .i64 p.t) w := part_one aU rfl
    have p2 : (part 3 #[.int .i64 p.n, .int .i64 p.t, .int .i64 p.z, .bool p.a] 2).run Try.prog w = .ok (.int .i64 p.z) w := part_one aU rfl
    have p3 : (part 4 #[.int .i64 p.n, .int .i64 p.t, .int .i64 p.z, .bool p.a] 3).run Try.prog w = .ok (.bool p.a) w := part_one bU rfl
    have e : ∀ x : Int, (Op.equalIn 9999 3 (.int .i64 x) (.int .i64 x)).run Try.prog w = .ok true w := fun x => by
      have := run_equalIn_int w 9998 3 .i64 .i64 x x Try.underlying3
      rw [beq_self_eq_true] at this
      exact this
    have e3 : (Op.equalIn 9999 4 (.bool p.a) (.bool p.a)).run Try.prog w = .ok true w := by
      have := run_equalIn_bool' w 9998 4 p.a p.a Try.underlying4
      rw [beq_self_eq_true] at this
      exact this
    rw [eqf_cons n0 t0 o0 p0 p0 (e _), eqf_cons n1 t1 o1 p1 p1 (e _), eqf_cons n2 t2 o2 p2 p2 (e _), eqf_cons n3 t3 o3 p3 p3 e3, eqf_nil]
    rfl
theorem neq_pk (p : Pk) (w : World) : (binOp .neq 29 p.v p.v).run Try.prog w = .ok (.bool false) w := by
  have hE := eq_pk p w
  unfold Pk.v at hE ⊢
  simp only [run_neq_struct, hE, Result.andThen_ok, Bool.not_true]
theorem eql_pk (p : Pk) (w : World) : (binOp .eql 29 p.v p.v).run Try.prog w = .ok (.bool true) w := by
  have hE := eq_pk p w
  unfold Pk.v at hE ⊢
  simp only [run_eql_struct, hE, Result.andThen_ok]
theorem eqg_pk (o : BinOp) (p : Pk) (a b : Operand) (w : World) : (eqGuard o 29 a b p.v p.v).run Try.prog w = .ok () w := run_eqGuard_agg _ _ _ _ _ _ _ guardK

theorem AQ.kept {w w' : World} {v : Value} {l : List Atc} (h : AQ w v l) (hb : Below w.heap.size w w') : AQ w' v l := ⟨IS.kept h.is hb, fun q hq => ⟨(h.ok q hq).k0, (h.ok q hq).k1, (h.ok q hq).sp.kept hb⟩⟩
def fewB (l : List Atc) : Bool := decide (l.length ≤ 200) && l.all (fun q => decide (q.L.length ≤ 70))
theorem fewB_iff {l : List Atc} : fewB l = true ↔ l.length ≤ 200 ∧ ∀ q ∈ l, q.L.length ≤ 70 := by
  unfold fewB
  simp [List.all_eq_true]
set_option maxHeartbeats 4000000 in
theorem few_any (w : World) (v : Value) (l : List Atc) (h : AQ w v l) :
    Calls Try.prog 8 #[v] w fun e w' => e = .returned (.bool (fewB l)) ∧ Below w.heap.size w w' := by
  obtain ⟨a, c, rfl, -⟩ := id h.shape
  by_cases h2 : 200 < l.length
  · have hf : fewB l = false := by rw [Bool.eq_false_iff]; exact fun e => by have := (fewB_iff.1 e).1; omega
    have t0 : (200 : Int) < (l.length : Int) := by omega
    rw [hf]
    clear h hf
    generalize l.length = n at *
    go_enter Try.func8, Try.ntmps8
    go_wp2
    go_ret
    exact ⟨rfl, Below.refl _ _⟩
  · have t0 : ¬ (200 : Int) < (l.length : Int) := by omega
    have HAT : Hid (∀ j, j < l.length → ∀ W, Below w.heap.size w W → ∃ b off, a = some ⟨b, off, none⟩ ∧ W.cell? ⟨b, off + j * 8 + 5, none⟩ = some (atA l j).u ∧ ∃ ua uc, (atA l j).u = .slice ua (atA l j).L.length uc) := fun j hj W hb => by
      obtain ⟨b, off, e, q⟩ := AQ.at (h.kept hb) j hj
      have hs := (h.ok _ (atA_mem l j hj)).sp.shape
      obtain ⟨ua, uc, hu, -⟩ := hs
      refine ⟨b, off, e, ?_, ua, uc, hu⟩
      exact (aC q).c5
    have HYES : Hid ((∀ k, k < l.length → (atA l k).L.length ≤ 70) → fewB l = true) := fun hk => fewB_iff.2 ⟨by omega, fun q hq => by
      obtain ⟨i, hi, rfl⟩ := List.mem_iff_getElem.1 hq
      have := hk i hi
      rwa [atA_eq l i hi] at this⟩
    have HNO : Hid (∀ k, k < l.length → 70 < (atA l k).L.length → fewB l = false) := fun k hk hl => by
      rw [Bool.eq_false_iff]
      exact fun e => by have := (fewB_iff.1 e).2 _ (atA_mem l k hk); omega
    clear h
    generalize fewB l = R at *
    obtain ⟨n, hn⟩ : ∃ n, n = l.length := ⟨_, rfl⟩
    rw [← hn] at HAT HYES HNO t0 h2 ⊢
    clear hn
    go_enter Try.func8, Try.ntmps8
    go_wp2
    go_loopw [3] (fun u wr => ∃ i : Nat, i ≤ n ∧ u = .int .i64 i ∧ (∀ k, k < i → (atA l k).L.length ≤ 70) ∧ Below w.heap.size w wr) (fun u _ => n - (intOf u).toNat)
    case atStart => exact ⟨0, by omega, rfl, fun k hk => by omega, Below.refl _ _⟩
    case round =>
      obtain ⟨i, hi, rfl, hk, bel⟩ := hrel
      have HB : Hid (Below w.heap.size w wr) := bel
      have HK : Hid (∀ k, k < i → (atA l k).L.length ≤ 70) := hk
      clear bel hk
      by_cases hin : i < n
      · have lt2 : (i : Int) < (n : Int) := by omega
        obtain ⟨b, off, rfl, k1, ua, uc, hu⟩ := HAT.out i hin wr HB.out
        have HN : Hid (70 < (atA l i).L.length → R = false) := fun h => HNO.out i hin h
        have HKN : Hid ((atA l i).L.length ≤ 70 → ∀ k, k < i + 1 → (atA l k).L.length ≤ 70) := fun h k hk => by
          rcases Nat.lt_or_ge k i with h' | h'
          · exact HK.out k h'
          · rw [show k = i by omega]; exact h
        rw [hu] at k1
        clear hu
        generalize (atA l i).L.length = m at *
        by_cases hm : 70 < m
        · have t1 : (70 : Int) < (m : Int) := by omega
          have HR : Hid (R = false) := HN.out hm
          clear HN HKN hm
          go_wp2
          go_ret
          exact ⟨by rw [HR.out]; rfl, HB.out⟩
        · have t1 : ¬ (70 : Int) < (m : Int) := by omega
          have HR : Hid (∀ k, k < i + 1 → (atA l k).L.length ≤ 70) := HKN.out (by omega)
          clear HN HKN hm
          go_wp2
          go_roundw
          case rel => exact ⟨i + 1, by omega, by go_num, HR.out, HB.out⟩
          case measure => simp [intOf]; omega
      · obtain rfl : i = n := by omega
        have lt2 : ¬ (i : Int) < (i : Int) := by omega
        have HR : Hid (R = true) := HYES.out HK.out
        clear HYES HNO HK HAT
        go_wp2
        go_ret
        exact ⟨by rw [HR.out]; rfl, HB.out⟩
set_option maxHeartbeats 4000000 in
theorem samep_any (w : World) (u v : Value) (l : List Pk) (hu : PS w u l) (hv : PS w v l) (hl : l.length ≤ 100000) :
    Calls Try.prog 24 #[u, v] w fun e w' => e = .returned (.bool true) ∧ Below w.heap.size w w' := by
  obtain ⟨a, c, rfl, -⟩ := id hu.shape
  obtain ⟨a', c', rfl, -⟩ := id hv.shape
  have HAT : Hid (∀ j, j < l.length → ∀ W, Below w.heap.size w W → ∃ b off b' off', a = some ⟨b, off, none⟩ ∧ a' = some ⟨b', off', none⟩ ∧ PC W b (off + j * 4) (atP l j) ∧ PC W b' (off' + j * 4) (atP l j)) := fun j hj W hb => by
    obtain ⟨b, off, e, q⟩ := (hu.kept hb).at j hj
    obtain ⟨b', off', e', q'⟩ := (hv.kept hb).at j hj
    exact ⟨b, off, b', off', e, e', q, q'⟩
  clear hu hv
  obtain ⟨n, hn⟩ : ∃ n, n = l.length := ⟨_, rfl⟩
  rw [← hn] at HAT hl ⊢
  clear hn
  have t0 : ((n : Int) != (n : Int)) = false := by simp
  go_enter Try.func24, Try.ntmps24
  go_wp2
  go_loopw [5] (fun u wr => ∃ j : Nat, j ≤ n ∧ u = .int .i64 j ∧ Below w.heap.size w wr) (fun u _ => n - (intOf u).toNat)
  case atStart => exact ⟨0, by omega, rfl, Below.refl _ _⟩
  case round =>
    obtain ⟨j, hj, rfl, bel⟩ := hrel
    have HB : Hid (Below w.heap.size w wr) := bel
    clear bel
    by_cases hjn : j < n
    · have lt2 : (j : Int) < (n : Int) := by omega
      obtain ⟨b, off, b', off', rfl, rfl, ⟨c0, c1, c2, c3⟩, d0, d1, d2, d3⟩ := HAT.out j hjn wr HB.out
      have E1 := neq_pk (atP l j)
      have E2 := fun (a b : Operand) => eqg_pk .neq (atP l j) a b
      unfold Pk.v at E1 E2
      generalize atP l j = p at *
      obtain ⟨pn, pt, pz, pa⟩ := p
      simp only at *
      clear HAT
      go_wp2_with fail
      go_quiet (fail)
      have BD : Hid (Below w.heap.size w (wr.drewN nq)) := HB.out.trans ((drw wr nq).mono HB.out.size)
      generalize wr.drewN nq = DW at *
      go_wp2
      go_roundw
      case rel => exact ⟨j + 1, by omega, by go_num, BD.out⟩
      case measure => simp [intOf]; omega
    · obtain rfl : j = n := by omega
      have lt2 : ¬ (j : Int) < (j : Int) := by omega
      clear HAT
      go_wp2
      go_ret
      exact ⟨rfl, HB.out⟩
end Go.Proofs.Ytamjbmbflllbfaa
namespace Go.Proofs.Ytamjbmbflllbfaa
open Go.RowKit Go.Shelf
set_option maxRecDepth 100000

/-- All that was there but a block stays. -/
structure Bt (g : Nat) (w w' : World) : Prop where
  os : w'.os = w.os
  tape : w'.tape = w.tape
  output : w'.output = w.output
  size : w.heap.size ≤ w'.heap.size
  block : ∀ k, k < w.heap.size → k ≠ g → w'.heap[k]? = w.heap[k]?
theorem Bt.refl (g : Nat) (w : World) : Bt g w w := ⟨rfl, rfl, rfl, Nat.le_refl _, fun _ _ _ => rfl⟩
theorem Bt.trans {g : Nat} {a b c : World} (h : Bt g a b) (k : Bt g b c) : Bt g a c :=
  ⟨k.os.trans h.os, k.tape.trans h.tape, k.output.trans h.output, Nat.le_trans h.size k.size, fun i hi hn => (k.block i (Nat.lt_of_lt_of_le hi h.size) hn).trans (h.block i hi hn)⟩
theorem Bt.of {g : Nat} {w w' : World} (h : Below w.heap.size w w') : Bt g w w' := ⟨h.os, h.tape, h.output, h.size, fun k hk _ => h.block k hk⟩
theorem Bt.drew (g : Nat) (W : World) : Bt g W W.drew := ⟨rfl, rfl, rfl, Nat.le_refl _, fun _ _ _ => rfl⟩
theorem Bt.row (g : Nat) (W : World) (cs : Array Value) : Bt g W (W.setRow g cs) := ⟨rfl, rfl, rfl, by simp, fun k _ hn => setRow_other _ _ _ _ hn⟩
theorem RP.bt {t : TypeId} {w w' : World} {B g : Nat} {v : Value} {l : List Pk} (h : RP t w B v l) (hb : Bt g w w') (hg : v.ownBlock ≠ some g) : RP t w' B v l := h.keep fun k _ hk hh => (hb.block k (blk_lt hh) (fun e => hg (e ▸ hk))).trans hh
theorem LS.bt {w w' : World} {B g q : Nat} {v : Value} {s : Lg} (h : LS w B g v s) (hb : Bt q w w') (h1 : g ≠ q) (h2 : v.ownBlock ≠ some q) : LS w' B g v s := ⟨(hb.block g (blk_lt h.bk) h1).trans h.bk, h.rs.bt hb h2, h.ok⟩
theorem LU.bt {w a b : World} {g q : Nat} {v v' : Value} (h : LU w a g v v') (hb : Bt q a b) (hq : w.heap.size ≤ q) : LU w b g v v' :=
  ⟨hb.os.trans h.os, hb.tape.trans h.tape, hb.output.trans h.output, Nat.le_trans h.size hb.size, fun k hk hn ho => (hb.block k (Nat.lt_of_lt_of_le hk h.size) (by omega)).trans (h.block k hk hn ho), h.own⟩
/-- A block of another kind is not the ledger's. -/
theorem blk_apart {w w' : World} {B g k : Nat} {v v' : Value} {s : Lg} {cs : Array Value} {t : TypeId} (h : LS w B g v s) (q : LU w w' g v v') (hk : w.heap[k]? = some (.cells cs t (0, 0))) (h1 : t ≠ 62) (h2 : t ≠ 48) : w'.heap[k]? = some (.cells cs t (0, 0)) := by
  refine (q.block k (blk_lt hk) (fun e => ?_) (fun e => ?_)).trans hk
  · have := h.bk
    unfold LB at this
    rw [← e, hk] at this
    simp at this
    exact h1 this.2
  · obtain ⟨cs', hh⟩ := h.rs.ty e
    rw [hk] at hh
    simp at hh
    exact h2 hh.2
theorem row_ne {t t' : TypeId} {w : World} {B k : Nat} {v : Value} {l : List Pk} {cs : Array Value} (h : RP t w B v l) (hk : w.heap[k]? = some (.cells cs t' (0, 0))) (hn : t ≠ t') : v.ownBlock ≠ some k := fun e => by
  obtain ⟨cs', hh⟩ := h.ty e
  rw [hk] at hh
  simp at hh
  exact hn hh.2.symm
theorem led_ne {w : World} {B g k : Nat} {v : Value} {s : Lg} {cs : Array Value} {t : TypeId} (h : LS w B g v s) (hk : w.heap[k]? = some (.cells cs t (0, 0))) (h1 : t ≠ 62) : g ≠ k := fun e => by
  have := h.bk
  unfold LB at this
  rw [e, hk] at this
  simp at this
  exact h1 this.2
theorem retDo {tmps : Array Value} {w : World} {q : Nat} {cs : Array Value} {b : Bool} (hp : tmps.getD 6 undef = .pointer (some ⟨q, 0, none⟩)) (he : tmps.getD 7 undef = .bool b) (hg : w.heap[q]? = some (.cells cs 31 (0, 0))) (hl : cs.size = 7) :
    (results Try.f12 tmps).run Try.prog w = .ok (.tuple #[.agg cs, .bool b]) w := by
  rw [results_cell_tmp rfl, hp, he]
  simp [asAddr, Result.andThen, ldD hg hl]
/-- The variables at the head. -/
theorem do_head (w : World) (x y z : Array Value) (t1 t2 t3 : TypeId) : ∃ W, W = ((w.alloc (.cells x t1)).alloc (.cells y t2)).alloc (.cells z t3) ∧ Below w.heap.size w W ∧ W.heap.size = w.heap.size + 3 ∧ W.heap[w.heap.size]? = some (.cells x t1 (0, 0)) ∧ W.heap[w.heap.size + 1]? = some (.cells y t2 (0, 0)) ∧ W.heap[w.heap.size + 2]? = some (.cells z t3 (0, 0)) := by
  have b0 := al_b w (.cells x t1)
  have b1 := al_b (w.alloc (.cells x t1)) (.cells y t2)
  have b2 := al_b ((w.alloc (.cells x t1)).alloc (.cells y t2)) (.cells z t3)
  have z1 : (w.alloc (.cells x t1)).heap.size = w.heap.size + 1 := by simp
  have z2 : ((w.alloc (.cells x t1)).alloc (.cells y t2)).heap.size = w.heap.size + 2 := by simp
  have n1 := heap_alloc_new w (.cells x t1)
  have n2 := heap_alloc_new (w.alloc (.cells x t1)) (.cells y t2)
  have n3 := heap_alloc_new ((w.alloc (.cells x t1)).alloc (.cells y t2)) (.cells z t3)
  rw [z1] at n2
  rw [z2] at n3
  exact ⟨_, rfl, b0.trans ((b1.mono b0.size).trans (b2.mono (Nat.le_trans b0.size b1.size))), by simp, blk_kept (blk_kept n1 b1 (by simp)) b2 (by simp; omega), blk_kept n2 b2 (by simp), n3⟩
theorem a8_cells {w : World} {b : Nat} {x0 x1 x2 x3 x4 x5 x6 x7 : Value} (h : w.heap[b]? = some (.cells #[x0, x1, x2, x3, x4, x5, x6, x7] 37 (0, 0))) :
    w.cell? ⟨b, 0, none⟩ = some x0 ∧ w.cell? ⟨b, 1, none⟩ = some x1 ∧ w.cell? ⟨b, 2, none⟩ = some x2 ∧ w.cell? ⟨b, 3, none⟩ = some x3 ∧ w.cell? ⟨b, 4, none⟩ = some x4 ∧ w.cell? ⟨b, 5, none⟩ = some x5 ∧ w.cell? ⟨b, 6, none⟩ = some x6 ∧ w.cell? ⟨b, 7, none⟩ = some x7 := by
  simp [World.cell?, h]
theorem ackG_len {s : Lg} (h : s.ok) (l : List Sp) (now : Int) : (ackG s l now).length ≤ 1024 := by
  unfold ackG
  split
  · exact Nat.le_trans (List.length_filter_le ..) h.ln
  · simp
theorem lostP_len {s : Lg} (h : s.ok) (now late : Int) : (lostP s now late).length ≤ 1024 := by
  unfold lostP
  split
  · exact Nat.le_trans (List.length_filter_le ..) h.ln
  · simp
theorem lostL_g (s : Lg) (now late : Int) : (lostL s now late).g = s.g := by
  unfold lostL
  split <;> rfl
theorem sendL_g (s : Lg) (p : Pk) : (sendL s p).g = s.g := by
  unfold sendL
  split <;> rfl
/-- What a call makes of a ledger. -/
def nxS (s : Lg) (q : Atc) : Lg := if q.k % 5 = 3 then ackN s q.L q.n else if q.k % 5 = 4 then lostL s q.n q.l else sendL s q.p
theorem nxS_ok {s : Lg} (h : s.ok) (q : Atc) : (nxS s q).ok := by
  unfold nxS
  split
  · exact ackN_ok h _ _
  · split
    · exact lostL_ok h _ _
    · exact sendL_ok h _
/-- Both ledgers, side by side. -/
structure TW (w : World) (B g : Nat) (v dv : Value) (k : Int) (d : Pk) (s : Lg) : Prop where
  ls : LS w B g v s
  ds : DS w B dv k d s
theorem TW.below {w w' : World} {B g : Nat} {v dv : Value} {k : Int} {d : Pk} {s : Lg} (h : TW w B g v dv k d s) (hb : Below w.heap.size w w') : TW w' B g v dv k d s := ⟨h.ls.below hb, h.ds.below hb⟩
theorem TW.bt {w w' : World} {B g q : Nat} {v dv : Value} {k : Int} {d : Pk} {s : Lg} {cs : Array Value} (h : TW w B g v dv k d s) (hb : Bt q w w') (hq : w.heap[q]? = some (.cells cs 31 (0, 0))) : TW w' B g v dv k d s :=
  ⟨h.ls.bt hb (led_ne h.ls hq (by decide)) (row_ne h.ls.rs hq (by decide)), h.ds.rs.bt hb (row_ne h.ds.rs hq (by decide)), h.ds.dk⟩
end Go.Proofs.Ytamjbmbflllbfaa
namespace Go.Proofs.Ytamjbmbflllbfaa
open Go.RowKit Go.Shelf
set_option maxRecDepth 100000

set_option maxHeartbeats 8000000 in
theorem do_ack (w w0 : World) (g : Nat) (v dv : Value) (s : Lg) (k : Int) (d : Pk) (q : Atc) (h : TW w w0.heap.size g v dv k d s) (hg : w0.heap.size ≤ g) (hb : Below w0.heap.size w0 w) (hq : okA w0 q) (hl : q.L.length ≤ 70) (hk : q.k % 5 = 3) :
    Calls Try.prog 12 #[.pointer (some ⟨g, 0, none⟩), .agg (dc dv k d s.g), .agg #[.int .u8 q.k, .int .i64 q.p.n, .int .i64 q.p.t, .int .i64 q.p.z, .bool q.p.a, q.u, .int .i64 q.n, .int .i64 q.l]] w fun e w' => ∃ dv' v', e = .returned (.tuple #[.agg (dc dv' k d (ackN s q.L q.n).g), .bool true]) ∧ TW w' w0.heap.size g v' dv' k d (ackN s q.L q.n) ∧ LU w w' g v v' := by
  obtain ⟨qk, p, u, L, qn, ql⟩ := q
  obtain ⟨q0, q1, hu⟩ := hq
  simp only at q0 q1 hu hl hk ⊢
  obtain ⟨xa, xc, rfl, -⟩ := id h.ds.rs.is.shape
  obtain ⟨ua, uc, rfl, -⟩ := id hu.shape
  have hln := h.ls.ok.ln
  obtain ⟨W3, hW3, b3, z3, e0, e1, e2⟩ := do_head w (dc (.slice xa s.o.length xc) k d s.g) #[.int .u8 qk, .int .i64 p.n, .int .i64 p.t, .int .i64 p.z, .bool p.a, .slice ua L.length uc, .int .i64 qn, .int .i64 ql] #[.slice none 0 0, .int .i64 0, .int .i64 0, .int .i64 0, .int .i64 0, .bool false, .int .i64 0] 31 37 31
  have m0 : Int.tmod qk 5 = 3 := by rw [Int.tmod_eq_emod_of_nonneg q0]; exact hk
  have m1 : IntKind.u8.wrap 3 = 3 := by decide
  have h3w := h.below b3
  have HB3 : Hid (Below w0.heap.size w0 W3) := hb.trans (b3.mono hb.size)
  have HU : Hid (∀ W, Below w0.heap.size w0 W → SSp W (.slice ua L.length uc) L) := fun W hb => hu.kept hb
  have HL : Hid (L.length ≤ 1000) := by unfold Hid; omega
  have HLW : Hid (LU w W3 g v v) := LU.of b3
  have HG : Hid (w0.heap.size ≤ g) := hg
  have ca := ack_low W3 w0.heap.size g v (.slice ua L.length uc) s L qn h3w.ls HB3.out.size hg w0 (Nat.le_refl _) (Nat.le_refl _) HB3.out hu HL.out
  obtain ⟨y0, y1, y2, y3, y4, y5, y6, y7⟩ := a8_cells e1
  obtain ⟨hR, eR⟩ : ∃ x, x = w.heap.size + 2 := ⟨_, rfl⟩
  obtain ⟨hQ, eQ⟩ : ∃ x, x = w.heap.size + 1 := ⟨_, rfl⟩
  obtain ⟨hA, eA⟩ : ∃ x, x = w.heap.size := ⟨_, rfl⟩
  have HRS : Hid (w.heap.size ≤ hR ∧ hR < W3.heap.size) := ⟨by omega, by omega⟩
  rw [← eR] at e2
  rw [← eQ] at e1 y0 y1 y2 y3 y4 y5 y6 y7
  rw [← eA] at e0
  have HE : Hid (W3.heap[hA]? = some (.cells (dc (.slice xa s.o.length xc) k d s.g) 31 (0, 0)) ∧ W3.heap[hQ]? = some (.cells #[.int .u8 qk, .int .i64 p.n, .int .i64 p.t, .int .i64 p.z, .bool p.a, .slice ua L.length uc, .int .i64 qn, .int .i64 ql] 37 (0, 0)) ∧ W3.heap[hR]? = some (.cells #[.slice none 0 0, .int .i64 0, .int .i64 0, .int .i64 0, .int .i64 0, .bool false, .int .i64 0] 31 (0, 0))) := ⟨e0, e1, e2⟩
  have HT3 : Hid (TW W3 w0.heap.size g v (.slice xa s.o.length xc) k d s) := h3w
  have HGL : Hid ((ackG s L qn).length ≤ 100000) := by unfold Hid; have := ackG_len h.ls.ok L qn; omega
  clear h h3w hb hu hg b3 z3 e0 e1 e2 hl hk
  generalize hn9 : s.o.length = n9 at *
  have HN9 : Hid (s.o.length = n9) := hn9
  clear hn9
  generalize hnL : L.length = nL at *
  have HNL : Hid (L.length = nL) := hnL
  clear hnL
  go_enter Try.func12, Try.ntmps12
  go_upto_region 1 with fail
  try rw [← hW3]
  try rw [← eR]
  try rw [← eQ]
  try rw [← eA]
  clear hW3 eR eQ eA
  go_wp2_with fail
  refine ca.mono ?_
  rintro e w4 ⟨vt, v4, rfl, rt4, l4, u4⟩
  have f0 := blk_apart HT3.out.ls u4 HE.out.1 (by decide) (by decide)
  have f1 := blk_apart HT3.out.ls u4 HE.out.2.1 (by decide) (by decide)
  have f2 := blk_apart HT3.out.ls u4 HE.out.2.2 (by decide) (by decide)
  have hb4 : Below w0.heap.size w0 w4 := u4.below HB3.out HB3.out.size HG.out (fun k hk => HT3.out.ls.rs.base hk)
  have HF0 : Hid (w4.heap[hA]? = some (.cells (dc (.slice xa n9 xc) k d s.g) 31 (0, 0))) := f0
  have HF2 : Hid (w4.heap[hR]? = some (.cells #[.slice none 0 0, .int .i64 0, .int .i64 0, .int .i64 0, .int .i64 0, .bool false, .int .i64 0] 31 (0, 0))) := f2
  have d4 : DS w4 w0.heap.size (.slice xa n9 xc) k d s := ⟨RP.apart HT3.out.ls HT3.out.ds.rs u4, HT3.out.ds.dk⟩
  have HM : Hid (min w0.heap.size w4.heap.size = w0.heap.size) := Nat.min_eq_left hb4.size
  have HL4 : Hid (LS w4 w0.heap.size g v4 (ackN s L qn)) := l4
  have HU4 : Hid (LU w w4 g v v4) := HLW.out.trans u4
  have HZ4 : Hid (W3.heap.size ≤ w4.heap.size) := u4.size
  have HR4 : Hid (RP 48 w4 W3.heap.size vt (ackG s L qn)) := rt4
  obtain ⟨ta, tc, rfl, -⟩ := id rt4.is.shape
  have cr := rack_any w4 w0.heap.size (.slice xa n9 xc) (.slice ua nL uc) k d s L qn d4 HT3.out.ls.ok (HU.out w4 hb4) (by rw [HNL.out]; exact HL.out)
  obtain ⟨-, y1, y2, y3, y4, y5, y6, y7⟩ := a8_cells f1
  clear ca rt4 l4 u4 f0 f1 f2 hb4 d4 HE
  generalize (ackR s L qn).1 = ar1 at *
  generalize (ackR s L qn).2 = ar2 at *
  generalize comE s L qn = ce at *
  generalize h9s : ackN s L qn = s9 at *
  have HS9 : Hid (ackN s L qn = s9) := h9s
  clear h9s
  generalize ackG s L qn = G at *
  generalize hG : G.length = nG at *
  have HNG : Hid (G.length = nG) := hG
  clear hG
  go_upto_region 7 with fail
  go_wp2_with (refine wpList_load_row rfl 31 _ rfl hA rfl 31 (dc (.slice xa n9 xc) k d s.g) (0, 0) _ HF0.out Try.underlying31 rfl sizeD ?_)
  refine cr.mono ?_
  rintro e w5 ⟨dv5, vt5, rfl, d5, r5, b5⟩
  obtain ⟨sa, sc, rfl, -⟩ := id r5.is.shape
  rw [HNG.out] at r5 ⊢
  obtain ⟨za, zc, rfl, -⟩ := id d5.rs.is.shape
  rw [HM.out] at d5
  generalize h9 : s9.o.length = n8 at *
  clear h9
  obtain ⟨W6, hW6⟩ : ∃ W6, W6 = w5.alloc (.cells #[.slice none 0 0, .int .i64 0, .int .i64 0, .int .i64 0, .int .i64 0, .bool false, .int .i64 0] 31) := ⟨_, rfl⟩
  obtain ⟨W7, hW7⟩ : ∃ W7, W7 = W6.setRow w5.heap.size (dc (.slice za n8 zc) k d s9.g) := ⟨_, rfl⟩
  have b6 : Below w5.heap.size w5 W6 := by rw [hW6]; exact al_b _ _
  have HG6 : Hid ((w5.alloc (.cells #[.slice none 0 0, .int .i64 0, .int .i64 0, .int .i64 0, .int .i64 0, .bool false, .int .i64 0] 31)).heap[w5.heap.size]? = some (.cells #[.slice none 0 0, .int .i64 0, .int .i64 0, .int .i64 0, .int .i64 0, .bool false, .int .i64 0] 31 (0, 0))) := heap_alloc_new _ _
  have HG7 : Hid (W7.heap[w5.heap.size]? = some (.cells (dc (.slice za n8 zc) k d s9.g) 31 (0, 0))) := by unfold Hid; rw [hW7, hW6]; exact setRow_heap _ _ _ _ _ _ HG6.out
  have b7 : Below w5.heap.size w5 W7 := by rw [hW7]; exact below_setRow b6 (Nat.le_refl _) _
  have HX : Hid (hR < w5.heap.size) := by have := HRS.out.2; have := HZ4.out; have := b5.size; unfold Hid; omega
  have HE7 : Hid (W7.heap[hR]? = some (.cells #[.slice none 0 0, .int .i64 0, .int .i64 0, .int .i64 0, .int .i64 0, .bool false, .int .i64 0] 31 (0, 0))) := blk_kept (blk_kept HF2.out b5 (blk_lt HF2.out)) b7 HX.out
  have HT7 : Hid (TW W7 w0.heap.size g v4 (.slice za n8 zc) k d s9) := (TW.mk (HL4.out.below b5) d5).below b7
  have HU7 : Hid (LU w W7 g v v4) := (HU4.out.behind b5).behind b7
  have HP7 : Hid (RP 48 W7 W3.heap.size (.slice ta nG tc) G) := (HR4.out.below b5).below b7
  have HQ7 : Hid (RP 29 W7 w4.heap.size (.slice sa nG sc) G) := r5.below b7
  have FR : Hid (∀ x, Bt hR W7 x → DC x w5.heap.size (.slice za n8 zc) k d s9.g) := fun x hx => DB.dc ((hx.block _ (blk_lt HG7.out) (by have := HX.out; omega)).trans HG7.out)
  have CC : Hid (∀ x, Bt hR W7 x → Calls Try.prog 24 #[.slice ta nG tc, .slice sa nG sc] x fun e w' => e = .returned (.bool true) ∧ Below x.heap.size x w') := fun x hx => samep_any x _ _ G (HP7.out.bt hx (row_ne HP7.out HE7.out (by decide))).is (HQ7.out.bt hx (row_ne HQ7.out HE7.out (by decide))).is (by rw [HNG.out]; exact HGL.out)
  clear cr d5 r5 b5 b6 b7 y1 y2 y3 y4 y5 y6 y7 HF0 HF2 HL4 HR4 HP7 HQ7 HU4 HT3
  clear m0 m1
  go_wp2_with (refine wpList_store_row rfl 31 _ _ rfl w5.heap.size (dc (.slice za n8 zc) k d s9.g) rfl rfl 31 _ HG6.out sizeD rfl (dc_one _ _ _ _ _ _) (Hid.out ?_))
  unfold Hid
  rw [← hW6, ← hW7]
  clear hW6 hW7 HG6
  go_upto_region 8 with fail
  refine wp_region_held_drew (S := Bt hR W7) (by kernel_rfl) (Bt.drew _ _) (fun _ => ?_)
  refine wpAnyH_name (fun u0 hu0 => ?_)
  have su0 : (Bt hR W7) u0 := by rw [hu0.out]; exact (Bt.drew _ _)
  have RXu0 : u0.heap[hR]? = some (.cells #[.slice none 0 0, .int .i64 0, .int .i64 0, .int .i64 0, .int .i64 0, .bool false, .int .i64 0] 31 (0, 0)) := by rw [hu0.out]; exact HE7.out
  refine wpAnyH_take (i := 0) (oi := { dst := some 66, op := Op.load 31 (Operand.tmp 12), type := 31, pos := "law.go:51", after := #[], guard := none }) (v := .agg (dc (.slice za n8 zc) k d s9.g)) rfl (by kernel_rfl) (by kernel_rfl) (by kernel_rfl) (fun _ _ _ h => h) (Or.inl ⟨by rfl, ?yr1⟩) su0 ?rr1
  case yr1 => (intro w hSw; obtain ⟨c0, c1, c2, c3, c4, c5, c6, -, -, -, -, -, -, -⟩ := FR.out w hSw; go_simp; try with_reducible rfl)
  try simp only [Act.put, List.setIfInBounds_toArray, List.set_cons_zero, List.set_cons_succ]
  refine wpAnyH_take (i := 1) (oi := { dst := some 67, op := Op.move (Operand.tmp 8), type := 40, pos := "law.go:51", after := #[], guard := none }) (v := ?vr2) rfl (by kernel_rfl) (by kernel_rfl) (by kernel_rfl) (fun _ _ _ h => h) (Or.inl ⟨by rfl, ?yr2⟩) su0 ?rr2
  case yr2 => (intro w hSw; go_simp; try with_reducible rfl)
  try simp only [Act.put, List.setIfInBounds_toArray, List.set_cons_zero, List.set_cons_succ]
  refine wpAnyH_take (i := 2) (oi := { dst := some 68, op := Op.move (Operand.tmp 13), type := 27, pos := "law.go:51", after := #[], guard := none }) (v := ?vr3) rfl (by kernel_rfl) (by kernel_rfl) (by kernel_rfl) (fun _ _ _ h => h) (Or.inl ⟨by rfl, ?yr3⟩) su0 ?rr3
  case yr3 => (intro w hSw; go_simp; try with_reducible rfl)
  try simp only [Act.put, List.setIfInBounds_toArray, List.set_cons_zero, List.set_cons_succ]
  refine wpAnyH_ready (rs := [3]) (by kernel_rfl) (by simp) ?_
  refine AllReadyH.cons (o := { dst := some 69, op := Op.call { callee := Callee.value (Operand.func 24), args := #[Operand.tmp 67, Operand.tmp 68], argTypes := #[40, 27] }, type := 4, pos := "law.go:51", after := #[{ on := 1, ground := Ground.data }, { on := 2, ground := Ground.data }], guard := none }) rfl (fun KK hKK => ?_) ?_
  · go_simp
    refine (CC.out _ su0).mono ?_
    rintro e u4' ⟨rfl, bu4'⟩
    (try go_wp2_with fail)
    refine hKK.out _ _ (su0.trans (Bt.of bu4')) (fun _ => ?_)
    clear hKK KK
    try simp only [Act.put, List.setIfInBounds_toArray, List.set_cons_zero, List.set_cons_succ]
    refine wpAnyH_name (fun u4 hu4 => ?_)
    have su4 : (Bt hR W7) u4 := by rw [hu4.out]; exact (su0.trans (Bt.of bu4'))
    have RXu4 : u4.heap[hR]? = some (.cells #[.slice none 0 0, .int .i64 0, .int .i64 0, .int .i64 0, .int .i64 0, .bool false, .int .i64 0] 31 (0, 0)) := by rw [hu4.out]; exact (blk_kept RXu0 bu4' (blk_lt RXu0))
    refine wpAnyH_take (i := 4) (oi := { dst := some 70, op := Op.move (Operand.tmp 69), type := 4, pos := "law.go:51", after := #[{ on := 3, ground := Ground.data }, { on := 3, ground := Ground.chain }], guard := none }) (v := ?vr5) rfl (by kernel_rfl) (by kernel_rfl) (by kernel_rfl) (fun _ _ _ h => h) (Or.inl ⟨by rfl, ?yr5⟩) su4 ?rr5
    case yr5 => (intro w hSw; go_simp; try with_reducible rfl)
    try simp only [Act.put, List.setIfInBounds_toArray, List.set_cons_zero, List.set_cons_succ]
    refine wpAnyH_take (i := 5) (oi := { dst := some 71, op := Op.move (Operand.tmp 9), type := 3, pos := "law.go:51", after := #[{ on := 4, ground := Ground.guard }], guard := some (4, true) }) (v := ?vr6) rfl (by kernel_rfl) (by kernel_rfl) (by kernel_rfl) (fun _ _ _ h => h) (Or.inl ⟨by rfl, ?yr6⟩) su4 ?rr6
    case yr6 => (intro w hSw; go_simp; try with_reducible rfl)
    try simp only [Act.put, List.setIfInBounds_toArray, List.set_cons_zero, List.set_cons_succ]
    refine wpAnyH_take (i := 6) (oi := { dst := some 72, op := Op.move (Operand.tmp 14), type := 3, pos := "law.go:51", after := #[{ on := 4, ground := Ground.guard }], guard := some (4, true) }) (v := ?vr7) rfl (by kernel_rfl) (by kernel_rfl) (by kernel_rfl) (fun _ _ _ h => h) (Or.inl ⟨by rfl, ?yr7⟩) su4 ?rr7
    case yr7 => (intro w hSw; go_simp; try with_reducible rfl)
    try simp only [Act.put, List.setIfInBounds_toArray, List.set_cons_zero, List.set_cons_succ]
    refine wpAnyH_take (i := 7) (oi := { dst := some 73, op := Op.binOp BinOp.eql 3 (Operand.tmp 71) (Operand.tmp 72) 3, type := 4, pos := "law.go:51", after := #[{ on := 5, ground := Ground.data }, { on := 6, ground := Ground.data }, { on := 4, ground := Ground.guard }], guard := some (4, true) }) (v := .bool true) rfl (by kernel_rfl) (by kernel_rfl) (by kernel_rfl) (fun _ _ _ h => h) (Or.inl ⟨by rfl, ?yr8⟩) su4 ?rr8
    case yr8 => (intro w hSw; go_simp; try with_reducible rfl)
    try simp only [Act.put, List.setIfInBounds_toArray, List.set_cons_zero, List.set_cons_succ]
    refine wpAnyH_take (i := 8) (oi := { dst := some 74, op := Op.pick (Operand.tmp 70) (Operand.tmp 73) (Operand.const (Value.bool false)), type := 4, pos := "law.go:51", after := #[{ on := 4, ground := Ground.data }, { on := 7, ground := Ground.data }], guard := none }) (v := ?vr9) rfl (by kernel_rfl) (by kernel_rfl) (by kernel_rfl) (fun _ _ _ h => h) (Or.inl ⟨by rfl, ?yr9⟩) su4 ?rr9
    case yr9 => (intro w hSw; go_simp; try with_reducible rfl)
    try simp only [Act.put, List.setIfInBounds_toArray, List.set_cons_zero, List.set_cons_succ]
    refine wpAnyH_take (i := 9) (oi := { dst := some 75, op := Op.move (Operand.tmp 74), type := 4, pos := "law.go:51", after := #[{ on := 8, ground := Ground.data }, { on := 4, ground := Ground.chain }], guard := none }) (v := ?vr10) rfl (by kernel_rfl) (by kernel_rfl) (by kernel_rfl) (fun _ _ _ h => h) (Or.inl ⟨by rfl, ?yr10⟩) su4 ?rr10
    case yr10 => (intro w hSw; go_simp; try with_reducible rfl)
    try simp only [Act.put, List.setIfInBounds_toArray, List.set_cons_zero, List.set_cons_succ]
    refine wpAnyH_take (i := 10) (oi := { dst := some 76, op := Op.move (Operand.tmp 10), type := 4, pos := "law.go:51", after := #[{ on := 9, ground := Ground.guard }], guard := some (9, true) }) (v := ?vr11) rfl (by kernel_rfl) (by kernel_rfl) (by kernel_rfl) (fun _ _ _ h => h) (Or.inl ⟨by rfl, ?yr11⟩) su4 ?rr11
    case yr11 => (intro w hSw; go_simp; try with_reducible rfl)
    try simp only [Act.put, List.setIfInBounds_toArray, List.set_cons_zero, List.set_cons_succ]
    refine wpAnyH_take (i := 11) (oi := { dst := some 77, op := Op.move (Operand.tmp 15), type := 4, pos := "law.go:51", after := #[{ on := 9, ground := Ground.guard }], guard := some (9, true) }) (v := ?vr12) rfl (by kernel_rfl) (by kernel_rfl) (by kernel_rfl) (fun _ _ _ h => h) (Or.inl ⟨by rfl, ?yr12⟩) su4 ?rr12
    case yr12 => (intro w hSw; go_simp; try with_reducible rfl)
    try simp only [Act.put, List.setIfInBounds_toArray, List.set_cons_zero, List.set_cons_succ]
    refine wpAnyH_take (i := 12) (oi := { dst := some 78, op := Op.binOp BinOp.eql 4 (Operand.tmp 76) (Operand.tmp 77) 4, type := 4, pos := "law.go:51", after := #[{ on := 10, ground := Ground.data }, { on := 11, ground := Ground.data }, { on := 9, ground := Ground.guard }], guard := some (9, true) }) (v := .bool true) rfl (by kernel_rfl) (by kernel_rfl) (by kernel_rfl) (fun _ _ _ h => h) (Or.inl ⟨by rfl, ?yr13⟩) su4 ?rr13
    case yr13 => (intro w hSw; go_simp; try with_reducible rfl)
    try simp only [Act.put, List.setIfInBounds_toArray, List.set_cons_zero, List.set_cons_succ]
    refine wpAnyH_take (i := 13) (oi := { dst := some 79, op := Op.pick (Operand.tmp 75) (Operand.tmp 78) (Operand.const (Value.bool false)), type := 4, pos := "law.go:51", after := #[{ on := 9, ground := Ground.data }, { on := 12, ground := Ground.data }], guard := none }) (v := ?vr14) rfl (by kernel_rfl) (by kernel_rfl) (by kernel_rfl) (fun _ _ _ h => h) (Or.inl ⟨by rfl, ?yr14⟩) su4 ?rr14
    case yr14 => (intro w hSw; go_simp; try with_reducible rfl)
    try simp only [Act.put, List.setIfInBounds_toArray, List.set_cons_zero, List.set_cons_succ]
    refine wpAnyH_take (i := 14) (oi := { dst := some 80, op := Op.move (Operand.tmp 79), type := 4, pos := "law.go:51", after := #[{ on := 13, ground := Ground.data }, { on := 9, ground := Ground.chain }], guard := none }) (v := ?vr15) rfl (by kernel_rfl) (by kernel_rfl) (by kernel_rfl) (fun _ _ _ h => h) (Or.inl ⟨by rfl, ?yr15⟩) su4 ?rr15
    case yr15 => (intro w hSw; go_simp; try with_reducible rfl)
    try simp only [Act.put, List.setIfInBounds_toArray, List.set_cons_zero, List.set_cons_succ]
    refine wpAnyH_take (i := 15) (oi := { dst := some 81, op := Op.move (Operand.tmp 11), type := 41, pos := "law.go:51", after := #[{ on := 14, ground := Ground.guard }, { on := 19, ground := Ground.gcOnly Departure.lateStores }], guard := some (14, true) }) (v := ?vr16) rfl (by kernel_rfl) (by kernel_rfl) (by kernel_rfl) (fun _ _ _ h => h) (Or.inl ⟨by rfl, ?yr16⟩) su4 ?rr16
    case yr16 => (intro w hSw; go_simp; try with_reducible rfl)
    try simp only [Act.put, List.setIfInBounds_toArray, List.set_cons_zero, List.set_cons_succ]
    refine wpAnyH_take (i := 16) (oi := { dst := some 82, op := Op.move (Operand.tmp 16), type := 3, pos := "law.go:51", after := #[{ on := 14, ground := Ground.guard }, { on := 19, ground := Ground.gcOnly Departure.lateStores }], guard := some (14, true) }) (v := ?vr17) rfl (by kernel_rfl) (by kernel_rfl) (by kernel_rfl) (fun _ _ _ h => h) (Or.inl ⟨by rfl, ?yr17⟩) su4 ?rr17
    case yr17 => (intro w hSw; go_simp; try with_reducible rfl)
    try simp only [Act.put, List.setIfInBounds_toArray, List.set_cons_zero, List.set_cons_succ]
    refine wpAnyH_take (i := 17) (oi := { dst := some 83, op := Op.binOp BinOp.eql 3 (Operand.tmp 81) (Operand.tmp 82) 3, type := 4, pos := "law.go:51", after := #[{ on := 15, ground := Ground.data }, { on := 16, ground := Ground.data }, { on := 14, ground := Ground.guard }, { on := 19, ground := Ground.gcOnly Departure.lateStores }], guard := some (14, true) }) (v := .bool true) rfl (by kernel_rfl) (by kernel_rfl) (by kernel_rfl) (fun _ _ _ h => h) (Or.inl ⟨by rfl, ?yr18⟩) su4 ?rr18
    case yr18 => (intro w hSw; go_simp; try with_reducible rfl)
    try simp only [Act.put, List.setIfInBounds_toArray, List.set_cons_zero, List.set_cons_succ]
    refine wpAnyH_take (i := 18) (oi := { dst := some 84, op := Op.pick (Operand.tmp 80) (Operand.tmp 83) (Operand.const (Value.bool false)), type := 4, pos := "law.go:51", after := #[{ on := 14, ground := Ground.data }, { on := 17, ground := Ground.data }, { on := 19, ground := Ground.gcOnly Departure.lateStores }], guard := none }) (v := ?vr19) rfl (by kernel_rfl) (by kernel_rfl) (by kernel_rfl) (fun _ _ _ h => h) (Or.inl ⟨by rfl, ?yr19⟩) su4 ?rr19
    case yr19 => (intro w hSw; go_simp; try with_reducible rfl)
    try simp only [Act.put, List.setIfInBounds_toArray, List.set_cons_zero, List.set_cons_succ]
    refine wpAnyH_ready (rs := [19]) (by kernel_rfl) (by simp) ?_
    refine AllReadyH.cons (o := { dst := none, op := Op.store 31 (Operand.tmp 6) (Operand.tmp 66), type := 0, pos := "law.go:51", after := #[{ on := 0, ground := Ground.data }, { on := 14, ground := Ground.chain }, { on := 0, ground := Ground.phase }, { on := 1, ground := Ground.textOnly Departure.lateStores }, { on := 2, ground := Ground.textOnly Departure.lateStores }, { on := 3, ground := Ground.textOnly Departure.lateStoresUnsure }, { on := 4, ground := Ground.textOnly Departure.lateStores }, { on := 5, ground := Ground.textOnly Departure.lateStores }, { on := 6, ground := Ground.textOnly Departure.lateStores }, { on := 7, ground := Ground.textOnly Departure.lateStores }, { on := 8, ground := Ground.textOnly Departure.lateStores }, { on := 9, ground := Ground.textOnly Departure.lateStores }, { on := 10, ground := Ground.textOnly Departure.lateStores }, { on := 11, ground := Ground.textOnly Departure.lateStores }, { on := 12, ground := Ground.textOnly Departure.lateStores }, { on := 13, ground := Ground.textOnly Departure.lateStores }, { on := 14, ground := Ground.textOnly Departure.lateStores }, { on := 15, ground := Ground.textOnly Departure.lateStores }, { on := 16, ground := Ground.textOnly Departure.lateStores }, { on := 17, ground := Ground.textOnly Departure.lateStores }, { on := 18, ground := Ground.textOnly Departure.lateStores }], guard := none }) rfl (fun KK hKK => ?_) ?_
    · refine wp_store_row 31 _ _ rfl hR (dc (.slice za n8 zc) k d s9.g) rfl rfl 31 _ RXu4 sizeD rfl (dc_one _ _ _ _ _ _) ?_
      refine hKK.out _ _ (su4.trans (Bt.row _ _ _)) (fun _ => ?_)
      clear hKK KK
      try simp only [Act.put]
      refine wpAnyH_name (fun u20 hu20 => ?_)
      have su20 : (Bt hR W7) u20 := by rw [hu20.out]; exact (su4.trans (Bt.row _ _ _))
      have RXu20 : u20.heap[hR]? = some (.cells (dc (.slice za n8 zc) k d s9.g) 31 (0, 0)) := by rw [hu20.out]; exact setRow_heap _ _ _ _ _ _ RXu4
      refine wpAnyH_take (i := 20) (oi := { dst := some 7, op := Op.assign (Operand.tmp 84), type := 4, pos := "law.go:51", after := #[{ on := 18, ground := Ground.data }, { on := 19, ground := Ground.chain }, { on := 0, ground := Ground.phase }, { on := 1, ground := Ground.phase }, { on := 2, ground := Ground.phase }, { on := 3, ground := Ground.phase }, { on := 4, ground := Ground.phase }, { on := 5, ground := Ground.phase }, { on := 6, ground := Ground.phase }, { on := 7, ground := Ground.phase }, { on := 8, ground := Ground.phase }, { on := 9, ground := Ground.phase }, { on := 10, ground := Ground.phase }, { on := 11, ground := Ground.phase }, { on := 12, ground := Ground.phase }, { on := 13, ground := Ground.phase }, { on := 14, ground := Ground.phase }, { on := 15, ground := Ground.phase }, { on := 16, ground := Ground.phase }, { on := 17, ground := Ground.phase }, { on := 18, ground := Ground.phase }, { on := 19, ground := Ground.phase }], guard := none }) (v := ?vr21) rfl (by kernel_rfl) (by kernel_rfl) (by kernel_rfl) (fun _ _ _ h => h) (Or.inl ⟨by rfl, ?yr21⟩) su20 ?rr21
      case yr21 => (intro w hSw; go_simp; try with_reducible rfl)
      try simp only [Act.put, List.setIfInBounds_toArray, List.set_cons_zero, List.set_cons_succ]
      refine wpAnyH_done (by kernel_rfl) ?_ _
      have HRZ : Hid (u20.heap[hR]? = some (.cells (dc (.slice za n8 zc) k d s9.g) 31 (0, 0))) := RXu20
      have HSB : Hid (Bt hR W7 u20) := su20
      clear FR CC RXu20
      go_wp2
      exact bodyPost_ret (v := .tuple #[.agg (dc (.slice za n8 zc) k d s9.g), .bool true]) (retDo rfl rfl HRZ.out rfl) rfl (by rw [HS9.out]; exact ⟨_, v4, rfl, HT7.out.bt HSB.out HE7.out, HU7.out.bt HSB.out HRS.out.1⟩)
    exact AllReadyH.nil
  exact AllReadyH.nil
end Go.Proofs.Ytamjbmbflllbfaa
namespace Go.Proofs.Ytamjbmbflllbfaa
open Go.RowKit Go.Shelf
set_option maxRecDepth 100000

set_option maxHeartbeats 8000000 in
theorem do_lost (w w0 : World) (g : Nat) (v dv : Value) (s : Lg) (k : Int) (d : Pk) (q : Atc) (h : TW w w0.heap.size g v dv k d s) (hg : w0.heap.size ≤ g) (hb : Below w0.heap.size w0 w) (hq : okA w0 q) (hl : q.L.length ≤ 70) (hk : q.k % 5 = 4) :
    Calls Try.prog 12 #[.pointer (some ⟨g, 0, none⟩), .agg (dc dv k d s.g), .agg #[.int .u8 q.k, .int .i64 q.p.n, .int .i64 q.p.t, .int .i64 q.p.z, .bool q.p.a, q.u, .int .i64 q.n, .int .i64 q.l]] w fun e w' => ∃ dv' v', e = .returned (.tuple #[.agg (dc dv' k d (lostL s q.n q.l).g), .bool true]) ∧ TW w' w0.heap.size g v' dv' k d (lostL s q.n q.l) ∧ LU w w' g v v' := by
  obtain ⟨qk, p, u, L, qn, ql⟩ := q
  obtain ⟨q0, q1, hu⟩ := hq
  simp only at q0 q1 hu hl hk ⊢
  obtain ⟨xa, xc, rfl, -⟩ := id h.ds.rs.is.shape
  obtain ⟨ua, uc, rfl, -⟩ := id hu.shape
  have hln := h.ls.ok.ln
  obtain ⟨W3, hW3, b3, z3, e0, e1, e2⟩ := do_head w (dc (.slice xa s.o.length xc) k d s.g) #[.int .u8 qk, .int .i64 p.n, .int .i64 p.t, .int .i64 p.z, .bool p.a, .slice ua L.length uc, .int .i64 qn, .int .i64 ql] #[.slice none 0 0, .int .i64 0, .int .i64 0, .int .i64 0, .int .i64 0, .bool false, .int .i64 0] 31 37 31
  have m0 : Int.tmod qk 5 = 4 := by rw [Int.tmod_eq_emod_of_nonneg q0]; exact hk
  have m1 : IntKind.u8.wrap 4 = 4 := by decide
  have h3w := h.below b3
  have HB3 : Hid (Below w0.heap.size w0 W3) := hb.trans (b3.mono hb.size)
  have HU : Hid (∀ W, Below w0.heap.size w0 W → SSp W (.slice ua L.length uc) L) := fun W hb => hu.kept hb
  have HL : Hid (L.length ≤ 1000) := by unfold Hid; omega
  have HLW : Hid (LU w W3 g v v) := LU.of b3
  have HG : Hid (w0.heap.size ≤ g) := hg
  have ca := lost_any W3 w0.heap.size g v s qn ql h3w.ls HB3.out.size
  obtain ⟨y0, y1, y2, y3, y4, y5, y6, y7⟩ := a8_cells e1
  obtain ⟨hR, eR⟩ : ∃ x, x = w.heap.size + 2 := ⟨_, rfl⟩
  obtain ⟨hQ, eQ⟩ : ∃ x, x = w.heap.size + 1 := ⟨_, rfl⟩
  obtain ⟨hA, eA⟩ : ∃ x, x = w.heap.size := ⟨_, rfl⟩
  have HRS : Hid (w.heap.size ≤ hR ∧ hR < W3.heap.size) := ⟨by omega, by omega⟩
  rw [← eR] at e2
  rw [← eQ] at e1 y0 y1 y2 y3 y4 y5 y6 y7
  rw [← eA] at e0
  have HE : Hid (W3.heap[hA]? = some (.cells (dc (.slice xa s.o.length xc) k d s.g) 31 (0, 0)) ∧ W3.heap[hQ]? = some (.cells #[.int .u8 qk, .int .i64 p.n, .int .i64 p.t, .int .i64 p.z, .bool p.a, .slice ua L.length uc, .int .i64 qn, .int .i64 ql] 37 (0, 0)) ∧ W3.heap[hR]? = some (.cells #[.slice none 0 0, .int .i64 0, .int .i64 0, .int .i64 0, .int .i64 0, .bool false, .int .i64 0] 31 (0, 0))) := ⟨e0, e1, e2⟩
  have HT3 : Hid (TW W3 w0.heap.size g v (.slice xa s.o.length xc) k d s) := h3w
  have HGL : Hid ((lostP s qn ql).length ≤ 100000) := by unfold Hid; have := lostP_len h.ls.ok qn ql; omega
  have HSG : Hid ((lostL s qn ql).g = s.g) := lostL_g s qn ql
  clear h h3w hb hu hg b3 z3 e0 e1 e2 hl hk
  generalize hn9 : s.o.length = n9 at *
  have HN9 : Hid (s.o.length = n9) := hn9
  clear hn9
  generalize hnL : L.length = nL at *
  have HNL : Hid (L.length = nL) := hnL
  clear hnL
  go_enter Try.func12, Try.ntmps12
  go_upto_region 1 with fail
  try rw [← hW3]
  try rw [← eR]
  try rw [← eQ]
  try rw [← eA]
  clear hW3 eR eQ eA
  go_wp2_with fail
  refine ca.mono ?_
  rintro e w4 ⟨vt, v4, rfl, rt4, l4, u4⟩
  have f0 := blk_apart HT3.out.ls u4 HE.out.1 (by decide) (by decide)
  have f1 := blk_apart HT3.out.ls u4 HE.out.2.1 (by decide) (by decide)
  have f2 := blk_apart HT3.out.ls u4 HE.out.2.2 (by decide) (by decide)
  have hb4 : Below w0.heap.size w0 w4 := u4.below HB3.out HB3.out.size HG.out (fun k hk => HT3.out.ls.rs.base hk)
  have HF0 : Hid (w4.heap[hA]? = some (.cells (dc (.slice xa n9 xc) k d s.g) 31 (0, 0))) := f0
  have HF2 : Hid (w4.heap[hR]? = some (.cells #[.slice none 0 0, .int .i64 0, .int .i64 0, .int .i64 0, .int .i64 0, .bool false, .int .i64 0] 31 (0, 0))) := f2
  have d4 : DS w4 w0.heap.size (.slice xa n9 xc) k d s := ⟨RP.apart HT3.out.ls HT3.out.ds.rs u4, HT3.out.ds.dk⟩
  have HM : Hid (min w0.heap.size w4.heap.size = w0.heap.size) := Nat.min_eq_left hb4.size
  have HL4 : Hid (LS w4 w0.heap.size g v4 (lostL s qn ql)) := l4
  have HU4 : Hid (LU w w4 g v v4) := HLW.out.trans u4
  have HZ4 : Hid (W3.heap.size ≤ w4.heap.size) := u4.size
  have HR4 : Hid (RP 48 w4 W3.heap.size vt (lostP s qn ql)) := rt4
  obtain ⟨ta, tc, rfl, -⟩ := id rt4.is.shape
  have cr := rlost_any w4 w0.heap.size (.slice xa n9 xc) k d s qn ql d4 HT3.out.ls.ok
  obtain ⟨-, y1, y2, y3, y4, y5, y6, y7⟩ := a8_cells f1
  clear ca rt4 l4 u4 f0 f1 f2 hb4 d4 HE
  generalize h9s : lostL s qn ql = s9 at *
  have HS9 : Hid (lostL s qn ql = s9) := h9s
  clear h9s
  generalize lostP s qn ql = G at *
  generalize hG : G.length = nG at *
  have HNG : Hid (G.length = nG) := hG
  clear hG
  go_upto_region 11 with fail
  go_wp2_with (refine wpList_load_row rfl 31 _ rfl hA rfl 31 (dc (.slice xa n9 xc) k d s.g) (0, 0) _ HF0.out Try.underlying31 rfl sizeD ?_)
  refine cr.mono ?_
  rintro e w5 ⟨dv5, vt5, rfl, d5, r5, b5⟩
  obtain ⟨sa, sc, rfl, -⟩ := id r5.is.shape
  rw [HNG.out] at r5 ⊢
  obtain ⟨za, zc, rfl, -⟩ := id d5.rs.is.shape
  rw [HM.out] at d5
  generalize h9 : s9.o.length = n8 at *
  clear h9
  obtain ⟨W6, hW6⟩ : ∃ W6, W6 = w5.alloc (.cells #[.slice none 0 0, .int .i64 0, .int .i64 0, .int .i64 0, .int .i64 0, .bool false, .int .i64 0] 31) := ⟨_, rfl⟩
  obtain ⟨W7, hW7⟩ : ∃ W7, W7 = W6.setRow w5.heap.size (dc (.slice za n8 zc) k d s.g) := ⟨_, rfl⟩
  have b6 : Below w5.heap.size w5 W6 := by rw [hW6]; exact al_b _ _
  have HG6 : Hid ((w5.alloc (.cells #[.slice none 0 0, .int .i64 0, .int .i64 0, .int .i64 0, .int .i64 0, .bool false, .int .i64 0] 31)).heap[w5.heap.size]? = some (.cells #[.slice none 0 0, .int .i64 0, .int .i64 0, .int .i64 0, .int .i64 0, .bool false, .int .i64 0] 31 (0, 0))) := heap_alloc_new _ _
  have HG7 : Hid (W7.heap[w5.heap.size]? = some (.cells (dc (.slice za n8 zc) k d s.g) 31 (0, 0))) := by unfold Hid; rw [hW7, hW6]; exact setRow_heap _ _ _ _ _ _ HG6.out
  have b7 : Below w5.heap.size w5 W7 := by rw [hW7]; exact below_setRow b6 (Nat.le_refl _) _
  have HX : Hid (hR < w5.heap.size) := by have := HRS.out.2; have := HZ4.out; have := b5.size; unfold Hid; omega
  have HE7 : Hid (W7.heap[hR]? = some (.cells #[.slice none 0 0, .int .i64 0, .int .i64 0, .int .i64 0, .int .i64 0, .bool false, .int .i64 0] 31 (0, 0))) := blk_kept (blk_kept HF2.out b5 (blk_lt HF2.out)) b7 HX.out
  have HT7 : Hid (TW W7 w0.heap.size g v4 (.slice za n8 zc) k d s9) := (TW.mk (HL4.out.below b5) d5).below b7
  have HU7 : Hid (LU w W7 g v v4) := (HU4.out.behind b5).behind b7
  have HP7 : Hid (RP 48 W7 W3.heap.size (.slice ta nG tc) G) := (HR4.out.below b5).below b7
  have HQ7 : Hid (RP 29 W7 w4.heap.size (.slice sa nG sc) G) := r5.below b7
  have FR : Hid (∀ x, Bt hR W7 x → DC x w5.heap.size (.slice za n8 zc) k d s.g) := fun x hx => DB.dc ((hx.block _ (blk_lt HG7.out) (by have := HX.out; omega)).trans HG7.out)
  have CC : Hid (∀ x, Bt hR W7 x → Calls Try.prog 24 #[.slice ta nG tc, .slice sa nG sc] x fun e w' => e = .returned (.bool true) ∧ Below x.heap.size x w') := fun x hx => samep_any x _ _ G (HP7.out.bt hx (row_ne HP7.out HE7.out (by decide))).is (HQ7.out.bt hx (row_ne HQ7.out HE7.out (by decide))).is (by rw [HNG.out]; exact HGL.out)
  clear cr d5 r5 b5 b6 b7 y1 y2 y3 y4 y5 y6 y7 HF0 HF2 HL4 HR4 HP7 HQ7 HU4 HT3
  clear m0 m1
  go_wp2_with (refine wpList_store_row rfl 31 _ _ rfl w5.heap.size (dc (.slice za n8 zc) k d s.g) rfl rfl 31 _ HG6.out sizeD rfl (dc_one _ _ _ _ _ _) (Hid.out ?_))
  unfold Hid
  rw [← hW6, ← hW7]
  clear hW6 hW7 HG6
  go_upto_region 12 with fail
  refine wp_region_held_drew (S := Bt hR W7) (by kernel_rfl) (Bt.drew _ _) (fun _ => ?_)
  refine wpAnyH_name (fun u0 hu0 => ?_)
  have su0 : (Bt hR W7) u0 := by rw [hu0.out]; exact (Bt.drew _ _)
  have RXu0 : u0.heap[hR]? = some (.cells #[.slice none 0 0, .int .i64 0, .int .i64 0, .int .i64 0, .int .i64 0, .bool false, .int .i64 0] 31 (0, 0)) := by rw [hu0.out]; exact HE7.out
  refine wpAnyH_take (i := 0) (oi := { dst := some 102, op := Op.load 31 (Operand.tmp 18), type := 31, pos := "law.go:55", after := #[], guard := none }) (v := .agg (dc (.slice za n8 zc) k d s.g)) rfl (by kernel_rfl) (by kernel_rfl) (by kernel_rfl) (fun _ _ _ h => h) (Or.inl ⟨by rfl, ?yr1⟩) su0 ?rr1
  case yr1 => (intro w hSw; obtain ⟨c0, c1, c2, c3, c4, c5, c6, -, -, -, -, -, -, -⟩ := FR.out w hSw; go_simp; try with_reducible rfl)
  try simp only [Act.put, List.setIfInBounds_toArray, List.set_cons_zero, List.set_cons_succ]
  refine wpAnyH_take (i := 1) (oi := { dst := some 103, op := Op.move (Operand.tmp 17), type := 40, pos := "law.go:55", after := #[], guard := none }) (v := ?vr2) rfl (by kernel_rfl) (by kernel_rfl) (by kernel_rfl) (fun _ _ _ h => h) (Or.inl ⟨by rfl, ?yr2⟩) su0 ?rr2
  case yr2 => (intro w hSw; go_simp; try with_reducible rfl)
  try simp only [Act.put, List.setIfInBounds_toArray, List.set_cons_zero, List.set_cons_succ]
  refine wpAnyH_take (i := 2) (oi := { dst := some 104, op := Op.move (Operand.tmp 19), type := 27, pos := "law.go:55", after := #[], guard := none }) (v := ?vr3) rfl (by kernel_rfl) (by kernel_rfl) (by kernel_rfl) (fun _ _ _ h => h) (Or.inl ⟨by rfl, ?yr3⟩) su0 ?rr3
  case yr3 => (intro w hSw; go_simp; try with_reducible rfl)
  try simp only [Act.put, List.setIfInBounds_toArray, List.set_cons_zero, List.set_cons_succ]
  refine wpAnyH_ready (rs := [3]) (by kernel_rfl) (by simp) ?_
  refine AllReadyH.cons (o := { dst := some 105, op := Op.call { callee := Callee.value (Operand.func 24), args := #[Operand.tmp 103, Operand.tmp 104], argTypes := #[40, 27] }, type := 4, pos := "law.go:55", after := #[{ on := 1, ground := Ground.data }, { on := 2, ground := Ground.data }], guard := none }) rfl (fun KK hKK => ?_) ?_
  · go_simp
    refine (CC.out _ su0).mono ?_
    rintro e u4' ⟨rfl, bu4'⟩
    (try go_wp2_with fail)
    refine hKK.out _ _ (su0.trans (Bt.of bu4')) (fun _ => ?_)
    clear hKK KK
    try simp only [Act.put, List.setIfInBounds_toArray, List.set_cons_zero, List.set_cons_succ]
    refine wpAnyH_name (fun u4 hu4 => ?_)
    have su4 : (Bt hR W7) u4 := by rw [hu4.out]; exact (su0.trans (Bt.of bu4'))
    have RXu4 : u4.heap[hR]? = some (.cells #[.slice none 0 0, .int .i64 0, .int .i64 0, .int .i64 0, .int .i64 0, .bool false, .int .i64 0] 31 (0, 0)) := by rw [hu4.out]; exact (blk_kept RXu0 bu4' (blk_lt RXu0))
    refine wpAnyH_ready (rs := [4]) (by kernel_rfl) (by simp) ?_
    refine AllReadyH.cons (o := { dst := none, op := Op.store 31 (Operand.tmp 6) (Operand.tmp 102), type := 0, pos := "law.go:55", after := #[{ on := 0, ground := Ground.data }, { on := 3, ground := Ground.chain }, { on := 0, ground := Ground.phase }, { on := 1, ground := Ground.textOnly Departure.lateStores }, { on := 2, ground := Ground.textOnly Departure.lateStores }, { on := 3, ground := Ground.textOnly Departure.lateStoresUnsure }], guard := none }) rfl (fun KK hKK => ?_) ?_
    · refine wp_store_row 31 _ _ rfl hR (dc (.slice za n8 zc) k d s.g) rfl rfl 31 _ RXu4 sizeD rfl (dc_one _ _ _ _ _ _) ?_
      refine hKK.out _ _ (su4.trans (Bt.row _ _ _)) (fun _ => ?_)
      clear hKK KK
      try simp only [Act.put]
      refine wpAnyH_name (fun u5 hu5 => ?_)
      have su5 : (Bt hR W7) u5 := by rw [hu5.out]; exact (su4.trans (Bt.row _ _ _))
      have RXu5 : u5.heap[hR]? = some (.cells (dc (.slice za n8 zc) k d s.g) 31 (0, 0)) := by rw [hu5.out]; exact setRow_heap _ _ _ _ _ _ RXu4
      refine wpAnyH_take (i := 5) (oi := { dst := some 7, op := Op.assign (Operand.tmp 105), type := 4, pos := "law.go:55", after := #[{ on := 3, ground := Ground.data }, { on := 4, ground := Ground.chain }, { on := 0, ground := Ground.phase }, { on := 1, ground := Ground.phase }, { on := 2, ground := Ground.phase }, { on := 3, ground := Ground.phase }, { on := 4, ground := Ground.phase }], guard := none }) (v := ?vr6) rfl (by kernel_rfl) (by kernel_rfl) (by kernel_rfl) (fun _ _ _ h => h) (Or.inl ⟨by rfl, ?yr6⟩) su5 ?rr6
      case yr6 => (intro w hSw; go_simp; try with_reducible rfl)
      try simp only [Act.put, List.setIfInBounds_toArray, List.set_cons_zero, List.set_cons_succ]
      refine wpAnyH_done (by kernel_rfl) ?_ _
      have HRZ : Hid (u5.heap[hR]? = some (.cells (dc (.slice za n8 zc) k d s.g) 31 (0, 0))) := RXu5
      have HSB : Hid (Bt hR W7 u5) := su5
      clear FR CC RXu5
      go_wp2
      exact bodyPost_ret (v := .tuple #[.agg (dc (.slice za n8 zc) k d s.g), .bool true]) (retDo rfl rfl HRZ.out rfl) rfl (by rw [HS9.out]; exact ⟨_, v4, (by rw [HSG.out]), HT7.out.bt HSB.out HE7.out, HU7.out.bt HSB.out HRS.out.1⟩)
    exact AllReadyH.nil
  exact AllReadyH.nil
end Go.Proofs.Ytamjbmbflllbfaa
namespace Go.Proofs.Ytamjbmbflllbfaa
open Go.RowKit Go.Shelf
set_option maxRecDepth 100000

set_option maxHeartbeats 8000000 in
theorem do_sent (w w0 : World) (g : Nat) (v dv : Value) (s : Lg) (k : Int) (d : Pk) (q : Atc) (h : TW w w0.heap.size g v dv k d s) (hg : w0.heap.size ≤ g) (hb : Below w0.heap.size w0 w) (hq : okA w0 q) (hl : q.L.length ≤ 70) (h3 : ¬ q.k % 5 = 3) (h4 : ¬ q.k % 5 = 4) (hk1 : k < 1000000) :
    Calls Try.prog 12 #[.pointer (some ⟨g, 0, none⟩), .agg (dc dv k d s.g), .agg #[.int .u8 q.k, .int .i64 q.p.n, .int .i64 q.p.t, .int .i64 q.p.z, .bool q.p.a, q.u, .int .i64 q.n, .int .i64 q.l]] w fun e w' => ∃ dv' v' k' d', e = .returned (.tuple #[.agg (dc dv' k' d' (sendL s q.p).g), .bool true]) ∧ TW w' w0.heap.size g v' dv' k' d' (sendL s q.p) ∧ LU w w' g v v' ∧ k' ≤ k + 1 := by
  obtain ⟨qk, p, u, L, qn, ql⟩ := q
  obtain ⟨q0, q1, hu⟩ := hq
  simp only at q0 q1 hu hl h3 h4 ⊢
  obtain ⟨xa, xc, rfl, -⟩ := id h.ds.rs.is.shape
  obtain ⟨ua, uc, rfl, -⟩ := id hu.shape
  have hln := h.ls.ok.ln
  obtain ⟨W3, hW3, b3, z3, e0, e1, e2⟩ := do_head w (dc (.slice xa s.o.length xc) k d s.g) #[.int .u8 qk, .int .i64 p.n, .int .i64 p.t, .int .i64 p.z, .bool p.a, .slice ua L.length uc, .int .i64 qn, .int .i64 ql] #[.slice none 0 0, .int .i64 0, .int .i64 0, .int .i64 0, .int .i64 0, .bool false, .int .i64 0] 31 37 31
  obtain ⟨r, hr⟩ : ∃ r, r = qk % 5 := ⟨_, rfl⟩
  have m0 : Int.tmod qk 5 = r := by rw [Int.tmod_eq_emod_of_nonneg q0]; exact hr.symm
  have hr5 : 0 ≤ r ∧ r < 5 := by omega
  have m1 : IntKind.u8.wrap r = r := by rw [IntKind.wrap_u8]; omega
  rw [← hr] at h3 h4
  have m3 : (r == 3) = false := by simpa using h3
  have m4 : (r == 4) = false := by simpa using h4
  clear hr hr5
  have h3w := h.below b3
  have HB3 : Hid (Below w0.heap.size w0 W3) := hb.trans (b3.mono hb.size)
  have HU : Hid (∀ W, Below w0.heap.size w0 W → SSp W (.slice ua L.length uc) L) := fun W hb => hu.kept hb
  have HL : Hid (L.length ≤ 1000) := by unfold Hid; omega
  have HLW : Hid (LU w W3 g v v) := LU.of b3
  have HG : Hid (w0.heap.size ≤ g) := hg
  have ca := sent_any W3 w0.heap.size g v s p h3w.ls HB3.out.size
  obtain ⟨y0, y1, y2, y3, y4, y5, y6, y7⟩ := a8_cells e1
  obtain ⟨hR, eR⟩ : ∃ x, x = w.heap.size + 2 := ⟨_, rfl⟩
  obtain ⟨hQ, eQ⟩ : ∃ x, x = w.heap.size + 1 := ⟨_, rfl⟩
  obtain ⟨hA, eA⟩ : ∃ x, x = w.heap.size := ⟨_, rfl⟩
  have HRS : Hid (w.heap.size ≤ hR ∧ hR < W3.heap.size) := ⟨by omega, by omega⟩
  rw [← eR] at e2
  rw [← eQ] at e1 y0 y1 y2 y3 y4 y5 y6 y7
  rw [← eA] at e0
  have HE : Hid (W3.heap[hA]? = some (.cells (dc (.slice xa s.o.length xc) k d s.g) 31 (0, 0)) ∧ W3.heap[hQ]? = some (.cells #[.int .u8 qk, .int .i64 p.n, .int .i64 p.t, .int .i64 p.z, .bool p.a, .slice ua L.length uc, .int .i64 qn, .int .i64 ql] 37 (0, 0)) ∧ W3.heap[hR]? = some (.cells #[.slice none 0 0, .int .i64 0, .int .i64 0, .int .i64 0, .int .i64 0, .bool false, .int .i64 0] 31 (0, 0))) := ⟨e0, e1, e2⟩
  have HT3 : Hid (TW W3 w0.heap.size g v (.slice xa s.o.length xc) k d s) := h3w
  have HSG : Hid ((sendL s p).g = s.g) := sendL_g s p
  clear h h3w hb hu hg b3 z3 e0 e1 e2 hl 
  generalize hn9 : s.o.length = n9 at *
  have HN9 : Hid (s.o.length = n9) := hn9
  clear hn9
  generalize hnL : L.length = nL at *
  have HNL : Hid (L.length = nL) := hnL
  clear hnL
  go_enter Try.func12, Try.ntmps12
  go_upto_region 1 with fail
  try rw [← hW3]
  try rw [← eR]
  try rw [← eQ]
  try rw [← eA]
  clear hW3 eR eQ eA
  go_wp2_with fail
  refine ca.mono ?_
  rintro e w4 ⟨rfl, v4, l4, u4⟩
  have f0 := blk_apart HT3.out.ls u4 HE.out.1 (by decide) (by decide)
  have f1 := blk_apart HT3.out.ls u4 HE.out.2.1 (by decide) (by decide)
  have f2 := blk_apart HT3.out.ls u4 HE.out.2.2 (by decide) (by decide)
  have hb4 : Below w0.heap.size w0 w4 := u4.below HB3.out HB3.out.size HG.out (fun k hk => HT3.out.ls.rs.base hk)
  have HF0 : Hid (w4.heap[hA]? = some (.cells (dc (.slice xa n9 xc) k d s.g) 31 (0, 0))) := f0
  have HF2 : Hid (w4.heap[hR]? = some (.cells #[.slice none 0 0, .int .i64 0, .int .i64 0, .int .i64 0, .int .i64 0, .bool false, .int .i64 0] 31 (0, 0))) := f2
  have d4 : DS w4 w0.heap.size (.slice xa n9 xc) k d s := ⟨RP.apart HT3.out.ls HT3.out.ds.rs u4, HT3.out.ds.dk⟩
  have HM : Hid (min w0.heap.size w4.heap.size = w0.heap.size) := Nat.min_eq_left hb4.size
  have HL4 : Hid (LS w4 w0.heap.size g v4 (sendL s p)) := l4
  have HU4 : Hid (LU w w4 g v v4) := HLW.out.trans u4
  have HZ4 : Hid (W3.heap.size ≤ w4.heap.size) := u4.size
  have cr := rsent_any w4 w0.heap.size (.slice xa n9 xc) k d s p d4 (by rw [HN9.out]; exact hln) hk1
  obtain ⟨-, y1, y2, y3, y4, y5, y6, y7⟩ := a8_cells f1
  clear ca l4 u4 f0 f1 f2 hb4 d4 HE
  generalize sendE s p = ce at *
  generalize h9s : sendL s p = s9 at *
  have HS9 : Hid (sendL s p = s9) := h9s
  clear h9s
  go_upto_region 3 with fail
  go_wp2_with (refine wpList_load_row rfl 31 _ rfl hA rfl 31 (dc (.slice xa n9 xc) k d s.g) (0, 0) _ HF0.out Try.underlying31 rfl sizeD ?_)
  refine cr.mono ?_
  rintro e w5 ⟨dv5, k9, d9, rfl, d5, b5, hk9⟩
  obtain ⟨za, zc, rfl, -⟩ := id d5.rs.is.shape
  rw [HM.out] at d5
  generalize h9 : s9.o.length = n8 at *
  clear h9
  obtain ⟨W6, hW6⟩ : ∃ W6, W6 = w5.alloc (.cells #[.slice none 0 0, .int .i64 0, .int .i64 0, .int .i64 0, .int .i64 0, .bool false, .int .i64 0] 31) := ⟨_, rfl⟩
  obtain ⟨W7, hW7⟩ : ∃ W7, W7 = W6.setRow w5.heap.size (dc (.slice za n8 zc) k9 d9 s.g) := ⟨_, rfl⟩
  have b6 : Below w5.heap.size w5 W6 := by rw [hW6]; exact al_b _ _
  have HG6 : Hid ((w5.alloc (.cells #[.slice none 0 0, .int .i64 0, .int .i64 0, .int .i64 0, .int .i64 0, .bool false, .int .i64 0] 31)).heap[w5.heap.size]? = some (.cells #[.slice none 0 0, .int .i64 0, .int .i64 0, .int .i64 0, .int .i64 0, .bool false, .int .i64 0] 31 (0, 0))) := heap_alloc_new _ _
  have HG7 : Hid (W7.heap[w5.heap.size]? = some (.cells (dc (.slice za n8 zc) k9 d9 s.g) 31 (0, 0))) := by unfold Hid; rw [hW7, hW6]; exact setRow_heap _ _ _ _ _ _ HG6.out
  have b7 : Below w5.heap.size w5 W7 := by rw [hW7]; exact below_setRow b6 (Nat.le_refl _) _
  have HX : Hid (hR < w5.heap.size) := by have := HRS.out.2; have := HZ4.out; have := b5.size; unfold Hid; omega
  have HE7 : Hid (W7.heap[hR]? = some (.cells #[.slice none 0 0, .int .i64 0, .int .i64 0, .int .i64 0, .int .i64 0, .bool false, .int .i64 0] 31 (0, 0))) := blk_kept (blk_kept HF2.out b5 (blk_lt HF2.out)) b7 HX.out
  have HT7 : Hid (TW W7 w0.heap.size g v4 (.slice za n8 zc) k9 d9 s9) := (TW.mk (HL4.out.below b5) d5).below b7
  have HU7 : Hid (LU w W7 g v v4) := (HU4.out.behind b5).behind b7
  clear cr d5 b5 b6 b7 y1 y2 y3 y4 y5 y6 y7 HF0 HF2 HL4 HU4 HT3
  clear m0 m1 m3 m4
  go_wp2_with (refine wpList_store_row rfl 31 _ _ rfl w5.heap.size (dc (.slice za n8 zc) k9 d9 s.g) rfl rfl 31 _ HG6.out sizeD rfl (dc_one _ _ _ _ _ _) (Hid.out ?_))
  unfold Hid
  rw [← hW6, ← hW7]
  clear hW6 hW7 HG6
  obtain ⟨W8, hW8⟩ : ∃ W8, W8 = W7.setRow hR (dc (.slice za n8 zc) k9 d9 s.g) := ⟨_, rfl⟩
  have HW8 : Hid (W8 = W7.setRow hR (dc (.slice za n8 zc) k9 d9 s.g)) := hW8
  have h8 : Bt hR W7 W8 := by rw [hW8]; exact Bt.row _ _ _
  have HG8 : Hid (W8.heap[hR]? = some (.cells (dc (.slice za n8 zc) k9 d9 s.g) 31 (0, 0))) := by unfold Hid; rw [hW8]; exact setRow_heap _ _ _ _ _ _ HE7.out
  have HT8 : Hid (TW W8 w0.heap.size g v4 (.slice za n8 zc) k9 d9 s9) := HT7.out.bt h8 HE7.out
  have HU8 : Hid (LU w W8 g v v4) := HU7.out.bt h8 HRS.out.1
  clear hW8 h8
  go_upto_region 4 with fail
  go_wp2_with (first | refine wpList_load_row rfl 31 _ rfl w5.heap.size rfl 31 (dc (.slice za n8 zc) k9 d9 s.g) (0, 0) _ HG7.out Try.underlying31 rfl sizeD ?_ | refine wpList_store_row rfl 31 _ _ rfl hR (dc (.slice za n8 zc) k9 d9 s.g) rfl rfl 31 _ HE7.out sizeD rfl (dc_one _ _ _ _ _ _) (Hid.out ?_))
  unfold Hid
  rw [← HW8.out]
  clear HW8
  go_wp2
  exact bodyPost_ret (v := .tuple #[.agg (dc (.slice za n8 zc) k9 d9 s.g), .bool true]) (retDo rfl rfl HG8.out rfl) rfl (by rw [HS9.out]; exact ⟨_, v4, k9, d9, (by rw [HSG.out]), HT8.out, HU8.out, hk9⟩)
end Go.Proofs.Ytamjbmbflllbfaa
namespace Go.Proofs.Ytamjbmbflllbfaa
open Go.RowKit Go.Shelf
set_option maxRecDepth 100000

theorem do_any (w w0 : World) (g : Nat) (v dv : Value) (s : Lg) (k : Int) (d : Pk) (q : Atc) (h : TW w w0.heap.size g v dv k d s) (hg : w0.heap.size ≤ g) (hb : Below w0.heap.size w0 w) (hq : okA w0 q) (hl : q.L.length ≤ 70) (hk1 : k < 1000000) :
    Calls Try.prog 12 #[.pointer (some ⟨g, 0, none⟩), .agg (dc dv k d s.g), .agg #[.int .u8 q.k, .int .i64 q.p.n, .int .i64 q.p.t, .int .i64 q.p.z, .bool q.p.a, q.u, .int .i64 q.n, .int .i64 q.l]] w fun e w' => ∃ dv' v' k' d', e = .returned (.tuple #[.agg (dc dv' k' d' (nxS s q).g), .bool true]) ∧ TW w' w0.heap.size g v' dv' k' d' (nxS s q) ∧ LU w w' g v v' ∧ k' ≤ k + 1 := by
  unfold nxS
  by_cases h3 : q.k % 5 = 3
  · rw [if_pos h3]
    refine (do_ack w w0 g v dv s k d q h hg hb hq hl h3).mono ?_
    rintro e w' ⟨dv', v', e1, t, u⟩
    exact ⟨dv', v', k, d, e1, t, u, by omega⟩
  · rw [if_neg h3]
    by_cases h4 : q.k % 5 = 4
    · rw [if_pos h4]
      refine (do_lost w w0 g v dv s k d q h hg hb hq hl h4).mono ?_
      rintro e w' ⟨dv', v', e1, t, u⟩
      exact ⟨dv', v', k, d, e1, t, u, by omega⟩
    · rw [if_neg h4]
      exact do_sent w w0 g v dv s k d q h hg hb hq hl h3 h4 hk1
/-- What calls make, one behind the other. -/
def plS (l : List Atc) (i : Nat) : Lg := (l.take i).foldl nxS lg0
theorem plS_zero (l : List Atc) : plS l 0 = lg0 := rfl
theorem plS_succ (l : List Atc) (i : Nat) (h : i < l.length) : plS l (i + 1) = nxS (plS l i) (atA l i) := by
  unfold plS
  rw [List.take_succ_eq_append_getElem h, List.foldl_append, atA_eq l i h]
  rfl
theorem plS_ok (l : List Atc) : ∀ i, i ≤ l.length → (plS l i).ok
  | 0, _ => lg0_ok
  | i + 1, h => by rw [plS_succ l i h]; exact nxS_ok (plS_ok l i (by omega)) _
end Go.Proofs.Ytamjbmbflllbfaa
namespace Go.Proofs.Ytamjbmbflllbfaa
open Go.RowKit Go.Shelf
set_option maxRecDepth 100000

set_option maxHeartbeats 8000000 in
theorem same_any (w : World) (B g : Nat) (v dv : Value) (s : Lg) (k : Int) (d : Pk) (late : Int) (h : TW w B g v dv k d s) :
    Calls Try.prog 13 #[.pointer (some ⟨g, 0, none⟩), .agg (dc dv k d s.g), .int .i64 late] w fun e w' => e = .returned (.bool true) ∧ Below w.heap.size w w' := by
  obtain ⟨xa, xc, rfl, -⟩ := id h.ds.rs.is.shape
  have hok := h.ls.ok
  obtain ⟨W1, hW1⟩ : ∃ W1, W1 = w.alloc (.cells (dc (.slice xa s.o.length xc) k d s.g) 31) := ⟨_, rfl⟩
  obtain ⟨hA, eA⟩ : ∃ x, x = w.heap.size := ⟨_, rfl⟩
  have b1 : Below w.heap.size w W1 := by rw [hW1]; exact al_b _ _
  have g1 : W1.heap[hA]? = some (.cells (dc (.slice xa s.o.length xc) k d s.g) 31 (0, 0)) := by rw [eA, hW1]; exact heap_alloc_new _ _
  have HB1 : Hid (Below w.heap.size w W1) := b1
  have HS1 : Hid (w.heap.size ≤ W1.heap.size) := b1.size
  have h1 := h.below b1
  have HT : Hid (∀ W, Below W1.heap.size W1 W → TW W B g v (.slice xa s.o.length xc) k d s) := fun W hb => h1.below hb
  have HGA : Hid (∀ W, Below W1.heap.size W1 W → W.heap[hA]? = some (.cells (dc (.slice xa s.o.length xc) k d s.g) 31 (0, 0))) := fun W hb => blk_kept g1 hb (blk_lt g1)
  have CN : Hid (∀ W, Below W1.heap.size W1 W → Calls Try.prog 16 #[.pointer (some ⟨g, 0, none⟩), .int .i64 late] W fun e w' => e = .returned (.tuple #[.int .i64 (nxt s late).1, .bool (nxt s late).2]) ∧ Below W.heap.size W w') := fun W hb => next_any W B g v s late (HT.out W hb).ls
  have CR : Hid (∀ W, Below W1.heap.size W1 W → Calls Try.prog 27 #[.agg (dc (.slice xa s.o.length xc) k d s.g), .int .i64 late] W fun e w' => e = .returned (.tuple #[.int .i64 (nxt s late).1, .bool (nxt s late).2]) ∧ Below W.heap.size W w') := fun W hb => rnext_any W B _ k d s late (HT.out W hb).ds hok
  have CO : Hid (∀ W, Below W1.heap.size W1 W → Calls Try.prog 17 #[.pointer (some ⟨g, 0, none⟩)] W fun e w' => e = .returned (.tuple #[(oldP s.o).v, .bool (oldB s.o)]) ∧ Below W.heap.size W w') := fun W hb => oldest_any W B g v s (HT.out W hb).ls
  have CP : Hid (∀ W, Below W1.heap.size W1 W → Calls Try.prog 28 #[.agg (dc (.slice xa s.o.length xc) k d s.g)] W fun e w' => e = .returned (.tuple #[(oldP s.o).v, .bool (oldB s.o)]) ∧ Below W.heap.size W w') := fun W hb => roldest_any W B _ k d s (HT.out W hb).ds hok.ln
  have CG : Hid (∀ W, Below W1.heap.size W1 W → Calls Try.prog 18 #[.pointer (some ⟨g, 0, none⟩)] W fun e w' => e = .returned (.tuple #[.int .i64 (larg s).1, .bool (larg s).2]) ∧ w' = W) := fun W hb => largest_any W g v s (HT.out W hb).ls.bk
  have CF : Hid (∀ W, Below W1.heap.size W1 W → Calls Try.prog 21 #[.pointer (some ⟨g, 0, none⟩)] W fun e w' => e = .returned (.int .i64 (fly s.o)) ∧ Below W.heap.size W w') := fun W hb => flying_any W B g v s (HT.out W hb).ls
  have CH : Hid (∀ W, Below W1.heap.size W1 W → Calls Try.prog 29 #[.agg (dc (.slice xa s.o.length xc) k d s.g)] W fun e w' => e = .returned (.int .i64 (fly s.o)) ∧ Below W.heap.size W w') := fun W hb => rflying_any W B _ k d s (HT.out W hb).ds hok
  have CL : Hid (∀ W, Below W1.heap.size W1 W → Calls Try.prog 22 #[.pointer (some ⟨g, 0, none⟩)] W fun e w' => e = .returned (.int .i64 (s.o.length : Nat)) ∧ w' = W) := fun W hb => len_any W B g v s (HT.out W hb).ls
  have HLG : Hid ((s.g = -1 ∧ (larg s).1 = 0 ∧ (larg s).2 = false) ∨ (0 ≤ s.g ∧ (larg s).1 = s.g ∧ (larg s).2 = true)) := by
    have := hok.g0
    unfold Hid larg
    by_cases e : s.g = -1
    · rw [if_pos e]; exact .inl ⟨e, rfl, rfl⟩
    · rw [if_neg e]; exact .inr ⟨by omega, rfl, rfl⟩
  clear h h1 b1 g1 hok HT
  generalize (nxt s late).1 = x1 at *
  generalize (nxt s late).2 = x2 at *
  generalize oldP s.o = p at *
  generalize oldB s.o = ob at *
  generalize (larg s).1 = y1 at *
  generalize (larg s).2 = y2 at *
  generalize fly s.o = fl at *
  generalize s.o.length = n9 at *
  generalize s.g = GG at *
  obtain ⟨pn, pt, pz, pa⟩ := p
  have cn := CN.out W1 (Below.refl _ _)
  go_enter Try.func13, Try.ntmps13
  go_upto_region 1 with fail
  try rw [← hW1]
  try rw [← eA]
  clear hW1 eA CN
  go_wp2_with fail
  refine cn.mono ?_
  rintro e w2 ⟨rfl, b2⟩
  have HB2 : Hid (Below W1.heap.size W1 w2) := b2
  have HG2 : Hid (w2.heap[hA]? = some (.cells (dc (.slice xa n9 xc) k d GG) 31 (0, 0))) := HGA.out w2 b2
  have cr := CR.out w2 b2
  clear cn b2 CR
  go_upto_region 2 with fail
  go_wp2_with (refine wpList_load_row rfl 31 _ rfl hA rfl 31 (dc (.slice xa n9 xc) k d GG) (0, 0) _ HG2.out Try.underlying31 rfl sizeD ?_)
  refine cr.mono ?_
  rintro e w3 ⟨rfl, b3⟩
  have HB3 : Hid (Below W1.heap.size W1 w3) := HB2.out.trans (b3.mono HB2.out.size)
  have co := CO.out w3 HB3.out
  clear cr b3 CO HG2
  go_upto_region 3 with fail
  go_wp2_with fail
  refine co.mono ?_
  rintro e w4 ⟨rfl, b4⟩
  have HB4 : Hid (Below W1.heap.size W1 w4) := HB3.out.trans (b4.mono HB3.out.size)
  obtain ⟨W5, hW5⟩ : ∃ W5, W5 = w4.alloc (.cells #[.int .i64 0, .int .i64 0, .int .i64 0, .bool false] 48) := ⟨_, rfl⟩
  obtain ⟨W6, hW6⟩ : ∃ W6, W6 = W5.setRow w4.heap.size #[.int .i64 pn, .int .i64 pt, .int .i64 pz, .bool pa] := ⟨_, rfl⟩
  have b5 : Below w4.heap.size w4 W5 := by rw [hW5]; exact al_b _ _
  have b6 : Below w4.heap.size w4 W6 := by rw [hW6]; exact below_setRow b5 (Nat.le_refl _) _
  have HG5 : Hid ((w4.alloc (.cells #[.int .i64 0, .int .i64 0, .int .i64 0, .bool false] 48)).heap[w4.heap.size]? = some (.cells #[.int .i64 0, .int .i64 0, .int .i64 0, .bool false] 48 (0, 0))) := heap_alloc_new _ _
  have HG6 : Hid (W6.heap[w4.heap.size]? = some (.cells #[.int .i64 pn, .int .i64 pt, .int .i64 pz, .bool pa] 48 (0, 0))) := by unfold Hid; rw [hW6, hW5]; exact setRow_heap _ _ _ _ _ _ HG5.out
  have HB6 : Hid (Below W1.heap.size W1 W6) := HB4.out.trans (b6.mono HB4.out.size)
  have HGA6 : Hid (W6.heap[hA]? = some (.cells (dc (.slice xa n9 xc) k d GG) 31 (0, 0))) := HGA.out W6 HB6.out
  have cp := CP.out W6 HB6.out
  clear co b4 b5 b6 CP
  go_wp2_with (refine wpList_store_row rfl 48 _ _ rfl w4.heap.size #[.int .i64 pn, .int .i64 pt, .int .i64 pz, .bool pa] rfl rfl 48 _ HG5.out sizeP rfl (pk_one4 ⟨pn, pt, pz, pa⟩) (Hid.out ?_))
  unfold Hid
  rw [← hW5, ← hW6]
  clear hW5 hW6 HG5
  generalize w4.heap.size = hP at *
  go_upto_region 4 with fail
  go_wp2_with (refine wpList_load_row rfl 31 _ rfl hA rfl 31 (dc (.slice xa n9 xc) k d GG) (0, 0) _ HGA6.out Try.underlying31 rfl sizeD ?_)
  refine cp.mono ?_
  rintro e w7 ⟨rfl, b7⟩
  have HB7 : Hid (Below W1.heap.size W1 w7) := HB6.out.trans (b7.mono HB6.out.size)
  obtain ⟨W8, hW8⟩ : ∃ W8, W8 = w7.alloc (.cells #[.int .i64 0, .int .i64 0, .int .i64 0, .bool false] 29) := ⟨_, rfl⟩
  obtain ⟨W9, hW9⟩ : ∃ W9, W9 = W8.setRow w7.heap.size #[.int .i64 pn, .int .i64 pt, .int .i64 pz, .bool pa] := ⟨_, rfl⟩
  have b8 : Below w7.heap.size w7 W8 := by rw [hW8]; exact al_b _ _
  have b9 : Below w7.heap.size w7 W9 := by rw [hW9]; exact below_setRow b8 (Nat.le_refl _) _
  have HG8 : Hid ((w7.alloc (.cells #[.int .i64 0, .int .i64 0, .int .i64 0, .bool false] 29)).heap[w7.heap.size]? = some (.cells #[.int .i64 0, .int .i64 0, .int .i64 0, .bool false] 29 (0, 0))) := heap_alloc_new _ _
  have HG9 : Hid (W9.heap[w7.heap.size]? = some (.cells #[.int .i64 pn, .int .i64 pt, .int .i64 pz, .bool pa] 29 (0, 0))) := by unfold Hid; rw [hW9, hW8]; exact setRow_heap _ _ _ _ _ _ HG8.out
  have HB9 : Hid (Below W1.heap.size W1 W9) := HB7.out.trans (b9.mono HB7.out.size)
  have HH9 : Hid (W9.heap[hP]? = some (.cells #[.int .i64 pn, .int .i64 pt, .int .i64 pz, .bool pa] 48 (0, 0))) := blk_kept (blk_kept HG6.out b7 (blk_lt HG6.out)) b9 (blk_lt (blk_kept HG6.out b7 (blk_lt HG6.out)))
  have HGA9 : Hid (W9.heap[hA]? = some (.cells (dc (.slice xa n9 xc) k d GG) 31 (0, 0))) := HGA.out W9 HB9.out
  have cg := CG.out W9 HB9.out
  clear cp b7 b8 b9 CG HG6 HGA6
  go_wp2_with (refine wpList_store_row rfl 29 _ _ rfl w7.heap.size #[.int .i64 pn, .int .i64 pt, .int .i64 pz, .bool pa] rfl rfl 29 _ HG8.out sizeQ rfl (pk_one4 ⟨pn, pt, pz, pa⟩) (Hid.out ?_))
  unfold Hid
  rw [← hW8, ← hW9]
  clear hW8 hW9 HG8
  generalize w7.heap.size = hQ at *
  go_upto_region 5 with fail
  go_wp2_with fail
  refine cg.mono ?_
  rintro e w10 ⟨rfl, q10⟩
  replace q10 := q10.symm
  subst q10
  have HP9 : Hid (∀ x, Below W9.heap.size W9 x → x.heap[hP]? = some (.cells #[.int .i64 pn, .int .i64 pt, .int .i64 pz, .bool pa] 48 (0, 0)) ∧ x.heap[hQ]? = some (.cells #[.int .i64 pn, .int .i64 pt, .int .i64 pz, .bool pa] 29 (0, 0)) ∧ x.heap[hA]? = some (.cells (dc (.slice xa n9 xc) k d GG) 31 (0, 0))) := fun x hx => ⟨blk_kept HH9.out hx (blk_lt HH9.out), blk_kept HG9.out hx (blk_lt HG9.out), blk_kept HGA9.out hx (blk_lt HGA9.out)⟩
  have FP : Hid (∀ x, Below W9.heap.size W9 x → x.cell? ⟨hP, 0, none⟩ = some (.int .i64 pn) ∧ x.cell? ⟨hP, 1, none⟩ = some (.int .i64 pt) ∧ x.cell? ⟨hP, 2, none⟩ = some (.int .i64 pz) ∧ x.cell? ⟨hP, 3, none⟩ = some (.bool pa)) := fun x hx => by have e := (HP9.out x hx).1; simp [World.cell?, e]
  have FQ : Hid (∀ x, Below W9.heap.size W9 x → x.cell? ⟨hQ, 0, none⟩ = some (.int .i64 pn) ∧ x.cell? ⟨hQ, 1, none⟩ = some (.int .i64 pt) ∧ x.cell? ⟨hQ, 2, none⟩ = some (.int .i64 pz) ∧ x.cell? ⟨hQ, 3, none⟩ = some (.bool pa)) := fun x hx => by have e := (HP9.out x hx).2.1; simp [World.cell?, e]
  have FA : Hid (∀ x, Below W9.heap.size W9 x → DC x hA (.slice xa n9 xc) k d GG) := fun x hx => DB.dc (HP9.out x hx).2.2
  have HBW : Hid (∀ x, Below W9.heap.size W9 x → Below W1.heap.size W1 x) := fun x hx => HB9.out.trans (hx.mono HB9.out.size)
  have EQ1 : Hid (∀ x, (binOp .eql 29 (.agg #[.int .i64 pn, .int .i64 pt, .int .i64 pz, .bool pa]) (.agg #[.int .i64 pn, .int .i64 pt, .int .i64 pz, .bool pa])).run Try.prog x = .ok (.bool true) x) := fun x => eql_pk ⟨pn, pt, pz, pa⟩ x
  have EQ2 : Hid (∀ a b x, (eqGuard .eql 29 a b (.agg #[.int .i64 pn, .int .i64 pt, .int .i64 pz, .bool pa]) (.agg #[.int .i64 pn, .int .i64 pt, .int .i64 pz, .bool pa])).run Try.prog x = .ok () x) := fun a b x => eqg_pk .eql ⟨pn, pt, pz, pa⟩ a b x
  have HBX : Hid (∀ x, Below W9.heap.size W9 x → Below w.heap.size w x) := fun x hx => HB1.out.trans ((HBW.out x hx).mono HB1.out.size)
  have c6 := (FA.out W9 (Below.refl _ _)).c6
  clear cg HB2 HB3 HB4 HB6 HB7 HH9 HG9 HGA9 HGA HP9
  rcases HLG.out with ⟨l0, l1, l2⟩ | ⟨l0, l1, l2⟩
  · subst l0 l1 l2
    clear HLG
    go_upto_region 8 with fail
    clear c6
    refine wp_region_held_drew (S := Below W9.heap.size W9) (by kernel_rfl) ((Below.refl _ _).drew) (fun _ => ?_)
    refine wpAnyH_name (fun u0 hu0 => ?_)
    have su0 : (Below W9.heap.size W9) u0 := by rw [hu0.out]; exact ((Below.refl _ _).drew)
    refine wpAnyH_take (i := 0) (oi := { dst := some 56, op := Op.move (Operand.tmp 7), type := 3, pos := "law.go:73", after := #[], guard := none }) (v := ?vr1) rfl (by kernel_rfl) (by kernel_rfl) (by kernel_rfl) (fun _ _ _ h => h) (Or.inl ⟨by rfl, ?yr1⟩) su0 ?rr1
    case yr1 => (intro w hSw; go_simp; try with_reducible rfl)
    try simp only [Act.put, List.setIfInBounds_toArray, List.set_cons_zero, List.set_cons_succ]
    refine wpAnyH_take (i := 1) (oi := { dst := some 57, op := Op.move (Operand.tmp 9), type := 3, pos := "law.go:73", after := #[], guard := none }) (v := ?vr2) rfl (by kernel_rfl) (by kernel_rfl) (by kernel_rfl) (fun _ _ _ h => h) (Or.inl ⟨by rfl, ?yr2⟩) su0 ?rr2
    case yr2 => (intro w hSw; go_simp; try with_reducible rfl)
    try simp only [Act.put, List.setIfInBounds_toArray, List.set_cons_zero, List.set_cons_succ]
    refine wpAnyH_take (i := 2) (oi := { dst := some 58, op := Op.binOp BinOp.eql 3 (Operand.tmp 56) (Operand.tmp 57) 3, type := 4, pos := "law.go:73", after := #[{ on := 0, ground := Ground.data }, { on := 1, ground := Ground.data }], guard := none }) (v := .bool true) rfl (by kernel_rfl) (by kernel_rfl) (by kernel_rfl) (fun _ _ _ h => h) (Or.inl ⟨by rfl, ?yr3⟩) su0 ?rr3
    case yr3 => (intro w hSw; go_simp; try with_reducible rfl)
    try simp only [Act.put, List.setIfInBounds_toArray, List.set_cons_zero, List.set_cons_succ]
    refine wpAnyH_take (i := 3) (oi := { dst := some 59, op := Op.move (Operand.tmp 58), type := 4, pos := "law.go:73", after := #[{ on := 2, ground := Ground.data }], guard := none }) (v := ?vr4) rfl (by kernel_rfl) (by kernel_rfl) (by kernel_rfl) (fun _ _ _ h => h) (Or.inl ⟨by rfl, ?yr4⟩) su0 ?rr4
    case yr4 => (intro w hSw; go_simp; try with_reducible rfl)
    try simp only [Act.put, List.setIfInBounds_toArray, List.set_cons_zero, List.set_cons_succ]
    refine wpAnyH_take (i := 4) (oi := { dst := some 60, op := Op.move (Operand.tmp 8), type := 4, pos := "law.go:73", after := #[{ on := 3, ground := Ground.guard }], guard := some (3, true) }) (v := ?vr5) rfl (by kernel_rfl) (by kernel_rfl) (by kernel_rfl) (fun _ _ _ h => h) (Or.inl ⟨by rfl, ?yr5⟩) su0 ?rr5
    case yr5 => (intro w hSw; go_simp; try with_reducible rfl)
    try simp only [Act.put, List.setIfInBounds_toArray, List.set_cons_zero, List.set_cons_succ]
    refine wpAnyH_take (i := 5) (oi := { dst := some 61, op := Op.move (Operand.tmp 10), type := 4, pos := "law.go:73", after := #[{ on := 3, ground := Ground.guard }], guard := some (3, true) }) (v := ?vr6) rfl (by kernel_rfl) (by kernel_rfl) (by kernel_rfl) (fun _ _ _ h => h) (Or.inl ⟨by rfl, ?yr6⟩) su0 ?rr6
    case yr6 => (intro w hSw; go_simp; try with_reducible rfl)
    try simp only [Act.put, List.setIfInBounds_toArray, List.set_cons_zero, List.set_cons_succ]
    refine wpAnyH_take (i := 6) (oi := { dst := some 62, op := Op.binOp BinOp.eql 4 (Operand.tmp 60) (Operand.tmp 61) 4, type := 4, pos := "law.go:73", after := #[{ on := 4, ground := Ground.data }, { on := 5, ground := Ground.data }, { on := 3, ground := Ground.guard }], guard := some (3, true) }) (v := .bool true) rfl (by kernel_rfl) (by kernel_rfl) (by kernel_rfl) (fun _ _ _ h => h) (Or.inl ⟨by rfl, ?yr7⟩) su0 ?rr7
    case yr7 => (intro w hSw; go_simp; try with_reducible rfl)
    try simp only [Act.put, List.setIfInBounds_toArray, List.set_cons_zero, List.set_cons_succ]
    refine wpAnyH_take (i := 7) (oi := { dst := some 63, op := Op.pick (Operand.tmp 59) (Operand.tmp 62) (Operand.const (Value.bool false)), type := 4, pos := "law.go:73", after := #[{ on := 3, ground := Ground.data }, { on := 6, ground := Ground.data }], guard := none }) (v := .bool true) rfl (by kernel_rfl) (by kernel_rfl) (by kernel_rfl) (fun _ _ _ h => h) (Or.inl ⟨by rfl, ?yr8⟩) su0 ?rr8
    case yr8 => (intro w hSw; go_simp; try with_reducible rfl)
    try simp only [Act.put, List.setIfInBounds_toArray, List.set_cons_zero, List.set_cons_succ]
    refine wpAnyH_take (i := 8) (oi := { dst := some 64, op := Op.move (Operand.tmp 63), type := 4, pos := "law.go:73", after := #[{ on := 7, ground := Ground.data }, { on := 3, ground := Ground.chain }], guard := none }) (v := ?vr9) rfl (by kernel_rfl) (by kernel_rfl) (by kernel_rfl) (fun _ _ _ h => h) (Or.inl ⟨by rfl, ?yr9⟩) su0 ?rr9
    case yr9 => (intro w hSw; go_simp; try with_reducible rfl)
    try simp only [Act.put, List.setIfInBounds_toArray, List.set_cons_zero, List.set_cons_succ]
    refine wpAnyH_take (i := 9) (oi := { dst := some 65, op := Op.load 48 (Operand.tmp 11), type := 48, pos := "law.go:73", after := #[{ on := 8, ground := Ground.guard }], guard := some (8, true) }) (v := .agg #[.int .i64 pn, .int .i64 pt, .int .i64 pz, .bool pa]) rfl (by kernel_rfl) (by kernel_rfl) (by kernel_rfl) (fun _ _ _ h => h) (Or.inl ⟨by rfl, ?yr10⟩) su0 ?rr10
    case yr10 => (intro w hSw; obtain ⟨f0, f1, f2, f3⟩ := FP.out w hSw; go_simp; try with_reducible rfl)
    try simp only [Act.put, List.setIfInBounds_toArray, List.set_cons_zero, List.set_cons_succ]
    refine wpAnyH_take (i := 10) (oi := { dst := some 66, op := Op.load 29 (Operand.tmp 13), type := 29, pos := "law.go:73", after := #[{ on := 8, ground := Ground.guard }], guard := some (8, true) }) (v := .agg #[.int .i64 pn, .int .i64 pt, .int .i64 pz, .bool pa]) rfl (by kernel_rfl) (by kernel_rfl) (by kernel_rfl) (fun _ _ _ h => h) (Or.inl ⟨by rfl, ?yr11⟩) su0 ?rr11
    case yr11 => (intro w hSw; obtain ⟨f0, f1, f2, f3⟩ := FQ.out w hSw; go_simp; try with_reducible rfl)
    try simp only [Act.put, List.setIfInBounds_toArray, List.set_cons_zero, List.set_cons_succ]
    refine wpAnyH_take (i := 11) (oi := { dst := some 67, op := Op.binOp BinOp.eql 29 (Operand.tmp 65) (Operand.tmp 66) 29, type := 4, pos := "law.go:73", after := #[{ on := 9, ground := Ground.data }, { on := 10, ground := Ground.data }, { on := 8, ground := Ground.guard }], guard := some (8, true) }) (v := .bool true) rfl (by kernel_rfl) (by kernel_rfl) (by kernel_rfl) (fun _ _ _ h => h) (Or.inl ⟨by rfl, ?yr12⟩) su0 ?rr12
    case yr12 => (intro w hSw; have E1 := EQ1.out w; have E2 := fun a b => EQ2.out a b w; go_simp; try with_reducible rfl)
    try simp only [Act.put, List.setIfInBounds_toArray, List.set_cons_zero, List.set_cons_succ]
    refine wpAnyH_take (i := 12) (oi := { dst := some 68, op := Op.pick (Operand.tmp 64) (Operand.tmp 67) (Operand.const (Value.bool false)), type := 4, pos := "law.go:73", after := #[{ on := 8, ground := Ground.data }, { on := 11, ground := Ground.data }], guard := none }) (v := .bool true) rfl (by kernel_rfl) (by kernel_rfl) (by kernel_rfl) (fun _ _ _ h => h) (Or.inl ⟨by rfl, ?yr13⟩) su0 ?rr13
    case yr13 => (intro w hSw; go_simp; try with_reducible rfl)
    try simp only [Act.put, List.setIfInBounds_toArray, List.set_cons_zero, List.set_cons_succ]
    refine wpAnyH_take (i := 13) (oi := { dst := some 69, op := Op.move (Operand.tmp 68), type := 4, pos := "law.go:73", after := #[{ on := 12, ground := Ground.data }, { on := 8, ground := Ground.chain }], guard := none }) (v := ?vr14) rfl (by kernel_rfl) (by kernel_rfl) (by kernel_rfl) (fun _ _ _ h => h) (Or.inl ⟨by rfl, ?yr14⟩) su0 ?rr14
    case yr14 => (intro w hSw; go_simp; try with_reducible rfl)
    try simp only [Act.put, List.setIfInBounds_toArray, List.set_cons_zero, List.set_cons_succ]
    refine wpAnyH_take (i := 14) (oi := { dst := some 70, op := Op.move (Operand.tmp 12), type := 4, pos := "law.go:73", after := #[{ on := 13, ground := Ground.guard }], guard := some (13, true) }) (v := ?vr15) rfl (by kernel_rfl) (by kernel_rfl) (by kernel_rfl) (fun _ _ _ h => h) (Or.inl ⟨by rfl, ?yr15⟩) su0 ?rr15
    case yr15 => (intro w hSw; go_simp; try with_reducible rfl)
    try simp only [Act.put, List.setIfInBounds_toArray, List.set_cons_zero, List.set_cons_succ]
    refine wpAnyH_take (i := 15) (oi := { dst := some 71, op := Op.move (Operand.tmp 14), type := 4, pos := "law.go:73", after := #[{ on := 13, ground := Ground.guard }], guard := some (13, true) }) (v := ?vr16) rfl (by kernel_rfl) (by kernel_rfl) (by kernel_rfl) (fun _ _ _ h => h) (Or.inl ⟨by rfl, ?yr16⟩) su0 ?rr16
    case yr16 => (intro w hSw; go_simp; try with_reducible rfl)
    try simp only [Act.put, List.setIfInBounds_toArray, List.set_cons_zero, List.set_cons_succ]
    refine wpAnyH_take (i := 16) (oi := { dst := some 72, op := Op.binOp BinOp.eql 4 (Operand.tmp 70) (Operand.tmp 71) 4, type := 4, pos := "law.go:73", after := #[{ on := 14, ground := Ground.data }, { on := 15, ground := Ground.data }, { on := 13, ground := Ground.guard }], guard := some (13, true) }) (v := .bool true) rfl (by kernel_rfl) (by kernel_rfl) (by kernel_rfl) (fun _ _ _ h => h) (Or.inl ⟨by rfl, ?yr17⟩) su0 ?rr17
    case yr17 => (intro w hSw; go_simp; try with_reducible rfl)
    try simp only [Act.put, List.setIfInBounds_toArray, List.set_cons_zero, List.set_cons_succ]
    refine wpAnyH_take (i := 17) (oi := { dst := some 73, op := Op.pick (Operand.tmp 69) (Operand.tmp 72) (Operand.const (Value.bool false)), type := 4, pos := "law.go:73", after := #[{ on := 13, ground := Ground.data }, { on := 16, ground := Ground.data }], guard := none }) (v := .bool true) rfl (by kernel_rfl) (by kernel_rfl) (by kernel_rfl) (fun _ _ _ h => h) (Or.inl ⟨by rfl, ?yr18⟩) su0 ?rr18
    case yr18 => (intro w hSw; go_simp; try with_reducible rfl)
    try simp only [Act.put, List.setIfInBounds_toArray, List.set_cons_zero, List.set_cons_succ]
    refine wpAnyH_take (i := 18) (oi := { dst := some 74, op := Op.move (Operand.tmp 73), type := 4, pos := "law.go:73", after := #[{ on := 17, ground := Ground.data }, { on := 13, ground := Ground.chain }], guard := none }) (v := ?vr19) rfl (by kernel_rfl) (by kernel_rfl) (by kernel_rfl) (fun _ _ _ h => h) (Or.inl ⟨by rfl, ?yr19⟩) su0 ?rr19
    case yr19 => (intro w hSw; go_simp; try with_reducible rfl)
    try simp only [Act.put, List.setIfInBounds_toArray, List.set_cons_zero, List.set_cons_succ]
    refine wpAnyH_take (i := 19) (oi := { dst := some 75, op := Op.move (Operand.tmp 0), type := 25, pos := "law.go:73", after := #[{ on := 18, ground := Ground.guard }], guard := some (18, true) }) (v := ?vr20) rfl (by kernel_rfl) (by kernel_rfl) (by kernel_rfl) (fun _ _ _ h => h) (Or.inl ⟨by rfl, ?yr20⟩) su0 ?rr20
    case yr20 => (intro w hSw; go_simp; try with_reducible rfl)
    try simp only [Act.put, List.setIfInBounds_toArray, List.set_cons_zero, List.set_cons_succ]
    refine wpAnyH_take (i := 21) (oi := { dst := some 77, op := Op.load 31 (Operand.tmp 4), type := 31, pos := "law.go:73", after := #[{ on := 18, ground := Ground.guard }], guard := some (18, true) }) (v := .agg (dc (.slice xa n9 xc) k d (-1))) rfl (by kernel_rfl) (by kernel_rfl) (by kernel_rfl) (fun _ _ _ h => h) (Or.inl ⟨by rfl, ?yr21⟩) su0 ?rr21
    case yr21 => (intro w hSw; obtain ⟨c0, c1, c2, c3, c4, c5, c6, -, -, -, -, -, -, -⟩ := FA.out w hSw; go_simp; try with_reducible rfl)
    try simp only [Act.put, List.setIfInBounds_toArray, List.set_cons_zero, List.set_cons_succ]
    refine wpAnyH_ready (rs := [20]) (by kernel_rfl) (by simp) ?_
    refine AllReadyH.cons (o := { dst := some 76, op := Op.call { callee := Callee.value (Operand.func 21), args := #[Operand.tmp 75], argTypes := #[25] }, type := 3, pos := "law.go:73", after := #[{ on := 19, ground := Ground.data }, { on := 18, ground := Ground.chain }, { on := 18, ground := Ground.guard }], guard := some (18, true) }) rfl (fun KK hKK => ?_) ?_
    · go_simp
      refine (CF.out _ (HBW.out _ su0)).mono ?_
      rintro e u22' ⟨rfl, bu22'⟩
      (try go_wp2_with fail)
      refine hKK.out _ _ (su0.trans (bu22'.mono su0.size)) (fun _ => ?_)
      clear hKK KK
      try simp only [Act.put, List.setIfInBounds_toArray, List.set_cons_zero, List.set_cons_succ]
      refine wpAnyH_name (fun u22 hu22 => ?_)
      have su22 : (Below W9.heap.size W9) u22 := by rw [hu22.out]; exact (su0.trans (bu22'.mono su0.size))
      refine wpAnyH_ready (rs := [22]) (by kernel_rfl) (by simp) ?_
      refine AllReadyH.cons (o := { dst := some 78, op := Op.call { callee := Callee.value (Operand.func 29), args := #[Operand.tmp 77], argTypes := #[31] }, type := 3, pos := "law.go:73", after := #[{ on := 21, ground := Ground.data }, { on := 20, ground := Ground.chain }, { on := 18, ground := Ground.guard }], guard := some (18, true) }) rfl (fun KK hKK => ?_) ?_
      · go_simp
        refine (CH.out _ (HBW.out _ su22)).mono ?_
        rintro e u23' ⟨rfl, bu23'⟩
        (try go_wp2_with fail)
        refine hKK.out _ _ (su22.trans (bu23'.mono su22.size)) (fun _ => ?_)
        clear hKK KK
        try simp only [Act.put, List.setIfInBounds_toArray, List.set_cons_zero, List.set_cons_succ]
        refine wpAnyH_name (fun u23 hu23 => ?_)
        have su23 : (Below W9.heap.size W9) u23 := by rw [hu23.out]; exact (su22.trans (bu23'.mono su22.size))
        refine wpAnyH_take (i := 23) (oi := { dst := some 79, op := Op.binOp BinOp.eql 3 (Operand.tmp 76) (Operand.tmp 78) 3, type := 4, pos := "law.go:73", after := #[{ on := 20, ground := Ground.data }, { on := 22, ground := Ground.data }, { on := 18, ground := Ground.guard }], guard := some (18, true) }) (v := .bool true) rfl (by kernel_rfl) (by kernel_rfl) (by kernel_rfl) (fun _ _ _ h => h) (Or.inl ⟨by rfl, ?yr24⟩) su23 ?rr24
        case yr24 => (intro w hSw; go_simp; try with_reducible rfl)
        try simp only [Act.put, List.setIfInBounds_toArray, List.set_cons_zero, List.set_cons_succ]
        refine wpAnyH_take (i := 24) (oi := { dst := some 80, op := Op.pick (Operand.tmp 74) (Operand.tmp 79) (Operand.const (Value.bool false)), type := 4, pos := "law.go:73", after := #[{ on := 18, ground := Ground.data }, { on := 23, ground := Ground.data }], guard := none }) (v := .bool true) rfl (by kernel_rfl) (by kernel_rfl) (by kernel_rfl) (fun _ _ _ h => h) (Or.inl ⟨by rfl, ?yr25⟩) su23 ?rr25
        case yr25 => (intro w hSw; go_simp; try with_reducible rfl)
        try simp only [Act.put, List.setIfInBounds_toArray, List.set_cons_zero, List.set_cons_succ]
        refine wpAnyH_take (i := 25) (oi := { dst := some 81, op := Op.move (Operand.tmp 80), type := 4, pos := "law.go:73", after := #[{ on := 24, ground := Ground.data }, { on := 22, ground := Ground.chain }], guard := none }) (v := ?vr26) rfl (by kernel_rfl) (by kernel_rfl) (by kernel_rfl) (fun _ _ _ h => h) (Or.inl ⟨by rfl, ?yr26⟩) su23 ?rr26
        case yr26 => (intro w hSw; go_simp; try with_reducible rfl)
        try simp only [Act.put, List.setIfInBounds_toArray, List.set_cons_zero, List.set_cons_succ]
        refine wpAnyH_take (i := 26) (oi := { dst := some 82, op := Op.move (Operand.tmp 0), type := 25, pos := "law.go:73", after := #[{ on := 25, ground := Ground.guard }], guard := some (25, true) }) (v := ?vr27) rfl (by kernel_rfl) (by kernel_rfl) (by kernel_rfl) (fun _ _ _ h => h) (Or.inl ⟨by rfl, ?yr27⟩) su23 ?rr27
        case yr27 => (intro w hSw; go_simp; try with_reducible rfl)
        try simp only [Act.put, List.setIfInBounds_toArray, List.set_cons_zero, List.set_cons_succ]
        refine wpAnyH_take (i := 28) (oi := { dst := some 84, op := Op.fieldAddr 31 (Operand.tmp 4) 0, type := 0, pos := "law.go:73", after := #[{ on := 25, ground := Ground.guard }], guard := some (25, true) }) (v := ?vr28) rfl (by kernel_rfl) (by kernel_rfl) (by kernel_rfl) (fun _ _ _ h => h) (Or.inl ⟨by rfl, ?yr28⟩) su23 ?rr28
        case yr28 => (intro w hSw; go_simp; try with_reducible rfl)
        try simp only [Act.put, List.setIfInBounds_toArray, List.set_cons_zero, List.set_cons_succ]
        refine wpAnyH_take (i := 29) (oi := { dst := some 85, op := Op.load 27 (Operand.tmp 84), type := 27, pos := "law.go:73", after := #[{ on := 28, ground := Ground.data }, { on := 25, ground := Ground.guard }], guard := some (25, true) }) (v := .slice xa n9 xc) rfl (by kernel_rfl) (by kernel_rfl) (by kernel_rfl) (fun _ _ _ h => h) (Or.inl ⟨by rfl, ?yr29⟩) su23 ?rr29
        case yr29 => (intro w hSw; have c0 := (FA.out w hSw).c0; go_simp; try with_reducible rfl)
        try simp only [Act.put, List.setIfInBounds_toArray, List.set_cons_zero, List.set_cons_succ]
        refine wpAnyH_take (i := 30) (oi := { dst := some 86, op := Op.call { callee := Callee.builtin Builtin.len, args := #[Operand.tmp 85], argTypes := #[27] }, type := 3, pos := "law.go:73", after := #[{ on := 29, ground := Ground.data }, { on := 25, ground := Ground.guard }], guard := some (25, true) }) (v := .int .i64 (n9 : Nat)) rfl (by kernel_rfl) (by kernel_rfl) (by kernel_rfl) (fun _ _ _ h => h) (Or.inl ⟨by rfl, ?yr30⟩) su23 ?rr30
        case yr30 => (intro w hSw; go_simp; try with_reducible rfl)
        try simp only [Act.put, List.setIfInBounds_toArray, List.set_cons_zero, List.set_cons_succ]
        refine wpAnyH_ready (rs := [27]) (by kernel_rfl) (by simp) ?_
        refine AllReadyH.cons (o := { dst := some 83, op := Op.call { callee := Callee.value (Operand.func 22), args := #[Operand.tmp 82], argTypes := #[25] }, type := 3, pos := "law.go:73", after := #[{ on := 26, ground := Ground.data }, { on := 25, ground := Ground.chain }, { on := 25, ground := Ground.guard }], guard := some (25, true) }) rfl (fun KK hKK => ?_) ?_
        · go_simp
          refine (CL.out _ (HBW.out _ su23)).mono ?_
          rintro e u31' ⟨rfl, rfl⟩
          (try go_wp2_with fail)
          refine hKK.out _ _ (su23) (fun _ => ?_)
          clear hKK KK
          try simp only [Act.put, List.setIfInBounds_toArray, List.set_cons_zero, List.set_cons_succ]
          refine wpAnyH_name (fun u31 hu31 => ?_)
          have su31 : (Below W9.heap.size W9) u31 := by rw [hu31.out]; exact (su23)
          refine wpAnyH_take (i := 31) (oi := { dst := some 87, op := Op.binOp BinOp.eql 3 (Operand.tmp 83) (Operand.tmp 86) 3, type := 4, pos := "law.go:73", after := #[{ on := 27, ground := Ground.data }, { on := 30, ground := Ground.data }, { on := 25, ground := Ground.guard }], guard := some (25, true) }) (v := .bool true) rfl (by kernel_rfl) (by kernel_rfl) (by kernel_rfl) (fun _ _ _ h => h) (Or.inl ⟨by rfl, ?yr32⟩) su31 ?rr32
          case yr32 => (intro w hSw; go_simp; try with_reducible rfl)
          try simp only [Act.put, List.setIfInBounds_toArray, List.set_cons_zero, List.set_cons_succ]
          refine wpAnyH_take (i := 32) (oi := { dst := some 88, op := Op.pick (Operand.tmp 81) (Operand.tmp 87) (Operand.const (Value.bool false)), type := 4, pos := "law.go:73", after := #[{ on := 25, ground := Ground.data }, { on := 31, ground := Ground.data }], guard := none }) (v := .bool true) rfl (by kernel_rfl) (by kernel_rfl) (by kernel_rfl) (fun _ _ _ h => h) (Or.inl ⟨by rfl, ?yr33⟩) su31 ?rr33
          case yr33 => (intro w hSw; go_simp; try with_reducible rfl)
          try simp only [Act.put, List.setIfInBounds_toArray, List.set_cons_zero, List.set_cons_succ]
          refine wpAnyH_take (i := 33) (oi := { dst := some 6, op := Op.assign (Operand.tmp 88), type := 4, pos := "law.go:73", after := #[{ on := 32, ground := Ground.data }, { on := 27, ground := Ground.chain }, { on := 0, ground := Ground.phase }, { on := 1, ground := Ground.phase }, { on := 2, ground := Ground.phase }, { on := 3, ground := Ground.phase }, { on := 4, ground := Ground.phase }, { on := 5, ground := Ground.phase }, { on := 6, ground := Ground.phase }, { on := 7, ground := Ground.phase }, { on := 8, ground := Ground.phase }, { on := 9, ground := Ground.phase }, { on := 10, ground := Ground.phase }, { on := 11, ground := Ground.phase }, { on := 12, ground := Ground.phase }, { on := 13, ground := Ground.phase }, { on := 14, ground := Ground.phase }, { on := 15, ground := Ground.phase }, { on := 16, ground := Ground.phase }, { on := 17, ground := Ground.phase }, { on := 18, ground := Ground.phase }, { on := 19, ground := Ground.phase }, { on := 20, ground := Ground.phase }, { on := 21, ground := Ground.phase }, { on := 22, ground := Ground.phase }, { on := 23, ground := Ground.phase }, { on := 24, ground := Ground.phase }, { on := 25, ground := Ground.phase }, { on := 26, ground := Ground.phase }, { on := 27, ground := Ground.phase }, { on := 28, ground := Ground.phase }, { on := 29, ground := Ground.phase }, { on := 30, ground := Ground.phase }, { on := 31, ground := Ground.phase }, { on := 32, ground := Ground.phase }], guard := none }) (v := ?vr34) rfl (by kernel_rfl) (by kernel_rfl) (by kernel_rfl) (fun _ _ _ h => h) (Or.inl ⟨by rfl, ?yr34⟩) su31 ?rr34
          case yr34 => (intro w hSw; go_simp; try with_reducible rfl)
          try simp only [Act.put, List.setIfInBounds_toArray, List.set_cons_zero, List.set_cons_succ]
          refine wpAnyH_done (by kernel_rfl) ?_ _
          have HSB : Hid (Below w.heap.size w u31) := HBX.out _ su31
          clear FP FQ FA EQ1 EQ2 CF CH CL
          go_wp2
          go_ret
          exact ⟨rfl, HSB.out⟩
        exact AllReadyH.nil
      exact AllReadyH.nil
    exact AllReadyH.nil
  · subst l1 l2
    have mx : max 0 y1 = y1 := Int.max_eq_right l0
    have m0 : decide (0 ≤ y1) = true := by simpa using l0
    clear HLG
    go_upto_region 8 with fail
    clear c6 mx m0
    refine wp_region_held_drew (S := Below W9.heap.size W9) (by kernel_rfl) ((Below.refl _ _).drew) (fun _ => ?_)
    refine wpAnyH_name (fun u0 hu0 => ?_)
    have su0 : (Below W9.heap.size W9) u0 := by rw [hu0.out]; exact ((Below.refl _ _).drew)
    refine wpAnyH_take (i := 0) (oi := { dst := some 56, op := Op.move (Operand.tmp 7), type := 3, pos := "law.go:73", after := #[], guard := none }) (v := ?vs1) rfl (by kernel_rfl) (by kernel_rfl) (by kernel_rfl) (fun _ _ _ h => h) (Or.inl ⟨by rfl, ?ys1⟩) su0 ?rs1
    case ys1 => (intro w hSw; go_simp; try with_reducible rfl)
    try simp only [Act.put, List.setIfInBounds_toArray, List.set_cons_zero, List.set_cons_succ]
    refine wpAnyH_take (i := 1) (oi := { dst := some 57, op := Op.move (Operand.tmp 9), type := 3, pos := "law.go:73", after := #[], guard := none }) (v := ?vs2) rfl (by kernel_rfl) (by kernel_rfl) (by kernel_rfl) (fun _ _ _ h => h) (Or.inl ⟨by rfl, ?ys2⟩) su0 ?rs2
    case ys2 => (intro w hSw; go_simp; try with_reducible rfl)
    try simp only [Act.put, List.setIfInBounds_toArray, List.set_cons_zero, List.set_cons_succ]
    refine wpAnyH_take (i := 2) (oi := { dst := some 58, op := Op.binOp BinOp.eql 3 (Operand.tmp 56) (Operand.tmp 57) 3, type := 4, pos := "law.go:73", after := #[{ on := 0, ground := Ground.data }, { on := 1, ground := Ground.data }], guard := none }) (v := .bool true) rfl (by kernel_rfl) (by kernel_rfl) (by kernel_rfl) (fun _ _ _ h => h) (Or.inl ⟨by rfl, ?ys3⟩) su0 ?rs3
    case ys3 => (intro w hSw; go_simp; try with_reducible rfl)
    try simp only [Act.put, List.setIfInBounds_toArray, List.set_cons_zero, List.set_cons_succ]
    refine wpAnyH_take (i := 3) (oi := { dst := some 59, op := Op.move (Operand.tmp 58), type := 4, pos := "law.go:73", after := #[{ on := 2, ground := Ground.data }], guard := none }) (v := ?vs4) rfl (by kernel_rfl) (by kernel_rfl) (by kernel_rfl) (fun _ _ _ h => h) (Or.inl ⟨by rfl, ?ys4⟩) su0 ?rs4
    case ys4 => (intro w hSw; go_simp; try with_reducible rfl)
    try simp only [Act.put, List.setIfInBounds_toArray, List.set_cons_zero, List.set_cons_succ]
    refine wpAnyH_take (i := 4) (oi := { dst := some 60, op := Op.move (Operand.tmp 8), type := 4, pos := "law.go:73", after := #[{ on := 3, ground := Ground.guard }], guard := some (3, true) }) (v := ?vs5) rfl (by kernel_rfl) (by kernel_rfl) (by kernel_rfl) (fun _ _ _ h => h) (Or.inl ⟨by rfl, ?ys5⟩) su0 ?rs5
    case ys5 => (intro w hSw; go_simp; try with_reducible rfl)
    try simp only [Act.put, List.setIfInBounds_toArray, List.set_cons_zero, List.set_cons_succ]
    refine wpAnyH_take (i := 5) (oi := { dst := some 61, op := Op.move (Operand.tmp 10), type := 4, pos := "law.go:73", after := #[{ on := 3, ground := Ground.guard }], guard := some (3, true) }) (v := ?vs6) rfl (by kernel_rfl) (by kernel_rfl) (by kernel_rfl) (fun _ _ _ h => h) (Or.inl ⟨by rfl, ?ys6⟩) su0 ?rs6
    case ys6 => (intro w hSw; go_simp; try with_reducible rfl)
    try simp only [Act.put, List.setIfInBounds_toArray, List.set_cons_zero, List.set_cons_succ]
    refine wpAnyH_take (i := 6) (oi := { dst := some 62, op := Op.binOp BinOp.eql 4 (Operand.tmp 60) (Operand.tmp 61) 4, type := 4, pos := "law.go:73", after := #[{ on := 4, ground := Ground.data }, { on := 5, ground := Ground.data }, { on := 3, ground := Ground.guard }], guard := some (3, true) }) (v := .bool true) rfl (by kernel_rfl) (by kernel_rfl) (by kernel_rfl) (fun _ _ _ h => h) (Or.inl ⟨by rfl, ?ys7⟩) su0 ?rs7
    case ys7 => (intro w hSw; go_simp; try with_reducible rfl)
    try simp only [Act.put, List.setIfInBounds_toArray, List.set_cons_zero, List.set_cons_succ]
    refine wpAnyH_take (i := 7) (oi := { dst := some 63, op := Op.pick (Operand.tmp 59) (Operand.tmp 62) (Operand.const (Value.bool false)), type := 4, pos := "law.go:73", after := #[{ on := 3, ground := Ground.data }, { on := 6, ground := Ground.data }], guard := none }) (v := .bool true) rfl (by kernel_rfl) (by kernel_rfl) (by kernel_rfl) (fun _ _ _ h => h) (Or.inl ⟨by rfl, ?ys8⟩) su0 ?rs8
    case ys8 => (intro w hSw; go_simp; try with_reducible rfl)
    try simp only [Act.put, List.setIfInBounds_toArray, List.set_cons_zero, List.set_cons_succ]
    refine wpAnyH_take (i := 8) (oi := { dst := some 64, op := Op.move (Operand.tmp 63), type := 4, pos := "law.go:73", after := #[{ on := 7, ground := Ground.data }, { on := 3, ground := Ground.chain }], guard := none }) (v := ?vs9) rfl (by kernel_rfl) (by kernel_rfl) (by kernel_rfl) (fun _ _ _ h => h) (Or.inl ⟨by rfl, ?ys9⟩) su0 ?rs9
    case ys9 => (intro w hSw; go_simp; try with_reducible rfl)
    try simp only [Act.put, List.setIfInBounds_toArray, List.set_cons_zero, List.set_cons_succ]
    refine wpAnyH_take (i := 9) (oi := { dst := some 65, op := Op.load 48 (Operand.tmp 11), type := 48, pos := "law.go:73", after := #[{ on := 8, ground := Ground.guard }], guard := some (8, true) }) (v := .agg #[.int .i64 pn, .int .i64 pt, .int .i64 pz, .bool pa]) rfl (by kernel_rfl) (by kernel_rfl) (by kernel_rfl) (fun _ _ _ h => h) (Or.inl ⟨by rfl, ?ys10⟩) su0 ?rs10
    case ys10 => (intro w hSw; obtain ⟨f0, f1, f2, f3⟩ := FP.out w hSw; go_simp; try with_reducible rfl)
    try simp only [Act.put, List.setIfInBounds_toArray, List.set_cons_zero, List.set_cons_succ]
    refine wpAnyH_take (i := 10) (oi := { dst := some 66, op := Op.load 29 (Operand.tmp 13), type := 29, pos := "law.go:73", after := #[{ on := 8, ground := Ground.guard }], guard := some (8, true) }) (v := .agg #[.int .i64 pn, .int .i64 pt, .int .i64 pz, .bool pa]) rfl (by kernel_rfl) (by kernel_rfl) (by kernel_rfl) (fun _ _ _ h => h) (Or.inl ⟨by rfl, ?ys11⟩) su0 ?rs11
    case ys11 => (intro w hSw; obtain ⟨f0, f1, f2, f3⟩ := FQ.out w hSw; go_simp; try with_reducible rfl)
    try simp only [Act.put, List.setIfInBounds_toArray, List.set_cons_zero, List.set_cons_succ]
    refine wpAnyH_take (i := 11) (oi := { dst := some 67, op := Op.binOp BinOp.eql 29 (Operand.tmp 65) (Operand.tmp 66) 29, type := 4, pos := "law.go:73", after := #[{ on := 9, ground := Ground.data }, { on := 10, ground := Ground.data }, { on := 8, ground := Ground.guard }], guard := some (8, true) }) (v := .bool true) rfl (by kernel_rfl) (by kernel_rfl) (by kernel_rfl) (fun _ _ _ h => h) (Or.inl ⟨by rfl, ?ys12⟩) su0 ?rs12
    case ys12 => (intro w hSw; have E1 := EQ1.out w; have E2 := fun a b => EQ2.out a b w; go_simp; try with_reducible rfl)
    try simp only [Act.put, List.setIfInBounds_toArray, List.set_cons_zero, List.set_cons_succ]
    refine wpAnyH_take (i := 12) (oi := { dst := some 68, op := Op.pick (Operand.tmp 64) (Operand.tmp 67) (Operand.const (Value.bool false)), type := 4, pos := "law.go:73", after := #[{ on := 8, ground := Ground.data }, { on := 11, ground := Ground.data }], guard := none }) (v := .bool true) rfl (by kernel_rfl) (by kernel_rfl) (by kernel_rfl) (fun _ _ _ h => h) (Or.inl ⟨by rfl, ?ys13⟩) su0 ?rs13
    case ys13 => (intro w hSw; go_simp; try with_reducible rfl)
    try simp only [Act.put, List.setIfInBounds_toArray, List.set_cons_zero, List.set_cons_succ]
    refine wpAnyH_take (i := 13) (oi := { dst := some 69, op := Op.move (Operand.tmp 68), type := 4, pos := "law.go:73", after := #[{ on := 12, ground := Ground.data }, { on := 8, ground := Ground.chain }], guard := none }) (v := ?vs14) rfl (by kernel_rfl) (by kernel_rfl) (by kernel_rfl) (fun _ _ _ h => h) (Or.inl ⟨by rfl, ?ys14⟩) su0 ?rs14
    case ys14 => (intro w hSw; go_simp; try with_reducible rfl)
    try simp only [Act.put, List.setIfInBounds_toArray, List.set_cons_zero, List.set_cons_succ]
    refine wpAnyH_take (i := 14) (oi := { dst := some 70, op := Op.move (Operand.tmp 12), type := 4, pos := "law.go:73", after := #[{ on := 13, ground := Ground.guard }], guard := some (13, true) }) (v := ?vs15) rfl (by kernel_rfl) (by kernel_rfl) (by kernel_rfl) (fun _ _ _ h => h) (Or.inl ⟨by rfl, ?ys15⟩) su0 ?rs15
    case ys15 => (intro w hSw; go_simp; try with_reducible rfl)
    try simp only [Act.put, List.setIfInBounds_toArray, List.set_cons_zero, List.set_cons_succ]
    refine wpAnyH_take (i := 15) (oi := { dst := some 71, op := Op.move (Operand.tmp 14), type := 4, pos := "law.go:73", after := #[{ on := 13, ground := Ground.guard }], guard := some (13, true) }) (v := ?vs16) rfl (by kernel_rfl) (by kernel_rfl) (by kernel_rfl) (fun _ _ _ h => h) (Or.inl ⟨by rfl, ?ys16⟩) su0 ?rs16
    case ys16 => (intro w hSw; go_simp; try with_reducible rfl)
    try simp only [Act.put, List.setIfInBounds_toArray, List.set_cons_zero, List.set_cons_succ]
    refine wpAnyH_take (i := 16) (oi := { dst := some 72, op := Op.binOp BinOp.eql 4 (Operand.tmp 70) (Operand.tmp 71) 4, type := 4, pos := "law.go:73", after := #[{ on := 14, ground := Ground.data }, { on := 15, ground := Ground.data }, { on := 13, ground := Ground.guard }], guard := some (13, true) }) (v := .bool true) rfl (by kernel_rfl) (by kernel_rfl) (by kernel_rfl) (fun _ _ _ h => h) (Or.inl ⟨by rfl, ?ys17⟩) su0 ?rs17
    case ys17 => (intro w hSw; go_simp; try with_reducible rfl)
    try simp only [Act.put, List.setIfInBounds_toArray, List.set_cons_zero, List.set_cons_succ]
    refine wpAnyH_take (i := 17) (oi := { dst := some 73, op := Op.pick (Operand.tmp 69) (Operand.tmp 72) (Operand.const (Value.bool false)), type := 4, pos := "law.go:73", after := #[{ on := 13, ground := Ground.data }, { on := 16, ground := Ground.data }], guard := none }) (v := .bool true) rfl (by kernel_rfl) (by kernel_rfl) (by kernel_rfl) (fun _ _ _ h => h) (Or.inl ⟨by rfl, ?ys18⟩) su0 ?rs18
    case ys18 => (intro w hSw; go_simp; try with_reducible rfl)
    try simp only [Act.put, List.setIfInBounds_toArray, List.set_cons_zero, List.set_cons_succ]
    refine wpAnyH_take (i := 18) (oi := { dst := some 74, op := Op.move (Operand.tmp 73), type := 4, pos := "law.go:73", after := #[{ on := 17, ground := Ground.data }, { on := 13, ground := Ground.chain }], guard := none }) (v := ?vs19) rfl (by kernel_rfl) (by kernel_rfl) (by kernel_rfl) (fun _ _ _ h => h) (Or.inl ⟨by rfl, ?ys19⟩) su0 ?rs19
    case ys19 => (intro w hSw; go_simp; try with_reducible rfl)
    try simp only [Act.put, List.setIfInBounds_toArray, List.set_cons_zero, List.set_cons_succ]
    refine wpAnyH_take (i := 19) (oi := { dst := some 75, op := Op.move (Operand.tmp 0), type := 25, pos := "law.go:73", after := #[{ on := 18, ground := Ground.guard }], guard := some (18, true) }) (v := ?vs20) rfl (by kernel_rfl) (by kernel_rfl) (by kernel_rfl) (fun _ _ _ h => h) (Or.inl ⟨by rfl, ?ys20⟩) su0 ?rs20
    case ys20 => (intro w hSw; go_simp; try with_reducible rfl)
    try simp only [Act.put, List.setIfInBounds_toArray, List.set_cons_zero, List.set_cons_succ]
    refine wpAnyH_take (i := 21) (oi := { dst := some 77, op := Op.load 31 (Operand.tmp 4), type := 31, pos := "law.go:73", after := #[{ on := 18, ground := Ground.guard }], guard := some (18, true) }) (v := .agg (dc (.slice xa n9 xc) k d y1)) rfl (by kernel_rfl) (by kernel_rfl) (by kernel_rfl) (fun _ _ _ h => h) (Or.inl ⟨by rfl, ?ys21⟩) su0 ?rs21
    case ys21 => (intro w hSw; obtain ⟨c0, c1, c2, c3, c4, c5, c6, -, -, -, -, -, -, -⟩ := FA.out w hSw; go_simp; try with_reducible rfl)
    try simp only [Act.put, List.setIfInBounds_toArray, List.set_cons_zero, List.set_cons_succ]
    refine wpAnyH_ready (rs := [20]) (by kernel_rfl) (by simp) ?_
    refine AllReadyH.cons (o := { dst := some 76, op := Op.call { callee := Callee.value (Operand.func 21), args := #[Operand.tmp 75], argTypes := #[25] }, type := 3, pos := "law.go:73", after := #[{ on := 19, ground := Ground.data }, { on := 18, ground := Ground.chain }, { on := 18, ground := Ground.guard }], guard := some (18, true) }) rfl (fun KK hKK => ?_) ?_
    · go_simp
      refine (CF.out _ (HBW.out _ su0)).mono ?_
      rintro e u22' ⟨rfl, bu22'⟩
      (try go_wp2_with fail)
      refine hKK.out _ _ (su0.trans (bu22'.mono su0.size)) (fun _ => ?_)
      clear hKK KK
      try simp only [Act.put, List.setIfInBounds_toArray, List.set_cons_zero, List.set_cons_succ]
      refine wpAnyH_name (fun u22 hu22 => ?_)
      have su22 : (Below W9.heap.size W9) u22 := by rw [hu22.out]; exact (su0.trans (bu22'.mono su0.size))
      refine wpAnyH_ready (rs := [22]) (by kernel_rfl) (by simp) ?_
      refine AllReadyH.cons (o := { dst := some 78, op := Op.call { callee := Callee.value (Operand.func 29), args := #[Operand.tmp 77], argTypes := #[31] }, type := 3, pos := "law.go:73", after := #[{ on := 21, ground := Ground.data }, { on := 20, ground := Ground.chain }, { on := 18, ground := Ground.guard }], guard := some (18, true) }) rfl (fun KK hKK => ?_) ?_
      · go_simp
        refine (CH.out _ (HBW.out _ su22)).mono ?_
        rintro e u23' ⟨rfl, bu23'⟩
        (try go_wp2_with fail)
        refine hKK.out _ _ (su22.trans (bu23'.mono su22.size)) (fun _ => ?_)
        clear hKK KK
        try simp only [Act.put, List.setIfInBounds_toArray, List.set_cons_zero, List.set_cons_succ]
        refine wpAnyH_name (fun u23 hu23 => ?_)
        have su23 : (Below W9.heap.size W9) u23 := by rw [hu23.out]; exact (su22.trans (bu23'.mono su22.size))
        refine wpAnyH_take (i := 23) (oi := { dst := some 79, op := Op.binOp BinOp.eql 3 (Operand.tmp 76) (Operand.tmp 78) 3, type := 4, pos := "law.go:73", after := #[{ on := 20, ground := Ground.data }, { on := 22, ground := Ground.data }, { on := 18, ground := Ground.guard }], guard := some (18, true) }) (v := .bool true) rfl (by kernel_rfl) (by kernel_rfl) (by kernel_rfl) (fun _ _ _ h => h) (Or.inl ⟨by rfl, ?ys24⟩) su23 ?rs24
        case ys24 => (intro w hSw; go_simp; try with_reducible rfl)
        try simp only [Act.put, List.setIfInBounds_toArray, List.set_cons_zero, List.set_cons_succ]
        refine wpAnyH_take (i := 24) (oi := { dst := some 80, op := Op.pick (Operand.tmp 74) (Operand.tmp 79) (Operand.const (Value.bool false)), type := 4, pos := "law.go:73", after := #[{ on := 18, ground := Ground.data }, { on := 23, ground := Ground.data }], guard := none }) (v := .bool true) rfl (by kernel_rfl) (by kernel_rfl) (by kernel_rfl) (fun _ _ _ h => h) (Or.inl ⟨by rfl, ?ys25⟩) su23 ?rs25
        case ys25 => (intro w hSw; go_simp; try with_reducible rfl)
        try simp only [Act.put, List.setIfInBounds_toArray, List.set_cons_zero, List.set_cons_succ]
        refine wpAnyH_take (i := 25) (oi := { dst := some 81, op := Op.move (Operand.tmp 80), type := 4, pos := "law.go:73", after := #[{ on := 24, ground := Ground.data }, { on := 22, ground := Ground.chain }], guard := none }) (v := ?vs26) rfl (by kernel_rfl) (by kernel_rfl) (by kernel_rfl) (fun _ _ _ h => h) (Or.inl ⟨by rfl, ?ys26⟩) su23 ?rs26
        case ys26 => (intro w hSw; go_simp; try with_reducible rfl)
        try simp only [Act.put, List.setIfInBounds_toArray, List.set_cons_zero, List.set_cons_succ]
        refine wpAnyH_take (i := 26) (oi := { dst := some 82, op := Op.move (Operand.tmp 0), type := 25, pos := "law.go:73", after := #[{ on := 25, ground := Ground.guard }], guard := some (25, true) }) (v := ?vs27) rfl (by kernel_rfl) (by kernel_rfl) (by kernel_rfl) (fun _ _ _ h => h) (Or.inl ⟨by rfl, ?ys27⟩) su23 ?rs27
        case ys27 => (intro w hSw; go_simp; try with_reducible rfl)
        try simp only [Act.put, List.setIfInBounds_toArray, List.set_cons_zero, List.set_cons_succ]
        refine wpAnyH_take (i := 28) (oi := { dst := some 84, op := Op.fieldAddr 31 (Operand.tmp 4) 0, type := 0, pos := "law.go:73", after := #[{ on := 25, ground := Ground.guard }], guard := some (25, true) }) (v := ?vs28) rfl (by kernel_rfl) (by kernel_rfl) (by kernel_rfl) (fun _ _ _ h => h) (Or.inl ⟨by rfl, ?ys28⟩) su23 ?rs28
        case ys28 => (intro w hSw; go_simp; try with_reducible rfl)
        try simp only [Act.put, List.setIfInBounds_toArray, List.set_cons_zero, List.set_cons_succ]
        refine wpAnyH_take (i := 29) (oi := { dst := some 85, op := Op.load 27 (Operand.tmp 84), type := 27, pos := "law.go:73", after := #[{ on := 28, ground := Ground.data }, { on := 25, ground := Ground.guard }], guard := some (25, true) }) (v := .slice xa n9 xc) rfl (by kernel_rfl) (by kernel_rfl) (by kernel_rfl) (fun _ _ _ h => h) (Or.inl ⟨by rfl, ?ys29⟩) su23 ?rs29
        case ys29 => (intro w hSw; have c0 := (FA.out w hSw).c0; go_simp; try with_reducible rfl)
        try simp only [Act.put, List.setIfInBounds_toArray, List.set_cons_zero, List.set_cons_succ]
        refine wpAnyH_take (i := 30) (oi := { dst := some 86, op := Op.call { callee := Callee.builtin Builtin.len, args := #[Operand.tmp 85], argTypes := #[27] }, type := 3, pos := "law.go:73", after := #[{ on := 29, ground := Ground.data }, { on := 25, ground := Ground.guard }], guard := some (25, true) }) (v := .int .i64 (n9 : Nat)) rfl (by kernel_rfl) (by kernel_rfl) (by kernel_rfl) (fun _ _ _ h => h) (Or.inl ⟨by rfl, ?ys30⟩) su23 ?rs30
        case ys30 => (intro w hSw; go_simp; try with_reducible rfl)
        try simp only [Act.put, List.setIfInBounds_toArray, List.set_cons_zero, List.set_cons_succ]
        refine wpAnyH_ready (rs := [27]) (by kernel_rfl) (by simp) ?_
        refine AllReadyH.cons (o := { dst := some 83, op := Op.call { callee := Callee.value (Operand.func 22), args := #[Operand.tmp 82], argTypes := #[25] }, type := 3, pos := "law.go:73", after := #[{ on := 26, ground := Ground.data }, { on := 25, ground := Ground.chain }, { on := 25, ground := Ground.guard }], guard := some (25, true) }) rfl (fun KK hKK => ?_) ?_
        · go_simp
          refine (CL.out _ (HBW.out _ su23)).mono ?_
          rintro e u31' ⟨rfl, rfl⟩
          (try go_wp2_with fail)
          refine hKK.out _ _ (su23) (fun _ => ?_)
          clear hKK KK
          try simp only [Act.put, List.setIfInBounds_toArray, List.set_cons_zero, List.set_cons_succ]
          refine wpAnyH_name (fun u31 hu31 => ?_)
          have su31 : (Below W9.heap.size W9) u31 := by rw [hu31.out]; exact (su23)
          refine wpAnyH_take (i := 31) (oi := { dst := some 87, op := Op.binOp BinOp.eql 3 (Operand.tmp 83) (Operand.tmp 86) 3, type := 4, pos := "law.go:73", after := #[{ on := 27, ground := Ground.data }, { on := 30, ground := Ground.data }, { on := 25, ground := Ground.guard }], guard := some (25, true) }) (v := .bool true) rfl (by kernel_rfl) (by kernel_rfl) (by kernel_rfl) (fun _ _ _ h => h) (Or.inl ⟨by rfl, ?ys32⟩) su31 ?rs32
          case ys32 => (intro w hSw; go_simp; try with_reducible rfl)
          try simp only [Act.put, List.setIfInBounds_toArray, List.set_cons_zero, List.set_cons_succ]
          refine wpAnyH_take (i := 32) (oi := { dst := some 88, op := Op.pick (Operand.tmp 81) (Operand.tmp 87) (Operand.const (Value.bool false)), type := 4, pos := "law.go:73", after := #[{ on := 25, ground := Ground.data }, { on := 31, ground := Ground.data }], guard := none }) (v := .bool true) rfl (by kernel_rfl) (by kernel_rfl) (by kernel_rfl) (fun _ _ _ h => h) (Or.inl ⟨by rfl, ?ys33⟩) su31 ?rs33
          case ys33 => (intro w hSw; go_simp; try with_reducible rfl)
          try simp only [Act.put, List.setIfInBounds_toArray, List.set_cons_zero, List.set_cons_succ]
          refine wpAnyH_take (i := 33) (oi := { dst := some 6, op := Op.assign (Operand.tmp 88), type := 4, pos := "law.go:73", after := #[{ on := 32, ground := Ground.data }, { on := 27, ground := Ground.chain }, { on := 0, ground := Ground.phase }, { on := 1, ground := Ground.phase }, { on := 2, ground := Ground.phase }, { on := 3, ground := Ground.phase }, { on := 4, ground := Ground.phase }, { on := 5, ground := Ground.phase }, { on := 6, ground := Ground.phase }, { on := 7, ground := Ground.phase }, { on := 8, ground := Ground.phase }, { on := 9, ground := Ground.phase }, { on := 10, ground := Ground.phase }, { on := 11, ground := Ground.phase }, { on := 12, ground := Ground.phase }, { on := 13, ground := Ground.phase }, { on := 14, ground := Ground.phase }, { on := 15, ground := Ground.phase }, { on := 16, ground := Ground.phase }, { on := 17, ground := Ground.phase }, { on := 18, ground := Ground.phase }, { on := 19, ground := Ground.phase }, { on := 20, ground := Ground.phase }, { on := 21, ground := Ground.phase }, { on := 22, ground := Ground.phase }, { on := 23, ground := Ground.phase }, { on := 24, ground := Ground.phase }, { on := 25, ground := Ground.phase }, { on := 26, ground := Ground.phase }, { on := 27, ground := Ground.phase }, { on := 28, ground := Ground.phase }, { on := 29, ground := Ground.phase }, { on := 30, ground := Ground.phase }, { on := 31, ground := Ground.phase }, { on := 32, ground := Ground.phase }], guard := none }) (v := ?vs34) rfl (by kernel_rfl) (by kernel_rfl) (by kernel_rfl) (fun _ _ _ h => h) (Or.inl ⟨by rfl, ?ys34⟩) su31 ?rs34
          case ys34 => (intro w hSw; go_simp; try with_reducible rfl)
          try simp only [Act.put, List.setIfInBounds_toArray, List.set_cons_zero, List.set_cons_succ]
          refine wpAnyH_done (by kernel_rfl) ?_ _
          have HSB : Hid (Below w.heap.size w u31) := HBX.out _ su31
          clear FP FQ FA EQ1 EQ2 CF CH CL
          go_wp2
          go_ret
          exact ⟨rfl, HSB.out⟩
        exact AllReadyH.nil
      exact AllReadyH.nil
    exact AllReadyH.nil
end Go.Proofs.Ytamjbmbflllbfaa
namespace Go.Proofs.Ytamjbmbflllbfaa
open Go.RowKit Go.Shelf
set_option maxRecDepth 100000

/-- What calls make of a ledger, one behind the other. -/
def plF (s : Lg) (l : List Atc) (i : Nat) : Lg := (l.take i).foldl nxS s
theorem plF_zero (s : Lg) (l : List Atc) : plF s l 0 = s := rfl
theorem plF_succ (s : Lg) (l : List Atc) (i : Nat) (h : i < l.length) : plF s l (i + 1) = nxS (plF s l i) (atA l i) := by
  unfold plF
  rw [List.take_succ_eq_append_getElem h, List.foldl_append, atA_eq l i h]
  rfl
theorem LU.ge {n : Nat} {w w' : World} {g : Nat} {v v' : Value} (h : LU w w' g v v') (hn : n ≤ w.heap.size) (ho : ∀ k, v.ownBlock = some k → n ≤ k) : ∀ k, v'.ownBlock = some k → n ≤ k := fun k hk => by
  rcases h.own with e | ⟨j, e, hj⟩
  · exact ho k (e ▸ hk)
  · rw [e] at hk
    cases hk
    omega
end Go.Proofs.Ytamjbmbflllbfaa
