/-
  What awake answers.
  What the statements of layer 21 share: what came in.
  Of packets sent one behind the other one came, plainly.
  Calls that came in; what Ack answers where the spans lie below.
  Few calls; '==' of packets; packets that are the same.
  What a call on both leaves: blocks.
  Each packet once, plainly; rows of numbers of the call's own.
-/
import Derived.Test.YtamjbmbflllbfaaLd
import Derived.Test.YtamjbmbflllbfaaLb
import Derived.Test.YtamjbmbflllbfaaLs
import Derived.Test.YtamjbmbflllbfaaRows
import Derived.Carry
import Derived.ChangeMaps5
import Derived.ChangeOld
import Derived.ChangeSame
import Derived.Deep.DeepHandedRow
import Derived.Deep.SlicePairs
import Derived.Deep.Slices
import Derived.Deep.Strs
import Derived.LaidLaws
import Derived.Lib.LaidTab
import Derived.Lib.SmallJoins
import Derived.OpenShut
import Derived.ProofKit
import Derived.Shelf.Vars
import Derived.SizedLaws
import Derived.Stop.LaidErr
import Derived.Test.YtamjbmbflllbfaaRm
import Derived.Test.YtamjbmbflllbfaaRk
import Derived.Test.YtamjbmbflllbfaaLc
import Derived.Test.YtamjbmbflllbfaaRs
import Derived.Laws.ResultCell
import Derived.Test.YtamjbmbflllbfaaRl
namespace Go.Proofs.Ytamjbmbflllbfaa
open Go.RowKit Go.Shelf
set_option maxRecDepth 100000

/-- Packets sent one behind the other at one time. -/
def iv (t z : Int) (a m : Nat) : List Pk := (List.range' a m).map fun (i : Nat) => (⟨(i : Int), t, z, true⟩ : Pk)
theorem iv_len (t z : Int) (a m : Nat) : (iv t z a m).length = m := by unfold iv; simp
theorem iv_app (t z : Int) (a m k : Nat) : iv t z a (m + k) = iv t z a m ++ iv t z (a + m) k := by
  unfold iv
  have e := List.range'_append (s := a) (m := m) (n := k) (step := 1)
  rw [Nat.one_mul] at e
  rw [← List.map_append, e]
theorem iv_one (t z : Int) (a : Nat) : iv t z a 1 = [⟨(a : Int), t, z, true⟩] := rfl
theorem iv_mem {t z : Int} {a m : Nat} {p : Pk} (h : p ∈ iv t z a m) : (a : Int) ≤ p.n ∧ p.n < (a : Int) + (m : Int) ∧ p.t = t ∧ p.z = z ∧ p.a = true := by
  unfold iv at h
  obtain ⟨i, hi, rfl⟩ := List.mem_map.1 h
  have := List.mem_range'_1.1 hi
  exact ⟨by simp only; omega, by simp only; omega, rfl, rfl, rfl⟩
def stT (t z : Int) (n : Nat) : Lg := ⟨iv t z 0 n, (n : Int) - 1, if n = 0 then 0 else t, -1⟩
theorem stT_next {t z : Int} {n : Nat} (hn : n < 1024) (t0 : 0 ≤ t) (t1 : t ≤ 1099511627776) (z0 : 1 ≤ z) (z1 : z ≤ 1200) : sendE (stT t z n) ⟨(n : Int), t, z, true⟩ = 0 ∧ sendL (stT t z n) ⟨(n : Int), t, z, true⟩ = stT t z (n + 1) := by
  have hm : mgo (stT t z n) ⟨(n : Int), t, z, true⟩ = true := by
    refine mgo_iff.2 ⟨⟨by simp only; omega, by simp only; omega⟩, ⟨t0, t1⟩, by show (n : Int) - 1 < (n : Int); omega, ?_, z0, z1⟩
    show (if n = 0 then 0 else t) ≤ t
    split <;> omega
  obtain ⟨e1, e2⟩ := sendE_yes hm (by show (iv t z 0 n).length ≠ 1024; rw [iv_len]; omega)
  refine ⟨e1, ?_⟩
  rw [e2]
  unfold stT
  rw [iv_app, iv_one, Nat.zero_add, if_neg (Nat.succ_ne_zero n)]
  simp only [Lg.mk.injEq, and_true, true_and]
  omega
theorem stT_zero (t z : Int) : stT t z 0 = lg0 := rfl
theorem ssp_one (w : World) (x : Sp) : SSp (w.alloc (.cells #[.int .i64 x.1, .int .i64 x.2] 45)) (.slice (some ⟨w.heap.size, 0, none⟩) 1 1) [x] := by
  refine ⟨_, 1, rfl, by simp, by unfold maxLen; omega, fun e => (by cases e), spc_cl [x], .inr ⟨w.heap.size, 0, rfl, fun i hi => ?_⟩⟩
  have : i = 0 := by simp at hi; exact hi
  subst this
  exact blk_range (cs := spc x) (heap_alloc_new _ _)
def aw1 : Lg := ackN (stT 0 100 5) [(4, 4)] 9
def aw2 : Lg := lostL aw1 9 20
theorem aw_facts : comE (stT 0 100 5) [(4, 4)] 9 = 0 ∧ ackR (stT 0 100 5) [(4, 4)] 9 = (9, true) ∧ ackG (stT 0 100 5) [(4, 4)] 9 = [⟨4, 0, 100, true⟩] ∧ lostP aw1 9 20 = [⟨0, 0, 100, true⟩, ⟨1, 0, 100, true⟩] ∧ nxt aw2 20 = (20, true) ∧ fly aw2.o = 200 := by decide +kernel
set_option maxHeartbeats 4000000 in
theorem awake_any (w : World) : Calls Try.prog 9 #[] w fun e w' => e = .returned (.bool true) ∧ Below w.heap.size w w' := by
  have cn := lnew_any w w.heap.size
  obtain ⟨hA, eA⟩ : ∃ x, x = w.heap.size := ⟨_, rfl⟩
  obtain ⟨z1, z2, z3, z4, z5, z6⟩ := aw_facts
  have HZ : Hid (comE (stT 0 100 5) [(4, 4)] 9 = 0 ∧ ackR (stT 0 100 5) [(4, 4)] 9 = (9, true) ∧ ackG (stT 0 100 5) [(4, 4)] 9 = [⟨4, 0, 100, true⟩] ∧ lostP aw1 9 20 = [⟨0, 0, 100, true⟩, ⟨1, 0, 100, true⟩] ∧ nxt aw2 20 = (20, true) ∧ fly aw2.o = 200) := ⟨z1, z2, z3, z4, z5, z6⟩
  have HEA : Hid (hA = w.heap.size) := eA
  rw [← eA] at cn
  clear z1 z2 z3 z4 z5 z6
  go_enter Try.func9, Try.ntmps9
  go_wp2_with fail
  refine cn.mono ?_
  rintro e w1 ⟨rfl, e1, ls⟩
  have b1 : Below w.heap.size w w1 := by rw [e1]; exact al_b _ _
  have HB1 : Hid (Below w.heap.size w w1) := b1
  have HL1 : Hid (LS w1 hA hA (.slice none 0 0) (stT 0 100 0)) := ls
  clear cn e1 ls b1 eA
  go_wp2
  go_loopw [2] (fun u wr => ∃ (j : Nat) (v : Value), j ≤ 5 ∧ u = .int .i64 j ∧ LS wr hA hA v (stT 0 100 j) ∧ Below w.heap.size w wr) (fun u _ => 5 - (intOf u).toNat)
  case atStart => exact ⟨0, _, by omega, rfl, HL1.out, HB1.out⟩
  case round =>
    obtain ⟨j, v, hj, rfl, ls, bel⟩ := hrel
    have HB : Hid (Below w.heap.size w wr) := bel
    have HL : Hid (LS wr hA hA v (stT 0 100 j)) := ls
    clear HL1 HB1
    by_cases hj5 : j < 5
    · have lt2 : (j : Int) < 5 := by omega
      have cs := sent_any wr hA hA v (stT 0 100 j) ⟨(j : Int), 0, 100, true⟩ ls (by have := HEA.out; have := bel.size; omega)
      obtain ⟨s1, s2⟩ := stT_next (t := 0) (z := 100) (n := j) (by omega) (by omega) (by omega) (by omega) (by omega)
      rw [s1, s2] at cs
      clear ls bel s1 s2
      go_wp2_with fail
      refine cs.mono ?_
      rintro e w2 ⟨rfl, v2, l2, u2⟩
      have HB2 : Hid (Below w.heap.size w w2) := u2.below HB.out HB.out.size (by have := HEA.out; omega) (fun k hk => by have := HL.out.rs.base hk; have := HEA.out; omega)
      have HL2 : Hid (LS w2 hA hA v2 (stT 0 100 (j + 1))) := l2
      clear cs l2 u2
      go_wp2
      go_roundw
      case rel => exact ⟨j + 1, v2, by omega, by go_num, HL2.out, HB2.out⟩
      case measure => simp [intOf]; omega
    · obtain rfl : j = 5 := by omega
      obtain ⟨W3, hW3⟩ : ∃ W3, W3 = wr.alloc (.cells #[.int .i64 4, .int .i64 4] 45) := ⟨_, rfl⟩
      have b3 : Below wr.heap.size wr W3 := by rw [hW3]; exact al_b _ _
      have u3 : SSp W3 (.slice (some ⟨wr.heap.size, 0, none⟩) 1 1) [(4, 4)] := by rw [hW3]; exact ssp_one wr (4, 4)
      have HB3 : Hid (Below w.heap.size w W3) := bel.trans (b3.mono bel.size)
      have hgl := blk_lt ls.bk
      have ca := ack_any W3 hA hA v _ (stT 0 100 5) [(4, 4)] 9 (ls.below b3) (by have := HEA.out; have := HB3.out.size; omega) u3 (by simp) (fun a n c e q => by cases e; have := ls.rs.lt q; simp only at this; omega) (fun a n c e => by cases e; simp only; omega)
      rw [HZ.out.1, HZ.out.2.1, HZ.out.2.2.1] at ca
      have HBA : Hid (∀ v : Value, ∀ w' s, LS w' hA hA v s → ∀ k, v.ownBlock = some k → w.heap.size ≤ k) := fun v w' s ls k hk => by have := ls.rs.base hk; have := HEA.out; omega
      have HLV : Hid (∀ k, v.ownBlock = some k → w.heap.size ≤ k) := HBA.out v _ _ ls
      obtain ⟨hq, ehq⟩ : ∃ x, x = wr.heap.size := ⟨_, rfl⟩
      rw [← ehq] at ca
      clear ls bel b3 u3 hgl
      go_upto_region 7 with fail
      go_wp2_with fail
      try rw [← hW3]
      try rw [← ehq]
      clear hW3 ehq
      refine ca.mono ?_
      rintro e w4 ⟨vt, v4, rfl, rt, l4, u4⟩
      obtain ⟨ta, tc, rfl, -⟩ := id rt.is.shape
      have b4 : Below w.heap.size w w4 := u4.below HB3.out HB3.out.size (by have := HEA.out; omega) HLV.out
      have HB4 : Hid (Below w.heap.size w w4) := b4
      have cl := lost_any w4 hA hA v4 aw1 9 20 l4 (by have := HEA.out; have := b4.size; omega)
      have HL4 : Hid (∀ k, v4.ownBlock = some k → w.heap.size ≤ k) := HBA.out v4 _ _ l4
      rw [HZ.out.2.2.2.1] at cl
      clear ca rt l4 u4 b4
      go_wp2_with fail
      refine cl.mono ?_
      rintro e w5 ⟨vt5, v5, rfl, rt5, l5, u5⟩
      obtain ⟨ta5, tc5, rfl, -⟩ := id rt5.is.shape
      have b5 : Below w.heap.size w w5 := u5.below HB4.out HB4.out.size (by have := HEA.out; omega) HL4.out
      have HB5 : Hid (Below w.heap.size w w5) := b5
      have cx := next_any w5 hA hA v5 aw2 20 l5
      rw [HZ.out.2.2.2.2.1] at cx
      have HL5 : Hid (LS w5 hA hA v5 aw2) := l5
      have HR5 : Hid (PS w5 (.slice ta5 2 tc5) [⟨0, 0, 100, true⟩, ⟨1, 0, 100, true⟩]) := rt5.is
      clear cl rt5 l5 u5 b5
      go_wp2_with fail
      refine cx.mono ?_
      rintro e w6 ⟨rfl, b6⟩
      have HB6 : Hid (Below w.heap.size w w6) := HB5.out.trans (b6.mono HB5.out.size)
      have cf := flying_any w6 hA hA v5 aw2 (HL5.out.below b6)
      rw [HZ.out.2.2.2.2.2] at cf
      obtain ⟨bb, off, rfl, k0, k1, k2, k3⟩ := (HR5.out.kept b6).at 1 (by simp)
      have k0' : w6.cell? ⟨bb, off + 1 * 4, none⟩ = some (.int .i64 1) := k0
      clear cx b6 k0 k1 k2 k3
      simp only [Nat.one_mul] at k0'
      go_wp2_with fail
      refine cf.mono ?_
      rintro e w7 ⟨rfl, b7⟩
      have HB7 : Hid (Below w.heap.size w w7) := HB6.out.trans (b7.mono HB6.out.size)
      clear cf b7
      go_wp2
      go_ret
      exact ⟨rfl, HB7.out⟩
end Go.Proofs.Ytamjbmbflllbfaa
namespace Go.Proofs.Ytamjbmbflllbfaa
open Go.ChangeShapes Go.WideShapes Go.ChangeAt Go.RowKit Go.Deep
set_option maxRecDepth 100000

theorem own : ownKnob Try.prog.godebug = none := by kernel_rfl
theorem laidOut : laidOutB Try.prog = true := by kernel_rfl
theorem cells3 : Try.prog.cellsOf 3 = 1 := by kernel_rfl
theorem cells4 : Try.prog.cellsOf 4 = 1 := by kernel_rfl
theorem cellsU : Try.prog.cellsOf 57 = 1 := by kernel_rfl
end Go.Proofs.Ytamjbmbflllbfaa
namespace Go.Proofs.Ytamjbmbflllbfaa
open Go.RowKit
set_option maxRecDepth 100000

theorem filt_all {f : Pk → Bool} {l : List Pk} (h : ∀ p ∈ l, f p = true) : l.filter f = l := List.filter_eq_self.2 h
theorem filt_nil {f : Pk → Bool} {l : List Pk} (h : ∀ p ∈ l, f p = false) : l.filter f = [] := List.filter_eq_nil_iff.2 fun p hp => by rw [h p hp]; exact Bool.false_ne_true
theorem fly_iv (t z : Int) (a : Nat) : ∀ m, fly (iv t z a m) = z * (m : Int)
  | 0 => by simp [iv, fly]
  | m + 1 => by
    rw [iv_app, fly_app, fly_iv t z a m, iv_one]
    simp only [fly, if_true]
    rw [show ((m + 1 : Nat) : Int) = (m : Int) + 1 by omega, Int.mul_add]
    omega
theorem chk_one {k : Int} (h0 : 0 ≤ k) (h1 : k ≤ 1099511627776) : chkL [(k, k)] = 0 := by
  unfold chkL
  rw [if_neg (by simp), if_neg]
  rintro (e | e)
  · cases e
  · exact e (setL_canon (Canon.one (by unfold Okk; simp only; omega)))
theorem lst_one (k : Int) : lstT [(k, k)] = k := rfl
theorem in_one (k n : Int) : inS [(k, k)] n = decide (n = k) := by
  unfold inS
  rw [Bool.eq_iff_iff]
  simp only [List.any_cons, List.any_nil, Bool.or_false, Bool.and_eq_true, decide_eq_true_eq]
  omega
/-- The parts: far below, just below, above. -/
structure P3 (n k : Nat) (t : Int) : Prop where
  c0 : comE (stT 5 10 n) [((k : Int), (k : Int))] 5 = 0
  ag : ackG (stT 5 10 n) [((k : Int), (k : Int))] 5 = [⟨(k : Int), 5, 10, true⟩]
  ar : ackR (stT 5 10 n) [((k : Int), (k : Int))] 5 = (0, true)
  an : ackN (stT 5 10 n) [((k : Int), (k : Int))] 5 = ⟨iv 5 10 0 (k - 2) ++ (iv 5 10 (k - 2) (k - (k - 2)) ++ iv 5 10 (k + 1) (n - 1 - k)), (n : Int) - 1, 5, (k : Int)⟩
  l1 : lostP ⟨iv 5 10 0 (k - 2) ++ (iv 5 10 (k - 2) (k - (k - 2)) ++ iv 5 10 (k + 1) (n - 1 - k)), (n : Int) - 1, 5, (k : Int)⟩ 5 t = iv 5 10 0 (k - 2)
  s1 : lostL ⟨iv 5 10 0 (k - 2) ++ (iv 5 10 (k - 2) (k - (k - 2)) ++ iv 5 10 (k + 1) (n - 1 - k)), (n : Int) - 1, 5, (k : Int)⟩ 5 t = ⟨iv 5 10 (k - 2) (k - (k - 2)) ++ iv 5 10 (k + 1) (n - 1 - k), (n : Int) - 1, 5, (k : Int)⟩
  l2 : lostP ⟨iv 5 10 (k - 2) (k - (k - 2)) ++ iv 5 10 (k + 1) (n - 1 - k), (n : Int) - 1, 5, (k : Int)⟩ (4 + t) t = []
  s2 : lostL ⟨iv 5 10 (k - 2) (k - (k - 2)) ++ iv 5 10 (k + 1) (n - 1 - k), (n : Int) - 1, 5, (k : Int)⟩ (4 + t) t = ⟨iv 5 10 (k - 2) (k - (k - 2)) ++ iv 5 10 (k + 1) (n - 1 - k), (n : Int) - 1, 5, (k : Int)⟩
  l3 : lostP ⟨iv 5 10 (k - 2) (k - (k - 2)) ++ iv 5 10 (k + 1) (n - 1 - k), (n : Int) - 1, 5, (k : Int)⟩ (5 + t) t = iv 5 10 (k - 2) (k - (k - 2))
  s3 : lostL ⟨iv 5 10 (k - 2) (k - (k - 2)) ++ iv 5 10 (k + 1) (n - 1 - k), (n : Int) - 1, 5, (k : Int)⟩ (5 + t) t = ⟨iv 5 10 (k + 1) (n - 1 - k), (n : Int) - 1, 5, (k : Int)⟩
theorem lost_yes {s : Lg} {now late : Int} (h : (tm now && tm late) = true) : lostP s now late = s.o.filter (lstF s.g now late) ∧ lostL s now late = ⟨s.o.filter (fun p => !lstF s.g now late p), s.n, s.t, s.g⟩ := by
  unfold lostP lostL tkL
  rw [h]
  exact ⟨rfl, rfl⟩
theorem p3 {n k : Nat} {t : Int} (hk : k < n) (hn : n ≤ 60) (t0 : 1 ≤ t) (t1 : t ≤ 1000) : P3 n k t := by
  have e0 : iv 5 10 0 n = iv 5 10 0 (k - 2) ++ (iv 5 10 (k - 2) (k - (k - 2)) ++ ([⟨(k : Int), 5, 10, true⟩] ++ iv 5 10 (k + 1) (n - 1 - k))) := by
    rw [show n = (k - 2) + ((k - (k - 2)) + (1 + (n - 1 - k))) by omega, iv_app, iv_app, iv_app, iv_one]
    simp only [Nat.zero_add]
    rw [show k - 2 + (k - (k - 2)) = k by omega, show k - 2 + (k - (k - 2) + (1 + (n - 1 - k))) - 1 - k = n - 1 - k by omega]
  have A : ∀ p ∈ iv 5 10 0 (k - 2), p.n + 3 ≤ (k : Int) ∧ p.t = 5 := fun p hp => by have := iv_mem hp; omega
  have Bm : ∀ p ∈ iv 5 10 (k - 2) (k - (k - 2)), (k : Int) - 2 ≤ p.n ∧ p.n < (k : Int) ∧ p.t = 5 := fun p hp => by have := iv_mem hp; omega
  have D : ∀ p ∈ iv 5 10 (k + 1) (n - 1 - k), (k : Int) < p.n ∧ p.t = 5 := fun p hp => by have := iv_mem hp; omega
  have hc : comE (stT 5 10 n) [((k : Int), (k : Int))] 5 = 0 := by
    unfold comE
    rw [if_neg (fun e => e (chk_one (by omega) (by omega))), lst_one, if_neg (by show ¬ (n : Int) - 1 < (k : Int); omega), if_neg]
    show ¬ (5 < (if n = 0 then 0 else (5 : Int)) ∨ 1099511627776 < (5 : Int))
    rw [if_neg (by omega)]
    omega
  have hg : gotP (stT 5 10 n) [((k : Int), (k : Int))] = [⟨(k : Int), 5, 10, true⟩] := by
    unfold gotP
    show (iv 5 10 0 n).filter _ = _
    rw [e0, List.filter_append, List.filter_append, List.filter_append, filt_nil (l := iv 5 10 0 (k - 2)), filt_nil (l := iv 5 10 (k - 2) (k - (k - 2))), filt_nil (l := iv 5 10 (k + 1) (n - 1 - k)), filt_all (l := [_])]
    · simp
    · intro p hp; rw [List.mem_singleton.1 hp, in_one]; simp
    · intro p hp; rw [in_one]; have := D p hp; exact decide_eq_false (by omega)
    · intro p hp; rw [in_one]; have := Bm p hp; exact decide_eq_false (by omega)
    · intro p hp; rw [in_one]; have := A p hp; exact decide_eq_false (by omega)
  have ht : tm 5 = true := by decide
  have ht1 : tm t = true := tm_iff.2 (by omega)
  have ht2 : tm (4 + t) = true := tm_iff.2 (by omega)
  have ht3 : tm (5 + t) = true := tm_iff.2 (by omega)
  have LF : ∀ now (p : Pk), lstF (k : Int) now t p = (decide (p.n ≤ (k : Int) - 3) || (decide (p.n < (k : Int)) && decide (p.t ≤ now - t))) := fun _ _ => rfl
  refine ⟨hc, ?_, ?_, ?_, ?_, ?_, ?_, ?_, ?_, ?_⟩
  · unfold ackG; rw [if_pos hc, hg]
  · unfold ackR
    rw [if_pos hc]
    unfold ackS
    rw [hg, lst_one, if_pos (show (stT 5 10 n).g < (k : Int) by show (-1 : Int) < k; omega)]
    unfold smp
    rw [if_pos ⟨rfl, rfl⟩]
    rfl
  · unfold ackN
    rw [if_pos hc]
    unfold ackL
    rw [lst_one]
    show (⟨(iv 5 10 0 n).filter _, (n : Int) - 1, (if n = 0 then 0 else (5 : Int)), max (-1) (k : Int)⟩ : Lg) = _
    rw [if_neg (by omega), Int.max_eq_right (by omega), e0, List.filter_append, List.filter_append, List.filter_append, filt_all (l := iv 5 10 0 (k - 2)), filt_all (l := iv 5 10 (k - 2) (k - (k - 2))), filt_all (l := iv 5 10 (k + 1) (n - 1 - k)), filt_nil (l := [_])]
    · simp
    · intro p hp; rw [List.mem_singleton.1 hp, in_one]; simp
    · intro p hp; rw [in_one]; have := D p hp; rw [decide_eq_false (show ¬ p.n = (k : Int) by omega)]; rfl
    · intro p hp; rw [in_one]; have := Bm p hp; rw [decide_eq_false (show ¬ p.n = (k : Int) by omega)]; rfl
    · intro p hp; rw [in_one]; have := A p hp; rw [decide_eq_false (show ¬ p.n = (k : Int) by omega)]; rfl
  · rw [(lost_yes (by rw [ht, ht1]; rfl)).1, List.filter_append, List.filter_append, filt_all (l := iv 5 10 0 (k - 2)), filt_nil (l := iv 5 10 (k - 2) (k - (k - 2))), filt_nil (l := iv 5 10 (k + 1) (n - 1 - k))]
    · simp
    · intro p hp; have := D p hp; rw [LF, decide_eq_false (show ¬ p.n ≤ (k : Int) - 3 by omega), decide_eq_false (show ¬ p.n < (k : Int) by omega)]; rfl
    · intro p hp; have := Bm p hp; rw [LF, decide_eq_false (show ¬ p.n ≤ (k : Int) - 3 by omega), decide_eq_false (show ¬ p.t ≤ 5 - t by omega)]; simp
    · intro p hp; have := A p hp; rw [LF, decide_eq_true (show p.n ≤ (k : Int) - 3 by omega)]; rfl
  · rw [(lost_yes (by rw [ht, ht1]; rfl)).2, List.filter_append, List.filter_append, filt_nil (l := iv 5 10 0 (k - 2)), filt_all (l := iv 5 10 (k - 2) (k - (k - 2))), filt_all (l := iv 5 10 (k + 1) (n - 1 - k))]
    · simp
    · intro p hp; have := D p hp; rw [LF, decide_eq_false (show ¬ p.n ≤ (k : Int) - 3 by omega), decide_eq_false (show ¬ p.n < (k : Int) by omega)]; rfl
    · intro p hp; have := Bm p hp; rw [LF, decide_eq_false (show ¬ p.n ≤ (k : Int) - 3 by omega), decide_eq_false (show ¬ p.t ≤ 5 - t by omega)]; simp
    · intro p hp; have := A p hp; rw [LF, decide_eq_true (show p.n ≤ (k : Int) - 3 by omega)]; rfl
  · rw [(lost_yes (by rw [ht2, ht1]; rfl)).1, List.filter_append, filt_nil (l := iv 5 10 (k - 2) (k - (k - 2))), filt_nil (l := iv 5 10 (k + 1) (n - 1 - k))]
    · rfl
    · intro p hp; have := D p hp; rw [LF, decide_eq_false (show ¬ p.n ≤ (k : Int) - 3 by omega), decide_eq_false (show ¬ p.n < (k : Int) by omega)]; rfl
    · intro p hp; have := Bm p hp; rw [LF, decide_eq_false (show ¬ p.n ≤ (k : Int) - 3 by omega), decide_eq_false (show ¬ p.t ≤ 4 + t - t by omega)]; simp
  · rw [(lost_yes (by rw [ht2, ht1]; rfl)).2, List.filter_append, filt_all (l := iv 5 10 (k - 2) (k - (k - 2))), filt_all (l := iv 5 10 (k + 1) (n - 1 - k))]
    · intro p hp; have := D p hp; rw [LF, decide_eq_false (show ¬ p.n ≤ (k : Int) - 3 by omega), decide_eq_false (show ¬ p.n < (k : Int) by omega)]; rfl
    · intro p hp; have := Bm p hp; rw [LF, decide_eq_false (show ¬ p.n ≤ (k : Int) - 3 by omega), decide_eq_false (show ¬ p.t ≤ 4 + t - t by omega)]; simp
  · rw [(lost_yes (by rw [ht3, ht1]; rfl)).1, List.filter_append, filt_all (l := iv 5 10 (k - 2) (k - (k - 2))), filt_nil (l := iv 5 10 (k + 1) (n - 1 - k))]
    · simp
    · intro p hp; have := D p hp; rw [LF, decide_eq_false (show ¬ p.n ≤ (k : Int) - 3 by omega), decide_eq_false (show ¬ p.n < (k : Int) by omega)]; rfl
    · intro p hp; have := Bm p hp; rw [LF, decide_eq_true (show p.n < (k : Int) by omega), decide_eq_true (show p.t ≤ 5 + t - t by omega)]; simp
  · rw [(lost_yes (by rw [ht3, ht1]; rfl)).2, List.filter_append, filt_nil (l := iv 5 10 (k - 2) (k - (k - 2))), filt_all (l := iv 5 10 (k + 1) (n - 1 - k))]
    · simp
    · intro p hp; have := D p hp; rw [LF, decide_eq_false (show ¬ p.n ≤ (k : Int) - 3 by omega), decide_eq_false (show ¬ p.n < (k : Int) by omega)]; rfl
    · intro p hp; have := Bm p hp; rw [LF, decide_eq_true (show p.n < (k : Int) by omega), decide_eq_true (show p.t ≤ 5 + t - t by omega)]; simp
end Go.Proofs.Ytamjbmbflllbfaa
namespace Go.Proofs.Ytamjbmbflllbfaa
open Go.ChangeShapes Go.WideShapes Go.ChangeAt Go.RowKit Go.Deep Go.Shelf
set_option maxRecDepth 100000

set_option maxHeartbeats 4000000 in
theorem ack_ref (w : World) (B g : Nat) (v u : Value) (s : Lg) (l : List Sp) (now : Int) (h : LS w B g v s) (_ : B ≤ w.heap.size) (hu : SSp w u l) (hl : l.length ≤ 1000) (hz : comE s l now ≠ 0) :
    Calls Try.prog 15 #[.pointer (some ⟨g, 0, none⟩), u, .int .i64 now] w fun e w' => ∃ vt v', e = .returned (.tuple #[vt, .int .i64 (ackR s l now).1, .bool (ackR s l now).2, .int .i64 (comE s l now)]) ∧ RP 48 w' w.heap.size vt (ackG s l now) ∧ LS w' B g v' (ackN s l now) ∧ LU w w' g v v' := by
  obtain ⟨W1, hW1⟩ : ∃ W1, W1 = w.alloc (.cells #[u] 35) := ⟨_, rfl⟩
  have b1 : Below w.heap.size w W1 := by rw [hW1]; exact al_b _ _
  have g1 : W1.heap[w.heap.size]? = some (.cells #[u] 35 (0, 0)) := by rw [hW1]; exact heap_alloc_new _ _
  have d0 : W1.cell? ⟨w.heap.size, 0, none⟩ = some u := by simp [World.cell?, g1]
  have cm := mayCome_any W1 g v u s l now (h.bk.kept b1) (hu.kept b1) hl
  have HLS : Hid (LS w B g v s) := h
  have HB1 : Hid (Below w.heap.size w W1) := b1
  have HG1 : Hid (W1.heap[w.heap.size]? = some (.cells #[u] 35 (0, 0))) := g1
  have e1 : ackG s l now = [] := by unfold ackG; rw [if_neg hz]
  have e2 : ackR s l now = (0, false) := by unfold ackR; rw [if_neg hz]
  have e3 : ackN s l now = s := by unfold ackN; rw [if_neg hz]
  rw [e1, e2, e3]
  have t1 : (comE s l now != 0) = true := by simpa using hz
  obtain ⟨ua, uc, rfl, -⟩ := id hu.shape
  generalize l.length = n9 at *
  clear h hu b1 g1 hz e1 e2 e3
  generalize comE s l now = R at *
  go_enter Try.func15, Try.ntmps15
  go_upto_region 1 with fail
  rw [← hW1]
  clear hW1
  go_wp2_with fail
  refine cm.mono ?_
  rintro e w2 ⟨rfl, b2⟩
  have HB2 : Hid (Below w.heap.size w w2) := HB1.out.trans (b2.mono HB1.out.size)
  have HE : Hid (RP 48 w2 w.heap.size (.slice none 0 0) [] ∧ LS w2 B g v s ∧ LU w w2 g v v) := ⟨RP.nil _ _ _, HLS.out.below HB2.out, LU.of HB2.out⟩
  clear cm b2
  go_wp2
  refine bodyPost_ret (results_tmp4 rfl _ _ _) rfl ?_
  first | exact ⟨_, rfl, HE.out.1, _, HE.out.2⟩ | exact ⟨_, _, rfl, HE.out⟩

/-- Ack, the spans below where the ledger lies. -/
theorem ack_low (w : World) (B g : Nat) (v u : Value) (s : Lg) (l : List Sp) (now : Int) (h : LS w B g v s) (hB : B ≤ w.heap.size) (hg : B ≤ g) (w0 : World) (hw : B ≤ w0.heap.size) (hw2 : w0.heap.size ≤ B) (hb : Below w0.heap.size w0 w) (hu : SSp w0 u l) (hl : l.length ≤ 1000) :
    Calls Try.prog 15 #[.pointer (some ⟨g, 0, none⟩), u, .int .i64 now] w fun e w' => ∃ vt v', e = .returned (.tuple #[vt, .int .i64 (ackR s l now).1, .bool (ackR s l now).2, .int .i64 (comE s l now)]) ∧ RP 48 w' w.heap.size vt (ackG s l now) ∧ LS w' B g v' (ackN s l now) ∧ LU w w' g v v' := by
  by_cases hz : comE s l now = 0
  · have hne := (chkL_zero (comE_zero hz).1).2.1
    have hp := List.length_pos_iff.2 hne
    have hlt : ∀ a n c, u = .slice (some a) n c → a.block < w0.heap.size := fun a n c e => by
      subst e
      obtain ⟨b, off, e, q⟩ := hu.at 0 hp
      cases e
      exact World.block_lt_of_cell? _ _ (spC q).1
    exact ack_any w B g v u s l now h hB (hu.kept hb) hl (fun a n c e q => by have h1 := hlt a n c e; have h2 := h.rs.base q; omega) (fun a n c e => by have := hlt a n c e; omega)
  · exact ack_ref w B g v u s l now h hB (hu.kept hb) hl hz
/-- A call: its number, a packet, spans, two times. -/
structure Atc where
  k : Int
  p : Pk
  u : Value
  L : List Sp
  n : Int
  l : Int
def a8 (q : Atc) : List Value := [.int .u8 q.k, .int .i64 q.p.n, .int .i64 q.p.t, .int .i64 q.p.z, .bool q.p.a, q.u, .int .i64 q.n, .int .i64 q.l]
instance : Inhabited Atc := ⟨⟨0, pk0, .slice none 0 0, [], 0, 0⟩⟩
abbrev at0 : Atc := ⟨0, pk0, .slice none 0 0, [], 0, 0⟩
structure okA (w : World) (q : Atc) : Prop where
  k0 : 0 ≤ q.k
  k1 : q.k < 256
  sp : SSp w q.u q.L
abbrev atA (l : List Atc) (i : Nat) : Atc := l.getD i at0
theorem atA_eq (l : List Atc) (i : Nat) (h : i < l.length) : atA l i = l[i] := by simp [atA, List.getD, List.getElem?_eq_getElem h]
theorem atA_mem (l : List Atc) (i : Nat) (h : i < l.length) : atA l i ∈ l := by rw [atA_eq l i h]; exact List.getElem_mem h
structure AQ (w : World) (v : Value) (l : List Atc) : Prop where
  is : IS 8 w v (l.map a8)
  ok : ∀ q ∈ l, okA w q
theorem atC_a8 (l : List Atc) (i : Nat) (h : i < l.length) : atC (l.map a8) i = a8 (atA l i) := by
  rw [atC_eq _ _ (by rw [List.length_map]; exact h), atA_eq l i h, List.getElem_map]
structure AC (w : World) (b o : Nat) (q : Atc) : Prop where
  c0 : w.cell? ⟨b, o, none⟩ = some (.int .u8 q.k)
  c1 : w.cell? ⟨b, o + 1, none⟩ = some (.int .i64 q.p.n)
  c2 : w.cell? ⟨b, o + 2, none⟩ = some (.int .i64 q.p.t)
  c3 : w.cell? ⟨b, o + 3, none⟩ = some (.int .i64 q.p.z)
  c4 : w.cell? ⟨b, o + 4, none⟩ = some (.bool q.p.a)
  c5 : w.cell? ⟨b, o + 5, none⟩ = some q.u
  c6 : w.cell? ⟨b, o + 6, none⟩ = some (.int .i64 q.n)
  c7 : w.cell? ⟨b, o + 7, none⟩ = some (.int .i64 q.l)
theorem aC {w : World} {b o : Nat} {q : Atc} (h : w.rangeAt b o (a8 q)) : AC w b o q := ⟨h 0 _ rfl, h 1 _ rfl, h 2 _ rfl, h 3 _ rfl, h 4 _ rfl, h 5 _ rfl, h 6 _ rfl, h 7 _ rfl⟩
theorem AQ.shape {w : World} {v : Value} {l : List Atc} (h : AQ w v l) : ∃ a c, v = .slice a l.length c ∧ l.length ≤ c ∧ c ≤ maxLen ∧ (a = none → c = 0) := by
  have := h.is.shape
  rwa [List.length_map] at this
theorem AQ.at {w : World} {a : Option Addr} {n c : Nat} {l : List Atc} (h : AQ w (.slice a n c) l) (i : Nat) (hi : i < l.length) : ∃ b off, a = some ⟨b, off, none⟩ ∧ w.rangeAt b (off + i * 8) (a8 (atA l i)) := by
  obtain ⟨b, off, e, hr⟩ := h.is.at i (by rw [List.length_map]; exact hi)
  rw [atC_a8 l i hi] at hr
  exact ⟨b, off, e, hr⟩
theorem cells5 : Try.prog.cellsOf 5 = 1 := by kernel_rfl
theorem cellsSp : Try.prog.cellsOf 45 = 2 := by kernel_rfl
theorem cellsSl : Try.prog.cellsOf 35 = 1 := by kernel_rfl
theorem cellsPk : Try.prog.cellsOf 29 = 4 := by kernel_rfl
theorem cellsAc : Try.prog.cellsOf 37 = 8 := by kernel_rfl
theorem sps_trod {H : Type} {enc : TypeId × Value → H} {W : World} {fuel : Nat} {cs : List Value} {x : DataW H × List MemPlace}
    (h : DataW.trod enc Try.prog W 0 (fun _ => true) true fuel 35 cs = some x) : ∃ sv l, cs = [sv] ∧ SSp W sv l := by
  rcases open_slice Try.underlying35 h with ⟨hcs, _⟩ | ⟨a, len0, cap0, m, n, D, Pl, hcs, _, hl, hm, hmm, _, hall⟩
  · exact ⟨_, [], hcs, SSp.nil W⟩
  · simp only [if_true] at hmm
    have each : ∀ i, i < len0 → ∃ q : Sp, ∀ j v, (spc q)[j]? = some v → W.cell? (a.add (i * 2 + j)) = some v := by
      intro i hi
      obtain ⟨cs', h1, h2⟩ := hall i (by omega)
      rw [cellsSp] at h1
      obtain ⟨_, hlen, hcell⟩ := World.cells?_some h1
      obtain ⟨y0, y1, k, _, hl2, q0, q1⟩ := trod_struct2 Try.underlying45 h2
      obtain ⟨a0, e0, _, _⟩ := DataW.trod_int Try.underlying3 q0
      obtain ⟨a1, e1, _, _⟩ := DataW.trod_int Try.underlying3 q1
      refine ⟨(a0, a1), fun j v hv => ?_⟩
      have hj : j < 2 := (List.getElem?_eq_some_iff.1 hv).1
      have c0 := hcell j (by omega)
      rw [add_add] at c0
      rw [c0]
      have u0 := congrArg (·[0]?) e0
      have u1 := congrArg (·[0]?) e1
      simp only [List.getElem?_take, List.getElem?_drop, cells3] at u0 u1
      rcases (by omega : j = 0 ∨ j = 1) with rfl | rfl
      · have : v = .int .i64 a0 := by simpa [spc] using hv.symm
        rw [this]
        simpa using u0
      · have : v = .int .i64 a1 := by simpa [spc] using hv.symm
        rw [this]
        simpa using u1
    obtain ⟨q, hq⟩ := choose_lt each
    have hlen : ((List.range len0).map q).length = len0 := by simp
    refine ⟨_, (List.range len0).map q, hcs, ⟨some a, cap0, by rw [List.length_map, hlen], by rw [List.length_map, hlen]; exact hl, hm, (fun e => by cases e), spc_cl _, ?_⟩⟩
    rcases Nat.eq_zero_or_pos len0 with h0 | h0
    · subst h0; exact .inl rfl
    · obtain ⟨b, off, spot⟩ := a
      have hspot : spot = none := by simpa [Addr.add] using World.cell?_spot (hq 0 h0 0 _ rfl)
      subst hspot
      refine .inr ⟨b, off, rfl, fun i hi => ?_⟩
      rw [List.length_map, hlen] at hi
      have e : atC (((List.range len0).map q).map spc) i = spc (q i) := by simp [atC, List.getD, hi]
      rw [e]
      intro j v hv
      have := hq i hi j v hv
      rw [Addr.add_lit, ← Nat.add_assoc] at this
      exact this
theorem trod_struct5 {H : Type} {enc : TypeId × Value → H} {P : Program} {w : World} {base : Nat} {spare : Nat → Bool} {held : Bool} {t : TypeId} {f0 f1 f2 f3 f4 : Field} {fuel : Nat} {cs : List Value} {x : DataW H × List MemPlace} (ht : P.underlying t = some (.struct #[f0, f1, f2, f3, f4])) (h : DataW.trod enc P w base spare held fuel t cs = some x) :
    ∃ y0 y1 y2 y3 y4 n, cs.length = P.cellsOf t ∧ DataW.trod enc P w base spare held n f0.type ((cs.drop f0.offset).take (P.cellsOf f0.type)) = some y0 ∧
      DataW.trod enc P w base spare held n f1.type ((cs.drop f1.offset).take (P.cellsOf f1.type)) = some y1 ∧ DataW.trod enc P w base spare held n f2.type ((cs.drop f2.offset).take (P.cellsOf f2.type)) = some y2 ∧
      DataW.trod enc P w base spare held n f3.type ((cs.drop f3.offset).take (P.cellsOf f3.type)) = some y3 ∧ DataW.trod enc P w base spare held n f4.type ((cs.drop f4.offset).take (P.cellsOf f4.type)) = some y4 := by
  obtain ⟨xs, n, _, rfl, hl, hlen, hf⟩ := DataW.trod_struct ht h
  match xs, hlen with
  | [y0, y1, y2, y3, y4], _ => exact ⟨y0, y1, y2, y3, y4, n, hl, by simpa using hf 0 f0 rfl, by simpa using hf 1 f1 rfl, by simpa using hf 2 f2 rfl, by simpa using hf 3 f3 rfl, by simpa using hf 4 f4 rfl⟩
theorem trod_struct4 {H : Type} {enc : TypeId × Value → H} {P : Program} {w : World} {base : Nat} {spare : Nat → Bool} {held : Bool} {t : TypeId} {f0 f1 f2 f3 : Field} {fuel : Nat} {cs : List Value} {x : DataW H × List MemPlace} (ht : P.underlying t = some (.struct #[f0, f1, f2, f3])) (h : DataW.trod enc P w base spare held fuel t cs = some x) :
    ∃ y0 y1 y2 y3 n, cs.length = P.cellsOf t ∧ DataW.trod enc P w base spare held n f0.type ((cs.drop f0.offset).take (P.cellsOf f0.type)) = some y0 ∧
      DataW.trod enc P w base spare held n f1.type ((cs.drop f1.offset).take (P.cellsOf f1.type)) = some y1 ∧ DataW.trod enc P w base spare held n f2.type ((cs.drop f2.offset).take (P.cellsOf f2.type)) = some y2 ∧
      DataW.trod enc P w base spare held n f3.type ((cs.drop f3.offset).take (P.cellsOf f3.type)) = some y3 := by
  obtain ⟨xs, n, _, rfl, hl, hlen, hf⟩ := DataW.trod_struct ht h
  match xs, hlen with
  | [y0, y1, y2, y3], _ => exact ⟨y0, y1, y2, y3, n, hl, by simpa using hf 0 f0 rfl, by simpa using hf 1 f1 rfl, by simpa using hf 2 f2 rfl, by simpa using hf 3 f3 rfl⟩
theorem pk_trod {H : Type} {enc : TypeId × Value → H} {W : World} {fuel : Nat} {cs : List Value} {x : DataW H × List MemPlace}
    (h : DataW.trod enc Try.prog W 0 (fun _ => true) true fuel 29 cs = some x) : ∃ p : Pk, cs = p.c := by
  obtain ⟨y0, y1, y2, y3, n, hl, h0, h1, h2, h3⟩ := trod_struct4 Try.underlying29 h
  rw [cellsPk] at hl
  obtain ⟨v0, v1, v2, v3, rfl⟩ : ∃ v0 v1 v2 v3, cs = [v0, v1, v2, v3] := by
    match cs, hl with
    | [v0, v1, v2, v3], _ => exact ⟨v0, v1, v2, v3, rfl⟩
  simp only [cells4, cells3] at h0 h1 h2 h3
  obtain ⟨l, e0, _, _⟩ := DataW.trod_int Try.underlying3 h0
  obtain ⟨m, e1, _, _⟩ := DataW.trod_int Try.underlying3 h1
  obtain ⟨s, e2, _, _⟩ := DataW.trod_int Try.underlying3 h2
  obtain ⟨b, e3, _⟩ := DataW.trod_bool Try.underlying4 h3
  simp at e0 e1 e2 e3
  subst e0 e1 e2 e3
  exact ⟨⟨l, m, s, b⟩, rfl⟩
theorem act_trod {H : Type} {enc : TypeId × Value → H} {W : World} {fuel : Nat} {cs : List Value} {x : DataW H × List MemPlace}
    (h : DataW.trod enc Try.prog W 0 (fun _ => true) true fuel 37 cs = some x) : ∃ q : Atc, cs = a8 q ∧ okA W q := by
  obtain ⟨y0, y1, y2, y3, y4, n, hl, h0, h1, h2, h3, h4⟩ := trod_struct5 Try.underlying37 h
  rw [cellsAc] at hl
  obtain ⟨v0, v1, v2, v3, v4, v5, v6, v7, rfl⟩ : ∃ v0 v1 v2 v3 v4 v5 v6 v7, cs = [v0, v1, v2, v3, v4, v5, v6, v7] := by
    match cs, hl with
    | [v0, v1, v2, v3, v4, v5, v6, v7], _ => exact ⟨v0, v1, v2, v3, v4, v5, v6, v7, rfl⟩
  simp only [cells5, cells3, cellsPk, cellsSl] at h0 h1 h2 h3 h4
  obtain ⟨k, e0, _, w0⟩ := DataW.trod_int Try.underlying5 h0
  obtain ⟨p, e1⟩ := pk_trod h1
  obtain ⟨sv, l, e2, hs⟩ := sps_trod h2
  obtain ⟨n3, e3, _, _⟩ := DataW.trod_int Try.underlying3 h3
  obtain ⟨n4, e4, _, _⟩ := DataW.trod_int Try.underlying3 h4
  have := bounds_u8 w0
  simp [Pk.c] at e0 e1 e2 e3 e4
  obtain ⟨rfl, rfl, rfl, rfl⟩ := e1
  subst e0 e2 e3 e4
  exact ⟨⟨k, p, v5, l, n3, n4⟩, rfl, by simp only; omega, by simp only; omega, hs⟩
/-- Calls that came in. -/
theorem aqs_in {H : Type} {enc : TypeId × Value → H} {W : World} {base : Nat} {v : Value} {d : DataW H} {p : List MemPlace}
    (hval : Value.okWide Try.prog W .any base 22 v) (h : DataW.Trod enc Try.prog W 0 (fun _ => true) true 22 v d p) : ∃ l, AQ W v l := by
  obtain ⟨a0, len0, cap0, rfl⟩ := okWide_slice Try.underlying22 hval
  obtain ⟨fuel, hf⟩ := h
  rcases open_slice Try.underlying22 hf with ⟨hcs, _⟩ | ⟨x, l, c, m, n, D, Pl, hcs, _, hl, hm, hmm, _, hall⟩
  · simp [Value.cells] at hcs
    obtain ⟨rfl, rfl, rfl⟩ := hcs
    exact ⟨[], ⟨IS.nil 8 W, by simp⟩⟩
  · simp [Value.cells] at hcs
    obtain ⟨rfl, rfl, rfl⟩ := hcs
    simp only [if_true] at hmm
    have each : ∀ i, i < len0 → ∃ q : Atc, (∀ j v, (a8 q)[j]? = some v → W.cell? (x.add (i * 8 + j)) = some v) ∧ okA W q ∧ ∀ v ∈ a8 q, v.oneCell' = true := by
      intro i hi
      obtain ⟨cs', h1, h2⟩ := hall i (by omega)
      rw [cellsAc] at h1
      obtain ⟨_, hlen, hcell⟩ := World.cells?_some h1
      obtain ⟨y, rfl, hy⟩ := act_trod h2
      refine ⟨y, fun j v hv => ?_, hy, fun v hv => ?_⟩
      · have hj : j < 8 := (List.getElem?_eq_some_iff.1 hv).1
        have c0 := hcell j (by omega)
        rw [add_add] at c0
        rw [c0]
        simpa using hv
      · obtain ⟨ua, uc, hue, -⟩ := hy.sp.shape
        simp only [a8, List.mem_cons, List.not_mem_nil, or_false] at hv
        rcases hv with rfl | rfl | rfl | rfl | rfl | rfl | rfl | rfl <;> first | rfl | (rw [hue]; rfl)
    obtain ⟨q, hq⟩ := choose_lt each
    have hlen : ((List.range len0).map q).length = len0 := by simp
    have hcl : CL 8 (((List.range len0).map q).map a8) := fun c hc => by
      obtain ⟨y, hy, rfl⟩ := List.mem_map.1 hc
      obtain ⟨i, hi, rfl⟩ := List.mem_map.1 hy
      exact ⟨rfl, (hq i (List.mem_range.1 hi)).2.2⟩
    refine ⟨(List.range len0).map q, ⟨⟨some x, cap0, by rw [List.length_map, hlen], by rw [List.length_map, hlen]; exact hl, hm, (fun e => by cases e), hcl, ?_⟩, fun y hy => ?_⟩⟩
    · rcases Nat.eq_zero_or_pos len0 with h0 | h0
      · subst h0; exact .inl rfl
      · obtain ⟨b, off, spot⟩ := x
        have hspot : spot = none := by simpa [Addr.add] using World.cell?_spot ((hq 0 h0).1 0 _ rfl)
        subst hspot
        refine .inr ⟨b, off, rfl, fun i hi => ?_⟩
        rw [List.length_map, hlen] at hi
        have e : atC (((List.range len0).map q).map a8) i = a8 (q i) := by simp [atC, List.getD, hi]
        rw [e]
        intro j v hv
        have := (hq i hi).1 j v hv
        rw [Addr.add_lit, ← Nat.add_assoc] at this
        exact this
    · obtain ⟨i, hi, rfl⟩ := List.mem_map.1 hy
      exact (hq i (List.mem_range.1 hi)).2.1
end Go.Proofs.Ytamjbmbflllbfaa
namespace Go.Proofs.Ytamjbmbflllbfaa
open Go.ChangeShapes Go.WideShapes Go.ChangeAt Go.RowKit Go.Deep Go.Shelf
set_option maxRecDepth 100000

theorem fieldsK : (Try.prog.fieldsOf 29).toList.map (fun f => (decide (f.name ≠ "_"), f.type, f.offset)) = [(true, 3, 0), (true, 3, 1), (true, 3, 2), (true, 4, 3)] := by kernel_rfl
theorem structK : Try.prog.underlying 29 = some (.struct (Try.prog.fieldsOf 29)) := by kernel_rfl
theorem standsK : Try.prog.stoodInHeld 29 = false := by kernel_rfl
theorem guardK : Try.prog.eqGuardType Try.prog.depth 29 = false := by kernel_rfl
theorem eq_pk (p : Pk) (w : World) : (Op.equalIn 10000 29 p.v p.v).run Try.prog w = .ok true w := by
  unfold Pk.v
  rw [run_equalIn_struct w 9999 29 _ _ structK standsK]
  have hf := fieldsK
  generalize (Try.prog.fieldsOf 29).toList = fs at hf
  have hlen : fs.length = 4 := by have := congrArg List.length hf; simpa using this
  match fs, hlen, hf with
  | [f0, f1, f2, f3], _, hf =>
    simp only [List.map_cons, List.map_nil, List.cons.injEq, Prod.mk.injEq, and_true, decide_eq_true_eq] at hf
    obtain ⟨⟨n0, t0, o0⟩, ⟨n1, t1, o1⟩, ⟨n2, t2, o2⟩, n3, t3, o3⟩ := hf
    have aU : (isAgg 3).run Try.prog w = .ok false w := by simp [isAgg, run_underlying Try.underlying3]
    have bU : (isAgg 4).run Try.prog w = .ok false w := by simp [isAgg, run_underlying Try.underlying4]
    have p0 : (part 3 #[.int .i64 p.n, .int .i64 p.t, .int .i64 p.z, .bool p.a] 0).run Try.prog w = .ok (.int .i64 p.n) w := part_one aU rfl
    have p1 : (part 3 #[.int .i64 p.n, .int .i64 p.t, .int .i64 p.z, .bool p.a] 1).run Try.prog w = .ok (.int .i64 p.t) w := part_one aU rfl
    have p2 : (part 3 #[.int .i64 p.n, .int .i64 p.t, .int .i64 p.z, .bool p.a] 2).run Try.prog w = .ok (.int .i64 p.z) w := part_one aU rfl
    have p3 : (part 4 #[.int .i64 p.n, .int .i64 p.t, .int .i64 p.z, .bool p.a] 3).run Try.prog w = .ok (.bool p.a) w := part_one bU rfl
    have e : ∀ x : Int, (Op.equalIn 9999 3 (.int .i64 x) (.int .i64 x)).run Try.prog w = .ok true w := fun x => by
      have := run_equalIn_int w 9998 3 .i64 .i64 x x Try.underlying3
      rw [beq_self_eq_true] at this
      exact this
    have e3 : (Op.equalIn 9999 4 (.bool p.a) (.bool p.a)).run Try.prog w = .ok true w := by
      have := run_equalIn_bool' w 9998 4 p.a p.a Try.underlying4
      rw [beq_self_eq_true] at this
      exact this
    rw [eqf_cons n0 t0 o0 p0 p0 (e _), eqf_cons n1 t1 o1 p1 p1 (e _), eqf_cons n2 t2 o2 p2 p2 (e _), eqf_cons n3 t3 o3 p3 p3 e3, eqf_nil]
    rfl
theorem neq_pk (p : Pk) (w : World) : (binOp .neq 29 p.v p.v).run Try.prog w = .ok (.bool false) w := by
  have hE := eq_pk p w
  unfold Pk.v at hE ⊢
  simp only [run_neq_struct, hE, Result.andThen_ok, Bool.not_true]
theorem eql_pk (p : Pk) (w : World) : (binOp .eql 29 p.v p.v).run Try.prog w = .ok (.bool true) w := by
  have hE := eq_pk p w
  unfold Pk.v at hE ⊢
  simp only [run_eql_struct, hE, Result.andThen_ok]
theorem eqg_pk (o : BinOp) (p : Pk) (a b : Operand) (w : World) : (eqGuard o 29 a b p.v p.v).run Try.prog w = .ok () w := run_eqGuard_agg _ _ _ _ _ _ _ guardK

theorem AQ.kept {w w' : World} {v : Value} {l : List Atc} (h : AQ w v l) (hb : Below w.heap.size w w') : AQ w' v l := ⟨IS.kept h.is hb, fun q hq => ⟨(h.ok q hq).k0, (h.ok q hq).k1, (h.ok q hq).sp.kept hb⟩⟩
def fewB (l : List Atc) : Bool := decide (l.length ≤ 200) && l.all (fun q => decide (q.L.length ≤ 70))
theorem fewB_iff {l : List Atc} : fewB l = true ↔ l.length ≤ 200 ∧ ∀ q ∈ l, q.L.length ≤ 70 := by
  unfold fewB
  simp [List.all_eq_true]
set_option maxHeartbeats 4000000 in
theorem few_any (w : World) (v : Value) (l : List Atc) (h : AQ w v l) :
    Calls Try.prog 8 #[v] w fun e w' => e = .returned (.bool (fewB l)) ∧ Below w.heap.size w w' := by
  obtain ⟨a, c, rfl, -⟩ := id h.shape
  by_cases h2 : 200 < l.length
  · have hf : fewB l = false := by rw [Bool.eq_false_iff]; exact fun e => by have := (fewB_iff.1 e).1; omega
    have t0 : (200 : Int) < (l.length : Int) := by omega
    rw [hf]
    clear h hf
    generalize l.length = n at *
    go_enter Try.func8, Try.ntmps8
    go_wp2
    go_ret
    exact ⟨rfl, Below.refl _ _⟩
  · have t0 : ¬ (200 : Int) < (l.length : Int) := by omega
    have HAT : Hid (∀ j, j < l.length → ∀ W, Below w.heap.size w W → ∃ b off, a = some ⟨b, off, none⟩ ∧ W.cell? ⟨b, off + j * 8 + 5, none⟩ = some (atA l j).u ∧ ∃ ua uc, (atA l j).u = .slice ua (atA l j).L.length uc) := fun j hj W hb => by
      obtain ⟨b, off, e, q⟩ := AQ.at (h.kept hb) j hj
      have hs := (h.ok _ (atA_mem l j hj)).sp.shape
      obtain ⟨ua, uc, hu, -⟩ := hs
      refine ⟨b, off, e, ?_, ua, uc, hu⟩
      exact (aC q).c5
    have HYES : Hid ((∀ k, k < l.length → (atA l k).L.length ≤ 70) → fewB l = true) := fun hk => fewB_iff.2 ⟨by omega, fun q hq => by
      obtain ⟨i, hi, rfl⟩ := List.mem_iff_getElem.1 hq
      have := hk i hi
      rwa [atA_eq l i hi] at this⟩
    have HNO : Hid (∀ k, k < l.length → 70 < (atA l k).L.length → fewB l = false) := fun k hk hl => by
      rw [Bool.eq_false_iff]
      exact fun e => by have := (fewB_iff.1 e).2 _ (atA_mem l k hk); omega
    clear h
    generalize fewB l = R at *
    obtain ⟨n, hn⟩ : ∃ n, n = l.length := ⟨_, rfl⟩
    rw [← hn] at HAT HYES HNO t0 h2 ⊢
    clear hn
    go_enter Try.func8, Try.ntmps8
    go_wp2
    go_loopw [3] (fun u wr => ∃ i : Nat, i ≤ n ∧ u = .int .i64 i ∧ (∀ k, k < i → (atA l k).L.length ≤ 70) ∧ Below w.heap.size w wr) (fun u _ => n - (intOf u).toNat)
    case atStart => exact ⟨0, by omega, rfl, fun k hk => by omega, Below.refl _ _⟩
    case round =>
      obtain ⟨i, hi, rfl, hk, bel⟩ := hrel
      have HB : Hid (Below w.heap.size w wr) := bel
      have HK : Hid (∀ k, k < i → (atA l k).L.length ≤ 70) := hk
      clear bel hk
      by_cases hin : i < n
      · have lt2 : (i : Int) < (n : Int) := by omega
        obtain ⟨b, off, rfl, k1, ua, uc, hu⟩ := HAT.out i hin wr HB.out
        have HN : Hid (70 < (atA l i).L.length → R = false) := fun h => HNO.out i hin h
        have HKN : Hid ((atA l i).L.length ≤ 70 → ∀ k, k < i + 1 → (atA l k).L.length ≤ 70) := fun h k hk => by
          rcases Nat.lt_or_ge k i with h' | h'
          · exact HK.out k h'
          · rw [show k = i by omega]; exact h
        rw [hu] at k1
        clear hu
        generalize (atA l i).L.length = m at *
        by_cases hm : 70 < m
        · have t1 : (70 : Int) < (m : Int) := by omega
          have HR : Hid (R = false) := HN.out hm
          clear HN HKN hm
          go_wp2
          go_ret
          exact ⟨by rw [HR.out]; rfl, HB.out⟩
        · have t1 : ¬ (70 : Int) < (m : Int) := by omega
          have HR : Hid (∀ k, k < i + 1 → (atA l k).L.length ≤ 70) := HKN.out (by omega)
          clear HN HKN hm
          go_wp2
          go_roundw
          case rel => exact ⟨i + 1, by omega, by go_num, HR.out, HB.out⟩
          case measure => simp [intOf]; omega
      · obtain rfl : i = n := by omega
        have lt2 : ¬ (i : Int) < (i : Int) := by omega
        have HR : Hid (R = true) := HYES.out HK.out
        clear HYES HNO HK HAT
        go_wp2
        go_ret
        exact ⟨by rw [HR.out]; rfl, HB.out⟩
set_option maxHeartbeats 4000000 in
theorem samep_any (w : World) (u v : Value) (l : List Pk) (hu : PS w u l) (hv : PS w v l) (hl : l.length ≤ 100000) :
    Calls Try.prog 24 #[u, v] w fun e w' => e = .returned (.bool true) ∧ Below w.heap.size w w' := by
  obtain ⟨a, c, rfl, -⟩ := id hu.shape
  obtain ⟨a', c', rfl, -⟩ := id hv.shape
  have HAT : Hid (∀ j, j < l.length → ∀ W, Below w.heap.size w W → ∃ b off b' off', a = some ⟨b, off, none⟩ ∧ a' = some ⟨b', off', none⟩ ∧ PC W b (off + j * 4) (atP l j) ∧ PC W b' (off' + j * 4) (atP l j)) := fun j hj W hb => by
    obtain ⟨b, off, e, q⟩ := (hu.kept hb).at j hj
    obtain ⟨b', off', e', q'⟩ := (hv.kept hb).at j hj
    exact ⟨b, off, b', off', e, e', q, q'⟩
  clear hu hv
  obtain ⟨n, hn⟩ : ∃ n, n = l.length := ⟨_, rfl⟩
  rw [← hn] at HAT hl ⊢
  clear hn
  have t0 : ((n : Int) != (n : Int)) = false := by simp
  go_enter Try.func24, Try.ntmps24
  go_wp2
  go_loopw [5] (fun u wr => ∃ j : Nat, j ≤ n ∧ u = .int .i64 j ∧ Below w.heap.size w wr) (fun u _ => n - (intOf u).toNat)
  case atStart => exact ⟨0, by omega, rfl, Below.refl _ _⟩
  case round =>
    obtain ⟨j, hj, rfl, bel⟩ := hrel
    have HB : Hid (Below w.heap.size w wr) := bel
    clear bel
    by_cases hjn : j < n
    · have lt2 : (j : Int) < (n : Int) := by omega
      obtain ⟨b, off, b', off', rfl, rfl, ⟨c0, c1, c2, c3⟩, d0, d1, d2, d3⟩ := HAT.out j hjn wr HB.out
      have E1 := neq_pk (atP l j)
      have E2 := fun (a b : Operand) => eqg_pk .neq (atP l j) a b
      unfold Pk.v at E1 E2
      generalize atP l j = p at *
      obtain ⟨pn, pt, pz, pa⟩ := p
      simp only at *
      clear HAT
      go_wp2_with fail
      go_quiet (fail)
      have BD : Hid (Below w.heap.size w (wr.drewN nq)) := HB.out.trans ((drw wr nq).mono HB.out.size)
      generalize wr.drewN nq = DW at *
      go_wp2
      go_roundw
      case rel => exact ⟨j + 1, by omega, by go_num, BD.out⟩
      case measure => simp [intOf]; omega
    · obtain rfl : j = n := by omega
      have lt2 : ¬ (j : Int) < (j : Int) := by omega
      clear HAT
      go_wp2
      go_ret
      exact ⟨rfl, HB.out⟩
end Go.Proofs.Ytamjbmbflllbfaa
namespace Go.Proofs.Ytamjbmbflllbfaa
open Go.RowKit Go.Shelf
set_option maxRecDepth 100000

/-- All that was there but a block stays. -/
structure Bt (g : Nat) (w w' : World) : Prop where
  os : w'.os = w.os
  tape : w'.tape = w.tape
  output : w'.output = w.output
  size : w.heap.size ≤ w'.heap.size
  block : ∀ k, k < w.heap.size → k ≠ g → w'.heap[k]? = w.heap[k]?
theorem Bt.refl (g : Nat) (w : World) : Bt g w w := ⟨rfl, rfl, rfl, Nat.le_refl _, fun _ _ _ => rfl⟩
theorem Bt.trans {g : Nat} {a b c : World} (h : Bt g a b) (k : Bt g b c) : Bt g a c :=
  ⟨k.os.trans h.os, k.tape.trans h.tape, k.output.trans h.output, Nat.le_trans h.size k.size, fun i hi hn => (k.block i (Nat.lt_of_lt_of_le hi h.size) hn).trans (h.block i hi hn)⟩
theorem Bt.of {g : Nat} {w w' : World} (h : Below w.heap.size w w') : Bt g w w' := ⟨h.os, h.tape, h.output, h.size, fun k hk _ => h.block k hk⟩
theorem Bt.drew (g : Nat) (W : World) : Bt g W W.drew := ⟨rfl, rfl, rfl, Nat.le_refl _, fun _ _ _ => rfl⟩
theorem Bt.row (g : Nat) (W : World) (cs : Array Value) : Bt g W (W.setRow g cs) := ⟨rfl, rfl, rfl, by simp, fun k _ hn => setRow_other _ _ _ _ hn⟩
theorem RP.bt {t : TypeId} {w w' : World} {B g : Nat} {v : Value} {l : List Pk} (h : RP t w B v l) (hb : Bt g w w') (hg : v.ownBlock ≠ some g) : RP t w' B v l := h.keep fun k _ hk hh => (hb.block k (blk_lt hh) (fun e => hg (e ▸ hk))).trans hh
theorem LS.bt {w w' : World} {B g q : Nat} {v : Value} {s : Lg} (h : LS w B g v s) (hb : Bt q w w') (h1 : g ≠ q) (h2 : v.ownBlock ≠ some q) : LS w' B g v s := ⟨(hb.block g (blk_lt h.bk) h1).trans h.bk, h.rs.bt hb h2, h.ok⟩
theorem LU.bt {w a b : World} {g q : Nat} {v v' : Value} (h : LU w a g v v') (hb : Bt q a b) (hq : w.heap.size ≤ q) : LU w b g v v' :=
  ⟨hb.os.trans h.os, hb.tape.trans h.tape, hb.output.trans h.output, Nat.le_trans h.size hb.size, fun k hk hn ho => (hb.block k (Nat.lt_of_lt_of_le hk h.size) (by omega)).trans (h.block k hk hn ho), h.own⟩
/-- A block of another kind is not the ledger's. -/
theorem blk_apart {w w' : World} {B g k : Nat} {v v' : Value} {s : Lg} {cs : Array Value} {t : TypeId} (h : LS w B g v s) (q : LU w w' g v v') (hk : w.heap[k]? = some (.cells cs t (0, 0))) (h1 : t ≠ 62) (h2 : t ≠ 48) : w'.heap[k]? = some (.cells cs t (0, 0)) := by
  refine (q.block k (blk_lt hk) (fun e => ?_) (fun e => ?_)).trans hk
  · have := h.bk
    unfold LB at this
    rw [← e, hk] at this
    simp at this
    exact h1 this.2
  · obtain ⟨cs', hh⟩ := h.rs.ty e
    rw [hk] at hh
    simp at hh
    exact h2 hh.2
theorem row_ne {t t' : TypeId} {w : World} {B k : Nat} {v : Value} {l : List Pk} {cs : Array Value} (h : RP t w B v l) (hk : w.heap[k]? = some (.cells cs t' (0, 0))) (hn : t ≠ t') : v.ownBlock ≠ some k := fun e => by
  obtain ⟨cs', hh⟩ := h.ty e
  rw [hk] at hh
  simp at hh
  exact hn hh.2.symm
theorem led_ne {w : World} {B g k : Nat} {v : Value} {s : Lg} {cs : Array Value} {t : TypeId} (h : LS w B g v s) (hk : w.heap[k]? = some (.cells cs t (0, 0))) (h1 : t ≠ 62) : g ≠ k := fun e => by
  have := h.bk
  unfold LB at this
  rw [e, hk] at this
  simp at this
  exact h1 this.2
theorem retDo {tmps : Array Value} {w : World} {q : Nat} {cs : Array Value} {b : Bool} (hp : tmps.getD 6 undef = .pointer (some ⟨q, 0, none⟩)) (he : tmps.getD 7 undef = .bool b) (hg : w.heap[q]? = some (.cells cs 31 (0, 0))) (hl : cs.size = 7) :
    (results Try.f12 tmps).run Try.prog w = .ok (.tuple #[.agg cs, .bool b]) w := by
  rw [results_cell_tmp rfl, hp, he]
  simp [asAddr, Result.andThen, ldD hg hl]
/-- The variables at the head. -/
theorem do_head (w : World) (x y z : Array Value) (t1 t2 t3 : TypeId) : ∃ W, W = ((w.alloc (.cells x t1)).alloc (.cells y t2)).alloc (.cells z t3) ∧ Below w.heap.size w W ∧ W.heap.size = w.heap.size + 3 ∧ W.heap[w.heap.size]? = some (.cells x t1 (0, 0)) ∧ W.heap[w.heap.size + 1]? = some (.cells y t2 (0, 0)) ∧ W.heap[w.heap.size + 2]? = some (.cells z t3 (0, 0)) := by
  have b0 := al_b w (.cells x t1)
  have b1 := al_b (w.alloc (.cells x t1)) (.cells y t2)
  have b2 := al_b ((w.alloc (.cells x t1)).alloc (.cells y t2)) (.cells z t3)
  have z1 : (w.alloc (.cells x t1)).heap.size = w.heap.size + 1 := by simp
  have z2 : ((w.alloc (.cells x t1)).alloc (.cells y t2)).heap.size = w.heap.size + 2 := by simp
  have n1 := heap_alloc_new w (.cells x t1)
  have n2 := heap_alloc_new (w.alloc (.cells x t1)) (.cells y t2)
  have n3 := heap_alloc_new ((w.alloc (.cells x t1)).alloc (.cells y t2)) (.cells z t3)
  rw [z1] at n2
  rw [z2] at n3
  exact ⟨_, rfl, b0.trans ((b1.mono b0.size).trans (b2.mono (Nat.le_trans b0.size b1.size))), by simp, blk_kept (blk_kept n1 b1 (by simp)) b2 (by simp; omega), blk_kept n2 b2 (by simp), n3⟩
theorem a8_cells {w : World} {b : Nat} {x0 x1 x2 x3 x4 x5 x6 x7 : Value} (h : w.heap[b]? = some (.cells #[x0, x1, x2, x3, x4, x5, x6, x7] 37 (0, 0))) :
    w.cell? ⟨b, 0, none⟩ = some x0 ∧ w.cell? ⟨b, 1, none⟩ = some x1 ∧ w.cell? ⟨b, 2, none⟩ = some x2 ∧ w.cell? ⟨b, 3, none⟩ = some x3 ∧ w.cell? ⟨b, 4, none⟩ = some x4 ∧ w.cell? ⟨b, 5, none⟩ = some x5 ∧ w.cell? ⟨b, 6, none⟩ = some x6 ∧ w.cell? ⟨b, 7, none⟩ = some x7 := by
  simp [World.cell?, h]
theorem ackG_len {s : Lg} (h : s.ok) (l : List Sp) (now : Int) : (ackG s l now).length ≤ 1024 := by
  unfold ackG
  split
  · exact Nat.le_trans (List.length_filter_le ..) h.ln
  · simp
theorem lostP_len {s : Lg} (h : s.ok) (now late : Int) : (lostP s now late).length ≤ 1024 := by
  unfold lostP
  split
  · exact Nat.le_trans (List.length_filter_le ..) h.ln
  · simp
theorem lostL_g (s : Lg) (now late : Int) : (lostL s now late).g = s.g := by
  unfold lostL
  split <;> rfl
theorem sendL_g (s : Lg) (p : Pk) : (sendL s p).g = s.g := by
  unfold sendL
  split <;> rfl
/-- What a call makes of a ledger. -/
def nxS (s : Lg) (q : Atc) : Lg := if q.k % 5 = 3 then ackN s q.L q.n else if q.k % 5 = 4 then lostL s q.n q.l else sendL s q.p
theorem nxS_ok {s : Lg} (h : s.ok) (q : Atc) : (nxS s q).ok := by
  unfold nxS
  split
  · exact ackN_ok h _ _
  · split
    · exact lostL_ok h _ _
    · exact sendL_ok h _
/-- Both ledgers, side by side. -/
structure TW (w : World) (B g : Nat) (v dv : Value) (k : Int) (d : Pk) (s : Lg) : Prop where
  ls : LS w B g v s
  ds : DS w B dv k d s
theorem TW.below {w w' : World} {B g : Nat} {v dv : Value} {k : Int} {d : Pk} {s : Lg} (h : TW w B g v dv k d s) (hb : Below w.heap.size w w') : TW w' B g v dv k d s := ⟨h.ls.below hb, h.ds.below hb⟩
theorem TW.bt {w w' : World} {B g q : Nat} {v dv : Value} {k : Int} {d : Pk} {s : Lg} {cs : Array Value} (h : TW w B g v dv k d s) (hb : Bt q w w') (hq : w.heap[q]? = some (.cells cs 31 (0, 0))) : TW w' B g v dv k d s :=
  ⟨h.ls.bt hb (led_ne h.ls hq (by decide)) (row_ne h.ls.rs hq (by decide)), h.ds.rs.bt hb (row_ne h.ds.rs hq (by decide)), h.ds.dk⟩
end Go.Proofs.Ytamjbmbflllbfaa
namespace Go.Proofs.Ytamjbmbflllbfaa
open Go.RowKit Go.Shelf
set_option maxRecDepth 100000

/-- What was sent is what was told and what is open. -/
structure Onc (s : Lg) (S T : List Int) : Prop where
  pm : S.Perm (T ++ s.o.map Pk.n)
  nd : S.Nodup
  le : ∀ x ∈ S, x ≤ s.n
theorem onc0 : Onc lg0 [] [] := ⟨List.Perm.refl _, List.nodup_nil, by simp⟩
theorem Onc.len {s : Lg} {S T : List Int} (h : Onc s S T) : S.length = T.length + s.o.length := by
  have := h.pm.length_eq
  simpa using this
theorem Onc.sent {s : Lg} {S T : List Int} (h : Onc s S T) (p : Pk) (he : sendE s p = 0) : Onc (sendL s p) (S ++ [p.n]) T := by
  have hm : mgo s p = true := by
    cases e : mgo s p with
    | true => rfl
    | false => have := (sendE_no e).1; omega
  have hl : s.o.length ≠ 1024 := fun e => by have := (sendE_full hm e).1; omega
  obtain ⟨-, -, a, -⟩ := mgo_iff.1 hm
  rw [(sendE_yes hm hl).2]
  refine ⟨?_, ?_, fun x hx => ?_⟩
  · simp only [List.map_append, List.map_cons, List.map_nil, ← List.append_assoc]
    exact h.pm.append_right _
  · refine List.nodup_append.2 ⟨h.nd, by simp, fun x hx y hy => ?_⟩
    have := h.le x hx
    simp at hy
    omega
  · simp only
    rcases List.mem_append.1 hx with hx | hx
    · have := h.le x hx
      omega
    · simp at hx
      omega
theorem Onc.split {s s' : Lg} {S T : List Int} (h : Onc s S T) (f : Pk → Bool) (ho : s'.o = s.o.filter (fun p => !f p)) (hn : s'.n = s.n) : Onc s' S (T ++ (s.o.filter f).map Pk.n) := by
  refine ⟨?_, h.nd, fun x hx => by rw [hn]; exact h.le x hx⟩
  rw [ho, List.append_assoc, ← List.map_append]
  exact h.pm.trans (List.Perm.append_left _ ((List.filter_append_perm f s.o).symm.map _))
theorem Onc.ack {s : Lg} {S T : List Int} (h : Onc s S T) (l : List Sp) (now : Int) : Onc (ackN s l now) S (T ++ (ackG s l now).map Pk.n) := by
  unfold ackN ackG
  split
  · exact h.split _ rfl rfl
  · rw [List.map_nil, List.append_nil]
    exact h
theorem Onc.lost {s : Lg} {S T : List Int} (h : Onc s S T) (now late : Int) : Onc (lostL s now late) S (T ++ (lostP s now late).map Pk.n) := by
  unfold lostL lostP
  split
  · exact h.split _ rfl rfl
  · rw [List.map_nil, List.append_nil]
    exact h
theorem Onc.tnd {s : Lg} {S T : List Int} (h : Onc s S T) : T.Nodup := (List.nodup_append.1 (h.pm.nodup_iff.1 h.nd)).1
theorem Onc.one {s : Lg} {S T : List Int} (h : Onc s S T) {x : Int} (hx : x ∈ T) : S.count x = 1 := by
  rw [h.nd.count, if_pos (h.pm.mem_iff.2 (List.mem_append_left _ hx))]
abbrev atI (l : List Int) (i : Nat) : Int := l.getD i 0
theorem atI_eq (l : List Int) (i : Nat) (h : i < l.length) : atI l i = l[i] := by simp [atI, List.getD, List.getElem?_eq_getElem h]
theorem count_take (l : List Int) (i : Nat) (h : i < l.length) (x : Int) : ((l.take (i + 1)).count x) = (l.take i).count x + (if atI l i = x then 1 else 0) := by
  rw [List.take_succ_eq_append_getElem h, List.count_append, ← atI_eq l i h, List.count_singleton]
  simp only [beq_iff_eq]
theorem nd_ne {l : List Int} (h : l.Nodup) {i k : Nat} (hi : i < l.length) (hk : k < i) : atI l k ≠ atI l i := fun e => by
  rw [atI_eq l k (by omega), atI_eq l i hi] at e
  exact List.pairwise_iff_getElem.1 h k i (by omega) hi hk e
/-- A row of numbers. -/
def ic (x : Int) : List Value := [.int .i64 x]
theorem ic_cl (l : List Int) : CL 1 (l.map ic) := fun c hc => by
  obtain ⟨x, _, rfl⟩ := List.mem_map.1 hc
  exact ⟨rfl, fun v hv => by simp only [ic, List.mem_cons, List.not_mem_nil, or_false] at hv; rcases hv with rfl; rfl⟩
def IQ (w : World) (B : Nat) (v : Value) (l : List Int) : Prop := RI 3 1 w B v (l.map ic)
theorem IQ.nil (w : World) (B : Nat) : IQ w B (.slice none 0 0) [] := RI.nil 3 1 w B
theorem IQ.shape {w : World} {B : Nat} {v : Value} {l : List Int} (h : IQ w B v l) : ∃ a c, v = .slice a l.length c := by
  obtain ⟨a, c, e, -⟩ := h.is.shape
  rw [List.length_map] at e
  exact ⟨a, c, e⟩
theorem IQ.shape' {w : World} {B : Nat} {v : Value} {l : List Int} (h : IQ w B v l) : ∃ a n c, v = .slice a n c ∧ n = l.length := by
  obtain ⟨a, c, e⟩ := h.shape
  exact ⟨a, _, c, e, rfl⟩
theorem IQ.at {w : World} {B : Nat} {a : Option Addr} {n c : Nat} {l : List Int} (h : IQ w B (.slice a n c) l) (i : Nat) (hi : i < l.length) : ∃ b off, a = some ⟨b, off, none⟩ ∧ w.cell? ⟨b, off + i, none⟩ = some (.int .i64 (atI l i)) := by
  obtain ⟨b, off, e, hr⟩ := h.is.at i (by rw [List.length_map]; exact hi)
  refine ⟨b, off, e, ?_⟩
  rw [atC_eq _ _ (by rw [List.length_map]; exact hi), List.getElem_map] at hr
  have := hr 0 _ rfl
  rw [atI_eq l i hi]
  simpa using this
theorem IQ.below {w w' : World} {B : Nat} {v : Value} {l : List Int} (h : IQ w B v l) (hb : Below w.heap.size w w') : IQ w' B v l := RI.below h hb
theorem IQ.ty {w : World} {B : Nat} {v : Value} {l : List Int} (h : IQ w B v l) {k : Nat} (hk : v.ownBlock = some k) : ∃ cs, w.heap[k]? = some (.cells cs 3 (0, 0)) := by
  rcases h.1.2 with ⟨rfl, _⟩ | ⟨g, cap, cur, rfl, _, hh, _⟩
  · cases hk
  · obtain rfl : g = k := by simpa [Value.ownBlock] using hk
    exact ⟨_, hh⟩
theorem IQ.lt {w : World} {B : Nat} {v : Value} {l : List Int} (h : IQ w B v l) {k : Nat} (hk : v.ownBlock = some k) : k < w.heap.size := by
  obtain ⟨cs, hh⟩ := h.ty hk
  exact blk_lt hh
theorem IQ.base {w : World} {B : Nat} {v : Value} {l : List Int} (h : IQ w B v l) {k : Nat} (hk : v.ownBlock = some k) : B ≤ k := own_base h.1 k hk
theorem IQ.keep {w w' : World} {B : Nat} {v : Value} {l : List Int} (h : IQ w B v l) (hk : ∀ k cs, v.ownBlock = some k → w.heap[k]? = some (.cells cs 3 (0, 0)) → w'.heap[k]? = some (.cells cs 3 (0, 0))) : IQ w' B v l := by
  obtain ⟨⟨h1, h2⟩, h3⟩ := h
  refine ⟨⟨h1, ?_⟩, h3⟩
  rcases h2 with h2 | ⟨g, cap, cur, rfl, hg, hh, r⟩
  · exact .inl h2
  · exact .inr ⟨g, cap, cur, rfl, hg, hk g cur rfl hh, r⟩
/-- A call on the ledger lets it be. -/
theorem IQ.lu {w w' : World} {B B' g : Nat} {v v' u : Value} {s : Lg} {l : List Int} (h : IQ w B u l) (k : LS w B' g v s) (q : LU w w' g v v') : IQ w' B u l := h.keep fun _ _ _ hh => blk_apart k q hh (by decide) (by decide)
theorem IQ.grownX {w w' : World} {B : Nat} {v u : Value} {l : List Int} (k : IQ w B u l) (g : w.grownBy w' v.ownBlock) (hd : Ap u v) : IQ w' B u l :=
  k.keep fun i _ hi hh => (g.block i (blk_lt hh) (fun e => hd i hi e.symm)).trans hh
theorem Ap.grownN {w : World} {B : Nat} {u v v' : Value} {l : List Int} (h : Ap u v) (k : IQ w B u l) (ow : v'.ownBlock = v.ownBlock ∨ ∃ j, v'.ownBlock = some j ∧ w.heap.size ≤ j) : Ap u v' := fun i hi hv => by
  rcases ow with o | ⟨j, o, hj⟩
  · exact h i hi (o ▸ hv)
  · rw [o] at hv
    cases hv
    have := k.lt hi
    omega
/-- A ledger, and packets, where a row of numbers grows. -/
theorem LS.grownN {w w' : World} {B B' g : Nat} {v u : Value} {s : Lg} {l : List Int} (h : LS w B g v s) (k : IQ w B' u l) (gr : w.grownBy w' u.ownBlock) : LS w' B g v s := by
  refine ⟨(gr.block g (blk_lt h.bk) (fun e => ?_)).trans h.bk, h.rs.keep fun i _ hi hh => (gr.block i (blk_lt hh) (fun e => ?_)).trans hh, h.ok⟩
  · obtain ⟨cs, hh⟩ := k.ty e.symm
    exact led_ne h hh (by decide) rfl
  · obtain ⟨cs, hh'⟩ := k.ty e.symm
    exact row_ne h.rs hh' (by decide) hi
theorem RP.grownN {t : TypeId} {w w' : World} {B B' : Nat} {v u : Value} {l : List Pk} {m : List Int} (h : RP t w B v l) (ht : t ≠ 3) (k : IQ w B' u m) (gr : w.grownBy w' u.ownBlock) : RP t w' B v l :=
  h.keep fun i _ hi hh => (gr.block i (blk_lt hh) (fun e => by obtain ⟨cs, hh'⟩ := k.ty e.symm; exact row_ne h hh' ht hi)).trans hh
theorem infoI : (Try.prog.info? 3).map (fun i => (i.zero, i.size, i.bytes)) = some (some (.int .i64 0), 1, 8) := by kernel_rfl
theorem flatI (l : List Int) : (l.map ic).flatten.length = l.length * 1 := by rw [(ic_cl l).flat, List.length_map]
theorem wpList_append_nr {ops : Array Oper} {rest : List Oper} {o : Oper} {a : Act} {w : World} {Q : Exit → Act → World → Prop} (hgd : o.guard = none) (s x : Operand) (ho : o.op = .call { callee := .builtin .append, args := #[s, x], argTypes := #[56, 56] })
    (B : Nat) (v : Value) (l : List Int) (hs : a.eval s = v) (hown : IQ w B v l) (g : Nat) (p : Int) (hx : a.eval x = .slice (some ⟨g, 0, none⟩) 1 1) (hm : w.rangeAt g 0 (ic p)) (hbig : l.length ≤ 100000) (hbase : B ≤ w.heap.size)
    (h : ∀ v' w', IQ w' B v' (l ++ [p]) → w.grownBy w' v.ownBlock → (v'.ownBlock = v.ownBlock ∨ ∃ j, v'.ownBlock = some j ∧ w.heap.size ≤ j) → wpList Try.prog ops Q rest (a.put o.dst v') w') : wpList Try.prog ops Q (o :: rest) a w := by
  obtain ⟨i0, hi, hz0, hz1, hz2⟩ := info_parts infoI
  have hown' : w.ownsRow B 3 1 v l.length (l.map ic).flatten := by have := hown.1; rwa [List.length_map] at this
  refine wpList_append_lies w hgd s x 56 ho B 3 i0 (.int .i64 0) 1 8 Try.underlying56 hi hz0 hz1 hz2 rfl (by decide) v l.length (l.map ic).flatten hs hown' ⟨g, 0, none⟩ 1 1 (ic p) hx rfl (fun j u hj => by rw [Addr.add_lit]; exact hm j u hj) (by simp [ic, Value.oneCell']) (by omega) (by unfold maxLen; omega) (by omega) hbase _ rfl ?_
  intro g' cap w' o3 g3 hv3 _
  refine h _ w' ⟨?_, ic_cl _⟩ g3 (hv3.imp (fun e => e.symm) (fun e => ⟨g', rfl, by rw [e]; exact Nat.le_refl _⟩))
  rw [List.length_map, List.length_append, List.length_singleton, List.map_append, List.flatten_append]
  simpa using o3
theorem sizeAc : (Try.prog.info? 37).map (·.size) = some 8 := by kernel_rfl
theorem act_one (k n t z : Int) (a : Bool) (ua : Option Addr) (un uc : Nat) (x y : Int) : (#[.int .u8 k, .int .i64 n, .int .i64 t, .int .i64 z, .bool a, .slice ua un uc, .int .i64 x, .int .i64 y] : Array Value).all (·.oneCell') = true := by simp [Value.oneCell']
theorem take_map (T : List Int) (G : List Pk) (j : Nat) (h : j < G.length) : T ++ (G.take (j + 1)).map Pk.n = T ++ (G.take j).map Pk.n ++ [(atP G j).n] := by
  rw [List.take_succ_eq_append_getElem h, List.map_append, atP_eq G j h, List.append_assoc]
  rfl
theorem ic_new (w : World) (x : Int) : (w.alloc (.cells #[.int .i64 x] 3)).rangeAt w.heap.size 0 (ic x) := blk_range (cs := ic x) (heap_alloc_new _ _)
end Go.Proofs.Ytamjbmbflllbfaa
