/-
  Texts on ShWrite, ShSum, ShOf, ShEq, in one.
-/
import Derived.Test.YtdnbiibijoggoaaGreatDoorSb
import Derived.Laws.StructEq
namespace Go.Proofs.YtdnbiibijoggoaaGreatDoor.Sh
open Go.RowKit
set_option maxRecDepth 100000

/-- A slice that does not lie in block g. -/
def Apart (g : Nat) (v : Value) : Prop := ∀ a l c, v = .slice (some a) l c → 0 < l → a.block ≠ g

theorem upto_next (T : List Int) (k : Nat) : Pl.comp (Pl.upto T k) ((T.drop (64 * k)).take 64) = Pl.upto T (k + 1) := (Pl.upto_succ T k).symm
theorem ok_upto (T : List Int) (k : Nat) : Pl.ok (Pl.upto T k) := Pl.ok_blocks k _ _ Pl.ok_init

theorem hsof_end {w : World} {G : Nat} {T R : List Int} {k : Nat} (hk : k = T.length / 64) (hh : Hs w G (Pl.words (Pl.upto T k)) (over R 0 ((T.drop (64 * k)).take 64)) T.length) (hb : Pl.Byt R) (hR : R.length = 64) (hT : Pl.Byt (T.drop (64 * k))) : HsOf w G T := by
  subst hk
  have hl : (T.drop (64 * (T.length / 64))).length = T.length % 64 := by rw [List.length_drop]; omega
  have h64 : T.length % 64 < 64 := Nat.mod_lt _ (by omega)
  rw [List.take_of_length_le (by omega)] at hh
  refine ⟨_, hh, byt_over hb hT (by omega), fun i hi => ?_⟩
  rw [over_get _ _ _ _ (by omega), if_pos (by omega), getD_drop]
  simp

/-- A slice's length. -/
def lenOf' : Value → Nat
  | .slice _ n _ => n
  | _ => 0

set_option maxHeartbeats 2000000 in
set_option maxRecDepth 100000 in
theorem write_any (G : Nat) (l : List Int) (v : Value) (xs : List Int) (w : World) (ht : Tab w) (hh : HsOf w G l) (sl : Sl w v xs) (ap : Apart G v) (hg : 3 ≤ G) (hbig : l.length + xs.length ≤ 1000000000000000000) :
    Calls Tryz.prog 76 #[.pointer (some ⟨G, 0, none⟩), v] w fun e w' => (∃ u, e = .returned u) ∧ HsOf w' G (l ++ xs) ∧ But G w w' := by
  obtain ⟨R, h1, hbR, htl⟩ := hh
  have hnum := h1.num
  have hfz := h1.frozen 72
  have hL : 64 * (l.length / 64) + l.length % 64 = l.length := Nat.div_add_mod ..
  have hH : l.length % 64 < 64 := Nat.mod_lt _ (by omega)
  have e1 : Int.tmod (l.length : Int) 64 = ((l.length % 64 : Nat) : Int) := by rw [Int.tmod_eq_emod_of_nonneg (by omega)]; omega
  have HW1 : Hid (Hs (w.setCell ⟨G, 72, none⟩ (.int .i64 ((l.length + xs.length : Nat) : Int))) G (Pl.words (Pl.absorb l)) R (l.length + xs.length)) := h1.setNum _
  have BW1 : Hid (But G w (w.setCell ⟨G, 72, none⟩ (.int .i64 ((l.length + xs.length : Nat) : Int)))) := But.set _ _ _ _
  have AP : Hid (Apart G v) := ap
  have SV : Hid (Sl (w.setCell ⟨G, 72, none⟩ (.int .i64 ((l.length + xs.length : Nat) : Int))) v xs) := sl.but BW1.out ap
  have HT : Hid (Tab w) := ht
  have hxb : Pl.Byt xs := sl.bytes
  have HXB : Hid (Pl.Byt xs) := hxb
  have HRB : Hid (Pl.Byt R) := hbR
  have HTL : Hid (∀ i, i < l.length % 64 → R.getD i 0 = l.getD (64 * (l.length / 64) + i) 0) := htl
  have HR : Hid (R.length = 64) := h1.2.2
  obtain ⟨a, cap, rfl, k1, k2, k3, k4⟩ := sl
  have hcm : cap ≤ 9223372036854775807 := by unfold maxLen at k2; omega
  obtain ⟨T, hT⟩ : ∃ T, T = l ++ xs := ⟨_, rfl⟩
  have HTT : Hid (T = l ++ xs) := hT
  have HTE : Hid (l ++ xs = T) := hT.symm
  have HTn : Hid (T.length = l.length + xs.length) := by unfold Hid; rw [hT, List.length_append]
  obtain ⟨K0, hK0⟩ : ∃ K0, K0 = l.length / 64 := ⟨_, rfl⟩
  have HK0 : Hid (K0 = l.length / 64) := hK0
  have HAB : Hid (Pl.absorb l = Pl.upto T K0) := by unfold Hid; rw [Pl.absorb_eq, hT, hK0]; exact (Pl.upto_append l xs _ (by omega)).symm
  have HDR : Hid (l.length % 64 = 0 → T.drop (64 * K0) = xs) := fun h0 => by
    rw [hT, hK0, List.drop_append, List.drop_eq_nil_of_le (by omega)]
    simp [show 64 * (l.length / 64) - l.length = 0 by omega]
  have HDR2 : Hid (∀ t, t = 64 - l.length % 64 → 0 < l.length % 64 → T.drop (64 * (K0 + 1)) = xs.drop t) := fun t e h0 => by
    rw [hT, hK0, e, List.drop_append, List.drop_eq_nil_of_le (by omega)]
    simp only [List.nil_append]
    congr 1
    omega
  obtain ⟨L, hLL⟩ : ∃ L, L = l.length := ⟨_, rfl⟩
  obtain ⟨m, hm⟩ : ∃ m, m = xs.length := ⟨_, rfl⟩
  have HLL : Hid (L = l.length) := hLL
  have HM : Hid (m = xs.length) := hm
  rw [← hLL, ← hm] at HW1 BW1 SV HTn hbig
  rw [← hLL] at hnum e1 hL hH HTL HDR HDR2 HK0
  rw [← hm] at k1 k4 AP ⊢
  obtain ⟨hd, hhd⟩ : ∃ hd, hd = L % 64 := ⟨_, rfl⟩
  have HHD : Hid (hd = L % 64) := hhd
  rw [← hhd] at e1 hL hH HTL HDR HDR2
  rw [HTE.out]
  have QQ : Hid (l ++ xs = T) := HTE.out
  obtain ⟨w1, hw1⟩ : ∃ w1, w1 = w.setCell ⟨G, 72, none⟩ (.int .i64 ((L + m : Nat) : Int)) := ⟨_, rfl⟩
  have hset : w.setCell ⟨G, 72, none⟩ (.int .i64 ((L : Int) + (m : Int))) = w1 := by rw [← Int.natCast_add]; exact hw1.symm
  rw [← hw1] at HW1 BW1 SV
  clear hT hK0 hLL hm hhd hw1 ht hxb hbR htl h1 ap k4
  have hL64 : 64 * K0 + hd = L := by have := HK0.out; have := HHD.out; omega
  clear hL
  obtain ⟨n, hn⟩ : ∃ n, n = L + m := ⟨_, rfl⟩
  rw [← hn] at HW1 HTn
  have HN : Hid (n = L + m) := hn
  clear hn
  by_cases h0 : hd = 0
  · subst h0
    have lt0 : ¬ (0 : Int) < ((0 : Nat) : Int) := by omega
    clear lt0
    go_enter Tryz.func76, Tryz.ntmps76
    go_wp2_with fail
    go_loopw [1] (fun b wr => ∃ k : Nat, 64 * k ≤ n ∧ L ≤ 64 * k ∧ Sl wr b (T.drop (64 * k)) ∧ Hs wr G (Pl.words (Pl.upto T k)) R n ∧ But G w wr ∧ Apart G b) (fun b _ => lenOf' b)
    case atStart => exact ⟨K0, by have := HN.out; omega, by omega, by rw [HDR.out (by trivial)]; exact SV.out, by rw [← HAB.out]; exact HW1.out, BW1.out, AP.out⟩
    case round =>
      obtain ⟨k, hk, hLk, sl, hs, hb, ap⟩ := hrel
      have hdl : (T.drop (64 * k)).length = n - 64 * k := by rw [List.length_drop, HTn.out]
      have HSL : Hid (Sl wr u1 (T.drop (64 * k))) := sl
      have HHS : Hid (Hs wr G (Pl.words (Pl.upto T k)) R n) := hs
      have HBB : Hid (But G w wr) := hb
      have HAP : Hid (Apart G u1) := ap
      have HTB : Hid (Pl.Byt (T.drop (64 * k))) := sl.bytes
      obtain ⟨ad, cp, hv, q1, q2, q3, q4⟩ := sl
      rw [hdl] at hv q1 q4
      have qm : cp ≤ 9223372036854775807 := by unfold maxLen at q2; omega
      clear hs hb ap
      by_cases hlt : 64 ≤ n - 64 * k
      · rcases q4 with q4 | ⟨-, bb, off, rfl, -, -, -, -⟩
        · omega
        subst hv
        have sub : Hid (Sl wr (.slice (some ⟨bb, off, none⟩) 64 cp) ((T.drop (64 * k)).take 64)) := HSL.out.take 64 (by omega)
        have cw := work_any G (Pl.upto T k) R n _ _ wr (HT.out.but HBB.out hg) HHS.out (ok_upto T k) sub.out (by rw [List.length_take, hdl]; omega)
        rw [upto_next] at cw
        have lt1 : (64 : Int) ≤ ((n - 64 * k : Nat) : Int) := by omega
        have lt2 : (64 : Int) ≤ (cp : Int) := by omega
        have lt3 : 64 ≤ cp := by omega
        have DR : Hid (∀ w2, But G wr w2 → Sl w2 (.slice (some ⟨bb, off + 64, none⟩) (n - 64 * k - 64) (cp - 64)) (T.drop (64 * (k + 1)))) := fun w2 b2 => by
          have := (HSL.out.but b2 HAP.out).drop 64 (by omega)
          rw [List.drop_drop] at this
          exact this
        have DA : Hid (Apart G (.slice (some ⟨bb, off + 64, none⟩) (n - 64 * k - 64) (cp - 64))) := fun a' l' c' e' hl' => by
          cases e'
          exact HAP.out ⟨bb, off, none⟩ _ _ rfl (by omega)
        have DZ : Hid (cp = 64 → ∀ w2, Sl w2 (.slice (some ⟨bb, off, none⟩) (n - 64 * k - 64) 0) (T.drop (64 * (k + 1))) ∧ Apart G (.slice (some ⟨bb, off, none⟩) (n - 64 * k - 64) 0)) := fun hc w2 => by
          have e0 : n - 64 * k - 64 = 0 := by omega
          have en : T.drop (64 * (k + 1)) = [] := List.drop_eq_nil_of_le (by rw [HTn.out]; omega)
          rw [e0, en]
          exact ⟨⟨_, _, rfl, by simp, by unfold maxLen; omega, (fun h => by cases h), .inl rfl⟩, fun a' l' c' e' hl' => by cases e'; omega⟩
        obtain ⟨d, hd'⟩ : ∃ d, d = n - 64 * k := ⟨_, rfl⟩
        have HD : Hid (d = n - 64 * k) := hd'
        rw [← hd'] at lt1 DR DA DZ ⊢
        clear hd' hlt
        go_wp2_with fail
        refine cw.mono ?_
        rintro e w2 ⟨⟨r2, rfl⟩, hs2, hb2⟩
        have HS2 : Hid (Hs w2 G (Pl.words (Pl.upto T (k + 1))) R n) := hs2
        have HB2 : Hid (But G wr w2) := hb2
        clear cw hs2 hb2
        by_cases hc : cp = 64
        · have hz := DZ.out hc w2
          have HZ : Hid (Sl w2 (.slice (some ⟨bb, off, none⟩) (d - 64) 0) (T.drop (64 * (k + 1))) ∧ Apart G (.slice (some ⟨bb, off, none⟩) (d - 64) 0)) := hz
          clear hz
          go_wp2
          go_roundw
          case rel => exact ⟨k + 1, by have := HD.out; omega, by omega, HZ.out.1, HS2.out, HBB.out.trans HB2.out, HZ.out.2⟩
          case measure => have := HD.out; simp [lenOf']; omega
        · have hc' : ¬ cp - 64 = 0 := by omega
          go_wp2
          go_roundw
          case rel => exact ⟨k + 1, by have := HD.out; omega, by omega, DR.out _ HB2.out, HS2.out, HBB.out.trans HB2.out, DA.out⟩
          case measure => have := HD.out; simp [lenOf']; omega
      · have hke : k = n / 64 := by omega
        have HKE : Hid (k = T.length / 64) := by unfold Hid; rw [HTn.out]; exact hke
        have lt1 : ¬ (64 : Int) ≤ ((n - 64 * k : Nat) : Int) := by omega
        clear hdl q1 q3 q4 hke
        obtain ⟨d, hd'⟩ : ∃ d, d = n - 64 * k := ⟨_, rfl⟩
        rw [← hd'] at lt1 hv
        subst hv
        clear hd' hlt
        go_wp2_with (refine wpList_copy_hs rfl _ _ rfl G 0 64 (by omega) rfl _ (T.drop (64 * k)) rfl HSL.out (Pl.words (Pl.upto T k)) R n HHS.out (Hid.out ?_))
        unfold Hid
        intro w2 hs2 hb2
        have HS2 : Hid (HsOf w2 G T) := hsof_end HKE.out (by rw [HTn.out]; exact hs2) HRB.out HR.out HTB.out
        have HB2 : Hid (But G w w2) := HBB.out.trans hb2
        clear hs2 hb2
        go_wp2
        refine bodyPost_end (v := .tuple #[]) (by simp [results, Tryz.results76]) rfl ⟨⟨_, rfl⟩, HS2.out, HB2.out⟩
  · have lt0 : (0 : Int) < (hd : Int) := by omega
    have hne : ¬ hd = 64 := by omega
    have hne2 : ¬ 64 = hd := by omega
    have le1 : (hd : Int) ≤ 64 := by omega
    have le2 : hd ≤ 64 := by omega
    by_cases hB : hd + m < 64
    · have mn : min xs.length (64 - hd) = m := by rw [← HM.out]; omega
      have hlt : (hd : Int) + (m : Int) < 64 := by omega
      go_enter Tryz.func76, Tryz.ntmps76
      go_wp2_with (refine wpList_copy_hs rfl _ _ rfl G hd (64 - hd) le2 rfl _ xs rfl SV.out (Pl.words (Pl.absorb l)) R n HW1.out (Hid.out ?_))
      unfold Hid
      intro w2 hs2 hb2
      have HS2 : Hid (HsOf w2 G T) := by
        unfold Hid
        rw [HTT.out]
        have e3 : l.length % 64 = hd := by rw [HHD.out, HLL.out]
        refine ⟨_, ?_, byt_over HRB.out (bytes_take _ _ HXB.out) (by rw [List.length_take, HR.out]; omega), held_more HR.out (by rw [e3, ← HLL.out]; exact HTL.out) (by rw [e3, ← HM.out]; exact hB)⟩
        rw [absorb_held (by rw [e3, ← HM.out]; exact hB), List.length_append, ← HLL.out, ← HM.out, ← HN.out, show L % 64 = hd from HHD.out.symm]
        exact hs2
      have HB2 : Hid (But G w w2) := BW1.out.trans hb2
      clear hs2 hb2 hset
      go_wp2
      refine bodyPost_ret (v := .tuple #[]) (by simp [results, Tryz.results76]) rfl ⟨⟨_, rfl⟩, HS2.out, HB2.out⟩
    · obtain ⟨tk, htk⟩ : ∃ tk, tk = 64 - hd := ⟨_, rfl⟩
      have mn : min xs.length tk = tk := by rw [← HM.out]; omega
      have e3 : l.length % 64 = hd := by rw [HHD.out, HLL.out]
      have HR1 : Hid (over R hd (xs.take tk) = (T.drop (64 * K0)).take 64) := by
        have := block_full (xs := xs) HR.out (by rw [e3, ← HLL.out]; exact HTL.out) (by rw [e3, ← HM.out]; omega)
        rw [e3, ← htk, HTE.out, ← HLL.out, ← HK0.out] at this
        exact this
      have HRL : Hid ((over R hd (xs.take tk)).length = 64) := by unfold Hid; rw [over_len, HR.out]
      have HRB1 : Hid (Pl.Byt (over R hd (xs.take tk))) := byt_over HRB.out (bytes_take _ _ HXB.out) (by rw [List.length_take, HR.out]; omega)
      generalize hR1 : over R hd (xs.take tk) = R1 at *
      obtain ⟨a', cap', e', -, -, -, q4⟩ := SV.out
      rw [← HM.out] at e' q4
      cases e'
      rcases q4 with q4 | ⟨-, bb, off, rfl, -, -, -, -⟩
      · omega
      have hlt : ¬ (hd : Int) + (tk : Int) < 64 := by omega
      have hs64 : (hd : Int) + (tk : Int) = 64 := by omega
      have lt1 : (tk : Int) ≤ (m : Int) := by omega
      have lt2 : (tk : Int) ≤ (cap : Int) := by omega
      have lt3 : tk ≤ cap := by omega
      have lt4 : tk ≤ m := by omega
      have DR : Hid (∀ w2, But G w1 w2 → Sl w2 (.slice (some ⟨bb, off + tk, none⟩) (m - tk) (cap - tk)) (T.drop (64 * (K0 + 1)))) := fun w2 b2 => by
        have := (SV.out.but b2 AP.out).drop tk (by omega)
        rw [HDR2.out tk htk (by omega)]
        exact this
      have DA : Hid (Apart G (.slice (some ⟨bb, off + tk, none⟩) (m - tk) (cap - tk))) := fun a' l' c' e' hl' => by
        cases e'
        exact AP.out ⟨bb, off, none⟩ _ _ rfl (by omega)
      have DZ : Hid (cap = tk → ∀ w2, Sl w2 (.slice (some ⟨bb, off, none⟩) 0 0) (T.drop (64 * (K0 + 1))) ∧ Apart G (.slice (some ⟨bb, off, none⟩) 0 0)) := fun hc w2 => by
        have en : T.drop (64 * (K0 + 1)) = [] := List.drop_eq_nil_of_le (by rw [HTn.out]; have := HN.out; omega)
        rw [en]
        exact ⟨⟨_, _, rfl, by simp, by unfold maxLen; omega, (fun h => by cases h), .inl rfl⟩, fun a' l' c' e' hl' => by cases e'; omega⟩
      have HHR : Hid (hd + tk = 64) := by unfold Hid; omega
      have HTK : Hid (tk = 64 - hd) := htk
      have HMX : Hid (64 - hd = tk) := htk.symm
      have HR1e : Hid (over R hd (xs.take (64 - hd)) = R1) := by unfold Hid; rw [HMX.out]; exact hR1
      have mn2 : min xs.length (64 - hd) = tk := by rw [HMX.out]; exact mn
      clear htk hR1 mn e3
      go_enter Tryz.func76, Tryz.ntmps76
      go_wp2_with (refine wpList_copy_hs rfl _ _ rfl G hd (64 - hd) le2 rfl _ xs rfl SV.out (Pl.words (Pl.absorb l)) R n HW1.out (Hid.out ?_))
      unfold Hid
      intro w2 hs2 hb2
      rw [HR1e.out, HAB.out] at hs2
      have cw := work_any G (Pl.upto T K0) R1 n _ _ w2 (HT.out.but (BW1.out.trans hb2) hg) hs2 (ok_upto T K0) (sl_rest hs2 HRB1.out) HRL.out
      rw [show Pl.comp (Pl.upto T K0) R1 = Pl.upto T (K0 + 1) by rw [HR1.out]; exact upto_next T K0] at cw
      have HB2 : Hid (But G w1 w2) := hb2
      clear hs2 hb2 hset mn2
      go_wp2_with fail
      refine cw.mono ?_
      rintro e w3 ⟨⟨r3, rfl⟩, hs3, hb3⟩
      have HS3 : Hid (Hs w3 G (Pl.words (Pl.upto T (K0 + 1))) R1 n) := hs3
      have HB3 : Hid (But G w1 w3) := HB2.out.trans hb3
      clear cw hs3 hb3 HB2
      by_cases hc : cap = tk
      · have hz := DZ.out hc w3
        have HZ : Hid (Sl w3 (.slice (some ⟨bb, off, none⟩) 0 0) (T.drop (64 * (K0 + 1))) ∧ Apart G (.slice (some ⟨bb, off, none⟩) 0 0)) := hz
        clear hz
        subst hc
        go_wp2_with fail
        go_loopw [1] (fun b wr => ∃ k : Nat, 64 * k ≤ n ∧ L ≤ 64 * k ∧ Sl wr b (T.drop (64 * k)) ∧ Hs wr G (Pl.words (Pl.upto T k)) R1 n ∧ But G w wr ∧ Apart G b) (fun b _ => lenOf' b)
        case atStart => exact ⟨K0 + 1, by have := HN.out; have := HHR.out; omega, by have := HHR.out; omega, HZ.out.1, HS3.out, BW1.out.trans HB3.out, HZ.out.2⟩
        case round =>
          obtain ⟨k, hk, hLk, sl, hs, hb, ap⟩ := hrel
          have hdl : (T.drop (64 * k)).length = n - 64 * k := by rw [List.length_drop, HTn.out]
          have HSL : Hid (Sl wr u1 (T.drop (64 * k))) := sl
          have HHS : Hid (Hs wr G (Pl.words (Pl.upto T k)) R1 n) := hs
          have HBB : Hid (But G w wr) := hb
          have HAP : Hid (Apart G u1) := ap
          have HTB : Hid (Pl.Byt (T.drop (64 * k))) := sl.bytes
          obtain ⟨ad, cp, hv, q1, q2, q3, q4⟩ := sl
          rw [hdl] at hv q1 q4
          have qm : cp ≤ 9223372036854775807 := by unfold maxLen at q2; omega
          clear hs hb ap
          by_cases hlt : 64 ≤ n - 64 * k
          · rcases q4 with q4 | ⟨-, bb, off, rfl, -, -, -, -⟩
            · omega
            subst hv
            have sub : Hid (Sl wr (.slice (some ⟨bb, off, none⟩) 64 cp) ((T.drop (64 * k)).take 64)) := HSL.out.take 64 (by omega)
            have cw := work_any G (Pl.upto T k) R1 n _ _ wr (HT.out.but HBB.out hg) HHS.out (ok_upto T k) sub.out (by rw [List.length_take, hdl]; omega)
            rw [upto_next] at cw
            have lt1 : (64 : Int) ≤ ((n - 64 * k : Nat) : Int) := by omega
            have lt2 : (64 : Int) ≤ (cp : Int) := by omega
            have lt3 : 64 ≤ cp := by omega
            have DR : Hid (∀ w2, But G wr w2 → Sl w2 (.slice (some ⟨bb, off + 64, none⟩) (n - 64 * k - 64) (cp - 64)) (T.drop (64 * (k + 1)))) := fun w2 b2 => by
              have := (HSL.out.but b2 HAP.out).drop 64 (by omega)
              rw [List.drop_drop] at this
              exact this
            have DA : Hid (Apart G (.slice (some ⟨bb, off + 64, none⟩) (n - 64 * k - 64) (cp - 64))) := fun a' l' c' e' hl' => by
              cases e'
              exact HAP.out ⟨bb, off, none⟩ _ _ rfl (by omega)
            have DZ : Hid (cp = 64 → ∀ w2, Sl w2 (.slice (some ⟨bb, off, none⟩) (n - 64 * k - 64) 0) (T.drop (64 * (k + 1))) ∧ Apart G (.slice (some ⟨bb, off, none⟩) (n - 64 * k - 64) 0)) := fun hc w2 => by
              have e0 : n - 64 * k - 64 = 0 := by omega
              have en : T.drop (64 * (k + 1)) = [] := List.drop_eq_nil_of_le (by rw [HTn.out]; omega)
              rw [e0, en]
              exact ⟨⟨_, _, rfl, by simp, by unfold maxLen; omega, (fun h => by cases h), .inl rfl⟩, fun a' l' c' e' hl' => by cases e'; omega⟩
            obtain ⟨d, hd'⟩ : ∃ d, d = n - 64 * k := ⟨_, rfl⟩
            have HD : Hid (d = n - 64 * k) := hd'
            rw [← hd'] at lt1 DR DA DZ ⊢
            clear hd' hlt
            go_wp2_with fail
            refine cw.mono ?_
            rintro e w2 ⟨⟨r2, rfl⟩, hs2, hb2⟩
            have HS2 : Hid (Hs w2 G (Pl.words (Pl.upto T (k + 1))) R1 n) := hs2
            have HB2 : Hid (But G wr w2) := hb2
            clear cw hs2 hb2
            by_cases hc : cp = 64
            · have hz := DZ.out hc w2
              have HZ : Hid (Sl w2 (.slice (some ⟨bb, off, none⟩) (d - 64) 0) (T.drop (64 * (k + 1))) ∧ Apart G (.slice (some ⟨bb, off, none⟩) (d - 64) 0)) := hz
              clear hz
              go_wp2
              go_roundw
              case rel => exact ⟨k + 1, by have := HD.out; omega, by omega, HZ.out.1, HS2.out, HBB.out.trans HB2.out, HZ.out.2⟩
              case measure => have := HD.out; simp [lenOf']; omega
            · have hc' : ¬ cp - 64 = 0 := by omega
              go_wp2
              go_roundw
              case rel => exact ⟨k + 1, by have := HD.out; omega, by omega, DR.out _ HB2.out, HS2.out, HBB.out.trans HB2.out, DA.out⟩
              case measure => have := HD.out; simp [lenOf']; omega
          · have hke : k = n / 64 := by omega
            have HKE : Hid (k = T.length / 64) := by unfold Hid; rw [HTn.out]; exact hke
            have lt1 : ¬ (64 : Int) ≤ ((n - 64 * k : Nat) : Int) := by omega
            clear hdl q1 q3 q4 hke
            obtain ⟨d, hd'⟩ : ∃ d, d = n - 64 * k := ⟨_, rfl⟩
            rw [← hd'] at lt1 hv
            subst hv
            clear hd' hlt
            go_wp2_with (refine wpList_copy_hs rfl _ _ rfl G 0 64 (by omega) rfl _ (T.drop (64 * k)) rfl HSL.out (Pl.words (Pl.upto T k)) R1 n HHS.out (Hid.out ?_))
            unfold Hid
            intro w2 hs2 hb2
            have HS2 : Hid (HsOf w2 G T) := hsof_end HKE.out (by rw [HTn.out]; exact hs2) HRB1.out HRL.out HTB.out
            have HB2 : Hid (But G w w2) := HBB.out.trans hb2
            clear hs2 hb2
            go_wp2
            refine bodyPost_end (v := .tuple #[]) (by simp [results, Tryz.results76]) rfl ⟨⟨_, rfl⟩, HS2.out, HB2.out⟩
      · have hc' : ¬ tk = cap := by omega
        have hc2 : ¬ cap - tk = 0 := by omega
        go_wp2_with fail
        go_loopw [1] (fun b wr => ∃ k : Nat, 64 * k ≤ n ∧ L ≤ 64 * k ∧ Sl wr b (T.drop (64 * k)) ∧ Hs wr G (Pl.words (Pl.upto T k)) R1 n ∧ But G w wr ∧ Apart G b) (fun b _ => lenOf' b)
        case atStart => exact ⟨K0 + 1, by have := HN.out; have := HHR.out; omega, by have := HHR.out; omega, DR.out _ HB3.out, HS3.out, BW1.out.trans HB3.out, DA.out⟩
        case round =>
          obtain ⟨k, hk, hLk, sl, hs, hb, ap⟩ := hrel
          have hdl : (T.drop (64 * k)).length = n - 64 * k := by rw [List.length_drop, HTn.out]
          have HSL : Hid (Sl wr u1 (T.drop (64 * k))) := sl
          have HHS : Hid (Hs wr G (Pl.words (Pl.upto T k)) R1 n) := hs
          have HBB : Hid (But G w wr) := hb
          have HAP : Hid (Apart G u1) := ap
          have HTB : Hid (Pl.Byt (T.drop (64 * k))) := sl.bytes
          obtain ⟨ad, cp, hv, q1, q2, q3, q4⟩ := sl
          rw [hdl] at hv q1 q4
          have qm : cp ≤ 9223372036854775807 := by unfold maxLen at q2; omega
          clear hs hb ap
          by_cases hlt : 64 ≤ n - 64 * k
          · rcases q4 with q4 | ⟨-, bb, off, rfl, -, -, -, -⟩
            · omega
            subst hv
            have sub : Hid (Sl wr (.slice (some ⟨bb, off, none⟩) 64 cp) ((T.drop (64 * k)).take 64)) := HSL.out.take 64 (by omega)
            have cw := work_any G (Pl.upto T k) R1 n _ _ wr (HT.out.but HBB.out hg) HHS.out (ok_upto T k) sub.out (by rw [List.length_take, hdl]; omega)
            rw [upto_next] at cw
            have lt1 : (64 : Int) ≤ ((n - 64 * k : Nat) : Int) := by omega
            have lt2 : (64 : Int) ≤ (cp : Int) := by omega
            have lt3 : 64 ≤ cp := by omega
            have DR : Hid (∀ w2, But G wr w2 → Sl w2 (.slice (some ⟨bb, off + 64, none⟩) (n - 64 * k - 64) (cp - 64)) (T.drop (64 * (k + 1)))) := fun w2 b2 => by
              have := (HSL.out.but b2 HAP.out).drop 64 (by omega)
              rw [List.drop_drop] at this
              exact this
            have DA : Hid (Apart G (.slice (some ⟨bb, off + 64, none⟩) (n - 64 * k - 64) (cp - 64))) := fun a' l' c' e' hl' => by
              cases e'
              exact HAP.out ⟨bb, off, none⟩ _ _ rfl (by omega)
            have DZ : Hid (cp = 64 → ∀ w2, Sl w2 (.slice (some ⟨bb, off, none⟩) (n - 64 * k - 64) 0) (T.drop (64 * (k + 1))) ∧ Apart G (.slice (some ⟨bb, off, none⟩) (n - 64 * k - 64) 0)) := fun hc w2 => by
              have e0 : n - 64 * k - 64 = 0 := by omega
              have en : T.drop (64 * (k + 1)) = [] := List.drop_eq_nil_of_le (by rw [HTn.out]; omega)
              rw [e0, en]
              exact ⟨⟨_, _, rfl, by simp, by unfold maxLen; omega, (fun h => by cases h), .inl rfl⟩, fun a' l' c' e' hl' => by cases e'; omega⟩
            obtain ⟨d, hd'⟩ : ∃ d, d = n - 64 * k := ⟨_, rfl⟩
            have HD : Hid (d = n - 64 * k) := hd'
            rw [← hd'] at lt1 DR DA DZ ⊢
            clear hd' hlt
            go_wp2_with fail
            refine cw.mono ?_
            rintro e w2 ⟨⟨r2, rfl⟩, hs2, hb2⟩
            have HS2 : Hid (Hs w2 G (Pl.words (Pl.upto T (k + 1))) R1 n) := hs2
            have HB2 : Hid (But G wr w2) := hb2
            clear cw hs2 hb2
            by_cases hc : cp = 64
            · have hz := DZ.out hc w2
              have HZ : Hid (Sl w2 (.slice (some ⟨bb, off, none⟩) (d - 64) 0) (T.drop (64 * (k + 1))) ∧ Apart G (.slice (some ⟨bb, off, none⟩) (d - 64) 0)) := hz
              clear hz
              go_wp2
              go_roundw
              case rel => exact ⟨k + 1, by have := HD.out; omega, by omega, HZ.out.1, HS2.out, HBB.out.trans HB2.out, HZ.out.2⟩
              case measure => have := HD.out; simp [lenOf']; omega
            · have hc' : ¬ cp - 64 = 0 := by omega
              go_wp2
              go_roundw
              case rel => exact ⟨k + 1, by have := HD.out; omega, by omega, DR.out _ HB2.out, HS2.out, HBB.out.trans HB2.out, DA.out⟩
              case measure => have := HD.out; simp [lenOf']; omega
          · have hke : k = n / 64 := by omega
            have HKE : Hid (k = T.length / 64) := by unfold Hid; rw [HTn.out]; exact hke
            have lt1 : ¬ (64 : Int) ≤ ((n - 64 * k : Nat) : Int) := by omega
            clear hdl q1 q3 q4 hke
            obtain ⟨d, hd'⟩ : ∃ d, d = n - 64 * k := ⟨_, rfl⟩
            rw [← hd'] at lt1 hv
            subst hv
            clear hd' hlt
            go_wp2_with (refine wpList_copy_hs rfl _ _ rfl G 0 64 (by omega) rfl _ (T.drop (64 * k)) rfl HSL.out (Pl.words (Pl.upto T k)) R1 n HHS.out (Hid.out ?_))
            unfold Hid
            intro w2 hs2 hb2
            have HS2 : Hid (HsOf w2 G T) := hsof_end HKE.out (by rw [HTn.out]; exact hs2) HRB1.out HRL.out HTB.out
            have HB2 : Hid (But G w w2) := HBB.out.trans hb2
            clear hs2 hb2
            go_wp2
            refine bodyPost_end (v := .tuple #[]) (by simp [results, Tryz.results76]) rfl ⟨⟨_, rfl⟩, HS2.out, HB2.out⟩
end Go.Proofs.YtdnbiibijoggoaaGreatDoor.Sh

namespace Go.Proofs.YtdnbiibijoggoaaGreatDoor.Sh
open Go.RowKit
set_option maxRecDepth 100000

theorem pad_len (n : Nat) : (Pl.pad n).length = Pl.zers n + 9 := by rw [← ppad_all, ppad_len n 8 (by omega)]
theorem zers_lt (n : Nat) : Pl.zers n < 64 := Nat.mod_lt _ (by omega)
theorem sha_len (l : List Int) : (Pl.sha l).length = 32 := digest_len _

set_option maxHeartbeats 2000000 in
set_option maxRecDepth 100000 in
theorem sum_any (G : Nat) (l : List Int) (w : World) (ht : Tab w) (hh : HsOf w G l) (hbig : l.length ≤ 100000000000000000) :
    Calls Tryz.prog 77 #[.pointer (some ⟨G, 0, none⟩)] w fun e w' => e = .returned (.agg (u8s (Pl.sha l))) ∧ Below w.heap.size w w' := by
  obtain ⟨wa, hwa⟩ : ∃ wa, wa = w.alloc (.cells (u8s (List.replicate 32 0)) 40) := ⟨_, rfl⟩
  have ba : Below w.heap.size w wa := by rw [hwa]; exact (Below.refl _ _).alloc (Nat.le_refl _) _
  have g0 : wa.heap[w.heap.size]? = some (.cells (u8s (List.replicate 32 0)) 40 (0, 0)) := by rw [hwa]; exact heap_alloc_new _ _
  have ha := hh.kept ba
  have hta := ht.below ba ht.size
  obtain ⟨R, r1, r2, r3⟩ := ha
  have cf := fork_any G _ R _ wa r1
  have hlt : w.heap.size < wa.heap.size := World.block_lt_of_cell? _ _ ((cell_of_row _ _ 0 _ _ _ g0).trans (u8s_get _ 0 (by simp)))
  have hF : 3 ≤ wa.heap.size := hta.size
  obtain ⟨F, hF'⟩ : ∃ F, F = wa.heap.size := ⟨_, rfl⟩
  have HWA : Hid (w.alloc (.cells (u8s (List.replicate 32 0)) 40) = wa) := hwa.symm
  have hwz : w.alloc (.cells #[.int .u8 0, .int .u8 0, .int .u8 0, .int .u8 0, .int .u8 0, .int .u8 0, .int .u8 0, .int .u8 0, .int .u8 0, .int .u8 0, .int .u8 0, .int .u8 0, .int .u8 0, .int .u8 0, .int .u8 0, .int .u8 0, .int .u8 0, .int .u8 0, .int .u8 0, .int .u8 0, .int .u8 0, .int .u8 0, .int .u8 0, .int .u8 0, .int .u8 0, .int .u8 0, .int .u8 0, .int .u8 0, .int .u8 0, .int .u8 0, .int .u8 0, .int .u8 0] 40) = wa := hwa.symm
  rw [← hF'] at cf hlt hF
  have HF : Hid (F = wa.heap.size) := hF'
  have HBA : Hid (Below w.heap.size w wa) := ba
  have HG0 : Hid (wa.heap[w.heap.size]? = some (.cells (u8s (List.replicate 32 0)) 40 (0, 0))) := g0
  have HR : Hid (Pl.Byt R ∧ ∀ i, i < l.length % 64 → R.getD i 0 = l.getD (64 * (l.length / 64) + i) 0) := ⟨r2, r3⟩
  have HH : Hid (Hs wa G (Pl.words (Pl.absorb l)) R l.length) := r1
  have HT : Hid (Tab wa) := hta
  have HS : Hid (Pl.sha l = Pl.digest (Pl.absorb (l ++ Pl.pad l.length))) := rfl
  have HI : Hid ((Tryz.prog.info? 40).map (·.size) = some (u8s (Pl.sha l)).size) := by unfold Hid; rw [u8s_size, sha_len]; exact size26
  have HO : Hid ((u8s (List.replicate 32 0)).size = (u8s (Pl.sha l)).size) := by unfold Hid; rw [u8s_size, u8s_size, sha_len]; simp
  obtain ⟨n, hn⟩ : ∃ n, n = l.length := ⟨_, rfl⟩
  have HN : Hid (n = l.length) := hn
  clear hn hh ht ba g0 hta r1 r2 r3 hF' hwa
  go_enter Tryz.func77, Tryz.ntmps77
  go_wp2_with fail
  refine cf.mono ?_
  rintro e w1 ⟨rfl, f1, b1⟩
  have tb1 := HT.out.below b1 hF
  have hb1 : Below wa.heap.size wa w1 := by rw [← HF.out]; exact b1
  have k72 := (HH.out.kept hb1).num
  have HF1 : Hid (HsOf w1 F l) := ⟨R, f1, HR.out⟩
  have cp := padding_any l.length w1 (by omega)
  have hFl := f1.lt
  have HTB : Hid (Tab w1) := tb1
  have HB1 : Hid (Below F wa w1) := b1
  rw [← HN.out] at k72 cp
  clear cf f1 b1 tb1 hb1
  go_wp2_with fail
  refine cp.mono ?_
  rintro e w2 ⟨rfl, sl2, b2⟩
  rw [HN.out] at sl2
  have cw := write_any F l _ _ w2 (HTB.out.below b2 HTB.out.size) (HF1.out.kept b2) sl2 (fun a' l' c' e' _ => by cases e'; show w1.heap.size ≠ F; omega) hF (by have := zers_lt l.length; rw [pad_len]; omega)
  rw [← HN.out] at cw
  have HB2 : Hid (Below w1.heap.size w1 w2) := b2
  clear cp sl2 b2
  go_wp2_with fail
  refine cw.mono ?_
  rintro e w3 ⟨⟨u3, rfl⟩, h3, b3⟩
  rw [HN.out] at h3
  obtain ⟨R3, h3, -, -⟩ := h3
  have ct := told_any F _ R3 _ w3 h3
  rw [← HS.out] at ct
  have HB3 : Hid (But F w2 w3) := b3
  clear cw h3 b3
  go_wp2_with fail
  refine ct.mono ?_
  rintro e w4 ⟨rfl, b4⟩
  have z1 : F ≤ w1.heap.size := by omega
  have z2 := HB2.out.size
  have hB4 : Below F wa w4 := (HB1.out.trans (HB2.out.mono z1)).trans ((HB3.out.below (Nat.le_refl _) (by omega)).trans (b4.mono (by have := HB3.out.size; omega)))
  have G4 : Hid (w4.heap[w.heap.size]? = some (.cells (u8s (List.replicate 32 0)) 40 (0, 0))) := (hB4.block _ hlt).trans HG0.out
  have B4 : Hid (Below w.heap.size w w4) := HBA.out.trans (hB4.mono (by omega))
  clear ct b4 hB4
  go_wp2_with (refine wpList_store_row rfl 40 _ _ rfl w.heap.size (u8s (Pl.sha l)) rfl rfl 40 _ G4.out HI.out HO.out (u8s_one _) ?_)
  refine bodyPost_ret (v := .agg (u8s (Pl.sha l))) (results_cell_row rfl _ _ w.heap.size 40 (u8s (Pl.sha l)) (0, 0) _ rfl (setRow_heap _ _ _ _ _ _ G4.out) Tryz.underlying40 rfl HI.out) rfl ⟨rfl, below_setRow B4.out (Nat.le_refl _) _⟩

theorem built26 : Tryz.prog.built 40 [] = some (u8s (List.replicate 32 0)) := by kernel_rfl

set_option maxHeartbeats 2000000 in
set_option maxRecDepth 100000 in
theorem sum_nil (w : World) : Calls Tryz.prog 77 #[.pointer none] w fun e w' => e = .returned (.agg (u8s (List.replicate 32 0))) ∧ Below w.heap.size w w' := by
  have HB : Hid (Below w.heap.size w (w.alloc (.cells (u8s (List.replicate 32 0)) 40))) := (Below.refl _ _).alloc (Nat.le_refl _) _
  go_enter Tryz.func77, Tryz.ntmps77
  go_wp2_with (refine wpList_store_row rfl 40 _ _ rfl w.heap.size (u8s (List.replicate 32 0)) rfl rfl 40 _ (heap_alloc_new _ _) size26 rfl (u8s_one _) ?_)
  refine bodyPost_ret (v := .agg (u8s (List.replicate 32 0))) (results_cell_row rfl _ _ w.heap.size 40 (u8s (List.replicate 32 0)) (0, 0) _ rfl (setRow_heap _ _ _ _ _ _ (heap_alloc_new _ _)) Tryz.underlying40 rfl size26) rfl ⟨rfl, below_setRow ((Below.refl _ _).alloc (Nat.le_refl _) _) (Nat.le_refl _) _⟩
end Go.Proofs.YtdnbiibijoggoaaGreatDoor.Sh

namespace Go.Proofs.YtdnbiibijoggoaaGreatDoor.Sh
open Go.RowKit
set_option maxRecDepth 100000

/-- A slice of slices of bytes, as Of reads it. -/
def Parts (w : World) (p : Option Addr) (ZZ : List (List Int)) : Prop :=
  ZZ.length ≤ 9223372036854775807 ∧ (ZZ = [] ∨ ∃ b off, p = some ⟨b, off, none⟩ ∧ ∀ i, i < ZZ.length → ∃ v, w.cell? ⟨b, off + i, none⟩ = some v ∧ Sl w v (ZZ.getD i []))
theorem flat_succ (ZZ : List (List Int)) (j : Nat) (h : j < ZZ.length) : (ZZ.take (j + 1)).flatten = (ZZ.take j).flatten ++ ZZ.getD j [] := by
  rw [List.take_add_one, List.getElem?_eq_getElem h, List.flatten_append]
  simp [List.getD, List.getElem?_eq_getElem h]
theorem flat_le (ZZ : List (List Int)) (j : Nat) : (ZZ.take j).flatten.length ≤ ZZ.flatten.length := by
  have h : ZZ.flatten = (ZZ.take j).flatten ++ (ZZ.drop j).flatten := by rw [← List.flatten_append, List.take_append_drop]
  rw [h, List.length_append]; omega
theorem hsof_nil {w : World} {G : Nat} (h : Hs w G (Pl.words Pl.init) (List.replicate 64 0) 0) : HsOf w G [] := by
  exact ⟨_, h, byteList (List.replicate 64 0) (by decide), fun i hi => by simp at hi⟩
theorem _root_.Go.Proofs.YtdnbiibijoggoaaGreatDoor.Sl.apart {w : World} {v : Value} {xs : List Int} {g : Nat} (h : Sl w v xs) (hg : w.heap.size ≤ g) : Apart g v := by
  obtain ⟨a, cap, rfl, h1, h2, h3, h4⟩ := h
  rintro a' l' c' e hl
  cases e
  rcases h4 with h4 | ⟨_, b, off, e, _, _, hc, _⟩
  · omega
  · cases e
    have := World.block_lt_of_cell? _ _ (hc 0 hl)
    show b ≠ g
    have h5 : b < w.heap.size := this
    omega

set_option maxHeartbeats 2000000 in
set_option maxRecDepth 100000 in
theorem of_any (p : Option Addr) (kc : Nat) (ZZ : List (List Int)) (w : World) (ht : Tab w) (hP : Parts w p ZZ) (hbig : ZZ.flatten.length ≤ 100000000000000000) :
    Calls Tryz.prog 51 #[.slice p ZZ.length kc] w fun e w' => e = .returned (.agg (u8s (Pl.sha ZZ.flatten))) ∧ Below w.heap.size w w' := by
  obtain ⟨wa, hwa⟩ : ∃ wa, wa = w.alloc (.cells (u8s (List.replicate 32 0)) 40) := ⟨_, rfl⟩
  have ba : Below w.heap.size w wa := by rw [hwa]; exact (Below.refl _ _).alloc (Nat.le_refl _) _
  have g0 : wa.heap[w.heap.size]? = some (.cells (u8s (List.replicate 32 0)) 40 (0, 0)) := by rw [hwa]; exact heap_alloc_new _ _
  have hta := ht.below ba ht.size
  have cn := new_any wa hta
  have hlt : w.heap.size < wa.heap.size := World.block_lt_of_cell? _ _ ((cell_of_row _ _ 0 _ _ _ g0).trans (u8s_get _ 0 (by simp)))
  have hF : 3 ≤ wa.heap.size := hta.size
  obtain ⟨F, hF'⟩ : ∃ F, F = wa.heap.size := ⟨_, rfl⟩
  have hwz : w.alloc (.cells #[.int .u8 0, .int .u8 0, .int .u8 0, .int .u8 0, .int .u8 0, .int .u8 0, .int .u8 0, .int .u8 0, .int .u8 0, .int .u8 0, .int .u8 0, .int .u8 0, .int .u8 0, .int .u8 0, .int .u8 0, .int .u8 0, .int .u8 0, .int .u8 0, .int .u8 0, .int .u8 0, .int .u8 0, .int .u8 0, .int .u8 0, .int .u8 0, .int .u8 0, .int .u8 0, .int .u8 0, .int .u8 0, .int .u8 0, .int .u8 0, .int .u8 0, .int .u8 0] 40) = wa := hwa.symm
  rw [← hF'] at cn hlt hF
  have HF : Hid (F = wa.heap.size) := hF'
  have HBA : Hid (Below w.heap.size w wa) := ba
  have HG0 : Hid (wa.heap[w.heap.size]? = some (.cells (u8s (List.replicate 32 0)) 40 (0, 0))) := g0
  have HT : Hid (Tab wa) := hta
  have HI : Hid ((Tryz.prog.info? 40).map (·.size) = some (u8s (Pl.sha ZZ.flatten)).size) := by unfold Hid; rw [u8s_size, sha_len]; exact size26
  have HO : Hid ((u8s (List.replicate 32 0)).size = (u8s (Pl.sha ZZ.flatten)).size) := by unfold Hid; rw [u8s_size, u8s_size, sha_len]; simp
  have HB0 : Hid (∀ j, (ZZ.take j).flatten.length ≤ 100000000000000000) := fun j => Nat.le_trans (flat_le ZZ j) hbig
  have hL := hP.1
  have HP : Hid (ZZ = [] ∨ ∃ b off, p = some ⟨b, off, none⟩ ∧ ∀ i, i < ZZ.length → ∃ v, wa.cell? ⟨b, off + i, none⟩ = some v ∧ Sl wa v (ZZ.getD i []) ∧ Apart F v) := by
    rcases hP.2 with h | ⟨b, off, e, h⟩
    · exact .inl h
    · refine .inr ⟨b, off, e, fun i hi => ?_⟩
      obtain ⟨v, h1, h2⟩ := h i hi
      exact ⟨v, (ba.cell (World.block_lt_of_cell? _ _ h1)).trans h1, h2.kept ba, h2.apart (by omega)⟩
  obtain ⟨k, hk⟩ : ∃ k, k = ZZ.length := ⟨_, rfl⟩
  have HK : Hid (k = ZZ.length) := hk
  rw [← hk] at hL ⊢
  clear hk ht ba g0 hta hF' hwa hP hbig
  go_enter Tryz.func51, Tryz.ntmps51
  go_wp2_with fail
  refine cn.mono ?_
  rintro e w1 ⟨rfl, n1, b1⟩
  have hb1 : Below wa.heap.size wa w1 := by rw [← HF.out]; exact b1
  have HW1 : Hid (HsOf w1 F []) := hsof_nil n1
  have HB1 : Hid (Below F wa w1) := b1
  have hF1 : F < w1.heap.size := n1.lt
  clear cn n1 b1 hb1
  go_wp2_with fail
  go_loopw [9] (fun q wr => ∃ j : Nat, j ≤ k ∧ q = .int .i64 j ∧ HsOf wr F (ZZ.take j).flatten ∧ Below F wa wr) (fun q _ => k - (intOf q).toNat)
  case atStart => exact ⟨0, by omega, rfl, HW1.out, HB1.out⟩
  case round =>
    clear HW1 HB1
    obtain ⟨j, hj, rfl, hs, bel⟩ := hrel
    have HH : Hid (HsOf wr F (ZZ.take j).flatten) := hs
    have BE : Hid (Below F wa wr) := bel
    by_cases hltj : j < k
    · have lt2 : (j : Int) < (k : Int) := by omega
      rcases HP.out with h0 | ⟨b, off, rfl, hp⟩
      · rw [h0] at HK; have := HK.out; simp at this; omega
      · obtain ⟨v, c1, c2, c3⟩ := hp j (by rw [← HK.out]; exact hltj)
        have hbF : b < F := by have := World.block_lt_of_cell? _ _ c1; have := HF.out; simp at *; omega
        have kc1 := (bel.cell (p := ⟨b, off + j, none⟩) hbF).trans c1
        have belw : Below wa.heap.size wa wr := by rw [← HF.out]; exact bel
        have cw := write_any F (ZZ.take j).flatten v (ZZ.getD j []) wr (HT.out.below bel hF) hs (c2.kept belw) c3 hF (by
          have h1 := HB0.out (j + 1)
          rw [flat_succ ZZ j (by rw [← HK.out]; exact hltj), List.length_append] at h1
          omega)
        rw [← flat_succ ZZ j (by rw [← HK.out]; exact hltj)] at cw
        obtain ⟨ad, cp, hv, -⟩ := c2
        subst hv
        have hFw : F ≤ wr.heap.size := by have := BE.out.size; have := HF.out; omega
        clear hs bel hp c1 c3 belw
        go_wp2_with fail
        refine cw.mono ?_
        rintro e w2 ⟨⟨u2, rfl⟩, h2, b2⟩
        have H2 : Hid (HsOf w2 F (ZZ.take (j + 1)).flatten) := h2
        have B2 : Hid (Below F wa w2) := BE.out.trans (b2.below (Nat.le_refl _) hFw)
        clear cw h2 b2
        go_wp2
        go_roundw
        case rel => exact ⟨j + 1, by omega, by go_num, H2.out, B2.out⟩
        case measure => simp [intOf]; omega
    · obtain rfl : j = k := by omega
      have hz : (ZZ.take j).flatten = ZZ.flatten := by rw [HK.out, List.take_length]
      rw [hz] at hs
      have cs := sum_any F ZZ.flatten wr (HT.out.below bel hF) hs (by have := HB0.out j; rw [hz] at this; exact this)
      have hFw : F ≤ wr.heap.size := by have := BE.out.size; have := HF.out; omega
      clear hs bel hz
      go_wp2_with fail
      refine cs.mono ?_
      rintro e w4 ⟨rfl, b4⟩
      have hB4 : Below F wa w4 := BE.out.trans (b4.mono hFw)
      have G4 : Hid (w4.heap[w.heap.size]? = some (.cells (u8s (List.replicate 32 0)) 40 (0, 0))) := (hB4.block _ hlt).trans HG0.out
      have B4 : Hid (Below w.heap.size w w4) := HBA.out.trans (hB4.mono (by omega))
      clear cs b4 hB4
      go_wp2_with (refine wpList_store_row rfl 40 _ _ rfl w.heap.size (u8s (Pl.sha ZZ.flatten)) rfl rfl 40 _ G4.out HI.out HO.out (u8s_one _) ?_)
      refine bodyPost_ret (v := .agg (u8s (Pl.sha ZZ.flatten))) (results_cell_row rfl _ _ w.heap.size 40 (u8s (Pl.sha ZZ.flatten)) (0, 0) _ rfl (setRow_heap _ _ _ _ _ _ G4.out) Tryz.underlying40 rfl HI.out) rfl ⟨rfl, below_setRow B4.out (Nat.le_refl _) _⟩
end Go.Proofs.YtdnbiibijoggoaaGreatDoor.Sh

namespace Go.Proofs.YtdnbiibijoggoaaGreatDoor.Sh
open Go.RowKit
set_option maxRecDepth 100000

theorem all_eq : ∀ (xs ys : List Int), xs.length = ys.length → ((List.range xs.length).all fun i => xs.getD i 0 == ys.getD i 0) = (xs == ys)
  | [], [], _ => rfl
  | x :: xs, y :: ys, h => by
    have ih := all_eq xs ys (by simpa using h)
    rw [List.length_cons, List.range_succ_eq_map, List.all_cons, List.all_map]
    simp only [List.getD_cons_zero, Function.comp_def, List.getD_cons_succ, ih]
    simp [List.cons_beq_cons]
  | [], _ :: _, h => by simp at h
  | _ :: _, [], h => by simp at h
theorem sizeOf5 : ∀ w, (sizeOf 5).run Tryz.prog w = .ok 1 w := by
  obtain ⟨i0, hi, hz0, hz1, hz2⟩ := info_parts info5'
  intro w
  simp [sizeOf, typeInfo, hi, hz1]
theorem eq_u8s (A B : List Int) (hA : A.length = 32) (hB : B.length = 32) (w : World) : (Op.equalIn 10000 40 (.agg (u8s A)) (.agg (u8s B))).run Tryz.prog w = .ok (A == B) w := by
  rw [← all_eq A B (hA.trans hB.symm), hA, List.range_eq_range', show (10000 : Nat) = 9999 + 1 from rfl, Op.equalIn]
  simp only [Sem.run_bind, run_underlying Tryz.underlying40, Result.andThen_ok, sizeOf5, Std.Legacy.Range.forIn_eq_forIn_range', Std.Legacy.Range.size, Nat.sub_zero, Nat.add_sub_cancel, Nat.div_one]
  have hl : ∀ i ∈ List.range' 0 32 1, i < 32 := fun i hi => by simpa using (List.mem_range'_1.1 hi).2
  generalize List.range' 0 32 1 = l at hl ⊢
  induction l with
  | nil => simp
  | cons i l ih =>
    have hi : i < 32 := hl i (by simp)
    have px : (part 5 (u8s A) (i * 1)).run Tryz.prog w = .ok (.int .u8 (A.getD i 0)) w := by
      simp [part, isAgg, run_underlying Tryz.underlying5, u8s_get A i (by omega)]
    have py : (part 5 (u8s B) (i * 1)).run Tryz.prog w = .ok (.int .u8 (B.getD i 0)) w := by
      simp [part, isAgg, run_underlying Tryz.underlying5, u8s_get B i (by omega)]
    have pe : (Op.equalIn 9999 5 (.int .u8 (A.getD i 0)) (.int .u8 (B.getD i 0))).run Tryz.prog w = .ok (A.getD i 0 == B.getD i 0) w := run_equalIn_int w 9998 5 .u8 .u8 _ _ Tryz.underlying5
    simp only [List.forIn_cons, Sem.run_bind, px, py, pe, Result.andThen_ok, List.all_cons]
    cases hb : (A.getD i 0 == B.getD i 0)
    · simp
    · simp only [Bool.not_true, Bool.false_eq_true, if_false, Sem.run_pure, Result.andThen_ok, Bool.true_and]
      exact ih fun j hj => hl j (by simp [hj])

/-- A variable that holds a sum. -/
def SX (X : Nat) (A : List Int) (x : World) : Prop := x.heap[X]? = some (.cells (u8s A) 40 (0, 0))
theorem SX.load {X : Nat} {A : List Int} (hA : A.length = 32) (x : World) (h : SX X A x) : (Instr.loadAt 40 (.pointer (some ⟨X, 0, none⟩))).run Tryz.prog x = .ok (.agg (u8s A)) x := by
  simp only [Instr.loadAt, Instr.sureAddr, Sem.run_bind, Sem.run_pure, Result.andThen_ok]
  exact run_loadVar_row x X 40 40 (u8s A) (0, 0) _ h Tryz.underlying40 rfl (by rw [u8s_size, hA]; exact size26)
theorem SX.alloc {X : Nat} {A : List Int} {x : World} (h : SX X A x) (o : Obj) : SX X A (x.alloc o) := by
  unfold SX at *
  have hl : X < x.heap.size := (Array.getElem?_eq_some_iff.1 h).1
  rw [Below.heap_alloc _ _ _ hl]; exact h
theorem SX.drew {X : Nat} {A : List Int} {x : World} (h : SX X A x) : SX X A x.drew := h
theorem SX.below {X B : Nat} {A : List Int} {x y : World} (h : SX X A x) (hb : Below B x y) (hX : X < B) : SX X A y := (hb.block X hX).trans h
theorem SX.lt {X : Nat} {A : List Int} {x : World} (h : SX X A x) : X < x.heap.size := (Array.getElem?_eq_some_iff.1 h).1

/-- The sum that everybody knows. -/
def abcL : List Int := [0xba, 0x78, 0x16, 0xbf, 0x8f, 0x01, 0xcf, 0xea, 0x41, 0x41, 0x40, 0xde, 0x5d, 0xae, 0x22, 0x23, 0xb0, 0x03, 0x61, 0xa3, 0x96, 0x17, 0x7a, 0x9c, 0xb4, 0x10, 0xff, 0x61, 0xf2, 0x00, 0x15, 0xad]
set_option maxRecDepth 1000000 in
theorem abc_sum : Pl.sha [97, 98, 99] = abcL := by decide +kernel
theorem abc_len : abcL.length = 32 := rfl
theorem abc_ne : (abcL == List.replicate 32 0) = false := by decide
end Go.Proofs.YtdnbiibijoggoaaGreatDoor.Sh
