/-
  What take leaves, at Lost.
-/
import Derived.Test.YtamjbmbflllbfaaLt
namespace Go.Proofs.Ytamjbmbflllbfaa
open Go.RowKit
set_option maxRecDepth 100000

set_option maxHeartbeats 4000000 in
theorem takeL_any (w : World) (B g : Nat) (v : Value) (s : Lg) (f : Pk → Bool) (c1 c2 c3 : Value) (h : LS w B g v s) (hB : B ≤ w.heap.size)
    (hf : ∀ W p, (∀ k, k < w.heap.size → v.ownBlock ≠ some k → W.heap[k]? = w.heap[k]?) → w.heap.size ≤ W.heap.size → p ∈ s.o → Calls Try.prog 41 #[p.v, c1, c2, c3] W fun e W' => e = .returned (.bool (f p)) ∧ Below W.heap.size W W') :
    Calls Try.prog 32 #[.pointer (some ⟨g, 0, none⟩), .func (.func 41) #[] #[c1, c2, c3]] w fun e w' => ∃ vt v', e = .returned vt ∧ RP 48 w' w.heap.size vt (s.o.filter f) ∧ LS w' B g v' (tkL s f) ∧ LU w w' g v v' := by
  obtain ⟨q0, q1, q2, q3, f0, f1, f2, f3⟩ := h.bk.lc
  have HLS : Hid (LS w B g v s) := h
  have hne := h.ne
  rcases h.rs.own.2 with ⟨rfl, h0⟩ | ⟨b, c, cur, rfl, hBb, hh, hnc, hcm, hcs, htk⟩
  · have e0 : s.o = [] := List.length_eq_zero_iff.1 h0
    have HE : Hid (RP 48 (w.setCell ⟨g, 0, none⟩ (.slice none 0 0)) w.heap.size (.slice none 0 0) (s.o.filter f) ∧ LS (w.setCell ⟨g, 0, none⟩ (.slice none 0 0)) B g (.slice none 0 0) (tkL s f) ∧ LU w (w.setCell ⟨g, 0, none⟩ (.slice none 0 0)) g (.slice none 0 0) (.slice none 0 0)) := by
      refine ⟨by rw [e0]; exact RP.nil _ _ _, ⟨h.bk.set0 _ _, by unfold tkL; rw [e0]; exact RP.nil _ _ _, tkL_ok h.ok f⟩, (LU.of (Below.refl _ _)).set 0 _⟩
    clear hf h HLS e0 hne
    go_enter Try.func32, Try.ntmps32
    go_wp2
    go_loopw [5, 6, 19] (fun u5 u6 u wr => wr = w ∧ u5 = .slice none 0 0 ∧ u6 = .slice none 0 0 ∧ u = .int .i64 0) (fun _ _ _ _ => 0)
    case atStart => exact ⟨rfl, rfl, rfl, rfl⟩
    case round =>
      obtain ⟨rfl, rfl, rfl, rfl⟩ := hrel
      go_wp2
      go_ret
      exact ⟨_, _, rfl, HE.out⟩
  · obtain ⟨n, hn⟩ : ∃ n, n = s.o.length := ⟨_, rfl⟩
    have HN : Hid (n = s.o.length) := hn
    rw [← hn] at q0 hne hf hnc HLS ⊢
    have hln := h.ok.ln
    have hbs := blk_lt hh
    have TR0 : Hid (TR w b c f s.o 0 cur.toList) := ⟨⟨cur, hh, hcs, by simp, by simp⟩⟩
    have H0 : Hid (cur.toList.take (s.o.length * 4) = (s.o.map Pk.c).flatten) := htk
    have HBB : Hid (b < w.heap.size ∧ B ≤ b) := ⟨hbs, hBb⟩
    have hgb : ¬ g = b := fun e => hne (by rw [e]; rfl)
    have HCF : Hid (∀ W p, TK w W b → p ∈ s.o → Calls Try.prog 41 #[p.v, c1, c2, c3] W fun e W' => e = .returned (.bool (f p)) ∧ Below W.heap.size W W') := fun W p tk hp => hf W p (fun k hk hv => tk.block k hk (fun e => hv (by rw [e]; rfl))) tk.size hp
    have HL4 : Hid (n ≤ 1024 ∧ c ≤ maxLen) := ⟨by omega, hcm⟩
    have hgl : g < w.heap.size := blk_lt h.bk
    have HLB : Hid (∀ W, TK w W b → LB W g (.slice (some ⟨b, 0, none⟩) n c) s) := fun W tk => (tk.block g hgl hgb).trans HLS.out.bk
    have HEND : Hid (∀ W vt, TK w W b → TR W b c f s.o s.o.length cur.toList → RP 48 W w.heap.size vt ((s.o.take s.o.length).filter f) → RP 48 (W.setCell ⟨g, 0, none⟩ (.slice (some ⟨b, 0, none⟩) ((s.o.take s.o.length).filter (fun p => !f p)).length c)) w.heap.size vt (s.o.filter f) ∧ LS (W.setCell ⟨g, 0, none⟩ (.slice (some ⟨b, 0, none⟩) ((s.o.take s.o.length).filter (fun p => !f p)).length c)) B g (.slice (some ⟨b, 0, none⟩) ((s.o.take s.o.length).filter (fun p => !f p)).length c) (tkL s f) ∧ LU w (W.setCell ⟨g, 0, none⟩ (.slice (some ⟨b, 0, none⟩) ((s.o.take s.o.length).filter (fun p => !f p)).length c)) g (.slice (some ⟨b, 0, none⟩) n c) (.slice (some ⟨b, 0, none⟩) ((s.o.take s.o.length).filter (fun p => !f p)).length c)) := by
      intro W vt tk tr rt
      have hflt := filt_le (fun p => !f p) s.o s.o.length
      obtain ⟨cur', h1, h2, h3, -⟩ := tr.ex
      rw [List.take_length] at rt h3 hflt ⊢
      have rs : RP 48 W B (.slice (some ⟨b, 0, none⟩) (s.o.filter (fun p => !f p)).length c) (tkL s f).o := RP.of ⟨by rw [flatP], .inr ⟨b, c, cur', rfl, hBb, h1, by show (s.o.filter (fun p => !f p)).length ≤ c; omega, hcm, h2, h3⟩⟩
      have hg2 : vt.ownBlock ≠ some g := fun e => by
        have := rt.base e
        omega
      refine ⟨rt.set hg2, ⟨(HLB.out W tk).set0 _ _, rs.set (fun e => hgb (by cases e; rfl)), tkL_ok HLS.out.ok f⟩, LU.set (v := .slice (some ⟨b, 0, none⟩) n c) (v' := .slice (some ⟨b, 0, none⟩) (s.o.filter (fun p => !f p)).length c) ⟨tk.os, tk.tape, tk.output, tk.size, fun k hk hg hv => tk.block k hk (fun e => hv (by rw [e]; rfl)), .inl rfl⟩ 0 _⟩
    have HAT : Hid (∀ W i, i < n → TR W b c f s.o i cur.toList → PC W b (i * 4) (atP s.o i)) := fun W i hi tr => tr.at htk (by omega)
    have HYES : Hid (∀ W i, i < n → f (atP s.o i) = true → TR W b c f s.o i cur.toList → TR W b c f s.o (i + 1) cur.toList) := fun W i hi hp tr => tr.yes (by omega) hp
    have HNO : Hid (∀ W i, i < n → f (atP s.o i) = false → TR W b c f s.o i cur.toList → ∃ cur' : Array Value, W.heap[b]? = some (.cells cur' 48 (0, 0)) ∧ ((s.o.take i).filter (fun p => !f p)).length * 4 + 4 ≤ cur'.size ∧ TR (W.setRow b (cur'.toList.take (((s.o.take i).filter (fun p => !f p)).length * 4) ++ (atP s.o i).c ++ cur'.toList.drop (((s.o.take i).filter (fun p => !f p)).length * 4 + 4)).toArray) b c f s.o (i + 1) cur.toList) := fun W i hi hp tr => tr.no (by omega) (by omega) hp
    have HFY : Hid (∀ i, i < n → f (atP s.o i) = true → (s.o.take (i + 1)).filter f = (s.o.take i).filter f ++ [atP s.o i]) := fun i hi hp => filt_yes (by omega) hp
    have HFN : Hid (∀ i, i < n → f (atP s.o i) = false → (s.o.take (i + 1)).filter f = (s.o.take i).filter f) := fun i hi hp => filt_no (by omega) hp
    have HGY : Hid (∀ i, i < n → f (atP s.o i) = true → (s.o.take (i + 1)).filter (fun p => !f p) = (s.o.take i).filter (fun p => !f p)) := fun i hi hp => filt_no (by omega) (by simp only [hp, Bool.not_true])
    have HGN : Hid (∀ i, i < n → f (atP s.o i) = false → ((s.o.take (i + 1)).filter (fun p => !f p)).length = ((s.o.take i).filter (fun p => !f p)).length + 1) := fun i hi hp => by
      rw [filt_yes (f := fun p => !f p) (by omega) (by simp only [hp, Bool.not_false]), List.length_append, List.length_singleton]
    have HLE : Hid (∀ i, ((s.o.take i).filter f).length ≤ i ∧ ((s.o.take i).filter (fun p => !f p)).length ≤ i) := fun i => ⟨filt_le f s.o i, filt_le _ s.o i⟩
    have HM : Hid (∀ i, i < n → atP s.o i ∈ s.o) := fun i hi => atP_mem _ _ (by omega)
    have x0 : (0 : Int) ≤ (c : Int) := by omega
    have x1 : (n : Int) ≤ (c : Int) := by omega
    clear hf h hh hcs htk hne hln hbs hBb hn hcm q1 q2 q3 f1 f2 f3
    generalize hK : (fun i => ((s.o.take i).filter (fun p => !f p)).length) = K at *
    have HK : Hid (∀ i, ((s.o.take i).filter (fun p => !f p)).length = K i) := fun i => by rw [← hK]
    have HK0 : Hid (K 0 = 0) := by rw [← hK]; rfl
    generalize hF : (fun i => (s.o.take i).filter f) = F at *
    have HF : Hid (∀ i, (s.o.take i).filter f = F i) := fun i => by rw [← hF]
    have HF0 : Hid (F 0 = []) := by rw [← hF]; rfl
    clear hK hF
    simp only [HK.out, HF.out] at HEND HNO HFY HFN HGN HLE
    simp only [← HN.out] at HEND
    have k00 : (.slice (some ⟨b, 0, none⟩) 0 c : Value) = .slice (some ⟨b, 0, none⟩) (K 0) c := by rw [HK0.out]
    go_enter Try.func32, Try.ntmps32
    go_wp2
    go_loopw [5, 6, 19] (fun u5 u6 u wr => ∃ i : Nat, i ≤ n ∧ u = .int .i64 i ∧ u6 = .slice (some ⟨b, 0, none⟩) (K i) c ∧ TK w wr b ∧ TR wr b c f s.o i cur.toList ∧ RP 48 wr w.heap.size u5 (F i)) (fun _ _ u _ => n - (intOf u).toNat)
    case atStart => exact ⟨0, by omega, rfl, by first | rfl | exact k00, TK.refl _ _, TR0.out, by rw [HF0.out]; exact RP.nil _ _ _⟩
    case round =>
      obtain ⟨i, hi, rfl, rfl, tk, tr, rt⟩ := hrel
      have HTK : Hid (TK w wr b) := tk
      have HTR : Hid (TR wr b c f s.o i cur.toList) := tr
      obtain ⟨ta, tc, rfl, -, -, -⟩ := rt.is.shape
      have HRT : Hid (RP 48 wr w.heap.size (.slice ta (F i).length tc) (F i)) := rt
      clear k00
      have hnb : n ≤ 1024 := HL4.out.1
      by_cases hin : i < n
      · have lt2 : (i : Int) < (n : Int) := by omega
        have hpc := HAT.out wr i hin tr
        obtain ⟨c0, c1, c2, c3⟩ := hpc
        have HMM : Hid (atP s.o i ∈ s.o) := HM.out i hin
        obtain ⟨l1, l2⟩ := HLE.out i
        have fy := HFY.out i hin
        have fn := HFN.out i hin
        have gn := HGN.out i hin
        have gy := HGY.out i hin
        have tyes := HYES.out
        have tno := HNO.out
        clear tk tr rt
        have hKy : f (atP s.o i) = true → K (i + 1) = K i := fun hp => by rw [← HK.out, ← HK.out, gy hp]
        generalize hx : atP s.o i = p at *
        obtain ⟨W1, hW1⟩ : ∃ W1, W1 = wr.alloc (.cells #[.int .i64 p.n, .int .i64 p.t, .int .i64 p.z, .bool p.a] 48) := ⟨_, rfl⟩
        have b1 : Below wr.heap.size wr W1 := by rw [hW1]; exact al_b _ _
        have g1 : PB W1 wr.heap.size 48 p := by rw [hW1]; exact PB.new _ _ _
        have cf := HCF.out W1 p (HTK.out.behind b1) HMM.out
        have HB1 : Hid (Below wr.heap.size wr W1) := b1
        have HG1 : Hid (PB W1 wr.heap.size 48 p) := g1
        obtain ⟨d0, d1, d2, d3⟩ := g1.pc
        simp only [Nat.zero_add] at d0 d1 d2 d3
        clear b1 g1
        obtain ⟨hp, hhp⟩ : ∃ hp, hp = wr.heap.size := ⟨_, rfl⟩
        rw [← hhp] at d0 d1 d2 d3 HG1
        generalize hz : (F i).length = z at *
        have HZ : Hid ((F i).length = z) := hz
        clear hz
        cases hfp : f p with
        | true =>
          have fy := fy hfp
          have HKY := hKy hfp
          have HFYY : Hid (F (i + 1) = F i ++ [p]) := fy
          have HTY : Hid (∀ W, TR W b c f s.o i cur.toList → TR W b c f s.o (i + 1) cur.toList) := fun W tr => tyes W i hin (by rw [hx]; exact hfp) tr
          have HKK : Hid (K (i + 1) = K i) := HKY
          rw [hfp] at cf
          clear fy fn gn gy tyes tno HKY hKy hfp
          go_wp2_with fail
          rw [← hW1, ← hhp]
          clear hW1 hhp
          refine cf.mono ?_
          rintro e w2 ⟨rfl, b2⟩
          have HB2 : Hid (Below wr.heap.size wr w2) := HB1.out.trans (b2.mono HB1.out.size)
          have g2 := HG1.out.kept b2
          obtain ⟨e0, e1, e2, e3⟩ := g2.pc
          simp only [Nat.zero_add] at e0 e1 e2 e3
          obtain ⟨W3, hW3⟩ : ∃ W3, W3 = w2.alloc (.cells #[.int .i64 p.n, .int .i64 p.t, .int .i64 p.z, .bool p.a] 48) := ⟨_, rfl⟩
          have b3 : Below wr.heap.size wr W3 := by rw [hW3]; exact HB2.out.trans ((al_b _ _).mono HB2.out.size)
          have HPR : Hid (W3.rangeAt w2.heap.size 0 p.c) := by rw [hW3]; exact (PB.new _ _ _).range
          have HA3 : Hid (RI 48 4 W3 w.heap.size (.slice ta z tc) ((F i).map Pk.c)) := HRT.out.below b3
          have HB3 : Hid (Below wr.heap.size wr W3) := b3
          have HS3 : Hid (w.heap.size ≤ W3.heap.size) := Nat.le_trans HTK.out.size b3.size
          clear cf b2 b3 g2 d0 d1 d2 d3
          go_wp2_with (at_builtin; rw [← hW3]; refine wpList_append_it rfl _ _ 40 48 4 32 (.agg #[.int .i64 0, .int .i64 0, .int .i64 0, .bool false]) rfl Try.underlying40 infoP rfl (by decide) (by decide) w.heap.size (.slice ta z tc) ((F i).map Pk.c) rfl HA3.out w2.heap.size p.c 1 rfl (pc_one p) rfl HPR.out (by rw [List.length_map, HZ.out]; have := HL4.out; omega) HS3.out (Hid.out ?_))
          unfold Hid
          intro v4 w4 r4 g4
          try rw [← hW3] at g4
          clear hW3
          have R4 : Hid (RP 48 w4 w.heap.size v4 (F (i + 1))) := by
            unfold Hid RP
            rw [HFYY.out, List.map_append]
            exact r4
          have TK4 : Hid (TK w w4 b) := (HTK.out.behind HB3.out).grown g4 (fun k hk => HRT.out.base hk)
          have TR4 : Hid (TR w4 b c f s.o (i + 1) cur.toList) := HTY.out w4 (HTR.out.of ((g4.block b (Nat.lt_of_lt_of_le HTR.out.lt HB3.out.size) (fun e => by have := HRT.out.base e.symm; have := HBB.out.1; omega)).trans (HB3.out.block b HTR.out.lt)))
          obtain ⟨va4, vc4, rfl, -, -, -⟩ := R4.out.is.shape
          clear r4 g4
          generalize (F (i + 1)).length = z4 at *
          go_wp2
          go_roundw
          case rel => exact ⟨i + 1, by omega, by go_num, by rw [HKK.out], TK4.out, TR4.out, R4.out⟩
          case measure => simp [intOf]; omega
        | false =>
          have fn := fn hfp
          have gn := gn hfp
          have HFNN : Hid (F (i + 1) = F i) := fn
          have HKK : Hid (K (i + 1) = K i + 1) := gn
          have HTN : Hid (∀ W, TR W b c f s.o i cur.toList → ∃ cur' : Array Value, W.heap[b]? = some (.cells cur' 48 (0, 0)) ∧ K i * 4 + 4 ≤ cur'.size ∧ TR (W.setRow b (cur'.toList.take (K i * 4) ++ p.c ++ cur'.toList.drop (K i * 4 + 4)).toArray) b c f s.o (i + 1) cur.toList) := fun W tr => by
            have := tno W i hin (by rw [hx]; exact hfp) tr
            rwa [hx] at this
          rw [hfp] at cf
          clear fy fn gn gy tyes tno hKy hfp
          go_wp2_with fail
          rw [← hW1, ← hhp]
          clear hW1 hhp
          refine cf.mono ?_
          rintro e w2 ⟨rfl, b2⟩
          have HB2 : Hid (Below wr.heap.size wr w2) := HB1.out.trans (b2.mono HB1.out.size)
          have g2 := HG1.out.kept b2
          obtain ⟨e0, e1, e2, e3⟩ := g2.pc
          simp only [Nat.zero_add] at e0 e1 e2 e3
          obtain ⟨W3, hW3⟩ : ∃ W3, W3 = w2.alloc (.cells #[.int .i64 p.n, .int .i64 p.t, .int .i64 p.z, .bool p.a] 48) := ⟨_, rfl⟩
          have b3 : Below wr.heap.size wr W3 := by rw [hW3]; exact HB2.out.trans ((al_b _ _).mono HB2.out.size)
          have HPR : Hid (W3.rangeAt w2.heap.size 0 p.c) := by rw [hW3]; exact (PB.new _ _ _).range
          have HB3 : Hid (Below wr.heap.size wr W3) := b3
          obtain ⟨cu, hcu, hcz, htn⟩ := HTN.out W3 (HTR.out.of (b3.block b HTR.out.lt))
          have HCU : Hid (W3.heap[b]? = some (.cells cu 48 (0, 0)) ∧ K i * 4 + 4 ≤ cu.size) := ⟨hcu, hcz⟩
          obtain ⟨W4, hW4⟩ : ∃ W4, W4 = W3.setRow b (cu.toList.take (K i * 4) ++ p.c ++ cu.toList.drop (K i * 4 + 4)).toArray := ⟨_, rfl⟩
          have HW4 : Hid (W4 = W3.setRow b (cu.toList.take (K i * 4) ++ (p.c ++ cu.toList.drop (K i * 4 + 4))).toArray) := by unfold Hid; rw [hW4, List.append_assoc]
          have TR4 : Hid (TR W4 b c f s.o (i + 1) cur.toList) := by rw [hW4]; exact htn
          have TK4 : Hid (TK w W4 b) := by rw [hW4]; exact (HTK.out.behind b3).row _
          have R4 : Hid (RP 48 W4 w.heap.size (.slice ta z tc) (F (i + 1))) := by
            rw [hW4, HFNN.out]
            exact (HRT.out.below b3).keep fun k cs hk hh => (setRow_other _ _ _ _ (fun e => by have := HRT.out.base hk; have := HBB.out.1; omega)).trans hh
          have hroom : K i + 1 ≤ c := by omega
          have HRM : Hid (K i + 1 ≤ c) := hroom
          clear cf b2 b3 g2 d0 d1 d2 d3 hW4 hcu hcz htn hroom
          go_wp2_with (at_builtin; rw [← hW3]; refine wpList_append_row rfl _ _ 40 48 4 32 (.agg #[.int .i64 0, .int .i64 0, .int .i64 0, .bool false]) rfl Try.underlying40 infoP b (K i) c cu rfl HCU.out.1 w2.heap.size p.c 1 rfl (pc_one p) rfl HPR.out HRM.out HCU.out.2 (Hid.out ?_))
          unfold Hid
          try rw [← hW3]
          rw [← HW4.out]
          clear HW4 hW3
          go_wp2
          go_roundw
          case rel => exact ⟨i + 1, by omega, by go_num, by rw [HKK.out], TK4.out, TR4.out, R4.out⟩
          case measure => simp [intOf]; omega
      · obtain rfl : i = n := by omega
        have lt2 : ¬ (i : Int) < (i : Int) := by omega
        have hz := HEND.out wr _ tk tr rt
        have HEE := HEND.out wr _ tk tr rt
        have HE2 : Hid _ := HEE
        obtain ⟨q0, -, -, -, f0, -, -, -⟩ := (HLB.out wr tk).lc
        clear tk tr rt hz HEE
        generalize K i = ki at *
        generalize (F i).length = z at *
        go_wp2
        go_ret
        exact ⟨_, rfl, HE2.out.1, _, HE2.out.2⟩
end Go.Proofs.Ytamjbmbflllbfaa
