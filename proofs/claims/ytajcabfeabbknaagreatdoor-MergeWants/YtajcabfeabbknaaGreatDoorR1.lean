/-
  What the document's Get, Size and Same answer.
  What the document's Check answers.
-/
import Derived.Test.YtajcabfeabbknaaGreatDoorCe
import Derived.Test.YtajcabfeabbknaaGreatDoorLg
import Derived.Test.YtajcabfeabbknaaGreatDoorRl
import Derived.Test.YtajcabfeabbknaaGreatDoorCp
namespace Go.Proofs.YtajcabfeabbknaaGreatDoor
open Go.RowKit

set_option maxHeartbeats 1000000 in
theorem rget_any (v : Value) (l : List En) (q : ByteArray) (w : World) (h : ES w v l) (hl : Lt l) :
    Calls Tryz.prog 41 #[v, .string q] w fun e w' => ∃ u, e = .returned (.tuple #[u, .bool (gotB l (dl q))]) ∧ EV w' u (got l (dl q)) ∧ Below w.heap.size w w' := by
  obtain ⟨a, c, rfl, g2, _, _⟩ := h.shape
  have HS : Hid (ES w (.slice a l.length c) l) := h
  have hn := hl.1
  obtain ⟨W1, hW1⟩ : ∃ W1, W1 = w.alloc (.cells #[.string ⟨#[]⟩, .bool false, .slice none 0 0] 46) := ⟨_, rfl⟩
  have b1 : Below w.heap.size w W1 := by rw [hW1]; exact (Below.refl _ _).alloc (Nat.le_refl _) _
  have K1 : W1.heap[w.heap.size]? = some (.cells #[.string ⟨#[]⟩, .bool false, .slice none 0 0] 46 (0, 0)) := by rw [hW1]; exact heap_alloc_new _ _
  obtain ⟨p0, p1, p2, f0, f1, f2⟩ := trio K1
  have B1 : Hid (Below w.heap.size w W1) := b1
  have S1 : Hid (ES W1 (.slice a l.length c) l) := h.kept b1
  have HHIT : Hid (∀ j, j < l.length → (∀ k, k < j → decide ((atE l k).p = q) = false) → decide ((atE l j).p = q) = true → got l (dl q) = atE l j ∧ gotB l (dl q) = true) := fun j hj h1 h2 => by
    have hf : fnd l (dl q) = j := by
      unfold fnd
      rw [← fp_eq]
      exact findIdx_of l _ j hj h1 h2
    unfold got gotB
    rw [hf]
    exact ⟨if_neg (by omega), decide_eq_true (by omega)⟩
  have HNO : Hid ((∀ k, k < l.length → decide ((atE l k).p = q) = false) → got l (dl q) = e0 ∧ gotB l (dl q) = false) := fun h1 => by
    have hf : fnd l (dl q) = l.length := by
      unfold fnd
      rw [← fp_eq]
      exact findIdx_none l _ h1
    unfold got gotB
    rw [hf]
    exact ⟨if_pos rfl, decide_eq_false (by simp)⟩
  generalize got l (dl q) = r at *
  generalize gotB l (dl q) = rb at *
  obtain ⟨n, hn'⟩ : ∃ n, n = l.length := ⟨_, rfl⟩
  have HN : Hid (n = l.length) := hn'
  rw [← hn'] at HS S1 HHIT HNO g2 hn ⊢
  clear h hl hn' b1 K1
  go_enter Tryz.func41, Tryz.ntmps41
  go_wp2_with fail
  rw [← hW1]
  clear hW1
  go_loop [6] (fun qv => ∃ j : Nat, j ≤ n ∧ qv = .int .i64 j ∧ ∀ k, k < j → decide ((atE l k).p = q) = false) (fun qv => n - (intOf qv).toNat)
  case atStart => exact ⟨0, by omega, rfl, fun k hk => by omega⟩
  case round =>
    obtain ⟨j, hj, rfl, ok⟩ := hrel
    have OK : Hid (∀ k, k < j → decide ((atE l k).p = q) = false) := ok
    clear ok
    by_cases hlt : j < n
    · have lt2 : (j : Int) < (n : Int) := by omega
      obtain ⟨b, off, ua, un, uc, rfl, c1, c2, c3, hun, s1⟩ := S1.out.at j (by rw [← HN.out]; exact hlt)
      have q1 : IntKind.i64.wrap ((j : Int) + 1) = ((j + 1 : Nat) : Int) := by simp [IntKind.wrap, IntKind.bits, IntKind.signed]; omega
      have tq := tl_beq (atE l j).p q
      have HT : Hid (decide ((atE l j).p = q) = true → r = atE l j ∧ rb = true) := HHIT.out j hlt OK.out
      have NX : Hid (decide ((atE l j).p = q) = false → ∀ k, k < j + 1 → decide ((atE l k).p = q) = false) := fun h k hk => by
        rcases Nat.lt_or_ge k j with h' | h'
        · exact OK.out k h'
        · rw [show k = j by omega]; exact h
      have SX : Hid (EV W1 (.agg #[.string (atE l j).p, .bool (atE l j).d, .slice ua un uc]) (atE l j)) := ⟨ua, un, uc, rfl, s1⟩
      have SL : Hid (Sl w (.slice ua un uc) (atE l j).z) := by
        obtain ⟨b', off', ua', un', uc', e1, -, -, c3', -, s1'⟩ := HS.out.at j (by rw [← HN.out]; exact hlt)
        cases e1
        have e2 := (B1.out.cell (World.block_lt_of_cell? _ _ c3')).trans c3'
        rw [c3] at e2
        cases e2
        exact s1'
      clear hun s1 OK HHIT
      generalize atE l j = x at *
      generalize decide (x.p = q) = sb at *
      cases sb with
      | true =>
        obtain ⟨hr, hrb⟩ := HT.out rfl
        have HR1 : Hid (r = x) := hr
        have HR2 : Hid (rb = true) := hrb
        clear HT NX hr hrb HNO
        go_wp2
        refine bodyPost_ret (v := .tuple #[.agg #[.string x.p, .bool x.d, .slice ua un uc], .bool true]) ?hres rfl ?_
        case hres => simp [results, Tryz.results41, go_sem, *]
        have bb : Below w.heap.size w (((W1.setCell ⟨w.heap.size, 0, none⟩ (.string x.p)).setCell ⟨w.heap.size, 1, none⟩ (.bool x.d)).setCell ⟨w.heap.size, 2, none⟩ (.slice ua un uc)) := ((B1.out.setCell (Nat.le_refl _) _).setCell (Nat.le_refl _) _).setCell (Nat.le_refl _) _
        refine ⟨_, by rw [HR2.out], ?_, bb⟩
        rw [HR1.out]
        exact ⟨ua, un, uc, rfl, SL.out.kept bb⟩
      | false =>
        have NX2 : Hid (∀ k, k < j + 1 → decide ((atE l k).p = q) = false) := NX.out rfl
        clear NX HT
        go_wp2
        exact ⟨⟨j + 1, by omega, by go_num, NX2.out⟩, by simp [intOf]; omega⟩
    · obtain rfl : j = n := by omega
      obtain ⟨hr, hrb⟩ := HNO.out OK.out
      have HR1 : Hid (r = e0) := hr
      have HR2 : Hid (rb = false) := hrb
      clear HNO HHIT OK hr hrb
      go_wp2
      refine bodyPost_ret (v := .tuple #[.agg #[.string ⟨#[]⟩, .bool false, .slice none 0 0], .bool false]) ?hres2 rfl ?_
      case hres2 => simp [results, Tryz.results41, go_sem, *]
      refine ⟨_, by rw [HR2.out], ?_, ?_⟩
      · rw [HR1.out]
        exact ⟨none, 0, 0, rfl, Sl.none _⟩
      · exact ((B1.out.setCell (Nat.le_refl _) _).setCell (Nat.le_refl _) _).setCell (Nat.le_refl _) _
end Go.Proofs.YtajcabfeabbknaaGreatDoor
namespace Go.Proofs.YtajcabfeabbknaaGreatDoor
open Go.RowKit
set_option maxRecDepth 100000

theorem ckP_got (A : List En) (q : List UInt8) : ckP A q = if q = [] then 0 else if gotB A q = false then 8 else if (got A q).d then 0 else 9 := by
  unfold ckP
  by_cases hq : q = []
  · rw [if_pos hq, if_pos hq]
  · rw [if_neg hq, if_neg hq]
    by_cases hf : fnd A q = A.length
    · have h1 : gotB A q = false := by unfold gotB; simp [hf]
      rw [if_pos h1]
      exact if_pos hf
    · have h1 : gotB A q = true := by unfold gotB; simp [hf]
      have h2 : got A q = atE A (fnd A q) := if_neg hf
      rw [if_neg (show ¬ A.findIdx (fun y => decide (y.k = q)) = A.length from hf), if_neg (show ¬ gotB A q = false by rw [h1]; exact Bool.noConfusion), h2]
      rfl
set_option maxHeartbeats 2000000 in
theorem one_any (v : Value) (l : List En) (i : Nat) (w : World) (h : ES w v l) (hl : Lt l) (hi : i < l.length) :
    Calls Tryz.prog 59 #[v, .int .i64 i] w fun e w' => e = .returned (.int .i64 (ckI l i)) ∧ Below w.heap.size w w' := by
  obtain ⟨a, c, rfl, g2, _, _⟩ := h.shape
  obtain ⟨b, off, ua, un, uc, rfl, d1, d2, d3, hun, hsl⟩ := h.at i hi
  have HS : Hid (ES w (.slice (some ⟨b, off, none⟩) l.length c) l) := h
  have hn := hl.1
  have hx := hl.at i
  have hm := hl.at (i - 1)
  obtain ⟨W1, hW1⟩ : ∃ W1, W1 = w.alloc (.cells #[.string (atE l i).p, .bool (atE l i).d, .slice ua un uc] 46) := ⟨_, rfl⟩
  have b1 : Below w.heap.size w W1 := by rw [hW1]; exact (Below.refl _ _).alloc (Nat.le_refl _) _
  have B1 : Hid (Below w.heap.size w W1) := b1
  have K1 : Hid (W1.heap[w.heap.size]? = some (.cells #[.string (atE l i).p, .bool (atE l i).d, .slice ua un uc] 46 (0, 0))) := by unfold Hid; rw [hW1]; exact heap_alloc_new _ _
  have HT : Hid (∀ W, Below W1.heap.size W1 W → W.heap[w.heap.size]? = some (.cells #[.string (atE l i).p, .bool (atE l i).d, .slice ua un uc] 46 (0, 0))) := fun W hb => (hb.block _ (lt_of_block K1.out)).trans K1.out
  have CC := rcheck_any (atE l i).p W1 (by unfold maxLen; omega)
  have CR : Hid (∀ w, Calls Tryz.prog 82 #[.string (atE l i).p] w fun e w' => e = .returned (.bool (res (atE l i).k)) ∧ w' = w) := fun w => rreserved_any (atE l i).p w
  have CPa : Hid (∀ w, Calls Tryz.prog 62 #[.string (atE l i).p] w fun e w' => e = .returned (.string (mk (par (atE l i).k))) ∧ w' = w) := fun w => rparent_any (atE l i).p w (by omega)
  have CL : Hid (∀ W, Calls Tryz.prog 61 #[.string (atE l (i - 1)).p, .string (atE l i).p] W fun e w' => e = .returned (.bool (les (atE l (i - 1)).k (atE l i).k)) ∧ Below W.heap.size W w') := fun W => rless_any _ _ W (by omega) (by omega)
  have CQ : Hid (∀ W, Below w.heap.size w W → Calls Tryz.prog 41 #[.slice (some ⟨b, off, none⟩) i c, .string (mk (par (atE l i).k))] W fun e w' => ∃ u, e = .returned (.tuple #[u, .bool (gotB (l.take i) (par (atE l i).k))]) ∧ EV w' u (got (l.take i) (par (atE l i).k)) ∧ Below W.heap.size W w') := fun W hb => by
    have := rget_any _ (l.take i) (mk (par (atE l i).k)) W ((HS.out.kept hb).take i (by omega)) (hl.take i)
    rwa [dl_mk] at this
  have HR : Hid (ckI l i = if chk (atE l i).k ≠ 0 then chk (atE l i).k else if res (atE l i).k = true then 6 else if 65536 < un then 5 else if (atE l i).d = true ∧ 0 < un then 9 else if 0 < i ∧ les (atE l (i - 1)).k (atE l i).k = false then 7 else if (mk (par (atE l i).k)).toList.isEmpty = true then 0 else if gotB (l.take i) (par (atE l i).k) = false then 8 else if (got (l.take i) (par (atE l i).k)).d then 0 else 9) := by
    unfold Hid
    have e : ((mk (par (atE l i).k)).toList.isEmpty = true) = (par (atE l i).k = []) := by
      rw [tol, dl_mk]
      cases par (atE l i).k <;> simp
    rw [hun, show ckI l i = _ from rfl]
    unfold ckI
    rw [ckP_got]
    simp only [e]
  have HAT : Hid (∀ W, Below w.heap.size w W → 0 < i → W.cell? ⟨b, off + (i - 1) * 3, none⟩ = some (.string (atE l (i - 1)).p)) := fun W hb h0 => by
    obtain ⟨b', off', ua', un', uc', e, q1, _⟩ := (HS.out.kept hb).at (i - 1) (by omega)
    cases e
    exact q1
  have hz : un ≤ 100000 := by rw [hun]; exact hx.2
  have hz2 : (un : Int) ≤ 100000 := by omega
  generalize ckI l i = r at *
  generalize gotB (l.take i) (par (atE l i).k) = gb at *
  generalize got (l.take i) (par (atE l i).k) = ge at *
  generalize les (atE l (i - 1)).k (atE l i).k = r2 at *
  generalize (atE l (i - 1)).p = lp at *
  generalize hpp : mk (par (atE l i).k) = pp at *
  obtain ⟨n, hn'⟩ : ∃ n, n = l.length := ⟨_, rfl⟩
  have HN : Hid (n = l.length) := hn'
  rw [← hn'] at HS g2 hn hi ⊢
  generalize chk (dl (atE l i).p) = k0 at *
  generalize res (dl (atE l i).p) = k1 at *
  generalize (atE l i).p = xp at *
  generalize (atE l i).d = xd at *
  have hin2 : (i : Int) < (n : Int) := by omega
  have hic : (i : Int) ≤ (c : Int) := by omega
  have gi0 : (0 : Int) ≤ (i : Int) := by omega
  clear h hl hsl hun hn' hpp b1 hx hm
  go_enter Tryz.func59, Tryz.ntmps59
  go_wp2_with fail
  rw [← hW1]
  refine CC.mono ?_
  rintro e w2 ⟨rfl, b2⟩
  have B2 : Hid (Below w.heap.size w w2) := B1.out.trans (b2.mono B1.out.size)
  obtain ⟨p0, p1, p2, -, -, -⟩ := trio (HT.out w2 b2)
  have D2 : Hid (Below W1.heap.size W1 w2) := b2
  clear CC b2 hW1 d1 d2 d3
  by_cases h0 : k0 = 0
  · subst h0
    have HR2 : Hid (r = if k1 = true then 6 else if 65536 < un then 5 else if xd = true ∧ 0 < un then 9 else if 0 < i ∧ r2 = false then 7 else if pp.toList.isEmpty = true then 0 else if gb = false then 8 else if ge.d then 0 else 9) := by unfold Hid; rw [HR.out, if_neg (by simp)]
    clear HR
    cases k1 with
    | true =>
      have HR3 : Hid (r = 6) := HR2.out
      clear HR2
      go_wp2_with (go_at_call 82; refine (CR.out _).mono ?_; rintro e wq ⟨rfl, hq⟩; replace hq := hq.symm; subst hq)
      go_ret
      exact ⟨by rw [HR3.out]; rfl, B2.out⟩
    | false =>
      have HR3 : Hid (r = if 65536 < un then 5 else if xd = true ∧ 0 < un then 9 else if 0 < i ∧ r2 = false then 7 else if pp.toList.isEmpty = true then 0 else if gb = false then 8 else if ge.d then 0 else 9) := HR2.out
      clear HR2
      by_cases h5 : 65536 < un
      · have HR4 : Hid (r = 5) := by unfold Hid; rw [HR3.out, if_pos h5]
        have h5' : 65536 < (un : Int) := by omega
        clear HR3
        go_wp2_with (go_at_call 82; refine (CR.out _).mono ?_; rintro e wq ⟨rfl, hq⟩; replace hq := hq.symm; subst hq)
        go_ret
        exact ⟨by rw [HR4.out]; rfl, B2.out⟩
      have h5' : ¬ 65536 < (un : Int) := by omega
      have HR4 : Hid (r = if xd = true ∧ 0 < un then 9 else if 0 < i ∧ r2 = false then 7 else if pp.toList.isEmpty = true then 0 else if gb = false then 8 else if ge.d then 0 else 9) := by unfold Hid; rw [HR3.out, if_neg h5]
      clear HR3
      by_cases h9 : xd = true ∧ 0 < un
      · obtain ⟨rfl, h9⟩ := h9
        have h9' : 0 < (un : Int) := by omega
        have HR5 : Hid (r = 9) := by unfold Hid; rw [HR4.out, if_pos ⟨rfl, h9⟩]
        clear HR4
        go_wp2_with (go_at_call 82; refine (CR.out _).mono ?_; rintro e wq ⟨rfl, hq⟩; replace hq := hq.symm; subst hq)
        go_ret
        exact ⟨by rw [HR5.out]; rfl, B2.out⟩
      have HR5 : Hid (r = if 0 < i ∧ r2 = false then 7 else if pp.toList.isEmpty = true then 0 else if gb = false then 8 else if ge.d then 0 else 9) := by unfold Hid; rw [HR4.out, if_neg h9]
      clear HR4
      rcases (show xd = false ∨ (xd = true ∧ un = 0) by cases xd <;> simp at h9 ⊢; omega) with rfl | ⟨rfl, rfl⟩
      · clear h9
        by_cases hn0 : 0 < i
        · have hn1 : 0 < (i : Int) := by omega
          have hcl := HAT.out w2 B2.out hn0
          have HCL : Hid (∀ W, Below w2.heap.size w2 W → W.cell? ⟨b, off + (i - 1) * 3, none⟩ = some (.string lp)) := fun W hb => (hb.cell (World.block_lt_of_cell? _ _ hcl)).trans hcl
          have HP0 : Hid (∀ W, Below w2.heap.size w2 W → W.cell? ⟨w.heap.size, 0, none⟩ = some (.string xp)) := fun W hb => (hb.cell (World.block_lt_of_cell? _ _ p0)).trans p0
          obtain ⟨m, hm⟩ : ∃ m, m = i - 1 := ⟨_, rfl⟩
          rw [← hm] at hcl HCL
          have q1 : IntKind.i64.wrap ((i : Int) - 1) = (m : Int) := by simp [IntKind.wrap, IntKind.bits, IntKind.signed]; omega
          have g0 : (0 : Int) ≤ (m : Int) := by omega
          have g1 : (m : Int) < (n : Int) := by omega
          clear hm
          have kd := HCL.out w2.drew (Below.refl _ _).drew
          have p0d := HP0.out w2.drew (Below.refl _ _).drew
          have cl := CL.out w2.drew
          go_wp2_with (go_at_call 82; refine (CR.out _).mono ?_; rintro e wq ⟨rfl, hq⟩; replace hq := hq.symm; subst hq)
          go_region_held3 (fun W => W.cell? ⟨b, off + m * 3, none⟩ = some (.string lp) ∧ W.cell? ⟨w.heap.size, 0, none⟩ = some (.string xp)) (first | exact ⟨hcl, p0⟩ | exact ⟨kd, p0d⟩ | exact ⟨k3, p3⟩) (first
            | (go_at_call 61; refine cl.mono ?_; rintro e w3 ⟨rfl, b3⟩; have d3 : Below w2.heap.size w2 w3 := (Below.refl w2.heap.size w2).drew.trans b3; have k3 := HCL.out w3 d3; have p3 := HP0.out w3 d3))
          have B3 : Hid (Below w.heap.size w w3) := B2.out.trans (d3.mono B2.out.size)
          cases r2 with
          | false =>
            have HR6 : Hid (r = 7) := by unfold Hid; rw [HR5.out, if_pos ⟨hn0, rfl⟩]
            clear HR5
            go_wp2
            go_ret
            exact ⟨by rw [HR6.out]; rfl, B3.out⟩
          | true =>
            have HR6 : Hid (r = if pp.toList.isEmpty = true then 0 else if gb = false then 8 else if ge.d then 0 else 9) := by unfold Hid; rw [HR5.out, if_neg (by simp)]
            clear HR5 cl b3 d3 kd p0d hcl
            have cq := CQ.out w3 B3.out
            by_cases hpe : pp.toList.isEmpty = true
            · have hpe2 := hpe
              have HR7 : Hid (r = 0) := by unfold Hid; rw [HR6.out, if_pos hpe]
              clear HR6 hpe
              go_wp2_with (go_at_call 62; refine (CPa.out _).mono ?_; rintro e wq ⟨rfl, hq⟩; replace hq := hq.symm; subst hq)
              go_ret
              exact ⟨by rw [HR7.out]; rfl, B3.out⟩
            · have hpe2 : pp.toList.isEmpty = false := by
                cases hb : pp.toList.isEmpty with
                | false => rfl
                | true => exact absurd hb hpe
              have HR7 : Hid (r = if gb = false then 8 else if ge.d then 0 else 9) := by unfold Hid; rw [HR6.out, if_neg hpe]
              clear HR6 hpe
              go_wp2_with (go_at_call 62; refine (CPa.out _).mono ?_; rintro e wq ⟨rfl, hq⟩; replace hq := hq.symm; subst hq)
              refine cq.mono ?_
              rintro e w4 ⟨u4, rfl, ⟨ya, yn, yc, rfl, -⟩, b4⟩
              have B5 : Hid (Below w.heap.size w (w4.alloc (.cells #[.string ge.p, .bool ge.d, .slice ya yn yc] 46))) := B3.out.trans ((b4.trans (((Below.refl _ _).alloc (Nat.le_refl _) _).mono b4.size)).mono B3.out.size)
              clear b4 cq
              cases gb with
              | false =>
                have HR8 : Hid (r = 8) := HR7.out
                clear HR7
                go_wp2
                go_ret
                exact ⟨by rw [HR8.out]; rfl, B5.out⟩
              | true =>
                have HR8 : Hid (r = if ge.d then 0 else 9) := HR7.out
                clear HR7
                generalize ge.d = gd at *
                cases gd with
                | true =>
                  have HR9 : Hid (r = 0) := HR8.out
                  clear HR8
                  go_wp2
                  go_ret
                  exact ⟨by rw [HR9.out]; rfl, B5.out⟩
                | false =>
                  have HR9 : Hid (r = 9) := HR8.out
                  clear HR8
                  go_wp2
                  go_ret
                  exact ⟨by rw [HR9.out]; rfl, B5.out⟩
        · have hn1 : ¬ 0 < (i : Int) := by omega
          have HR6 : Hid (r = if pp.toList.isEmpty = true then 0 else if gb = false then 8 else if ge.d then 0 else 9) := by unfold Hid; rw [HR5.out, if_neg (fun e => hn0 e.1)]
          clear HR5 HAT
          have dj : decide (0 < i) = false := decide_eq_false hn0
          have di : decide (0 < (i : Int)) = false := decide_eq_false hn1
          go_wp2_with (go_at_call 82; refine (CR.out _).mono ?_; rintro e wq ⟨rfl, hq⟩; replace hq := hq.symm; subst hq)
          go_quiet (fail)
          have bq : Below w2.heap.size w2 (w2.drewN nq) := ⟨rfl, rfl, rfl, Nat.le_refl _, fun _ _ => rfl⟩
          have B3 : Hid (Below w.heap.size w (w2.drewN nq)) := B2.out.trans (bq.mono B2.out.size)
          have p3 : (w2.drewN nq).cell? ⟨w.heap.size, 0, none⟩ = some (.string xp) := p0
          generalize w2.drewN nq = w3 at *
          clear bq
          have cq := CQ.out w3 B3.out
          by_cases hpe : pp.toList.isEmpty = true
          · have hpe2 := hpe
            have HR7 : Hid (r = 0) := by unfold Hid; rw [HR6.out, if_pos hpe]
            clear HR6 hpe
            go_wp2_with (go_at_call 62; refine (CPa.out _).mono ?_; rintro e wq ⟨rfl, hq⟩; replace hq := hq.symm; subst hq)
            go_ret
            exact ⟨by rw [HR7.out]; rfl, B3.out⟩
          · have hpe2 : pp.toList.isEmpty = false := by
              cases hb : pp.toList.isEmpty with
              | false => rfl
              | true => exact absurd hb hpe
            have HR7 : Hid (r = if gb = false then 8 else if ge.d then 0 else 9) := by unfold Hid; rw [HR6.out, if_neg hpe]
            clear HR6 hpe
            go_wp2_with (go_at_call 62; refine (CPa.out _).mono ?_; rintro e wq ⟨rfl, hq⟩; replace hq := hq.symm; subst hq)
            refine cq.mono ?_
            rintro e w4 ⟨u4, rfl, ⟨ya, yn, yc, rfl, -⟩, b4⟩
            have B5 : Hid (Below w.heap.size w (w4.alloc (.cells #[.string ge.p, .bool ge.d, .slice ya yn yc] 46))) := B3.out.trans ((b4.trans (((Below.refl _ _).alloc (Nat.le_refl _) _).mono b4.size)).mono B3.out.size)
            clear b4 cq
            cases gb with
            | false =>
              have HR8 : Hid (r = 8) := HR7.out
              clear HR7
              go_wp2
              go_ret
              exact ⟨by rw [HR8.out]; rfl, B5.out⟩
            | true =>
              have HR8 : Hid (r = if ge.d then 0 else 9) := HR7.out
              clear HR7
              generalize ge.d = gd at *
              cases gd with
              | true =>
                have HR9 : Hid (r = 0) := HR8.out
                clear HR8
                go_wp2
                go_ret
                exact ⟨by rw [HR9.out]; rfl, B5.out⟩
              | false =>
                have HR9 : Hid (r = 9) := HR8.out
                clear HR8
                go_wp2
                go_ret
                exact ⟨by rw [HR9.out]; rfl, B5.out⟩
      · clear h9
        by_cases hn0 : 0 < i
        · have hn1 : 0 < (i : Int) := by omega
          have hcl := HAT.out w2 B2.out hn0
          have HCL : Hid (∀ W, Below w2.heap.size w2 W → W.cell? ⟨b, off + (i - 1) * 3, none⟩ = some (.string lp)) := fun W hb => (hb.cell (World.block_lt_of_cell? _ _ hcl)).trans hcl
          have HP0 : Hid (∀ W, Below w2.heap.size w2 W → W.cell? ⟨w.heap.size, 0, none⟩ = some (.string xp)) := fun W hb => (hb.cell (World.block_lt_of_cell? _ _ p0)).trans p0
          obtain ⟨m, hm⟩ : ∃ m, m = i - 1 := ⟨_, rfl⟩
          rw [← hm] at hcl HCL
          have q1 : IntKind.i64.wrap ((i : Int) - 1) = (m : Int) := by simp [IntKind.wrap, IntKind.bits, IntKind.signed]; omega
          have g0 : (0 : Int) ≤ (m : Int) := by omega
          have g1 : (m : Int) < (n : Int) := by omega
          clear hm
          have kd := HCL.out w2.drew (Below.refl _ _).drew
          have p0d := HP0.out w2.drew (Below.refl _ _).drew
          have cl := CL.out w2.drew
          go_wp2_with (go_at_call 82; refine (CR.out _).mono ?_; rintro e wq ⟨rfl, hq⟩; replace hq := hq.symm; subst hq)
          go_region_held3 (fun W => W.cell? ⟨b, off + m * 3, none⟩ = some (.string lp) ∧ W.cell? ⟨w.heap.size, 0, none⟩ = some (.string xp)) (first | exact ⟨hcl, p0⟩ | exact ⟨kd, p0d⟩ | exact ⟨k3, p3⟩) (first
            | (go_at_call 61; refine cl.mono ?_; rintro e w3 ⟨rfl, b3⟩; have d3 : Below w2.heap.size w2 w3 := (Below.refl w2.heap.size w2).drew.trans b3; have k3 := HCL.out w3 d3; have p3 := HP0.out w3 d3))
          have B3 : Hid (Below w.heap.size w w3) := B2.out.trans (d3.mono B2.out.size)
          cases r2 with
          | false =>
            have HR6 : Hid (r = 7) := by unfold Hid; rw [HR5.out, if_pos ⟨hn0, rfl⟩]
            clear HR5
            go_wp2
            go_ret
            exact ⟨by rw [HR6.out]; rfl, B3.out⟩
          | true =>
            have HR6 : Hid (r = if pp.toList.isEmpty = true then 0 else if gb = false then 8 else if ge.d then 0 else 9) := by unfold Hid; rw [HR5.out, if_neg (by simp)]
            clear HR5 cl b3 d3 kd p0d hcl
            have cq := CQ.out w3 B3.out
            by_cases hpe : pp.toList.isEmpty = true
            · have hpe2 := hpe
              have HR7 : Hid (r = 0) := by unfold Hid; rw [HR6.out, if_pos hpe]
              clear HR6 hpe
              go_wp2_with (go_at_call 62; refine (CPa.out _).mono ?_; rintro e wq ⟨rfl, hq⟩; replace hq := hq.symm; subst hq)
              go_ret
              exact ⟨by rw [HR7.out]; rfl, B3.out⟩
            · have hpe2 : pp.toList.isEmpty = false := by
                cases hb : pp.toList.isEmpty with
                | false => rfl
                | true => exact absurd hb hpe
              have HR7 : Hid (r = if gb = false then 8 else if ge.d then 0 else 9) := by unfold Hid; rw [HR6.out, if_neg hpe]
              clear HR6 hpe
              go_wp2_with (go_at_call 62; refine (CPa.out _).mono ?_; rintro e wq ⟨rfl, hq⟩; replace hq := hq.symm; subst hq)
              refine cq.mono ?_
              rintro e w4 ⟨u4, rfl, ⟨ya, yn, yc, rfl, -⟩, b4⟩
              have B5 : Hid (Below w.heap.size w (w4.alloc (.cells #[.string ge.p, .bool ge.d, .slice ya yn yc] 46))) := B3.out.trans ((b4.trans (((Below.refl _ _).alloc (Nat.le_refl _) _).mono b4.size)).mono B3.out.size)
              clear b4 cq
              cases gb with
              | false =>
                have HR8 : Hid (r = 8) := HR7.out
                clear HR7
                go_wp2
                go_ret
                exact ⟨by rw [HR8.out]; rfl, B5.out⟩
              | true =>
                have HR8 : Hid (r = if ge.d then 0 else 9) := HR7.out
                clear HR7
                generalize ge.d = gd at *
                cases gd with
                | true =>
                  have HR9 : Hid (r = 0) := HR8.out
                  clear HR8
                  go_wp2
                  go_ret
                  exact ⟨by rw [HR9.out]; rfl, B5.out⟩
                | false =>
                  have HR9 : Hid (r = 9) := HR8.out
                  clear HR8
                  go_wp2
                  go_ret
                  exact ⟨by rw [HR9.out]; rfl, B5.out⟩
        · have hn1 : ¬ 0 < (i : Int) := by omega
          have HR6 : Hid (r = if pp.toList.isEmpty = true then 0 else if gb = false then 8 else if ge.d then 0 else 9) := by unfold Hid; rw [HR5.out, if_neg (fun e => hn0 e.1)]
          clear HR5 HAT
          have dj : decide (0 < i) = false := decide_eq_false hn0
          have di : decide (0 < (i : Int)) = false := decide_eq_false hn1
          go_wp2_with (go_at_call 82; refine (CR.out _).mono ?_; rintro e wq ⟨rfl, hq⟩; replace hq := hq.symm; subst hq)
          go_quiet (fail)
          have bq : Below w2.heap.size w2 (w2.drewN nq) := ⟨rfl, rfl, rfl, Nat.le_refl _, fun _ _ => rfl⟩
          have B3 : Hid (Below w.heap.size w (w2.drewN nq)) := B2.out.trans (bq.mono B2.out.size)
          have p3 : (w2.drewN nq).cell? ⟨w.heap.size, 0, none⟩ = some (.string xp) := p0
          generalize w2.drewN nq = w3 at *
          clear bq
          have cq := CQ.out w3 B3.out
          by_cases hpe : pp.toList.isEmpty = true
          · have hpe2 := hpe
            have HR7 : Hid (r = 0) := by unfold Hid; rw [HR6.out, if_pos hpe]
            clear HR6 hpe
            go_wp2_with (go_at_call 62; refine (CPa.out _).mono ?_; rintro e wq ⟨rfl, hq⟩; replace hq := hq.symm; subst hq)
            go_ret
            exact ⟨by rw [HR7.out]; rfl, B3.out⟩
          · have hpe2 : pp.toList.isEmpty = false := by
              cases hb : pp.toList.isEmpty with
              | false => rfl
              | true => exact absurd hb hpe
            have HR7 : Hid (r = if gb = false then 8 else if ge.d then 0 else 9) := by unfold Hid; rw [HR6.out, if_neg hpe]
            clear HR6 hpe
            go_wp2_with (go_at_call 62; refine (CPa.out _).mono ?_; rintro e wq ⟨rfl, hq⟩; replace hq := hq.symm; subst hq)
            refine cq.mono ?_
            rintro e w4 ⟨u4, rfl, ⟨ya, yn, yc, rfl, -⟩, b4⟩
            have B5 : Hid (Below w.heap.size w (w4.alloc (.cells #[.string ge.p, .bool ge.d, .slice ya yn yc] 46))) := B3.out.trans ((b4.trans (((Below.refl _ _).alloc (Nat.le_refl _) _).mono b4.size)).mono B3.out.size)
            clear b4 cq
            cases gb with
            | false =>
              have HR8 : Hid (r = 8) := HR7.out
              clear HR7
              go_wp2
              go_ret
              exact ⟨by rw [HR8.out]; rfl, B5.out⟩
            | true =>
              have HR8 : Hid (r = if ge.d then 0 else 9) := HR7.out
              clear HR7
              generalize ge.d = gd at *
              cases gd with
              | true =>
                have HR9 : Hid (r = 0) := HR8.out
                clear HR8
                go_wp2
                go_ret
                exact ⟨by rw [HR9.out]; rfl, B5.out⟩
              | false =>
                have HR9 : Hid (r = 9) := HR8.out
                clear HR8
                go_wp2
                go_ret
                exact ⟨by rw [HR9.out]; rfl, B5.out⟩
  · have HR2 : Hid (r = k0) := by unfold Hid; rw [HR.out, if_pos h0]
    have t0 : (k0 != 0) = true := by simp [h0]
    clear HR
    go_wp2
    go_ret
    exact ⟨by rw [HR2.out]; rfl, B2.out⟩
set_option maxHeartbeats 2000000 in
theorem rcheckT_any (v : Value) (l : List En) (w : World) (h : ES w v l) (hl : Lt l) :
    Calls Tryz.prog 26 #[v] w fun e w' => e = .returned (.int .i64 (ckT l)) ∧ Below w.heap.size w w' := by
  obtain ⟨a, c, rfl, g2, _, _⟩ := h.shape
  have HS : Hid (ES w (.slice a l.length c) l) := h
  have HL : Hid (Lt l) := hl
  have hn := hl.1
  have HLONG : Hid (64 < l.length → ckT l = 5) := ckT_long l
  have HHIT : Hid (¬ 64 < l.length → ∀ j, j < l.length → (∀ k, k < j → ckI l k = 0) → ckI l j ≠ 0 → ckT l = ckI l j) := ckT_hit l
  have HOK : Hid (¬ 64 < l.length → (∀ k, k < l.length → ckI l k = 0) → ckT l = 0) := ckT_ok l
  obtain ⟨n, hn'⟩ : ∃ n, n = l.length := ⟨_, rfl⟩
  have HN : Hid (n = l.length) := hn'
  rw [← hn'] at HS HLONG HHIT HOK g2 hn ⊢
  clear h hl hn'
  generalize ckT l = r at *
  by_cases h6 : 64 < n
  · have HR : Hid (r = 5) := HLONG.out h6
    have h6' : 64 < (n : Int) := by omega
    clear HLONG HHIT HOK
    go_enter Tryz.func26, Tryz.ntmps26
    go_wp2
    go_ret
    exact ⟨by rw [HR.out]; rfl, Below.refl _ _⟩
  have h6' : ¬ 64 < (n : Int) := by omega
  have HHIT2 : Hid (∀ j, j < n → (∀ k, k < j → ckI l k = 0) → ckI l j ≠ 0 → r = ckI l j) := HHIT.out h6
  have HOK2 : Hid ((∀ k, k < n → ckI l k = 0) → r = 0) := HOK.out h6
  clear HLONG HHIT HOK
  go_enter Tryz.func26, Tryz.ntmps26
  go_wp2
  go_loopw [3] (fun q wr => ∃ j : Nat, j ≤ n ∧ q = .int .i64 j ∧ (∀ k, k < j → ckI l k = 0) ∧ Below w.heap.size w wr) (fun q _ => n - (intOf q).toNat)
  case atStart => exact ⟨0, by omega, rfl, fun k hk => by omega, Below.refl _ _⟩
  case round =>
    obtain ⟨j, hj, rfl, ok, bel⟩ := hrel
    have HB : Hid (Below w.heap.size w wr) := bel
    have OK : Hid (∀ k, k < j → ckI l k = 0) := ok
    clear bel ok
    by_cases hlt : j < n
    · have lt2 : (j : Int) < (n : Int) := by omega
      have lt3 : (j : Int) ≤ (c : Int) := by omega
      have g0 : (0 : Int) ≤ (j : Int) := by omega
      obtain ⟨b, off, ua, un, uc, rfl, c1, c2, c3, hun, s1⟩ := (HS.out.kept HB.out).at j (by rw [← HN.out]; exact hlt)
      have q1 : IntKind.i64.wrap ((j : Int) + 1) = ((j + 1 : Nat) : Int) := by simp [IntKind.wrap, IntKind.bits, IntKind.signed]; omega
      have HT : Hid (ckI l j ≠ 0 → r = ckI l j) := HHIT2.out j hlt OK.out
      have NX : Hid (ckI l j = 0 → ∀ k, k < j + 1 → ckI l k = 0) := fun h k hk => by
        rcases Nat.lt_or_ge k j with h' | h'
        · exact OK.out k h'
        · rw [show k = j by omega]; exact h
      have CE := one_any _ l j wr (HS.out.kept HB.out) HL.out (by rw [← HN.out]; exact hlt)
      clear OK hun s1 c1 c2 c3
      generalize ckI l j = e at *
      go_wp2_with fail
      refine CE.mono ?_
      rintro e' w3 ⟨rfl, b3⟩
      have B3 : Hid (Below w.heap.size w w3) := HB.out.trans (b3.mono HB.out.size)
      clear b3 CE HHIT2
      by_cases he : e = 0
      · subst he
        have NX2 : Hid (∀ k, k < j + 1 → ckI l k = 0) := NX.out rfl
        clear NX HT
        go_wp2
        go_roundw
        case rel => exact ⟨j + 1, by omega, by go_num, NX2.out, B3.out⟩
        case measure => simp [intOf]; omega
      · have HT2 : Hid (r = e) := HT.out he
        have te : (e != 0) = true := by simp [he]
        clear NX HT
        go_wp2
        go_ret
        exact ⟨by rw [HT2.out]; rfl, B3.out⟩
    · obtain rfl : j = n := by omega
      have HR : Hid (r = 0) := HOK2.out OK.out
      clear HOK2 HHIT2 OK
      go_wp2
      go_ret
      exact ⟨by rw [HR.out]; rfl, HB.out⟩
end Go.Proofs.YtajcabfeabbknaaGreatDoor
