/-
  What the document's blocked and stays answer.
-/
import Derived.Test.YtajcabfeabbknaaGreatDoorRw
import Derived.Test.YtajcabfeabbknaaGreatDoorRb
namespace Go.Proofs.YtajcabfeabbknaaGreatDoor
open Go.RowKit
set_option maxRecDepth 100000

set_option maxHeartbeats 2000000 in
theorem rblocked_any (v : Value) (s : List En) (q : ByteArray) (w : World) (h : ES w v s) (hl : Lt s) (hq : q.size ≤ 1000) :
    Calls Tryz.prog 60 #[v, .string q] w fun e w' => e = .returned (.bool (rblkN s 8 (dl q))) ∧ Below w.heap.size w w' := by
  have CG : Hid (∀ W (r : List UInt8), Below w.heap.size w W → Calls Tryz.prog 41 #[v, .string (mk r)] W fun e w' => ∃ u, e = .returned (.tuple #[u, .bool (gotB s r)]) ∧ EV w' u (got s r) ∧ Below W.heap.size W w') := fun W r hb => by
    have := rget_any v s (mk r) W (h.kept hb) hl
    rwa [dl_mk] at this
  have CP : Hid (∀ (r : List UInt8) W, r.length ≤ 1000 → Calls Tryz.prog 62 #[.string (mk r)] W fun e w' => e = .returned (.string (mk (par r))) ∧ w' = W) := fun r W hr => by
    have := rparent_any (mk r) W (by rw [mk_size]; omega)
    rwa [dl_mk] at this
  have HPL : Hid (∀ r : List UInt8, r.length ≤ 1000 → (par r).length ≤ 1000) := fun r hr => Nat.le_trans (par_le r) hr
  have HST : Hid (∀ (r : List UInt8) n, rblkN s (n + 1) r = ((gotB s (par r) && decide ((got s (par r)).d = false)) || rblkN s n (par r))) := fun _ _ => rfl
  have H9 : Hid (∀ r, rblkN s 0 r = false) := fun _ => rfl
  obtain ⟨q0, hq0⟩ : ∃ q0, q0 = dl q := ⟨_, rfl⟩
  have hqq : q = mk q0 := by rw [hq0, mk_dl]
  have hql : Hid (q0.length ≤ 1000) := by unfold Hid; rw [hq0, dl_len]; exact hq
  rw [← hq0]
  subst hqq
  clear hq0 hq
  obtain ⟨a, c, rfl, _, _, _⟩ := h.shape
  generalize s.length = n at *
  obtain ⟨K, hK⟩ : ∃ K : Nat → List UInt8 → Bool, K = rblkN s := ⟨_, rfl⟩
  rw [← hK] at HST H9 ⊢
  clear hK h hl
  generalize hr : K 8 q0 = r at *
  have HR : Hid (K 8 q0 = r) := hr
  clear hr
  go_enter Tryz.func60, Tryz.ntmps60
  go_wp2_with fail
  go_loopw [1, 5] (fun p i wr => ∃ (j : Nat) (t : List UInt8), j ≤ 8 ∧ p = .string (mk t) ∧ i = .int .i64 j ∧ t.length ≤ 1000 ∧ K (8 - j) t = r ∧ Below w.heap.size w wr) (fun _ i _ => 8 - (intOf i).toNat)
  case atStart => exact ⟨0, q0, by omega, rfl, rfl, hql.out, HR.out, Below.refl _ _⟩
  case round =>
    obtain ⟨j, t, hj, rfl, rfl, ht, hk, bel⟩ := hrel
    have HB : Hid (Below w.heap.size w wr) := bel
    have HK : Hid (K (8 - j) t = r) := hk
    have HT : Hid (t.length ≤ 1000) := ht
    clear bel hk ht HR hql
    by_cases hlt : j < 8
    · have lt2 : (j : Int) < 8 := by omega
      have q1 : IntKind.i64.wrap ((j : Int) + 1) = ((j + 1 : Nat) : Int) := by simp [IntKind.wrap, IntKind.bits, IntKind.signed]; omega
      have HK2 : Hid (r = ((gotB s (par t) && decide ((got s (par t)).d = false)) || K (8 - (j + 1)) (par t))) := by
        unfold Hid
        rw [← HK.out, show 8 - j = 8 - (j + 1) + 1 by omega, HST.out]
      have HT2 : Hid ((par t).length ≤ 1000) := HPL.out t HT.out
      have C1 := CP.out t wr HT.out
      have C2 := CG.out wr (par t) HB.out
      clear HK HT
      generalize par t = t2 at *
      generalize gotB s t2 = gb at *
      generalize got s t2 = ge at *
      go_wp2_with fail
      refine C1.mono ?_
      rintro e w1 ⟨rfl, hw⟩
      replace hw := hw.symm
      subst hw
      clear C1
      go_wp2_with fail
      refine C2.mono ?_
      rintro e w2 ⟨u2, rfl, ⟨ya, yn, yc, rfl, -⟩, b2⟩
      have b3 : Below wr.heap.size wr (w2.alloc (.cells #[.string ge.p, .bool ge.d, .slice ya yn yc] 46)) := b2.alloc b2.size _
      have B3 : Hid (Below w.heap.size w (w2.alloc (.cells #[.string ge.p, .bool ge.d, .slice ya yn yc] 46))) := HB.out.trans (b3.mono HB.out.size)
      clear C2 b2 b3
      generalize ge.p = gp at *
      generalize ge.d = gd at *
      cases gb with
      | false =>
        have HK3 : Hid (K (8 - (j + 1)) t2 = r) := HK2.out.symm
        clear HK2
        go_wp2
        go_roundw
        case rel => exact ⟨j + 1, t2, by omega, rfl, by go_num, HT2.out, HK3.out, B3.out⟩
        case measure => simp [intOf]; omega
      | true =>
      cases gd with
      | true =>
        have HK3 : Hid (K (8 - (j + 1)) t2 = r) := HK2.out.symm
        clear HK2
        go_wp2
        go_roundw
        case rel => exact ⟨j + 1, t2, by omega, rfl, by go_num, HT2.out, HK3.out, B3.out⟩
        case measure => simp [intOf]; omega
      | false =>
        have HK3 : Hid (r = true) := HK2.out
        clear HK2
        go_wp2
        go_ret
        exact ⟨by rw [HK3.out]; rfl, B3.out⟩
    · obtain rfl : j = 8 := by omega
      have HK2 : Hid (r = false) := by unfold Hid; rw [← HK.out]; exact H9.out t
      clear HK
      go_wp2
      go_ret
      exact ⟨by rw [HK2.out]; rfl, HB.out⟩
set_option maxHeartbeats 2000000 in
theorem rstays_any (v u : Value) (s : List En) (x : En) (P : Pol) (w : World) (h : ES w v s) (hl : Lt s) (hu : EV w u x) (hp : x.p.size ≤ 1000) :
    Calls Tryz.prog 27 #[v, u, .agg #[.bool P.del, .bool P.bak]] w fun e w' => e = .returned (.bool (rsty s P.del x)) ∧ Below w.heap.size w w' := by
  obtain ⟨xa, xn, xc, rfl, sl⟩ := hu
  obtain ⟨W1, hW1⟩ : ∃ W1, W1 = (w.alloc (.cells #[.string x.p, .bool x.d, .slice xa xn xc] 46)).alloc (.cells #[.bool P.del, .bool P.bak] 24) := ⟨_, rfl⟩
  have b1 : Below w.heap.size w W1 := by rw [hW1]; exact ((Below.refl _ _).alloc (Nat.le_refl _) _).alloc (by simp) _
  have K1 : W1.heap[w.heap.size]? = some (.cells #[.string x.p, .bool x.d, .slice xa xn xc] 46 (0, 0)) := by rw [hW1, heap_alloc_old _ _ (by simp)]; exact heap_alloc_new _ _
  have K2 : W1.cell? ⟨w.heap.size + 1, 0, none⟩ = some (.bool P.del) := by rw [hW1, World.cell?_alloc_at _ _ _ _ (by simp)]; rfl
  have HX : Hid (∀ W, Below W1.heap.size W1 W → W.heap[w.heap.size]? = some (.cells #[.string x.p, .bool x.d, .slice xa xn xc] 46 (0, 0)) ∧ W.cell? ⟨w.heap.size + 1, 0, none⟩ = some (.bool P.del)) := fun W hb => ⟨(hb.block _ (lt_of_block K1)).trans K1, (hb.cell (World.block_lt_of_cell? _ _ K2)).trans K2⟩
  have B1 : Hid (Below w.heap.size w W1) := b1
  have CG := rget_any v s x.p W1 (h.kept b1) hl
  have CB : Hid (∀ W, Below w.heap.size w W → Calls Tryz.prog 60 #[v, .string x.p] W fun e w' => e = .returned (.bool (rblkN s 8 (dl x.p))) ∧ Below W.heap.size W w') := fun W hb => rblocked_any v s x.p W (h.kept hb) hl hp
  have SX : Hid (∀ W, Below w.heap.size w W → Sl W (.slice xa xn xc) x.z) := fun W hb => sl.kept hb
  have HR : Hid (rsty s P.del x = if gotB s (dl x.p) then (if x.d then (got s (dl x.p)).d else !(got s (dl x.p)).d && decide (x.z = (got s (dl x.p)).z)) else !rblkN s 8 (dl x.p) && !P.del) := rfl
  obtain ⟨a, c, rfl, _, _, _⟩ := h.shape
  generalize rsty s P.del x = r at *
  generalize rblkN s 8 (dl x.p) = bb at *
  generalize gotB s (dl x.p) = gb at *
  generalize got s (dl x.p) = y at *
  generalize s.length = n at *
  obtain ⟨p0, p1, p2, -, -, -⟩ := trio K1
  rw [hW1] at p0 p1 p2
  clear h hl b1 K1 K2 sl hp
  go_enter Tryz.func27, Tryz.ntmps27
  go_wp2_with fail
  rw [← hW1]
  clear hW1 p0 p1 p2
  refine CG.mono ?_
  rintro e w2 ⟨u2, rfl, ⟨ya, yn, yc, rfl, sy⟩, b2⟩
  obtain ⟨W3, hW3⟩ : ∃ W3, W3 = w2.alloc (.cells #[.string y.p, .bool y.d, .slice ya yn yc] 46) := ⟨_, rfl⟩
  have b3 : Below w2.heap.size w2 W3 := by rw [hW3]; exact (Below.refl _ _).alloc (Nat.le_refl _) _
  have D3 : Below W1.heap.size W1 W3 := b2.trans (b3.mono b2.size)
  have B3 : Hid (Below w.heap.size w W3) := B1.out.trans (D3.mono B1.out.size)
  have K3 : W3.heap[w2.heap.size]? = some (.cells #[.string y.p, .bool y.d, .slice ya yn yc] 46 (0, 0)) := by rw [hW3]; exact heap_alloc_new _ _
  obtain ⟨p0, p1, p2, -, -, -⟩ := trio (HX.out _ D3).1
  obtain ⟨q0, q1, q2, -, -, -⟩ := trio K3
  have pd := (HX.out _ D3).2
  have cb := CB.out _ B3.out
  have B3' : Hid (Below w.heap.size w (w2.alloc (.cells #[.string y.p, .bool y.d, .slice ya yn yc] 46))) := by rw [← hW3]; exact B3.out
  have s1 : Sl (w2.alloc (.cells #[.string y.p, .bool y.d, .slice ya yn yc] 46)) (.slice xa xn xc) x.z := by rw [← hW3]; exact SX.out _ B3.out
  have s2 : Sl (w2.alloc (.cells #[.string y.p, .bool y.d, .slice ya yn yc] 46)) (.slice ya yn yc) y.z := by rw [← hW3]; exact sy.kept b3
  rw [hW3] at p0 p1 p2 q0 q1 q2 pd
  clear CG b2 b3 D3 HX K3 CB SX sy
  generalize hyp : y.p = yp at *
  generalize hyd : y.d = yd at *
  generalize x.p = xp at *
  generalize hxd : x.d = xd at *
  generalize hpd : P.del = pdl at *
  clear hyp hyd hxd hpd
  cases gb with
  | false =>
    have HR2 : Hid (r = (!bb && !pdl)) := HR.out
    clear HR s1 s2 B3'
    go_wp2_with fail
    rw [← hW3]
    refine cb.mono ?_
    rintro e w4 ⟨rfl, b4⟩
    have B4 : Hid (Below w.heap.size w w4) := B3.out.trans (b4.mono B3.out.size)
    have pd4 : w4.cell? ⟨w.heap.size + 1, 0, none⟩ = some (.bool pdl) := by
      rw [← hW3] at pd
      exact (b4.cell (World.block_lt_of_cell? _ _ pd)).trans pd
    clear cb b4 p0 p1 p2 q0 q1 q2 pd hW3
    cases bb <;> cases pdl
    all_goals
      go_wp2
      go_ret
      exact ⟨by rw [HR2.out]; rfl, B4.out⟩
  | true =>
    clear cb hW3
    cases xd with
    | true =>
      have HR2 : Hid (r = yd) := HR.out
      clear HR s1 s2
      go_wp2
      go_ret
      exact ⟨by rw [HR2.out]; rfl, B3'.out⟩
    | false =>
      have HR2 : Hid (r = (!yd && decide (x.z = y.z))) := HR.out
      clear HR
      cases yd with
      | true =>
        clear s1 s2
        go_wp2
        go_ret
        exact ⟨by rw [HR2.out]; rfl, B3'.out⟩
      | false =>
        have tz := strB_beq s1.bytes s2.bytes
        have v1 := s1.conv
        have v2 := s2.conv
        generalize decide (x.z = y.z) = t3 at *
        generalize strB x.z = xs at *
        generalize strB y.z = ys at *
        clear s1 s2
        go_wp2
        go_ret
        exact ⟨by rw [HR2.out]; rfl, B3'.out⟩
end Go.Proofs.YtajcabfeabbknaaGreatDoor
