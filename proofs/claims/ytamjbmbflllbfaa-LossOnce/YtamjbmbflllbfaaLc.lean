/-
  What Lost, Next, Largest, Len, Flying answer.
-/
import Derived.Test.YtamjbmbflllbfaaLtl
namespace Go.Proofs.Ytamjbmbflllbfaa
open Go.RowKit
set_option maxRecDepth 100000

/-- Three variables that a closure captured: a ledger and two numbers. -/
structure CL3 (w : World) (b g : Nat) (now late : Int) : Prop where
  a0 : w.heap[b]? = some (.cells #[.pointer (some ⟨g, 0, none⟩)] 25 (0, 0))
  a1 : w.heap[b + 1]? = some (.cells #[.int .i64 now] 3 (0, 0))
  a2 : w.heap[b + 2]? = some (.cells #[.int .i64 late] 3 (0, 0))
theorem CL3.kept {w w' : World} {b g : Nat} {now late : Int} (h : CL3 w b g now late) (hb : Below w.heap.size w w') : CL3 w' b g now late := ⟨blk_kept h.a0 hb (blk_lt h.a0), blk_kept h.a1 hb (blk_lt h.a1), blk_kept h.a2 hb (blk_lt h.a2)⟩
theorem CL3.cells {w : World} {b g : Nat} {now late : Int} (h : CL3 w b g now late) : w.cell? ⟨b, 0, none⟩ = some (.pointer (some ⟨g, 0, none⟩)) ∧ w.cell? ⟨b + 1, 0, none⟩ = some (.int .i64 now) ∧ w.cell? ⟨b + 2, 0, none⟩ = some (.int .i64 late) := by
  obtain ⟨a0, a1, a2⟩ := h
  refine ⟨?_, ?_, ?_⟩
  · simp [World.cell?, a0]
  · simp [World.cell?, a1]
  · simp [World.cell?, a2]
set_option maxHeartbeats 4000000 in
theorem lost1_any (w : World) (b g : Nat) (v : Value) (s : Lg) (p : Pk) (now late : Int) (hc : CL3 w b g now late) (h : LB w g v s) (g0 : -1 ≤ s.g) (g1 : s.g ≤ 1099511627776) (n0 : 0 ≤ now) (n1 : now ≤ 1099511627776) (t0 : 0 ≤ late) (t1 : late ≤ 1099511627776) :
    Calls Try.prog 41 #[p.v, .pointer (some ⟨b, 0, none⟩), .pointer (some ⟨b + 1, 0, none⟩), .pointer (some ⟨b + 2, 0, none⟩)] w fun e w' => e = .returned (.bool (lstF s.g now late p)) ∧ Below w.heap.size w w' := by
  obtain ⟨W1, hW1⟩ : ∃ W1, W1 = w.alloc (.cells #[.int .i64 p.n, .int .i64 p.t, .int .i64 p.z, .bool p.a] 48) := ⟨_, rfl⟩
  have b1 : Below w.heap.size w W1 := by rw [hW1]; exact al_b _ _
  have p1 : PB W1 w.heap.size 48 p := by rw [hW1]; exact PB.new _ _ _
  have HB : Hid (Below w.heap.size w W1) := b1
  obtain ⟨c0, c1, c2, c3⟩ := p1.pc
  obtain ⟨d0, d1, d2, d3, -, -, -, -⟩ := (h.kept b1).lc
  obtain ⟨e0, e1, e2⟩ := (hc.kept b1).cells
  simp only [Nat.zero_add] at c0 c1 c2 c3
  have HM : Hid (lstF s.g now late p = (decide (p.n ≤ s.g - 3) || (decide (p.n < s.g) && decide (p.t ≤ now - late)))) := rfl
  have x1 : wrap64 (s.g - 3) = s.g - 3 := by unfold wrap64; omega
  have x2 : wrap64 (now - late) = now - late := by unfold wrap64; omega
  clear b1 p1 h hc g0 g1 n0 n1 t0 t1
  generalize lstF s.g now late p = R at *
  obtain ⟨pn, pt, pz, pa⟩ := p
  obtain ⟨so, sn, st, sg⟩ := s
  simp only at *
  by_cases y1 : pn ≤ sg - 3
  · have z1 : decide (pn ≤ sg - 3) = true := decide_eq_true y1
    have HR : Hid (R = true) := by unfold Hid; rw [HM.out, z1]; rfl
    clear HM
    go_enter Try.func41, Try.ntmps41
    go_upto_region 1 with fail
    rw [← hW1]
    clear hW1
    go_quiet (fail)
    have HB2 : Hid (Below w.heap.size w (W1.drewN nq)) := HB.out.trans ((drw W1 nq).mono HB.out.size)
    generalize W1.drewN nq = DW at *
    go_wp2
    go_ret
    exact ⟨by rw [HR.out]; rfl, HB2.out⟩
  · have z1 : decide (pn ≤ sg - 3) = false := decide_eq_false y1
    by_cases y2 : pn < sg
    · have z2 : decide (pn < sg) = true := decide_eq_true y2
      have HR : Hid (R = decide (pt ≤ now - late)) := by unfold Hid; rw [HM.out, z1, z2]; rfl
      clear HM
      go_enter Try.func41, Try.ntmps41
      go_upto_region 1 with fail
      rw [← hW1]
      clear hW1
      go_quiet (fail)
      have HB2 : Hid (Below w.heap.size w (W1.drewN nq)) := HB.out.trans ((drw W1 nq).mono HB.out.size)
      generalize W1.drewN nq = DW at *
      go_wp2
      go_ret
      exact ⟨by rw [HR.out]; rfl, HB2.out⟩
    · have z2 : decide (pn < sg) = false := decide_eq_false y2
      have HR : Hid (R = false) := by unfold Hid; rw [HM.out, z1, z2]; rfl
      clear HM
      go_enter Try.func41, Try.ntmps41
      go_upto_region 1 with fail
      rw [← hW1]
      clear hW1
      go_quiet (fail)
      have HB2 : Hid (Below w.heap.size w (W1.drewN nq)) := HB.out.trans ((drw W1 nq).mono HB.out.size)
      generalize W1.drewN nq = DW at *
      go_wp2
      go_ret
      exact ⟨by rw [HR.out]; rfl, HB2.out⟩
theorem al3 (w : World) (g : Nat) (now late : Int) : Below w.heap.size w (((w.alloc (.cells #[.pointer (some ⟨g, 0, none⟩)] 25)).alloc (.cells #[.int .i64 now] 3)).alloc (.cells #[.int .i64 late] 3)) ∧ CL3 (((w.alloc (.cells #[.pointer (some ⟨g, 0, none⟩)] 25)).alloc (.cells #[.int .i64 now] 3)).alloc (.cells #[.int .i64 late] 3)) w.heap.size g now late := by
  obtain ⟨W0, hW0⟩ : ∃ W0, W0 = w.alloc (.cells #[.pointer (some ⟨g, 0, none⟩)] 25) := ⟨_, rfl⟩
  obtain ⟨W1, hW1⟩ : ∃ W1, W1 = W0.alloc (.cells #[.int .i64 now] 3) := ⟨_, rfl⟩
  obtain ⟨W2, hW2⟩ : ∃ W2, W2 = W1.alloc (.cells #[.int .i64 late] 3) := ⟨_, rfl⟩
  rw [← hW0, ← hW1, ← hW2]
  have z0 : W0.heap.size = w.heap.size + 1 := by rw [hW0]; simp
  have z1 : W1.heap.size = w.heap.size + 2 := by rw [hW1]; simp [z0]
  have b0 : Below w.heap.size w W0 := by rw [hW0]; exact al_b _ _
  have b1 : Below W0.heap.size W0 W1 := by rw [hW1]; exact al_b _ _
  have b2 : Below W1.heap.size W1 W2 := by rw [hW2]; exact al_b _ _
  have g0 : W0.heap[w.heap.size]? = some (.cells #[.pointer (some ⟨g, 0, none⟩)] 25 (0, 0)) := by rw [hW0]; exact heap_alloc_new _ _
  have g1 : W1.heap[w.heap.size + 1]? = some (.cells #[.int .i64 now] 3 (0, 0)) := by rw [hW1, ← z0]; exact heap_alloc_new _ _
  have g2 : W2.heap[w.heap.size + 2]? = some (.cells #[.int .i64 late] 3 (0, 0)) := by rw [hW2, ← z1]; exact heap_alloc_new _ _
  have b01 := b0.trans (b1.mono b0.size)
  have g01 := blk_kept g0 b1 (blk_lt g0)
  exact ⟨b01.trans (b2.mono b01.size), ⟨blk_kept g01 b2 (blk_lt g01), blk_kept g1 b2 (blk_lt g1), g2⟩⟩
set_option maxHeartbeats 4000000 in
theorem lost_any (w : World) (B g : Nat) (v : Value) (s : Lg) (now late : Int) (h : LS w B g v s) (hB : B ≤ w.heap.size) :
    Calls Try.prog 20 #[.pointer (some ⟨g, 0, none⟩), .int .i64 now, .int .i64 late] w fun e w' => ∃ vt v', e = .returned vt ∧ RP 48 w' w.heap.size vt (lostP s now late) ∧ LS w' B g v' (lostL s now late) ∧ LU w w' g v v' := by
  obtain ⟨b3, c3⟩ := al3 w g now late
  obtain ⟨W3, hW3⟩ : ∃ W3, W3 = ((w.alloc (.cells #[.pointer (some ⟨g, 0, none⟩)] 25)).alloc (.cells #[.int .i64 now] 3)).alloc (.cells #[.int .i64 late] 3) := ⟨_, rfl⟩
  rw [← hW3] at b3 c3
  obtain ⟨e0, e1, e2⟩ := c3.cells
  have HB3 : Hid (Below w.heap.size w W3) := b3
  cases hn : tm now with
  | false =>
    have q1 : lostP s now late = [] := by unfold lostP; rw [hn]; rfl
    have q2 : lostL s now late = s := by unfold lostL; rw [hn]; rfl
    rw [q1, q2]
    have HE : Hid (RP 48 W3 w.heap.size (.slice none 0 0) [] ∧ LS W3 B g v s ∧ LU w W3 g v v) := ⟨RP.nil _ _ _, h.below b3, LU.of b3⟩
    have ct := isTime_any now W3
    rw [hn] at ct
    clear h b3 c3 q1 q2 hn
    go_enter Try.func20, Try.ntmps20
    go_upto_region 1 with fail
    try rw [← hW3]
    clear hW3
    go_wp2_with fail
    refine ct.mono ?_
    rintro e w2 ⟨rfl, q⟩
    subst q
    clear ct
    go_wp2
    go_ret
    first | exact ⟨_, _, rfl, HE.out⟩ | exact ⟨_, rfl, HE.out.1, _, HE.out.2⟩
  | true =>
    cases hl : tm late with
    | false =>
      have q1 : lostP s now late = [] := by unfold lostP; rw [hn, hl]; rfl
      have q2 : lostL s now late = s := by unfold lostL; rw [hn, hl]; rfl
      rw [q1, q2]
      have HE : Hid (RP 48 W3 w.heap.size (.slice none 0 0) [] ∧ LS W3 B g v s ∧ LU w W3 g v v) := ⟨RP.nil _ _ _, h.below b3, LU.of b3⟩
      have ct := isTime_any now W3
      have cu := isTime_any late W3
      rw [hn] at ct
      rw [hl] at cu
      clear h b3 c3 q1 q2 hn hl
      go_enter Try.func20, Try.ntmps20
      go_upto_region 1 with fail
      try rw [← hW3]
      clear hW3
      go_wp2_with fail
      refine ct.mono ?_
      rintro e w2 ⟨rfl, q⟩
      rw [q]
      clear ct q w2
      go_wp2_with fail
      refine cu.mono ?_
      rintro e w2 ⟨rfl, q⟩
      rw [q]
      clear cu q w2
      go_wp2
      go_ret
      first | exact ⟨_, _, rfl, HE.out⟩ | exact ⟨_, rfl, HE.out.1, _, HE.out.2⟩
    | true =>
      have q1 : lostP s now late = s.o.filter (lstF s.g now late) := by unfold lostP; rw [hn, hl]; rfl
      have q2 : lostL s now late = tkL s (lstF s.g now late) := by unfold lostL; rw [hn, hl]; rfl
      rw [q1, q2]
      obtain ⟨n0, n1⟩ := tm_iff.1 hn
      obtain ⟨t0, t1⟩ := tm_iff.1 hl
      have hgl := blk_lt h.bk
      have ct := isTime_any now W3
      have cu := isTime_any late W3
      rw [hn] at ct
      rw [hl] at cu
      have l3 := h.below b3
      have cl := takeL_any W3 B g v s (lstF s.g now late) (.pointer (some ⟨w.heap.size, 0, none⟩)) (.pointer (some ⟨w.heap.size + 1, 0, none⟩)) (.pointer (some ⟨w.heap.size + 2, 0, none⟩)) l3 (Nat.le_trans hB b3.size) (fun W p hk hs hp => by
        have hne := h.ne
        have hv : ∀ i, w.heap.size ≤ i → v.ownBlock ≠ some i := fun i hi e => by have := h.rs.lt e; omega
        refine lost1_any W w.heap.size g v s p now late ⟨(hk _ (blk_lt c3.a0) (hv _ (by omega))).trans c3.a0, (hk _ (blk_lt c3.a1) (hv _ (by omega))).trans c3.a1, (hk _ (blk_lt c3.a2) (hv _ (by omega))).trans c3.a2⟩ ((hk g (blk_lt l3.bk) hne).trans l3.bk) h.ok.g0 ?_ n0 n1 t0 t1
        have := h.ok.g1
        have := h.ok.n1
        omega)
      clear h b3 c3 q1 q2 hn hl l3 n0 n1 t0 t1 hgl
      generalize lstF s.g now late = f at *
      generalize hS : tkL s f = S3 at *
      clear hS
      generalize s.o.filter f = G at *
      go_enter Try.func20, Try.ntmps20
      go_upto_region 1 with fail
      try rw [← hW3]
      clear hW3
      go_wp2_with fail
      refine ct.mono ?_
      rintro e w2 ⟨rfl, q⟩
      rw [q]
      clear ct q w2
      go_wp2_with fail
      refine cu.mono ?_
      rintro e w2 ⟨rfl, q⟩
      rw [q]
      clear cu q w2
      go_wp2_with fail
      refine cl.mono ?_
      rintro e w4 ⟨vt, v4, rfl, rt, ls, q⟩
      obtain ⟨va, vc, rfl, -⟩ := id rt.is.shape
      have HZ : Hid (RP 48 w4 w.heap.size (.slice va G.length vc) G ∧ LS w4 B g v4 S3 ∧ LU w w4 g v v4) := ⟨rt.mono HB3.out.size, ls, LU.before HB3.out q⟩
      clear cl rt ls q
      generalize G.length = k at *
      go_wp2
      go_ret
      first | exact ⟨_, _, rfl, HZ.out⟩ | exact ⟨_, rfl, HZ.out.1, _, HZ.out.2⟩
set_option maxHeartbeats 1000000 in
theorem lost_nil (w : World) (now late : Int) :
    Calls Try.prog 20 #[.pointer none, .int .i64 now, .int .i64 late] w fun e w' => e = .returned (.slice none 0 0) ∧ Below w.heap.size w w' := by
  have HB : Hid (Below w.heap.size w (((w.alloc (.cells #[.pointer none] 25)).alloc (.cells #[.int .i64 now] 3)).alloc (.cells #[.int .i64 late] 3))) := (((Below.refl _ _).alloc (Nat.le_refl _) _).alloc (by simp) _).alloc (by simp; omega) _
  go_enter Try.func20, Try.ntmps20
  go_wp2
  go_ret
  exact ⟨rfl, HB.out⟩
set_option maxHeartbeats 1000000 in
theorem len_any (w : World) (B g : Nat) (v : Value) (s : Lg) (h : LS w B g v s) :
    Calls Try.prog 22 #[.pointer (some ⟨g, 0, none⟩)] w fun e w' => e = .returned (.int .i64 (s.o.length : Nat)) ∧ w' = w := by
  obtain ⟨a, c, rfl, -⟩ := h.rs.is.shape
  have k0 := h.bk.lc.c0
  clear h
  generalize s.o.length = n9 at *
  go_enter Try.func22, Try.ntmps22
  go_wp2
  go_ret
  exact ⟨rfl, rfl⟩
theorem len_nil (w : World) : Calls Try.prog 22 #[.pointer none] w fun e w' => e = .returned (.int .i64 0) ∧ w' = w := by
  go_enter Try.func22, Try.ntmps22
  go_wp2
  go_ret
  exact ⟨rfl, rfl⟩
def larg (s : Lg) : Int × Bool := if s.g = -1 then (0, false) else (s.g, true)
set_option maxHeartbeats 1000000 in
theorem largest_any (w : World) (g : Nat) (v : Value) (s : Lg) (h : LB w g v s) :
    Calls Try.prog 18 #[.pointer (some ⟨g, 0, none⟩)] w fun e w' => e = .returned (.tuple #[.int .i64 (larg s).1, .bool (larg s).2]) ∧ w' = w := by
  have k0 := h.lc.c3
  by_cases hg : s.g = -1
  · have e : larg s = (0, false) := by unfold larg; rw [if_pos hg]
    rw [e]
    rw [hg] at k0
    clear h e hg
    go_enter Try.func18, Try.ntmps18
    go_wp2
    exact bodyPost_ret (results_tmp2 rfl _ _ _) rfl ⟨rfl, rfl⟩
  · have e : larg s = (s.g, true) := by unfold larg; rw [if_neg hg]
    rw [e]
    have t1 : (s.g == -1) = false := by simpa using hg
    clear h e
    generalize s.g = k at *
    go_enter Try.func18, Try.ntmps18
    go_wp2
    exact bodyPost_ret (results_tmp2 rfl _ _ _) rfl ⟨rfl, rfl⟩
theorem largest_nil (w : World) : Calls Try.prog 18 #[.pointer none] w fun e w' => e = .returned (.tuple #[.int .i64 0, .bool false]) ∧ w' = w := by
  go_enter Try.func18, Try.ntmps18
  go_wp2
  exact bodyPost_ret (results_tmp2 rfl _ _ _) rfl ⟨rfl, rfl⟩
theorem fly_take {l : List Pk} {i : Nat} (h : i < l.length) : fly (l.take (i + 1)) = fly (l.take i) + (if (atP l i).a = true then (atP l i).z else 0) := by
  rw [takeP h, fly_app]
  simp [fly]
theorem fly_tb {l : List Pk} (h : ∀ p ∈ l, 1 ≤ p.z ∧ p.z ≤ 1200) (i : Nat) : 0 ≤ fly (l.take i) ∧ fly (l.take i) ≤ 1200 * (l.length : Int) := by
  have := fly_bd (l := l.take i) fun p hp => h p (List.mem_of_mem_take hp)
  have : (l.take i).length ≤ l.length := by rw [List.length_take]; omega
  omega
set_option maxHeartbeats 2000000 in
theorem flying_any (w : World) (B g : Nat) (v : Value) (s : Lg) (h : LS w B g v s) :
    Calls Try.prog 21 #[.pointer (some ⟨g, 0, none⟩)] w fun e w' => e = .returned (.int .i64 (fly s.o)) ∧ Below w.heap.size w w' := by
  have hz : ∀ p ∈ s.o, 1 ≤ p.z ∧ p.z ≤ 1200 := fun p hp => ⟨(h.ok.ea p hp).z0, (h.ok.ea p hp).z1⟩
  obtain ⟨a, c, rfl, -⟩ := id h.rs.is.shape
  have k0 := h.bk.lc.c0
  have HAT : Hid (∀ j, j < s.o.length → ∀ W, Below w.heap.size w W → ∃ b off, a = some ⟨b, off, none⟩ ∧ PC W b (off + j * 4) (atP s.o j)) := fun j hj W hb => (h.rs.is.kept hb).at j hj
  have HT : Hid (∀ i, i < s.o.length → fly (s.o.take (i + 1)) = fly (s.o.take i) + (if (atP s.o i).a = true then (atP s.o i).z else 0)) := fun i hi => fly_take hi
  have HF : Hid (∀ i, 0 ≤ fly (s.o.take i) ∧ fly (s.o.take i) ≤ 1228800) := fun i => by
    have := fly_tb hz i
    have := h.ok.ln
    omega
  have HE : Hid (fly (s.o.take s.o.length) = fly s.o) := by unfold Hid; rw [List.take_length]
  have hln := h.ok.ln
  clear h hz
  generalize fly s.o = R at *
  generalize hK : (fun i => fly (s.o.take i)) = K at *
  have HK : Hid (∀ i, fly (s.o.take i) = K i) := fun i => by rw [← hK]
  have HK0 : Hid (K 0 = 0) := by rw [← hK]; rfl
  clear hK
  simp only [HK.out] at HT HF HE
  obtain ⟨n9, hn9⟩ : ∃ n9, n9 = s.o.length := ⟨_, rfl⟩
  rw [← hn9] at HAT HT HE k0 hln
  clear hn9 HK
  go_enter Try.func21, Try.ntmps21
  go_wp2
  go_loopw [3, 13] (fun u3 u wr => ∃ i : Nat, i ≤ n9 ∧ u = .int .i64 i ∧ u3 = .int .i64 (K i) ∧ Below w.heap.size w wr) (fun _ u _ => n9 - (intOf u).toNat)
  case atStart => exact ⟨0, by omega, rfl, by rw [HK0.out], Below.refl _ _⟩
  case round =>
    obtain ⟨i, hi, rfl, rfl, bel⟩ := hrel
    have HB : Hid (Below w.heap.size w wr) := bel
    clear bel
    by_cases hin : i < n9
    · have lt2 : (i : Int) < (n9 : Int) := by omega
      obtain ⟨b, off, rfl, c0, c1, c2, c3⟩ := HAT.out i hin wr HB.out
      have ht := HT.out i hin
      obtain ⟨f0, f1⟩ := HF.out i
      obtain ⟨f2, f3⟩ := HF.out (i + 1)
      generalize atP s.o i = p at *
      generalize hk : K i = ki at *
      clear hk
      obtain ⟨W1, hW1⟩ : ∃ W1, W1 = wr.alloc (.cells #[.int .i64 p.n, .int .i64 p.t, .int .i64 p.z, .bool p.a] 48) := ⟨_, rfl⟩
      have HB1 : Hid (Below w.heap.size w (wr.alloc (.cells #[.int .i64 p.n, .int .i64 p.t, .int .i64 p.z, .bool p.a] 48))) := HB.out.trans ((al_b _ _).mono HB.out.size)
      clear hW1
      obtain ⟨pn, pt, pz, pa⟩ := p
      simp only at *
      cases pa with
      | true =>
        have ht2 : K (i + 1) = ki + pz := by simpa using ht
        have HT2 : Hid (K (i + 1) = ki + pz) := ht2
        have x1 : wrap64 (ki + pz) = ki + pz := by unfold wrap64; omega
        clear ht ht2
        go_wp2
        go_roundw
        case rel => exact ⟨i + 1, by omega, by go_num, by rw [HT2.out, x1], HB1.out⟩
        case measure => simp [intOf]; omega
      | false =>
        have HT2 : Hid (K (i + 1) = ki) := by unfold Hid; simpa using ht
        clear ht
        go_wp2
        go_roundw
        case rel => exact ⟨i + 1, by omega, by go_num, by rw [HT2.out], HB1.out⟩
        case measure => simp [intOf]; omega
    · obtain rfl : i = n9 := by omega
      have lt2 : ¬ (i : Int) < (i : Int) := by omega
      go_wp2
      go_ret
      exact ⟨by rw [← HE.out]; rfl, HB.out⟩
theorem flying_nil (w : World) : Calls Try.prog 21 #[.pointer none] w fun e w' => e = .returned (.int .i64 0) ∧ w' = w := by
  go_enter Try.func21, Try.ntmps21
  go_wp2
  go_ret
  exact ⟨rfl, rfl⟩
end Go.Proofs.Ytamjbmbflllbfaa
