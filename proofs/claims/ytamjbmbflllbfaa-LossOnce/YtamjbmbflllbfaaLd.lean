/-
  What Next, Oldest, Fork answer.
-/
import Derived.Test.YtamjbmbflllbfaaLa
import Derived.Test.YtamjbmbflllbfaaLc
namespace Go.Proofs.Ytamjbmbflllbfaa
open Go.RowKit Go.Shelf
set_option maxRecDepth 100000

set_option maxHeartbeats 4000000 in
theorem next_any (w : World) (B g : Nat) (v : Value) (s : Lg) (late : Int) (h : LS w B g v s) :
    Calls Try.prog 16 #[.pointer (some ⟨g, 0, none⟩), .int .i64 late] w fun e w' => e = .returned (.tuple #[.int .i64 (nxt s late).1, .bool (nxt s late).2]) ∧ Below w.heap.size w w' := by
  have CL : Hid (∀ k, Calls Try.prog 22 #[.pointer (some ⟨g, 0, none⟩)] (w.drewN k) fun e w' => e = .returned (.int .i64 (s.o.length : Nat)) ∧ w' = w.drewN k) := fun k => len_any _ B g v s (h.below (drw w k))
  have CT : Hid (∀ k, Calls Try.prog 37 #[.int .i64 late] (w.drewN k) fun e w' => e = .returned (.bool (tm late)) ∧ w' = w.drewN k) := fun k => isTime_any late _
  obtain ⟨a, c, rfl, -⟩ := id h.rs.is.shape
  have k0 := h.bk.lc.c0
  have k3 := h.bk.lc.c3
  by_cases hz : s.o = []
  · have e : nxt s late = (0, false) := by unfold nxt; rw [if_neg (fun h => h.1 hz)]
    rw [e]
    rw [hz] at CL k0
    simp only [List.length_nil, Int.natCast_zero] at CL
    clear h e hz
    go_enter Try.func16, Try.ntmps16
    go_wp2_with fail
    go_quiet ((go_at_call 22; exact Calls.quiet_of_same (CL.out _)))
    have BD : Hid (Below w.heap.size w (w.drewN nq)) := drw w nq
    generalize w.drewN nq = DW at *
    go_wp2
    exact bodyPost_ret (results_tmp2 rfl _ _ _) rfl ⟨rfl, BD.out⟩
  · have hp := List.length_pos_iff.2 hz
    obtain ⟨b, off, rfl, c0, c1, c2, c3⟩ := h.rs.is.at 0 hp
    simp only [Nat.zero_mul, Nat.add_zero] at c0 c1 c2 c3
    have hq := h.ok.ea _ (atP_mem _ 0 hp)
    have HX : Hid (nxt s late = if (atP s.o 0).n < s.g ∧ tm late = true then ((atP s.o 0).t + late, true) else (0, false)) := by
      unfold Hid nxt
      by_cases q : (atP s.o 0).n < s.g ∧ tm late = true
      · rw [if_pos q, if_pos ⟨hz, q⟩]
      · rw [if_neg q, if_neg (fun e => q e.2)]
    have t0 := hq.t0
    have t1 : (atP s.o 0).t ≤ 1099511627776 := by have := hq.t1; have := h.ok.t1; omega
    have l0 : ((s.o.length : Int) == 0) = false := by simp; omega
    have l1 : (0 : Int) < (s.o.length : Int) := by omega
    clear h hz hq
    generalize nxt s late = R at *
    generalize atP s.o 0 = p at *
    generalize s.o.length = n9 at *
    by_cases hg : p.n < s.g
    · have y1 : decide (s.g ≤ p.n) = false := decide_eq_false (by omega)
      have y2 : ¬ s.g ≤ p.n := by omega
      cases hl : tm late with
      | true =>
        obtain ⟨u0, u1⟩ := tm_iff.1 hl
        have HR : Hid (R = (p.t + late, true)) := by unfold Hid; rw [HX.out, if_pos ⟨hg, hl⟩]
        have x1 : wrap64 (p.t + late) = p.t + late := by unfold wrap64; omega
        rw [hl] at CT
        have HK : Hid (∀ k, (w.drewN k).cell? ⟨g, 0, none⟩ = some (.slice (some ⟨b, off, none⟩) n9 c) ∧ (w.drewN k).cell? ⟨b, off + 1, none⟩ = some (.int .i64 p.t)) := fun k => ⟨k0, c1⟩
        clear HX hl
        go_enter Try.func16, Try.ntmps16
        go_wp2_with fail
        go_quiet (first | (go_at_call 22; exact Calls.quiet_of_same (CL.out _)) | (go_at_call 37; exact Calls.quiet_of_same (CT.out _)))
        have BD : Hid (Below w.heap.size w (w.drewN nq)) := drw w nq
        obtain ⟨k0, c1⟩ := HK.out nq
        generalize w.drewN nq = DW at *
        go_wp2
        exact bodyPost_ret (results_tmp2 rfl _ _ _) rfl ⟨by rw [HR.out]; rfl, BD.out⟩
      | false =>
        have HR : Hid (R = (0, false)) := by unfold Hid; rw [HX.out, if_neg (fun e => by rw [hl] at e; cases e.2)]
        rw [hl] at CT
        clear HX hl
        go_enter Try.func16, Try.ntmps16
        go_wp2_with fail
        go_quiet (first | (go_at_call 22; exact Calls.quiet_of_same (CL.out _)) | (go_at_call 37; exact Calls.quiet_of_same (CT.out _)))
        have BD : Hid (Below w.heap.size w (w.drewN nq)) := drw w nq
        generalize w.drewN nq = DW at *
        go_wp2
        exact bodyPost_ret (results_tmp2 rfl _ _ _) rfl ⟨by rw [HR.out]; rfl, BD.out⟩
    · have y1 : decide (s.g ≤ p.n) = true := decide_eq_true (by omega)
      have y2 : s.g ≤ p.n := by omega
      have HR : Hid (R = (0, false)) := by unfold Hid; rw [HX.out, if_neg (fun e => hg e.1)]
      clear HX
      go_enter Try.func16, Try.ntmps16
      go_wp2_with fail
      go_quiet (first | (go_at_call 22; exact Calls.quiet_of_same (CL.out _)) | (go_at_call 37; exact Calls.quiet_of_same (CT.out _)))
      have BD : Hid (Below w.heap.size w (w.drewN nq)) := drw w nq
      generalize w.drewN nq = DW at *
      go_wp2
      exact bodyPost_ret (results_tmp2 rfl _ _ _) rfl ⟨by rw [HR.out]; rfl, BD.out⟩
set_option maxHeartbeats 1000000 in
theorem next_nil (w : World) (late : Int) :
    Calls Try.prog 16 #[.pointer none, .int .i64 late] w fun e w' => e = .returned (.tuple #[.int .i64 0, .bool false]) ∧ Below w.heap.size w w' := by
  have CL : Hid (∀ k, Calls Try.prog 22 #[.pointer none] (w.drewN k) fun e w' => e = .returned (.int .i64 0) ∧ w' = w.drewN k) := fun k => len_nil _
  go_enter Try.func16, Try.ntmps16
  go_wp2_with fail
  go_quiet ((go_at_call 22; exact Calls.quiet_of_same (CL.out _)))
  have BD : Hid (Below w.heap.size w (w.drewN nq)) := drw w nq
  generalize w.drewN nq = DW at *
  go_wp2
  exact bodyPost_ret (results_tmp2 rfl _ _ _) rfl ⟨rfl, BD.out⟩
/-- The oldest one that asks. -/
def oldP (l : List Pk) : Pk := if oldI l < l.length then atP l (oldI l) else pk0
def oldB (l : List Pk) : Bool := decide (oldI l < l.length)
theorem sizeP : (Try.prog.info? 48).map (·.size) = some 4 := by kernel_rfl
theorem sizeQ : (Try.prog.info? 29).map (·.size) = some 4 := by kernel_rfl
theorem retOl {tmps : Array Value} {w : World} {g : Nat} {cs : Array Value} {t : TypeId} {fr : Nat × Nat} (hp : tmps.getD 2 undef = .pointer (some ⟨g, 0, none⟩))
    (hg : w.heap[g]? = some (.cells cs t fr)) (hl : cs.size = 4) : (results Try.f17 tmps).run Try.prog w = .ok (.tuple #[.agg cs, tmps.getD 3 undef]) w := by
  have hld : (loadVar 48 ⟨g, 0, none⟩).run Try.prog w = .ok (.agg cs) w := run_loadVar_row w g t 48 cs fr _ hg Try.underlying48 rfl (by rw [hl]; exact sizeP)
  have hr : Try.f17.results = #[.cell 2 48, .tmp 3] := rfl
  have hp' : tmps[2]?.getD undef = .pointer (some ⟨g, 0, none⟩) := by simpa using hp
  simp [results, hp', asAddr, hld]
theorem pk_one4 (p : Pk) : (#[.int .i64 p.n, .int .i64 p.t, .int .i64 p.z, .bool p.a] : Array Value).all (·.oneCell') = true := by simp [Value.oneCell']
set_option maxHeartbeats 4000000 in
theorem oldest_any (w : World) (B g : Nat) (v : Value) (s : Lg) (h : LS w B g v s) :
    Calls Try.prog 17 #[.pointer (some ⟨g, 0, none⟩)] w fun e w' => e = .returned (.tuple #[(oldP s.o).v, .bool (oldB s.o)]) ∧ Below w.heap.size w w' := by
  obtain ⟨W1, hW1⟩ : ∃ W1, W1 = w.alloc (.cells #[.int .i64 0, .int .i64 0, .int .i64 0, .bool false] 48) := ⟨_, rfl⟩
  have b1 : Below w.heap.size w W1 := by rw [hW1]; exact al_b _ _
  have p1 : PB W1 w.heap.size 48 pk0 := by rw [hW1]; exact PB.new _ _ pk0
  have HB1 : Hid (Below w.heap.size w W1) := b1
  have HP1 : Hid (PB W1 w.heap.size 48 pk0) := p1
  have h1 := h.below b1
  have ci := idx_any W1 v s.o h1.rs.is (by have := h.ok.ln; omega)
  have HL1 : Hid (LS W1 B g v s) := h1
  obtain ⟨a, c, rfl, -⟩ := id h.rs.is.shape
  have k0 := h1.bk.lc.c0
  have hln := h.ok.ln
  by_cases hm : oldI s.o < s.o.length
  · have e1 : oldP s.o = atP s.o (oldI s.o) := by unfold oldP; rw [if_pos hm]
    have e2 : oldB s.o = true := decide_eq_true hm
    have e3 : idxI s.o = (oldI s.o : Int) := by unfold idxI; rw [if_pos hm]
    rw [e1, e2]
    rw [e3] at ci
    have HAT : Hid (∀ W, Below W1.heap.size W1 W → ∃ b off, a = some ⟨b, off, none⟩ ∧ PC W b (off + oldI s.o * 4) (atP s.o (oldI s.o))) := fun W hb => (h1.rs.is.kept hb).at _ hm
    clear h h1 b1 p1 e1 e2 e3
    generalize hk : oldI s.o = k at *
    clear hk
    generalize atP s.o k = p at *
    obtain ⟨n9, hn9⟩ : ∃ n9, n9 = s.o.length := ⟨_, rfl⟩
    rw [← hn9] at ci HL1 k0 hm hln
    clear hn9
    have l1 : (k : Int) < (n9 : Int) := by omega
    have l0 : (0 : Int) ≤ (k : Int) := by omega
    have l2 : ¬ (k : Int) < 0 := by omega
    obtain ⟨gp, hgp⟩ : ∃ gp, gp = w.heap.size := ⟨_, rfl⟩
    rw [← hgp] at HP1
    go_enter Try.func17, Try.ntmps17
    go_upto_region 1 with fail
    try rw [← hW1]
    try rw [← hgp]
    have HGP : Hid (gp = w.heap.size) := hgp
    clear hW1 hgp
    go_wp2_with fail
    refine ci.mono ?_
    rintro e w2 ⟨rfl, b2⟩
    have HB2 : Hid (Below w.heap.size w w2) := HB1.out.trans (b2.mono HB1.out.size)
    have HP2 : Hid (PB w2 gp 48 pk0) := HP1.out.kept b2
    obtain ⟨b, off, rfl, c0, c1, c2, c3⟩ := HAT.out w2 b2
    have k0 := (HL1.out.below b2).bk.lc.c0
    obtain ⟨W3, hW3⟩ : ∃ W3, W3 = w2.setRow gp #[.int .i64 p.n, .int .i64 p.t, .int .i64 p.z, .bool p.a] := ⟨_, rfl⟩
    have HW3 : Hid (W3 = w2.setRow gp #[.int .i64 p.n, .int .i64 p.t, .int .i64 p.z, .bool p.a]) := hW3
    have HP3 : Hid (PB W3 gp 48 p) := by rw [hW3]; exact setRow_heap _ _ _ _ _ _ HP2.out
    have HB3 : Hid (Below w.heap.size w W3) := by rw [hW3]; exact below_setRow HB2.out (by have := HGP.out; omega) _
    clear ci b2 hW3
    go_wp2_with (refine wpList_store_row rfl 48 _ _ rfl gp #[.int .i64 p.n, .int .i64 p.t, .int .i64 p.z, .bool p.a] rfl rfl 48 _ HP2.out sizeP rfl (pk_one4 p) (Hid.out ?_))
    unfold Hid
    rw [← HW3.out]
    clear HW3
    go_wp2
    exact bodyPost_ret (retOl rfl HP3.out rfl) rfl ⟨rfl, HB3.out⟩
  · have e1 : oldP s.o = pk0 := by unfold oldP; rw [if_neg hm]
    have e2 : oldB s.o = false := decide_eq_false hm
    have e3 : idxI s.o = -1 := by unfold idxI; rw [if_neg hm]
    rw [e1, e2]
    rw [e3] at ci
    clear h h1 b1 p1 e1 e2 e3 hm
    obtain ⟨n9, hn9⟩ : ∃ n9, n9 = s.o.length := ⟨_, rfl⟩
    rw [← hn9] at ci HL1 k0 hln
    clear hn9
    obtain ⟨gp, hgp⟩ : ∃ gp, gp = w.heap.size := ⟨_, rfl⟩
    rw [← hgp] at HP1
    go_enter Try.func17, Try.ntmps17
    go_upto_region 1 with fail
    try rw [← hW1]
    try rw [← hgp]
    have HGP : Hid (gp = w.heap.size) := hgp
    clear hW1 hgp
    go_wp2_with fail
    refine ci.mono ?_
    rintro e w2 ⟨rfl, b2⟩
    have HB2 : Hid (Below w.heap.size w w2) := HB1.out.trans (b2.mono HB1.out.size)
    have HP2 : Hid (PB w2 gp 48 pk0) := HP1.out.kept b2
    obtain ⟨W3, hW3⟩ : ∃ W3, W3 = w2.setRow gp #[.int .i64 0, .int .i64 0, .int .i64 0, .bool false] := ⟨_, rfl⟩
    have HW3 : Hid (W3 = w2.setRow gp #[.int .i64 0, .int .i64 0, .int .i64 0, .bool false]) := hW3
    have HP3 : Hid (PB W3 gp 48 pk0) := by rw [hW3]; exact setRow_heap _ _ _ _ _ _ HP2.out
    have HB3 : Hid (Below w.heap.size w W3) := by rw [hW3]; exact below_setRow HB2.out (by have := HGP.out; omega) _
    clear ci b2 hW3
    go_wp2_with (refine wpList_store_row rfl 48 _ _ rfl gp #[.int .i64 0, .int .i64 0, .int .i64 0, .bool false] rfl rfl 48 _ HP2.out sizeP rfl (pk_one4 pk0) (Hid.out ?_))
    unfold Hid
    rw [← HW3.out]
    clear HW3
    go_wp2
    exact bodyPost_ret (retOl rfl HP3.out rfl) rfl ⟨rfl, HB3.out⟩
set_option maxHeartbeats 1000000 in
theorem oldest_nil (w : World) : Calls Try.prog 17 #[.pointer none] w fun e w' => e = .returned (.tuple #[pk0.v, .bool false]) ∧ Below w.heap.size w w' := by
  obtain ⟨W1, hW1⟩ : ∃ W1, W1 = w.alloc (.cells #[.int .i64 0, .int .i64 0, .int .i64 0, .bool false] 48) := ⟨_, rfl⟩
  have b1 : Below w.heap.size w W1 := by rw [hW1]; exact al_b _ _
  have p1 : PB W1 w.heap.size 48 pk0 := by rw [hW1]; exact PB.new _ _ pk0
  have HP1 : Hid (PB W1 w.heap.size 48 pk0) := p1
  obtain ⟨W3, hW3⟩ : ∃ W3, W3 = W1.setRow w.heap.size #[.int .i64 0, .int .i64 0, .int .i64 0, .bool false] := ⟨_, rfl⟩
  have HW3 : Hid (W3 = W1.setRow w.heap.size #[.int .i64 0, .int .i64 0, .int .i64 0, .bool false]) := hW3
  have HP3 : Hid (PB W3 w.heap.size 48 pk0) := by rw [hW3]; exact setRow_heap _ _ _ _ _ _ p1
  have HB3 : Hid (Below w.heap.size w W3) := by rw [hW3]; exact below_setRow b1 (Nat.le_refl _) _
  clear b1 p1 hW3
  go_enter Try.func17, Try.ntmps17
  go_upto_region 1 with fail
  try rw [← hW1]
  clear hW1
  go_wp2_with (refine wpList_store_row rfl 48 _ _ rfl w.heap.size #[.int .i64 0, .int .i64 0, .int .i64 0, .bool false] rfl rfl 48 _ HP1.out sizeP rfl (pk_one4 pk0) (Hid.out ?_))
  unfold Hid
  rw [← HW3.out]
  clear HW3
  go_wp2
  exact bodyPost_ret (retOl rfl HP3.out rfl) rfl ⟨rfl, HB3.out⟩
end Go.Proofs.Ytamjbmbflllbfaa
