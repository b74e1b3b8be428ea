/-
  What mayCome and Ack answer.
-/
import Derived.Test.YtamjbmbflllbfaaLa
import Derived.Test.YtamjbmbflllbfaaLta
namespace Go.Proofs.Ytamjbmbflllbfaa
open Go.RowKit Go.Shelf
set_option maxRecDepth 100000

set_option maxHeartbeats 2000000 in
theorem mayCome_any (w : World) (g : Nat) (v u : Value) (s : Lg) (l : List Sp) (now : Int) (h : LB w g v s) (hu : SSp w u l) (hl : l.length ≤ 1000) :
    Calls Try.prog 31 #[.pointer (some ⟨g, 0, none⟩), u, .int .i64 now] w fun e w' => e = .returned (.int .i64 (comE s l now)) ∧ Below w.heap.size w w' := by
  have ck := check_any w u l hu (by omega)
  obtain ⟨a, c, rfl, -⟩ := id hu.shape
  have HU : Hid (SSp w (.slice a l.length c) l) := hu
  have HH : Hid (LB w g v s) := h
  by_cases hz : chkL l = 0
  · obtain ⟨hcn, hne, hlen⟩ := chkL_zero hz
    have HL : Hid (∀ W, SSp W (.slice a l.length c) l → Calls Try.prog 35 #[.slice a l.length c] W fun e w' => e = .returned (.int .i64 (lstT l)) ∧ ∃ m, w' = W.drewN m) := fun W hw => lastTo_any W _ l hw hne (by omega)
    have HR : Hid (comE s l now = if s.n < lstT l then 16 else if now < s.t ∨ 1099511627776 < now then 21 else 0) := by unfold Hid comE; rw [if_neg (fun e => e hz)]
    rw [hz] at ck
    clear h hu hz hcn hne hl hlen
    generalize comE s l now = R at *
    generalize lstT l = to_ at *
    obtain ⟨n9, hn9⟩ : ∃ n9, n9 = l.length := ⟨_, rfl⟩
    rw [← hn9] at ck HU HL ⊢
    clear hn9
    go_enter Try.func31, Try.ntmps31
    go_wp2_with fail
    refine ck.mono ?_
    rintro e w2 ⟨rfl, b2⟩
    have B2 : Hid (Below w.heap.size w w2) := b2
    obtain ⟨q0, q1, q2, q3, -, -, -, -⟩ := (HH.out.kept b2).lc
    have HU2 : Hid (SSp w2 (.slice a n9 c) l) := HU.out.kept b2
    have CL : Hid (∀ k, Calls Try.prog 35 #[.slice a n9 c] (w2.drewN k) fun e w' => e = .returned (.int .i64 to_) ∧ ∃ m, w' = (w2.drewN k).drewN m) := fun k => HL.out _ (HU2.out.kept (drn w2 k))
    clear ck b2 HL
    by_cases h1 : s.n < to_
    · have HR1 : Hid (R = 16) := by unfold Hid; rw [HR.out, if_pos h1]
      clear HR
      go_wp2_with fail
      go_quiet ((go_at_call 35; exact Calls.quiet_of (CL.out _)))
      have BD : Hid (Below w.heap.size w (w2.drewN nq)) := B2.out.trans ((drn w2 nq).mono B2.out.size)
      generalize w2.drewN nq = DW at *
      go_wp2
      go_ret
      exact ⟨by rw [HR1.out]; rfl, BD.out⟩
    · by_cases h2 : now < s.t
      · have HR1 : Hid (R = 21) := by unfold Hid; rw [HR.out, if_neg h1, if_pos (.inl h2)]
        have q2' : Hid (∀ k, (w2.drewN k).cell? ⟨g, 2, none⟩ = some (.int .i64 s.t)) := fun k => q2
        clear HR
        go_wp2_with fail
        go_quiet ((go_at_call 35; exact Calls.quiet_of (CL.out _)))
        have BD : Hid (Below w.heap.size w (w2.drewN nq)) := B2.out.trans ((drn w2 nq).mono B2.out.size)
        have q2 := q2'.out nq
        generalize w2.drewN nq = DW at *
        go_wp2
        go_ret
        exact ⟨by rw [HR1.out]; rfl, BD.out⟩
      · have q2' : Hid (∀ k, (w2.drewN k).cell? ⟨g, 2, none⟩ = some (.int .i64 s.t)) := fun k => q2
        by_cases h3 : 1099511627776 < now
        · have HR1 : Hid (R = 21) := by unfold Hid; rw [HR.out, if_neg h1, if_pos (.inr h3)]
          clear HR
          go_wp2_with fail
          go_quiet ((go_at_call 35; exact Calls.quiet_of (CL.out _)))
          have BD : Hid (Below w.heap.size w (w2.drewN nq)) := B2.out.trans ((drn w2 nq).mono B2.out.size)
          have q2 := q2'.out nq
          generalize w2.drewN nq = DW at *
          go_wp2
          go_ret
          exact ⟨by rw [HR1.out]; rfl, BD.out⟩
        · have HR1 : Hid (R = 0) := by unfold Hid; rw [HR.out, if_neg h1, if_neg (fun e => e.elim h2 h3)]
          clear HR
          go_wp2_with fail
          go_quiet ((go_at_call 35; exact Calls.quiet_of (CL.out _)))
          have BD : Hid (Below w.heap.size w (w2.drewN nq)) := B2.out.trans ((drn w2 nq).mono B2.out.size)
          have q2 := q2'.out nq
          generalize w2.drewN nq = DW at *
          go_wp2
          go_ret
          exact ⟨by rw [HR1.out]; rfl, BD.out⟩
  · have HR : Hid (comE s l now = chkL l) := by unfold Hid comE; rw [if_pos hz]
    have t1 : (chkL l != 0) = true := by simpa using hz
    clear h hu hz hl
    generalize comE s l now = R at *
    generalize chkL l = k at *
    generalize l.length = n9 at *
    go_enter Try.func31, Try.ntmps31
    go_wp2_with fail
    refine ck.mono ?_
    rintro e w2 ⟨rfl, b2⟩
    have B2 : Hid (Below w.heap.size w w2) := b2
    clear ck b2
    go_wp2
    go_ret
    exact ⟨by rw [HR.out]; rfl, B2.out⟩
set_option maxHeartbeats 1000000 in
theorem mayCome_nil (w : World) (u : Value) (now : Int) :
    Calls Try.prog 31 #[.pointer none, u, .int .i64 now] w fun e w' => e = .returned (.int .i64 1) ∧ w' = w := by
  go_enter Try.func31, Try.ntmps31
  go_wp2
  go_ret
  exact ⟨rfl, rfl⟩
theorem results_tmp4 {fn : Func} {t u v x : Tmp} (h : fn.results = #[.tmp t, .tmp u, .tmp v, .tmp x]) (tmps : Array Value) (P : Program) (w : World) :
    (results fn tmps).run P w = .ok (.tuple #[tmps.getD t undef, tmps.getD u undef, tmps.getD v undef, tmps.getD x undef]) w := by
  simp [results, h]
set_option maxHeartbeats 1000000 in
theorem ack_nil (w : World) (ua : Option Addr) (un uc : Nat) (now : Int) :
    Calls Try.prog 15 #[.pointer none, .slice ua un uc, .int .i64 now] w fun e w' => e = .returned (.tuple #[.slice none 0 0, .int .i64 0, .bool false, .int .i64 1]) ∧ Below w.heap.size w w' := by
  obtain ⟨W1, hW1⟩ : ∃ W1, W1 = w.alloc (.cells #[.slice ua un uc] 35) := ⟨_, rfl⟩
  have HB : Hid (Below w.heap.size w W1) := by rw [hW1]; exact al_b _ _
  have d0 : W1.cell? ⟨w.heap.size, 0, none⟩ = some (.slice ua un uc) := by have : W1.heap[w.heap.size]? = some (.cells #[.slice ua un uc] 35 (0, 0)) := (by rw [hW1]; exact heap_alloc_new _ _); simp [World.cell?, this]
  have cm := mayCome_nil W1 (.slice ua un uc) now
  go_enter Try.func15, Try.ntmps15
  go_upto_region 1 with fail
  rw [← hW1]
  clear hW1
  go_wp2_with fail
  refine cm.mono ?_
  rintro e w2 ⟨rfl, rfl⟩
  clear cm
  go_wp2
  exact bodyPost_ret (results_tmp4 rfl _ _ _) rfl ⟨rfl, HB.out⟩
/-- What Ack tells, and leaves. -/
def ackG (s : Lg) (l : List Sp) (now : Int) : List Pk := if comE s l now = 0 then gotP s l else []
def ackR (s : Lg) (l : List Sp) (now : Int) : Int × Bool := if comE s l now = 0 then ackS s l now else (0, false)
def ackN (s : Lg) (l : List Sp) (now : Int) : Lg := if comE s l now = 0 then ackL s l else s
theorem ackN_ok {s : Lg} (h : s.ok) (l : List Sp) (now : Int) : (ackN s l now).ok := by
  unfold ackN
  split
  · next e => exact ackL_ok h (comE_zero e).2.1
  · exact h
theorem SSp.far {w W : World} {u : Value} {l : List Sp} (h : SSp w u l) (hb : ∀ a n c, u = .slice (some a) n c → a.block < w.heap.size → W.heap[a.block]? = w.heap[a.block]?) : SSp W u l := by
  obtain ⟨a, c, h1, h2, h3, h4, h5, h6⟩ := h
  refine ⟨a, c, h1, h2, h3, h4, h5, ?_⟩
  rcases h6 with h6 | ⟨b, off, rfl, h7⟩
  · exact .inl h6
  · refine .inr ⟨b, off, rfl, fun i hi j v hv => ?_⟩
    have hc := h7 i hi j v hv
    exact (World.cell?_of_block (a := ⟨b, off + i * 2 + j, none⟩) (by have := hb ⟨b, off, none⟩ _ _ h1 (World.block_lt_of_cell? _ ⟨b, off + i * 2 + j, none⟩ hc); exact this)).trans hc
set_option maxHeartbeats 4000000 in
theorem ack_any (w : World) (B g : Nat) (v u : Value) (s : Lg) (l : List Sp) (now : Int) (h : LS w B g v s) (hB : B ≤ w.heap.size) (hu : SSp w u l) (hl : l.length ≤ 1000) (hap : ∀ a n c, u = .slice (some a) n c → v.ownBlock ≠ some a.block) (hag : ∀ a n c, u = .slice (some a) n c → a.block ≠ g) :
    Calls Try.prog 15 #[.pointer (some ⟨g, 0, none⟩), u, .int .i64 now] w fun e w' => ∃ vt v', e = .returned (.tuple #[vt, .int .i64 (ackR s l now).1, .bool (ackR s l now).2, .int .i64 (comE s l now)]) ∧ RP 48 w' w.heap.size vt (ackG s l now) ∧ LS w' B g v' (ackN s l now) ∧ LU w w' g v v' := by
  obtain ⟨W1, hW1⟩ : ∃ W1, W1 = w.alloc (.cells #[u] 35) := ⟨_, rfl⟩
  have b1 : Below w.heap.size w W1 := by rw [hW1]; exact al_b _ _
  have g1 : W1.heap[w.heap.size]? = some (.cells #[u] 35 (0, 0)) := by rw [hW1]; exact heap_alloc_new _ _
  have d0 : W1.cell? ⟨w.heap.size, 0, none⟩ = some u := by simp [World.cell?, g1]
  have cm := mayCome_any W1 g v u s l now (h.bk.kept b1) (hu.kept b1) hl
  have HLS : Hid (LS w B g v s) := h
  have HB1 : Hid (Below w.heap.size w W1) := b1
  have HG1 : Hid (W1.heap[w.heap.size]? = some (.cells #[u] 35 (0, 0))) := g1
  by_cases hz : comE s l now = 0
  · obtain ⟨z1, z2, z3, z4⟩ := comE_zero hz
    obtain ⟨y1, y2, y3⟩ := chkL_zero z1
    have e1 : ackG s l now = gotP s l := by unfold ackG; rw [if_pos hz]
    have e2 : ackR s l now = ackS s l now := by unfold ackR; rw [if_pos hz]
    have e3 : ackN s l now = ackL s l := by unfold ackN; rw [if_pos hz]
    rw [e1, e2, e3, hz]
    rw [hz] at cm
    have hgl := blk_lt h.bk
    have HT : Hid (∀ w2, Below W1.heap.size W1 w2 → Calls Try.prog 32 #[.pointer (some ⟨g, 0, none⟩), .func (.func 33) #[] #[.pointer (some ⟨w.heap.size, 0, none⟩)]] w2 fun e w' => ∃ vt v', e = .returned vt ∧ RP 48 w' w2.heap.size vt (gotP s l) ∧ LS w' B g v' (tkL s (fun p => inS l p.n)) ∧ LU w2 w' g v v') := fun w2 b2 => by
      have b12 : Below w.heap.size w w2 := HB1.out.trans (b2.mono HB1.out.size)
      refine takeA_any w2 B g v s (fun p => inS l p.n) _ (HLS.out.below b12) (Nat.le_trans hB b12.size) fun W p hk hs hp => ?_
      have gw2 := blk_kept HG1.out b2 (blk_lt HG1.out)
      have gW : W.heap[w.heap.size]? = some (.cells #[u] 35 (0, 0)) := (hk _ (blk_lt gw2) (fun e => by have := HLS.out.rs.lt e; omega)).trans gw2
      refine ack1_any W w.heap.size u l p gW ?_ y1 (by omega)
      exact (hu.kept b12).far fun a n c e hlt => hk _ hlt (hap a n c e)
    have HU3 : Hid (∀ w2 w3 v3, Below W1.heap.size W1 w2 → LU w2 w3 g v v3 → w3.heap[w.heap.size]? = some (.cells #[u] 35 (0, 0)) ∧ SSp w3 u l ∧ LU w w3 g v v3) := fun w2 w3 v3 b2 q => by
      have b12 : Below w.heap.size w w2 := HB1.out.trans (b2.mono HB1.out.size)
      have gw2 := blk_kept HG1.out b2 (blk_lt HG1.out)
      refine ⟨(q.block _ (blk_lt gw2) (by omega) (fun e => by have := HLS.out.rs.lt e; omega)).trans gw2, (hu.kept b12).far fun a n c e hlt => q.block _ hlt (hag a n c e) (hap a n c e), LU.before b12 q⟩
    have HLT : Hid (∀ W, SSp W u l → Calls Try.prog 35 #[u] W fun e w' => e = .returned (.int .i64 (lstT l)) ∧ ∃ m, w' = W.drewN m) := fun W hw => lastTo_any W _ l hw y2 (by omega)
    have HBD : Hid (0 ≤ now ∧ now ≤ 1099511627776 ∧ g < w.heap.size ∧ ∀ p ∈ gotP s l, 0 ≤ p.t ∧ p.t ≤ 1099511627776) := ⟨by have := h.ok.t0; omega, z4, hgl, fun p hp => by
      have hq := h.ok.ea p (List.mem_filter.1 hp).1
      have := hq.t0
      have := hq.t1
      have := h.ok.t1
      omega⟩
    have HLN : Hid ((gotP s l).length ≤ 1024) := Nat.le_trans (List.length_filter_le ..) h.ok.ln
    have HEND : Hid (∀ w3 v3, LS w3 B g v3 (tkL s (fun p => inS l p.n)) → LU w w3 g v v3 → s.g < lstT l → LS (w3.setCell ⟨g, 3, none⟩ (.int .i64 (lstT l))) B g v3 (ackL s l) ∧ LU w (w3.setCell ⟨g, 3, none⟩ (.int .i64 (lstT l))) g v v3) := fun w3 v3 ls q hlt => by
      have e : ackL s l = ⟨(tkL s (fun p => inS l p.n)).o, s.n, s.t, lstT l⟩ := by unfold ackL tkL; rw [Int.max_eq_right (by omega)]
      have ok3 := ackL_ok h.ok z2
      rw [e] at ok3 ⊢
      exact ⟨⟨ls.bk.set3 _, ls.rs.set ls.ne, ok3⟩, q.set 3 _⟩
    have HEN2 : Hid (lstT l ≤ s.g → tkL s (fun p => inS l p.n) = ackL s l ∧ ackS s l now = (0, false)) := fun hn => by
      refine ⟨?_, by unfold ackS; rw [if_neg (by omega)]⟩
      unfold ackL tkL
      rw [Int.max_eq_left (by omega)]
    have HSM : Hid (s.g < lstT l → ackS s l now = smp (gotP s l) (lstT l) now) := fun hn => by unfold ackS; rw [if_pos hn]
    obtain ⟨ua, uc, rfl, -⟩ := id hu.shape
    have HTG : Hid ((tkL s (fun p => inS l p.n)).g = s.g) := rfl
    clear h hu b1 g1 hz z1 z2 z3 z4 y1 y2 y3 e1 e2 e3 hap hag hl hgl
    generalize hS : tkL s (fun p => inS l p.n) = S3 at *
    clear hS
    generalize gotP s l = G at *
    generalize ackL s l = SA at *
    generalize ackS s l now = RR at *
    generalize lstT l = to_ at *
    obtain ⟨n9, hn9⟩ : ∃ n9, n9 = l.length := ⟨_, rfl⟩
    rw [← hn9] at cm d0 HG1 HU3 HLT hW1 ⊢
    clear hn9
    obtain ⟨gp, hgp⟩ : ∃ gp, gp = w.heap.size := ⟨_, rfl⟩
    have HGP : Hid (gp = w.heap.size) := hgp
    rw [← hgp] at d0 HG1 HT HU3
    go_enter Try.func15, Try.ntmps15
    go_upto_region 1 with fail
    try rw [← hW1]
    try rw [← hgp]
    clear hW1 hgp
    go_wp2_with fail
    refine cm.mono ?_
    rintro e w2 ⟨rfl, b2⟩
    have ct := HT.out w2 b2
    have HB2 : Hid (Below W1.heap.size W1 w2) := b2
    clear cm b2 HT
    go_wp2_with fail
    refine ct.mono ?_
    rintro e w3 ⟨vt, v3, rfl, rt, ls, q⟩
    obtain ⟨g3, u3, lu3⟩ := HU3.out w2 w3 v3 HB2.out q
    have d3 : w3.cell? ⟨gp, 0, none⟩ = some (.slice ua n9 uc) := by simp [World.cell?, g3]
    have cl := HLT.out w3 u3
    obtain ⟨va, vc, rfl, -⟩ := id rt.is.shape
    have HRT : Hid (RP 48 w3 w2.heap.size (.slice va G.length vc) G) := rt
    have HLS3 : Hid (LS w3 B g v3 S3 ∧ LU w w3 g v v3) := ⟨ls, lu3⟩
    have HSZ : Hid (w.heap.size ≤ w2.heap.size) := Nat.le_trans HB1.out.size HB2.out.size
    obtain ⟨k, hk⟩ : ∃ k, k = G.length := ⟨_, rfl⟩
    rw [← hk] at HRT HLN ⊢
    have HKG : Hid (k = G.length) := hk
    clear ct rt ls q g3 u3 lu3 HU3 HLT hk
    go_wp2_with fail
    refine cl.mono ?_
    rintro e w4 ⟨rfl, m4, hm4⟩
    have b34 : Below w3.heap.size w3 w4 := by rw [hm4]; exact drn _ _
    have HB34 : Hid (Below w3.heap.size w3 w4) := b34
    have l4 := HLS3.out.1.below b34
    obtain ⟨q0, q1, q2, q3, f0, f1, f2, f3⟩ := l4.bk.lc
    rw [HTG.out] at q3
    have HLS4 : Hid (LS w4 B g v3 S3 ∧ LU w w4 g v v3) := ⟨l4, HLS3.out.2.behind b34⟩
    have HRT4 : Hid (RP 48 w4 w2.heap.size (.slice va k vc) G) := HRT.out.below b34
    clear cl hm4 l4 b34
    by_cases hlt : s.g < to_
    · obtain ⟨e1, e2⟩ := HEND.out w4 v3 HLS4.out.1 HLS4.out.2 hlt
      have HSR : Hid (RR = smp G to_ now) := HSM.out hlt
      have HE : Hid (LS (w4.setCell ⟨g, 3, none⟩ (.int .i64 to_)) B g v3 SA ∧ LU w (w4.setCell ⟨g, 3, none⟩ (.int .i64 to_)) g v v3) := ⟨e1, e2⟩
      have hvg : Value.ownBlock (.slice va k vc) ≠ some g := fun e => by
        have := HRT4.out.base e
        have := HBD.out.2.2.1
        have := HSZ.out
        omega
      have HR5 : Hid (RP 48 (w4.setCell ⟨g, 3, none⟩ (.int .i64 to_)) w2.heap.size (.slice va k vc) G) := HRT4.out.set hvg
      have cs := sampleOf_any _ _ G to_ now HR5.out.is (by rw [← HKG.out]; exact HLN.out) HBD.out.1 HBD.out.2.1 HBD.out.2.2.2
      clear e1 e2 hvg HEND HEN2 HSM
      rw [← HSR.out] at cs
      obtain ⟨ra, rb⟩ := RR
      simp only at cs ⊢
      go_wp2_with fail
      refine cs.mono ?_
      rintro e w6 ⟨rfl, b6⟩
      have HZ : Hid (RP 48 w6 w.heap.size (.slice va k vc) G ∧ LS w6 B g v3 SA ∧ LU w w6 g v v3) := ⟨(HR5.out.below b6).mono HSZ.out, HE.out.1.below b6, HE.out.2.behind b6⟩
      clear cs b6
      go_wp2
      exact bodyPost_ret (results_tmp4 rfl _ _ _) rfl ⟨_, rfl, HZ.out.1, _, HZ.out.2⟩
    · obtain ⟨e1, e2⟩ := HEN2.out (by omega)
      have HZ : Hid (RP 48 w4 w.heap.size (.slice va k vc) G ∧ LS w4 B g v3 SA ∧ LU w w4 g v v3) := ⟨HRT4.out.mono HSZ.out, by rw [← e1]; exact HLS4.out.1, HLS4.out.2⟩
      subst e2
      clear e1 HEND HEN2 HSM
      go_wp2
      exact bodyPost_ret (results_tmp4 rfl _ _ _) rfl ⟨_, rfl, HZ.out.1, _, HZ.out.2⟩
  · have e1 : ackG s l now = [] := by unfold ackG; rw [if_neg hz]
    have e2 : ackR s l now = (0, false) := by unfold ackR; rw [if_neg hz]
    have e3 : ackN s l now = s := by unfold ackN; rw [if_neg hz]
    rw [e1, e2, e3]
    have t1 : (comE s l now != 0) = true := by simpa using hz
    obtain ⟨ua, uc, rfl, -⟩ := id hu.shape
    generalize l.length = n9 at *
    clear h hu b1 g1 hz e1 e2 e3 hap hag
    generalize comE s l now = R at *
    go_enter Try.func15, Try.ntmps15
    go_upto_region 1 with fail
    rw [← hW1]
    clear hW1
    go_wp2_with fail
    refine cm.mono ?_
    rintro e w2 ⟨rfl, b2⟩
    have HB2 : Hid (Below w.heap.size w w2) := HB1.out.trans (b2.mono HB1.out.size)
    have HE : Hid (RP 48 w2 w.heap.size (.slice none 0 0) [] ∧ LS w2 B g v s ∧ LU w w2 g v v) := ⟨RP.nil _ _ _, HLS.out.below HB2.out, LU.of HB2.out⟩
    clear cm b2
    go_wp2
    refine bodyPost_ret (results_tmp4 rfl _ _ _) rfl ?_
    first | exact ⟨_, rfl, HE.out.1, _, HE.out.2⟩ | exact ⟨_, _, rfl, HE.out⟩
end Go.Proofs.Ytamjbmbflllbfaa
