/-
  What Check answers.
-/
import Derived.Test.YtajcabfeabbknaaGreatDoorTq
import Derived.Test.YtajcabfeabbknaaGreatDoorFd
namespace Go.Proofs.YtajcabfeabbknaaGreatDoor
open Go.RowKit

theorem fp_eq (q : ByteArray) : (fun y : En => decide (y.p = q)) = fun y => decide (y.k = dl q) := by
  funext y
  by_cases h : y.p = q
  · rw [decide_eq_true h]
    exact (decide_eq_true (show dl y.p = dl q by rw [h])).symm
  · rw [decide_eq_false h, decide_eq_false (fun e => h (dl_inj e))]
/-- The search for a path. -/
theorem findPath_any (v : Value) (l : List En) (q : ByteArray) (g : Nat) (w : World) (h : ES w v l) (hl : Lt l) (hc : w.cell? ⟨g, 0, none⟩ = some (.string q)) :
    Calls Tryz.prog 67 #[v, .func (.func 88) #[] #[.pointer (some ⟨g, 0, none⟩)]] w fun e w' => e = .returned (.int .i64 (fnd l (dl q))) ∧ Below w.heap.size w w' := by
  have := findH v l (fun y => decide (y.p = q)) g w h hl (fun W u x hb hev _ => has1_any u x q g W hev ((hb.cell (World.block_lt_of_cell? _ _ hc)).trans hc))
  rwa [fp_eq] at this
/-- The search for what is in a directory. -/
theorem findIn_any (v : Value) (l : List En) (q : ByteArray) (g : Nat) (w : World) (h : ES w v l) (hl : Lt l) (hc : w.cell? ⟨g, 0, none⟩ = some (.string q)) :
    Calls Tryz.prog 67 #[v, .func (.func 89) #[] #[.pointer (some ⟨g, 0, none⟩)]] w fun e w' => e = .returned (.int .i64 (fnc l (dl q))) ∧ Below w.heap.size w w' :=
  findI v l (fun y => decide (par y.k = dl q)) g w h hl (fun W u x hb hev hs => isIn1_any u x q g W hev hs ((hb.cell (World.block_lt_of_cell? _ _ hc)).trans hc))
/-- The search for a place. -/
theorem findPlace_any (v : Value) (l : List En) (q : ByteArray) (g : Nat) (w : World) (h : ES w v l) (hl : Lt l) (hm : Mx w) (hq : q.size ≤ 1000) (hc : w.cell? ⟨g, 0, none⟩ = some (.string q)) :
    Calls Tryz.prog 67 #[v, .func (.func 90) #[] #[.pointer (some ⟨g, 0, none⟩)]] w fun e w' => e = .returned (.int .i64 (l.findIdx fun y => !les y.k (dl q))) ∧ Below w.heap.size w w' :=
  findP v l (fun y => !les y.k (dl q)) g w h hl (fun W u x hb hev hs => place1_any u x q g W hev (hm.kept hb) hs hq ((hb.cell (World.block_lt_of_cell? _ _ hc)).trans hc))

theorem fnd_le (l : List En) (q : List UInt8) : fnd l q ≤ l.length := List.findIdx_le_length
set_option maxHeartbeats 1000000 in
theorem checkParent_any (v : Value) (l : List En) (q : ByteArray) (w : World) (h : ES w v l) (hl : Lt l) :
    Calls Tryz.prog 76 #[v, .string q] w fun e w' => e = .returned (.int .i64 (ckP l (dl q))) ∧ Below w.heap.size w w' := by
  by_cases h0 : q.toList = []
  · have HR : Hid (ckP l (dl q) = 0) := by unfold Hid ckP; rw [if_pos (by rw [← tol]; exact h0)]
    generalize ckP l (dl q) = r at *
    go_enter Tryz.func76, Tryz.ntmps76
    go_wp2
    go_ret
    exact ⟨by rw [HR.out]; rfl, Below.refl _ _⟩
  have t0 : q.toList.isEmpty = false := by simp [h0]
  have HR : Hid (ckP l (dl q) = if fnd l (dl q) = l.length then 8 else if (atE l (fnd l (dl q))).d then 0 else 9) := by
    unfold Hid ckP
    rw [if_neg (by rw [← tol]; exact h0)]
    rfl
  obtain ⟨a, c, rfl, g2, _, _⟩ := h.shape
  have HS : Hid (ES w (.slice a l.length c) l) := h
  have HL : Hid (Lt l) := hl
  have hn := hl.1
  have CH := hasPath_any q w
  have CF : Hid (∀ g W, Below w.heap.size w W → W.cell? ⟨g, 0, none⟩ = some (.string q) → Calls Tryz.prog 67 #[.slice a l.length c, .func (.func 88) #[] #[.pointer (some ⟨g, 0, none⟩)]] W fun e w' => e = .returned (.int .i64 (fnd l (dl q))) ∧ Below W.heap.size W w') := fun g W hb hc => findPath_any _ l q g W (HS.out.kept hb) hl hc
  have hfl := fnd_le l (dl q)
  generalize ckP l (dl q) = r at *
  generalize fnd l (dl q) = k at *
  obtain ⟨n, hn'⟩ : ∃ n, n = l.length := ⟨_, rfl⟩
  have HN : Hid (n = l.length) := hn'
  rw [← hn'] at HS CF HR g2 hn hfl ⊢
  clear h hl hn' h0
  go_enter Tryz.func76, Tryz.ntmps76
  go_wp2_with fail
  refine CH.mono ?_
  rintro e w1 ⟨g, rfl, hg, b1⟩
  have B1 : Hid (Below w.heap.size w w1) := b1
  have C1 := CF.out g w1 b1 hg
  clear b1 hg CF CH
  go_wp2_with fail
  refine C1.mono ?_
  rintro e w2 ⟨rfl, b2⟩
  have B2 : Hid (Below w.heap.size w w2) := B1.out.trans (b2.mono B1.out.size)
  clear b2 C1 B1
  by_cases hk : k = n
  · have HR2 : Hid (r = 8) := by unfold Hid; rw [HR.out, if_pos hk]
    subst hk
    clear HR
    go_wp2
    go_ret
    exact ⟨by rw [HR2.out]; rfl, B2.out⟩
  · have hlt : k < n := by omega
    have t1 : ((k : Int) == (n : Int)) = false := by simp; omega
    obtain ⟨b, off, ua, un, uc, rfl, c1, c2, c3, hun, s1⟩ := (HS.out.kept B2.out).at k (by rw [← HN.out]; exact hlt)
    have HR2 : Hid (r = if (atE l k).d then 0 else 9) := by unfold Hid; rw [HR.out, if_neg hk]
    clear HR hun s1 c1 c3
    generalize atE l k = x at *
    generalize hd : x.d = d at *
    clear hd
    cases d with
    | true =>
      have HR3 : Hid (r = 0) := HR2.out
      clear HR2
      go_wp2
      go_ret
      exact ⟨by rw [HR3.out]; rfl, B2.out⟩
    | false =>
      have HR3 : Hid (r = 9) := HR2.out
      clear HR2
      go_wp2
      go_ret
      exact ⟨by rw [HR3.out]; rfl, B2.out⟩

set_option maxHeartbeats 2000000 in
theorem checkEntry_any (v u : Value) (A : List En) (x : En) (w : World) (h : ES w v A) (hl : Lt A) (hx : EV w u x) (hs : x.p.size ≤ 1000) (hz : x.z.length ≤ 100000) (hm : Mx w) :
    Calls Tryz.prog 49 #[v, u] w fun e w' => e = .returned (.int .i64 (ckE A x)) ∧ Below w.heap.size w w' := by
  obtain ⟨a, c, rfl, g2, _, _⟩ := h.shape
  obtain ⟨ua, un, uc, rfl, sl⟩ := hx
  have hun : un = x.z.length := by
    obtain ⟨_, _, e, _⟩ := sl
    cases e
    rfl
  have HS : Hid (ES w (.slice a A.length c) A) := h
  have HL : Hid (Lt A) := hl
  have hn := hl.1
  obtain ⟨W1, hW1⟩ : ∃ W1, W1 = w.alloc (.cells #[.string x.p, .bool x.d, .slice ua un uc] 46) := ⟨_, rfl⟩
  have b1 : Below w.heap.size w W1 := by rw [hW1]; exact (Below.refl _ _).alloc (Nat.le_refl _) _
  have B1 : Hid (Below w.heap.size w W1) := b1
  have K1 : Hid (W1.heap[w.heap.size]? = some (.cells #[.string x.p, .bool x.d, .slice ua un uc] 46 (0, 0))) := by unfold Hid; rw [hW1]; exact heap_alloc_new _ _
  have HT : Hid (∀ W, Below W1.heap.size W1 W → W.heap[w.heap.size]? = some (.cells #[.string x.p, .bool x.d, .slice ua un uc] 46 (0, 0))) := fun W hb => (hb.block _ (lt_of_block K1.out)).trans K1.out
  have CC := check_any x.p W1 (hm.kept b1) (by unfold maxLen; omega)
  have CR : Hid (∀ w, Calls Tryz.prog 74 #[.string x.p] w fun e w' => e = .returned (.bool (res (dl x.p))) ∧ w' = w) := fun w => reserved_any x.p w
  have CPa : Hid (∀ w, Calls Tryz.prog 57 #[.string x.p] w fun e w' => e = .returned (.string (mk (par (dl x.p)))) ∧ w' = w) := fun w => parent_any x.p w (by omega)
  have CL : Hid (∀ W, Below w.heap.size w W → Calls Tryz.prog 75 #[.string (atE A (A.length - 1)).p, .string x.p] W fun e w' => e = .returned (.bool (les (atE A (A.length - 1)).k x.k)) ∧ Below W.heap.size W w') := fun W hb => less_any _ _ W (hm.kept hb) (by have := (hl.at (A.length - 1)).1; omega) (by omega)
  have CQ : Hid (∀ W, Below w.heap.size w W → Calls Tryz.prog 76 #[.slice a A.length c, .string (mk (par (dl x.p)))] W fun e w' => e = .returned (.int .i64 (ckP A (par x.k))) ∧ Below W.heap.size W w') := fun W hb => by
    have := checkParent_any _ A (mk (par (dl x.p))) W (HS.out.kept hb) hl
    rwa [dl_mk] at this
  have HR : Hid (ckE A x = if chk x.k ≠ 0 then chk x.k else if res x.k = true then 6 else if 65536 < un then 5 else if x.d = true ∧ 0 < un then 9 else if 0 < A.length ∧ les (atE A (A.length - 1)).k x.k = false then 7 else ckP A (par x.k)) := by
    unfold Hid
    rw [hun]
    rfl
  have HAT : Hid (∀ W, Below w.heap.size w W → 0 < A.length → ∃ b off, a = some ⟨b, off, none⟩ ∧ W.cell? ⟨b, off + (A.length - 1) * 3, none⟩ = some (.string (atE A (A.length - 1)).p)) := fun W hb h0 => by
    obtain ⟨b, off, ua, un, uc, e, c1, _⟩ := (HS.out.kept hb).at (A.length - 1) (by omega)
    exact ⟨b, off, e, c1⟩
  rw [← hun] at hz
  have hz2 : (un : Int) ≤ 100000 := by omega
  generalize ckE A x = r at *
  generalize ckP A (par x.k) = r1 at *
  generalize les (atE A (A.length - 1)).k x.k = r2 at *
  generalize (atE A (A.length - 1)).p = lp at *
  generalize hpp : mk (par (dl x.p)) = pp at *
  obtain ⟨n, hn'⟩ : ∃ n, n = A.length := ⟨_, rfl⟩
  rw [← hn'] at HS CQ HR HAT g2 hn ⊢
  generalize chk (dl x.p) = k0 at *
  generalize res (dl x.p) = k1 at *
  generalize x.p = xp at *
  generalize x.d = xd at *
  clear h hl sl hun hn' hm hpp HL b1
  go_enter Tryz.func49, Tryz.ntmps49
  go_wp2_with fail
  rw [← hW1]
  refine CC.mono ?_
  rintro e w2 ⟨rfl, b2⟩
  have B2 : Hid (Below w.heap.size w w2) := B1.out.trans (b2.mono B1.out.size)
  obtain ⟨p0, p1, p2, -, -, -⟩ := trio (HT.out w2 b2)
  have D2 : Hid (Below W1.heap.size W1 w2) := b2
  clear CC b2 hW1
  by_cases h0 : k0 = 0
  · subst h0
    have HR2 : Hid (r = if k1 = true then 6 else if 65536 < un then 5 else if xd = true ∧ 0 < un then 9 else if 0 < n ∧ r2 = false then 7 else r1) := by unfold Hid; rw [HR.out, if_neg (by simp)]
    clear HR
    cases k1 with
    | true =>
      have HR3 : Hid (r = 6) := HR2.out
      clear HR2
      go_wp2_with (go_at_call 74; refine (CR.out _).mono ?_; rintro e wq ⟨rfl, hq⟩; replace hq := hq.symm; subst hq)
      go_ret
      exact ⟨by rw [HR3.out]; rfl, B2.out⟩
    | false =>
      have HR3 : Hid (r = if 65536 < un then 5 else if xd = true ∧ 0 < un then 9 else if 0 < n ∧ r2 = false then 7 else r1) := HR2.out
      clear HR2
      by_cases h5 : 65536 < un
      · have HR4 : Hid (r = 5) := by unfold Hid; rw [HR3.out, if_pos h5]
        have h5' : 65536 < (un : Int) := by omega
        clear HR3
        go_wp2_with (go_at_call 74; refine (CR.out _).mono ?_; rintro e wq ⟨rfl, hq⟩; replace hq := hq.symm; subst hq)
        go_ret
        exact ⟨by rw [HR4.out]; rfl, B2.out⟩
      have h5' : ¬ 65536 < (un : Int) := by omega
      have HR4 : Hid (r = if xd = true ∧ 0 < un then 9 else if 0 < n ∧ r2 = false then 7 else r1) := by unfold Hid; rw [HR3.out, if_neg h5]
      clear HR3
      by_cases h9 : xd = true ∧ 0 < un
      · obtain ⟨rfl, h9⟩ := h9
        have h9' : 0 < (un : Int) := by omega
        have HR5 : Hid (r = 9) := by unfold Hid; rw [HR4.out, if_pos ⟨rfl, h9⟩]
        clear HR4
        go_wp2_with (go_at_call 74; refine (CR.out _).mono ?_; rintro e wq ⟨rfl, hq⟩; replace hq := hq.symm; subst hq)
        go_ret
        exact ⟨by rw [HR5.out]; rfl, B2.out⟩
      have HR5 : Hid (r = if 0 < n ∧ r2 = false then 7 else r1) := by unfold Hid; rw [HR4.out, if_neg h9]
      clear HR4
      rcases (show xd = false ∨ (xd = true ∧ un = 0) by cases xd <;> simp at h9 ⊢; omega) with rfl | ⟨rfl, rfl⟩
      · clear h9
        by_cases hn0 : 0 < n
        · have hn1 : 0 < (n : Int) := by omega
          obtain ⟨b, off, rfl, hcl⟩ := HAT.out w2 B2.out hn0
          have HCL : Hid (∀ W, Below w2.heap.size w2 W → W.cell? ⟨b, off + (n - 1) * 3, none⟩ = some (.string lp)) := fun W hb => (hb.cell (World.block_lt_of_cell? _ _ hcl)).trans hcl
          have HP0 : Hid (∀ W, Below w2.heap.size w2 W → W.cell? ⟨w.heap.size, 0, none⟩ = some (.string xp)) := fun W hb => (hb.cell (World.block_lt_of_cell? _ _ p0)).trans p0
          obtain ⟨m, hm⟩ : ∃ m, m = n - 1 := ⟨_, rfl⟩
          rw [← hm] at hcl HCL
          have q1 : IntKind.i64.wrap ((n : Int) - 1) = (m : Int) := by simp [IntKind.wrap, IntKind.bits, IntKind.signed]; omega
          have hmn : m < n := by omega
          have g0 : (0 : Int) ≤ (m : Int) := by omega
          have g1 : (m : Int) < (n : Int) := by omega
          clear hm
          have kd := HCL.out w2.drew (Below.refl _ _).drew
          have p0d := HP0.out w2.drew (Below.refl _ _).drew
          have cl := CL.out w2.drew B2.out.drew
          go_wp2_with (go_at_call 74; refine (CR.out _).mono ?_; rintro e wq ⟨rfl, hq⟩; replace hq := hq.symm; subst hq)
          go_region_held3 (fun W => W.cell? ⟨b, off + m * 3, none⟩ = some (.string lp) ∧ W.cell? ⟨w.heap.size, 0, none⟩ = some (.string xp)) (first | exact ⟨hcl, p0⟩ | exact ⟨kd, p0d⟩ | exact ⟨k3, p3⟩) (first
            | (go_at_call 75; refine cl.mono ?_; rintro e w3 ⟨rfl, b3⟩; have d3 : Below w2.heap.size w2 w3 := (Below.refl w2.heap.size w2).drew.trans b3; have k3 := HCL.out w3 d3; have p3 := HP0.out w3 d3))
          have B3 : Hid (Below w.heap.size w w3) := B2.out.trans (d3.mono B2.out.size)
          cases r2 with
          | false =>
            have HR6 : Hid (r = 7) := by unfold Hid; rw [HR5.out, if_pos ⟨hn0, rfl⟩]
            clear HR5
            go_wp2
            go_ret
            exact ⟨by rw [HR6.out]; rfl, B3.out⟩
          | true =>
            have HR6 : Hid (r = r1) := by unfold Hid; rw [HR5.out, if_neg (by simp)]
            have cq := CQ.out w3 B3.out
            clear HR5 cl b3 d3 kd p0d hcl
            go_wp2_with (first | (go_at_call 57; refine (CPa.out _).mono ?_; rintro e wq ⟨rfl, hq⟩; replace hq := hq.symm; subst hq) | (go_at_call 76; refine cq.mono ?_; rintro e w4 ⟨rfl, b4⟩))
            go_ret
            exact ⟨by rw [HR6.out]; rfl, B3.out.trans (b4.mono B3.out.size)⟩
        · obtain rfl : n = 0 := by omega
          have HR6 : Hid (r = r1) := by unfold Hid; rw [HR5.out, if_neg (by simp)]
          clear HR5 HAT
          go_wp2_with (go_at_call 74; refine (CR.out _).mono ?_; rintro e wq ⟨rfl, hq⟩; replace hq := hq.symm; subst hq)
          go_quiet (fail)
          have bq : Below w2.heap.size w2 (w2.drewN nq) := ⟨rfl, rfl, rfl, Nat.le_refl _, fun _ _ => rfl⟩
          have Bq : Below w.heap.size w (w2.drewN nq) := B2.out.trans (bq.mono B2.out.size)
          have cq := CQ.out (w2.drewN nq) Bq
          have p0d : (w2.drewN nq).cell? ⟨w.heap.size, 0, none⟩ = some (.string xp) := p0
          go_wp2_with (first | (go_at_call 57; refine (CPa.out _).mono ?_; rintro e wq ⟨rfl, hq⟩; replace hq := hq.symm; subst hq) | (go_at_call 76; refine cq.mono ?_; rintro e w4 ⟨rfl, b4⟩))
          go_ret
          exact ⟨by rw [HR6.out]; rfl, Bq.trans (b4.mono Bq.size)⟩
      · clear h9
        by_cases hn0 : 0 < n
        · have hn1 : 0 < (n : Int) := by omega
          obtain ⟨b, off, rfl, hcl⟩ := HAT.out w2 B2.out hn0
          have HCL : Hid (∀ W, Below w2.heap.size w2 W → W.cell? ⟨b, off + (n - 1) * 3, none⟩ = some (.string lp)) := fun W hb => (hb.cell (World.block_lt_of_cell? _ _ hcl)).trans hcl
          have HP0 : Hid (∀ W, Below w2.heap.size w2 W → W.cell? ⟨w.heap.size, 0, none⟩ = some (.string xp)) := fun W hb => (hb.cell (World.block_lt_of_cell? _ _ p0)).trans p0
          obtain ⟨m, hm⟩ : ∃ m, m = n - 1 := ⟨_, rfl⟩
          rw [← hm] at hcl HCL
          have q1 : IntKind.i64.wrap ((n : Int) - 1) = (m : Int) := by simp [IntKind.wrap, IntKind.bits, IntKind.signed]; omega
          have hmn : m < n := by omega
          have g0 : (0 : Int) ≤ (m : Int) := by omega
          have g1 : (m : Int) < (n : Int) := by omega
          clear hm
          have kd := HCL.out w2.drew (Below.refl _ _).drew
          have p0d := HP0.out w2.drew (Below.refl _ _).drew
          have cl := CL.out w2.drew B2.out.drew
          go_wp2_with (go_at_call 74; refine (CR.out _).mono ?_; rintro e wq ⟨rfl, hq⟩; replace hq := hq.symm; subst hq)
          go_region_held3 (fun W => W.cell? ⟨b, off + m * 3, none⟩ = some (.string lp) ∧ W.cell? ⟨w.heap.size, 0, none⟩ = some (.string xp)) (first | exact ⟨hcl, p0⟩ | exact ⟨kd, p0d⟩ | exact ⟨k3, p3⟩) (first
            | (go_at_call 75; refine cl.mono ?_; rintro e w3 ⟨rfl, b3⟩; have d3 : Below w2.heap.size w2 w3 := (Below.refl w2.heap.size w2).drew.trans b3; have k3 := HCL.out w3 d3; have p3 := HP0.out w3 d3))
          have B3 : Hid (Below w.heap.size w w3) := B2.out.trans (d3.mono B2.out.size)
          cases r2 with
          | false =>
            have HR6 : Hid (r = 7) := by unfold Hid; rw [HR5.out, if_pos ⟨hn0, rfl⟩]
            clear HR5
            go_wp2
            go_ret
            exact ⟨by rw [HR6.out]; rfl, B3.out⟩
          | true =>
            have HR6 : Hid (r = r1) := by unfold Hid; rw [HR5.out, if_neg (by simp)]
            have cq := CQ.out w3 B3.out
            clear HR5 cl b3 d3 kd p0d hcl
            go_wp2_with (first | (go_at_call 57; refine (CPa.out _).mono ?_; rintro e wq ⟨rfl, hq⟩; replace hq := hq.symm; subst hq) | (go_at_call 76; refine cq.mono ?_; rintro e w4 ⟨rfl, b4⟩))
            go_ret
            exact ⟨by rw [HR6.out]; rfl, B3.out.trans (b4.mono B3.out.size)⟩
        · obtain rfl : n = 0 := by omega
          have HR6 : Hid (r = r1) := by unfold Hid; rw [HR5.out, if_neg (by simp)]
          clear HR5 HAT
          go_wp2_with (go_at_call 74; refine (CR.out _).mono ?_; rintro e wq ⟨rfl, hq⟩; replace hq := hq.symm; subst hq)
          go_quiet (fail)
          have bq : Below w2.heap.size w2 (w2.drewN nq) := ⟨rfl, rfl, rfl, Nat.le_refl _, fun _ _ => rfl⟩
          have Bq : Below w.heap.size w (w2.drewN nq) := B2.out.trans (bq.mono B2.out.size)
          have cq := CQ.out (w2.drewN nq) Bq
          have p0d : (w2.drewN nq).cell? ⟨w.heap.size, 0, none⟩ = some (.string xp) := p0
          go_wp2_with (first | (go_at_call 57; refine (CPa.out _).mono ?_; rintro e wq ⟨rfl, hq⟩; replace hq := hq.symm; subst hq) | (go_at_call 76; refine cq.mono ?_; rintro e w4 ⟨rfl, b4⟩))
          go_ret
          exact ⟨by rw [HR6.out]; rfl, Bq.trans (b4.mono Bq.size)⟩
  · have HR2 : Hid (r = k0) := by unfold Hid; rw [HR.out, if_pos h0]
    have t0 : (k0 != 0) = true := by simp [h0]
    clear HR
    go_wp2
    go_ret
    exact ⟨by rw [HR2.out]; rfl, B2.out⟩
end Go.Proofs.YtajcabfeabbknaaGreatDoor
