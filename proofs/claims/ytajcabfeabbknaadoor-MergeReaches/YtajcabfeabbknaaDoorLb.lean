/-
  Trees between, plainly and as the law asks for them.
-/
import Derived.Test.YtajcabfeabbknaaDoorLa
import Derived.Test.YtajcabfeabbknaaDoorPq
import Derived.Test.YtajcabfeabbknaaDoorWn
namespace Go.Proofs.YtajcabfeabbknaaDoor
open Go.RowKit Go.Deep

theorem lt_tree {l : List En} (h : ckT l = 0) : Lt l := by
  refine ⟨Nat.le_trans (ckT_all l h).1 (by omega), fun x hx => ?_⟩
  obtain ⟨a, _, c, _⟩ := (tree_wf h).2.1 x hx
  have := chk_small a
  rw [dl_len] at this
  omega
theorem Btw.symm {d W l : List En} (h : Btw d W l) : Btw W d l := fun q => by
  rcases h q with e | e | ⟨e, e2⟩
  · exact .inr (.inl e)
  · exact .inl e
  · exact .inr (.inr ⟨e, fun a b ha hb => (e2 b a hb ha).symm⟩)
theorem btw_is {d W l : List En} (hl : Srt l) (h : Btw d W l) : ∀ x ∈ l, pth d W x.p x true = true := fun x hx => by
  unfold pth
  rw [if_pos rfl, decide_eq_true rfl, Bool.true_and, Bool.or_eq_true, hav_iff, hav_iff]
  have hf := hl.fn hx
  rcases h x.k with e | e | ⟨e, _⟩
  · exact .inl (e.symm.trans hf)
  · exact .inr (e.symm.trans hf)
  · rw [hf] at e; cases e
theorem btw_at {d W l : List En} (hd : Srt d) (hl : Srt l) (h : Btw d W l) : ∀ x ∈ d, pth d W x.p (got l x.k) (gotB l x.k) = true := fun x hx => by
  cases hg : gotB l x.k with
  | true =>
    obtain ⟨y, hy⟩ := gotB_some.1 hg
    rw [(got_some hy).2]
    obtain ⟨a, b⟩ := fn_some hy
    have := btw_is hl h y a
    rwa [dl_inj b] at this
  | false =>
    have hn := gotB_none.1 hg
    unfold pth
    rw [if_neg (by simp)]
    rcases h x.k with e | e | ⟨_, e2⟩
    · rw [hn, hd.fn hx] at e; cases e
    · have : gotB W x.k = false := gotB_none.2 (e.symm.trans hn)
      show (!gotB d x.k || !gotB W x.k || _) = true
      rw [this]; simp
    · show (!gotB d x.k || !gotB W x.k || decide ((got d x.k).d ≠ (got W x.k).d)) = true
      cases hW : gotB W x.k with
      | false => simp
      | true =>
        obtain ⟨y, hy⟩ := gotB_some.1 hW
        rw [(got_some (hd.fn hx)).2, (got_some hy).2, decide_eq_true (e2 x y (hd.fn hx) hy)]
        simp
theorem want_bad {s d : List En} {P : Pol} (h : (want s d P).2 ≠ 0) : (want s d P).1 = [] ∧ plan s d P = ([], (want s d P).2) := by
  refine ⟨?_, by unfold plan; rw [if_pos h]⟩
  unfold want at h ⊢
  split
  · rfl
  split
  · rfl
  split
  · rfl
  rename_i h1 h2 h3
  rw [if_neg h1, if_neg h2, if_neg h3] at h
  exact absurd rfl h
theorem pln_small {s d W : List En} {P : Pol} (hs : Lt s) (hd : Lt d) (hW : Lt W) : (pln s d W P).length ≤ 400 ∧ ∀ x ∈ pln s d W P, x.p.size ≤ 1000 ∧ x.t.size ≤ 1000 := by
  have one : ∀ (l : List En) (f : En → Bool) (κ : Int) (t : En → List UInt8), Lt l → (∀ x, (t x).length ≤ 1000) → ∀ x ∈ (l.filter f).map (ste κ t), x.p.size ≤ 1000 ∧ x.t.size ≤ 1000 := fun l f κ t hl ht x hx => by
    obtain ⟨y, hy, rfl⟩ := List.mem_map.1 hx
    refine ⟨(hl.2 y (List.mem_filter.1 hy).1).1, ?_⟩
    show (mk (t y)).size ≤ 1000
    rw [mk_size]; exact ht y
  have len : ∀ (l : List En) (f : En → Bool) (κ : Int) (t : En → List UInt8), Lt l → ((l.filter f).map (ste κ t)).length ≤ 100 := fun l f κ t hl => by
    rw [List.length_map]; exact Nat.le_trans (List.length_filter_le _ _) hl.1
  have hno : ∀ x : En, (no x).length ≤ 1000 := fun _ => Nat.zero_le _
  have hkp : ∀ x : En, (kpt s d P x).length ≤ 1000 := fun x => Nat.le_trans (kpt_small s d P x) (by omega)
  unfold pln
  refine ⟨?_, fun x hx => ?_⟩
  · rw [List.length_append, List.length_append, List.length_append, List.length_reverse]
    have a1 := len d (f1 s d P) 0 (kpt s d P) hd
    have a2 := len d (f2 W) 1 no hd
    have a3 := len W (f3 d) 2 no hW
    have a4 := len s (f4 d) 3 no hs
    omega
  · rcases List.mem_append.1 hx with hx | hx
    · rcases List.mem_append.1 hx with hx | hx
      · rcases List.mem_append.1 hx with hx | hx
        · exact one d _ _ _ hd hkp x hx
        · exact one d _ _ _ hd hno x (List.mem_reverse.1 hx)
      · exact one W _ _ _ hW hno x hx
    · exact one s _ _ _ hs hno x hx
set_option maxHeartbeats 4000000 in
set_option maxRecDepth 100000 in
theorem between_any (v1 v2 v3 : Value) (A B N : List En) (w : World) (h1 : ES w v1 A) (l1 : Lt A) (h2 : ES w v2 B) (l2 : Lt B) (h3 : ES w v3 N) (l3 : Lt N) (q1 : ∀ x ∈ A, pth A B x.p (got N x.k) (gotB N x.k) = true) (q2 : ∀ x ∈ N, pth A B x.p x true = true) :
    Calls Tryd.prog 12 #[v1, v2, v3] w fun e w' => e = .returned (.bool true) ∧ Below w.heap.size w w' := by
  obtain ⟨a1, c1, rfl, g1, _, _⟩ := h1.shape
  obtain ⟨a2, c2, rfl, _, _, _⟩ := h2.shape
  obtain ⟨a3, c3, rfl, g3, _, _⟩ := h3.shape
  have H1 : Hid (ES w (.slice a1 A.length c1) A) := h1
  have H3 : Hid (ES w (.slice a3 N.length c3) N) := h3
  have n1 := l1.1
  have n3 := l3.1
  have CG : Hid (∀ W (x : En), Below w.heap.size w W → Calls Tryd.prog 14 #[.slice a3 N.length c3, .string x.p] W fun e w' => ∃ u, e = .returned (.tuple #[u, .bool (gotB N x.k)]) ∧ EV w' u (got N x.k) ∧ Below W.heap.size W w') := fun W x hb => get_any _ N x.p W (h3.kept hb) l3
  have CI : Hid (∀ W u (x y : En), Below w.heap.size w W → EV W u y → pth A B x.p y true = true → Calls Tryd.prog 19 #[.slice a1 A.length c1, .slice a2 B.length c2, .string x.p, u, .bool true] W fun e w' => e = .returned (.bool true) ∧ Below W.heap.size W w') := fun W u x y hb hu hp => by
    have := pathI_any _ _ u A B x.p y W (h1.kept hb) l1 (h2.kept hb) l2 hu
    rwa [hp] at this
  have CO : Hid (∀ W u (x y : En), Below w.heap.size w W → EV W u y → pth A B x.p y false = true → Calls Tryd.prog 19 #[.slice a1 A.length c1, .slice a2 B.length c2, .string x.p, u, .bool false] W fun e w' => e = .returned (.bool true) ∧ Below W.heap.size W w') := fun W u x y hb hu hp => by
    have := pathO_any _ _ u A B x.p y W (h1.kept hb) l1 (h2.kept hb) l2 hu
    rwa [hp] at this
  have Q1 : Hid (∀ x ∈ A, pth A B x.p (got N x.k) (gotB N x.k) = true) := q1
  have Q2 : Hid (∀ x ∈ N, pth A B x.p x true = true) := q2
  obtain ⟨n, hn⟩ : ∃ n, n = A.length := ⟨_, rfl⟩
  obtain ⟨m, hm⟩ : ∃ m, m = N.length := ⟨_, rfl⟩
  have HN : Hid (n = A.length) := hn
  have HM : Hid (m = N.length) := hm
  rw [← hn] at H1 CI CO n1 g1 ⊢
  rw [← hm] at H3 CG n3 g3 ⊢
  generalize B.length = kb at *
  clear h1 l1 h2 l2 h3 l3 q1 q2 hn hm
  go_enter Tryd.func12, Tryd.ntmps12
  go_wp2
  go_loopw [7] (fun q wr => ∃ j : Nat, j ≤ n ∧ q = .int .i64 j ∧ Below w.heap.size w wr) (fun q _ => n - (intOf q).toNat)
  case atStart => exact ⟨0, by omega, rfl, Below.refl _ _⟩
  case round =>
    obtain ⟨j, hj, rfl, bel⟩ := hrel
    have HB : Hid (Below w.heap.size w wr) := bel
    clear bel
    by_cases hlt : j < n
    · have lt2 : (j : Int) < (n : Int) := by omega
      obtain ⟨b, off, ua, un, uc, rfl, c1', c2', c3', hun, s1⟩ := (H1.out.kept HB.out).at j (by rw [← HN.out]; exact hlt)
      have q1 : IntKind.i64.wrap ((j : Int) + 1) = ((j + 1 : Nat) : Int) := by simp [IntKind.wrap, IntKind.bits, IntKind.signed]; omega
      have CG1 := CG.out wr (atE A j) HB.out
      have HQ : Hid (pth A B (atE A j).p (got N (atE A j).k) (gotB N (atE A j).k) = true) := Q1.out _ (atE_mem A j (by rw [← HN.out]; exact hlt))
      have HC : Hid (∀ W, Below wr.heap.size wr W → W.cell? ⟨b, off + j * 3, none⟩ = some (.string (atE A j).p)) := fun W hb => (hb.cell (World.block_lt_of_cell? _ _ c1')).trans c1'
      have CI1 : Hid (∀ W u y, Below w.heap.size w W → EV W u y → pth A B (atE A j).p y true = true → Calls Tryd.prog 19 #[.slice (some ⟨b, off, none⟩) n c1, .slice a2 kb c2, .string (atE A j).p, u, .bool true] W fun e w' => e = .returned (.bool true) ∧ Below W.heap.size W w') := fun W u y => CI.out W u (atE A j) y
      have CO1 : Hid (∀ W u y, Below w.heap.size w W → EV W u y → pth A B (atE A j).p y false = true → Calls Tryd.prog 19 #[.slice (some ⟨b, off, none⟩) n c1, .slice a2 kb c2, .string (atE A j).p, u, .bool false] W fun e w' => e = .returned (.bool true) ∧ Below W.heap.size W w') := fun W u y => CO.out W u (atE A j) y
      clear hun s1 c2' c3'
      generalize atE A j = x at *
      generalize got N x.k = gx at *
      generalize gotB N x.k = gb at *
      go_wp2_with fail
      refine CG1.mono ?_
      rintro e w4 ⟨u4, rfl, ⟨ya, yn, yc, rfl, sy⟩, b4⟩
      obtain ⟨W5, hW5⟩ : ∃ W5, W5 = w4.alloc (.cells #[.string gx.p, .bool gx.d, .slice ya yn yc] 43) := ⟨_, rfl⟩
      have b5 : Below w4.heap.size w4 W5 := by rw [hW5]; exact (Below.refl _ _).alloc (Nat.le_refl _) _
      have K5 : W5.heap[w4.heap.size]? = some (.cells #[.string gx.p, .bool gx.d, .slice ya yn yc] 43 (0, 0)) := by rw [hW5]; exact heap_alloc_new _ _
      have D5 : Hid (Below wr.heap.size wr W5) := b4.trans (b5.mono b4.size)
      have HT : Hid (∀ W, Below W5.heap.size W5 W → (W.cell? ⟨w4.heap.size, 0, none⟩ = some (.string gx.p) ∧ W.cell? ⟨w4.heap.size, 1, none⟩ = some (.bool gx.d) ∧ W.cell? ⟨w4.heap.size, 2, none⟩ = some (.slice ya yn yc)) ∧ W.cell? ⟨b, off + j * 3, none⟩ = some (.string x.p)) := fun W hb => by
        obtain ⟨p0, p1, p2, _⟩ := trio ((hb.block _ (lt_of_block K5)).trans K5)
        exact ⟨⟨p0, p1, p2⟩, HC.out W (D5.out.trans (hb.mono D5.out.size))⟩
      have BD : Below w.heap.size w W5.drew := HB.out.trans (D5.out.drew.mono HB.out.size)
      have EVd : EV W5.drew (.agg #[.string gx.p, .bool gx.d, .slice ya yn yc]) gx := ⟨ya, yn, yc, rfl, (sy.kept b5).kept (Below.refl _ _).drew⟩
      have DR : Hid (Below W5.heap.size W5 W5.drew) := (Below.refl _ _).drew
      have CS : Calls Tryd.prog 19 #[.slice (some ⟨b, off, none⟩) n c1, .slice a2 kb c2, .string x.p, .agg #[.string gx.p, .bool gx.d, .slice ya yn yc], .bool gb] W5.drew fun e w' => e = .returned (.bool true) ∧ Below W5.drew.heap.size W5.drew w' := by
        cases gb with
        | true => exact CI1.out _ _ gx BD EVd HQ.out
        | false => exact CO1.out _ _ gx BD EVd HQ.out
      clear CG1 b4 b5 K5 sy BD EVd HQ CI1 CO1
      generalize gx.p = gp at *
      generalize gx.d = gd at *
      generalize x.p = xp at *
      go_wp2
      rw [← hW5]
      clear hW5
      have k5 := HT.out W5 (Below.refl _ _)
      have k5d := HT.out W5.drew DR.out
      clear c1'
      go_region_held3 (fun W => (W.cell? ⟨w4.heap.size, 0, none⟩ = some (.string gp) ∧ W.cell? ⟨w4.heap.size, 1, none⟩ = some (.bool gd) ∧ W.cell? ⟨w4.heap.size, 2, none⟩ = some (.slice ya yn yc)) ∧ W.cell? ⟨b, off + j * 3, none⟩ = some (.string xp)) (first | exact k5 | exact k5d | exact k6)
        (first
          | (go_at_call 19; refine CS.mono ?_; rintro e w6 ⟨rfl, b6⟩; have D6 := DR.out.trans (b6.mono DR.out.size); have k6 := HT.out w6 D6))
      all_goals
        have B6 : Hid (Below w.heap.size w w6) := by
          have := D5.out.trans (D6.mono D5.out.size)
          exact HB.out.trans (this.mono HB.out.size)
        clear k5 k5d k6 D6 b6 CS
        go_wp2
        go_roundw
        case rel => exact ⟨j + 1, by omega, by go_num, B6.out⟩
        case measure => simp [intOf]; omega
    · obtain rfl : j = n := by omega
      have HB0 : Hid (Below w.heap.size w wr) := HB.out
      generalize wr = wz at *
      clear HB Q1 CG CO
      go_wp2
      go_loopw [10] (fun q wr => ∃ i : Nat, i ≤ m ∧ q = .int .i64 i ∧ Below w.heap.size w wr) (fun q _ => m - (intOf q).toNat)
      case atStart => exact ⟨0, by omega, rfl, HB0.out⟩
      case round =>
        obtain ⟨i, hi, rfl, bel⟩ := hrel
        have HB : Hid (Below w.heap.size w wr) := bel
        clear bel
        by_cases hlt2 : i < m
        · have lt3 : (i : Int) < (m : Int) := by omega
          obtain ⟨b, off, ua, un, uc, rfl, c1', c2', c3', hun, s1⟩ := (H3.out.kept HB.out).at i (by rw [← HM.out]; exact hlt2)
          have q1 : IntKind.i64.wrap ((i : Int) + 1) = ((i + 1 : Nat) : Int) := by simp [IntKind.wrap, IntKind.bits, IntKind.signed]; omega
          have HQ := Q2.out _ (atE_mem N i (by rw [← HM.out]; exact hlt2))
          have HC : Hid (∀ W, Below wr.heap.size wr W → W.cell? ⟨b, off + i * 3, none⟩ = some (.string (atE N i).p) ∧ W.cell? ⟨b, off + i * 3 + 1, none⟩ = some (.bool (atE N i).d) ∧ W.cell? ⟨b, off + i * 3 + 2, none⟩ = some (.slice ua un uc)) := fun W hb => ⟨(hb.cell (World.block_lt_of_cell? _ _ c1')).trans c1', (hb.cell (World.block_lt_of_cell? _ _ c2')).trans c2', (hb.cell (World.block_lt_of_cell? _ _ c3')).trans c3'⟩
          have CS := CI.out wr.drew (.agg #[.string (atE N i).p, .bool (atE N i).d, .slice ua un uc]) (atE N i) (atE N i) HB.out.drew ⟨ua, un, uc, rfl, s1.kept (Below.refl _ _).drew⟩ HQ
          have DR : Hid (Below wr.heap.size wr wr.drew) := (Below.refl _ _).drew
          have k5 := HC.out wr (Below.refl _ _)
          have k5d := HC.out wr.drew DR.out
          clear hun s1 HQ c1' c2' c3'
          generalize atE N i = x at *
          generalize x.p = xp at *
          generalize x.d = xd at *
          go_wp2
          go_region_held3 (fun W => W.cell? ⟨b, off + i * 3, none⟩ = some (.string xp) ∧ W.cell? ⟨b, off + i * 3 + 1, none⟩ = some (.bool xd) ∧ W.cell? ⟨b, off + i * 3 + 2, none⟩ = some (.slice ua un uc)) (first | exact k5 | exact k5d | exact k6)
            (first
              | (go_at_call 19; refine CS.mono ?_; rintro e w6 ⟨rfl, b6⟩; have D6 := DR.out.trans (b6.mono DR.out.size); have k6 := HC.out w6 D6))
          all_goals
            have B6 : Hid (Below w.heap.size w w6) := HB.out.trans (D6.mono HB.out.size)
            clear k5 k5d k6 D6 b6 CS
            go_wp2
            go_roundw
            case rel => exact ⟨i + 1, by omega, by go_num, B6.out⟩
            case measure => simp [intOf]; omega
        · obtain rfl : i = m := by omega
          go_wp2
          go_ret
          exact ⟨rfl, HB.out⟩
end Go.Proofs.YtajcabfeabbknaaDoor
