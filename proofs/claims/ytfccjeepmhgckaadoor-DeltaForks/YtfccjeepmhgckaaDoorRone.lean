/-
  What the document's one answers: the operation that bytes begin with.
-/
import Derived.Test.YtfccjeepmhgckaaDoorDo
import Derived.Test.YtfccjeepmhgckaaDoorFiRGet
namespace Go.Proofs.YtfccjeepmhgckaaDoor
open Go.RowKit
set_option maxRecDepth 100000

theorem sc_other (W : World) (g i : Nat) (v : Value) (k : Nat) (h : k ≠ g) : (W.setCell ⟨g, i, none⟩ v).heap[k]? = W.heap[k]? := by
  exact heap_setCell_other _ _ _ _ h
theorem sc_below (B : Nat) (W : World) (g i : Nat) (v : Value) (h : B ≤ g) : Below B W (W.setCell ⟨g, i, none⟩ v) :=
  ⟨rfl, rfl, rfl, by simp [World.setCell], fun k hk => sc_other W g i v k (by omega)⟩
theorem ow_empty (w : World) : Ow (w.alloc (.cells #[] 5)) w.heap.size (.slice (some ⟨w.heap.size, 0, none⟩) 0 0) [] :=
  ⟨World.ownsRow_made (base := w.heap.size) (e := 5) (size := 1) w #[] 0 (Nat.le_refl _) (by unfold maxLen; omega) rfl, fun k => by simp⟩
theorem nE_cases (b : List Int) : nE b = 0 ∨ nE b = 3 ∨ nE b = 4 := by
  have hg : Fi.getE b.length b = 3 ∨ Fi.getE b.length b = 0 := by
    unfold Fi.getE
    split
    · exact .inl rfl
    · exact .inr rfl
  unfold nE Fi.shE
  rcases hg with hg | hg
  · rw [hg, if_neg (by decide)]
    exact .inr (.inl rfl)
  · rw [hg, if_pos rfl]
    split
    · exact .inl rfl
    · exact .inr (.inr rfl)
theorem rsh_any (v : Value) (b : List Int) (w : World) (h : SlX w v b) : Calls Tryd.prog 29 #[v] w fun e w' => e = .returned (.tuple #[.int .i64 (nN b), .int .i64 (nU b), .int .i64 (nE b)]) ∧ w' = w := by
  obtain ⟨a, c, rfl, h2, h3, h4, h5⟩ := id h.1
  exact Fi.rshortest_any a b.length c b w h5
/-- What is told of the beginning, by the document. -/
def RP (t : Tk) (w : World) (e : Ending) (w' : World) : Prop :=
  Below w.heap.size w w' ∧ match t with
    | .wait => e = .returned (.tuple #[.agg #[.bool false, .int .i64 0, .int .i64 0, .slice none 0 0], .int .i64 0, .int .i64 0])
    | .bad k => e = .returned (.tuple #[.agg #[.bool false, .int .i64 0, .int .i64 0, .slice none 0 0], .int .i64 0, .int .i64 k])
    | .op x k => ∃ ua uc, e = .returned (.tuple #[xval x ua x.d.length uc, .int .i64 (k : Nat), .int .i64 0]) ∧ Ow w' w.heap.size (.slice ua x.d.length uc) x.d
set_option maxHeartbeats 8000000 in
theorem rone_any (v : Value) (b : List Int) (old : Int) (w : World) (h : SlX w v b) (hp : 0 < b.length) (ho : old ≤ 9223372036854775807) :
    Calls Tryd.prog 19 #[v, .int .i64 old] w fun e w' => RP (opA old b) w e w' := by
  obtain ⟨W0, hW0⟩ : ∃ W0, W0 = (w.alloc (.cells zop 46)).alloc (.cells zop 46) := ⟨_, rfl⟩
  have b0 : Below w.heap.size w W0 := by rw [hW0]; exact ((Below.refl _ _).alloc (Nat.le_refl _) _).alloc (by simp) _
  have g0 : W0.heap[w.heap.size]? = some (.cells zop 46 (0, 0)) := by
    rw [hW0]
    exact ((al_below (w.alloc (.cells zop 46)) _).block _ (by simp)).trans (heap_alloc_new _ _)
  have r0 : W0.heap[w.heap.size + 1]? = some (.cells zop 46 (0, 0)) := by
    rw [hW0]
    have := heap_alloc_new (w.alloc (.cells zop 46)) (.cells zop 46)
    simpa using this
  have h0 := h.kept b0
  cases b with
  | nil => simp at hp
  | cons x0 r =>
    obtain ⟨a, c, rfl, -⟩ := id h.1
    obtain ⟨-, hLc, hcm, hac⟩ := h.facts
    rw [List.length_cons] at hLc h h0 ⊢
    obtain ⟨y, rfl⟩ : ∃ y, a = some y := by
      cases a with
      | none => have := hac rfl; omega
      | some y => exact ⟨y, rfl⟩
    obtain ⟨xb, xo, sp⟩ := y
    obtain rfl : sp = none := h.2 _ _ _ rfl (by omega)
    have hx0 := h.1.bytes 0
    simp only [List.getD_cons_zero] at hx0
    have kc : w.cell? ⟨xb, xo, none⟩ = some (.int .u8 x0) := by
      obtain ⟨_, _, e, -, -, -, q⟩ := h.1
      cases e
      rcases q with q | ⟨-, bb, off, e, -, -, hc, -⟩
      · simp at q
      · cases e
        have := hc 0 (by simp)
        simpa using this
    have kl : xb < w.heap.size := World.block_lt_of_cell? _ _ kc
    have HK : Hid (∀ W, Below w.heap.size w W → W.cell? ⟨xb, xo, none⟩ = some (.int .u8 x0)) := fun W hb => (hb.cell kl).trans kc
    have HSX : Hid (∀ W, Below w.heap.size w W → SlX W (.slice (some ⟨xb, xo, none⟩) (r.length + 1) c) (x0 :: r)) := fun W hb => h.kept hb
    have hd := h0.drop 1 (by omega)
    rw [List.drop_one, List.tail_cons] at hd
    have HR00 : Hid (opA old (x0 :: r) = if x0 = 0 then (datA r).on 1 else if x0 = 1 then (copA old r).on 1 else .bad 4) := opA_cons old x0 r
    have HRB : Hid (∀ i, 0 ≤ r.getD i 0 ∧ r.getD i 0 < 256) := fun i => by have := h.1.bytes (i + 1); simpa using this
    have B0 : Hid (Below w.heap.size w W0) := b0
    have G0 : Hid (W0.heap[w.heap.size]? = some (.cells zop 46 (0, 0))) := g0
    have R0 : Hid (W0.heap[w.heap.size + 1]? = some (.cells zop 46 (0, 0))) := r0
    have L0 : (1 : Int) ≤ (c : Int) := by omega
    have L1 : ((r.length + 1 : Nat) : Int) ≤ (c : Int) := by omega
    have hcm2 : c ≤ 9223372036854775807 := by unfold maxLen at hcm; omega
    clear h h0 b0 hac hcm hp kc kl
    generalize opA old (x0 :: r) = R at *
    have n2 : (0 : Int) < ((r.length + 1 : Nat) : Int) := by omega
    -- the end: what is told is laid
    have FIN : Hid (∀ W v0 v1 v2 v3, W.heap[w.heap.size]? = some (.cells zop 46 (0, 0)) → Below w.heap.size w W → (st4 W w.heap.size v0 v1 v2 v3).heap[w.heap.size]? = some (.cells #[v0, v1, v2, v3] 46 (0, 0)) ∧ Below w.heap.size w (st4 W w.heap.size v0 v1 v2 v3)) := fun W v0 v1 v2 v3 hg hb => ⟨st4_block _ _ _ _ _ _ hg, hb.trans (st4_below _ _ _ _ _ _ _ (Nat.le_refl _))⟩
    obtain ⟨d0, d1, d2, d3⟩ := cell4 g0
    obtain ⟨p0, p1, p2, p3⟩ := cell4 r0
    have f0 : ∀ i, W0.frozen? ⟨w.heap.size, i, none⟩ = false := fun _ => frozen_of_row _ _ _ _ _ g0
    have f1 : ∀ i, W0.frozen? ⟨w.heap.size + 1, i, none⟩ = false := fun _ => frozen_of_row _ _ _ _ _ r0
    have k0 := HK.out W0 B0.out
    clear g0 r0
    by_cases hx2 : 1 < x0
    · have HR : Hid (R = .bad 4) := by unfold Hid; rw [HR00.out, if_neg (by omega), if_neg (by omega)]
      have hw0 := hW0.symm
      have hx3 : decide (1 < x0) = true := by simpa using hx2
      clear hW0 HR00 HSX hd
      go_enter Tryd.func19, Tryd.ntmps19
      go_wp2
      rw [st4_eq]
      obtain ⟨gz, bz⟩ := FIN.out W0 (.bool false) (.int .i64 0) (.int .i64 0) (.slice none 0 0) G0.out B0.out
      have BZ : Hid (Below w.heap.size w (st4 W0 w.heap.size (.bool false) (.int .i64 0) (.int .i64 0) (.slice none 0 0))) := bz
      obtain ⟨z0, z1, z2, z3⟩ := cell4 gz
      generalize st4 W0 w.heap.size (.bool false) (.int .i64 0) (.int .i64 0) (.slice none 0 0) = WZ at *
      refine bodyPost_ret (v := .tuple #[.agg #[.bool false, .int .i64 0, .int .i64 0, .slice none 0 0], .int .i64 0, .int .i64 4]) ?h rfl ?_
      case h => simp [results, Tryd.results19, go_sem, z0, z1, z2, z3]
      rw [HR.out]
      exact ⟨BZ.out, rfl⟩
    · have hx3 : decide (1 < x0) = false := by simpa using hx2
      unfold cuv at hd
      have hw0 := hW0.symm
      have HW0 : Hid (W0 = (w.alloc (.cells zop 46)).alloc (.cells zop 46)) := hW0
      clear hW0
      by_cases hc : c = 1
      · have hrl : r.length = 0 := by omega
        have hr0 : r = [] := List.length_eq_zero_iff.1 hrl
        have e3 : nE r = 3 := by rw [hr0]; decide
        have hw9 : opA old (x0 :: r) = .wait ∨ True := .inr trivial
        rw [if_pos hc] at hd
        have CS := rsh_any _ r W0 hd
        rw [e3] at CS
        have HR : Hid (R = .wait) := by
          unfold Hid
          rw [HR00.out]
          by_cases hx0' : x0 = 0
          · rw [if_pos hx0']; unfold datA; rw [if_pos e3]; rfl
          · rw [if_neg hx0', if_pos (by omega)]; unfold copA; rw [if_pos e3]; rfl
        have hc2 : 1 = c := hc.symm
        subst hc2
        rw [hrl]
        generalize nN r = nn at *
        generalize nU r = uu at *
        clear hd HR00 HSX hr0 e3 hrl hw9 hc L1 n2 HRB
        go_enter Tryd.func19, Tryd.ntmps19
        go_wp2_with fail
        refine CS.mono ?_
        rintro e wq ⟨rfl, hq⟩
        replace hq := hq.symm
        subst hq
        clear CS
        go_wp2
        rw [st4_eq]
        obtain ⟨gz, bz⟩ := FIN.out W0 (.bool false) (.int .i64 0) (.int .i64 0) (.slice none 0 0) G0.out B0.out
        have BZ : Hid (Below w.heap.size w (st4 W0 w.heap.size (.bool false) (.int .i64 0) (.int .i64 0) (.slice none 0 0))) := bz
        obtain ⟨z0, z1, z2, z3⟩ := cell4 gz
        generalize st4 W0 w.heap.size (.bool false) (.int .i64 0) (.int .i64 0) (.slice none 0 0) = WZ at *
        refine bodyPost_ret (v := .tuple #[.agg #[.bool false, .int .i64 0, .int .i64 0, .slice none 0 0], .int .i64 0, .int .i64 0]) ?h rfl ?_
        case h => simp [results, Tryd.results19, go_sem, z0, z1, z2, z3]
        rw [HR.out]
        exact ⟨BZ.out, rfl⟩
      · rw [if_neg hc, Nat.add_sub_cancel] at hd
        have CS := rsh_any _ r W0 hd
        obtain ⟨n0, n1, u0, u1⟩ := nU_le r HRB.out
        clear hd
        rcases nE_cases r with e0 | e3 | e4
        · rw [e0] at CS
          obtain ⟨u, hu⟩ : ∃ u : Nat, nU r = u := ⟨_, (Int.toNat_of_nonneg u0).symm⟩
          obtain ⟨n, hn⟩ : ∃ n : Nat, nN r = n := ⟨_, (Int.toNat_of_nonneg n0).symm⟩
          rw [hu, hn] at CS
          rw [hu] at u1
          have HN1 : Hid (n < 4611686018427387904) := by unfold Hid; omega
          have hu1 : u ≤ r.length := by omega
          have yu : wrap64 (1 + (u : Int)) = ((1 + u : Nat) : Int) := by unfold wrap64; omega
          by_cases hx0' : x0 = 0
          · subst hx0'
            have HRD : Hid (R = (if (n : Int) = 0 then .bad 4 else if 65536 < (n : Int) then .bad 5 else if (r.length : Int) - u < (n : Int) then .wait else .op ⟨false, 0, 0, cut r u n⟩ (u + n) : Tk).on 1) := by
              unfold Hid
              rw [HR00.out, if_pos rfl]
              unfold datA
              rw [e0, if_neg (by decide), if_pos rfl, hn, hu, Int.toNat_natCast, Int.toNat_natCast]
            clear HR00 e0 hu hn u0 n0 n1
            obtain ⟨L, hL⟩ : ∃ L, L = r.length := ⟨_, rfl⟩
            have HL : Hid (L = r.length) := hL
            rw [← hL] at CS HSX HRD hu1 hLc L1 n2 ⊢
            clear hL u1
            by_cases z1 : 65536 < (n : Int)
            · have HR : Hid (R = .bad 5) := by unfold Hid; rw [HRD.out, if_neg (by omega), if_pos z1]; rfl
              have z2 : decide (65536 < (n : Int)) = true := by simpa using z1
              clear HRD HSX HRB
              go_enter Tryd.func19, Tryd.ntmps19
              go_wp2_with fail
              refine CS.mono ?_
              rintro e wq ⟨rfl, hq⟩
              replace hq := hq.symm
              subst hq
              clear CS
              go_wp2
              rw [st4_eq]
              obtain ⟨gz, bz⟩ := FIN.out W0 (.bool false) (.int .i64 0) (.int .i64 0) (.slice none 0 0) G0.out B0.out
              have BZ : Hid (Below w.heap.size w (st4 W0 w.heap.size (.bool false) (.int .i64 0) (.int .i64 0) (.slice none 0 0))) := bz
              obtain ⟨z0, z1, z2, z3⟩ := cell4 gz
              generalize st4 W0 w.heap.size (.bool false) (.int .i64 0) (.int .i64 0) (.slice none 0 0) = WZ at *
              refine bodyPost_ret (v := .tuple #[.agg #[.bool false, .int .i64 0, .int .i64 0, .slice none 0 0], .int .i64 0, .int .i64 5]) ?h rfl ?_
              case h => simp [results, Tryd.results19, go_sem, z0, z1, z2, z3]
              rw [HR.out]
              exact ⟨BZ.out, rfl⟩
            · have z2 : decide (65536 < (n : Int)) = false := by simpa using z1
              have HZ1 : Hid (¬ 65536 < (n : Int)) := z1
              by_cases z3 : n = 0
              · subst z3
                have HR : Hid (R = .bad 4) := by unfold Hid; rw [HRD.out, if_pos (by decide)]; rfl
                clear HRD HSX HRB z1
                go_enter Tryd.func19, Tryd.ntmps19
                go_wp2_with fail
                refine CS.mono ?_
                rintro e wq ⟨rfl, hq⟩
                replace hq := hq.symm
                subst hq
                clear CS
                go_wp2
                rw [st4_eq]
                obtain ⟨gz, bz⟩ := FIN.out W0 (.bool false) (.int .i64 0) (.int .i64 0) (.slice none 0 0) G0.out B0.out
                have BZ : Hid (Below w.heap.size w (st4 W0 w.heap.size (.bool false) (.int .i64 0) (.int .i64 0) (.slice none 0 0))) := bz
                obtain ⟨z0, z1, z2, z3⟩ := cell4 gz
                generalize st4 W0 w.heap.size (.bool false) (.int .i64 0) (.int .i64 0) (.slice none 0 0) = WZ at *
                refine bodyPost_ret (v := .tuple #[.agg #[.bool false, .int .i64 0, .int .i64 0, .slice none 0 0], .int .i64 0, .int .i64 4]) ?h rfl ?_
                case h => simp [results, Tryd.results19, go_sem, z0, z1, z2, z3]
                rw [HR.out]
                exact ⟨BZ.out, rfl⟩
              · have z4 : ((n : Int) == 0) = false := by simpa using z3
                have z5 : ¬ (n : Int) = 0 := by omega
                have yv : wrap64 (((L + 1 : Nat) : Int) - ((1 + u : Nat) : Int)) = ((L - u : Nat) : Int) := by unfold wrap64; omega
                by_cases z6 : L - u < n
                · have HR : Hid (R = .wait) := by unfold Hid; rw [HRD.out, if_neg z5, if_neg z1, if_pos (by omega)]; rfl
                  have z7 : decide (((L + 1 : Nat) : Int) - ((1 + u : Nat) : Int) < (n : Int)) = true := by simp; omega
                  have z8 : ((L - u : Nat) : Int) < (n : Int) := by omega
                  clear HRD HSX HRB z1
                  go_enter Tryd.func19, Tryd.ntmps19
                  go_wp2_with fail
                  refine CS.mono ?_
                  rintro e wq ⟨rfl, hq⟩
                  replace hq := hq.symm
                  subst hq
                  clear CS
                  go_wp2
                  rw [st4_eq]
                  obtain ⟨gz, bz⟩ := FIN.out W0 (.bool false) (.int .i64 0) (.int .i64 0) (.slice none 0 0) G0.out B0.out
                  have BZ : Hid (Below w.heap.size w (st4 W0 w.heap.size (.bool false) (.int .i64 0) (.int .i64 0) (.slice none 0 0))) := bz
                  obtain ⟨z0, z1, z2, z3⟩ := cell4 gz
                  generalize st4 W0 w.heap.size (.bool false) (.int .i64 0) (.int .i64 0) (.slice none 0 0) = WZ at *
                  refine bodyPost_ret (v := .tuple #[.agg #[.bool false, .int .i64 0, .int .i64 0, .slice none 0 0], .int .i64 0, .int .i64 0]) ?h rfl ?_
                  case h => simp [results, Tryd.results19, go_sem, z0, z1, z2, z3]
                  rw [HR.out]
                  exact ⟨BZ.out, rfl⟩
                · have HR : Hid (R = .op ⟨false, 0, 0, cut r u n⟩ (1 + (u + n))) := by unfold Hid; rw [HRD.out, if_neg z5, if_neg z1, if_neg (by omega)]; rfl
                  have z8 : ¬ ((L - u : Nat) : Int) < (n : Int) := by omega
                  have hcl : (cut r u n).length = n := cut_len r u n (by rw [← HL.out]; omega)
                  have FS : Hid (∀ W, Below w.heap.size w W → Sl W (.slice (some ⟨xb, xo + (1 + u), none⟩) n (c - (1 + u))) (cut r u n)) := fun W hb => by
                    have := sl_cut (HSX.out W hb).1 (1 + u) n (by omega)
                    have e : cut (0 :: r) (1 + u) n = cut r u n := by unfold cut; rw [Nat.add_comm 1 u, List.drop_succ_cons]
                    rwa [e] at this
                  generalize cut r u n = X at *
                  have q1 : ¬ c = 1 + u := by omega
                  have q2 : ((1 + u : Nat) : Int) + (n : Int) ≤ (c : Int) := by omega
                  have q3 : ((1 + u : Nat) : Int) ≤ ((1 + u : Nat) : Int) + (n : Int) := by omega
                  have q5 : wrap64 (((1 + u : Nat) : Int) + (n : Int)) = ((1 + u : Nat) : Int) + (n : Int) := by unfold wrap64; omega
                  have HXL : Hid (X.length = n) := hcl
                  clear HRD HSX HRB z1 hcl
                  have O1 : Hid (Ow (W0.alloc (.cells #[] 5)) W0.heap.size (.slice (some ⟨W0.heap.size, 0, none⟩) 0 0) []) := ow_empty W0
                  have S1 : Hid (Sl (W0.alloc (.cells #[] 5)) (.slice (some ⟨xb, xo + (1 + u), none⟩) n (c - (1 + u))) X) := FS.out _ (B0.out.trans ((al_below _ _).mono B0.out.size))
                  have HXB : Hid (([] : List Int).length + X.length ≤ 200000000000000) := by unfold Hid; rw [HXL.out]; have := HZ1.out; simp only [List.length_nil]; omega
                  have HL1 : Hid (W0.heap.size ≤ (W0.alloc (.cells #[] 5)).heap.size) := (al_below W0 _).size
                  go_enter Tryd.func19, Tryd.ntmps19
                  go_wp2_with fail
                  refine CS.mono ?_
                  rintro e wq ⟨rfl, hq⟩
                  replace hq := hq.symm
                  subst hq
                  clear CS
                  go_wp2_with (at_builtin; refine wpList_append_ow rfl _ _ rfl W0.heap.size _ [] rfl O1.out _ X rfl (by show Sl _ (.slice (some ⟨xb, xo + (1 + u), none⟩) (1 + u + n - (1 + u)) (c - (1 + u))) X; rw [show 1 + u + n - (1 + u) = n by omega]; exact S1.out) HXB.out (al_below W0 _).size (Hid.out ?_))
                  unfold Hid
                  intro v3 w3 o3 b3
                  try rw [List.nil_append] at o3
                  have b4 : Below W0.heap.size W0 w3 := (al_below W0 _).trans b3
                  have B3 : Hid (Below w.heap.size w w3) := B0.out.trans (b4.mono B0.out.size)
                  have g3 : w3.heap[w.heap.size]? = some (.cells zop 46 (0, 0)) := (b4.block _ (Array.getElem?_eq_some_iff.1 G0.out).1).trans G0.out
                  have r3 : w3.heap[w.heap.size + 1]? = some (.cells zop 46 (0, 0)) := (b4.block _ (Array.getElem?_eq_some_iff.1 R0.out).1).trans R0.out
                  obtain ⟨ua, uc, rfl⟩ := o3.shape
                  obtain ⟨W4, hW4⟩ : ∃ W4, W4 = w3.setCell ⟨w.heap.size + 1, 3, none⟩ (.slice ua X.length uc) := ⟨_, rfl⟩
                  have r4 : W4.heap[w.heap.size + 1]? = some (.cells #[.bool false, .int .i64 0, .int .i64 0, .slice ua X.length uc] 46 (0, 0)) := by rw [hW4, heap_setCell_same _ _ _ _ _ _ r3]; rfl
                  have o4 : ∀ k, k ≠ w.heap.size + 1 → W4.heap[k]? = w3.heap[k]? := fun k hk => by rw [hW4]; exact sc_other _ _ _ _ _ hk
                  have g4 : W4.heap[w.heap.size]? = some (.cells zop 46 (0, 0)) := (o4 _ (by omega)).trans g3
                  have O4 : Hid (Ow W4 w.heap.size (.slice ua X.length uc) X) := (ow_off o3 o4 r3 (by decide)).mono B0.out.size
                  have B4 : Hid (Below w.heap.size w W4) := B3.out.trans (by rw [hW4]; exact sc_below _ _ _ _ _ (by omega))
                  have G4 : Hid (W4.heap[w.heap.size]? = some (.cells zop 46 (0, 0))) := g4
                  have e3 := cell4 r3
                  have e4 := cell4 r4
                  obtain ⟨c0, c1, c2, c3⟩ := e3
                  obtain ⟨c4, c5, c6, c7⟩ := e4
                  obtain ⟨c8, c9, c10, c11⟩ := cell4 g4
                  have fz3 : ∀ i, w3.frozen? ⟨w.heap.size + 1, i, none⟩ = false := fun _ => frozen_of_row _ _ _ _ _ r3
                  have fz4 : ∀ i, W4.frozen? ⟨w.heap.size, i, none⟩ = false := fun _ => frozen_of_row _ _ _ _ _ g4
                  have hw4 := hW4.symm
                  have HRX : Hid (R = .op ⟨false, 0, 0, X⟩ (1 + (u + n))) := HR
                  clear o3 b3 b4 g3 r3 r4 o4 g4 hW4 FS O1 S1 HL1 HXB
                  rw [HXL.out] at O4 hw4 c7
                  try rw [HXL.out]
                  go_wp2
                  rw [st4_eq]
                  obtain ⟨gz, bz⟩ := FIN.out W4 (.bool false) (.int .i64 0) (.int .i64 0) (.slice ua n uc) G4.out B4.out
                  have OZ : Hid (Ow (st4 W4 w.heap.size (.bool false) (.int .i64 0) (.int .i64 0) (.slice ua n uc)) w.heap.size (.slice ua n uc) X) := ow_off O4.out (fun k hk => st4_other _ _ _ _ _ _ k hk) G4.out (by decide)
                  have BZ : Hid (Below w.heap.size w (st4 W4 w.heap.size (.bool false) (.int .i64 0) (.int .i64 0) (.slice ua n uc))) := bz
                  obtain ⟨y0, y1, y2, y3⟩ := cell4 gz
                  generalize st4 W4 w.heap.size (.bool false) (.int .i64 0) (.int .i64 0) (.slice ua n uc) = WZ at *
                  refine bodyPost_ret (v := .tuple #[.agg #[.bool false, .int .i64 0, .int .i64 0, .slice ua n uc], .int .i64 (1 + (u : Int) + (n : Int)), .int .i64 0]) ?h rfl ?_
                  case h => simp [results, Tryd.results19, go_sem, y0, y1, y2, y3]
                  rw [HRX.out]
                  refine ⟨BZ.out, ua, uc, ?_, ?_⟩
                  · show _ = Ending.returned (.tuple #[xval ⟨false, 0, 0, X⟩ ua X.length uc, .int .i64 ((1 + (u + n) : Nat) : Int), .int .i64 0])
                    rw [HXL.out, show ((1 + (u + n) : Nat) : Int) = 1 + (u : Int) + (n : Int) by omega]
                  · show Ow WZ w.heap.size (.slice ua X.length uc) X
                    rw [HXL.out]
                    exact OZ.out
          · obtain rfl : x0 = 1 := by omega
            have HRC : Hid (R = ((copB old n (r.drop u)).on u).on 1) := by
              unfold Hid
              rw [HR00.out, if_neg (by decide), if_pos rfl]
              unfold copA
              rw [e0, if_neg (by decide), if_pos rfl, hn, hu, Int.toNat_natCast]
            clear HR00 e0 hu hn u0 n0 n1 u1 d0 d1 d2 d3
            obtain ⟨WA, hWA⟩ : ∃ WA, WA = W0.setCell ⟨w.heap.size + 1, 0, none⟩ (.bool true) := ⟨_, rfl⟩
            have rA : WA.heap[w.heap.size + 1]? = some (.cells #[.bool true, .int .i64 0, .int .i64 0, .slice none 0 0] 46 (0, 0)) := by rw [hWA, heap_setCell_same _ _ _ _ _ _ R0.out]; rfl
            obtain ⟨W1, hW1⟩ : ∃ W1, W1 = WA.setCell ⟨w.heap.size + 1, 1, none⟩ (.int .i64 (n : Int)) := ⟨_, rfl⟩
            have r1 : W1.heap[w.heap.size + 1]? = some (.cells #[.bool true, .int .i64 (n : Int), .int .i64 0, .slice none 0 0] 46 (0, 0)) := by rw [hW1, heap_setCell_same _ _ _ _ _ _ rA]; rfl
            have g1 : W1.heap[w.heap.size]? = some (.cells zop 46 (0, 0)) := by rw [hW1, sc_other _ _ _ _ _ (by omega), hWA, sc_other _ _ _ _ _ (by omega)]; exact G0.out
            have B1 : Hid (Below w.heap.size w W1) := B0.out.trans (by rw [hW1, hWA]; exact (sc_below _ _ _ _ _ (by omega)).trans (sc_below _ _ _ _ _ (by omega)))
            have G1 : Hid (W1.heap[w.heap.size]? = some (.cells zop 46 (0, 0))) := g1
            have R1 : Hid (W1.heap[w.heap.size + 1]? = some (.cells #[.bool true, .int .i64 (n : Int), .int .i64 0, .slice none 0 0] 46 (0, 0))) := r1
            obtain ⟨i0, i1, i2, i3⟩ := cell4 rA
            obtain ⟨j0, j1, j2, j3⟩ := cell4 r1
            obtain ⟨d0, d1, d2, d3⟩ := cell4 g1
            have fA : ∀ i, WA.frozen? ⟨w.heap.size + 1, i, none⟩ = false := fun _ => frozen_of_row _ _ _ _ _ rA
            have fB : ∀ i, W1.frozen? ⟨w.heap.size + 1, i, none⟩ = false := fun _ => frozen_of_row _ _ _ _ _ r1
            have fC : ∀ i, W1.frozen? ⟨w.heap.size, i, none⟩ = false := fun _ => frozen_of_row _ _ _ _ _ g1
            have kw1 := HK.out W1 B1.out
            have hwA := hWA.symm
            have hw1 := hW1.symm
            have hd2 := (HSX.out W1 B1.out).drop (1 + u) (by omega)
            rw [show (1 :: r).drop (1 + u) = r.drop u by rw [Nat.add_comm 1 u, List.drop_succ_cons]] at hd2
            have HRB2 : Hid (∀ i, 0 ≤ (r.drop u).getD i 0 ∧ (r.drop u).getD i 0 < 256) := fun i => by have := HRB.out (u + i); simpa [List.getD, List.getElem?_drop] using this
            have hl2 : (r.drop u).length = r.length - u := List.length_drop
            obtain ⟨L, hL⟩ : ∃ L, L = r.length := ⟨_, rfl⟩
            rw [← hL] at CS HSX hu1 hLc L1 n2 hl2 hd2 ⊢
            unfold cuv at hd2
            clear hL hWA hW1 rA r1 g1 HSX HRB
            generalize r.drop u = r2 at *
            by_cases hcu : c = 1 + u
            · rw [if_pos hcu] at hd2
              have yc : wrap64 (1 + (u : Int)) = (c : Int) := by rw [yu, ← hcu]
              have n3 : (0 : Int) < (c : Int) := by omega
              have L3 : (1 : Int) ≤ (c : Int) := by omega
              rw [show L = c - 1 by omega] at CS
              rw [show L + 1 = c by omega]
              have hr20 : r2.length = 0 := by omega
              clear hLc L1 hu1 yu n2 hcu hl2
              have e5 : nE r2 = 3 := by rw [List.length_eq_zero_iff.1 hr20]; decide
              have CS2 := rsh_any _ r2 W1 hd2
              rw [e5] at CS2
              have HR : Hid (R = .wait) := by unfold Hid; rw [HRC.out]; unfold copB; rw [if_pos e5]; rfl
              generalize nN r2 = nn at *
              generalize nU r2 = uu at *
              clear hd2 HRC e5 HRB2 hr20
              go_enter Tryd.func19, Tryd.ntmps19
              go_wp2_with fail
              refine CS.mono ?_
              rintro e wq ⟨rfl, hq⟩
              replace hq := hq.symm
              subst hq
              clear CS
              go_wp2_with fail
              refine CS2.mono ?_
              rintro e wq ⟨rfl, hq⟩
              replace hq := hq.symm
              subst hq
              clear CS2
              go_wp2
              rw [st4_eq]
              obtain ⟨gz, bz⟩ := FIN.out W1 (.bool false) (.int .i64 0) (.int .i64 0) (.slice none 0 0) G1.out B1.out
              have BZ : Hid (Below w.heap.size w (st4 W1 w.heap.size (.bool false) (.int .i64 0) (.int .i64 0) (.slice none 0 0))) := bz
              obtain ⟨z0, z1, z2, z3⟩ := cell4 gz
              generalize st4 W1 w.heap.size (.bool false) (.int .i64 0) (.int .i64 0) (.slice none 0 0) = WZ at *
              refine bodyPost_ret (v := .tuple #[.agg #[.bool false, .int .i64 0, .int .i64 0, .slice none 0 0], .int .i64 0, .int .i64 0]) ?h rfl ?_
              case h => simp [results, Tryd.results19, go_sem, z0, z1, z2, z3]
              rw [HR.out]
              exact ⟨BZ.out, rfl⟩
            · rw [if_neg hcu] at hd2
              have CS2 := rsh_any _ r2 W1 hd2
              obtain ⟨m0, m1, v0, v1⟩ := nU_le r2 HRB2.out
              clear hd2
              rcases nE_cases r2 with e5 | e5 | e5
              · rw [e5] at CS2
                obtain ⟨v, hv⟩ : ∃ v : Nat, nU r2 = v := ⟨_, (Int.toNat_of_nonneg v0).symm⟩
                obtain ⟨m, hm⟩ : ∃ m : Nat, nN r2 = m := ⟨_, (Int.toNat_of_nonneg m0).symm⟩
                rw [hv, hm] at CS2
                rw [hv] at v1
                have hvl : v ≤ L - u := by omega
                have HRM : Hid (R = if mayX ⟨true, n, m, []⟩ old = true then .op ⟨true, n, m, []⟩ (1 + (u + v)) else .bad 4) := by
                  unfold Hid
                  rw [HRC.out]
                  unfold copB
                  rw [if_neg (by rw [e5]; decide), if_pos e5, hm, hv, Int.toNat_natCast]
                  split <;> rfl
                obtain ⟨W2, hW2⟩ : ∃ W2, W2 = W1.setCell ⟨w.heap.size + 1, 2, none⟩ (.int .i64 (m : Int)) := ⟨_, rfl⟩
                have s2 : W2.heap[w.heap.size + 1]? = some (.cells #[.bool true, .int .i64 (n : Int), .int .i64 (m : Int), .slice none 0 0] 46 (0, 0)) := by rw [hW2, heap_setCell_same _ _ _ _ _ _ R1.out]; rfl
                have g2 : W2.heap[w.heap.size]? = some (.cells zop 46 (0, 0)) := by rw [hW2, sc_other _ _ _ _ _ (by omega)]; exact G1.out
                have B2 : Hid (Below w.heap.size w W2) := B1.out.trans (by rw [hW2]; exact sc_below _ _ _ _ _ (by omega))
                have G2 : Hid (W2.heap[w.heap.size]? = some (.cells zop 46 (0, 0))) := g2
                have S2 : Hid (W2.heap[w.heap.size + 1]? = some (.cells #[.bool true, .int .i64 (n : Int), .int .i64 (m : Int), .slice none 0 0] 46 (0, 0))) := s2
                obtain ⟨l0, l1, l2, l3⟩ := cell4 s2
                have CM : Calls Tryd.prog 30 #[.agg #[.bool true, .int .i64 (n : Int), .int .i64 (m : Int), .slice none 0 0], .int .i64 old] W2 fun e w' => e = .returned (.bool (mayX ⟨true, n, m, []⟩ old)) ∧ Below W2.heap.size W2 w' := rmay_any ⟨true, n, m, []⟩ old none 0 0 W2 rfl ho
                have hw2 := hW2.symm
                generalize mayX ⟨true, n, m, []⟩ old = mb at CM HRM
                clear HRC e5 HRB2 hl2 m0 m1 v0 v1 hv hm hW2 s2 g2
                go_enter Tryd.func19, Tryd.ntmps19
                go_wp2_with fail
                refine CS.mono ?_
                rintro e wq ⟨rfl, hq⟩
                replace hq := hq.symm
                subst hq
                clear CS
                go_wp2_with fail
                refine CS2.mono ?_
                rintro e wq ⟨rfl, hq⟩
                replace hq := hq.symm
                subst hq
                clear CS2
                go_wp2_with fail
                refine CM.mono ?_
                rintro e w3 ⟨rfl, b3⟩
                clear CM
                have B3 : Hid (Below w.heap.size w w3) := B2.out.trans (b3.mono B2.out.size)
                have g3 : w3.heap[w.heap.size]? = some (.cells zop 46 (0, 0)) := (b3.block _ (Array.getElem?_eq_some_iff.1 G2.out).1).trans G2.out
                have s3 : w3.heap[w.heap.size + 1]? = some (.cells #[.bool true, .int .i64 (n : Int), .int .i64 (m : Int), .slice none 0 0] 46 (0, 0)) := (b3.block _ (Array.getElem?_eq_some_iff.1 S2.out).1).trans S2.out
                have G3 : Hid (w3.heap[w.heap.size]? = some (.cells zop 46 (0, 0))) := g3
                obtain ⟨y0, y1, y2, y3⟩ := cell4 g3
                obtain ⟨x0, x1, x2, x3⟩ := cell4 s3
                have fE : ∀ i, w3.frozen? ⟨w.heap.size, i, none⟩ = false := fun _ => frozen_of_row _ _ _ _ _ g3
                clear b3 g3 s3
                cases mb with
                | false =>
                  have HR : Hid (R = .bad 4) := by unfold Hid; rw [HRM.out, if_neg (by decide)]
                  clear HRM
                  go_wp2
                  rw [st4_eq]
                  obtain ⟨gz, bz⟩ := FIN.out w3 (.bool false) (.int .i64 0) (.int .i64 0) (.slice none 0 0) G3.out B3.out
                  have BZ : Hid (Below w.heap.size w (st4 w3 w.heap.size (.bool false) (.int .i64 0) (.int .i64 0) (.slice none 0 0))) := bz
                  obtain ⟨z0, z1, z2, z3⟩ := cell4 gz
                  generalize st4 w3 w.heap.size (.bool false) (.int .i64 0) (.int .i64 0) (.slice none 0 0) = WZ at *
                  refine bodyPost_ret (v := .tuple #[.agg #[.bool false, .int .i64 0, .int .i64 0, .slice none 0 0], .int .i64 0, .int .i64 4]) ?h rfl ?_
                  case h => simp [results, Tryd.results19, go_sem, z0, z1, z2, z3]
                  rw [HR.out]
                  exact ⟨BZ.out, rfl⟩
                | true =>
                  have HRX : Hid (R = .op ⟨true, n, m, []⟩ (1 + (u + v))) := by unfold Hid; rw [HRM.out, if_pos rfl]
                  clear HRM
                  go_wp2
                  rw [st4_eq]
                  obtain ⟨gz, bz⟩ := FIN.out w3 (.bool true) (.int .i64 (n : Int)) (.int .i64 (m : Int)) (.slice none 0 0) G3.out B3.out
                  have BZ : Hid (Below w.heap.size w (st4 w3 w.heap.size (.bool true) (.int .i64 (n : Int)) (.int .i64 (m : Int)) (.slice none 0 0))) := bz
                  obtain ⟨z0, z1, z2, z3⟩ := cell4 gz
                  generalize st4 w3 w.heap.size (.bool true) (.int .i64 (n : Int)) (.int .i64 (m : Int)) (.slice none 0 0) = WZ at *
                  refine bodyPost_ret (v := .tuple #[.agg #[.bool true, .int .i64 (n : Int), .int .i64 (m : Int), .slice none 0 0], .int .i64 (1 + (u : Int) + (v : Int)), .int .i64 0]) ?h rfl ?_
                  case h => simp [results, Tryd.results19, go_sem, z0, z1, z2, z3]
                  rw [HRX.out]
                  refine ⟨BZ.out, none, 0, ?_, Ow.nil _ _⟩
                  show _ = Ending.returned (.tuple #[xval ⟨true, n, m, []⟩ none 0 0, .int .i64 ((1 + (u + v) : Nat) : Int), .int .i64 0])
                  rw [show ((1 + (u + v) : Nat) : Int) = 1 + (u : Int) + (v : Int) by omega]
              · rw [e5] at CS2
                have HR : Hid (R = .wait) := by unfold Hid; rw [HRC.out]; unfold copB; rw [if_pos e5]; rfl
                generalize nN r2 = nn at *
                generalize nU r2 = uu at *
                clear HRC e5 HRB2 hl2 m0 m1 v0 v1
                go_enter Tryd.func19, Tryd.ntmps19
                go_wp2_with fail
                refine CS.mono ?_
                rintro e wq ⟨rfl, hq⟩
                replace hq := hq.symm
                subst hq
                clear CS
                go_wp2_with fail
                refine CS2.mono ?_
                rintro e wq ⟨rfl, hq⟩
                replace hq := hq.symm
                subst hq
                clear CS2
                go_wp2
                rw [st4_eq]
                obtain ⟨gz, bz⟩ := FIN.out W1 (.bool false) (.int .i64 0) (.int .i64 0) (.slice none 0 0) G1.out B1.out
                have BZ : Hid (Below w.heap.size w (st4 W1 w.heap.size (.bool false) (.int .i64 0) (.int .i64 0) (.slice none 0 0))) := bz
                obtain ⟨z0, z1, z2, z3⟩ := cell4 gz
                generalize st4 W1 w.heap.size (.bool false) (.int .i64 0) (.int .i64 0) (.slice none 0 0) = WZ at *
                refine bodyPost_ret (v := .tuple #[.agg #[.bool false, .int .i64 0, .int .i64 0, .slice none 0 0], .int .i64 0, .int .i64 0]) ?h rfl ?_
                case h => simp [results, Tryd.results19, go_sem, z0, z1, z2, z3]
                rw [HR.out]
                exact ⟨BZ.out, rfl⟩
              · rw [e5] at CS2
                have HR : Hid (R = .bad 4) := by unfold Hid; rw [HRC.out]; unfold copB; rw [if_neg (by rw [e5]; decide), if_neg (by rw [e5]; decide), e5]; rfl
                generalize nN r2 = nn at *
                generalize nU r2 = uu at *
                clear HRC e5 HRB2 hl2 m0 m1 v0 v1
                go_enter Tryd.func19, Tryd.ntmps19
                go_wp2_with fail
                refine CS.mono ?_
                rintro e wq ⟨rfl, hq⟩
                replace hq := hq.symm
                subst hq
                clear CS
                go_wp2_with fail
                refine CS2.mono ?_
                rintro e wq ⟨rfl, hq⟩
                replace hq := hq.symm
                subst hq
                clear CS2
                go_wp2
                rw [st4_eq]
                obtain ⟨gz, bz⟩ := FIN.out W1 (.bool false) (.int .i64 0) (.int .i64 0) (.slice none 0 0) G1.out B1.out
                have BZ : Hid (Below w.heap.size w (st4 W1 w.heap.size (.bool false) (.int .i64 0) (.int .i64 0) (.slice none 0 0))) := bz
                obtain ⟨z0, z1, z2, z3⟩ := cell4 gz
                generalize st4 W1 w.heap.size (.bool false) (.int .i64 0) (.int .i64 0) (.slice none 0 0) = WZ at *
                refine bodyPost_ret (v := .tuple #[.agg #[.bool false, .int .i64 0, .int .i64 0, .slice none 0 0], .int .i64 0, .int .i64 4]) ?h rfl ?_
                case h => simp [results, Tryd.results19, go_sem, z0, z1, z2, z3]
                rw [HR.out]
                exact ⟨BZ.out, rfl⟩
        · rw [e3] at CS
          have HR : Hid (R = .wait) := by
            unfold Hid
            rw [HR00.out]
            by_cases hx0' : x0 = 0
            · rw [if_pos hx0']; unfold datA; rw [if_pos e3]; rfl
            · rw [if_neg hx0', if_pos (by omega)]; unfold copA; rw [if_pos e3]; rfl
          generalize nN r = nn at *
          generalize nU r = uu at *
          generalize r.length = L at *
          clear HR00 HSX e3 HRB n0 n1 u0 u1
          go_enter Tryd.func19, Tryd.ntmps19
          go_wp2_with fail
          refine CS.mono ?_
          rintro e wq ⟨rfl, hq⟩
          replace hq := hq.symm
          subst hq
          clear CS
          go_wp2
          rw [st4_eq]
          obtain ⟨gz, bz⟩ := FIN.out W0 (.bool false) (.int .i64 0) (.int .i64 0) (.slice none 0 0) G0.out B0.out
          have BZ : Hid (Below w.heap.size w (st4 W0 w.heap.size (.bool false) (.int .i64 0) (.int .i64 0) (.slice none 0 0))) := bz
          obtain ⟨z0, z1, z2, z3⟩ := cell4 gz
          generalize st4 W0 w.heap.size (.bool false) (.int .i64 0) (.int .i64 0) (.slice none 0 0) = WZ at *
          refine bodyPost_ret (v := .tuple #[.agg #[.bool false, .int .i64 0, .int .i64 0, .slice none 0 0], .int .i64 0, .int .i64 0]) ?h rfl ?_
          case h => simp [results, Tryd.results19, go_sem, z0, z1, z2, z3]
          rw [HR.out]
          exact ⟨BZ.out, rfl⟩
        · rw [e4] at CS
          have HR : Hid (R = .bad 4) := by
            unfold Hid
            rw [HR00.out]
            by_cases hx0' : x0 = 0
            · rw [if_pos hx0']; unfold datA; rw [if_neg (by rw [e4]; decide), if_neg (by rw [e4]; decide), e4]; rfl
            · rw [if_neg hx0', if_pos (by omega)]; unfold copA; rw [if_neg (by rw [e4]; decide), if_neg (by rw [e4]; decide), e4]; rfl
          generalize nN r = nn at *
          generalize nU r = uu at *
          generalize r.length = L at *
          clear HR00 HSX e4 HRB n0 n1 u0 u1
          go_enter Tryd.func19, Tryd.ntmps19
          go_wp2_with fail
          refine CS.mono ?_
          rintro e wq ⟨rfl, hq⟩
          replace hq := hq.symm
          subst hq
          clear CS
          go_wp2
          rw [st4_eq]
          obtain ⟨gz, bz⟩ := FIN.out W0 (.bool false) (.int .i64 0) (.int .i64 0) (.slice none 0 0) G0.out B0.out
          have BZ : Hid (Below w.heap.size w (st4 W0 w.heap.size (.bool false) (.int .i64 0) (.int .i64 0) (.slice none 0 0))) := bz
          obtain ⟨z0, z1, z2, z3⟩ := cell4 gz
          generalize st4 W0 w.heap.size (.bool false) (.int .i64 0) (.int .i64 0) (.slice none 0 0) = WZ at *
          refine bodyPost_ret (v := .tuple #[.agg #[.bool false, .int .i64 0, .int .i64 0, .slice none 0 0], .int .i64 0, .int .i64 4]) ?h rfl ?_
          case h => simp [results, Tryd.results19, go_sem, z0, z1, z2, z3]
          rw [HR.out]
          exact ⟨BZ.out, rfl⟩
end Go.Proofs.YtfccjeepmhgckaaDoor
