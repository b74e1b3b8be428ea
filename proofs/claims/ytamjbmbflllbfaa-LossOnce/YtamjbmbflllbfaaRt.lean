/-
  What slices.Replace answers at the end of a row; what it answers where a new row is wanted.
-/
import Derived.Test.YtamjbmbflllbfaaRr
import Derived.Maps.AppendAt
namespace Go.Proofs.Ytamjbmbflllbfaa
open Go.RowKit Go.Shelf
set_option maxRecDepth 100000

set_option maxHeartbeats 4000000 in
theorem rep_end (g c n i m : Nat) (L vs : List Value) (u : Value) (w : World) (hg : w.heap[g]? = some (.cells L.toArray 45 (0, 0))) (hL : L.length = c * 2) (hi : i < n) (hnc : n ≤ c) (him : i + m ≤ c) (hc : c ≤ maxLen) (sr : Sr w g u m vs) :
    Calls Try.prog 62 #[.slice (some ⟨g, 0, none⟩) n c, .int .i64 i, .int .i64 n, u] w fun e w' => e = .returned (.slice (some ⟨g, 0, none⟩) (i + m) c) ∧
      (∃ L' : List Value, w'.heap[g]? = some (.cells L'.toArray 45 (0, 0)) ∧ L'.length = c * 2 ∧ L'.take ((i + m) * 2) = (L.take (n * 2)).take (i * 2) ++ vs) ∧ w.grownBy w' (some g) := by
  obtain ⟨i0, hi0, hz0, hzs, hzb⟩ := info_parts infoN
  have hmx : c ≤ 9223372036854775807 := by unfold maxLen at hc; omega
  have hvl := sr.1
  obtain ⟨L1, hL1⟩ : ∃ L1, L1 = upd (i * 2) vs L := ⟨_, rfl⟩
  have l1 : L1.length = c * 2 := by rw [hL1, upd_len (by omega), hL]
  have cell : ∀ (W : World) (M : List Value), W.heap[g]? = some (.cells M.toArray 45 (0, 0)) → M.length = c * 2 → (∀ k, k < c * 2 → (W.cell? ⟨g, k, none⟩).isSome = true) ∧ (∀ k, W.frozen? ⟨g, k, none⟩ = false) := fun W M hM hl =>
    ⟨fun k hk => by simp only [World.cell?, hM]; rw [List.getElem?_toArray, List.getElem?_eq_getElem (by omega)]; rfl, fun k => by simp [World.frozen?, hM]⟩
  have hap : ∀ ty, (Builtin.append_ #[35, 35] ty #[.slice (some ⟨g, 0, none⟩) i c, u]).run Try.prog w = .ok (.slice (some ⟨g, 0, none⟩) (i + m) c) (w.setCells g (i * 2) vs) := fun ty => by
    obtain ⟨q1, q2⟩ := cell w L hg hL
    have := run_append_room_src (P := Try.prog) w 35 35 ty 45 i0 Try.underlying35 hi0 g 0 i c u m vs (by rw [hzs]; exact sr.src (fun _ _ _ => rfl)) him (fun k hk => by rw [hzs]; exact q1 _ (by omega)) (fun k _ => q2 _)
    rw [hzs, Nat.zero_add] at this
    exact this
  have HG1 : Hid ((w.setCells g (i * 2) vs).heap[g]? = some (.cells L1.toArray 45 (0, 0))) := by unfold Hid; rw [hL1]; exact upd_block g vs _ w L _ hg (by omega)
  have HT1 : Hid (L1.take ((i + m) * 2) = (L.take (n * 2)).take (i * 2) ++ vs) := by
    unfold Hid
    rw [show (i + m) * 2 = i * 2 + vs.length by omega, hL1, upd_take (by omega), List.take_take, Nat.min_eq_left (by omega)]
  have HGW : Hid (w.grownBy (w.setCells g (i * 2) vs) (some g)) := ⟨(setCells_size _ _ _ _).2.1, (setCells_size _ _ _ _).2.2.1, (setCells_size _ _ _ _).2.2.2, by rw [(setCells_size _ _ _ _).1]; exact Nat.le_refl _, fun k hk hne => setCells_other _ _ _ _ _ (fun e => hne (by rw [e]))⟩
  have HAP : Hid (∀ ty, (Builtin.append_ #[35, 35] ty #[.slice (some ⟨g, 0, none⟩) i c, u]).run Try.prog w = .ok (.slice (some ⟨g, 0, none⟩) (i + m) c) (w.setCells g (i * 2) vs)) := hap
  have HL1 : Hid (L1.length = c * 2) := l1
  have HCE : Hid (∀ (W : World) (M : List Value), W.heap[g]? = some (.cells M.toArray 45 (0, 0)) → M.length = c * 2 → (∀ k, k < c * 2 → (W.cell? ⟨g, k, none⟩).isSome = true) ∧ (∀ k, W.frozen? ⟨g, k, none⟩ = false)) := cell
  obtain ⟨ua, uc, rfl⟩ := sr.shape
  clear cell hap sr hg hL hvl hL1 l1
  have x1 : (i : Int) ≤ (n : Int) := by omega
  have x2 : (n : Int) ≤ (c : Int) := by omega
  have x3 : ((i : Int) == (n : Int)) = false := by simp; omega
  have x4 : ((n : Int) == (n : Int)) = true := by simp
  have x5 : (i : Int) ≤ (c : Int) := by omega
  have x6 : ¬ ((i : Int) = (n : Int)) := by omega
  have x7 : ¬ c = i := by omega
  by_cases hlt : i + m < n
  · have HCL : Hid (∀ ty cc, (Builtin.clear_ #[35] ty #[.slice (some ⟨g, (i + m) * 2, none⟩) (n - (i + m)) cc]).run Try.prog (w.setCells g (i * 2) vs) = .ok (.tuple #[]) ((w.setCells g (i * 2) vs).setCells g ((i + m) * 2) (zs (n - (i + m))))) := fun ty cc => by
      obtain ⟨q1, q2⟩ := HCE.out _ L1 HG1.out HL1.out
      exact run_clear_k _ ty g ((i + m) * 2) (n - (i + m)) cc (fun k hk => q1 _ (by omega)) (fun k _ => q2 _)
    have HE : Hid ((∃ L' : List Value, ((w.setCells g (i * 2) vs).setCells g ((i + m) * 2) (zs (n - (i + m)))).heap[g]? = some (.cells L'.toArray 45 (0, 0)) ∧ L'.length = c * 2 ∧ L'.take ((i + m) * 2) = (L.take (n * 2)).take (i * 2) ++ vs) ∧ w.grownBy ((w.setCells g (i * 2) vs).setCells g ((i + m) * 2) (zs (n - (i + m)))) (some g)) := by
      have hl := HL1.out
      have q := setCells_size g (zs (n - (i + m))) ((i + m) * 2) (w.setCells g (i * 2) vs)
      refine ⟨⟨upd ((i + m) * 2) (zs (n - (i + m))) L1, upd_block g _ _ _ L1 _ HG1.out (by rw [zs_len]; omega), by rw [upd_len (by rw [zs_len]; omega)]; exact hl, by rw [upd_lo (Nat.le_refl _) (by omega)]; exact HT1.out⟩, q.2.1.trans HGW.out.os, q.2.2.1.trans HGW.out.tape, q.2.2.2.trans HGW.out.output, by rw [q.1]; exact HGW.out.size, fun k hk hne => by rw [setCells_other _ _ _ _ _ (fun e => hne (by rw [e]))]; exact HGW.out.block k hk hne⟩
    have x8 : decide (((i + m : Nat) : Int) < (n : Int)) = true := by simp; omega
    have x8' : decide (i + m < n) = true := by simpa using hlt
    have x9 : ¬ c = i + m := by omega
    have x10 : ((i + m : Nat) : Int) ≤ (n : Int) := by omega
    have x11 : (0 : Int) ≤ ((i + m : Nat) : Int) := by omega
    obtain ⟨im, him'⟩ : ∃ im, im = i + m := ⟨_, rfl⟩
    rw [← him'] at HAP HCL HE x8 x8' x9 x10 x11 ⊢
    obtain ⟨W1, hW1⟩ : ∃ W1, W1 = w.setCells g (i * 2) vs := ⟨_, rfl⟩
    rw [← hW1] at HAP HCL HE
    clear him' hlt HT1 HGW HG1 hW1 HL1 HCE
    have hcl := HCL.out
    go_enter Try.func62, Try.ntmps62
    go_wp2_with (at_builtin; refine Lib.wpList_append_run _ rfl _ _ _ _ rfl _ _ rfl rfl _ _ (HAP.out _) ?_)
    go_ret
    exact ⟨rfl, HE.out.1, HE.out.2⟩
  · have x8 : decide (((i + m : Nat) : Int) < (n : Int)) = false := by simp; omega
    have x8' : decide (i + m < n) = false := by simpa using hlt
    have HE : Hid ((∃ L' : List Value, (w.setCells g (i * 2) vs).heap[g]? = some (.cells L'.toArray 45 (0, 0)) ∧ L'.length = c * 2 ∧ L'.take ((i + m) * 2) = (L.take (n * 2)).take (i * 2) ++ vs) ∧ w.grownBy (w.setCells g (i * 2) vs) (some g)) := ⟨⟨L1, HG1.out, HL1.out, HT1.out⟩, HGW.out⟩
    obtain ⟨im, him'⟩ : ∃ im, im = i + m := ⟨_, rfl⟩
    rw [← him'] at HAP HE x8 x8' ⊢
    obtain ⟨W1, hW1⟩ : ∃ W1, W1 = w.setCells g (i * 2) vs := ⟨_, rfl⟩
    rw [← hW1] at HAP HE
    clear him' hlt HT1 HGW HG1 hW1 HL1 HCE
    go_enter Try.func62, Try.ntmps62
    go_wp2_with (at_builtin; refine Lib.wpList_append_run _ rfl _ _ _ _ rfl _ _ rfl rfl _ _ (HAP.out _) ?_)
    go_ret
    exact ⟨rfl, HE.out.1, HE.out.2⟩
set_option maxHeartbeats 4000000 in
theorem rep_endg (B g c n i m h mc : Nat) (L vs : List Value) (xs : Array Value) (w : World) (hg : w.heap[g]? = some (.cells L.toArray 45 (0, 0))) (hL : L.length = c * 2) (hi : i < n) (hnc : n ≤ c) (him : c < i + m) (hc : c ≤ maxLen) (hn : n ≤ 1000) (hm : m ≤ 1000) (hB : B ≤ w.heap.size) (hBg : B ≤ g) (h1 : ∀ y ∈ vs, y.oneCell' = true) (hvl : vs.length = m * 2)
    (hh : w.heap[h]? = some (.cells xs 45 (0, 0))) (hv : ∀ (j : Nat) y, vs[j]? = some y → xs[j]? = some y) :
    Calls Try.prog 62 #[.slice (some ⟨g, 0, none⟩) n c, .int .i64 i, .int .i64 n, .slice (some ⟨h, 0, none⟩) m mc] w fun e w' => ∃ v', e = .returned v' ∧ w'.ownsRow B 45 2 v' (i + m) ((L.take (n * 2)).take (i * 2) ++ vs) ∧ w.grownBy w' (some g) ∧ (v'.ownBlock = some g ∨ v'.ownBlock = some w.heap.size) := by
  obtain ⟨i0, hi0, hz0, hzs, hzb⟩ := info_parts infoN
  have hmx : c ≤ 9223372036854775807 := by unfold maxLen at hc; omega
  have HO : Hid (w.ownsRow B 45 2 (.slice (some ⟨g, 0, none⟩) i c) i ((L.take (n * 2)).take (i * 2))) := by
    refine ⟨by rw [List.length_take, List.length_take]; omega, .inr ⟨g, c, L.toArray, rfl, hBg, hg, by omega, hc, by simpa using hL, ?_⟩⟩
    rw [List.take_take, Nat.min_eq_left (by omega)]
  have HX : Hid (∀ j y, vs[j]? = some y → w.cell? ((⟨h, 0, none⟩ : Addr).add j) = some y) := fun j y hj => by
    rw [Addr.add_lit, Nat.zero_add]
    simp only [World.cell?, hh]
    exact hv j y hj
  have H1 : Hid (∀ y ∈ vs, y.oneCell' = true) := h1
  have HB : Hid (B ≤ w.heap.size) := hB
  have HVL : Hid (vs.length = m * 2) := hvl
  clear hg hL h1 hh hv hB hBg hvl
  have x1 : (i : Int) ≤ (n : Int) := by omega
  have x2 : (n : Int) ≤ (c : Int) := by omega
  have x3 : ((i : Int) == (n : Int)) = false := by simp; omega
  have x4 : ((n : Int) == (n : Int)) = true := by simp
  have x5 : (i : Int) ≤ (c : Int) := by omega
  have x6 : ¬ ((i : Int) = (n : Int)) := by omega
  have x7 : ¬ c = i := by omega
  have x8 : decide (((i + m : Nat) : Int) < (n : Int)) = false := by simp; omega
  have x8' : decide (i + m < n) = false := by simp; omega
  generalize (L.take (n * 2)).take (i * 2) = XS at *
  obtain ⟨im, him'⟩ : ∃ im, im = i + m := ⟨_, rfl⟩
  have HIM : Hid (im = i + m) := him'
  rw [← him'] at x8 x8' ⊢
  clear him'
  go_enter Try.func62, Try.ntmps62
  go_wp2_with (at_builtin; refine wpList_append_own_at _ rfl _ _ 35 rfl B 45 i0 (.agg #[.int .i64 0, .int .i64 0]) 2 16 Try.underlying35 hi0 hz0 hzs hzb rfl (by decide) _ i XS rfl HO.out _ m mc vs rfl HVL.out HX.out H1.out (by unfold maxLen; omega) (by omega) HB.out (Hid.out ?_))
  unfold Hid
  intro v' w' o' g' _ k'
  obtain ⟨a', c', rfl⟩ := own_shape o'
  rw [← HIM.out] at o' k' ⊢
  have O' : Hid (w'.ownsRow B 45 2 (.slice a' im c') im (XS ++ vs)) := o'
  have G' : Hid (w.grownBy w' (some g)) := g'
  have K' : Hid ((Value.slice a' im c').ownBlock = some g ∨ (Value.slice a' im c').ownBlock = some w.heap.size) := k'
  clear o' g' k' HO HX H1 HB HVL HIM
  go_wp2
  go_ret
  exact ⟨_, rfl, O'.out, G'.out, K'.out⟩
end Go.Proofs.Ytamjbmbflllbfaa
