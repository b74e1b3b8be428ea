/-
  What Trim answers, and Fork.
-/
import Derived.Test.YtaghmoddalbepaaDoorRe
import Derived.Deep.RegionLaw
import Derived.Lib.SliceRun
import Derived.Laws.IdiomCopy
namespace Go.Proofs.YtaghmoddalbepaaDoor
open Go.RowKit Go.Shelf
set_option maxRecDepth 100000

set_option maxHeartbeats 4000000 in
theorem delete_lo (B : Nat) (v : Value) (n k : Nat) (cs : List Value) (w : World) (ho : w.ownsRow B 58 2 v n cs) (hk : 0 < k) (hkn : k ≤ n) (hn : n ≤ 1000) (h1 : ∀ y ∈ cs, y.oneCell' = true) :
    Calls Tryd.prog 40 #[v, .int .i64 0, .int .i64 (k : Int)] w fun e w' => ∃ v', e = .returned v' ∧ w'.ownsRow B 58 2 v' (n - k) (cs.drop (k * 2)) ∧ w.grownBy w' v.ownBlock ∧ v'.ownBlock = v.ownBlock := by
  obtain ⟨i0, hi0, hz0, hz1, hz2⟩ := info_parts infoN
  have hcl := ho.1
  rcases ho.2 with ⟨_, h0⟩ | ⟨g, c, cur, rfl, hBg, hg, hnc, hcm, hsz, htk⟩
  · omega
  have cell : ∀ j, w.cell? ⟨g, j, none⟩ = cur[j]? := fun j => by simp [World.cell?, hg]
  have froz : ∀ j, w.frozen? ⟨g, j, none⟩ = false := fun j => by simp [World.frozen?, hg]
  have hsp : ∀ j, j < c * 2 → (w.cell? ⟨g, j, none⟩).isSome = true := fun j hj => by rw [cell, Array.getElem?_eq_getElem (by omega)]; rfl
  obtain ⟨news, hnews⟩ : ∃ news, news = cs.drop (k * 2) := ⟨_, rfl⟩
  have hnl : news.length = (n - k) * 2 := by rw [hnews, List.length_drop, hcl]; omega
  have hnc2 : ∀ j u, news[j]? = some u → w.cell? ⟨g, k * 2 + j, none⟩ = some u := fun j u hj => by
    rw [hnews, List.getElem?_drop, ← htk, List.getElem?_take] at hj
    split at hj
    · rw [cell]; simpa using hj
    · cases hj
  obtain ⟨m, hm⟩ : ∃ m, m = n - k := ⟨_, rfl⟩
  rw [← hm] at hnl ⊢
  obtain ⟨W1, hW1⟩ : ∃ W1, W1 = w.drew.setCells g 0 news := ⟨_, rfl⟩
  obtain ⟨A1, a1, a2⟩ := setCells_block g news 0 w.drew cur 58 hg (by omega)
  have la : A1.toList.length = c * 2 := by
    rw [a2, List.length_append, List.length_append, List.length_take, List.length_drop, hnl]
    simp only [Array.length_toList, hsz]
    omega
  have hc1 : ∀ j, j < c * 2 → (W1.cell? ⟨g, j, none⟩).isSome = true := fun j hj => by
    rw [hW1, World.cell?, a1]
    simp only
    rw [Array.getElem?_eq_getElem (by rw [← Array.length_toList, la]; exact hj)]
    rfl
  have hf1 : ∀ j, W1.frozen? ⟨g, j, none⟩ = false := fun j => by rw [hW1]; simp [World.frozen?, a1]
  have hclr : ∀ ty, (Builtin.clear_ #[28] ty #[.slice (some ⟨g, m * 2, none⟩) (n - m) (c - m)]).run Tryd.prog W1 = .ok (.tuple #[]) (W1.setCells g (m * 2) (zs (n - m))) := fun ty =>
    run_clear_k W1 ty g (m * 2) (n - m) _ (fun j hj => hc1 _ (by omega)) (fun j hj => hf1 _)
  have HE : Hid ((W1.setCells g (m * 2) (zs (n - m))).ownsRow B 58 2 (.slice (some ⟨g, 0, none⟩) m c) m news ∧ w.grownBy (W1.setCells g (m * 2) (zs (n - m))) (some g)) := by
    obtain ⟨A2, b1, b2⟩ := setCells_block g (zs (n - m)) (m * 2) W1 A1 58 (by rw [hW1]; exact a1) (by rw [← Array.length_toList, la, zs_len]; omega)
    have lb : A2.toList.length = c * 2 := by
      rw [b2, List.length_append, List.length_append, List.length_take, List.length_drop, la]
      rw [zs_len]
      omega
    obtain ⟨s1, s2, s3, s4⟩ := setCells_size g (zs (n - m)) (m * 2) W1
    obtain ⟨t1, t2, t3, t4⟩ := setCells_size g news 0 w.drew
    refine ⟨⟨hnl, .inr ⟨g, c, A2, rfl, hBg, b1, by omega, hcm, by rw [← Array.length_toList]; exact lb, ?_⟩⟩, ?_, ?_, ?_, ?_, fun k hk hne => ?_⟩
    · rw [b2, List.append_assoc, List.take_append_of_le_length (by rw [List.length_take, la]; omega), List.take_take, Nat.min_self, a2, List.take_zero, List.nil_append]
      exact List.take_left' hnl
    · rw [s2, hW1]; exact t2
    · rw [s3, hW1]; exact t3
    · rw [s4, hW1]; exact t4
    · rw [s1, hW1, t1]; exact Nat.le_refl _
    · rw [setCells_other _ _ _ _ _ (fun e => hne (by rw [e])), hW1, setCells_other _ _ _ _ _ (fun e => hne (by rw [e]))]
      rfl
  have H1 : Hid (∀ u ∈ news, u.oneCell' = true) := fun u hu => h1 u (by rw [hnews] at hu; exact List.mem_of_mem_drop hu)
  have HC : Hid (∀ j u, news[j]? = some u → w.drew.cell? ((⟨g, k * 2, none⟩ : Addr).add j) = some u) := fun j u hj => by rw [Addr.add_lit]; exact hnc2 j u hj
  have HSP : Hid (∀ j, j < news.length → (w.drew.cell? ⟨g, 0 + 0 * 2 + j, none⟩).isSome = true ∧ w.drew.frozen? ⟨g, 0 + 0 * 2 + j, none⟩ = false) := fun j hj => ⟨by rw [Nat.zero_mul, Nat.zero_add]; exact hsp _ (by omega), froz _⟩
  have HNL : Hid (news.length = (n - k) * 2) := by unfold Hid; rw [← hm]; exact hnl
  have HW1 : Hid (w.drew.setCells g 0 news = W1) := hW1.symm
  have HM : Hid (m = n - k) := hm
  rw [← hnews]
  clear hcl cell froz hsp hnl hnc2 a1 a2 la hc1 hf1 hnews h1 ho htk hsz hg hW1 hBg
  have mixed : Tryd.prog.follows Departure.mixedOrders = true := by kernel_rfl
  have hmx : c ≤ 9223372036854775807 := by unfold maxLen at hcm; omega
  have e2 : (k : Int) ≤ (n : Int) := by omega
  have e4 : (n : Int) ≤ (c : Int) := by omega
  have e5 : ((0 : Int) == (k : Int)) = false := by simp; omega
  have e9 : ¬ (0 : Int) = (k : Int) := by omega
  have e11 : ¬ c = 0 := by omega
  by_cases hc : c = k
  · obtain rfl : n = k := by omega
    obtain rfl : m = 0 := by omega
    subst hc
    have HNL0 : Hid (news.length = 0 * 2) := by unfold Hid; rw [HNL.out]; omega
    have HC0 : Hid (∀ j u, news[j]? = some u → w.drew.cell? ((⟨g, 0, none⟩ : Addr).add j) = some u) := fun j u hj => by
      have h9 := HNL0.out
      rw [List.length_eq_zero_iff.1 (show news.length = 0 by omega)] at hj
      simp at hj
    clear hm HNL HC HM
    simp only [Nat.zero_mul, Nat.sub_zero] at hclr HE ⊢
    go_enter Tryd.func40, Tryd.ntmps40
    go_wp2_with fail
    go_region_law_o (refine step_append_room rfl _ _ 28 rfl 58 i0 2 Tryd.underlying28 hi0 hz1 g 0 0 c (by simp [Act.eval, Act.put]) ⟨g, 0, none⟩ 0 0 news (by simp [Act.eval, Act.put]) HNL0.out HC0.out H1.out (by omega) HSP.out ?_)
    try simp only [Nat.add_zero]
    rw [HW1.out]
    clear e5 e9 HSP H1 HW1 HNL0 HC0
    go_wp2_with (simp only [hclr])
    go_ret
    exact ⟨_, rfl, HE.out.1, HE.out.2, rfl⟩
  · clear hm
    have e8 : ¬ c = m := by have := HM.out; omega
    have e10 : (m : Int) ≤ (n : Int) := by have := HM.out; omega
    go_enter Tryd.func40, Tryd.ntmps40
    go_wp2_with fail
    go_region_law_o (refine step_append_room rfl _ _ 28 rfl 58 i0 2 Tryd.underlying28 hi0 hz1 g 0 0 c (by simp [Act.eval, Act.put]) ⟨g, k * 2, none⟩ (n - k) (c - k) news (by simp [Act.eval, Act.put]) HNL.out HC.out H1.out (by omega) HSP.out ?_)
    try simp only [Nat.zero_mul, Nat.add_zero, Nat.zero_add]
    rw [HW1.out]
    rw [← HM.out]
    clear e5 e9 hc HC HSP H1 HNL HW1 HM
    go_wp2_with (simp only [hclr])
    go_ret
    exact ⟨_, rfl, HE.out.1, HE.out.2, rfl⟩
set_option maxHeartbeats 1000000 in
theorem trim_any (w : World) (B g : Nat) (v : Value) (l : List Sp) (m : Int) (h : ST w B g v l) (hm : m ≤ 9223372036854775807) :
    Calls Tryd.prog 21 #[.pointer (some ⟨g, 0, none⟩), .int .i64 m] w fun e w' => e = .returned (.int .i64 (trN l m : Nat)) ∧ ∃ v', ST w' B g v' (trP l m) ∧ SU w w' g v v' := by
  have cl := len_any w B g v l h
  have hln := h.ln
  by_cases hk : 0 < trN l m
  · have hkl : trN l m ≤ l.length := by unfold trN; omega
    have eN : (l.length : Int) - max m 0 = (trN l m : Nat) := by unfold trN at hk ⊢; omega
    have hd := delete_lo B v l.length (trN l m) _ w h.rs.own hk hkl hln (spc_one l)
    have HD : Hid (Calls Tryd.prog 40 #[v, .int .i64 0, .int .i64 (trN l m : Nat)] w fun e w' => ∃ v', e = .returned v' ∧ SB w' g v ∧ ST (w'.setCell ⟨g, 0, none⟩ v') B g v' (trP l m) ∧ SU w (w'.setCell ⟨g, 0, none⟩ v') g v v') := by
      refine hd.mono ?_
      rintro e w' ⟨v', rfl, r1, r2, r3⟩
      have r1' : RSp w' B v' (trP l m) := by
        refine RSp.of ?_
        unfold trP
        rw [flat_drop] at r1
        rw [List.length_drop]
        exact r1
      exact ⟨v', rfl, su_sb h (Below.refl _ _) r2, su_mk h (Below.refl _ _) r1' r2 (.inl r3) (trP_canon h.cn m) (by unfold trP; rw [List.length_drop]; omega)⟩
    have k0 := h.sb.cell
    obtain ⟨a, c, rfl, -, -, -⟩ := h.rs.is.shape
    have cd := HD.out
    clear h hd HD
    generalize trP l m = l' at *
    generalize trN l m = k9 at *
    generalize l.length = n9 at *
    have x1 : ¬ ((k9 : Int) ≤ 0) := by omega
    have x2 : IntKind.i64.wrap ((n9 : Int) - max m 0) = (k9 : Int) := by rw [IntKind.wrap_i64]; omega
    go_enter Tryd.func21, Tryd.ntmps21
    go_wp2_with fail
    refine cl.mono ?_
    rintro e w1 ⟨rfl, e1⟩
    rw [e1]
    clear cl e1 w1
    go_wp2_with fail
    refine cd.mono ?_
    rintro e w9 ⟨v9, rfl, s9, R9⟩
    obtain ⟨a9, c9, rfl, -, -, -⟩ := R9.1.rs.is.shape
    have R : Hid (ST (w9.setCell ⟨g, 0, none⟩ (.slice a9 l'.length c9)) B g (.slice a9 l'.length c9) l' ∧ SU w (w9.setCell ⟨g, 0, none⟩ (.slice a9 l'.length c9)) g (.slice a n9 c) (.slice a9 l'.length c9)) := R9
    have k3 := s9.cell
    have k4 := s9.frz
    clear cd R9 s9
    generalize l'.length = n8 at *
    go_wp2
    go_ret
    exact ⟨rfl, _, R.out⟩
  · have hz : trN l m = 0 := by omega
    have eP : trP l m = l := by unfold trP; rw [hz, List.drop_zero]
    have x1 : (l.length : Int) - max m 0 ≤ 0 := by unfold trN at hz; omega
    have HR : Hid (∃ v', ST w B g v' l ∧ SU w w g v v') := ⟨v, h, SU.of (Below.refl _ _)⟩
    rw [hz, eP]
    clear h hz eP hk
    generalize l.length = n9 at *
    have x2 : IntKind.i64.wrap ((n9 : Int) - max m 0) = (n9 : Int) - max m 0 := by rw [IntKind.wrap_i64]; omega
    have x3 : -9223372036854775808 ≤ (n9 : Int) - max m 0 := by omega
    go_enter Tryd.func21, Tryd.ntmps21
    go_wp2_with fail
    refine cl.mono ?_
    rintro e w1 ⟨rfl, e1⟩
    rw [e1]
    clear cl e1 w1
    go_wp2
    go_ret
    exact ⟨rfl, HR.out⟩
set_option maxHeartbeats 400000 in
theorem trim_nil (w : World) (m : Int) (hm : m ≤ 9223372036854775807) : Calls Tryd.prog 21 #[.pointer none, .int .i64 m] w fun e w' => e = .returned (.int .i64 0) ∧ w' = w := by
  have cl := len_nil w
  have x1 : (0 : Int) - max m 0 ≤ 0 := by omega
  have x2 : IntKind.i64.wrap ((0 : Int) - max m 0) = (0 : Int) - max m 0 := by rw [IntKind.wrap_i64]; omega
  have x3 : -9223372036854775808 ≤ (0 : Int) - max m 0 := by omega
  have x4 : 0 ≤ max m 0 := by omega
  go_enter Tryd.func21, Tryd.ntmps21
  go_wp2_with fail
  refine cl.mono ?_
  rintro e w1 ⟨rfl, e1⟩
  rw [e1]
  clear cl e1 w1
  go_wp2
  go_ret
  exact ⟨rfl, rfl⟩
theorem isnilS (w : World) : (binOp BinOp.eql 28 (.slice none 0 0) (.slice none 0 0)).run Tryd.prog w = .ok (.bool true) w := by kernel_rfl
theorem notnilS (x : Addr) (n c : Nat) (w : World) : (binOp BinOp.eql 28 (.slice (some x) n c) (.slice none 0 0)).run Tryd.prog w = .ok (.bool false) w := by kernel_rfl
set_option maxHeartbeats 1000000 in
theorem clone_any (w : World) (B : Nat) (v : Value) (l : List Sp) (h : RSp w B v l) (hl : l.length ≤ 1000) :
    Calls Tryd.prog 31 #[v] w fun e w' => ∃ v', e = .returned v' ∧ RSp w' w.heap.size v' l ∧ Below w.heap.size w w' := by
  obtain ⟨i0, hi0, hz0, hzs, hzb⟩ := info_parts infoN
  rcases h.own.2 with ⟨rfl, h0⟩ | ⟨g, c, cur, rfl, hBg, hg, hnc, hcm, hsz, htk⟩
  · obtain rfl : l = [] := List.length_eq_zero_iff.1 h0
    have HR : Hid (RSp w w.heap.size (.slice none 0 0) [] ∧ Below w.heap.size w w) := ⟨RSp.nil _ _, Below.refl _ _⟩
    clear h
    have q0 := isnilS
    go_enter Tryd.func31, Tryd.ntmps31
    go_wp2
    go_ret
    exact ⟨_, rfl, HR.out⟩
  · have HOW : Hid ((w.alloc (.cells #[] 58)).ownsRow w.heap.size 58 2 (.slice (some ⟨w.heap.size, 0, none⟩) 0 0) 0 []) := ⟨rfl, .inr ⟨w.heap.size, 0, #[], rfl, Nat.le_refl _, heap_alloc_new _ _, Nat.le_refl _, Nat.zero_le _, rfl, rfl⟩⟩
    have HG := blk_kept (w' := w.alloc (.cells #[] 58)) hg (al_below _ _) (blk_lt hg)
    have HX : Hid (∀ j y, (l.map spc).flatten[j]? = some y → (w.alloc (.cells #[] 58)).cell? ((⟨g, 0, none⟩ : Addr).add j) = some y) := fun j y hj => by
      rw [Addr.add_lit, Nat.zero_add]
      simp only [World.cell?, HG]
      rw [← htk, List.getElem?_take] at hj
      split at hj
      · rw [← Array.getElem?_toList]; exact hj
      · cases hj
    have H1 : Hid (∀ y ∈ (l.map spc).flatten, y.oneCell' = true) := spc_one l
    have HVL : Hid ((l.map spc).flatten.length = l.length * 2) := flat_len l
    have HSZ : Hid (w.heap.size ≤ (w.alloc (.cells #[] 58)).heap.size) := (al_below _ _).size
    have HF : Hid (∀ v' w', w'.ownsRow w.heap.size 58 2 v' l.length (l.map spc).flatten → (w.alloc (.cells #[] 58)).grownBy w' (some w.heap.size) → RSp w' w.heap.size v' l ∧ Below w.heap.size w w') := fun v' w' q1 q2 => by
      exact ⟨RSp.of q1, below_grw (al_below _ _) (Nat.le_refl _) q2 (fun k hk => by simp at hk; omega)⟩
    have hl' : l.length ≤ c := hnc
    clear h hg HG htk hsz hBg
    generalize (l.map spc).flatten = XS at *
    obtain ⟨n9, hn9⟩ : ∃ n9, n9 = l.length := ⟨_, rfl⟩
    rw [← hn9] at HVL HF hl hl' ⊢
    clear hn9 hnc
    have q0 := notnilS ⟨g, 0, none⟩ n9 c
    go_enter Tryd.func31, Tryd.ntmps31
    go_wp2_with (at_builtin; refine wpList_append_own_at _ rfl _ _ 28 rfl w.heap.size 58 i0 (.agg #[.int .i64 0, .int .i64 0]) 2 16 Tryd.underlying28 hi0 hz0 hzs hzb rfl (by decide) _ 0 [] rfl HOW.out ⟨g, 0, none⟩ n9 c XS rfl HVL.out HX.out H1.out (by unfold maxLen; omega) (by omega) HSZ.out (Hid.out ?_))
    unfold Hid
    intro v5 w5 o5 g5 _ _
    obtain ⟨a5, c5, rfl⟩ := own_shape o5
    have R : Hid (RSp w5 w.heap.size (.slice a5 n9 c5) l ∧ Below w.heap.size w w5) := HF.out _ _ o5 g5
    clear o5 g5 HOW HX H1 HVL HSZ HF
    go_wp2
    go_ret
    exact ⟨_, rfl, R.out⟩
set_option maxHeartbeats 1000000 in
theorem fork_any (w : World) (B g : Nat) (v : Value) (l : List Sp) (h : ST w B g v l) :
    Calls Tryd.prog 12 #[.pointer (some ⟨g, 0, none⟩)] w fun e w' => ∃ g' v', e = .returned (.pointer (some ⟨g', 0, none⟩)) ∧ w.heap.size ≤ g' ∧ ST w' w.heap.size g' v' l ∧ Below w.heap.size w w' := by
  have cc := clone_any w B v l h.rs h.ln
  have k0 := h.sb.cell
  have HC : Hid (Canon l ∧ l.length ≤ 1000) := ⟨h.cn, h.ln⟩
  obtain ⟨a, c, rfl, -, -, -⟩ := h.rs.is.shape
  clear h
  obtain ⟨n9, hn9⟩ : ∃ n9, n9 = l.length := ⟨_, rfl⟩
  rw [← hn9] at cc k0
  clear hn9
  go_enter Tryd.func12, Tryd.ntmps12
  go_wp2_with fail
  refine cc.mono ?_
  rintro e w1 ⟨v1, rfl, r1, b1⟩
  obtain ⟨a1, c1, rfl, -, -, -⟩ := r1.is.shape
  have R : Hid (w.heap.size ≤ w1.heap.size ∧ ST (w1.alloc (.cells #[.slice a1 l.length c1] 60)) w.heap.size w1.heap.size (.slice a1 l.length c1) l ∧ Below w.heap.size w (w1.alloc (.cells #[.slice a1 l.length c1] 60))) := ⟨b1.size, ⟨heap_alloc_new _ _, r1.below (al_below _ _), HC.out.1, HC.out.2⟩, b1.alloc b1.size _⟩
  clear cc r1 b1 HC
  generalize l.length = n8 at *
  go_wp2
  go_ret
  exact ⟨_, _, rfl, R.out⟩
set_option maxHeartbeats 400000 in
theorem fork_nil (w : World) : Calls Tryd.prog 12 #[.pointer none] w fun e w' => e = .returned (.pointer none) ∧ w' = w := by
  go_enter Tryd.func12, Tryd.ntmps12
  go_wp2
  go_ret
  exact ⟨rfl, rfl⟩
end Go.Proofs.YtaghmoddalbepaaDoor
