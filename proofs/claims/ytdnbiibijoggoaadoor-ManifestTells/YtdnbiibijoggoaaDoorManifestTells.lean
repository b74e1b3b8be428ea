/-
  A tree's items may be, have its paths in order, and as many bytes as it has; two trees that are one have the same items: for every two lists of entries; nothing that came in is changed.
-/
import Derived.Test.YtdnbiibijoggoaaDoorFr
import Derived.Test.YtdnbiibijoggoaaDoorLi
import Derived.Test.YtdnbiibijoggoaaDoorTe
namespace Go.Proofs.YtdnbiibijoggoaaDoor.manifestTells
open Go.ChangeShapes Go.WideShapes Go.ChangeAt Go.RowKit Go.Deep Go.ChangeMaps
set_option maxRecDepth 100000

theorem ck_same (l m : List En) (hl : l.length = m.length) (hp : ∀ i, i < l.length → (atE l i).p = (atE m i).p ∧ (atE l i).d = (atE m i).d) (hz : ∀ i, i < l.length → (atE m i).z.length ≤ 65536 ∧ ((atE m i).d = true → (atE m i).z = [])) (h : ckT l = 0) : ckT m = 0 := by
  obtain ⟨h64, hall⟩ := ckT_all l h
  refine ckT_ok m (by omega) fun k hk => ?_
  have hk' : k < l.length := by omega
  have h1 := hall k hk'
  obtain ⟨e1, e2⟩ := hp k hk'
  obtain ⟨z1, z2⟩ := hz k hk'
  unfold ckI at h1 ⊢
  have ek : (atE m k).k = (atE l k).k := by unfold En.k; rw [e1]
  rw [ek]
  by_cases c1 : chk (atE l k).k = 0
  · rw [if_neg (by simpa using c1)] at h1 ⊢
    by_cases c2 : res (atE l k).k = true
    · rw [if_pos c2] at h1; cases h1
    · rw [if_neg c2] at h1 ⊢
      by_cases c3 : 65536 < (atE l k).z.length
      · rw [if_pos c3] at h1; cases h1
      · rw [if_neg c3] at h1
        rw [if_neg (show ¬ 65536 < (atE m k).z.length by omega)]
        by_cases c4 : (atE l k).d = true ∧ 0 < (atE l k).z.length
        · rw [if_pos c4] at h1; cases h1
        · rw [if_neg c4] at h1
          have c4' : ¬ ((atE m k).d = true ∧ 0 < (atE m k).z.length) := by
            rintro ⟨q1, q2⟩
            rw [z2 q1] at q2
            simp at q2
          rw [if_neg c4']
          have ek1 : 0 < k → (atE m (k - 1)).k = (atE l (k - 1)).k := fun _ => by unfold En.k; rw [(hp (k - 1) (by omega)).1]
          by_cases c5 : 0 < k ∧ les (atE l (k - 1)).k (atE l k).k = false
          · rw [if_pos c5] at h1; cases h1
          · rw [if_neg c5] at h1
            have c5' : ¬ (0 < k ∧ les (atE m (k - 1)).k (atE l k).k = false) := by
              rintro ⟨q1, q2⟩
              rw [ek1 q1] at q2
              exact c5 ⟨q1, q2⟩
            rw [if_neg c5']
            have hi : (m.take k).findIdx (fun y => decide (y.k = par (atE l k).k)) = (l.take k).findIdx (fun y => decide (y.k = par (atE l k).k)) := by
              have e : (m.take k).map En.k = (l.take k).map En.k := by
                apply List.ext_getElem
                · simp; omega
                · intro i a b
                  simp only [List.getElem_map, List.getElem_take]
                  have hi : i < l.length := by simp at b; omega
                  have hi2 : i < m.length := by simp at a; omega
                  have := (hp i hi).1
                  rw [atE_eq l i hi, atE_eq m i hi2] at this
                  show dl m[i].p = dl l[i].p
                  rw [this]
              have f : ∀ L : List En, L.findIdx (fun y => decide (y.k = par (atE l k).k)) = (L.map En.k).findIdx (fun q => decide (q = par (atE l k).k)) := fun L => by
                rw [List.findIdx_map]; rfl
              rw [f, f, e]
            have hlen : (m.take k).length = (l.take k).length := by simp; omega
            unfold ckP at h1 ⊢
            by_cases c6 : par (atE l k).k = []
            · rw [if_pos c6]
            · rw [if_neg c6] at h1 ⊢
              rw [hi, hlen]
              by_cases c7 : (l.take k).findIdx (fun y => decide (y.k = par (atE l k).k)) = (l.take k).length
              · rw [if_pos c7] at h1; cases h1
              · rw [if_neg c7] at h1 ⊢
                have hj : (l.take k).findIdx (fun y => decide (y.k = par (atE l k).k)) < k := by
                  have a1 := @List.findIdx_le_length _ (fun y : En => decide (y.k = par (atE l k).k)) (l.take k)
                  have a2 : (l.take k).length = k := by simp; omega
                  omega
                rw [atE_take m k _ hj, ← (hp _ (by omega)).2]
                rw [atE_take l k _ hj] at h1
                exact h1
  · rw [if_pos c1] at h1; exact absurd h1 c1
theorem itm_p (x : En) : (itm x).p = x.p ∧ (itm x).d = x.d := by
  unfold itm
  split
  · rename_i h; exact ⟨rfl, by rw [h]; rfl⟩
  · rename_i h; exact ⟨rfl, by show false = x.d; simpa using h⟩
theorem std_itm (x : En) : (std (itm x)).p = x.p ∧ (std (itm x)).d = x.d ∧ (std (itm x)).z.length ≤ 65536 ∧ ((std (itm x)).d = true → (std (itm x)).z = []) := by
  obtain ⟨h1, h2⟩ := itm_p x
  refine ⟨h1, h2, ?_, fun h => ?_⟩
  · show (if (itm x).d = true then ([] : List Int) else (itm x).s).length ≤ 65536
    split
    · simp
    · unfold itm
      split
      · rename_i h3 h4; rw [h2] at h3; exact absurd h4 h3
      · show (Sh.Pl.sha x.z).length ≤ 65536
        rw [Sh.sha_len]; omega
  · show (if (itm x).d = true then ([] : List Int) else (itm x).s) = []
    rw [if_pos (show (itm x).d = true from h)]
theorem mk_z (a : List En) (h : ckT a = 0) : ∀ x ∈ a, x.z.length ≤ 65536 ∧ (x.d = true → x.z = []) := by
  intro x hx
  obtain ⟨i, hi, rfl⟩ := List.getElem_of_mem hx
  have h1 := (ckT_all a h).2 i hi
  unfold ckI at h1
  rw [atE_eq a i hi] at h1
  by_cases c1 : chk (a[i]).k = 0
  · rw [if_neg (by simpa using c1)] at h1
    by_cases c2 : res (a[i]).k = true
    · rw [if_pos c2] at h1; cases h1
    · rw [if_neg c2] at h1
      by_cases c3 : 65536 < (a[i]).z.length
      · rw [if_pos c3] at h1; cases h1
      · rw [if_neg c3] at h1
        by_cases c4 : (a[i]).d = true ∧ 0 < (a[i]).z.length
        · rw [if_pos c4] at h1; cases h1
        · refine ⟨by omega, fun q => ?_⟩
          rcases Nat.eq_zero_or_pos (a[i]).z.length with h0 | h0
          · exact List.length_eq_zero_iff.1 h0
          · exact absurd ⟨q, h0⟩ c4
  · rw [if_pos c1] at h1; exact absurd h1 c1
/-- A tree's items may be. -/
theorem mk_check (a : List En) (h : ckT a = 0) : ckT ((a.map itm).map std) = 0 ∧ mck (a.map itm) = 0 := by
  have h1 : ckT ((a.map itm).map std) = 0 := by
    have at1 : ∀ i, i < a.length → atE ((a.map itm).map std) i = std (itm (atE a i)) := fun i hi => by
      rw [atE_eq _ i (by simpa using hi), atE_eq a i hi]; simp
    refine ck_same a _ (by simp) (fun i hi => ?_) (fun i hi => ?_) h
    · rw [at1 i hi]; exact ⟨(std_itm _).1.symm, (std_itm _).2.1.symm⟩
    · rw [at1 i hi]; exact ⟨(std_itm _).2.2.1, (std_itm _).2.2.2⟩
  refine ⟨h1, ?_⟩
  unfold mck
  rw [if_neg (by simpa using h1)]
  have h2 : (a.map itm).any outI = false := by
    rw [List.any_eq_false]
    intro y hy
    obtain ⟨x, hx, rfl⟩ := List.mem_map.1 hy
    have hz := (mk_z a h x hx).1
    unfold outI itm
    split
    · simp [bare]
    · simp; omega
  have h3 : (a.map itm).any dirI = false := by
    rw [List.any_eq_false]
    intro y hy
    obtain ⟨x, hx, rfl⟩ := List.mem_map.1 hy
    unfold dirI
    by_cases hd : x.d = true
    · have e : itm x = bare x.p := by unfold itm; rw [if_pos hd]
      rw [e]
      have : sIt (bare x.p) (bare (bare x.p).p) = true := (sIt_iff _ _).2 rfl
      simp [this]
    · rw [(itm_p x).2]
      simp [hd]
  rw [if_neg (by simp [h2]), if_neg (by simp [h3])]
theorem wrap_small (x : Int) (h0 : 0 ≤ x) (h1 : x < 9223372036854775808) : wrap64 x = x := by
  unfold wrap64; omega
theorem tot_siz : ∀ (a : List En) (s : Int), (∀ x ∈ a, x.z.length ≤ 65536 ∧ (x.d = true → x.z = [])) → 0 ≤ s → s + (a.length : Int) * 65536 < 9223372036854775808 → tot s (a.map itm) = s + siz a
  | [], s, _, _, _ => by simp [tot, siz]
  | x :: a, s, h, h0, h1 => by
    have hx := h x (by simp)
    rw [List.length_cons] at h1
    have e : siz (x :: a) = x.z.length + siz a := by simp [siz]
    rw [List.map_cons, tot, e]
    by_cases hd : x.d = true
    · have hz := hx.2 hd
      rw [(itm_p x).2, if_pos hd, tot_siz a s (fun y hy => h y (by simp [hy])) h0 (by omega), hz]
      simp
    · rw [(itm_p x).2, if_neg hd]
      have en : (itm x).n = x.z.length := by unfold itm; rw [if_neg hd]
      rw [en, wrap_small _ (by omega) (by omega), tot_siz a _ (fun y hy => h y (by simp [hy])) (by omega) (by omega)]
      omega
set_option maxHeartbeats 8000000 in
theorem walk (v0 : Value) (a : List En) (v1 : Value) (b : List En) (w : World) (hw : Wd w) (h0 : ES w v0 a) (h1 : ES w v1 b) :
    Calls Tryd.prog 4 #[v0, v1] w fun e w' => e = .returned (.bool true) ∧ Below w.heap.size w w' := by
  have CL0 := light_any v0 a 60 3000 w h0 (by omega) (by omega) (by obtain ⟨a, c, rfl, h2, h3, _⟩ := h0.shape; unfold maxLen at h3; omega)
  have CL1 := light_any v1 b 60 3000 w h1 (by omega) (by omega) (by obtain ⟨a, c, rfl, h2, h3, _⟩ := h1.shape; unfold maxLen at h3; omega)
  have CA : Hid (∀ W, Below w.heap.size w W → Calls Tryd.prog 6 #[] W fun e w' => e = .returned (.bool true) ∧ Below W.heap.size W w') := fun W hb => awake_any W (hw.kept hb)
  have CM : Hid (∀ W v (l : List En), Below w.heap.size w W → ES W v l → Lt l → Calls Tryd.prog 11 #[v] W fun e w' => ∃ v', e = .returned (.tuple #[v', .int .i64 (mak l).2]) ∧ RI w' W.heap.size v' (mak l).1 ∧ Below W.heap.size W w') := fun W v l hb hi hl => make_any v l W hi hl (hw.kept hb)
  have HW : Hid (Wd w) := hw
  have H0 : Hid (ES w v0 a) := h0
  have H1 : Hid (ES w v1 b) := h1
  obtain ⟨a0, c0, rfl, _, _, _⟩ := h0.shape
  obtain ⟨a1, c1, rfl, _, _, _⟩ := h1.shape
  obtain ⟨n0, hn0⟩ : ∃ n0, n0 = a.length := ⟨_, rfl⟩
  obtain ⟨n1, hn1⟩ : ∃ n1, n1 = b.length := ⟨_, rfl⟩
  have HN0 : Hid (n0 = a.length) := hn0
  have HN1 : Hid (n1 = b.length) := hn1
  rw [← hn0] at CL0 H0 ⊢
  rw [← hn1] at CL1 H1 ⊢
  clear h0 h1 hw hn0 hn1
  go_enter Tryd.func4, Tryd.ntmps4
  go_wp2_with fail
  refine CL0.mono ?_
  rintro e w' ⟨r, rfl, hww, hr⟩
  replace hww := hww.symm
  subst hww
  clear CL0
  have HR : Hid (r = true → n0 ≤ 60 ∧ ∀ x ∈ a, x.p.size ≤ 1000 ∧ x.z.length ≤ 3000) := hr
  clear hr
  cases r
  · clear HR
    go_wp2_with fail
    refine (CA.out w (Below.refl w.heap.size w)).mono ?_
    rintro e z1 ⟨rfl, bz⟩
    have BZ : Hid (Below w.heap.size w z1) := Below.trans (Below.refl w.heap.size w) (bz.mono (Below.size (Below.refl w.heap.size w)))
    clear bz
    go_wp2
    go_ret
    exact ⟨rfl, BZ.out⟩
  have HLA : Hid (n0 ≤ 60 ∧ ∀ x ∈ a, x.p.size ≤ 1000 ∧ x.z.length ≤ 3000) := HR.out rfl
  clear HR
  go_wp2_with fail
  refine CL1.mono ?_
  rintro e w' ⟨r, rfl, hww, hr⟩
  replace hww := hww.symm
  subst hww
  clear CL1
  have HR : Hid (r = true → n1 ≤ 60 ∧ ∀ x ∈ b, x.p.size ≤ 1000 ∧ x.z.length ≤ 3000) := hr
  clear hr
  cases r
  · clear HR
    go_wp2_with fail
    refine (CA.out w (Below.refl w.heap.size w)).mono ?_
    rintro e z1 ⟨rfl, bz⟩
    have BZ : Hid (Below w.heap.size w z1) := Below.trans (Below.refl w.heap.size w) (bz.mono (Below.size (Below.refl w.heap.size w)))
    clear bz
    go_wp2
    go_ret
    exact ⟨rfl, BZ.out⟩
  have HLB : Hid (n1 ≤ 60 ∧ ∀ x ∈ b, x.p.size ≤ 1000 ∧ x.z.length ≤ 3000) := HR.out rfl
  clear HR
  have LA : Hid (Lt a) := ⟨by have := HLA.out.1; have := HN0.out; omega, fun x hx => ⟨(HLA.out.2 x hx).1, by have := (HLA.out.2 x hx).2; omega⟩⟩
  have LB : Hid (Lt b) := ⟨by have := HLB.out.1; have := HN1.out; omega, fun x hx => ⟨(HLB.out.2 x hx).1, by have := (HLB.out.2 x hx).2; omega⟩⟩
  have n60 : n0 ≤ 60 := HLA.out.1
  have n61 : n1 ≤ 60 := HLB.out.1
  have c2 := CM.out w _ a (Below.refl _ _) H0.out LA.out
  clear HLB
  have MA : Hid (mak a = if ckT a ≠ 0 then ([], ckT a) else (a.map itm, 0)) := rfl
  have MB : Hid (mak b = if ckT b ≠ 0 then ([], ckT b) else (b.map itm, 0)) := rfl
  go_wp2_with fail
  refine c2.mono ?_
  rintro e w2 ⟨v2, rfl, o2, b2⟩
  clear c2
  have B2 : Hid (Below w.heap.size w w2) := b2
  have c3 := CM.out w2 _ b b2 (H1.out.kept b2) LB.out
  have I2 : Hid (IS w2 v2 (mak a).1) := o2.is
  obtain ⟨a2, cc2, rfl, _, _, _⟩ := o2.is.shape
  clear o2 b2 CM
  go_wp2_with fail
  refine c3.mono ?_
  rintro e w3 ⟨v3, rfl, o3, b3⟩
  clear c3
  have B3 : Hid (Below w.heap.size w w3) := B2.out.trans (b3.mono B2.out.size)
  have I3 : Hid (IS w3 (.slice a2 (mak a).1.length cc2) (mak a).1) := I2.out.kept b3
  have J3 : Hid (IS w3 v3 (mak b).1) := o3.is
  obtain ⟨a3, cc3, rfl, _, _, _⟩ := o3.is.shape
  clear o3 b3 I2 B2
  by_cases ka : ckT a = 0
  · obtain hma : mak a = (a.map itm, 0) := by have := MA.out; rwa [if_neg (by simpa using ka)] at this
    rw [hma] at I3 ⊢
    clear hma MA
    by_cases kb : ckT b = 0
    · obtain hmb : mak b = (b.map itm, 0) := by have := MB.out; rwa [if_neg (by simpa using kb)] at this
      rw [hmb] at J3 ⊢
      clear hmb MB
      have hla : (a.map itm).length = n0 := by rw [List.length_map, ← HN0.out]
      have hlb : (b.map itm).length = n1 := by rw [List.length_map, ← HN1.out]
      rw [hla] at I3 ⊢
      rw [hlb] at J3 ⊢
      have hpa : ∀ x ∈ a.map itm, x.p.size ≤ 1000 := fun y hy => by
        obtain ⟨x, hx, rfl⟩ := List.mem_map.1 hy
        rw [(itm_p x).1]; exact (LA.out.2 x hx).1
      obtain ⟨kt, km⟩ := mk_check a ka
      have C4 : Hid (∀ W, Below w3.heap.size w3 W → Calls Tryd.prog 12 #[.slice a2 n0 cc2] W fun e w' => e = .returned (.int .i64 0) ∧ Below W.heap.size W w') := fun W hb => by
        have := mcheck_any (.slice a2 n0 cc2) (a.map itm) W (I3.out.kept hb) (by rw [hla]; omega) hpa (HW.out.kept (B3.out.trans (hb.mono B3.out.size)))
        rwa [km] at this
      have C5 : Hid (∀ W, Below w3.heap.size w3 W → Calls Tryd.prog 13 #[.slice a2 n0 cc2] W fun e w' => e = .returned (.int .i64 (siz a : Nat)) ∧ Below W.heap.size W w') := fun W hb => by
        have := total_any (.slice a2 n0 cc2) (a.map itm) W (I3.out.kept hb) (by rw [hla]; omega)
        rw [tot_siz a 0 (mk_z a ka) (by omega) (by have := HN0.out; omega), Int.zero_add] at this
        exact this
      have C6 : Hid (∀ W, Below w3.heap.size w3 W → Calls Tryd.prog 14 #[.slice a0 n0 c0] W fun e w' => e = .returned (.int .i64 (siz a : Nat)) ∧ Below W.heap.size W w') := fun W hb => size_any _ a W (H0.out.kept (B3.out.trans (hb.mono B3.out.size))) LA.out
      have C7 : Hid (∀ W, Below w3.heap.size w3 W → Calls Tryd.prog 16 #[.slice a2 n0 cc2] W fun e w' => ∃ v', e = .returned v' ∧ OE w' W.heap.size v' ((a.map itm).map std) ∧ Below W.heap.size W w') := fun W hb => stands_any (.slice a2 n0 cc2) (a.map itm) W (I3.out.kept hb) (by rw [hla]; omega)
      have C8 : Hid (∀ W v, Below w3.heap.size w3 W → ES W v ((a.map itm).map std) → Calls Tryd.prog 15 #[v] W fun e w' => e = .returned (.int .i64 0) ∧ Below W.heap.size W w') := fun W v hb hs => by
        have := checkT_any v _ W hs (std_lt _ (by rw [hla]; omega) hpa I3.out.ok) (HW.out.kept (B3.out.trans (hb.mono B3.out.size))).2
        rwa [kt] at this
      have HAT : Hid (∀ i, i < n0 → (atI (a.map itm) i).p = (atE a i).p ∧ (atI (a.map itm) i).d = (atE a i).d) := fun i hi => by
        have hi' : i < a.length := by rw [← HN0.out]; exact hi
        have e : atI (a.map itm) i = itm (atE a i) := by rw [atI_eq _ i (by simpa using hi'), atE_eq a i hi']; simp
        rw [e]; exact itm_p _
      have HSAME : Hid (sam a b = true → saI (a.map itm) (b.map itm) = true) := fun h => by rw [(sam_iff a b).1 h]; exact (saI_iff _ _).2 rfl
      clear ka kb hpa kt km hlb LB
      have s0 : ((n0 : Int) != (n0 : Int)) = false := by simp
      generalize hSZ : siz a = SZ at *
      clear hSZ
      have s1 : ((SZ : Int) != (SZ : Int)) = false := by simp
      have HLN : Hid (((a.map itm).map std).length = n0) := by unfold Hid; rw [List.length_map]; exact hla
      clear hla
      go_wp2_with fail
      refine (C4.out w3 (Below.refl _ _)).mono ?_
      rintro e x1 ⟨rfl, d1⟩
      have D1 : Hid (Below w3.heap.size w3 x1) := d1
      clear d1 C4
      go_wp2_with fail
      refine (C5.out x1 D1.out).mono ?_
      rintro e x2 ⟨rfl, d2⟩
      have D2 : Hid (Below w3.heap.size w3 x2) := D1.out.trans (d2.mono D1.out.size)
      clear d2 C5 D1
      go_wp2_with fail
      refine (C6.out x2 D2.out).mono ?_
      rintro e x3 ⟨rfl, d3⟩
      have D3 : Hid (Below w3.heap.size w3 x3) := D2.out.trans (d3.mono D2.out.size)
      clear d3 C6 D2
      go_wp2_with fail
      refine (C7.out x3 D3.out).mono ?_
      rintro e x4 ⟨v4, rfl, o4, d4⟩
      have D4 : Hid (Below w3.heap.size w3 x4) := D3.out.trans (d4.mono D3.out.size)
      have c8 := C8.out x4 v4 D4.out o4.es
      obtain ⟨a4, c4, rfl, _, _, _⟩ := o4.es.shape
      rw [HLN.out] at c8 ⊢
      clear d4 C7 D3 C8 o4
      go_wp2_with fail
      refine c8.mono ?_
      rintro e x5 ⟨rfl, d5⟩
      have D5 : Hid (Below w3.heap.size w3 x5) := D4.out.trans (d5.mono D4.out.size)
      clear d5 c8 D4
      go_wp2
      go_loopw [9] (fun q wr => ∃ j : Nat, j ≤ n0 ∧ q = .int .i64 j ∧ Below w3.heap.size w3 wr) (fun q _ => n0 - (intOf q).toNat)
      case atStart => exact ⟨0, by omega, rfl, D5.out⟩
      case round =>
        clear D5
        obtain ⟨j, hj, rfl, bel⟩ := hrel
        have BE : Hid (Below w3.heap.size w3 wr) := bel
        clear bel
        by_cases hlt : j < n0
        · have lt2 : (j : Int) < (n0 : Int) := by omega
          have lt3 : (0 : Int) ≤ (j : Int) := by omega
          obtain ⟨b4, off4, rfl, hr⟩ := (I3.out.kept BE.out).at j (by rw [List.length_map, ← HN0.out]; exact hlt)
          obtain ⟨k0, k1, -⟩ := range_head hr
          obtain ⟨b5, off5, ua, un, uc, rfl, q0, q1, -, -, -⟩ := (H0.out.kept (B3.out.trans (BE.out.mono B3.out.size))).at j (by rw [← HN0.out]; exact hlt)
          obtain ⟨e1, e2⟩ := HAT.out j hlt
          rw [e1] at k0
          rw [e2] at k1
          clear e1 e2 hr
          generalize (atE a j).p = xp at *
          generalize (atE a j).d = xd at *
          have t1 : (xp.toList == xp.toList) = true := by simp
          have t1b : (xp.toList != xp.toList) = false := by simp
          have t2 : (xd == xd) = true := by simp
          have t2b : (xd != xd) = false := by simp
          go_wp2_with fail
          go_quiet (fail)
          have bq : Below w3.heap.size w3 (wr.drewN nq) := BE.out.trans ⟨rfl, rfl, rfl, Nat.le_refl _, fun _ _ => rfl⟩
          have BQ : Hid (Below w3.heap.size w3 (wr.drewN nq)) := bq
          clear bq k0 k1 q0 q1
          generalize wr.drewN nq = DW at *
          go_wp2
          go_roundw
          case rel => exact ⟨j + 1, by omega, by go_num, BQ.out⟩
          case measure => simp [intOf]; omega
        · obtain rfl : j = n0 := by omega
          have BW : Hid (Below w.heap.size w wr) := B3.out.trans (BE.out.mono B3.out.size)
          have c9 := same_any _ _ a b wr (H0.out.kept BW.out) (H1.out.kept BW.out) (by have := HN0.out; omega) (by have := HN1.out; omega)
          have C10 : Hid (∀ W, Below w3.heap.size w3 W → Calls Tryd.prog 9 #[.slice a2 j cc2, .slice a3 n1 cc3] W fun e w' => e = .returned (.bool (saI (a.map itm) (b.map itm))) ∧ Below W.heap.size W w') := fun W hb => msame_any _ _ _ _ W (I3.out.kept hb) (J3.out.kept hb) (by rw [List.length_map, ← HN0.out]; omega) (by rw [List.length_map, ← HN1.out]; omega)
          generalize saI (a.map itm) (b.map itm) = sb at *
          generalize sam a b = sa at *
          go_wp2_with fail
          refine c9.mono ?_
          rintro e y1 ⟨rfl, f1⟩
          have F1 : Hid (Below w3.heap.size w3 y1) := BE.out.trans (f1.mono BE.out.size)
          clear c9 f1
          cases sa
          · have FW : Hid (Below w.heap.size w y1) := B3.out.trans (F1.out.mono B3.out.size)
            clear HSAME C10
            go_wp2_with fail
            refine (CA.out y1 (FW.out)).mono ?_
            rintro e z1 ⟨rfl, bz⟩
            have BZ : Hid (Below w.heap.size w z1) := Below.trans (FW.out) (bz.mono (Below.size (FW.out)))
            clear bz
            go_wp2
            go_ret
            exact ⟨rfl, BZ.out⟩
          · obtain rfl : sb = true := HSAME.out rfl
            clear HSAME
            go_wp2_with fail
            refine (C10.out y1 F1.out).mono ?_
            rintro e y2 ⟨rfl, f2⟩
            have FW : Hid (Below w.heap.size w y2) := B3.out.trans ((F1.out.trans (f2.mono F1.out.size)).mono B3.out.size)
            clear f2 C10 F1
            go_wp2_with fail
            refine (CA.out y2 (FW.out)).mono ?_
            rintro e z1 ⟨rfl, bz⟩
            have BZ : Hid (Below w.heap.size w z1) := Below.trans (FW.out) (bz.mono (Below.size (FW.out)))
            clear bz
            go_wp2
            go_ret
            exact ⟨rfl, BZ.out⟩
    · obtain hmb : mak b = ([], ckT b) := by have := MB.out; rwa [if_pos kb] at this
      rw [hmb]
      have k2 : (ckT b != 0) = true := by simpa using kb
      clear hmb MB J3
      generalize ckT b = kk at *
      go_wp2_with fail
      refine (CA.out w3 (B3.out)).mono ?_
      rintro e z1 ⟨rfl, bz⟩
      have BZ : Hid (Below w.heap.size w z1) := Below.trans (B3.out) (bz.mono (Below.size (B3.out)))
      clear bz
      go_wp2
      go_ret
      exact ⟨rfl, BZ.out⟩
  · obtain hma : mak a = ([], ckT a) := by have := MA.out; rwa [if_pos ka] at this
    rw [hma]
    have k1 : (ckT a != 0) = true := by simpa using ka
    clear hma MA I3
    generalize ckT a = kk at *
    generalize mak b = P at *
    obtain ⟨pl, pe⟩ := P
    go_wp2_with fail
    refine (CA.out w3 (B3.out)).mono ?_
    rintro e z1 ⟨rfl, bz⟩
    have BZ : Hid (Below w.heap.size w z1) := Below.trans (B3.out) (bz.mono (Below.size (B3.out)))
    clear bz
    go_wp2
    go_ret
    exact ⟨rfl, BZ.out⟩

theorem contract (H : Type) (enc : TypeId × Value → H) (W : World) (base : Nat) (args : Array Value) (ds gs : List (DataW H)) (before : List MemPlace)
    (hval : ∀ (j : Nat) t v, Tryd.f4.params[j]? = some t → args[j]? = some v → Value.okWide Tryd.prog W .any base t v)
    (hW : DataW.Whole enc Tryd.prog Tryd.f4.params.toList Rows.manifestTellsSpec.vars false W args.toList ds gs before) (hL : laidMetH Tryd.prog Rows.manifestTellsRow.laid W) (hsh : W.ShapedOpen Tryd.prog)
    (hsz0 : (DataW.weightsEach Tryd.prog (Tryd.f4.params.toList ++ Rows.manifestTellsSpec.plain.varTypes Tryd.prog) (ds ++ gs)).all (· ≤ reachBytes) = true) :
    Calls Tryd.prog 4 args W fun e W' => ∃ v, e = .returned v ∧ Rows.manifestTellsSpec.post enc Tryd.prog Tryd.f4 false true false false W args v W' := by
  have hW' := hW
  obtain ⟨p, q, hA0, hV, rfl, hfz, hnd⟩ := hW
  have hA : DataW.TrodAll enc Tryd.prog W 0 (fun _ => true) true Tryd.f4.params.toList args.toList ds p := hA0
  rw [Tryd.params4] at hA hval hsz0
  obtain ⟨v0, vs0, d0, ds0, p0, q0, hargs, rfl, rfl, h0, r0⟩ := trodAll_cons hA
  obtain ⟨v1, vs1, d1, ds1, p1, q1, rfl, rfl, rfl, h1, r1⟩ := trodAll_cons r0
  obtain ⟨rfl, rfl, rfl⟩ := trodAll_nil r1
  obtain rfl : args = #[v0, v1] := by cases args; simp_all
  obtain ⟨rfl, rfl⟩ := trodVars_none hV
  have k0 := h0
  have lt0 : ∀ x ∈ p0, x.block < W.heap.size := by obtain ⟨m, hm⟩ := k0; exact DataW.trod_lt m _ _ _ hm
  obtain ⟨L0, w0⟩ := ents_in (hval 0 33 v0 rfl rfl) h0
  have k1 := h1
  have lt1 : ∀ x ∈ p1, x.block < W.heap.size := by obtain ⟨m, hm⟩ := k1; exact DataW.trod_lt m _ _ _ hm
  obtain ⟨L1, w1⟩ := ents_in (hval 1 33 v1 rfl rfl) h1
  clear hA0
  refine (walk v0 L0 v1 L1 W (wd_of hL hsh) w0 w1).mono fun e W' ⟨he, bel⟩ => ?_
  subst he
  exact ⟨_, rfl, _, _, _, [], _, [], hW', trodAll_mk1 (shut_bool Tryd.underlying4 _), (trodAll_cons_mk (Below.trod laidOut (by kernel_rfl) (of_decide_eq_true (by kernel_rfl)) k0 bel lt0) (trodAll_cons_mk (Below.trod laidOut (by kernel_rfl) (of_decide_eq_true (by kernel_rfl)) k1 bel lt1) trodAll_mk0)), rfl, bel.frame _, fun h => by cases h⟩

theorem laid_met (os : Os) : laidMet Tryd.prog Rows.manifestTellsRow.laid (({ World.holding Tryd.prog os ⟨#[], #[], []⟩ with heap := (((((((World.holding Tryd.prog os ⟨#[], #[], []⟩).heap.modify 0 (fun
      | .cells _ t frozen => .cells #[.int .i64 1, .int .i64 2, .int .i64 4, .int .i64 8] t frozen
      | o => o)).modify 1 (fun
      | .cells _ t frozen => .cells shaFirst t frozen
      | o => o)).modify 2 (fun
      | .cells _ t frozen => .cells shaRounds t frozen
      | o => o)).modify 3 (fun
      | .cells _ t frozen => .cells #[.int .i64 0] t frozen
      | o => o)).modify 4 (fun
      | .cells _ t frozen => .cells firstCells t frozen
      | o => o)).modify 5 (fun
      | .cells _ t frozen => .cells rangeCells t frozen
      | o => o)) } : World).forCall (fun _ _ => 0) ⟨#[], #[.slice none 0 0, .slice none 0 0], []⟩).memory :=
  laidMet_of_run' 8 (by kernel_rfl) (by kernel_rfl)
theorem reads (os : Os) {H : Type} (enc : TypeId × Value → H) : ∃ places, DataW.whole enc Tryd.prog (({ World.holding Tryd.prog os ⟨#[], #[], []⟩ with heap := (((((((World.holding Tryd.prog os ⟨#[], #[], []⟩).heap.modify 0 (fun
      | .cells _ t frozen => .cells #[.int .i64 1, .int .i64 2, .int .i64 4, .int .i64 8] t frozen
      | o => o)).modify 1 (fun
      | .cells _ t frozen => .cells shaFirst t frozen
      | o => o)).modify 2 (fun
      | .cells _ t frozen => .cells shaRounds t frozen
      | o => o)).modify 3 (fun
      | .cells _ t frozen => .cells #[.int .i64 0] t frozen
      | o => o)).modify 4 (fun
      | .cells _ t frozen => .cells firstCells t frozen
      | o => o)).modify 5 (fun
      | .cells _ t frozen => .cells rangeCells t frozen
      | o => o)) } : World).forCall (fun _ _ => 0) ⟨#[], #[.slice none 0 0, .slice none 0 0], []⟩).memory Tryd.f4.params.toList Rows.manifestTellsSpec.vars false #[Value.slice none 0 0, .slice none 0 0].toList 8 = some ([.nil, .nil], [], places) :=
  ⟨[], by kernel_rfl⟩

set_option maxRecDepth 100000 in
theorem lifted (os : Os) (started : os.Started) (H : Type) (enc : TypeId × Value → H) (F : Stop.Interp) :
    ReturnsInHanded {} Tryd.checked os 4 .any ((OpenSpec.ofChange Rows.manifestTellsSpec).preRow enc Tryd.prog Tryd.f4 Rows.manifestTellsRow.domain false Rows.manifestTellsRow.laid) (((OpenSpec.ofChange Rows.manifestTellsSpec).at F).post enc Tryd.prog Tryd.f4 false true false false) := by
  obtain ⟨places, hx⟩ := reads os enc
  refine returnsInHanded_of_row (C := Tryd.checked) (s := OpenSpec.ofChange Rows.manifestTellsSpec) own started (by kernel_rfl) Tryd.func4
    (witness_row_at (enc := enc) (C := Tryd.checked) false ({ World.holding Tryd.prog os ⟨#[], #[], []⟩ with heap := (((((((World.holding Tryd.prog os ⟨#[], #[], []⟩).heap.modify 0 (fun
      | .cells _ t frozen => .cells #[.int .i64 1, .int .i64 2, .int .i64 4, .int .i64 8] t frozen
      | o => o)).modify 1 (fun
      | .cells _ t frozen => .cells shaFirst t frozen
      | o => o)).modify 2 (fun
      | .cells _ t frozen => .cells shaRounds t frozen
      | o => o)).modify 3 (fun
      | .cells _ t frozen => .cells #[.int .i64 0] t frozen
      | o => o)).modify 4 (fun
      | .cells _ t frozen => .cells firstCells t frozen
      | o => o)).modify 5 (fun
      | .cells _ t frozen => .cells rangeCells t frozen
      | o => o)) } : World) #[.slice none 0 0, .slice none 0 0] rfl (by kernel_rfl) (by kernel_rfl) (by kernel_rfl)
      (OpenSpec.preRow_of_cond 8 hx (by kernel_rfl) (fun k hk => by cases hk) (by kernel_rfl) (laid_met os))) ?_
  intro W base args ds gs before hval hW _ _ hsz hL hsh _
  exact contract H enc W base args ds gs before hval hW hL hsh hsz

theorem said : Rows.ManifestTellsSaid :=
  OpenClaim.holds_of_cond 4 Tryd.f4 rfl rfl rfl rfl rfl rfl rfl ⟨rfl, rfl, rfl, rfl, rfl⟩ rfl rfl rfl rfl rfl (by kernel_rfl) Tryd.func4 (by kernel_rfl)
    (of_decide_eq_true (by kernel_rfl)) (by unfold Func.isWrapper; first | (rw [if_pos (by decide +kernel)]; kernel_rfl) | (rw [if_neg (by decide +kernel)]; exact ⟨rfl, rfl⟩))
    (fun os started H enc _ F => by rw [OpenClaim.pre_eq_preRow]; exact lifted os started H enc F)

theorem plain (f : FuncId) (fn : Func) (hf : Tryd.pinned.checked.prog.funcNamed "sumpter/sumpterlaw10.ManifestTells" = some f) (hfn : Tryd.pinned.checked.prog.funcs[f]? = some fn) :
    false = Tryd.pinned.checked.prog.looks [] ∧ ∀ (j : Nat) t, fn.params[j]? = some t → Tryd.pinned.checked.prog.wantsStandIn t = false := by
  obtain rfl : f = 4 := Option.some.inj ((show Tryd.prog.funcNamed "sumpter/sumpterlaw10.ManifestTells" = some 4 by kernel_rfl).symm.trans hf) |>.symm
  obtain rfl : fn = Tryd.f4 := (Option.some.inj (Tryd.func4.symm.trans hfn)).symm
  refine ⟨by kernel_rfl, fun j t ht => ?_⟩
  rw [Tryd.params4] at ht
  have hm : t ∈ [33, 33] := by simpa using Array.mem_of_getElem? ht
  have hall : ([33, 33].all fun u => !Tryd.prog.wantsStandIn u) = true := by kernel_rfl
  exact (show Tryd.prog.wantsStandIn t = false by simpa using List.all_eq_true.1 hall t hm)
end Go.Proofs.YtdnbiibijoggoaaDoor.manifestTells

namespace Go.Proofs.YtdnbiibijoggoaaDoor
/-- The card of ManifestTells. -/
theorem manifestTells_card : Rows.ManifestTellsCardSaid :=
  Claim7.holds_tied_plain_at .later [] _ _ _ _ manifestTells.said (fun _ h => by cases h) (by kernel_rfl) (fun _ h => by cases h) manifestTells_row_tie rfl ⟨rfl, rfl⟩ (by kernel_rfl) rfl manifestTells.plain (by kernel_rfl)
#print axioms manifestTells_card
end Go.Proofs.YtdnbiibijoggoaaDoor
