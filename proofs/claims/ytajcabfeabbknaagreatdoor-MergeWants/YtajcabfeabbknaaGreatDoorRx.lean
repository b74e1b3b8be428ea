/-
  What the document's kept answers.
-/
import Derived.Test.YtajcabfeabbknaaGreatDoorRy
namespace Go.Proofs.YtajcabfeabbknaaGreatDoor
open Go.RowKit
set_option maxRecDepth 100000

theorem got_small {d : List En} (hl : Lt d) (q : List UInt8) : (got d q).p.size ≤ 1000 := by
  unfold got
  split
  · show (⟨#[]⟩ : ByteArray).size ≤ 1000
    exact Nat.zero_le _
  · exact (hl.at _).1
set_option maxHeartbeats 8000000 in
theorem rkeeps_any (vs vd u : Value) (s d : List En) (x : En) (P : Pol) (w : World) (hs : ES w vs s) (hls : Lt s) (hd : ES w vd d) (hld : Lt d) (hu : EV w u x) (hp : x.p.size ≤ 1000) :
    Calls Tryz.prog 29 #[vs, vd, u, .agg #[.bool P.del, .bool P.bak]] w fun e w' => e = .returned (.bool (rkp s d P x)) ∧ Below w.heap.size w w' := by
  have hk := kep_small (dl x.p)
  have hev := hu
  obtain ⟨xa, xn, xc, rfl, sl⟩ := hu
  obtain ⟨W1, hW1⟩ : ∃ W1, W1 = (w.alloc (.cells #[.string x.p, .bool x.d, .slice xa xn xc] 46)).alloc (.cells #[.bool P.del, .bool P.bak] 24) := ⟨_, rfl⟩
  have b1 : Below w.heap.size w W1 := by rw [hW1]; exact ((Below.refl _ _).alloc (Nat.le_refl _) _).alloc (by simp) _
  have K1 : W1.heap[w.heap.size]? = some (.cells #[.string x.p, .bool x.d, .slice xa xn xc] 46 (0, 0)) := by rw [hW1, heap_alloc_old _ _ (by simp)]; exact heap_alloc_new _ _
  have K2 : W1.cell? ⟨w.heap.size + 1, 0, none⟩ = some (.bool P.del) := by rw [hW1, World.cell?_alloc_at _ _ _ _ (by simp)]; rfl
  have K3 : W1.cell? ⟨w.heap.size + 1, 1, none⟩ = some (.bool P.bak) := by rw [hW1, World.cell?_alloc_at _ _ _ _ (by simp)]; rfl
  have HX : Hid (∀ W, Below W1.heap.size W1 W → W.heap[w.heap.size]? = some (.cells #[.string x.p, .bool x.d, .slice xa xn xc] 46 (0, 0))) := fun W hb => (hb.block _ (lt_of_block K1)).trans K1
  have HP : Hid (∀ W, Below W1.heap.size W1 W → W.cell? ⟨w.heap.size + 1, 0, none⟩ = some (.bool P.del) ∧ W.cell? ⟨w.heap.size + 1, 1, none⟩ = some (.bool P.bak)) := fun W hb => ⟨(hb.cell (World.block_lt_of_cell? _ _ K2)).trans K2, (hb.cell (World.block_lt_of_cell? _ _ K3)).trans K3⟩
  have B1 : Hid (Below w.heap.size w W1) := b1
  have CK := rkept_any x.p W1 (by omega)
  have CS : Hid (∀ W, Below w.heap.size w W → Calls Tryz.prog 27 #[vs, .agg #[.string x.p, .bool x.d, .slice xa xn xc], .agg #[.bool P.del, .bool P.bak]] W fun e w' => e = .returned (.bool (rsty s P.del x)) ∧ Below W.heap.size W w') := fun W hb => rstays_any vs _ s x P W (hs.kept hb) hls (hev.kept hb) hp
  have C1 : Hid (∀ W, Below w.heap.size w W → Calls Tryz.prog 41 #[vs, .string (mk (kep (dl x.p)))] W fun e w' => ∃ u, e = .returned (.tuple #[u, .bool (gotB s (kep (dl x.p)))]) ∧ EV w' u (got s (kep (dl x.p))) ∧ Below W.heap.size W w') := fun W hb => by
    have := rget_any vs s (mk (kep (dl x.p))) W (hs.kept hb) hls
    rwa [dl_mk] at this
  have C2 : Hid (∀ W, Below w.heap.size w W → Calls Tryz.prog 41 #[vd, .string (mk (kep (dl x.p)))] W fun e w' => ∃ u, e = .returned (.tuple #[u, .bool (gotB d (kep (dl x.p)))]) ∧ EV w' u (got d (kep (dl x.p))) ∧ Below W.heap.size W w') := fun W hb => by
    have := rget_any vd d (mk (kep (dl x.p))) W (hd.kept hb) hld
    rwa [dl_mk] at this
  have C3 : Hid (∀ W, Below w.heap.size w W → Calls Tryz.prog 41 #[vs, .string (mk (par (kep (dl x.p))))] W fun e w' => ∃ u, e = .returned (.tuple #[u, .bool (gotB s (par (kep (dl x.p))))]) ∧ EV w' u (got s (par (kep (dl x.p)))) ∧ Below W.heap.size W w') := fun W hb => by
    have := rget_any vs s (mk (par (kep (dl x.p)))) W (hs.kept hb) hls
    rwa [dl_mk] at this
  have C4 : Hid (∀ W, Below w.heap.size w W → Calls Tryz.prog 41 #[vd, .string (mk (par (kep (dl x.p))))] W fun e w' => ∃ u, e = .returned (.tuple #[u, .bool (gotB d (par (kep (dl x.p))))]) ∧ EV w' u (got d (par (kep (dl x.p)))) ∧ Below W.heap.size W w') := fun W hb => by
    have := rget_any vd d (mk (par (kep (dl x.p)))) W (hd.kept hb) hld
    rwa [dl_mk] at this
  have CT : Hid (∀ W v, Below w.heap.size w W → EV W v (got d (par (kep (dl x.p)))) → Calls Tryz.prog 27 #[vs, v, .agg #[.bool P.del, .bool P.bak]] W fun e w' => e = .returned (.bool (rsty s P.del (got d (par (kep (dl x.p)))))) ∧ Below W.heap.size W w') := fun W v hb hv => rstays_any vs v s _ P W (hs.kept hb) hls hv (got_small hld _)
  have CP : Hid (∀ W, Calls Tryz.prog 62 #[.string (mk (kep (dl x.p)))] W fun e w' => e = .returned (.string (mk (par (kep (dl x.p))))) ∧ w' = W) := fun W => by
    have := rparent_any (mk (kep (dl x.p))) W (by rw [mk_size]; omega)
    rwa [dl_mk] at this
  have HR : Hid (rkp s d P x = if x.d = true ∨ rsty s P.del x = true ∨ P.bak = false ∨ kep (dl x.p) = [] then false else if gotB s (kep (dl x.p)) = true ∨ (gotB d (kep (dl x.p)) = true ∧ (got d (kep (dl x.p))).d = true) then false
    else if par (kep (dl x.p)) = [] then true else (gotB s (par (kep (dl x.p))) && (got s (par (kep (dl x.p)))).d) || (gotB d (par (kep (dl x.p))) && (got d (par (kep (dl x.p)))).d && rsty s P.del (got d (par (kep (dl x.p)))))) := rfl
  obtain ⟨a, c, rfl, _, _, _⟩ := hs.shape
  obtain ⟨a2, c2, rfl, _, _, _⟩ := hd.shape
  generalize rkp s d P x = r at *
  generalize rsty s P.del x = sb at *
  generalize rsty s P.del (got d (par (kep (dl x.p)))) = sb2 at *
  generalize gotB s (kep (dl x.p)) = gb1 at *
  generalize got s (kep (dl x.p)) = y1 at *
  generalize gotB d (kep (dl x.p)) = gb2 at *
  generalize got d (kep (dl x.p)) = y2 at *
  generalize gotB s (par (kep (dl x.p))) = gb3 at *
  generalize got s (par (kep (dl x.p))) = y3 at *
  generalize gotB d (par (kep (dl x.p))) = gb4 at *
  generalize got d (par (kep (dl x.p))) = y4 at *
  generalize par (kep (dl x.p)) = pk at *
  generalize kep (dl x.p) = kk at *
  generalize s.length = n at *
  generalize d.length = n2 at *
  obtain ⟨p0, p1, p2, -, -, -⟩ := trio K1
  rw [hW1] at p0 p1 p2
  clear hs hls hd hld hev hp hk b1 K1 K2 K3 sl
  generalize hxp : x.p = xp at *
  generalize hxd : x.d = xd at *
  generalize hpd : P.del = pd at *
  generalize hpb : P.bak = pb at *
  clear hxp hxd hpd hpb
  go_enter Tryz.func29, Tryz.ntmps29
  go_wp2_with fail
  rw [← hW1]
  clear hW1 p0 p1 p2
  refine CK.mono ?_
  rintro e w2 ⟨rfl, b2⟩
  have B2 : Hid (Below w.heap.size w w2) := B1.out.trans (b2.mono B1.out.size)
  have D2 : Hid (Below W1.heap.size W1 w2) := b2
  obtain ⟨p0, p1, p2, -, -, -⟩ := trio (HX.out w2 b2)
  obtain ⟨l0, l1⟩ := HP.out w2 b2
  clear CK b2
  cases xd with
  | true =>
    have HR2 : Hid (r = false) := by unfold Hid; rw [HR.out, if_pos (.inl rfl)]
    clear HR
    go_wp2
    go_ret
    exact ⟨by rw [HR2.out]; rfl, B2.out⟩
  | false =>
  have cs := CS.out w2 B2.out
  clear CS
  go_wp2_with fail
  refine cs.mono ?_
  rintro e w3 ⟨rfl, b3⟩
  have B3 : Hid (Below w.heap.size w w3) := B2.out.trans (b3.mono B2.out.size)
  have D3 : Hid (Below W1.heap.size W1 w3) := D2.out.trans (b3.mono D2.out.size)
  clear cs b3 p0 p1 p2 l0 l1 D2 B2
  obtain ⟨l0, l1⟩ := HP.out w3 D3.out
  cases sb with
  | true =>
    have HR2 : Hid (r = false) := by unfold Hid; rw [HR.out, if_pos (.inr (.inl rfl))]
    clear HR
    go_wp2
    go_ret
    exact ⟨by rw [HR2.out]; rfl, B3.out⟩
  | false =>
  cases pb with
  | false =>
    have HR2 : Hid (r = false) := by unfold Hid; rw [HR.out, if_pos (.inr (.inr (.inl rfl)))]
    clear HR
    go_wp2
    go_ret
    exact ⟨by rw [HR2.out]; rfl, B3.out⟩
  | true =>
  by_cases hkk : kk = []
  · have HR2 : Hid (r = false) := by unfold Hid; rw [HR.out, if_pos (.inr (.inr (.inr hkk)))]
    clear HR
    subst hkk
    rw [mk_nil]
    go_wp2
    go_ret
    exact ⟨by rw [HR2.out]; rfl, B3.out⟩
  have HR2 : Hid (r = if gb1 = true ∨ (gb2 = true ∧ y2.d = true) then false else if pk = [] then true else (gb3 && y3.d) || (gb4 && y4.d && sb2)) := by
    unfold Hid
    rw [HR.out, if_neg (by simp [hkk])]
  have t0 := mk_ne hkk
  have c1 := C1.out w3 B3.out
  clear HR C1 hkk
  generalize mk kk = k at *
  go_wp2_with fail
  refine c1.mono ?_
  rintro e w4 ⟨u4, rfl, ⟨ya, yn, yc, rfl, -⟩, b4⟩
  obtain ⟨W5, hW5⟩ : ∃ W5, W5 = w4.alloc (.cells #[.string y1.p, .bool y1.d, .slice ya yn yc] 46) := ⟨_, rfl⟩
  have b5 : Below w3.heap.size w3 W5 := by rw [hW5]; exact b4.alloc b4.size _
  have B5 : Hid (Below w.heap.size w W5) := B3.out.trans (b5.mono B3.out.size)
  have D5 : Hid (Below W1.heap.size W1 W5) := D3.out.trans (b5.mono D3.out.size)
  have c2 := C2.out W5 B5.out
  clear c1 b4 b5 l0 l1 C2 t0
  go_wp2_with fail
  rw [← hW5]
  clear hW5
  refine c2.mono ?_
  rintro e w6 ⟨u6, rfl, ⟨za, zn, zc, rfl, -⟩, b6⟩
  obtain ⟨W7, hW7⟩ : ∃ W7, W7 = w6.alloc (.cells #[.string y2.p, .bool y2.d, .slice za zn zc] 46) := ⟨_, rfl⟩
  have b7 : Below W5.heap.size W5 W7 := by rw [hW7]; exact b6.alloc b6.size _
  have B7 : Hid (Below w.heap.size w W7) := B5.out.trans (b7.mono B5.out.size)
  have D7 : Hid (Below W1.heap.size W1 W7) := D5.out.trans (b7.mono D5.out.size)
  have k7 : W7.heap[w6.heap.size]? = some (.cells #[.string y2.p, .bool y2.d, .slice za zn zc] 46 (0, 0)) := by rw [hW7]; exact heap_alloc_new _ _
  obtain ⟨q0, q1, q2, -, -, -⟩ := trio k7
  rw [hW7] at q0 q1 q2
  have B7' : Hid (Below w.heap.size w (w6.alloc (.cells #[.string y2.p, .bool y2.d, .slice za zn zc] 46))) := by rw [← hW7]; exact B7.out
  clear c2 b6 b7 k7
  generalize y2.p = yp at *
  generalize y2.d = yd at *
  by_cases hgo : gb1 = true ∨ (gb2 = true ∧ yd = true)
  · have HR3 : Hid (r = false) := by unfold Hid; rw [HR2.out, if_pos hgo]
    clear HR2 hW7
    rcases hgo with rfl | ⟨rfl, rfl⟩
    · go_wp2
      go_ret
      exact ⟨by rw [HR3.out]; rfl, B7'.out⟩
    · cases gb1
      · go_wp2
        go_ret
        exact ⟨by rw [HR3.out]; rfl, B7'.out⟩
      · go_wp2
        go_ret
        exact ⟨by rw [HR3.out]; rfl, B7'.out⟩
  have HR3 : Hid (r = if pk = [] then true else (gb3 && y3.d) || (gb4 && y4.d && sb2)) := by unfold Hid; rw [HR2.out, if_neg hgo]
  have hg1 : gb1 = false := by cases gb1 <;> simp at hgo ⊢
  subst hg1
  have cp := CP.out W7
  have HPK : Hid (∀ {φ : Prop}, (gb2 = false → φ) → (gb2 = true → yd = false → φ) → φ) := fun {φ} f g => by
    cases gb2 with
    | false => exact f rfl
    | true => cases yd with
      | false => exact g rfl rfl
      | true => simp at hgo
  have hgd : gb2 = false ∨ (gb2 = true ∧ yd = false) := HPK.out (fun h => .inl h) (fun h h' => .inr ⟨h, h'⟩)
  clear HR2 CP HPK hgo B7'
  rcases hgd with rfl | ⟨rfl, rfl⟩
  all_goals
    go_wp2_with fail
    rw [← hW7]
    clear hW7 q0 q1 q2
    refine cp.mono ?_
    rintro e w8 ⟨rfl, hw8⟩
    replace hw8 := hw8.symm
    subst hw8
    clear cp
    by_cases hpk : pk = []
    · have HR4 : Hid (r = true) := by unfold Hid; rw [HR3.out, if_pos hpk]
      clear HR3
      subst hpk
      rw [mk_nil]
      go_wp2
      go_ret
      exact ⟨by rw [HR4.out]; rfl, B7.out⟩
    have HR4 : Hid (r = ((gb3 && y3.d) || (gb4 && y4.d && sb2))) := by unfold Hid; rw [HR3.out, if_neg hpk]
    have t0 := mk_ne hpk
    have c3 := C3.out W7 B7.out
    clear HR3 C3 hpk
    generalize mk pk = up at *
    go_wp2_with fail
    refine c3.mono ?_
    rintro e w8 ⟨u8, rfl, ⟨ya, yn, yc, rfl, -⟩, b8⟩
    obtain ⟨W9, hW9⟩ : ∃ W9, W9 = w8.alloc (.cells #[.string y3.p, .bool y3.d, .slice ya yn yc] 46) := ⟨_, rfl⟩
    have b9 : Below W7.heap.size W7 W9 := by rw [hW9]; exact b8.alloc b8.size _
    have B9 : Hid (Below w.heap.size w W9) := B7.out.trans (b9.mono B7.out.size)
    have D9 : Hid (Below W1.heap.size W1 W9) := D7.out.trans (b9.mono D7.out.size)
    have k9 : Hid (W9.heap[w8.heap.size]? = some (.cells #[.string y3.p, .bool y3.d, .slice ya yn yc] 46 (0, 0))) := by unfold Hid; rw [hW9]; exact heap_alloc_new _ _
    have c4 := C4.out W9 B9.out
    clear c3 b8 b9 C4 t0
    go_wp2_with fail
    rw [← hW9]
    clear hW9
    refine c4.mono ?_
    rintro e w10 ⟨u10, rfl, ⟨za2, zn2, zc2, rfl, sz⟩, b10⟩
    obtain ⟨W11, hW11⟩ : ∃ W11, W11 = w10.alloc (.cells #[.string y4.p, .bool y4.d, .slice za2 zn2 zc2] 46) := ⟨_, rfl⟩
    have b11 : Below w10.heap.size w10 W11 := by rw [hW11]; exact (Below.refl _ _).alloc (Nat.le_refl _) _
    have d11 : Below W9.heap.size W9 W11 := b10.trans (b11.mono b10.size)
    have B11 : Hid (Below w.heap.size w W11) := B9.out.trans (d11.mono B9.out.size)
    have k11 : W11.heap[w10.heap.size]? = some (.cells #[.string y4.p, .bool y4.d, .slice za2 zn2 zc2] 46 (0, 0)) := by rw [hW11]; exact heap_alloc_new _ _
    have ct := CT.out W11 _ B11.out ⟨za2, zn2, zc2, rfl, sz.kept b11⟩
    obtain ⟨q0, q1, q2, -, -, -⟩ := trio k11
    obtain ⟨p0, p1, p2, -, -, -⟩ := trio ((d11.block _ (lt_of_block k9.out)).trans k9.out)
    obtain ⟨l0, l1⟩ := HP.out W11 (D9.out.trans (d11.mono D9.out.size))
    have B11' : Hid (Below w.heap.size w (w10.alloc (.cells #[.string y4.p, .bool y4.d, .slice za2 zn2 zc2] 46))) := by rw [← hW11]; exact B11.out
    rw [hW11] at q0 q1 q2 p0 p1 p2 l0 l1
    clear c4 b10 b11 d11 sz k9 k11 CT HP HX
    generalize y3.p = yp3 at *
    generalize y3.d = yd3 at *
    generalize y4.p = yp4 at *
    generalize y4.d = yd4 at *
    by_cases h3 : (gb3 && yd3) = true
    · have HR5 : Hid (r = true) := by unfold Hid; rw [HR4.out, h3]; rfl
      rw [Bool.and_eq_true] at h3
      obtain ⟨rfl, rfl⟩ := h3
      clear HR4 ct
      go_wp2
      go_ret
      exact ⟨by rw [HR5.out]; rfl, B11'.out⟩
    have HR5 : Hid (r = (gb4 && yd4 && sb2)) := by unfold Hid; rw [HR4.out]; simp [h3]
    clear HR4
    rcases (show gb3 = false ∨ (gb3 = true ∧ yd3 = false) by cases gb3 <;> cases yd3 <;> simp at h3 ⊢) with rfl | ⟨rfl, rfl⟩
    all_goals
      clear h3
      by_cases h4 : (gb4 && yd4) = true
      · have HR6 : Hid (r = sb2) := by unfold Hid; rw [HR5.out, h4]; rfl
        rw [Bool.and_eq_true] at h4
        obtain ⟨rfl, rfl⟩ := h4
        clear HR5
        go_wp2_with fail
        rw [← hW11]
        clear hW11 q0 q1 q2 p0 p1 p2 l0 l1
        refine ct.mono ?_
        rintro e w12 ⟨rfl, b12⟩
        have B12 : Hid (Below w.heap.size w w12) := B11.out.trans (b12.mono B11.out.size)
        clear ct b12
        go_wp2
        go_ret
        exact ⟨by rw [HR6.out]; rfl, B12.out⟩
      · have HR6 : Hid (r = false) := by unfold Hid; rw [HR5.out]; simp [h4]
        clear HR5 ct
        rcases (show gb4 = false ∨ (gb4 = true ∧ yd4 = false) by cases gb4 <;> cases yd4 <;> simp at h4 ⊢) with rfl | ⟨rfl, rfl⟩
        all_goals
          go_wp2
          go_ret
          exact ⟨by rw [HR6.out]; rfl, B11'.out⟩
end Go.Proofs.YtajcabfeabbknaaGreatDoor
