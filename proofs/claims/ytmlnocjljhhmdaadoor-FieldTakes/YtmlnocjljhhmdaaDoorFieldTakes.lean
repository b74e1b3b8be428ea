/-
  FieldTakes answers true for whatever bytes and calls, and nothing that was there is changed; the package-level table of widths starts as the program's text lays it (the card ties it).
-/
import Derived.Test.YtmlnocjljhhmdaaDoorActs
import Derived.Test.YtmlnocjljhhmdaaDoorApp
import Derived.Deep.RegionHeld3
import Derived.Deep.RegionWith
namespace Go.Proofs.YtmlnocjljhhmdaaDoor.fieldTakes
open Go.ChangeShapes Go.WideShapes Go.ChangeAt Go.RowKit Go.Deep Go.ChangeMaps

/-- The document's reader lies in block k: its slice is v, its error e. -/
def Bx (w : World) (k : Nat) (a : Option Addr) (n c : Nat) (e : Int) : Prop :=
  w.cell? ⟨k, 0, none⟩ = some (.slice a n c) ∧ w.cell? ⟨k, 1, none⟩ = some (.int .i64 e) ∧ w.frozen? ⟨k, 0, none⟩ = false ∧ w.frozen? ⟨k, 1, none⟩ = false
theorem Bx.kept {w w' : World} {k : Nat} {a : Option Addr} {n c : Nat} {e : Int} (h : Bx w k a n c e) (hb : Below w.heap.size w w') : Bx w' k a n c e := by
  obtain ⟨h0, h1, h2, h3⟩ := h
  have hk : k < w.heap.size := World.block_lt_of_cell? _ _ h0
  exact ⟨(hb.cell (p := ⟨k, 0, none⟩) hk).trans h0, (hb.cell (p := ⟨k, 1, none⟩) hk).trans h1, (hb.frozen (p := ⟨k, 0, none⟩) hk).trans h2, (hb.frozen (p := ⟨k, 1, none⟩) hk).trans h3⟩
theorem Bx.off {w w' : World} {k g : Nat} {a : Option Addr} {n c : Nat} {e : Int} (h : Bx w k a n c e) (hb : Off g w w') (hk : k ≠ g) : Bx w' k a n c e := by
  obtain ⟨h0, h1, h2, h3⟩ := h
  exact ⟨(hb.cell (p := ⟨k, 0, none⟩) hk).trans h0, (hb.cell (p := ⟨k, 1, none⟩) hk).trans h1, (hb.frozen (p := ⟨k, 0, none⟩) hk).trans h2, (hb.frozen (p := ⟨k, 1, none⟩) hk).trans h3⟩
theorem Bx.set {w : World} {k : Nat} {a a' : Option Addr} {n c n' c' : Nat} {e e' : Int} (h : Bx w k a n c e) : Bx ((w.setCell ⟨k, 0, none⟩ (.slice a' n' c')).setCell ⟨k, 1, none⟩ (.int .i64 e')) k a' n' c' e' := by
  obtain ⟨h0, h1, h2, h3⟩ := h
  refine ⟨?_, ?_, by simpa using h2, by simpa using h3⟩
  · rw [World.cell?_setCell_other _ _ _ _ (by intro e; cases e), World.cell?_setCell_same _ _ _ h0]
  · rw [World.cell?_setCell_same _ _ _ (by rw [World.cell?_setCell_other _ _ _ _ (by intro e; cases e)]; exact h1)]

set_option maxRecDepth 100000 in
set_option maxHeartbeats 4000000 in
theorem walk (ab : Option Addr) (lenb capb : Nat) (zs : List Int) (al : Option Addr) (len capl : Nat) (K N : Nat → Int) (w : World) (hw : Wid w) (hB : Bytes w ab lenb capb zs) (hA : Acts w al len capl K N) :
    Calls Tryd.prog 4 #[.slice ab lenb capb, .slice al len capl] w fun e w' => e = .returned (.bool true) ∧ Below w.heap.size w w' := by
  have hp := hw.pos
  obtain ⟨i0, hi, hz0, hz1, hz2⟩ := info_parts info5'
  have hll : len ≤ 9223372036854775807 := by have h1 := hA.1; have h2 := hA.2.1; unfold maxLen at h2; omega
  have hlb : lenb ≤ 140737488351232 := by have h1 := hB.2.2.1; have h2 := hB.2.2.2.1; omega
  have HA : Hid (len = 0 ∨ ∃ b off, al = some ⟨b, off, none⟩ ∧ ∀ i, i < len → w.cell? ⟨b, off + i * 2, none⟩ = some (.int .u8 (K i)) ∧ w.cell? ⟨b, off + i * 2 + 1, none⟩ = some (.int .i64 (N i)) ∧
    0 ≤ K i ∧ K i ≤ 255 ∧ -9223372036854775808 ≤ N i ∧ N i ≤ 9223372036854775807) := hA.2.2
  have HZ : Hid (Sl w (.slice ab lenb capb) (zs.take lenb)) := hB.sl
  have HL : Hid ((zs.take lenb).length = lenb) := by
    show (zs.take lenb).length = lenb
    rw [List.length_take]
    have h1 := hB.2.1
    have h2 := hB.2.2.1
    omega
  have HV : Hid (Rv w (.slice ab (zs.take lenb).length capb) (zs.take lenb)) := by
    show Rv w (.slice ab (zs.take lenb).length capb) (zs.take lenb)
    obtain ⟨a, cap, e, h1, h2, h3, h4⟩ := HZ.out
    simp only [Value.slice.injEq] at e
    obtain ⟨rfl, _, rfl⟩ := e
    refine ⟨_, _, rfl, h1, h2, h3, fun x hx hc => ?_, h4⟩
    obtain ⟨_, _, _, _, h5⟩ := hB
    rcases h5 with ⟨h5, _⟩ | ⟨y, h5, h6⟩
    · rw [h5] at hx; cases hx
    · rw [h5] at hx
      cases hx
      have := World.cell?_spot (h6 0 hc)
      simpa [Addr.add] using this
  clear hA hB
  generalize zs.take lenb = Z at *
  by_cases h1 : 4000 < lenb
  · go_enter Tryd.func4, Tryd.ntmps4
    go_wp2_with (go_at_call 8; refine (awake_any _ hw).mono ?_; rintro e w' ⟨rfl, hbel⟩)
    go_ret
    exact ⟨rfl, by assumption⟩
  · have hd1 : decide (4000 < (lenb : Int)) = false := by simp; omega
    by_cases h2 : 200 < len
    · go_enter Tryd.func4, Tryd.ntmps4
      go_wp2_with (go_at_call 8; refine (awake_any _ hw).mono ?_; rintro e w' ⟨rfl, hbel⟩)
      go_ret
      exact ⟨rfl, by assumption⟩
    · have hd2 : decide (200 < (len : Int)) = false := by simp; omega
      have hown0 : (w.alloc (.cells #[] 5)).ownsRow w.heap.size 5 1 (.slice (some ⟨w.heap.size, 0, none⟩) 0 0) 0 [] := World.ownsRow_made (base := w.heap.size) (e := 5) (size := 1) w #[] 0 (Nat.le_refl _) (Nat.zero_le _) rfl
      have hb0 : Below w.heap.size w (w.alloc (.cells #[] 5)) := (Below.refl _ _).alloc (Nat.le_refl _) _
      have hbz := HZ.out.bytes
      have hsl0 := HZ.out.kept hb0
      go_enter Tryd.func4, Tryd.ntmps4
      go_wp2_with (at_builtin; refine wpList_append_sl rfl _ _ rfl w.heap.size _ 0 [] rfl hown0 _ Z rfl hsl0 (by rw [HL.out]; omega) (by simp) ?_)
      intro v1 w1 hown1 hgrow
      have B1 : Below w.heap.size w w1 := hb0.grown hgrow (by simp) (own_base hown0)
      try simp only [Nat.zero_add, List.nil_append] at hown1
      have sl1 : Sl w1 v1 Z := sl_owned hown1 hbz
      clear hown0 hb0 hgrow hsl0 hown1 hbz hi hz0 hz1 hz2
      have c1 := new_any v1 Z w1 (hw.below B1 hp) sl1 (by rw [HL.out]; omega)
      obtain ⟨a1, cap1, rfl, _⟩ := sl1
      rw [HL.out] at c1 ⊢
      go_wp2_with fail
      refine c1.mono ?_
      rintro e w3 ⟨g, s, rfl, hg1, hg2, hs, rd3, bel3⟩
      clear c1
      have B3 := bnext B1 bel3 B1.size
      have z3 := B3.size
      have z1 := B1.size
      have HR0 : Hid (Rd (w3.alloc (.cells #[.slice ab lenb capb, .int .i64 0] 35)) g s Z 0) := rd3.kept ((Below.refl _ _).alloc (Nat.le_refl _) _)
      have HX0 : Hid (Bx (w3.alloc (.cells #[.slice ab lenb capb, .int .i64 0] 35)) w3.heap.size ab Z.length capb 0) := by
        show Bx _ _ _ Z.length _ _
        rw [HL.out]
        refine ⟨?_, ?_, ?_, ?_⟩
        · rw [World.cell?_alloc_at _ _ _ _ rfl]; rfl
        · rw [World.cell?_alloc_at _ _ _ _ rfl]; rfl
        · exact World.frozen?_alloc_new ..
        · exact World.frozen?_alloc_new ..
      have HB0 : Hid (Below w.heap.size w (w3.alloc (.cells #[.slice ab lenb capb, .int .i64 0] 35))) := B3.alloc z3 _
      clear rd3 bel3 B3 B1
      obtain ⟨k, hk⟩ : ∃ k, k = w3.heap.size := ⟨_, rfl⟩
      have HKW : Hid (k = w3.heap.size) := hk
      have hgk : g ≠ k := by omega
      have hsk : s ≠ k := by omega
      have hkg : k ≠ g := by omega
      have hkw : w.heap.size ≤ k := by omega
      have hgw : w.heap.size ≤ g := by omega
      rw [← hk] at HX0
      clear hk hg1 hg2 hs z3 z1
      go_wp2
      rw [← HKW.out]
      go_loopw [7] (fun i wr => ∃ (j : Nat) (xs : List Int) (e : Int) (a : Option Addr) (c : Nat), j ≤ len ∧ i = .int .i64 j ∧ Rd wr g s xs e ∧ Bx wr k a xs.length c e ∧ Rv w (.slice a xs.length c) xs ∧ Below w.heap.size w wr) (fun i _ => len - (intOf i).toNat)
      case atStart => exact ⟨0, Z, 0, ab, capb, by omega, rfl, HR0.out, HX0.out, HV.out, HB0.out⟩
      case round =>
        clear HR0 HX0 HB0 HV HZ HL HKW
        obtain ⟨j, xs, e, a, c, hj, rfl, rd, bx, rv, bel⟩ := hrel
        have hwr := hw.below bel hp
        by_cases hlt : j < len
        · rcases HA.out with h0 | ⟨b, off, rfl, hcells⟩
          · omega
          · obtain ⟨hc0, hc1, q0, q1, q2, q3⟩ := hcells j hlt
            have hbw : b < w.heap.size := World.block_lt_of_cell? _ _ hc0
            have hr0 : wr.cell? ⟨b, off + j * 2, none⟩ = some (.int .u8 (K j)) := (bel.cell (p := ⟨b, off + j * 2, none⟩) hbw).trans hc0
            have hr1 : wr.cell? ⟨b, off + j * 2 + 1, none⟩ = some (.int .i64 (N j)) := (bel.cell (p := ⟨b, off + j * 2 + 1, none⟩) hbw).trans hc1
            have HC1 : Hid (w.cell? ⟨b, off + j * 2 + 1, none⟩ = some (.int .i64 (N j))) := hc1
            clear hcells hc0 hc1
            generalize K j = q at *
            generalize N j = m at *
            have hj0 : (0 : Int) ≤ (j : Int) := by omega
            have hj1 : (j : Int) < (len : Int) := by omega
            have hq4 : q % 4 = 0 ∨ q % 4 = 1 ∨ q % 4 = 2 ∨ q % 4 = 3 := by omega
            rcases hq4 with hq | hq | hq | hq
            · have d1 := n_doc a c xs e m wr.drew (rv.kept bel.drew)
              have HBX : Hid (Bx wr.drew k a xs.length c e) := bx
              obtain ⟨x0, x1, x2, x3⟩ := bx
              have HRV : Hid (Rv w (.slice a xs.length c) xs) := rv
              have HRD : Hid (Rd wr.drew g s xs e) := rd
              clear rv rd
              generalize hX : stX 0 xs e m = X at *
              generalize hE : stE 0 xs e m = E at *
              generalize hV : vN xs e m = V at *
              have EX : Hid (stX 0 xs e m = X ∧ stE 0 xs e m = E ∧ vN xs e m = V) := ⟨hX, hE, hV⟩
              clear hX hE hV
              generalize hL : xs.length = L at *
              have EL : Hid (xs.length = L) := hL
              clear hL
              go_wp2
              go_region_with (first | (go_at_call 16; refine d1.mono ?_; rintro r w4 ⟨v, rfl, lf, b4⟩; obtain ⟨y0, y1, y2, y3⟩ := HBX.out.kept b4; obtain ⟨a', c', rfl, hv⟩ := lf))
              all_goals
                have B4 : Below w.heap.size w w4 := (bel.drew).trans (b4.mono bel.size)
                have HRX : Hid (Rv w (.slice a' X.length c') X) := hv w (by rw [EL.out]; exact HRV.out)
                have rd4 : Rd w4 g s xs e := HRD.out.kept b4
                have rd5 := (rd4.off (Off.setCell k 0 w4 (.slice a' X.length c')) hgk hsk).off (Off.setCell k 1 _ (.int .i64 E)) hgk hsk
                have bx5 : Bx ((w4.setCell ⟨k, 0, none⟩ (.slice a' X.length c')).setCell ⟨k, 1, none⟩ (.int .i64 E)) k a' X.length c' E := Bx.set ⟨y0, y1, y2, y3⟩
                have B5 : Below w.heap.size w ((w4.setCell ⟨k, 0, none⟩ (.slice a' X.length c')).setCell ⟨k, 1, none⟩ (.int .i64 E)) := (B4.setCell hkw _).setCell hkw _
                have hw5 := hw.below B5 hp
                have d2 := n_real g s xs e m _ hw5 rd5
                rw [EX.out.1, EX.out.2.1, EX.out.2.2] at d2
                have hr5 : ((w4.setCell ⟨k, 0, none⟩ (.slice a' X.length c')).setCell ⟨k, 1, none⟩ (.int .i64 E)).cell? ⟨b, off + j * 2 + 1, none⟩ = some (.int .i64 m) := (B5.cell (p := ⟨b, off + j * 2 + 1, none⟩) hbw).trans HC1.out
                clear rd4 rd5 hw5 B4 b4 d1 hv hr0 hr1 x0 x1 x2 x3 EX HRV HBX HRD
                have hxl : X.length ≤ 9223372036854775807 := by
                  obtain ⟨_, _, e', h1, h2, _⟩ := HRX.out
                  unfold maxLen at h2
                  omega
                go_wp2_with fail
                refine d2.mono ?_
                rintro r w6 ⟨rfl, rd6, off6⟩
                clear d2 hr5 y0 y1 y2 y3
                have B6 : Below w.heap.size w w6.drew := (B5.trans (off6.below hgw)).drew
                obtain ⟨z0, z1, _, _⟩ := bx5.off off6 hkg
                have bx6 := bx5.off off6 hkg
                have HBX6 : Hid (Bx w6.drew k a' X.length c' E) := bx6
                clear bx6
                have t1 := left_any g s X E w6.drew rd6
                have t2 := err_any g s X E w6.drew rd6
                have t3 := done_any g s X E w6.drew rd6
                have t4 := rdone_any a' c' X E w6.drew hxl
                clear bx5 B5 off6
                generalize hD : dnE X E = D at *
                clear hD
                have HRD6 : Hid (Rd w6.drew g s X E) := rd6
                clear rd6
                generalize hXL : X.length = XL at *
                have EXL : Hid (X.length = XL) := hXL
                clear hXL
                go_wp2
                go_region_held3 (fun w' => w'.cell? ⟨k, 0, none⟩ = some (.slice a' XL c') ∧ w'.cell? ⟨k, 1, none⟩ = some (.int .i64 E)) (first | exact ⟨z0, z1⟩ | exact hS7)
                  (first
                    | (go_at_call 24; refine t1.mono ?_; rintro r w7 ⟨rfl, e7⟩; subst e7)
                    | (go_at_call 25; refine t2.mono ?_; rintro r w7 ⟨rfl, e7⟩; subst e7)
                    | (go_at_call 26; refine t3.mono ?_; rintro r w7 ⟨rfl, e7⟩; subst e7)
                    | (go_at_call 27; refine t4.mono ?_; rintro r w7 ⟨rfl, b7⟩; have HBX7 := HBX6.out.kept b7; have hS7 := (⟨HBX7.1, HBX7.2.1⟩ : w7.cell? ⟨k, 0, none⟩ = some (.slice a' XL c') ∧ w7.cell? ⟨k, 1, none⟩ = some (.int .i64 E))))
                all_goals
                  have HR7 : Hid (Rd w7 g s X E) := HRD6.out.kept b7
                  have HB7 : Hid (Below w.heap.size w w7) := bnext B6 b7 B6.size
                  have HX7 : Hid (Bx w7 k a' XL c' E) := HBX7
                  clear b7 HBX7 hS7 t1 t2 t3 t4 z0 z1
                  go_wp2
                  go_roundw
                  case rel => exact ⟨j + 1, X, E, a', c', by omega, by go_num, HR7.out, by rw [EXL.out]; exact HX7.out, by rw [EXL.out]; exact HRX.out, HB7.out⟩
                  case measure => simp [intOf]; omega
            · have d1 := t_doc a c xs e m wr.drew (rv.kept bel.drew)
              have HBX : Hid (Bx wr.drew k a xs.length c e) := bx
              obtain ⟨x0, x1, x2, x3⟩ := bx
              have HRV : Hid (Rv w (.slice a xs.length c) xs) := rv
              have HRD : Hid (Rd wr.drew g s xs e) := rd
              clear rv rd
              generalize hX : stX 1 xs e m = X at *
              generalize hE : stE 1 xs e m = E at *
              generalize hV : vT xs e m = V at *
              have EX : Hid (stX 1 xs e m = X ∧ stE 1 xs e m = E ∧ vT xs e m = V) := ⟨hX, hE, hV⟩
              clear hX hE hV
              generalize hL : xs.length = L at *
              have EL : Hid (xs.length = L) := hL
              clear hL
              go_wp2
              go_region_with (first | (go_at_call 18; refine d1.mono ?_; rintro r w4 ⟨v, rfl, lf, b4⟩; obtain ⟨y0, y1, y2, y3⟩ := HBX.out.kept b4; obtain ⟨a', c', rfl, hv⟩ := lf))
              all_goals
                have B4 : Below w.heap.size w w4 := (bel.drew).trans (b4.mono bel.size)
                have HRX : Hid (Rv w (.slice a' X.length c') X) := hv w (by rw [EL.out]; exact HRV.out)
                have rd4 : Rd w4 g s xs e := HRD.out.kept b4
                have rd5 := (rd4.off (Off.setCell k 0 w4 (.slice a' X.length c')) hgk hsk).off (Off.setCell k 1 _ (.int .i64 E)) hgk hsk
                have bx5 : Bx ((w4.setCell ⟨k, 0, none⟩ (.slice a' X.length c')).setCell ⟨k, 1, none⟩ (.int .i64 E)) k a' X.length c' E := Bx.set ⟨y0, y1, y2, y3⟩
                have B5 : Below w.heap.size w ((w4.setCell ⟨k, 0, none⟩ (.slice a' X.length c')).setCell ⟨k, 1, none⟩ (.int .i64 E)) := (B4.setCell hkw _).setCell hkw _
                have hw5 := hw.below B5 hp
                have d2 := t_real g s xs e m _ hw5 rd5
                rw [EX.out.1, EX.out.2.1, EX.out.2.2] at d2
                have hr5 : ((w4.setCell ⟨k, 0, none⟩ (.slice a' X.length c')).setCell ⟨k, 1, none⟩ (.int .i64 E)).cell? ⟨b, off + j * 2 + 1, none⟩ = some (.int .i64 m) := (B5.cell (p := ⟨b, off + j * 2 + 1, none⟩) hbw).trans HC1.out
                clear rd4 rd5 hw5 B4 b4 d1 hv hr0 hr1 x0 x1 x2 x3 EX HRV HBX HRD
                have hxl : X.length ≤ 9223372036854775807 := by
                  obtain ⟨_, _, e', h1, h2, _⟩ := HRX.out
                  unfold maxLen at h2
                  omega
                go_wp2_with fail
                refine d2.mono ?_
                rintro r w6 ⟨rfl, rd6, off6⟩
                clear d2 hr5 y0 y1 y2 y3
                have B6 : Below w.heap.size w w6.drew := (B5.trans (off6.below hgw)).drew
                obtain ⟨z0, z1, _, _⟩ := bx5.off off6 hkg
                have bx6 := bx5.off off6 hkg
                have HBX6 : Hid (Bx w6.drew k a' X.length c' E) := bx6
                clear bx6
                have t1 := left_any g s X E w6.drew rd6
                have t2 := err_any g s X E w6.drew rd6
                have t3 := done_any g s X E w6.drew rd6
                have t4 := rdone_any a' c' X E w6.drew hxl
                clear bx5 B5 off6
                generalize hD : dnE X E = D at *
                clear hD
                have HRD6 : Hid (Rd w6.drew g s X E) := rd6
                clear rd6
                generalize hXL : X.length = XL at *
                have EXL : Hid (X.length = XL) := hXL
                clear hXL
                go_wp2
                go_region_held3 (fun w' => w'.cell? ⟨k, 0, none⟩ = some (.slice a' XL c') ∧ w'.cell? ⟨k, 1, none⟩ = some (.int .i64 E)) (first | exact ⟨z0, z1⟩ | exact hS7)
                  (first
                    | (go_at_call 24; refine t1.mono ?_; rintro r w7 ⟨rfl, e7⟩; subst e7)
                    | (go_at_call 25; refine t2.mono ?_; rintro r w7 ⟨rfl, e7⟩; subst e7)
                    | (go_at_call 26; refine t3.mono ?_; rintro r w7 ⟨rfl, e7⟩; subst e7)
                    | (go_at_call 27; refine t4.mono ?_; rintro r w7 ⟨rfl, b7⟩; have HBX7 := HBX6.out.kept b7; have hS7 := (⟨HBX7.1, HBX7.2.1⟩ : w7.cell? ⟨k, 0, none⟩ = some (.slice a' XL c') ∧ w7.cell? ⟨k, 1, none⟩ = some (.int .i64 E))))
                all_goals
                  have HR7 : Hid (Rd w7 g s X E) := HRD6.out.kept b7
                  have HB7 : Hid (Below w.heap.size w w7) := bnext B6 b7 B6.size
                  have HX7 : Hid (Bx w7 k a' XL c' E) := HBX7
                  clear b7 HBX7 hS7 t1 t2 t3 t4 z0 z1
                  go_wp2
                  go_roundw
                  case rel => exact ⟨j + 1, X, E, a', c', by omega, by go_num, HR7.out, by rw [EXL.out]; exact HX7.out, by rw [EXL.out]; exact HRX.out, HB7.out⟩
                  case measure => simp [intOf]; omega
            · have d1 := r_doc a c xs e m wr.drew (rv.kept bel.drew)
              have HBX : Hid (Bx wr.drew k a xs.length c e) := bx
              obtain ⟨x0, x1, x2, x3⟩ := bx
              have HRV : Hid (Rv w (.slice a xs.length c) xs) := rv
              have HRD : Hid (Rd wr.drew g s xs e) := rd
              clear rv rd
              generalize hX : stX 2 xs e m = X at *
              generalize hE : stE 2 xs e m = E at *
              generalize hV : vR xs e m = V at *
              have EX : Hid (stX 2 xs e m = X ∧ stE 2 xs e m = E ∧ vR xs e m = V) := ⟨hX, hE, hV⟩
              clear hX hE hV
              generalize hL : xs.length = L at *
              have EL : Hid (xs.length = L) := hL
              clear hL
              go_wp2
              go_region_with (first | (go_at_call 20; refine d1.mono ?_; rintro r w4 ⟨v, rfl, lf, b4⟩; obtain ⟨y0, y1, y2, y3⟩ := HBX.out.kept b4; obtain ⟨a', c', rfl, hv⟩ := lf))
              all_goals
                have B4 : Below w.heap.size w w4 := (bel.drew).trans (b4.mono bel.size)
                have HRX : Hid (Rv w (.slice a' X.length c') X) := hv w (by rw [EL.out]; exact HRV.out)
                have rd4 : Rd w4 g s xs e := HRD.out.kept b4
                have rd5 := (rd4.off (Off.setCell k 0 w4 (.slice a' X.length c')) hgk hsk).off (Off.setCell k 1 _ (.int .i64 E)) hgk hsk
                have bx5 : Bx ((w4.setCell ⟨k, 0, none⟩ (.slice a' X.length c')).setCell ⟨k, 1, none⟩ (.int .i64 E)) k a' X.length c' E := Bx.set ⟨y0, y1, y2, y3⟩
                have B5 : Below w.heap.size w ((w4.setCell ⟨k, 0, none⟩ (.slice a' X.length c')).setCell ⟨k, 1, none⟩ (.int .i64 E)) := (B4.setCell hkw _).setCell hkw _
                have hw5 := hw.below B5 hp
                have d2 := r_real g s xs e m _ rd5
                rw [EX.out.1, EX.out.2.1, EX.out.2.2] at d2
                have hr5 : ((w4.setCell ⟨k, 0, none⟩ (.slice a' X.length c')).setCell ⟨k, 1, none⟩ (.int .i64 E)).cell? ⟨b, off + j * 2 + 1, none⟩ = some (.int .i64 m) := (B5.cell (p := ⟨b, off + j * 2 + 1, none⟩) hbw).trans HC1.out
                clear rd4 rd5 hw5 B4 b4 d1 hv hr0 hr1 x0 x1 x2 x3 EX HRV HBX HRD
                have hxl : X.length ≤ 9223372036854775807 := by
                  obtain ⟨_, _, e', h1, h2, _⟩ := HRX.out
                  unfold maxLen at h2
                  omega
                go_wp2_with fail
                refine d2.mono ?_
                rintro r w6 ⟨rfl, rd6, off6⟩
                clear d2 hr5 y0 y1 y2 y3
                have B6 : Below w.heap.size w w6.drew := (B5.trans (off6.below hgw)).drew
                obtain ⟨z0, z1, _, _⟩ := bx5.off off6 hkg
                have bx6 := bx5.off off6 hkg
                have HBX6 : Hid (Bx w6.drew k a' X.length c' E) := bx6
                clear bx6
                have t1 := left_any g s X E w6.drew rd6
                have t2 := err_any g s X E w6.drew rd6
                have t3 := done_any g s X E w6.drew rd6
                have t4 := rdone_any a' c' X E w6.drew hxl
                clear bx5 B5 off6
                generalize hD : dnE X E = D at *
                clear hD
                have HRD6 : Hid (Rd w6.drew g s X E) := rd6
                clear rd6
                generalize hXL : X.length = XL at *
                have EXL : Hid (X.length = XL) := hXL
                clear hXL
                go_wp2
                go_region_held3 (fun w' => w'.cell? ⟨k, 0, none⟩ = some (.slice a' XL c') ∧ w'.cell? ⟨k, 1, none⟩ = some (.int .i64 E)) (first | exact ⟨z0, z1⟩ | exact hS7)
                  (first
                    | (go_at_call 24; refine t1.mono ?_; rintro r w7 ⟨rfl, e7⟩; subst e7)
                    | (go_at_call 25; refine t2.mono ?_; rintro r w7 ⟨rfl, e7⟩; subst e7)
                    | (go_at_call 26; refine t3.mono ?_; rintro r w7 ⟨rfl, e7⟩; subst e7)
                    | (go_at_call 27; refine t4.mono ?_; rintro r w7 ⟨rfl, b7⟩; have HBX7 := HBX6.out.kept b7; have hS7 := (⟨HBX7.1, HBX7.2.1⟩ : w7.cell? ⟨k, 0, none⟩ = some (.slice a' XL c') ∧ w7.cell? ⟨k, 1, none⟩ = some (.int .i64 E))))
                all_goals
                  have HR7 : Hid (Rd w7 g s X E) := HRD6.out.kept b7
                  have HB7 : Hid (Below w.heap.size w w7) := bnext B6 b7 B6.size
                  have HX7 : Hid (Bx w7 k a' XL c' E) := HBX7
                  clear b7 HBX7 hS7 t1 t2 t3 t4 z0 z1
                  go_wp2
                  go_roundw
                  case rel => exact ⟨j + 1, X, E, a', c', by omega, by go_num, HR7.out, by rw [EXL.out]; exact HX7.out, by rw [EXL.out]; exact HRX.out, HB7.out⟩
                  case measure => simp [intOf]; omega
            · have d1 := b_doc a c xs e m wr (rv.kept bel)
              have HBX : Hid (Bx wr k a xs.length c e) := bx
              obtain ⟨x0, x1, x2, x3⟩ := bx
              have HRV : Hid (Rv w (.slice a xs.length c) xs) := rv
              have HRD : Hid (Rd wr g s xs e) := rd
              clear rv rd
              generalize hX : stX 3 xs e m = X at *
              generalize hE : stE 3 xs e m = E at *
              generalize hV : vB xs e = V at *
              have EX : Hid (stX 3 xs e m = X ∧ stE 3 xs e m = E ∧ vB xs e = V) := ⟨hX, hE, hV⟩
              clear hX hE hV
              generalize hL : xs.length = L at *
              have EL : Hid (xs.length = L) := hL
              clear hL
              go_wp2_with fail
              refine d1.mono ?_
              rintro r w4 ⟨v, rfl, lf, b4⟩
              obtain ⟨y0, y1, y2, y3⟩ := HBX.out.kept b4
              obtain ⟨a', c', rfl, hv⟩ := lf
              all_goals
                have B4 : Below w.heap.size w w4 := (bel).trans (b4.mono bel.size)
                have HRX : Hid (Rv w (.slice a' X.length c') X) := hv w (by rw [EL.out]; exact HRV.out)
                have rd4 : Rd w4 g s xs e := HRD.out.kept b4
                have rd5 := (rd4.off (Off.setCell k 0 w4 (.slice a' X.length c')) hgk hsk).off (Off.setCell k 1 _ (.int .i64 E)) hgk hsk
                have bx5 : Bx ((w4.setCell ⟨k, 0, none⟩ (.slice a' X.length c')).setCell ⟨k, 1, none⟩ (.int .i64 E)) k a' X.length c' E := Bx.set ⟨y0, y1, y2, y3⟩
                have B5 : Below w.heap.size w ((w4.setCell ⟨k, 0, none⟩ (.slice a' X.length c')).setCell ⟨k, 1, none⟩ (.int .i64 E)) := (B4.setCell hkw _).setCell hkw _
                have hw5 := hw.below B5 hp
                have d2 := b_real g s xs e m _ rd5
                rw [EX.out.1, EX.out.2.1, EX.out.2.2] at d2
                have hr5 : ((w4.setCell ⟨k, 0, none⟩ (.slice a' X.length c')).setCell ⟨k, 1, none⟩ (.int .i64 E)).cell? ⟨b, off + j * 2 + 1, none⟩ = some (.int .i64 m) := (B5.cell (p := ⟨b, off + j * 2 + 1, none⟩) hbw).trans HC1.out
                clear rd4 rd5 hw5 B4 b4 d1 hv hr0 hr1 x0 x1 x2 x3 EX HRV HBX HRD
                have hxl : X.length ≤ 9223372036854775807 := by
                  obtain ⟨_, _, e', h1, h2, _⟩ := HRX.out
                  unfold maxLen at h2
                  omega
                go_wp2_with fail
                refine d2.mono ?_
                rintro r w6 ⟨rfl, rd6, off6⟩
                clear d2 hr5 y0 y1 y2 y3
                have B6 : Below w.heap.size w w6.drew := (B5.trans (off6.below hgw)).drew
                obtain ⟨z0, z1, _, _⟩ := bx5.off off6 hkg
                have bx6 := bx5.off off6 hkg
                have HBX6 : Hid (Bx w6.drew k a' X.length c' E) := bx6
                clear bx6
                have t1 := left_any g s X E w6.drew rd6
                have t2 := err_any g s X E w6.drew rd6
                have t3 := done_any g s X E w6.drew rd6
                have t4 := rdone_any a' c' X E w6.drew hxl
                clear bx5 B5 off6
                generalize hD : dnE X E = D at *
                clear hD
                have HRD6 : Hid (Rd w6.drew g s X E) := rd6
                clear rd6
                generalize hXL : X.length = XL at *
                have EXL : Hid (X.length = XL) := hXL
                clear hXL
                go_wp2
                go_region_held3 (fun w' => w'.cell? ⟨k, 0, none⟩ = some (.slice a' XL c') ∧ w'.cell? ⟨k, 1, none⟩ = some (.int .i64 E)) (first | exact ⟨z0, z1⟩ | exact hS7)
                  (first
                    | (go_at_call 24; refine t1.mono ?_; rintro r w7 ⟨rfl, e7⟩; subst e7)
                    | (go_at_call 25; refine t2.mono ?_; rintro r w7 ⟨rfl, e7⟩; subst e7)
                    | (go_at_call 26; refine t3.mono ?_; rintro r w7 ⟨rfl, e7⟩; subst e7)
                    | (go_at_call 27; refine t4.mono ?_; rintro r w7 ⟨rfl, b7⟩; have HBX7 := HBX6.out.kept b7; have hS7 := (⟨HBX7.1, HBX7.2.1⟩ : w7.cell? ⟨k, 0, none⟩ = some (.slice a' XL c') ∧ w7.cell? ⟨k, 1, none⟩ = some (.int .i64 E))))
                all_goals
                  have HR7 : Hid (Rd w7 g s X E) := HRD6.out.kept b7
                  have HB7 : Hid (Below w.heap.size w w7) := bnext B6 b7 B6.size
                  have HX7 : Hid (Bx w7 k a' XL c' E) := HBX7
                  clear b7 HBX7 hS7 t1 t2 t3 t4 z0 z1
                  go_wp2
                  go_roundw
                  case rel => exact ⟨j + 1, X, E, a', c', by omega, by go_num, HR7.out, by rw [EXL.out]; exact HX7.out, by rw [EXL.out]; exact HRX.out, HB7.out⟩
                  case measure => simp [intOf]; omega
        · obtain rfl : j = len := by omega
          go_wp2_with (go_at_call 8; refine (awake_any _ hwr).mono ?_; rintro e w' ⟨rfl, hbel⟩)
          go_ret
          exact ⟨rfl, bnext bel (by assumption) bel.size⟩

theorem contract (H : Type) (enc : TypeId × Value → H) (W : World) (base : Nat) (args : Array Value) (ds gs : List (DataW H)) (before : List MemPlace)
    (hval : ∀ (j : Nat) t v, Tryd.f4.params[j]? = some t → args[j]? = some v → Value.okWide Tryd.prog W .any base t v)
    (hW : DataW.Whole enc Tryd.prog Tryd.f4.params.toList Rows.fieldTakesSpec.vars false W args.toList ds gs before) (hL : laidMetH Tryd.prog Rows.fieldTakesRow.laid W)
    (hsz0 : (DataW.weightsEach Tryd.prog (Tryd.f4.params.toList ++ Rows.fieldTakesSpec.plain.varTypes Tryd.prog) (ds ++ gs)).all (· ≤ reachBytes) = true) :
    Calls Tryd.prog 4 args W fun e W' => ∃ v, e = .returned v ∧ Rows.fieldTakesSpec.post enc Tryd.prog Tryd.f4 false true false false W args v W' := by
  have hW' := hW
  obtain ⟨p, q, hA0, hV, rfl, hfz, hnd⟩ := hW
  have hA : DataW.TrodAll enc Tryd.prog W 0 (fun _ => true) true Tryd.f4.params.toList args.toList ds p := hA0
  rw [Tryd.params4] at hA hval hsz0
  obtain ⟨v0, vs0, d0, ds0, p0, q0, hargs, rfl, rfl, h0, r0⟩ := trodAll_cons hA
  obtain ⟨v1, vs1, d1, ds1, p1, q1, rfl, rfl, rfl, h1, r1⟩ := trodAll_cons r0
  obtain ⟨rfl, rfl, rfl⟩ := trodAll_nil r1
  obtain rfl : args = #[v0, v1] := by cases args; simp_all
  obtain ⟨rfl, rfl⟩ := trodVars_none hV
  have hsz : (DataW.weightsEach Tryd.prog [25, 31] [d0, d1]).all (· ≤ reachBytes) = true := hsz0
  have k0 := h0
  have lt0 : ∀ x ∈ p0, x.block < W.heap.size := by obtain ⟨m, hm⟩ := k0; exact DataW.trod_lt m _ _ _ hm
  obtain ⟨a0, len0, cap0, z0, rfl, w0⟩ := bytes_open 0 (hval 0 25 v0 rfl rfl) h0 hsz rfl rfl
  have k1 := h1
  have lt1 : ∀ x ∈ p1, x.block < W.heap.size := by obtain ⟨m, hm⟩ := k1; exact DataW.trod_lt m _ _ _ hm
  obtain ⟨a1, len1, cap1, K1, N1, rfl, w1⟩ := acts_open (hval 1 31 v1 rfl rfl) h1
  clear hA0
  refine (walk a0 len0 cap0 z0 a1 len1 cap1 K1 N1 W (wid_of hL) w0 w1).mono fun e W' ⟨he, bel⟩ => ?_
  subst he
  exact ⟨_, rfl, _, _, _, [], _, [], hW', trodAll_mk1 (shut_bool Tryd.underlying4 _), (trodAll_cons_mk (Below.trod laidOut (by kernel_rfl) (of_decide_eq_true (by kernel_rfl)) k0 bel lt0) (trodAll_cons_mk (Below.trod laidOut (by kernel_rfl) (of_decide_eq_true (by kernel_rfl)) k1 bel lt1) trodAll_mk0)), rfl, bel.frame _, fun h => by cases h⟩

theorem laid_met (os : Os) : laidMet Tryd.prog Rows.fieldTakesRow.laid (({ World.holding Tryd.prog os ⟨#[], #[], []⟩ with heap := (World.holding Tryd.prog os ⟨#[], #[], []⟩).heap.modify 0 fun
      | .cells _ t frozen => .cells #[.int .i64 1, .int .i64 2, .int .i64 4, .int .i64 8] t frozen
      | o => o } : World).forCall (fun _ _ => 0) ⟨#[], #[.slice none 0 0, .slice none 0 0], []⟩).memory :=
  laidMet_of_run' 8 (by kernel_rfl) (by kernel_rfl)
theorem reads (os : Os) {H : Type} (enc : TypeId × Value → H) : ∃ places, DataW.whole enc Tryd.prog (({ World.holding Tryd.prog os ⟨#[], #[], []⟩ with heap := (World.holding Tryd.prog os ⟨#[], #[], []⟩).heap.modify 0 fun
      | .cells _ t frozen => .cells #[.int .i64 1, .int .i64 2, .int .i64 4, .int .i64 8] t frozen
      | o => o } : World).forCall (fun _ _ => 0) ⟨#[], #[.slice none 0 0, .slice none 0 0], []⟩).memory Tryd.f4.params.toList Rows.fieldTakesSpec.vars false #[Value.slice none 0 0, .slice none 0 0].toList 8 = some ([.nil, .nil], [], places) :=
  ⟨[], by kernel_rfl⟩

set_option maxRecDepth 100000 in
theorem lifted (os : Os) (started : os.Started) (H : Type) (enc : TypeId × Value → H) (F : Stop.Interp) :
    ReturnsInHanded {} Tryd.checked os 4 .any ((OpenSpec.ofChange Rows.fieldTakesSpec).preRow enc Tryd.prog Tryd.f4 Rows.fieldTakesRow.domain false Rows.fieldTakesRow.laid) (((OpenSpec.ofChange Rows.fieldTakesSpec).at F).post enc Tryd.prog Tryd.f4 false true false false) := by
  obtain ⟨places, hx⟩ := reads os enc
  refine returnsInHanded_of_row (C := Tryd.checked) (s := OpenSpec.ofChange Rows.fieldTakesSpec) own started (by kernel_rfl) Tryd.func4
    (witness_row_at (enc := enc) (C := Tryd.checked) false ({ World.holding Tryd.prog os ⟨#[], #[], []⟩ with heap := (World.holding Tryd.prog os ⟨#[], #[], []⟩).heap.modify 0 fun
      | .cells _ t frozen => .cells #[.int .i64 1, .int .i64 2, .int .i64 4, .int .i64 8] t frozen
      | o => o } : World) #[.slice none 0 0, .slice none 0 0] rfl (by kernel_rfl) (by kernel_rfl) (by kernel_rfl)
      (OpenSpec.preRow_of_cond 8 hx (by kernel_rfl) (fun k hk => by cases hk) (by kernel_rfl) (laid_met os))) ?_
  intro W base args ds gs before hval hW _ _ hsz hL _ _
  exact contract H enc W base args ds gs before hval hW hL hsz

theorem said : Rows.FieldTakesSaid :=
  OpenClaim.holds_of_cond 4 Tryd.f4 rfl rfl rfl rfl rfl rfl rfl ⟨rfl, rfl, rfl, rfl, rfl⟩ rfl rfl rfl rfl rfl (by kernel_rfl) Tryd.func4 (by kernel_rfl)
    (of_decide_eq_true (by kernel_rfl)) (by unfold Func.isWrapper; first | (rw [if_pos (by decide +kernel)]; kernel_rfl) | (rw [if_neg (by decide +kernel)]; exact ⟨rfl, rfl⟩))
    (fun os started H enc _ F => by rw [OpenClaim.pre_eq_preRow]; exact lifted os started H enc F)

theorem plain (f : FuncId) (fn : Func) (hf : Tryd.pinned.checked.prog.funcNamed "sumpter/sumpterlaw02.FieldTakes" = some f) (hfn : Tryd.pinned.checked.prog.funcs[f]? = some fn) :
    false = Tryd.pinned.checked.prog.looks [] ∧ ∀ (j : Nat) t, fn.params[j]? = some t → Tryd.pinned.checked.prog.wantsStandIn t = false := by
  obtain rfl : f = 4 := Option.some.inj ((show Tryd.prog.funcNamed "sumpter/sumpterlaw02.FieldTakes" = some 4 by kernel_rfl).symm.trans hf) |>.symm
  obtain rfl : fn = Tryd.f4 := (Option.some.inj (Tryd.func4.symm.trans hfn)).symm
  refine ⟨by kernel_rfl, fun j t ht => ?_⟩
  rw [Tryd.params4] at ht
  have hm : t ∈ [25, 31] := by simpa using Array.mem_of_getElem? ht
  have hall : ([25, 31].all fun u => !Tryd.prog.wantsStandIn u) = true := by kernel_rfl
  exact (show Tryd.prog.wantsStandIn t = false by simpa using List.all_eq_true.1 hall t hm)
end Go.Proofs.YtmlnocjljhhmdaaDoor.fieldTakes

namespace Go.Proofs.YtmlnocjljhhmdaaDoor
/-- The card of FieldTakes. -/
theorem fieldTakes_card : Rows.FieldTakesCardSaid :=
  Claim7.holds_tied_plain_at .later [] _ _ _ _ fieldTakes.said (fun _ h => by cases h) (by kernel_rfl) (fun _ h => by cases h) fieldTakes_row_tie rfl ⟨rfl, rfl⟩ (by kernel_rfl) rfl fieldTakes.plain (by kernel_rfl)
#print axioms fieldTakes_card
end Go.Proofs.YtmlnocjljhhmdaaDoor
