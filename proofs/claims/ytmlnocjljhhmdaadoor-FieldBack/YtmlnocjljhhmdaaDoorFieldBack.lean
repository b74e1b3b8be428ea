/-
  FieldBack answers true for every number, every texts and whatever bytes behind, and nothing that was there is changed; the package-level table of widths starts as the program's text lays it (the card ties it).
-/
import Derived.Test.YtmlnocjljhhmdaaDoorFrame
import Derived.Deep.RegionHeld3
namespace Go.Proofs.YtmlnocjljhhmdaaDoor.fieldBack
open Go.ChangeShapes Go.WideShapes Go.ChangeAt Go.RowKit Go.Deep Go.ChangeMaps

theorem strs_plain {w : World} {a : Option Addr} {len cap : Nat} {Sx : Nat → ByteArray} (h : Strs w a len cap Sx) :
    len = 0 ∨ ∃ b off, a = some ⟨b, off, none⟩ ∧ ∀ i, i < len → w.cell? ⟨b, off + i, none⟩ = some (.string (Sx i)) ∧ (Sx i).size ≤ maxLen := by
  obtain ⟨h1, h2, h3⟩ := h
  rcases Nat.eq_zero_or_pos len with h0 | h0
  · exact .inl h0
  · rcases h3 with ⟨_, h⟩ | ⟨x, rfl, hc⟩
    · omega
    · obtain ⟨b, off, spot⟩ := x
      have hspot : spot = none := by simpa [Addr.add] using World.cell?_spot (hc 0 (by omega)).1
      subst hspot
      exact .inr ⟨b, off, rfl, fun i hi => by have := hc i hi; rwa [Addr.add_lit] at this⟩

/-- The first j texts, laid one behind the other. -/
def layT (Sx : Nat → ByteArray) (j : Nat) : List Int := (List.range j).flatMap fun k => textB (Sx k)
/-- The texts from j on. -/
def restT (Sx : Nat → ByteArray) (n j : Nat) : List Int := ((List.range n).drop j).flatMap fun k => textB (Sx k)

theorem layT_succ (Sx : Nat → ByteArray) (j : Nat) : layT Sx (j + 1) = layT Sx j ++ textB (Sx j) := by
  unfold layT; rw [List.range_succ, List.flatMap_append]; simp
theorem restT_zero (Sx : Nat → ByteArray) (n : Nat) : restT Sx n 0 = layT Sx n := rfl
theorem restT_succ (Sx : Nat → ByteArray) (n j : Nat) (h : j < n) : restT Sx n j = textB (Sx j) ++ restT Sx n (j + 1) := by
  unfold restT
  rw [List.drop_eq_getElem_cons (by simpa using h), List.flatMap_cons]
  simp
theorem restT_end (Sx : Nat → ByteArray) (n : Nat) : restT Sx n n = [] := by
  unfold restT; rw [List.drop_of_length_le (by simp)]; rfl
theorem layT_len (Sx : Nat → ByteArray) (j : Nat) (h : ∀ k, k < j → (Sx k).size ≤ 1000) : (layT Sx j).length ≤ 1008 * j := by
  induction j with
  | zero => simp [layT]
  | succ j ih =>
    rw [layT_succ, List.length_append]
    have h1 := ih (fun k hk => h k (by omega))
    have h2 := (textB_len (Sx j)).1
    have h3 := h j (by omega)
    omega

set_option maxHeartbeats 4000000 in
theorem walk (n : Int) (a : Option Addr) (len cap : Nat) (Sx : Nat → ByteArray) (ab : Option Addr) (lenb capb : Nat) (zs : List Int) (w : World) (hw : Wid w) (wn : (Lit.int .i64 n).wf = true) (hS : Strs w a len cap Sx) (hB : Bytes w ab lenb capb zs) :
    Calls Tryd.prog 5 #[.int .i64 n, .slice a len cap, .slice ab lenb capb] w fun e w' => e = .returned (.bool true) ∧ Below w.heap.size w w' := by
  have hn := bounds_i64 wn
  have hp := hw.pos
  have hlc : len ≤ 9223372036854775807 := by have h1 := hS.1; have h2 := hS.2.1; unfold maxLen at h2; omega
  have hlb : lenb ≤ 140737488351232 := by have h1 := hB.2.2.1; have h2 := hB.2.2.2.1; omega
  have HS : Hid (len = 0 ∨ ∃ b off, a = some ⟨b, off, none⟩ ∧ ∀ i, i < len → w.cell? ⟨b, off + i, none⟩ = some (.string (Sx i)) ∧ (Sx i).size ≤ maxLen) := strs_plain hS
  have HB : Hid (Sl w (.slice ab lenb capb) (zs.take lenb)) := hB.sl
  have HBL : Hid ((zs.take lenb).length = lenb) := by
    show (zs.take lenb).length = lenb
    rw [List.length_take]
    have h1 := hB.2.1
    have h2 := hB.2.2.1
    omega
  clear wn hS hB
  generalize zs.take lenb = Z at *
  by_cases hok : 0 ≤ n ∧ n ≤ 4611686018427387903 ∧ len ≤ 60
  · obtain ⟨o1, o2, o3⟩ := hok
    have hl0 : lenOf n ≠ 0 := by rcases lenOf_cases n with h | h | h | h | h | h <;> omega
    have nl8 : (numB n).length ≤ 8 := by have nl := numB_len n; rcases lenOf_cases n with h | h | h | h | h | h <;> omega
    have c1 := fnum_any n w hw
    go_enter Tryd.func5, Tryd.ntmps5
    go_wp2_with fail
    refine c1.mono ?_
    rintro e w1 ⟨v1, rfl, sl1, bel1⟩
    clear c1
    go_wp2
    go_loopw [7, 8] (fun v i wr => ∃ j : Nat, j ≤ len ∧ i = .int .i64 j ∧ Sl wr v (numB n ++ layT Sx j) ∧ Below w.heap.size w wr ∧ ∀ k, k < j → (Sx k).size ≤ 1000) (fun _ i _ => len - (intOf i).toNat)
    case atStart => exact ⟨0, by omega, rfl, by simpa [layT] using sl1, bel1, fun k hk => by omega⟩
    case round =>
      clear sl1 bel1
      obtain ⟨j, hj, rfl, slj, bel, hall⟩ := hrel
      have hwr := hw.below bel hp
      have hsz := bel.size
      have hlay := layT_len Sx j hall
      by_cases hlt : j < len
      · rcases HS.out with h0 | ⟨b, off, rfl, hcells⟩
        · omega
        · obtain ⟨hc, hsm⟩ := hcells j hlt
          have hcr : wr.cell? ⟨b, off + j, none⟩ = some (.string (Sx j)) := (bel.cell (p := ⟨b, off + j, none⟩) (World.block_lt_of_cell? _ _ hc)).trans hc
          clear hc hcells
          have HL : Hid (layT Sx (j + 1) = layT Sx j ++ textB (Sx j)) := layT_succ Sx j
          have HA : Hid (∀ k, k < j → (Sx k).size ≤ 1000) := hall
          clear hall
          unfold maxLen at hsm
          obtain ⟨S, hSj⟩ : ∃ S, S = Sx j := ⟨_, rfl⟩
          have HJ : Hid (S = Sx j) := hSj
          rw [← hSj] at hcr hsm
          clear hSj
          by_cases hbig : 1000 < S.size
          · go_wp2_with (go_at_call 8; refine (awake_any _ hwr).mono ?_; rintro e w' ⟨rfl, hbel⟩)
            go_ret
            exact ⟨rfl, bnext bel (by assumption) hsz⟩
          · have c2 := ftext_any S wr hwr (by omega)
            obtain ⟨av, cv, rfl, sp⟩ := slj
            have slj : Sl wr (.slice av (numB n ++ layT Sx j).length cv) (numB n ++ layT Sx j) := ⟨av, cv, rfl, sp⟩
            have tl := (textB_len S).1
            have hXL : (numB n ++ layT Sx j).length ≤ 8 + 1008 * j := by rw [List.length_append]; omega
            clear sp hlay
            obtain ⟨LX, hLX⟩ : ∃ LX, LX = (numB n ++ layT Sx j).length := ⟨_, rfl⟩
            rw [← hLX] at slj hXL ⊢
            go_wp2_with fail
            refine c2.mono ?_
            rintro e w2 ⟨v2, rfl, sl2, bel2⟩
            clear c2
            have hb2 := bnext bel bel2 hsz
            have c3 := join2_any w2 _ v2 _ _ (slj.kept bel2) sl2 (by rw [← hLX]; omega)
            obtain ⟨a2, cap2, rfl, _⟩ := sl2
            clear bel2 slj hLX tl
            generalize (textB S).length = LT at *
            go_wp2_with fail
            refine c3.mono ?_
            rintro e w3 ⟨v3, rfl, sl3, bel3⟩
            clear c3
            have hb3 := bnext hb2 bel3 hb2.size
            clear hb2 bel3 bel hwr
            go_wp2
            go_roundw
            case rel =>
              refine ⟨j + 1, by omega, by go_num, ?_, hb3, ?_⟩
              · rw [HL.out, ← HJ.out, ← List.append_assoc]; exact sl3
              · intro k hk
                rcases Nat.lt_succ_iff_lt_or_eq.1 hk with h | h
                · exact HA.out k h
                · rw [h, ← HJ.out]; omega
            case measure => simp [intOf]; omega
      · obtain rfl : j = len := by omega
        have HA : Hid (∀ k, k < j → (Sx k).size ≤ 1000) := hall
        obtain ⟨av, cv, rfl, sp⟩ := slj
        have slj : Sl wr (.slice av (numB n ++ layT Sx j).length cv) (numB n ++ layT Sx j) := ⟨av, cv, rfl, sp⟩
        have hXL : (numB n ++ layT Sx j).length ≤ 61000 := by rw [List.length_append]; omega
        clear sp hlay hall hlt
        have slb : Sl wr (.slice ab lenb capb) Z := HB.out.kept bel
        have c2 := join2_any wr _ _ _ _ slj slb (by rw [HBL.out]; omega)
        have hsum : ((numB n ++ layT Sx j) ++ Z).length ≤ 200000000000000 := by rw [List.length_append, HBL.out]; omega
        clear slj slb
        generalize (numB n ++ layT Sx j).length = LX at *
        go_wp2_with fail
        refine c2.mono ?_
        rintro e w2 ⟨v2, rfl, sl2, bel2⟩
        clear c2
        have B2 := bnext bel bel2 hsz
        have hw2 := hw.below B2 hp
        have c3 := new_any v2 _ w2 hw2 sl2 hsum
        clear hsum sl2 bel2 hXL
        go_wp2_with fail
        refine c3.mono ?_
        rintro e w3 ⟨g, k, rfl, hg1, hg2, hs, rd3, bel3⟩
        clear c3
        have B3 := bnext B2 bel3 B2.size
        have HG : Hid (w.heap.size ≤ g) := Nat.le_trans B2.size hg1
        have hw3 := hw.below B3 hp
        rw [List.append_assoc] at rd3
        have c4 := num_any g k _ n w3 hw3 rd3
        have eN := na_num n n (layT Sx j ++ Z) hl0 (Int.le_refl _)
        rw [eN.1, eN.2.1, eN.2.2, ← numB_len n, Int.toNat_natCast, List.drop_left] at c4
        clear eN rd3 bel3 bel hwr hw2 hs hg1 hg2 B2 hl0 hsz nl8
        go_wp2_with fail
        refine c4.mono ?_
        rintro e w4 ⟨rfl, rd4, off4⟩
        clear c4
        have B4 : Below w.heap.size w w4 := B3.trans (off4.below HG.out)
        clear off4 B3 hw3
        go_wp2
        go_loopw [10] (fun i wr => ∃ m : Nat, m ≤ j ∧ i = .int .i64 m ∧ Rd wr g k (restT Sx j m ++ Z) 0 ∧ Below w.heap.size w wr) (fun i _ => j - (intOf i).toNat)
        case atStart => exact ⟨0, by omega, rfl, by rw [restT_zero]; exact rd4, B4⟩
        case round =>
          clear rd4 B4
          obtain ⟨m, hm, rfl, rdm, bel⟩ := hrel
          have hwr := hw.below bel hp
          by_cases hlt : m < j
          · rcases HS.out with h0 | ⟨b, off, rfl, hcells⟩
            · omega
            · obtain ⟨hc, hsm⟩ := hcells m hlt
              have hcr : wr.cell? ⟨b, off + m, none⟩ = some (.string (Sx m)) := (bel.cell (p := ⟨b, off + m, none⟩) (World.block_lt_of_cell? _ _ hc)).trans hc
              have hbg : b ≠ g := by have h1 := World.block_lt_of_cell? _ _ hc; have h2 := HG.out; simp at h1; omega
              have hs1 := HA.out m hlt
              rw [restT_succ Sx j m hlt, List.append_assoc] at rdm
              have c5 := text_any g k _ ((Sx m).size : Int) wr.drew hwr rdm
              obtain ⟨e1, e2, e3⟩ := tx_text (Sx m) ((Sx m).size : Int) (restT Sx j (m + 1) ++ Z) (by omega) (Int.le_refl _)
              rw [e1, e2, e3, strB_sb] at c5
              clear e1 e2 e3 hc hcells rdm hwr
              generalize Sx m = S at *
              have hm0 : (0 : Int) ≤ (m : Int) := by omega
              have hm1 : (m : Int) < (j : Int) := by omega
              go_wp2
              go_region_held3 (fun w' => w'.cell? ⟨b, off + m, none⟩ = some (.string S)) (first | exact hcr | exact hcr5) (first | (go_at_call 19; refine c5.mono ?_; rintro e w5 ⟨rfl, rd5, off5⟩; have hcr5 : w5.cell? ⟨b, off + m, none⟩ = some (.string S) := (off5.cell (p := ⟨b, off + m, none⟩) hbg).trans hcr))
              all_goals
                have hb5 : Below w.heap.size w w5 := (bel.drew).trans (off5.below HG.out)
                clear c5 hcr hcr5 off5 bel
                go_wp2
                go_roundw
                case rel => exact ⟨m + 1, by omega, by go_num, rd5, hb5⟩
                case measure => simp [intOf]; omega
          · obtain rfl : m = j := by omega
            rw [restT_end, List.nil_append] at rdm
            have HC : Hid (∀ w', Below w.heap.size w w' → (convert 25 9 (.slice ab lenb capb)).run Tryd.prog w' = .ok (.string (strB Z)) w') := fun w' hb => (HB.out.kept hb).conv
            have hc0 := HC.out wr.drew bel.drew
            have d1 := err_any g k Z 0 wr.drew rdm
            have d2 := left_any g k Z 0 wr.drew rdm
            have d3 := raw_any g k Z lenb wr.drew rdm
            have hE : raE Z lenb = 0 := by unfold raE; rw [if_neg (by omega), if_neg (by rw [HBL.out]; omega)]
            have hN : raN Z lenb = lenb := by unfold raN; rw [if_pos hE]; rfl
            rw [hE, hN] at d3
            rw [← HBL.out, List.take_length, List.drop_length, HBL.out] at d3
            rw [HBL.out] at d2
            have HD : Hid (dnE [] 0 = 0) := (by decide : dnE [] 0 = 0)
            clear hE hN hlt
            go_wp2
            go_region_held3 (fun w' => (convert 25 9 (.slice ab lenb capb)).run Tryd.prog w' = .ok (.string (strB Z)) w') (first | exact hc0 | exact hc5 | exact hc6)
              (first
                | (go_at_call 25; refine d1.mono ?_; rintro e w5 ⟨rfl, e5⟩; subst e5)
                | (go_at_call 24; refine d2.mono ?_; rintro e w5 ⟨rfl, e5⟩; subst e5)
                | (go_at_call 21; refine d3.mono ?_; rintro e w5 ⟨rfl, rd5, off5⟩; have hb5 : Below w.heap.size w w5 := (bel.drew).trans (off5.below HG.out); have hc5 := HC.out w5 hb5)
                | (go_at_call 26; refine (done_any g k [] 0 _ rd5).mono ?_; rintro e w6 ⟨e7, e6⟩; rw [HD.out] at e7; subst e7; subst e6)
                | (go_at_call 8; refine (awake_any _ (hw.below hb5 hp)).mono ?_; rintro e w6 ⟨rfl, bel6⟩; have hb6 := bnext hb5 bel6 hb5.size; have hc6 := HC.out w6 hb6))
            all_goals
              go_wp2
              go_ret
              exact ⟨rfl, hb6⟩
  · go_enter Tryd.func5, Tryd.ntmps5
    by_cases h1 : n < 0
    · go_wp2_with (go_at_call 8; refine (awake_any _ hw).mono ?_; rintro e w' ⟨rfl, hbel⟩)
      go_ret
      exact ⟨rfl, by assumption⟩
    · have hd1 : decide (n < 0) = false := by simpa using h1
      by_cases h2 : 4611686018427387903 < n
      · go_wp2_with (go_at_call 8; refine (awake_any _ hw).mono ?_; rintro e w' ⟨rfl, hbel⟩)
        go_ret
        exact ⟨rfl, by assumption⟩
      · have hd2 : decide (4611686018427387903 < n) = false := by simpa using h2
        have h3 : 60 < len := by omega
        go_wp2_with (go_at_call 8; refine (awake_any _ hw).mono ?_; rintro e w' ⟨rfl, hbel⟩)
        go_ret
        exact ⟨rfl, by assumption⟩

theorem contract (H : Type) (enc : TypeId × Value → H) (W : World) (base : Nat) (args : Array Value) (ds gs : List (DataW H)) (before : List MemPlace)
    (hval : ∀ (j : Nat) t v, Tryd.f5.params[j]? = some t → args[j]? = some v → Value.okWide Tryd.prog W .any base t v)
    (hW : DataW.Whole enc Tryd.prog Tryd.f5.params.toList Rows.fieldBackSpec.vars false W args.toList ds gs before) (hL : laidMetH Tryd.prog Rows.fieldBackRow.laid W)
    (hsz0 : (DataW.weightsEach Tryd.prog (Tryd.f5.params.toList ++ Rows.fieldBackSpec.plain.varTypes Tryd.prog) (ds ++ gs)).all (· ≤ reachBytes) = true) :
    Calls Tryd.prog 5 args W fun e W' => ∃ v, e = .returned v ∧ Rows.fieldBackSpec.post enc Tryd.prog Tryd.f5 false true false false W args v W' := by
  have hW' := hW
  obtain ⟨p, q, hA0, hV, rfl, hfz, hnd⟩ := hW
  have hA : DataW.TrodAll enc Tryd.prog W 0 (fun _ => true) true Tryd.f5.params.toList args.toList ds p := hA0
  rw [Tryd.params5] at hA hval hsz0
  obtain ⟨v0, vs0, d0, ds0, p0, q0, hargs, rfl, rfl, h0, r0⟩ := trodAll_cons hA
  obtain ⟨v1, vs1, d1, ds1, p1, q1, rfl, rfl, rfl, h1, r1⟩ := trodAll_cons r0
  obtain ⟨v2, vs2, d2, ds2, p2, q2, rfl, rfl, rfl, h2, r2⟩ := trodAll_cons r1
  obtain ⟨rfl, rfl, rfl⟩ := trodAll_nil r2
  obtain rfl : args = #[v0, v1, v2] := by cases args; simp_all
  obtain ⟨rfl, rfl⟩ := trodVars_none hV
  have hsz : (DataW.weightsEach Tryd.prog [3, 22, 25] [d0, d1, d2]).all (· ≤ reachBytes) = true := hsz0
  obtain ⟨a0, rfl, rfl, rfl, w0⟩ := open_int Tryd.underlying3 (hval 0 3 v0 rfl rfl) h0
  have k1 := h1
  have lt1 : ∀ x ∈ p1, x.block < W.heap.size := by obtain ⟨m, hm⟩ := k1; exact DataW.trod_lt m _ _ _ hm
  obtain ⟨a1, len1, cap1, Sx1, rfl, w1⟩ := strs_open (hval 1 22 v1 rfl rfl) h1
  have k2 := h2
  have lt2 : ∀ x ∈ p2, x.block < W.heap.size := by obtain ⟨m, hm⟩ := k2; exact DataW.trod_lt m _ _ _ hm
  obtain ⟨a2, len2, cap2, z2, rfl, w2⟩ := bytes_open 2 (hval 2 25 v2 rfl rfl) h2 hsz rfl rfl
  clear hA0
  refine (walk a0 a1 len1 cap1 Sx1 a2 len2 cap2 z2 W (wid_of hL) w0 w1 w2).mono fun e W' ⟨he, bel⟩ => ?_
  subst he
  exact ⟨_, rfl, _, _, _, [], _, [], hW', trodAll_mk1 (shut_bool Tryd.underlying4 _), (trodAll_cons_mk (shut_int Tryd.underlying3 w0) (trodAll_cons_mk (Below.trod laidOut (by kernel_rfl) (of_decide_eq_true (by kernel_rfl)) k1 bel lt1) (trodAll_cons_mk (Below.trod laidOut (by kernel_rfl) (of_decide_eq_true (by kernel_rfl)) k2 bel lt2) trodAll_mk0))), rfl, bel.frame _, fun h => by cases h⟩

theorem laid_met (os : Os) : laidMet Tryd.prog Rows.fieldBackRow.laid (({ World.holding Tryd.prog os ⟨#[], #[], []⟩ with heap := (World.holding Tryd.prog os ⟨#[], #[], []⟩).heap.modify 0 fun
      | .cells _ t frozen => .cells #[.int .i64 1, .int .i64 2, .int .i64 4, .int .i64 8] t frozen
      | o => o } : World).forCall (fun _ _ => 0) ⟨#[], #[.int .i64 0, .slice none 0 0, .slice none 0 0], []⟩).memory :=
  laidMet_of_run' 8 (by kernel_rfl) (by kernel_rfl)
theorem reads (os : Os) {H : Type} (enc : TypeId × Value → H) : ∃ places, DataW.whole enc Tryd.prog (({ World.holding Tryd.prog os ⟨#[], #[], []⟩ with heap := (World.holding Tryd.prog os ⟨#[], #[], []⟩).heap.modify 0 fun
      | .cells _ t frozen => .cells #[.int .i64 1, .int .i64 2, .int .i64 4, .int .i64 8] t frozen
      | o => o } : World).forCall (fun _ _ => 0) ⟨#[], #[.int .i64 0, .slice none 0 0, .slice none 0 0], []⟩).memory Tryd.f5.params.toList Rows.fieldBackSpec.vars false #[Value.int .i64 0, .slice none 0 0, .slice none 0 0].toList 8 = some ([.lit (.int .i64 0), .nil, .nil], [], places) :=
  ⟨[], by kernel_rfl⟩

set_option maxRecDepth 100000 in
theorem lifted (os : Os) (started : os.Started) (H : Type) (enc : TypeId × Value → H) (F : Stop.Interp) :
    ReturnsInHanded {} Tryd.checked os 5 .any ((OpenSpec.ofChange Rows.fieldBackSpec).preRow enc Tryd.prog Tryd.f5 Rows.fieldBackRow.domain false Rows.fieldBackRow.laid) (((OpenSpec.ofChange Rows.fieldBackSpec).at F).post enc Tryd.prog Tryd.f5 false true false false) := by
  obtain ⟨places, hx⟩ := reads os enc
  refine returnsInHanded_of_row (C := Tryd.checked) (s := OpenSpec.ofChange Rows.fieldBackSpec) own started (by kernel_rfl) Tryd.func5
    (witness_row_at (enc := enc) (C := Tryd.checked) false ({ World.holding Tryd.prog os ⟨#[], #[], []⟩ with heap := (World.holding Tryd.prog os ⟨#[], #[], []⟩).heap.modify 0 fun
      | .cells _ t frozen => .cells #[.int .i64 1, .int .i64 2, .int .i64 4, .int .i64 8] t frozen
      | o => o } : World) #[.int .i64 0, .slice none 0 0, .slice none 0 0] rfl (by kernel_rfl) (by kernel_rfl) (by kernel_rfl)
      (OpenSpec.preRow_of_cond 8 hx (by kernel_rfl) (fun k hk => by cases hk) (by kernel_rfl) (laid_met os))) ?_
  intro W base args ds gs before hval hW _ _ hsz hL _ _
  exact contract H enc W base args ds gs before hval hW hL hsz

theorem said : Rows.FieldBackSaid :=
  OpenClaim.holds_of_cond 5 Tryd.f5 rfl rfl rfl rfl rfl rfl rfl ⟨rfl, rfl, rfl, rfl, rfl⟩ rfl rfl rfl rfl rfl (by kernel_rfl) Tryd.func5 (by kernel_rfl)
    (of_decide_eq_true (by kernel_rfl)) (by unfold Func.isWrapper; first | (rw [if_pos (by decide +kernel)]; kernel_rfl) | (rw [if_neg (by decide +kernel)]; exact ⟨rfl, rfl⟩))
    (fun os started H enc _ F => by rw [OpenClaim.pre_eq_preRow]; exact lifted os started H enc F)

theorem plain (f : FuncId) (fn : Func) (hf : Tryd.pinned.checked.prog.funcNamed "sumpter/sumpterlaw02.FieldBack" = some f) (hfn : Tryd.pinned.checked.prog.funcs[f]? = some fn) :
    false = Tryd.pinned.checked.prog.looks [] ∧ ∀ (j : Nat) t, fn.params[j]? = some t → Tryd.pinned.checked.prog.wantsStandIn t = false := by
  obtain rfl : f = 5 := Option.some.inj ((show Tryd.prog.funcNamed "sumpter/sumpterlaw02.FieldBack" = some 5 by kernel_rfl).symm.trans hf) |>.symm
  obtain rfl : fn = Tryd.f5 := (Option.some.inj (Tryd.func5.symm.trans hfn)).symm
  refine ⟨by kernel_rfl, fun j t ht => ?_⟩
  rw [Tryd.params5] at ht
  have hm : t ∈ [3, 22, 25] := by simpa using Array.mem_of_getElem? ht
  have hall : ([3, 22, 25].all fun u => !Tryd.prog.wantsStandIn u) = true := by kernel_rfl
  exact (show Tryd.prog.wantsStandIn t = false by simpa using List.all_eq_true.1 hall t hm)
end Go.Proofs.YtmlnocjljhhmdaaDoor.fieldBack

namespace Go.Proofs.YtmlnocjljhhmdaaDoor
/-- The card of FieldBack. -/
theorem fieldBack_card : Rows.FieldBackCardSaid :=
  Claim7.holds_tied_plain_at .later [] _ _ _ _ fieldBack.said (fun _ h => by cases h) (by kernel_rfl) (fun _ h => by cases h) fieldBack_row_tie rfl ⟨rfl, rfl⟩ (by kernel_rfl) rfl fieldBack.plain (by kernel_rfl)
#print axioms fieldBack_card
end Go.Proofs.YtmlnocjljhhmdaaDoor
