/-
  VarintBack answers true for every number and whatever bytes behind, and nothing that was there is changed; the package-level table of widths starts as the program's text lays it (the card ties it).
-/
import Derived.Test.YtidgmgebpancmaaDoorFrame
import Derived.Test.YtidgmgebpancmaaDoorPutGet
import Derived.Laws.AppendOwnNone
namespace Go.Proofs.YtidgmgebpancmaaDoor.varintBack
open Go.ChangeShapes Go.WideShapes Go.ChangeAt Go.RowKit

theorem info5 : (Tryd.prog.info? 5).map (fun i => (i.zero, i.size, i.bytes)) = some (some (.int .u8 0), 1, 1) := by kernel_rfl

theorem lenOf_le (n : Int) (W : Nat) (hW : IsW W) (h1 : 0 ≤ n) (h2 : n < lim W) : lenOf n ≤ W := by
  rcases hW with rfl | rfl | rfl | rfl
  all_goals
    simp only [lim] at h2
    rcases lenOf_cases n with h | h | h | h | h | h <;> omega

/-- A slice that owns bytes, as the walks of Get ask for it. -/
theorem row_owned {w : World} {base n : Nat} {v : Value} {xs : List Int} (h : w.ownsRow base 5 1 v n (xs.map (Value.int .u8))) (hb : ∀ i, 0 ≤ xs.getD i 0 ∧ xs.getD i 0 < 256) :
    ∃ a cap, v = .slice a n cap ∧ Row w a n cap xs := by
  have hl := h.1
  rcases h.2 with ⟨rfl, rfl⟩ | ⟨g, cap, cur, rfl, hg, hh, hc, hm, hs, ht⟩
  · exact ⟨none, 0, rfl, .inl rfl⟩
  · simp at hl ht
    refine ⟨_, cap, rfl, ?_⟩
    rcases Nat.eq_zero_or_pos n with h0 | hp
    · exact .inl h0
    · refine .inr ⟨hp, g, 0, rfl, hc, hm, fun i hi => ?_, hb⟩
      have e : cur[i]? = some (.int .u8 (xs.getD i 0)) := by
        have := congrArg (·[i]?) ht
        simp only [List.getElem?_take, List.getElem?_map] at this
        rw [if_pos hi] at this
        have hi' : i < xs.length := by omega
        simpa [List.getElem?_eq_getElem hi', List.getD] using this
      unfold World.cell?; rw [hh]; simpa using e

theorem getD_append (xs ys : List Int) (i : Nat) (h : i < xs.length) : (xs ++ ys).getD i 0 = xs.getD i 0 := by
  simp [List.getD, List.getElem?_append_left h]

theorem bytes_append (xs ys : List Int) (hx : ∀ i, 0 ≤ xs.getD i 0 ∧ xs.getD i 0 < 256) (hy : ∀ i, 0 ≤ ys.getD i 0 ∧ ys.getD i 0 < 256) : ∀ i, 0 ≤ (xs ++ ys).getD i 0 ∧ (xs ++ ys).getD i 0 < 256 := by
  intro i
  by_cases h : i < xs.length
  · rw [getD_append xs ys i h]; exact hx i
  · have := hy (i - xs.length)
    simp only [List.getD, List.getElem?_append_right (show xs.length ≤ i by omega)] at this ⊢
    exact this

theorem bytes_take (xs : List Int) (m : Nat) (hx : ∀ i, 0 ≤ xs.getD i 0 ∧ xs.getD i 0 < 256) : ∀ i, 0 ≤ (xs.take m).getD i 0 ∧ (xs.take m).getD i 0 < 256 := by
  intro i
  have := hx i
  by_cases h : i < m
  · simpa [List.getD, List.getElem?_take, h] using this
  · simp [List.getD, List.getElem?_take, h]

theorem own_base {w : World} {base : Nat} {e : TypeId} {size : Nat} {v : Value} {n : Nat} {xs : List Value} (h : w.ownsRow base e size v n xs) : ∀ k, v.ownBlock = some k → base ≤ k := by
  rcases h.2 with ⟨rfl, _⟩ | ⟨g, cap, cur, rfl, hg, _⟩
  · intro k hk; cases hk
  · intro k hk; cases hk; exact hg

/-- What Get answers for a number's bytes with whatever behind. -/
theorem get_put (n : Int) (W m : Nat) (ys : List Int) (hI : IsW W) (h1 : 0 ≤ n) (h2 : n < lim W) : getN (W + m) (pb n W ++ ys) = n ∧ getU (W + m) (pb n W ++ ys) = W ∧ getE (W + m) (pb n W ++ ys) = 0 := by
  have hpos : 0 < W := by rcases hI with rfl | rfl | rfl | rfl <;> omega
  have hl := pb_len n W hI
  have hk : gk (pb n W ++ ys) = gk (pb n W) := by unfold gk; rw [getD_append _ _ _ (by omega)]
  have hw := pb_gk n W hI h1 h2
  have hg : gval (pb n W ++ ys) (W - 1) = n := by
    rw [gval_take (pb n W ++ ys) (pb n W) (W - 1) (fun i hi => getD_append _ _ _ (by omega))]
    exact pb_gval n W hI h1 h2
  unfold getN getU getE
  rw [hk, hw, if_neg (by omega), if_neg (by omega), if_neg (by omega), hg]
  exact ⟨rfl, rfl, rfl⟩

theorem sh_put (n : Int) (W : Nat) (hI : IsW W) (h1 : 0 ≤ n) (h2 : n < lim W) : shE W (pb n W) = if (W : Int) ≤ lenOf n then 0 else 4 := by
  obtain ⟨e1, e2, e3⟩ := get_put n W 0 [] hI h1 h2
  rw [List.append_nil, Nat.add_zero] at e1 e2 e3
  unfold shE
  rw [e1, e2, e3, if_pos rfl]

/-- The cells of a row, as an append asks for them. -/
theorem news_of {w : World} {b off : Nat} {xs : List Int} {m : Nat} (hm : m ≤ xs.length) (hc : ∀ i, i < m → w.cell? ⟨b, off + i, none⟩ = some (.int .u8 (xs.getD i 0))) :
    ∀ j u, ((xs.take m).map (Value.int .u8))[j]? = some u → w.cell? ((⟨b, off, none⟩ : Addr).add j) = some u := by
  intro j u hj
  rw [List.getElem?_map] at hj
  by_cases h : j < m
  · rw [List.getElem?_take, if_pos h, List.getElem?_eq_getElem (by omega)] at hj
    simp only [Option.map_some, Option.some.injEq] at hj
    rw [Addr.add_lit, hc j h, ← hj]
    simp [List.getD, List.getElem?_eq_getElem (show j < xs.length by omega)]
  · rw [List.getElem?_take, if_neg h] at hj
    simp at hj

theorem news_at {w : World} {x : Addr} {xs : List Int} {m : Nat} (hm : m ≤ xs.length) (hc : ∀ i, i < m → w.cell? (x.add i) = some (.int .u8 (xs.getD i 0))) :
    ∀ j u, ((xs.take m).map (Value.int .u8))[j]? = some u → w.cell? (x.add j) = some u := by
  intro j u hj
  rw [List.getElem?_map] at hj
  by_cases h : j < m
  · rw [List.getElem?_take, if_pos h, List.getElem?_eq_getElem (by omega)] at hj
    simp only [Option.map_some, Option.some.injEq] at hj
    rw [hc j h, ← hj]
    simp [List.getD, List.getElem?_eq_getElem (show j < xs.length by omega)]
  · rw [List.getElem?_take, if_neg h] at hj
    simp at hj

theorem ints_one (xs : List Int) : ∀ u ∈ xs.map (Value.int .u8), u.oneCell' = true := by
  intro u hu
  simp only [List.mem_map] at hu
  obtain ⟨z, _, rfl⟩ := hu
  rfl

set_option maxHeartbeats 2000000 in
theorem walk (n : Int) (a : Option Addr) (len cap : Nat) (zs : List Int) (w : World) (hw : Wid w) (_wn : (Lit.int .i64 n).wf = true) (hb : Bytes w a len cap zs) :
    Calls Tryd.prog 6 #[.int .i64 n, .slice a len cap] w fun e w' => e = .returned (.bool true) ∧ Below w.heap.size w w' := by
  have hp := hw.pos
  have HB : Hid (Bytes w a len cap zs) := hb
  clear hb
  obtain ⟨i0, hi, hz0, hz1, hz2⟩ := info_parts info5
  go_enter Tryd.func6, Tryd.ntmps6
  go_wp2
  go_loopw [5] (fun x wr => ∃ W : Nat, (W = 1 ∨ W = 2 ∨ W = 4 ∨ W = 8 ∨ W = 16) ∧ x = .int .i64 W ∧ Below w.heap.size w wr) (fun x _ => 16 - (intOf x).toNat)
  case atStart => exact ⟨1, .inl rfl, rfl, Below.refl _ _⟩
  case round =>
    obtain ⟨W, hW, rfl, hbel⟩ := hrel
    have wr1 := hw.below hbel hp
    by_cases h16 : W = 16
    · subst h16
      go_wp2_with (go_at_call 11; refine (awake_any _ wr1).mono ?_; rintro e w5 ⟨rfl, b5⟩)
      go_ret
      exact ⟨rfl, hbel.trans (Below.mono (by assumption) hbel.size)⟩
    · have hI : IsW W := by unfold IsW; omega
      have hW8 : W ≤ 8 := by omega
      have hWp : 0 < W := by omega
      by_cases hr : 0 ≤ n ∧ n < lim W
      · have c1 := putIn_ok n W wr hI wr1 hr.1 hr.2
        have hl := pb_len n W hI
        have R1 := row_put n W wr hI hr.1 hr.2
        have hcell : ∀ i, i < W → ((wr.alloc (.cells (pbA n W) 5)).alloc (.cells #[] 5)).cell? ⟨wr.heap.size, 0 + i, none⟩ = some (.int .u8 ((pb n W).getD i 0)) := by
          rcases R1 with h | ⟨_, b, off, e, _, _, hc, _⟩
          · omega
          · cases e
            intro i hx
            rw [World.cell?_alloc_past _ _ _ (by simp)]
            exact hc i hx
        have hnews := news_of (m := W) (by omega) hcell
        rw [List.take_of_length_le (by omega)] at hnews
        have hown0 : ((wr.alloc (.cells (pbA n W) 5)).alloc (.cells #[] 5)).ownsRow (wr.heap.size + 1) 5 1 (.slice (some ⟨wr.heap.size + 1, 0, none⟩) 0 0) 0 [] :=
          ⟨rfl, .inr ⟨wr.heap.size + 1, 0, #[], rfl, Nat.le_refl _, by have := heap_alloc_new (wr.alloc (.cells (pbA n W) 5)) (.cells #[] 5); simpa using this, Nat.le_refl _, by omega, rfl, rfl⟩⟩
        clear hcell
        go_wp2_with fail
        refine c1.mono ?_
        rintro e w1 ⟨rfl, rfl⟩
        clear c1
        go_wp2_with (at_builtin; refine wpList_append_own _ rfl (.tmp 30) (.tmp 31) 25 rfl (wr.heap.size + 1) 5 i0 (.int .u8 0) 1 1 Tryd.underlying25 hi hz0 hz1 hz2 rfl (by decide) _ 0 [] rfl hown0 ⟨wr.heap.size, 0, none⟩ W W ((pb n W).map (Value.int .u8)) rfl (by rw [List.length_map, hl, Nat.mul_one]) hnews (ints_one _) (by unfold maxLen; omega) (by omega) (by simp) ?_)
        intro v3 w3 hown3 hgrow3 _
        try simp only [Nat.zero_add, List.nil_append] at hown3
        have B3 : Below (wr.heap.size + 1) ((wr.alloc (.cells (pbA n W) 5)).alloc (.cells #[] 5)) w3 := (Below.refl _ _).grown hgrow3 (by simp) (own_base hown0)
        have bel2 : Below w.heap.size w ((wr.alloc (.cells (pbA n W) 5)).alloc (.cells #[] 5)) := (hbel.alloc hbel.size _).alloc (by have := hbel.size; simp; omega) _
        have bel3 : Below w.heap.size w w3 := bel2.trans (B3.mono (by have := hbel.size; omega))
        have Rb : Row w3 (some ⟨wr.heap.size, 0, none⟩) W W (pb n W) := R1.below (B := wr.heap.size + 1) (((Below.refl _ _).alloc (by simp) _).trans B3) (fun b e => by cases e; simp)
        have hsz3 : wr.heap.size + 1 ≤ w3.heap.size := by have := B3.size; simp at this; omega
        have hB3 := HB.out.below bel3
        have hob3 := own_base hown3
        clear hown0 hnews R1 bel2 hgrow3 B3
        obtain ⟨hz, hzl, hlc, hcm, hB3⟩ := hB3
        rcases hB3 with ⟨rfl, rfl⟩ | ⟨x, rfl, hxc⟩
        · obtain rfl : len = 0 := by omega
          obtain ⟨a4, cap4, rfl, R4⟩ := row_owned hown3 (pb_bytes n W hI hr.1 hr.2)
          have wd4 := hw.below bel3 hp
          have G := get_any _ _ _ _ _ wd4 R4
          obtain ⟨e1, e2, e3⟩ := get_put n W 0 [] hI hr.1 hr.2
          rw [List.append_nil, Nat.add_zero] at e1 e2 e3
          rw [e1, e2, e3] at G
          have S := shortest_any _ _ _ _ _ wd4 Rb
          rw [sh_put n W hI hr.1 hr.2] at S
          have L := len_any n _ wd4
          have hle := lenOf_le n W hI hr.1 hr.2
          clear e1 e2 e3 R4 Rb hz hob3 hsz3 hl wr1
          generalize shN W (pb n W) = q1 at S
          generalize shU W (pb n W) = q2 at S
          obtain ⟨y, hy⟩ : ∃ y, lenOf n = y := ⟨_, rfl⟩
          rw [hy] at L hle S
          clear hy
          by_cases hq : (W : Int) ≤ y
          · obtain rfl : y = W := by omega
            rw [if_pos hq] at S
            go_wp2_with (first | (at_builtin; refine wpList_append_own_none rfl (.tmp 32) (.tmp 33) 25 rfl (wr.heap.size + 1) 5 i0 1 Tryd.underlying25 hi _ W _ rfl hown3 rfl ?_) | (go_at_call 16; refine G.mono ?_; rintro e w5 ⟨rfl, rfl⟩) | (go_at_call 18; refine S.mono ?_; rintro e w5 ⟨rfl, rfl⟩) | (go_at_call 9; refine L.mono ?_; rintro e w5 ⟨rfl, rfl⟩))
            go_roundw
            case rel => exact ⟨2 * W, by omega, rfl, bel3⟩
            case measure => simp [intOf]; omega
          · have hq' : ((W : Int) == y) = false := by simp; omega
            rw [if_neg hq] at S
            go_wp2_with (first | (at_builtin; refine wpList_append_own_none rfl (.tmp 32) (.tmp 33) 25 rfl (wr.heap.size + 1) 5 i0 1 Tryd.underlying25 hi _ W _ rfl hown3 rfl ?_) | (go_at_call 16; refine G.mono ?_; rintro e w5 ⟨rfl, rfl⟩) | (go_at_call 18; refine S.mono ?_; rintro e w5 ⟨rfl, rfl⟩) | (go_at_call 9; refine L.mono ?_; rintro e w5 ⟨rfl, rfl⟩))
            go_roundw
            case rel => exact ⟨2 * W, by omega, rfl, bel3⟩
            case measure => simp [intOf]; omega
        · have hnews2 := news_at (m := len) (by omega) (fun i hx => hxc i (by omega))
          have hlt : (zs.take len).length = len := by rw [List.length_take]; omega
          clear hxc
          go_wp2_with (at_builtin; refine wpList_append_own _ rfl (.tmp 32) (.tmp 33) 25 rfl (wr.heap.size + 1) 5 i0 (.int .u8 0) 1 1 Tryd.underlying25 hi hz0 hz1 hz2 rfl (by decide) _ W _ rfl hown3 x len cap ((zs.take len).map (Value.int .u8)) rfl (by rw [List.length_map, hlt, Nat.mul_one]) hnews2 (ints_one _) (by unfold maxLen; omega) (by omega) hsz3 ?_)
          intro v4 w4 hown4 hgrow4 _
          rw [← List.map_take, ← List.map_append] at hown4
          have B4 : Below (wr.heap.size + 1) w3 w4 := (Below.refl _ _).grown hgrow4 hsz3 hob3
          have bel4 : Below w.heap.size w w4 := bel3.trans (B4.mono (by have := hbel.size; omega))
          obtain ⟨a4, cap4, rfl, R4⟩ := row_owned hown4 (bytes_append _ _ (pb_bytes n W hI hr.1 hr.2) (bytes_take _ _ hz))
          have Rb4 := Rb.below B4 (fun b e => by cases e; simp)
          have wd4 := hw.below bel4 hp
          have G := get_any _ _ _ _ _ wd4 R4
          obtain ⟨e1, e2, e3⟩ := get_put n W len (zs.take len) hI hr.1 hr.2
          rw [e1, e2, e3] at G
          have S := shortest_any _ _ _ _ _ wd4 Rb4
          rw [sh_put n W hI hr.1 hr.2] at S
          have L := len_any n _ wd4
          have hle := lenOf_le n W hI hr.1 hr.2
          clear e1 e2 e3 R4 Rb4 Rb hown4 hown3 hgrow4 hnews2 hz bel3 B4 hob3 hsz3 hl wr1
          generalize shN W (pb n W) = q1 at S
          generalize shU W (pb n W) = q2 at S
          obtain ⟨y, hy⟩ : ∃ y, lenOf n = y := ⟨_, rfl⟩
          rw [hy] at L hle S
          clear hy
          by_cases hq : (W : Int) ≤ y
          · obtain rfl : y = W := by omega
            rw [if_pos hq] at S
            go_wp2_with (first | (go_at_call 16; refine G.mono ?_; rintro e w5 ⟨rfl, rfl⟩) | (go_at_call 18; refine S.mono ?_; rintro e w5 ⟨rfl, rfl⟩) | (go_at_call 9; refine L.mono ?_; rintro e w5 ⟨rfl, rfl⟩))
            go_roundw
            case rel => exact ⟨2 * W, by omega, rfl, bel4⟩
            case measure => simp [intOf]; omega
          · have hq' : ((W : Int) == y) = false := by simp; omega
            rw [if_neg hq] at S
            go_wp2_with (first | (go_at_call 16; refine G.mono ?_; rintro e w5 ⟨rfl, rfl⟩) | (go_at_call 18; refine S.mono ?_; rintro e w5 ⟨rfl, rfl⟩) | (go_at_call 9; refine L.mono ?_; rintro e w5 ⟨rfl, rfl⟩))
            go_roundw
            case rel => exact ⟨2 * W, by omega, rfl, bel4⟩
            case measure => simp [intOf]; omega
      · have c1 := putIn_range n W wr hI wr1 (by omega)
        go_wp2_with fail
        refine c1.mono ?_
        rintro e w1 ⟨rfl, rfl⟩
        clear c1
        go_wp2
        go_roundw
        case rel => exact ⟨2 * W, by omega, rfl, hbel⟩
        case measure => simp [intOf]; omega

theorem contract (H : Type) (enc : TypeId × Value → H) (W : World) (base : Nat) (args : Array Value) (ds gs : List (DataW H)) (before : List MemPlace)
    (hval : ∀ (j : Nat) t v, Tryd.f6.params[j]? = some t → args[j]? = some v → Value.okWide Tryd.prog W .any base t v)
    (hW : DataW.Whole enc Tryd.prog Tryd.f6.params.toList Rows.varintBackSpec.vars false W args.toList ds gs before) (hL : laidMetH Tryd.prog Rows.varintBackRow.laid W)
    (hsz0 : (DataW.weightsEach Tryd.prog (Tryd.f6.params.toList ++ Rows.varintBackSpec.plain.varTypes Tryd.prog) (ds ++ gs)).all (· ≤ reachBytes) = true) :
    Calls Tryd.prog 6 args W fun e W' => ∃ v, e = .returned v ∧ Rows.varintBackSpec.post enc Tryd.prog Tryd.f6 false true false false W args v W' := by
  have hW' := hW
  obtain ⟨p, q, hA0, hV, rfl, hfz, hnd⟩ := hW
  have hA : DataW.TrodAll enc Tryd.prog W 0 (fun _ => true) true Tryd.f6.params.toList args.toList ds p := hA0
  rw [Tryd.params6] at hA hval hsz0
  obtain ⟨v0, vs0, d0, ds0, p0, q0, hargs, rfl, rfl, h0, r0⟩ := trodAll_cons hA
  obtain ⟨v1, vs1, d1, ds1, p1, q1, rfl, rfl, rfl, h1, r1⟩ := trodAll_cons r0
  obtain ⟨rfl, rfl, rfl⟩ := trodAll_nil r1
  obtain rfl : args = #[v0, v1] := by cases args; simp_all
  obtain ⟨rfl, rfl⟩ := trodVars_none hV
  have hsz : (DataW.weightsEach Tryd.prog [3, 25] [d0, d1]).all (· ≤ reachBytes) = true := hsz0
  obtain ⟨a0, rfl, rfl, rfl, w0⟩ := open_int Tryd.underlying3 (hval 0 3 v0 rfl rfl) h0
  have k1 := h1
  have lt1 : ∀ x ∈ p1, x.block < W.heap.size := by obtain ⟨m, hm⟩ := k1; exact DataW.trod_lt m _ _ _ hm
  obtain ⟨a1, len1, cap1, z1, rfl, w1⟩ := bytes_open 1 (hval 1 25 v1 rfl rfl) h1 hsz rfl rfl
  clear hA0
  refine (walk a0 a1 len1 cap1 z1 W (wid_of hL) w0 w1).mono fun e W' ⟨he, bel⟩ => ?_
  subst he
  exact ⟨_, rfl, _, _, _, [], _, [], hW', trodAll_mk1 (shut_bool Tryd.underlying4 _), (trodAll_cons_mk (shut_int Tryd.underlying3 w0) (trodAll_cons_mk (Below.trod laidOut (by kernel_rfl) (of_decide_eq_true (by kernel_rfl)) k1 bel lt1) trodAll_mk0)), rfl, bel.frame _, fun h => by cases h⟩

theorem laid_met (os : Os) : laidMet Tryd.prog Rows.varintBackRow.laid (({ World.holding Tryd.prog os ⟨#[], #[], []⟩ with heap := (World.holding Tryd.prog os ⟨#[], #[], []⟩).heap.modify 0 fun
      | .cells _ t frozen => .cells #[.int .i64 1, .int .i64 2, .int .i64 4, .int .i64 8] t frozen
      | o => o } : World).forCall (fun _ _ => 0) ⟨#[], #[.int .i64 0, .slice none 0 0], []⟩).memory :=
  laidMet_of_run' 8 (by kernel_rfl) (by kernel_rfl)
theorem reads (os : Os) {H : Type} (enc : TypeId × Value → H) : ∃ places, DataW.whole enc Tryd.prog (({ World.holding Tryd.prog os ⟨#[], #[], []⟩ with heap := (World.holding Tryd.prog os ⟨#[], #[], []⟩).heap.modify 0 fun
      | .cells _ t frozen => .cells #[.int .i64 1, .int .i64 2, .int .i64 4, .int .i64 8] t frozen
      | o => o } : World).forCall (fun _ _ => 0) ⟨#[], #[.int .i64 0, .slice none 0 0], []⟩).memory Tryd.f6.params.toList Rows.varintBackSpec.vars false #[Value.int .i64 0, .slice none 0 0].toList 8 = some ([.lit (.int .i64 0), .nil], [], places) :=
  ⟨[], by kernel_rfl⟩

set_option maxRecDepth 100000 in
theorem lifted (os : Os) (started : os.Started) (H : Type) (enc : TypeId × Value → H) (F : Stop.Interp) :
    ReturnsInHanded {} Tryd.checked os 6 .any ((OpenSpec.ofChange Rows.varintBackSpec).preRow enc Tryd.prog Tryd.f6 Rows.varintBackRow.domain false Rows.varintBackRow.laid) (((OpenSpec.ofChange Rows.varintBackSpec).at F).post enc Tryd.prog Tryd.f6 false true false false) := by
  obtain ⟨places, hx⟩ := reads os enc
  refine returnsInHanded_of_row (C := Tryd.checked) (s := OpenSpec.ofChange Rows.varintBackSpec) own started (by kernel_rfl) Tryd.func6
    (witness_row_at (enc := enc) (C := Tryd.checked) false ({ World.holding Tryd.prog os ⟨#[], #[], []⟩ with heap := (World.holding Tryd.prog os ⟨#[], #[], []⟩).heap.modify 0 fun
      | .cells _ t frozen => .cells #[.int .i64 1, .int .i64 2, .int .i64 4, .int .i64 8] t frozen
      | o => o } : World) #[.int .i64 0, .slice none 0 0] rfl (by kernel_rfl) (by kernel_rfl) (by kernel_rfl)
      (OpenSpec.preRow_of_cond 8 hx (by kernel_rfl) (fun k hk => by cases hk) (by kernel_rfl) (laid_met os))) ?_
  intro W base args ds gs before hval hW _ _ hsz hL _ _
  exact contract H enc W base args ds gs before hval hW hL hsz

theorem said : Rows.VarintBackSaid :=
  OpenClaim.holds_of_cond 6 Tryd.f6 rfl rfl rfl rfl rfl rfl rfl ⟨rfl, rfl, rfl, rfl, rfl⟩ rfl rfl rfl rfl rfl (by kernel_rfl) Tryd.func6 (by kernel_rfl)
    (of_decide_eq_true (by kernel_rfl)) (by unfold Func.isWrapper; first | (rw [if_pos (by decide +kernel)]; kernel_rfl) | (rw [if_neg (by decide +kernel)]; exact ⟨rfl, rfl⟩))
    (fun os started H enc _ F => by rw [OpenClaim.pre_eq_preRow]; exact lifted os started H enc F)

theorem plain (f : FuncId) (fn : Func) (hf : Tryd.pinned.checked.prog.funcNamed "sumpter/sumpterlaw01.VarintBack" = some f) (hfn : Tryd.pinned.checked.prog.funcs[f]? = some fn) :
    false = Tryd.pinned.checked.prog.looks [] ∧ ∀ (j : Nat) t, fn.params[j]? = some t → Tryd.pinned.checked.prog.wantsStandIn t = false := by
  obtain rfl : f = 6 := Option.some.inj ((show Tryd.prog.funcNamed "sumpter/sumpterlaw01.VarintBack" = some 6 by kernel_rfl).symm.trans hf) |>.symm
  obtain rfl : fn = Tryd.f6 := (Option.some.inj (Tryd.func6.symm.trans hfn)).symm
  refine ⟨by kernel_rfl, fun j t ht => ?_⟩
  rw [Tryd.params6] at ht
  have hm : t ∈ [3, 25] := by simpa using Array.mem_of_getElem? ht
  have hall : ([3, 25].all fun u => !Tryd.prog.wantsStandIn u) = true := by kernel_rfl
  exact (show Tryd.prog.wantsStandIn t = false by simpa using List.all_eq_true.1 hall t hm)
end Go.Proofs.YtidgmgebpancmaaDoor.varintBack

namespace Go.Proofs.YtidgmgebpancmaaDoor
/-- The card of VarintBack. -/
theorem varintBack_card : Rows.VarintBackCardSaid :=
  Claim7.holds_tied_plain_at .later [] _ _ _ _ varintBack.said (fun _ h => by cases h) (by kernel_rfl) (fun _ h => by cases h) varintBack_row_tie rfl ⟨rfl, rfl⟩ (by kernel_rfl) rfl varintBack.plain (by kernel_rfl)
#print axioms varintBack_card
end Go.Proofs.YtidgmgebpancmaaDoor
