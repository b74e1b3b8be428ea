/-
  What slices.Grow of nil and slices.Concat answer: a slice of the call's own that holds the parts' bytes, one behind the other; nothing that was there is changed.
  What Reader.Num, Text, Raw and Byte answer and leave, for whatever bytes are left and whatever error the reader bears.
  What field.Num, field.Text, bytes.Clone and field.New answer, for every input; nothing that was there is changed. Condition: the package-level table of widths holds 1, 2, 4, 8.
-/
import Derived.Laws.AppendOwnNone
import Derived.Deep.DeepAppendWide
import Derived.Lib.AppendZerosOnto
import Derived.Lib.Walk
import Derived.Test.YtiollhmbdhepkaaGreatDoorYaf
namespace Go.Proofs.YtiollhmbdhepkaaGreatDoor.Fi
open Go.RowKit
set_option maxRecDepth 100000

theorem info5' : (Tryz.prog.info? 5).map (fun i => (i.zero, i.size, i.bytes)) = some (some (.int .u8 0), 1, 1) := by kernel_rfl

/-- A value that is a slice of the bytes xs. -/
def Sl (w : World) (v : Value) (xs : List Int) : Prop :=
  ∃ a cap, v = .slice a xs.length cap ∧ xs.length ≤ cap ∧ cap ≤ maxLen ∧ (a = none → cap = 0) ∧ Row w a xs.length cap xs

theorem Row.kept {w w' : World} {a : Option Addr} {len cap : Nat} {zs : List Int} (h : Row w a len cap zs) (hb : Below w.heap.size w w') : Row w' a len cap zs := by
  rcases h with h | ⟨hp, b, off, rfl, hlc, hm, hc, hz⟩
  · exact .inl h
  · exact .inr ⟨hp, b, off, rfl, hlc, hm, fun i hi => (hb.cell (p := ⟨b, off + i, none⟩) (World.block_lt_of_cell? _ _ (hc i hi))).trans (hc i hi), hz⟩

theorem Sl.kept {w w' : World} {v : Value} {xs : List Int} (h : Sl w v xs) (hb : Below w.heap.size w w') : Sl w' v xs := by
  obtain ⟨a, cap, e, h1, h2, h3, h4⟩ := h
  exact ⟨a, cap, e, h1, h2, h3, h4.kept hb⟩

theorem Row.bytes {w : World} {a : Option Addr} {cap : Nat} {xs : List Int} (h : Row w a xs.length cap xs) : ∀ i, 0 ≤ xs.getD i 0 ∧ xs.getD i 0 < 256 := by
  rcases h with h | ⟨_, _, _, _, _, _, _, hz⟩
  · obtain rfl := List.length_eq_zero_iff.1 h
    intro i
    simp
  · exact hz

theorem Sl.bytes {w : World} {v : Value} {xs : List Int} (h : Sl w v xs) : ∀ i, 0 ≤ xs.getD i 0 ∧ xs.getD i 0 < 256 := by
  obtain ⟨a, cap, e, h1, h2, h3, h4⟩ := h
  exact h4.bytes

theorem Sl.none (w : World) : Sl w (.slice .none 0 0) [] := ⟨.none, 0, rfl, Nat.le_refl _, by simp, fun _ => rfl, .inl rfl⟩

theorem own_base {w : World} {base : Nat} {e : TypeId} {size : Nat} {v : Value} {n : Nat} {xs : List Value} (h : w.ownsRow base e size v n xs) : ∀ k, v.ownBlock = some k → base ≤ k := by
  rcases h.2 with ⟨rfl, _⟩ | ⟨g, cap, cur, rfl, hg, _⟩
  · intro k hk; cases hk
  · intro k hk; cases hk; exact hg

/-- A slice that owns bytes is one. -/
theorem sl_owned {w : World} {base n : Nat} {v : Value} {xs : List Int} (h : w.ownsRow base 5 1 v n (xs.map (Value.int .u8))) (hb : ∀ i, 0 ≤ xs.getD i 0 ∧ xs.getD i 0 < 256) : Sl w v xs := by
  have hl := h.1
  simp at hl
  subst hl
  rcases h.2 with ⟨rfl, h0⟩ | ⟨g, cap, cur, rfl, hg, hh, hc, hm, hs, ht⟩
  · obtain rfl := List.length_eq_zero_iff.1 h0
    exact Sl.none w
  · simp at ht
    refine ⟨_, cap, rfl, hc, hm, fun e => (by cases e), ?_⟩
    rcases Nat.eq_zero_or_pos xs.length with h0 | hp
    · exact .inl h0
    · refine .inr ⟨hp, g, 0, rfl, hc, hm, fun i hi => ?_, hb⟩
      have e : cur[i]? = some (.int .u8 (xs.getD i 0)) := by
        have := congrArg (·[i]?) ht
        simp only [List.getElem?_take, List.getElem?_map] at this
        rw [if_pos hi] at this
        simpa [List.getElem?_eq_getElem hi, List.getD] using this
      unfold World.cell?; rw [hh]; simpa using e

theorem ints_one (xs : List Int) : ∀ u ∈ xs.map (Value.int .u8), u.oneCell' = true := by
  intro u hu
  simp only [List.mem_map] at hu
  obtain ⟨z, _, rfl⟩ := hu
  rfl

/-- The cells of a row, as an append asks for them. -/
theorem news_row {w : World} {x : Addr} {cap : Nat} {xs : List Int} (h : Row w (some x) xs.length cap xs) :
    ∀ j u, (xs.map (Value.int .u8))[j]? = some u → w.cell? (x.add j) = some u := by
  intro j u hj
  rw [List.getElem?_map] at hj
  by_cases hlt : j < xs.length
  · rw [List.getElem?_eq_getElem hlt] at hj
    simp only [Option.map_some, Option.some.injEq] at hj
    rcases h with h | ⟨_, b, off, e, _, _, hc, _⟩
    · omega
    · cases e
      rw [Addr.add_lit, hc j hlt, ← hj]
      simp [List.getD, List.getElem?_eq_getElem hlt]
  · rw [List.getElem?_eq_none (by omega)] at hj
    simp at hj

set_option maxHeartbeats 4000000 in
theorem grow_any (n : Nat) (w : World) (hbig : n ≤ 200000000000000) :
    Calls Tryz.prog 109 #[.slice none 0 0, .int .i64 n] w fun r w' => ∃ v, r = .returned v ∧ w'.ownsRow w.heap.size 5 1 v 0 [] ∧ Below w.heap.size w w' := by
  obtain ⟨i0, hi, hz0, hz1, hz2⟩ := info_parts info5'
  rcases Nat.eq_zero_or_pos n with rfl | hp
  · go_enter Tryz.func109, Tryz.ntmps109
    go_wp2
    go_ret
    exact ⟨_, rfl, World.ownsRow_nil _ _ _ _, Below.refl _ _⟩
  · have hrz : ∀ ty, (Builtin.append_ #[34, 3] ty #[.slice none 0 0, .int .i64 (n : Int)]).run Tryz.prog w =
      .ok (.slice (some ⟨w.heap.size, 0, none⟩) n (grownCap w n 0 5)) (w.drew.alloc (.cells (Builtin.zeroCells (Value.int .u8 0).cells n ++ Builtin.zeroCells (Value.int .u8 0).cells (grownCap w n 0 5 - n)) 5)) := fun ty => by
      have h := Lib.run_append_grow_zeros (P := Tryz.prog) w 34 3 ty 5 i0 (.int .u8 0) .i64 .i64 Tryz.underlying34 Tryz.underlying3 hi hz0 none 0 0 []
        (by rw [hz1]; exact run_firstCells_none w.drew 1 0 0 0) n hp (by omega) (by omega) (by omega) (by rw [hz2]; omega) (growslice_fits_wide (by omega) (by rw [hz2]; omega))
      simpa using h
    have hGn : n ≤ grownCap w n 0 5 := grownCap_ge w _ _ _
    have hGm := grownCap_le_maxLen w n 0 5 (by unfold maxLen; omega)
    obtain ⟨G, hG⟩ : ∃ G, G = grownCap w n 0 5 := ⟨_, rfl⟩
    rw [← hG] at hrz hGn hGm
    have hG63 : G ≤ 9223372036854775807 := by unfold maxLen at hGm; omega
    have HM : Hid (G ≤ maxLen) := hGm
    clear hG hGm
    go_enter Tryz.func109, Tryz.ntmps109
    go_wp2_with (at_builtin; refine Lib.wpList_append_run _ rfl _ _ _ _ rfl _ _ rfl rfl _ _ (hrz _) ?_)
    go_ret
    refine ⟨_, rfl, ?_, ?_⟩
    · exact World.ownsRow_made (base := w.heap.size) (e := 5) (size := 1) w.drew _ G (Nat.le_refl _) HM.out (by simp [size_zeroCells]; omega)
    · exact ((Below.refl _ w).alloc (Nat.le_refl _) _).drew

/-- A slice of slices of bytes, as Concat reads it. -/
def Parts (w : World) (p : Option Addr) (ZZ : List (List Int)) : Prop :=
  ZZ.length ≤ 9223372036854775807 ∧ (ZZ = [] ∨ ∃ b off, p = some ⟨b, off, none⟩ ∧ ∀ i, i < ZZ.length → ∃ v, w.cell? ⟨b, off + i, none⟩ = some v ∧ Sl w v (ZZ.getD i []))

/-- The first j parts' bytes, as cells, and how many they are. -/
def flen (ZZ : List (List Int)) (j : Nat) : Nat := (ZZ.take j).flatten.length
def fval (ZZ : List (List Int)) (j : Nat) : List Value := (ZZ.take j).flatten.map (Value.int .u8)

theorem flat_succ (ZZ : List (List Int)) (j : Nat) (h : j < ZZ.length) : (ZZ.take (j + 1)).flatten = (ZZ.take j).flatten ++ ZZ.getD j [] := by
  rw [List.take_add_one, List.getElem?_eq_getElem h, List.flatten_append]
  simp [List.getD, List.getElem?_eq_getElem h]

theorem flen_succ (ZZ : List (List Int)) (j : Nat) (h : j < ZZ.length) : flen ZZ (j + 1) = flen ZZ j + (ZZ.getD j []).length := by
  unfold flen; rw [flat_succ ZZ j h, List.length_append]
theorem fval_succ (ZZ : List (List Int)) (j : Nat) (h : j < ZZ.length) : fval ZZ (j + 1) = fval ZZ j ++ (ZZ.getD j []).map (Value.int .u8) := by
  unfold fval; rw [flat_succ ZZ j h, List.map_append]

theorem flen_le (ZZ : List (List Int)) (j : Nat) : flen ZZ j ≤ ZZ.flatten.length := by
  have h : ZZ.flatten = (ZZ.take j).flatten ++ (ZZ.drop j).flatten := by rw [← List.flatten_append, List.take_append_drop]
  unfold flen; rw [h, List.length_append]; omega
theorem flen_all (ZZ : List (List Int)) : flen ZZ ZZ.length = ZZ.flatten.length := by unfold flen; rw [List.take_length]
theorem fval_all (ZZ : List (List Int)) : fval ZZ ZZ.length = ZZ.flatten.map (Value.int .u8) := by unfold fval; rw [List.take_length]

set_option maxHeartbeats 4000000 in
theorem concat_aux (p : Option Addr) (kc : Nat) (ZZ : List (List Int)) (w : World) (hP : Parts w p ZZ) (k T : Nat) (hk : k = ZZ.length) (hT : T = flen ZZ ZZ.length) (hbig : T ≤ 200000000000000) :
    Calls Tryz.prog 83 #[.slice p k kc] w fun r w' => ∃ v, r = .returned v ∧ w'.ownsRow w.heap.size 5 1 v T (fval ZZ k) ∧ Below w.heap.size w w' := by
  obtain ⟨i0, hi, hz0, hz1, hz2⟩ := info_parts info5'
  obtain ⟨hk63, hP⟩ := hP
  have HP : Hid (ZZ = [] ∨ ∃ b off, p = some ⟨b, off, none⟩ ∧ ∀ i, i < ZZ.length → ∃ v, w.cell? ⟨b, off + i, none⟩ = some v ∧ Sl w v (ZZ.getD i [])) := hP
  have HK : Hid (k = ZZ.length) := hk
  have HT : Hid (T = flen ZZ k) := by rw [hk]; exact hT
  have HLE : Hid (∀ j, flen ZZ j ≤ T) := fun j => by rw [hT, flen_all]; exact flen_le ZZ j
  rw [← hk] at hk63
  clear hk hT hP
  go_enter Tryz.func83, Tryz.ntmps83
  go_wp2
  go_loop [3, 11] (fun n i => ∃ j : Nat, j ≤ k ∧ i = .int .i64 j ∧ n = .int .i64 (flen ZZ j : Nat)) (fun _ i => k - (intOf i).toNat)
  case atStart => exact ⟨0, by omega, rfl, rfl⟩
  case round =>
    obtain ⟨j, hj, rfl, rfl⟩ := hrel
    by_cases hlt : j < k
    · rcases HP.out with h0 | ⟨b, off, rfl, hall⟩
      · have := HK.out; rw [h0] at this; simp at this; omega
      · obtain ⟨v, hc, a, cap, rfl, h1, h2, h3, h4⟩ := hall j (by rw [← HK.out]; exact hlt)
        have hs := flen_succ ZZ j (by rw [← HK.out]; exact hlt)
        have hle := HLE.out (j + 1)
        have HS : Hid (flen ZZ (j + 1) = flen ZZ j + (ZZ.getD j []).length) := hs
        have hsum : flen ZZ j + (ZZ.getD j []).length ≤ 200000000000000 := by omega
        clear hs hle h4 hall h1 h2 h3
        generalize hL : (ZZ.getD j []).length = L at *
        have HL : Hid ((ZZ.getD j []).length = L) := hL
        clear hL
        go_wp2
        go_round
        case rel => exact ⟨j + 1, by omega, by go_num, by rw [HS.out]; go_num⟩
        case measure => simp [intOf]; omega
    · obtain rfl : j = k := by omega
      rw [← HT.out]
      have cg := grow_any T w hbig
      clear hlt
      go_wp2_with (go_at_call 109; refine cg.mono ?_; rintro e w1 ⟨v1, rfl, own1, bel1⟩)
      clear cg
      go_loopw [6, 27] (fun v i wr => ∃ m : Nat, m ≤ j ∧ i = .int .i64 m ∧ wr.ownsRow w.heap.size 5 1 v (flen ZZ m) (fval ZZ m) ∧ Below w.heap.size w wr) (fun _ i _ => j - (intOf i).toNat)
      case atStart => exact ⟨0, by omega, rfl, own1, bel1⟩
      case round =>
        clear own1 bel1
        obtain ⟨m, hm, rfl, hown, hbel⟩ := hrel
        by_cases hlt : m < j
        · rcases HP.out with h0 | ⟨b, off, rfl, hall⟩
          · have := HK.out; rw [h0] at this; simp at this; omega
          · obtain ⟨v, hc, a, cap, rfl, h1, h2, h3, h4⟩ := hall m (by rw [← HK.out]; exact hlt)
            have hcr : wr.cell? ⟨b, off + m, none⟩ = some (.slice a (ZZ.getD m []).length cap) := (hbel.cell (p := ⟨b, off + m, none⟩) (World.block_lt_of_cell? _ _ hc)).trans hc
            have HR : Hid (Row wr a (ZZ.getD m []).length cap (ZZ.getD m [])) := h4.kept hbel
            have HS : Hid (flen ZZ (m + 1) = flen ZZ m + (ZZ.getD m []).length) := flen_succ ZZ m (by rw [← HK.out]; exact hlt)
            have HV : Hid (fval ZZ (m + 1) = fval ZZ m ++ (ZZ.getD m []).map (Value.int .u8)) := fval_succ ZZ m (by rw [← HK.out]; exact hlt)
            have hsum : flen ZZ m + (ZZ.getD m []).length ≤ 200000000000000 := by have h5 := HLE.out (m + 1); rw [HS.out] at h5; omega
            have hob := own_base hown
            have hsz := hbel.size
            have hcap : Hid (a = none → cap = 0) := h3
            clear hc h4 hall h1 h2 h3
            generalize ZZ.getD m [] = X at *
            obtain ⟨L, hL⟩ : ∃ L, L = X.length := ⟨_, rfl⟩
            have HL : Hid (L = X.length) := hL
            rw [← hL] at hcr hsum
            clear hL
            cases a with
            | none =>
              obtain rfl : cap = 0 := hcap.out rfl
              have hX : X = [] := by
                rcases HR.out with h | ⟨_, _, _, e, _⟩
                · exact List.length_eq_zero_iff.1 h
                · cases e
              have hL0 : L = 0 := by rw [HL.out, hX]; rfl
              subst hL0
              go_wp2_with (at_builtin; refine wpList_append_own_none rfl _ _ 34 rfl w.heap.size 5 i0 1 Tryz.underlying34 hi _ _ _ rfl hown rfl ?_)
              go_wp2
              go_roundw
              case rel =>
                refine ⟨m + 1, by omega, ?_, ?_, hbel⟩
                · go_num
                · rw [HS.out, HV.out, hX]; simpa using hown
              case measure => simp [intOf]; omega
            | some x =>
              go_wp2_with (at_builtin; refine wpList_append_own_wide _ rfl _ _ 34 rfl w.heap.size 5 i0 (.int .u8 0) 1 1 Tryz.underlying34 hi hz0 hz1 hz2 rfl (by decide) _ _ _ rfl hown x L cap (X.map (Value.int .u8)) rfl (by rw [List.length_map, HL.out, Nat.mul_one]) (news_row HR.out) (ints_one X) (by unfold maxLen; omega) (by omega) hsz ?_)
              intro v' w2 hown' hgrow _
              have hbel' : Below w.heap.size w w2 := hbel.grown hgrow hsz hob
              clear hown hgrow hbel hob hsz
              go_wp2
              go_roundw
              case rel =>
                refine ⟨m + 1, by omega, ?_, ?_, hbel'⟩
                · go_num
                · rw [HS.out, HV.out, ← HL.out]; exact hown'
              case measure => simp [intOf]; omega
        · obtain rfl : m = j := by omega
          go_wp2
          go_ret
          exact ⟨_, rfl, by rw [HT.out]; exact hown, hbel⟩

theorem concat_any (p : Option Addr) (kc : Nat) (ZZ : List (List Int)) (w : World) (hP : Parts w p ZZ) (hbig : ZZ.flatten.length ≤ 200000000000000) :
    Calls Tryz.prog 83 #[.slice p ZZ.length kc] w fun r w' => ∃ v, r = .returned v ∧ w'.ownsRow w.heap.size 5 1 v ZZ.flatten.length (ZZ.flatten.map (Value.int .u8)) ∧ Below w.heap.size w w' := by
  have h := concat_aux p kc ZZ w hP ZZ.length (flen ZZ ZZ.length) rfl rfl (by rw [flen_all]; exact hbig)
  rw [flen_all, fval_all] at h
  exact h

theorem bytes_flat (ZZ : List (List Int)) (h : ∀ X ∈ ZZ, ∀ i, 0 ≤ X.getD i 0 ∧ X.getD i 0 < 256) : ∀ i, 0 ≤ ZZ.flatten.getD i 0 ∧ ZZ.flatten.getD i 0 < 256 := by
  refine byteList _ ?_
  rw [List.all_eq_true]
  intro z hz
  obtain ⟨X, hX, hzX⟩ := List.mem_flatten.1 hz
  obtain ⟨i, hi, rfl⟩ := List.getElem_of_mem hzX
  have := h X hX i
  simp [List.getD, List.getElem?_eq_getElem hi] at this
  simpa using this

theorem join_any (p : Option Addr) (kc : Nat) (ZZ : List (List Int)) (w : World) (hP : Parts w p ZZ) (hbig : ZZ.flatten.length ≤ 200000000000000) :
    Calls Tryz.prog 58 #[.slice p ZZ.length kc] w fun r w' => ∃ v, r = .returned v ∧ w'.ownsRow w.heap.size 5 1 v ZZ.flatten.length (ZZ.flatten.map (Value.int .u8)) ∧ Below w.heap.size w w' := by
  have h := concat_any p kc ZZ w hP hbig
  generalize ZZ.flatten.length = T at *
  generalize ZZ.flatten.map (Value.int .u8) = V at *
  generalize ZZ.length = k at *
  go_enter Tryz.func58, Tryz.ntmps58
  go_wp2_with (go_at_call 83; refine h.mono ?_; rintro e w1 ⟨v1, rfl, own1, bel1⟩)
  go_ret
  exact ⟨_, rfl, by assumption, by assumption⟩
end Go.Proofs.YtiollhmbdhepkaaGreatDoor.Fi
namespace Go.Proofs.YtiollhmbdhepkaaGreatDoor.Fi
open Go.RowKit
set_option maxRecDepth 100000

theorem Rd.fail {w : World} {g s : Nat} {xs : List Int} {e : Int} (h : Rd w g s xs e) (e' : Int) : Rd (w.setCell ⟨g, 1, none⟩ (.int .i64 e')) g s xs e' := by
  obtain ⟨a, cap, c0, c1, f0, f1, l1, l2, r, n, k, b⟩ := h
  refine ⟨a, cap, ?_, ?_, ?_, ?_, l1, l2, r.off (Off.setCell g 1 _ _) (fun x hx => by rw [(b x hx).2]; exact k), n, k, b⟩
  · rw [World.cell?_setCell_other _ _ _ _ (by intro e; cases e), c0]
  · rw [World.cell?_setCell_same _ _ _ c1]
  · simpa using f0
  · simpa using f1

/-- How far the bytes of a number that Shortest finds go. -/
theorem sh_bd (xs : List Int) (hb : ∀ i, 0 ≤ xs.getD i 0 ∧ xs.getD i 0 < 256) : 0 ≤ shN xs.length xs ∧ shN xs.length xs < 4611686018427387904 ∧ 0 ≤ shU xs.length xs ∧ shU xs.length xs ≤ xs.length := by
  unfold shN shU
  split
  · next h =>
    obtain ⟨h1, h2⟩ := h
    unfold getE at h1
    split at h1
    · simp at h1
    · next h3 =>
      have h4 : getN xs.length xs = gval xs (2 ^ gk xs - 1) := by unfold getN; rw [if_neg h3]
      have h5 : getU xs.length xs = (2 ^ gk xs : Nat) := by unfold getU; rw [if_neg h3]
      have hk : gk xs = 0 ∨ gk xs = 1 ∨ gk xs = 2 ∨ gk xs = 3 := by have := hb 0; unfold gk; omega
      have hg := gval_bd xs hb (2 ^ gk xs - 1)
      rw [h4, h5]
      rcases hk with hk | hk | hk | hk <;> rw [hk] at hg h3 ⊢ <;> simp only [Nat.reducePow, Nat.reduceSub, Int.reducePow, Int.reduceMul] at hg h3 ⊢ <;> omega
  · simp

theorem Rd.bytes {w : World} {g s : Nat} {xs : List Int} {e : Int} (h : Rd w g s xs e) : ∀ i, 0 ≤ xs.getD i 0 ∧ xs.getD i 0 < 256 := by
  obtain ⟨a, cap, c0, c1, f0, f1, l1, l2, r, n, k, b⟩ := h
  rcases r with h | ⟨_, _, _, _, _, _, _, hz⟩
  · obtain rfl := List.length_eq_zero_iff.1 h
    intro i
    simp
  · exact hz

theorem na_bd (xs : List Int) (most : Int) (hb : ∀ i, 0 ≤ xs.getD i 0 ∧ xs.getD i 0 < 256) : 0 ≤ naN xs most ∧ naN xs most < 4611686018427387904 ∧ 0 ≤ naU xs most ∧ naU xs most ≤ xs.length := by
  have h := sh_bd xs hb
  unfold naN naU
  split <;> omega

set_option maxHeartbeats 1000000 in
theorem num_any (g s : Nat) (xs : List Int) (most : Int) (w : World) (hw : Wid w) (h : Rd w g s xs 0) :
    Calls Tryz.prog 90 #[.pointer (some ⟨g, 0, none⟩), .int .i64 most] w fun r w' => r = .returned (.int .i64 (naN xs most)) ∧ Rd w' g s (xs.drop (naU xs most).toNat) (naE xs most) ∧ Off g w w' := by
  have cs := stopped_any g s xs 0 w h
  obtain ⟨u, hu⟩ : ∃ u : Nat, naU xs most = u := ⟨(naU xs most).toNat, by have := na_bd xs most h.bytes; omega⟩
  have hul : u ≤ xs.length := by have := na_bd xs most h.bytes; omega
  have ct := take_any g s u xs 0 w h hul
  have HF : Hid (∀ e', Rd (w.setCell ⟨g, 1, none⟩ (.int .i64 e')) g s xs e') := fun e' => h.fail e'
  have HE0 : Hid (naE xs most ≠ 0 → naN xs most = 0 ∧ u = 0) := fun hne => by unfold naN; unfold naU at hu; rw [if_neg hne] at hu ⊢; omega
  obtain ⟨a, cap, c0, c1, f0, f1, l1, l2, hr, _, _, ha⟩ := h
  have cn := na_any a cap xs most w hw hr
  rw [hu] at cn ⊢
  clear ha hr hu
  simp only [Int.toNat_natCast]
  generalize naN xs most = N at *
  generalize naE xs most = E at *
  by_cases hE : E = 0
  · subst hE
    go_enter Tryz.func90, Tryz.ntmps90
    go_wp2_with (first | (go_at_call 116; refine cs.mono ?_; rintro e w' ⟨rfl, rfl⟩) | (go_at_call 117; refine cn.mono ?_; rintro e w' ⟨rfl, rfl⟩) | (go_at_call 118; refine ct.mono ?_; rintro e w' ⟨rfl, h1, h2⟩))
    go_ret
    exact ⟨rfl, by assumption, by assumption⟩
  · have hne : (E != 0) = true := by simpa using hE
    obtain ⟨rfl, rfl⟩ := HE0.out hE
    clear HE0
    go_enter Tryz.func90, Tryz.ntmps90
    go_wp2_with (first | (go_at_call 116; refine cs.mono ?_; rintro e w' ⟨rfl, rfl⟩) | (go_at_call 117; refine cn.mono ?_; rintro e w' ⟨rfl, rfl⟩))
    go_ret
    exact ⟨rfl, HF.out E, Off.setCell g 1 _ _⟩

set_option maxHeartbeats 1000000 in
theorem num_stop (g s : Nat) (xs : List Int) (e most : Int) (w : World) (h : Rd w g s xs e) (he : e ≠ 0) :
    Calls Tryz.prog 90 #[.pointer (some ⟨g, 0, none⟩), .int .i64 most] w fun r w' => r = .returned (.int .i64 0) ∧ w' = w := by
  have cs := stopped_any g s xs e w h
  have hne : (e != 0) = true := by simpa using he
  clear h
  go_enter Tryz.func90, Tryz.ntmps90
  go_wp2_with (go_at_call 116; refine cs.mono ?_; rintro e w' ⟨rfl, rfl⟩)
  go_ret
  exact ⟨rfl, rfl⟩

/-- What Raw answers and leaves. -/
def raE (xs : List Int) (n : Int) : Int := if n < 0 then 2 else if (xs.length : Int) < n then 3 else 0
def raN (xs : List Int) (n : Int) : Nat := if raE xs n = 0 then n.toNat else 0

set_option maxHeartbeats 1000000 in
theorem raw_any (g s : Nat) (xs : List Int) (n : Int) (w : World) (h : Rd w g s xs 0) :
    Calls Tryz.prog 96 #[.pointer (some ⟨g, 0, none⟩), .int .i64 n] w fun r w' => r = .returned (.string (strB (xs.take (raN xs n)))) ∧ Rd w' g s (xs.drop (raN xs n)) (raE xs n) ∧ Off g w w' := by
  have cs := stopped_any g s xs 0 w h
  have HF : Hid (∀ e', Rd (w.setCell ⟨g, 1, none⟩ (.int .i64 e')) g s xs e') := fun e' => h.fail e'
  have hts := take_any g s n.toNat xs 0 w h
  unfold raN raE
  obtain ⟨a, cap, c0, c1, f0, f1, l1, l2, hr, _, _, ha⟩ := h
  clear ha hr
  by_cases hn : n < 0
  · simp only [if_pos hn]
    rw [if_neg (by decide)]
    clear hts
    go_enter Tryz.func96, Tryz.ntmps96
    go_wp2_with (go_at_call 116; refine cs.mono ?_; rintro e w' ⟨rfl, rfl⟩)
    go_ret
    exact ⟨rfl, HF.out 2, Off.setCell g 1 _ _⟩
  · simp only [if_neg hn]
    obtain ⟨m, rfl⟩ : ∃ m : Nat, n = m := ⟨n.toNat, by omega⟩
    simp only [Int.toNat_natCast] at hts ⊢
    by_cases hl : (xs.length : Int) < m
    · simp only [if_pos hl]
      rw [if_neg (by decide)]
      clear hts
      go_enter Tryz.func96, Tryz.ntmps96
      go_wp2_with (go_at_call 116; refine cs.mono ?_; rintro e w' ⟨rfl, rfl⟩)
      go_ret
      exact ⟨rfl, HF.out 3, Off.setCell g 1 _ _⟩
    · simp only [if_neg hl, if_true]
      have ct := hts (by omega)
      have hl' : m ≤ xs.length := by omega
      clear hts hl hn
      go_enter Tryz.func96, Tryz.ntmps96
      go_wp2_with (first | (go_at_call 116; refine cs.mono ?_; rintro e w' ⟨rfl, rfl⟩) | (go_at_call 118; refine ct.mono ?_; rintro e w' ⟨rfl, h1, h2⟩))
      go_ret
      exact ⟨rfl, by assumption, by assumption⟩

set_option maxHeartbeats 1000000 in
theorem raw_stop (g s : Nat) (xs : List Int) (e n : Int) (w : World) (h : Rd w g s xs e) (he : e ≠ 0) :
    Calls Tryz.prog 96 #[.pointer (some ⟨g, 0, none⟩), .int .i64 n] w fun r w' => r = .returned (.string (strB [])) ∧ w' = w := by
  have cs := stopped_any g s xs e w h
  have hne : (e != 0) = true := by simpa using he
  clear h
  go_enter Tryz.func96, Tryz.ntmps96
  go_wp2_with (go_at_call 116; refine cs.mono ?_; rintro e w' ⟨rfl, rfl⟩)
  go_ret
  exact ⟨rfl, rfl⟩

/-- What Text answers and leaves. -/
def txE (xs : List Int) (most : Int) : Int := if naE xs most = 0 then (if naU xs most + naN xs most ≤ xs.length then 0 else 3) else naE xs most
def txS (xs : List Int) (most : Int) : List Int := if txE xs most = 0 then (xs.drop (naU xs most).toNat).take (naN xs most).toNat else []
def txR (xs : List Int) (most : Int) : List Int := if txE xs most = 0 then xs.drop ((naU xs most).toNat + (naN xs most).toNat) else xs

theorem strB_size (l : List Int) : (strB l).size = l.length := by simp [strB, ByteArray.size]

/-- What Byte answers. -/
def byV (xs : List Int) : Int := xs.getD 0 0

set_option maxHeartbeats 1000000 in
theorem byte_any (g s : Nat) (xs : List Int) (w : World) (h : Rd w g s xs 0) :
    Calls Tryz.prog 89 #[.pointer (some ⟨g, 0, none⟩)] w fun r w' => r = .returned (.int .u8 (byV xs)) ∧ Rd w' g s (xs.drop (raN xs 1)) (raE xs 1) ∧ Off g w w' := by
  have c := raw_any g s xs 1 w h
  have hb := h.bytes 0
  clear h
  cases xs with
  | nil =>
    have e1 : raN [] 1 = 0 := by decide
    have e2 : raE [] 1 = 3 := by decide
    rw [e1, e2] at c ⊢
    have hs : strB (List.take 0 []) = ByteArray.mk #[] := rfl
    rw [hs] at c
    go_enter Tryz.func89, Tryz.ntmps89
    go_wp2_with (go_at_call 96; refine c.mono ?_; rintro e w' ⟨rfl, h1, h2⟩)
    go_ret
    exact ⟨rfl, by assumption, by assumption⟩
  | cons x l =>
    have e2 : raE (x :: l) 1 = 0 := by unfold raE; rw [if_neg (by decide), if_neg (by simp; omega)]
    have e1 : raN (x :: l) 1 = 1 := by unfold raN; rw [if_pos e2]; rfl
    rw [e1, e2] at c ⊢
    have hs : strB (List.take 1 (x :: l)) = ByteArray.mk #[UInt8.ofNat x.toNat] := by simp [strB]
    rw [hs] at c
    have hx : 0 ≤ x ∧ x < 256 := by simpa using hb
    have hv : byV (x :: l) = x := rfl
    rw [hv]
    clear hb hs e1 e2 hv
    obtain ⟨k, rfl⟩ : ∃ k : Nat, x = k := ⟨x.toNat, by omega⟩
    go_enter Tryz.func89, Tryz.ntmps89
    go_wp2_with (go_at_call 96; refine c.mono ?_; rintro e w' ⟨rfl, h1, h2⟩)
    go_ret
    refine ⟨?_, by assumption, by assumption⟩
    show Ending.returned (Value.int .u8 ((UInt8.ofNat k).toNat : Int)) = _
    have : (UInt8.ofNat k).toNat = k := by rw [UInt8.toNat_ofNat']; omega
    rw [this]

set_option maxHeartbeats 1000000 in
theorem byte_stop (g s : Nat) (xs : List Int) (e : Int) (w : World) (h : Rd w g s xs e) (he : e ≠ 0) :
    Calls Tryz.prog 89 #[.pointer (some ⟨g, 0, none⟩)] w fun r w' => r = .returned (.int .u8 0) ∧ w' = w := by
  have c := raw_stop g s xs e 1 w h he
  have hs : strB [] = ByteArray.mk #[] := rfl
  rw [hs] at c
  clear h hs
  go_enter Tryz.func89, Tryz.ntmps89
  go_wp2_with (go_at_call 96; refine c.mono ?_; rintro e w' ⟨rfl, rfl⟩)
  go_ret
  exact ⟨rfl, rfl⟩
end Go.Proofs.YtiollhmbdhepkaaGreatDoor.Fi
namespace Go.Proofs.YtiollhmbdhepkaaGreatDoor.Fi
open Go.RowKit
set_option maxRecDepth 100000

/-- A string's bytes, as numbers. -/
def sb (s : ByteArray) : List Int := s.data.toList.map fun b => (b.toNat : Int)

theorem sb_len (s : ByteArray) : (sb s).length = s.size := by unfold sb; rw [List.length_map]; rfl

theorem sb_bytes (s : ByteArray) : ∀ i, 0 ≤ (sb s).getD i 0 ∧ (sb s).getD i 0 < 256 := by
  refine byteList _ ?_
  rw [List.all_eq_true]
  intro z hz
  obtain ⟨b, _, rfl⟩ := List.mem_map.1 hz
  have := b.toNat_lt
  simp
  omega

theorem strB_sb (s : ByteArray) : strB (sb s) = s := by
  unfold strB sb
  rw [List.map_map]
  have : ((fun n : Int => UInt8.ofNat n.toNat) ∘ fun b : UInt8 => (b.toNat : Int)) = id := by funext b; simp
  rw [this]
  simp

/-- A number's bytes in its least width, none if there is none. -/
def numB (n : Int) : List Int := if lenOf n = 0 then [] else pb n (lenOf n).toNat
/-- A text's. -/
def textB (s : ByteArray) : List Int := numB s.size ++ sb s

theorem pos_lim (n : Int) (h0 : lenOf n ≠ 0) : ∃ W : Nat, lenOf n = W ∧ W ≠ 0 ∧ IsW W ∧ 0 ≤ n ∧ n < lim W ∧ numB n = pb n W := by
  obtain ⟨W, hW⟩ : ∃ W : Nat, lenOf n = W := ⟨(lenOf n).toNat, by rcases lenOf_cases n with h | h | h | h | h | h <;> omega⟩
  have h1 : W ≠ 0 := by omega
  obtain ⟨h2, h3, h4⟩ := lenOf_eq n W hW h1
  refine ⟨W, hW, h1, h2, h3, h4, ?_⟩
  unfold numB
  rw [if_neg h0, hW]
  rfl

set_option maxHeartbeats 1000000 in
theorem fnum_any (n : Int) (w : World) (hw : Wid w) :
    Calls Tryz.prog 77 #[.int .i64 n] w fun r w' => ∃ v, r = .returned v ∧ Sl w' v (numB n) ∧ Below w.heap.size w w' := by
  by_cases h0 : lenOf n = 0
  · have hn : numB n = [] := by unfold numB; rw [if_pos h0]
    rw [hn]
    have c := put_no n w hw h0
    clear hn h0
    go_enter Tryz.func77, Tryz.ntmps77
    go_wp2_with (go_at_call 107; refine c.mono ?_; rintro e w' ⟨rfl, rfl⟩)
    go_ret
    exact ⟨_, rfl, Sl.none _, Below.refl _ _⟩
  · obtain ⟨W, hW, hW0, hI, h1, h2, hn⟩ := pos_lim n h0
    have c := put_ok n W w hw hW hW0
    have hl := pb_len n W hI
    have hW8 : W ≤ 8 := by rcases hI with rfl | rfl | rfl | rfl <;> omega
    have HS : Hid (Sl (w.alloc (.cells (pbA n W) 5)) (.slice (some ⟨w.heap.size, 0, none⟩) W W) (numB n)) := by
      rw [hn]
      exact ⟨_, W, by rw [hl], by omega, by unfold maxLen; omega, fun e => (by cases e), by rw [hl]; exact row_put n W w hI h1 h2⟩
    clear hn hl h0 hW hW0
    go_enter Tryz.func77, Tryz.ntmps77
    go_wp2_with (go_at_call 107; refine c.mono ?_; rintro e w' ⟨rfl, rfl⟩)
    go_ret
    exact ⟨_, rfl, HS.out, (Below.refl _ _).alloc (Nat.le_refl _) _⟩

/-- '[]byte(s)'. -/
theorem conv_str (s : ByteArray) (w : World) (hs : s.size ≤ 9223372036854775807) : ∃ a cap w2, (convert 9 34 (.string s)).run Tryz.prog w = .ok (.slice (some a) s.size cap) w2 ∧ Sl w2 (.slice (some a) s.size cap) (sb s) ∧ Below w.heap.size w w2 := by
  refine ⟨_, _, _, run_bytes_of_string w 9 34 5 s Tryz.underlying9 Tryz.underlying34 Tryz.underlying5, ?_, ?_⟩
  · have hge := grownCap_ge w s.size 0 5
    have hmx := grownCap_le_maxLen w s.size 0 5 (by unfold maxLen; omega)
    refine ⟨_, _, by rw [sb_len], by rw [sb_len]; exact hge, hmx, fun e => (by cases e), ?_⟩
    rw [sb_len]
    rcases Nat.eq_zero_or_pos s.size with h | h
    · exact .inl h
    · refine .inr ⟨h, _, 0, rfl, hge, hmx, fun i hi => ?_, sb_bytes s⟩
      have hi' : i < s.data.size := hi
      rw [Nat.zero_add]
      have := World.cell?_alloc_mark w.drew (bytesRow s (grownCap w s.size 0 5)) 5 ((bytesRow s (grownCap w s.size 0 5)).size, (bytesRow s (grownCap w s.size 0 5)).size + 1) i
      refine this.trans ?_
      rw [bytesRow_at s _ i hi']
      congr 2
      simp [sb, List.getD, Array.getElem?_eq_getElem hi']
  · exact (Below.refl _ w).drew.alloc (Nat.le_refl _) _

theorem isnil (w : World) : (binOp BinOp.eql 34 (.slice none 0 0) (.slice none 0 0)).run Tryz.prog w = .ok (.bool true) w := by kernel_rfl
theorem notnil (x : Addr) (n c : Nat) (w : World) : (binOp BinOp.eql 34 (.slice (some x) n c) (.slice none 0 0)).run Tryz.prog w = .ok (.bool false) w := by kernel_rfl

set_option maxHeartbeats 1000000 in
/-- What bytes.Clone answers: a slice of its own of the same bytes, nil for nil. -/
theorem clone_any (v : Value) (xs : List Int) (w : World) (h : Sl w v xs) (hbig : xs.length ≤ 200000000000000) :
    Calls Tryz.prog 93 #[v] w fun r w' => ∃ v', r = .returned v' ∧ w'.ownsRow w.heap.size 5 1 v' xs.length (xs.map (Value.int .u8)) ∧ Below w.heap.size w w' := by
  obtain ⟨i0, hi, hz0, hz1, hz2⟩ := info_parts info5'
  obtain ⟨a, cap, rfl, h1, h2, h3, h4⟩ := h
  cases a with
  | none =>
    obtain rfl := h3 rfl
    obtain rfl : xs = [] := List.length_eq_zero_iff.1 (by omega)
    clear h1 h2 h3 h4 hbig
    have hnil := isnil w
    go_enter Tryz.func93, Tryz.ntmps93
    go_wp2
    go_ret
    exact ⟨_, rfl, World.ownsRow_nil _ _ _ _, Below.refl _ _⟩
  | some x =>
    have hown0 : (w.alloc (.cells #[] 5)).ownsRow w.heap.size 5 1 (.slice (some ⟨w.heap.size, 0, none⟩) 0 0) 0 [] := World.ownsRow_made (base := w.heap.size) (e := 5) (size := 1) w #[] 0 (Nat.le_refl _) (by unfold maxLen; omega) rfl
    have hb0 : Below w.heap.size w (w.alloc (.cells #[] 5)) := (Below.refl _ _).alloc (Nat.le_refl _) _
    have hnews := news_row (h4.kept hb0)
    obtain ⟨L, hL⟩ : ∃ L, L = xs.length := ⟨_, rfl⟩
    have HL : Hid (L = xs.length) := hL
    rw [← hL] at hbig h1 ⊢
    clear h3 h4 hL h2
    have hnil := notnil x L cap w
    go_enter Tryz.func93, Tryz.ntmps93
    go_wp2_with (at_builtin; refine wpList_append_own_wide _ rfl _ _ 34 rfl w.heap.size 5 i0 (.int .u8 0) 1 1 Tryz.underlying34 hi hz0 hz1 hz2 rfl (by decide) _ 0 [] rfl hown0 x L cap (xs.map (Value.int .u8)) rfl (by rw [List.length_map, HL.out, Nat.mul_one]) hnews (ints_one xs) (by unfold maxLen; omega) (by omega) (by simp) ?_)
    intro v' w2 hown' hgrow _
    have hbel' : Below w.heap.size w w2 := hb0.grown hgrow (by simp) (own_base hown0)
    try simp only [Nat.zero_add, List.nil_append] at hown'
    clear hown0 hgrow hb0 hnews
    go_wp2
    go_ret
    exact ⟨_, rfl, hown', hbel'⟩

/-- The block that a slice lies in. -/
def blk : Option Addr → Nat
  | some x => x.block
  | none => 0

set_option maxHeartbeats 1000000 in
theorem new_any (v : Value) (xs : List Int) (w : World) (hw : Wid w) (h : Sl w v xs) (hbig : xs.length ≤ 200000000000000) :
    Calls Tryz.prog 88 #[v] w fun r w' => ∃ g s, r = .returned (.pointer (some ⟨g, 0, none⟩)) ∧ w.heap.size ≤ g ∧ g < w'.heap.size ∧ (s = 0 ∨ (w.heap.size ≤ s ∧ s < w'.heap.size)) ∧ Rd w' g s xs 0 ∧ Below w.heap.size w w' := by
  have c := clone_any v xs w h hbig
  have hb := h.bytes
  have hp := hw.pos
  clear h hbig
  go_enter Tryz.func88, Tryz.ntmps88
  go_wp2_with fail
  refine c.mono ?_
  rintro e w1 ⟨v1, rfl, own1, bel1⟩
  have sl1 := sl_owned own1 hb
  have hsz := bel1.size
  have hsp := own1.lt
  obtain ⟨a, cap, rfl, h1, h2, h3, h4⟩ := sl1
  have HR : Hid (Rd (w1.alloc (.cells #[.slice a xs.length cap, .int .i64 0] 172)) w1.heap.size (blk a) xs 0) := by
    refine ⟨a, cap, ?_, ?_, ?_, ?_, h1, h2, h4.kept ((Below.refl _ _).alloc (Nat.le_refl _) _), h3, ?_, ?_⟩
    · rw [World.cell?_alloc_at _ _ _ _ rfl]; rfl
    · rw [World.cell?_alloc_at _ _ _ _ rfl]; rfl
    · exact World.frozen?_alloc_new ..
    · exact World.frozen?_alloc_new ..
    · cases a with
      | none => show 0 ≠ _; omega
      | some x => have := (hsp x.block rfl).2; show x.block ≠ _; omega
    · intro x hx
      subst hx
      refine ⟨?_, rfl⟩
      rcases own1.2 with ⟨e, _⟩ | ⟨g, c, cur, e, _⟩
      · cases e
      · cases e; rfl
  have HS : Hid ((blk a) = 0 ∨ (w.heap.size ≤ (blk a) ∧ (blk a) < w1.heap.size)) := by
    cases a with
    | none => exact .inl rfl
    | some x => exact .inr (hsp x.block rfl)
  generalize (blk a) = s at HR HS
  clear h1 h2 h3 h4 own1 hsp c hb
  generalize xs.length = L at *
  go_wp2
  go_ret
  exact ⟨_, s, rfl, by omega, by simp, by have := HS.out; simp; omega, HR.out, bel1.alloc hsz _⟩
end Go.Proofs.YtiollhmbdhepkaaGreatDoor.Fi
