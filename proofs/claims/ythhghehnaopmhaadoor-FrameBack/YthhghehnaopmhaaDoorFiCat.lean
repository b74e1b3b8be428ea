/-
  What slices.Grow of nil and slices.Concat answer: a slice of the call's own that holds the parts' bytes, one behind the other; nothing that was there is changed.
-/
import Derived.Test.YthhghehnaopmhaaDoorFiPutGet
import Derived.Laws.AppendOwnNone
import Derived.Deep.DeepAppendWide
import Derived.Lib.AppendZerosOnto
import Derived.Lib.Walk
namespace Go.Proofs.YthhghehnaopmhaaDoor.Fi
open Go.RowKit
set_option maxRecDepth 100000

theorem info5' : (Tryd.prog.info? 5).map (fun i => (i.zero, i.size, i.bytes)) = some (some (.int .u8 0), 1, 1) := by kernel_rfl

/-- A value that is a slice of the bytes xs. -/
def Sl (w : World) (v : Value) (xs : List Int) : Prop :=
  ∃ a cap, v = .slice a xs.length cap ∧ xs.length ≤ cap ∧ cap ≤ maxLen ∧ (a = none → cap = 0) ∧ Row w a xs.length cap xs

theorem Row.kept {w w' : World} {a : Option Addr} {len cap : Nat} {zs : List Int} (h : Row w a len cap zs) (hb : Below w.heap.size w w') : Row w' a len cap zs := by
  rcases h with h | ⟨hp, b, off, rfl, hlc, hm, hc, hz⟩
  · exact .inl h
  · exact .inr ⟨hp, b, off, rfl, hlc, hm, fun i hi => (hb.cell (p := ⟨b, off + i, none⟩) (World.block_lt_of_cell? _ _ (hc i hi))).trans (hc i hi), hz⟩

theorem Sl.kept {w w' : World} {v : Value} {xs : List Int} (h : Sl w v xs) (hb : Below w.heap.size w w') : Sl w' v xs := by
  obtain ⟨a, cap, e, h1, h2, h3, h4⟩ := h
  exact ⟨a, cap, e, h1, h2, h3, h4.kept hb⟩

theorem Row.bytes {w : World} {a : Option Addr} {cap : Nat} {xs : List Int} (h : Row w a xs.length cap xs) : ∀ i, 0 ≤ xs.getD i 0 ∧ xs.getD i 0 < 256 := by
  rcases h with h | ⟨_, _, _, _, _, _, _, hz⟩
  · obtain rfl := List.length_eq_zero_iff.1 h
    intro i
    simp
  · exact hz

theorem Sl.bytes {w : World} {v : Value} {xs : List Int} (h : Sl w v xs) : ∀ i, 0 ≤ xs.getD i 0 ∧ xs.getD i 0 < 256 := by
  obtain ⟨a, cap, e, h1, h2, h3, h4⟩ := h
  exact h4.bytes

theorem Sl.none (w : World) : Sl w (.slice .none 0 0) [] := ⟨.none, 0, rfl, Nat.le_refl _, by simp, fun _ => rfl, .inl rfl⟩

theorem own_base {w : World} {base : Nat} {e : TypeId} {size : Nat} {v : Value} {n : Nat} {xs : List Value} (h : w.ownsRow base e size v n xs) : ∀ k, v.ownBlock = some k → base ≤ k := by
  rcases h.2 with ⟨rfl, _⟩ | ⟨g, cap, cur, rfl, hg, _⟩
  · intro k hk; cases hk
  · intro k hk; cases hk; exact hg

/-- A slice that owns bytes is one. -/
theorem sl_owned {w : World} {base n : Nat} {v : Value} {xs : List Int} (h : w.ownsRow base 5 1 v n (xs.map (Value.int .u8))) (hb : ∀ i, 0 ≤ xs.getD i 0 ∧ xs.getD i 0 < 256) : Sl w v xs := by
  have hl := h.1
  simp at hl
  subst hl
  rcases h.2 with ⟨rfl, h0⟩ | ⟨g, cap, cur, rfl, hg, hh, hc, hm, hs, ht⟩
  · obtain rfl := List.length_eq_zero_iff.1 h0
    exact Sl.none w
  · simp at ht
    refine ⟨_, cap, rfl, hc, hm, fun e => (by cases e), ?_⟩
    rcases Nat.eq_zero_or_pos xs.length with h0 | hp
    · exact .inl h0
    · refine .inr ⟨hp, g, 0, rfl, hc, hm, fun i hi => ?_, hb⟩
      have e : cur[i]? = some (.int .u8 (xs.getD i 0)) := by
        have := congrArg (·[i]?) ht
        simp only [List.getElem?_take, List.getElem?_map] at this
        rw [if_pos hi] at this
        simpa [List.getElem?_eq_getElem hi, List.getD] using this
      unfold World.cell?; rw [hh]; simpa using e

theorem ints_one (xs : List Int) : ∀ u ∈ xs.map (Value.int .u8), u.oneCell' = true := by
  intro u hu
  simp only [List.mem_map] at hu
  obtain ⟨z, _, rfl⟩ := hu
  rfl

/-- The cells of a row, as an append asks for them. -/
theorem news_row {w : World} {x : Addr} {cap : Nat} {xs : List Int} (h : Row w (some x) xs.length cap xs) :
    ∀ j u, (xs.map (Value.int .u8))[j]? = some u → w.cell? (x.add j) = some u := by
  intro j u hj
  rw [List.getElem?_map] at hj
  by_cases hlt : j < xs.length
  · rw [List.getElem?_eq_getElem hlt] at hj
    simp only [Option.map_some, Option.some.injEq] at hj
    rcases h with h | ⟨_, b, off, e, _, _, hc, _⟩
    · omega
    · cases e
      rw [Addr.add_lit, hc j hlt, ← hj]
      simp [List.getD, List.getElem?_eq_getElem hlt]
  · rw [List.getElem?_eq_none (by omega)] at hj
    simp at hj

set_option maxHeartbeats 4000000 in
theorem grow_any (n : Nat) (w : World) (hbig : n ≤ 200000000000000) :
    Calls Tryd.prog 65 #[.slice none 0 0, .int .i64 n] w fun r w' => ∃ v, r = .returned v ∧ w'.ownsRow w.heap.size 5 1 v 0 [] ∧ Below w.heap.size w w' := by
  obtain ⟨i0, hi, hz0, hz1, hz2⟩ := info_parts info5'
  rcases Nat.eq_zero_or_pos n with rfl | hp
  · go_enter Tryd.func65, Tryd.ntmps65
    go_wp2
    go_ret
    exact ⟨_, rfl, World.ownsRow_nil _ _ _ _, Below.refl _ _⟩
  · have hrz : ∀ ty, (Builtin.append_ #[25, 3] ty #[.slice none 0 0, .int .i64 (n : Int)]).run Tryd.prog w =
      .ok (.slice (some ⟨w.heap.size, 0, none⟩) n (grownCap w n 0 5)) (w.drew.alloc (.cells (Builtin.zeroCells (Value.int .u8 0).cells n ++ Builtin.zeroCells (Value.int .u8 0).cells (grownCap w n 0 5 - n)) 5)) := fun ty => by
      have h := Lib.run_append_grow_zeros (P := Tryd.prog) w 25 3 ty 5 i0 (.int .u8 0) .i64 .i64 Tryd.underlying25 Tryd.underlying3 hi hz0 none 0 0 []
        (by rw [hz1]; exact run_firstCells_none w.drew 1 0 0 0) n hp (by omega) (by omega) (by omega) (by rw [hz2]; omega) (growslice_fits_wide (by omega) (by rw [hz2]; omega))
      simpa using h
    have hGn : n ≤ grownCap w n 0 5 := grownCap_ge w _ _ _
    have hGm := grownCap_le_maxLen w n 0 5 (by unfold maxLen; omega)
    obtain ⟨G, hG⟩ : ∃ G, G = grownCap w n 0 5 := ⟨_, rfl⟩
    rw [← hG] at hrz hGn hGm
    have hG63 : G ≤ 9223372036854775807 := by unfold maxLen at hGm; omega
    have HM : Hid (G ≤ maxLen) := hGm
    clear hG hGm
    go_enter Tryd.func65, Tryd.ntmps65
    go_wp2_with (at_builtin; refine Lib.wpList_append_run _ rfl _ _ _ _ rfl _ _ rfl rfl _ _ (hrz _) ?_)
    go_ret
    refine ⟨_, rfl, ?_, ?_⟩
    · exact World.ownsRow_made (base := w.heap.size) (e := 5) (size := 1) w.drew _ G (Nat.le_refl _) HM.out (by simp [size_zeroCells]; omega)
    · exact ((Below.refl _ w).alloc (Nat.le_refl _) _).drew

/-- A slice of slices of bytes, as Concat reads it. -/
def Parts (w : World) (p : Option Addr) (ZZ : List (List Int)) : Prop :=
  ZZ.length ≤ 9223372036854775807 ∧ (ZZ = [] ∨ ∃ b off, p = some ⟨b, off, none⟩ ∧ ∀ i, i < ZZ.length → ∃ v, w.cell? ⟨b, off + i, none⟩ = some v ∧ Sl w v (ZZ.getD i []))

/-- The first j parts' bytes, as cells, and how many they are. -/
def flen (ZZ : List (List Int)) (j : Nat) : Nat := (ZZ.take j).flatten.length
def fval (ZZ : List (List Int)) (j : Nat) : List Value := (ZZ.take j).flatten.map (Value.int .u8)

theorem flat_succ (ZZ : List (List Int)) (j : Nat) (h : j < ZZ.length) : (ZZ.take (j + 1)).flatten = (ZZ.take j).flatten ++ ZZ.getD j [] := by
  rw [List.take_add_one, List.getElem?_eq_getElem h, List.flatten_append]
  simp [List.getD, List.getElem?_eq_getElem h]

theorem flen_succ (ZZ : List (List Int)) (j : Nat) (h : j < ZZ.length) : flen ZZ (j + 1) = flen ZZ j + (ZZ.getD j []).length := by
  unfold flen; rw [flat_succ ZZ j h, List.length_append]
theorem fval_succ (ZZ : List (List Int)) (j : Nat) (h : j < ZZ.length) : fval ZZ (j + 1) = fval ZZ j ++ (ZZ.getD j []).map (Value.int .u8) := by
  unfold fval; rw [flat_succ ZZ j h, List.map_append]

theorem flen_le (ZZ : List (List Int)) (j : Nat) : flen ZZ j ≤ ZZ.flatten.length := by
  have h : ZZ.flatten = (ZZ.take j).flatten ++ (ZZ.drop j).flatten := by rw [← List.flatten_append, List.take_append_drop]
  unfold flen; rw [h, List.length_append]; omega
theorem flen_all (ZZ : List (List Int)) : flen ZZ ZZ.length = ZZ.flatten.length := by unfold flen; rw [List.take_length]
theorem fval_all (ZZ : List (List Int)) : fval ZZ ZZ.length = ZZ.flatten.map (Value.int .u8) := by unfold fval; rw [List.take_length]

set_option maxHeartbeats 4000000 in
theorem concat_aux (p : Option Addr) (kc : Nat) (ZZ : List (List Int)) (w : World) (hP : Parts w p ZZ) (k T : Nat) (hk : k = ZZ.length) (hT : T = flen ZZ ZZ.length) (hbig : T ≤ 200000000000000) :
    Calls Tryd.prog 51 #[.slice p k kc] w fun r w' => ∃ v, r = .returned v ∧ w'.ownsRow w.heap.size 5 1 v T (fval ZZ k) ∧ Below w.heap.size w w' := by
  obtain ⟨i0, hi, hz0, hz1, hz2⟩ := info_parts info5'
  obtain ⟨hk63, hP⟩ := hP
  have HP : Hid (ZZ = [] ∨ ∃ b off, p = some ⟨b, off, none⟩ ∧ ∀ i, i < ZZ.length → ∃ v, w.cell? ⟨b, off + i, none⟩ = some v ∧ Sl w v (ZZ.getD i [])) := hP
  have HK : Hid (k = ZZ.length) := hk
  have HT : Hid (T = flen ZZ k) := by rw [hk]; exact hT
  have HLE : Hid (∀ j, flen ZZ j ≤ T) := fun j => by rw [hT, flen_all]; exact flen_le ZZ j
  rw [← hk] at hk63
  clear hk hT hP
  go_enter Tryd.func51, Tryd.ntmps51
  go_wp2
  go_loop [3, 11] (fun n i => ∃ j : Nat, j ≤ k ∧ i = .int .i64 j ∧ n = .int .i64 (flen ZZ j : Nat)) (fun _ i => k - (intOf i).toNat)
  case atStart => exact ⟨0, by omega, rfl, rfl⟩
  case round =>
    obtain ⟨j, hj, rfl, rfl⟩ := hrel
    by_cases hlt : j < k
    · rcases HP.out with h0 | ⟨b, off, rfl, hall⟩
      · have := HK.out; rw [h0] at this; simp at this; omega
      · obtain ⟨v, hc, a, cap, rfl, h1, h2, h3, h4⟩ := hall j (by rw [← HK.out]; exact hlt)
        have hs := flen_succ ZZ j (by rw [← HK.out]; exact hlt)
        have hle := HLE.out (j + 1)
        have HS : Hid (flen ZZ (j + 1) = flen ZZ j + (ZZ.getD j []).length) := hs
        have hsum : flen ZZ j + (ZZ.getD j []).length ≤ 200000000000000 := by omega
        clear hs hle h4 hall h1 h2 h3
        generalize hL : (ZZ.getD j []).length = L at *
        have HL : Hid ((ZZ.getD j []).length = L) := hL
        clear hL
        go_wp2
        go_round
        case rel => exact ⟨j + 1, by omega, by go_num, by rw [HS.out]; go_num⟩
        case measure => simp [intOf]; omega
    · obtain rfl : j = k := by omega
      rw [← HT.out]
      have cg := grow_any T w hbig
      clear hlt
      go_wp2_with (go_at_call 65; refine cg.mono ?_; rintro e w1 ⟨v1, rfl, own1, bel1⟩)
      clear cg
      go_loopw [6, 27] (fun v i wr => ∃ m : Nat, m ≤ j ∧ i = .int .i64 m ∧ wr.ownsRow w.heap.size 5 1 v (flen ZZ m) (fval ZZ m) ∧ Below w.heap.size w wr) (fun _ i _ => j - (intOf i).toNat)
      case atStart => exact ⟨0, by omega, rfl, own1, bel1⟩
      case round =>
        clear own1 bel1
        obtain ⟨m, hm, rfl, hown, hbel⟩ := hrel
        by_cases hlt : m < j
        · rcases HP.out with h0 | ⟨b, off, rfl, hall⟩
          · have := HK.out; rw [h0] at this; simp at this; omega
          · obtain ⟨v, hc, a, cap, rfl, h1, h2, h3, h4⟩ := hall m (by rw [← HK.out]; exact hlt)
            have hcr : wr.cell? ⟨b, off + m, none⟩ = some (.slice a (ZZ.getD m []).length cap) := (hbel.cell (p := ⟨b, off + m, none⟩) (World.block_lt_of_cell? _ _ hc)).trans hc
            have HR : Hid (Row wr a (ZZ.getD m []).length cap (ZZ.getD m [])) := h4.kept hbel
            have HS : Hid (flen ZZ (m + 1) = flen ZZ m + (ZZ.getD m []).length) := flen_succ ZZ m (by rw [← HK.out]; exact hlt)
            have HV : Hid (fval ZZ (m + 1) = fval ZZ m ++ (ZZ.getD m []).map (Value.int .u8)) := fval_succ ZZ m (by rw [← HK.out]; exact hlt)
            have hsum : flen ZZ m + (ZZ.getD m []).length ≤ 200000000000000 := by have h5 := HLE.out (m + 1); rw [HS.out] at h5; omega
            have hob := own_base hown
            have hsz := hbel.size
            have hcap : Hid (a = none → cap = 0) := h3
            clear hc h4 hall h1 h2 h3
            generalize ZZ.getD m [] = X at *
            obtain ⟨L, hL⟩ : ∃ L, L = X.length := ⟨_, rfl⟩
            have HL : Hid (L = X.length) := hL
            rw [← hL] at hcr hsum
            clear hL
            cases a with
            | none =>
              obtain rfl : cap = 0 := hcap.out rfl
              have hX : X = [] := by
                rcases HR.out with h | ⟨_, _, _, e, _⟩
                · exact List.length_eq_zero_iff.1 h
                · cases e
              have hL0 : L = 0 := by rw [HL.out, hX]; rfl
              subst hL0
              go_wp2_with (at_builtin; refine wpList_append_own_none rfl _ _ 25 rfl w.heap.size 5 i0 1 Tryd.underlying25 hi _ _ _ rfl hown rfl ?_)
              go_wp2
              go_roundw
              case rel =>
                refine ⟨m + 1, by omega, ?_, ?_, hbel⟩
                · go_num
                · rw [HS.out, HV.out, hX]; simpa using hown
              case measure => simp [intOf]; omega
            | some x =>
              go_wp2_with (at_builtin; refine wpList_append_own_wide _ rfl _ _ 25 rfl w.heap.size 5 i0 (.int .u8 0) 1 1 Tryd.underlying25 hi hz0 hz1 hz2 rfl (by decide) _ _ _ rfl hown x L cap (X.map (Value.int .u8)) rfl (by rw [List.length_map, HL.out, Nat.mul_one]) (news_row HR.out) (ints_one X) (by unfold maxLen; omega) (by omega) hsz ?_)
              intro v' w2 hown' hgrow _
              have hbel' : Below w.heap.size w w2 := hbel.grown hgrow hsz hob
              clear hown hgrow hbel hob hsz
              go_wp2
              go_roundw
              case rel =>
                refine ⟨m + 1, by omega, ?_, ?_, hbel'⟩
                · go_num
                · rw [HS.out, HV.out, ← HL.out]; exact hown'
              case measure => simp [intOf]; omega
        · obtain rfl : m = j := by omega
          go_wp2
          go_ret
          exact ⟨_, rfl, by rw [HT.out]; exact hown, hbel⟩

theorem concat_any (p : Option Addr) (kc : Nat) (ZZ : List (List Int)) (w : World) (hP : Parts w p ZZ) (hbig : ZZ.flatten.length ≤ 200000000000000) :
    Calls Tryd.prog 51 #[.slice p ZZ.length kc] w fun r w' => ∃ v, r = .returned v ∧ w'.ownsRow w.heap.size 5 1 v ZZ.flatten.length (ZZ.flatten.map (Value.int .u8)) ∧ Below w.heap.size w w' := by
  have h := concat_aux p kc ZZ w hP ZZ.length (flen ZZ ZZ.length) rfl rfl (by rw [flen_all]; exact hbig)
  rw [flen_all, fval_all] at h
  exact h

theorem bytes_flat (ZZ : List (List Int)) (h : ∀ X ∈ ZZ, ∀ i, 0 ≤ X.getD i 0 ∧ X.getD i 0 < 256) : ∀ i, 0 ≤ ZZ.flatten.getD i 0 ∧ ZZ.flatten.getD i 0 < 256 := by
  refine byteList _ ?_
  rw [List.all_eq_true]
  intro z hz
  obtain ⟨X, hX, hzX⟩ := List.mem_flatten.1 hz
  obtain ⟨i, hi, rfl⟩ := List.getElem_of_mem hzX
  have := h X hX i
  simp [List.getD, List.getElem?_eq_getElem hi] at this
  simpa using this

theorem join_any (p : Option Addr) (kc : Nat) (ZZ : List (List Int)) (w : World) (hP : Parts w p ZZ) (hbig : ZZ.flatten.length ≤ 200000000000000) :
    Calls Tryd.prog 34 #[.slice p ZZ.length kc] w fun r w' => ∃ v, r = .returned v ∧ w'.ownsRow w.heap.size 5 1 v ZZ.flatten.length (ZZ.flatten.map (Value.int .u8)) ∧ Below w.heap.size w w' := by
  have h := concat_any p kc ZZ w hP hbig
  generalize ZZ.flatten.length = T at *
  generalize ZZ.flatten.map (Value.int .u8) = V at *
  generalize ZZ.length = k at *
  go_enter Tryd.func34, Tryd.ntmps34
  go_wp2_with (go_at_call 51; refine h.mono ?_; rintro e w1 ⟨v1, rfl, own1, bel1⟩)
  go_ret
  exact ⟨_, rfl, by assumption, by assumption⟩
end Go.Proofs.YthhghehnaopmhaaDoor.Fi
