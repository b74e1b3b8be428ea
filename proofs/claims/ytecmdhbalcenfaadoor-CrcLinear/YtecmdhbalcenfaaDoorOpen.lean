/-
  What crc.Seal, bytes.Equal and crc.Open answer; nothing that was there is changed. Condition: the table of half bytes holds what its initialiser lays.
-/
import Derived.Test.YtecmdhbalcenfaaDoorByt
import Derived.Deep.RegionHeld3
namespace Go.Proofs.YtecmdhbalcenfaaDoor
open Go.RowKit

theorem Tab.pos {w : World} (h : Tab w) : 0 < w.heap.size := World.block_lt_of_cell? w _ (h 0 (by omega))
theorem Tab.below {w w' : World} {B : Nat} (h : Tab w) (hb : Below B w w') (hB : 0 < B) : Tab w' := fun i hi => (hb.cell (p := ⟨0, i, none⟩) hB).trans (h i hi)

theorem bytes_take (xs : List Int) (m : Nat) (hx : ∀ i, 0 ≤ xs.getD i 0 ∧ xs.getD i 0 < 256) : ∀ i, 0 ≤ (xs.take m).getD i 0 ∧ (xs.take m).getD i 0 < 256 := by
  intro i
  by_cases hi : i < m
  · have := hx i
    simpa [List.getD, List.getElem?_take, hi] using this
  · simp [List.getD, List.getElem?_take, hi]
theorem bytes_drop (xs : List Int) (m : Nat) (hx : ∀ i, 0 ≤ xs.getD i 0 ∧ xs.getD i 0 < 256) : ∀ i, 0 ≤ (xs.drop m).getD i 0 ∧ (xs.drop m).getD i 0 < 256 := by
  intro i
  have := hx (m + i)
  simpa [List.getD, List.getElem?_drop] using this

theorem Sl.take {w : World} {a : Option Addr} {len cap : Nat} {xs : List Int} (h : Sl w (.slice a len cap) xs) (m : Nat) (hm : m ≤ len) : Sl w (.slice a m cap) (xs.take m) := by
  obtain ⟨a', cap', e, h1, h2, h3, h4⟩ := h
  cases e
  have hlen : (xs.take m).length = m := by rw [List.length_take]; omega
  have hr := h4.cut m (by omega)
  refine ⟨a, cap, by rw [hlen], by rw [hlen]; omega, h2, h3, ?_⟩
  rw [hlen]
  rcases hr with h | ⟨hp, b, off, rfl, h1, h2, hc, hz'⟩
  · exact .inl h
  · refine .inr ⟨hp, b, off, rfl, h1, h2, fun i hi => ?_, bytes_take xs m hz'⟩
    rw [hc i hi]; simp [List.getD, hi]

theorem Sl.drop {w : World} {b off len cap : Nat} {xs : List Int} (h : Sl w (.slice (some ⟨b, off, Option.none⟩) len cap) xs) (n : Nat) (hn : n ≤ len) : Sl w (.slice (some ⟨b, off + n, Option.none⟩) (len - n) (cap - n)) (xs.drop n) := by
  obtain ⟨a', cap', e, h1, h2, h3, h4⟩ := h
  cases e
  have hl : (xs.drop n).length = xs.length - n := List.length_drop ..
  refine ⟨_, cap - n, by rw [hl], by rw [hl]; omega, by omega, fun e => (by cases e), ?_⟩
  rw [hl]
  rcases h4 with h | ⟨hp, b', off', e, hlc, hm, hc, hz⟩
  · exact .inl (by omega)
  · cases e
    rcases Nat.eq_zero_or_pos (xs.length - n) with h0 | h0
    · exact .inl h0
    · refine .inr ⟨h0, b, off + n, rfl, by omega, by omega, fun i hi => ?_, bytes_drop xs n hz⟩
      rw [show off + n + i = off + (n + i) by omega, hc (n + i) (by omega)]
      simp [List.getD, List.getElem?_drop]

theorem strB_toList (X : List Int) : (strB X).toList = X.map fun n => UInt8.ofNat n.toNat := ByteArray.toList_mk _
theorem strB_inj {X Y : List Int} (hX : ∀ i, 0 ≤ X.getD i 0 ∧ X.getD i 0 < 256) (hY : ∀ i, 0 ≤ Y.getD i 0 ∧ Y.getD i 0 < 256) (h : (strB X).toList = (strB Y).toList) : X = Y := by
  rw [strB_toList, strB_toList] at h
  have hl : X.length = Y.length := by have := congrArg List.length h; simpa using this
  refine List.ext_getElem hl fun i h1 h2 => ?_
  have h3 := congrArg (fun l => l[i]?) h
  simp only [List.getElem?_map, List.getElem?_eq_getElem h1, List.getElem?_eq_getElem h2, Option.map_some, Option.some.injEq] at h3
  have h4 := congrArg UInt8.toNat h3
  simp only [UInt8.toNat_ofNat'] at h4
  have h5 := hX i
  have h6 := hY i
  simp only [List.getD, List.getElem?_eq_getElem h1, List.getElem?_eq_getElem h2, Option.getD_some] at h5 h6
  omega
theorem strB_beq {X Y : List Int} (hX : ∀ i, 0 ≤ X.getD i 0 ∧ X.getD i 0 < 256) (hY : ∀ i, 0 ≤ Y.getD i 0 ∧ Y.getD i 0 < 256) : ((strB X).toList == (strB Y).toList) = decide (X = Y) := by
  by_cases h : X = Y
  · subst h; simp
  · rw [decide_eq_false h]
    have : ¬ (strB X).toList = (strB Y).toList := fun e => h (strB_inj hX hY e)
    simpa using this

set_option maxHeartbeats 1000000 in
theorem equal_any (v u : Value) (X Y : List Int) (w : World) (s1 : Sl w v X) (s2 : Sl w u Y) :
    Calls Tryd.prog 21 #[v, u] w fun r w' => r = .returned (.bool (decide (X = Y))) ∧ w' = w := by
  have HD : Hid (((strB X).toList == (strB Y).toList) = decide (X = Y)) := strB_beq s1.bytes s2.bytes
  obtain ⟨a, cap, rfl, _⟩ := id s1
  obtain ⟨a', cap', rfl, _⟩ := id s2
  have c1 := s1.conv
  have c2 := s2.conv
  clear s1 s2
  generalize X.length = L1 at *
  generalize Y.length = L2 at *
  generalize strB X = S1 at *
  generalize strB Y = S2 at *
  go_enter Tryd.func21, Tryd.ntmps21
  go_wp2
  go_ret
  exact ⟨by rw [← HD.out]; rfl, rfl⟩

set_option maxHeartbeats 1000000 in
theorem seal_any (v : Value) (xs : List Int) (w : World) (hw : Tab w) (sl : Sl w v xs) (hbig : xs.length ≤ 100000000000000) :
    Calls Tryd.prog 17 #[v] w fun r w' => ∃ v', r = .returned v' ∧ w'.ownsRow w.heap.size 5 1 v' (xs ++ leB (sumOf xs)).length ((xs ++ leB (sumOf xs)).map (Value.int .u8)) ∧ Below w.heap.size w w' := by
  have c1 := of_any v xs w hw sl
  have c2 := bytes_any (sumOf xs) w
  obtain ⟨a, cap, rfl, _⟩ := id sl
  generalize hC : sumOf xs = C at *
  have hfl : [xs, leB C].flatten = xs ++ leB C := by simp
  have HC : Hid (∀ (w1 : World) u1 u2, Sl w1 u1 xs → Sl w1 u2 (leB C) → Calls Tryd.prog 23 #[.slice (some ⟨w1.heap.size, 0, none⟩) 2 2] (w1.alloc (.cells #[u1, u2] 23)) fun r w' => ∃ v, r = .returned v ∧ w'.ownsRow (w1.heap.size + 1) 5 1 v (xs ++ leB C).length ((xs ++ leB C).map (Value.int .u8)) ∧ Below (w1.heap.size + 1) (w1.alloc (.cells #[u1, u2] 23)) w') := fun w1 u1 u2 s1 s2 => by
    have h := concat_any _ 2 _ _ (parts2 w1 u1 u2 xs (leB C) s1 s2) (by rw [hfl, List.length_append]; simp [leB]; omega)
    rw [hfl] at h
    simpa using h
  clear hfl
  have HSL : Hid (∀ w', Below w.heap.size w w' → Sl w' (.slice a xs.length cap) xs) := fun w' hb => sl.kept hb
  clear sl hw
  generalize xs.length = L at *
  go_enter Tryd.func17, Tryd.ntmps17
  go_wp2_with fail
  refine c1.mono ?_
  rintro e w1 ⟨rfl, e1⟩
  subst e1
  clear c1
  go_wp2_with fail
  refine c2.mono ?_
  rintro e w2 ⟨v2, rfl, sl2, bel2⟩
  clear c2
  have c3 := HC.out w2 _ v2 (HSL.out _ bel2) sl2
  obtain ⟨a2, cap2, rfl, _⟩ := sl2
  clear HC HSL
  have hl4 : (leB C).length = 4 := rfl
  rw [hl4] at c3 ⊢
  go_wp2_with fail
  refine c3.mono ?_
  rintro e w3 ⟨v3, rfl, own3, bel3⟩
  clear c3
  have B3 : Below w1.heap.size w1 w3 := (bel2.alloc bel2.size _).trans (bel3.mono (by have := bel2.size; omega))
  have HO : Hid (w3.ownsRow w1.heap.size 5 1 v3 (xs ++ leB C).length ((xs ++ leB C).map (Value.int .u8))) := own_mono own3 (by have := bel2.size; omega)
  clear own3 bel3 bel2
  go_wp2
  go_ret
  exact ⟨_, rfl, HO.out, B3⟩

/-- What Open answers. -/
def opE (ys : List Int) : Int := if ys.length < 4 then 3 else if ys.drop (ys.length - 4) = leB (sumOf (ys.take (ys.length - 4))) then 0 else 14
def opX (ys : List Int) : List Int := if opE ys = 0 then ys.take (ys.length - 4) else []

set_option maxHeartbeats 1000000 in
theorem open_any (v : Value) (ys : List Int) (w : World) (hw : Tab w) (sl : Sl w v ys) (hbig : ys.length ≤ 100000000000000) :
    Calls Tryd.prog 15 #[v] w fun r w' => ∃ v', r = .returned (.tuple #[v', .int .i64 (opE ys)]) ∧ Sl w' v' (opX ys) ∧ Below w.heap.size w w' := by
  obtain ⟨a, cap, rfl, h1, h2, h3, h4⟩ := id sl
  by_cases hs : ys.length < 4
  · have e1 : opE ys = 3 := by unfold opE; rw [if_pos hs]
    have e2 : opX ys = [] := by unfold opX; rw [e1]; rfl
    rw [e1, e2]
    clear e1 e2 sl h4 h3
    generalize ys.length = L at *
    go_enter Tryd.func15, Tryd.ntmps15
    go_wp2
    go_ret2
    exact ⟨_, rfl, Sl.none _, Below.refl _ _⟩
  · obtain ⟨b, off, rfl⟩ : ∃ b off, a = some ⟨b, off, none⟩ := by
      rcases h4 with h | ⟨_, b, off, e, _⟩
      · omega
      · exact ⟨b, off, e⟩
    have st := sl.take (ys.length - 4) (by omega)
    have sd := sl.drop (ys.length - 4) (by omega)
    have hX : Hid (opE ys = if ys.drop (ys.length - 4) = leB (sumOf (ys.take (ys.length - 4))) then 0 else 14) := by unfold Hid opE; rw [if_neg hs]
    have hY : Hid (opX ys = if opE ys = 0 then ys.take (ys.length - 4) else []) := rfl
    have hlt : (ys.take (ys.length - 4)).length ≤ 200000000000000 := by rw [List.length_take]; omega
    have hby := bytes_take ys (ys.length - 4) sl.bytes
    generalize opX ys = X at *
    generalize opE ys = E at *
    generalize ys.take (ys.length - 4) = A at *
    generalize ys.drop (ys.length - 4) = D at *
    have hp := hw.pos
    have bd : Below w.heap.size w w.drew := (Below.refl _ w).drew
    have sd := sd.kept bd
    have st := st.kept bd
    have c1 := of_any _ A w.drew (hw.below bd hp) st
    have c2 := bytes_any (sumOf A) w.drew
    have hby : Hid (∀ i, 0 ≤ A.getD i 0 ∧ A.getD i 0 < 256) := hby
    clear hw sl h4 h3
    generalize sumOf A = C at *
    have hln : ys.length - (ys.length - 4) = 4 := by omega
    rw [hln] at sd
    clear hln
    have hM : ys.length ≤ 100000000000004 := by omega
    generalize ys.length = L at *
    obtain ⟨M, rfl⟩ : ∃ M, L = M + 4 := ⟨L - 4, by omega⟩
    rw [show M + 4 - 4 = M by omega] at st sd c1
    have hcM : ¬ cap = M := by omega
    unfold maxLen at h2
    go_enter Tryd.func15, Tryd.ntmps15
    go_wp2
    go_region
    all_goals
      go_wp2_with fail
      refine c1.mono ?_
      rintro e w1 ⟨rfl, e1⟩
      rw [e1]
      clear c1 e1
      go_wp2_with fail
      refine c2.mono ?_
      rintro e w2 ⟨v2, rfl, sl2, bel2⟩
      clear c2
      have B2 : Below w.heap.size w w2 := bd.trans (bel2.mono bd.size)
      have c3 := equal_any _ v2 _ _ w2 (sd.kept bel2) sl2
      have st2 := st.kept bel2
      have c4 := clone_any _ A w2 st2 hlt
      obtain ⟨a2, cap2, rfl, _⟩ := sl2
      clear st2 st sd hlt
      by_cases hq : D = leB C
      · rw [decide_eq_true hq] at c3
        have hE : E = 0 := by rw [hX.out, if_pos hq]
        have hXA : X = A := by rw [hY.out, if_pos hE]
        subst hE hXA
        clear hq hX hY
        have HB : Hid (∀ i, 0 ≤ X.getD i 0 ∧ X.getD i 0 < 256) := hby
        generalize (leB C).length = K at *
        go_wp2_with fail
        refine c3.mono ?_
        rintro e w3 ⟨rfl, e3⟩
        subst e3
        clear c3
        go_wp2_with fail
        refine c4.mono ?_
        rintro e w4 ⟨v4, rfl, own4, bel4⟩
        clear c4
        have B4 : Below w.heap.size w w4 := B2.trans (bel4.mono B2.size)
        have HS : Hid (Sl w4 v4 X) := sl_owned own4 HB.out
        clear own4 bel4 bel2
        go_wp2
        go_ret2
        exact ⟨_, rfl, HS.out, B4⟩
      · rw [decide_eq_false hq] at c3
        have hE : E = 14 := by rw [hX.out, if_neg hq]
        have hXA : X = [] := by rw [hY.out, if_neg (by rw [hE]; decide)]
        subst hE hXA
        clear hq hX hY c4
        generalize (leB C).length = K at *
        go_wp2_with fail
        refine c3.mono ?_
        rintro e w3 ⟨rfl, e3⟩
        subst e3
        clear c3
        go_wp2
        go_ret2
        exact ⟨_, rfl, Sl.none _, B2⟩
end Go.Proofs.YtecmdhbalcenfaaDoor
