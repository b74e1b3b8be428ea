/-
  Texts on Mk, Cf, Tl, Fn, Sm2, in one.
-/
import Derived.Test.YtdnbiibijoggoaaGreatDoorIc
import Derived.Test.YtdnbiibijoggoaaGreatDoorTc
import Derived.Test.YtdnbiibijoggoaaGreatDoorIa
import Derived.Test.YtdnbiibijoggoaaGreatDoorPa
namespace Go.Proofs.YtdnbiibijoggoaaGreatDoor
open Go.RowKit
set_option maxRecDepth 100000

/-- What the walks ask of the world. -/
def Wd (w : World) : Prop := Tb w ∧ Mx w
theorem Wd.kept {w w' : World} (h : Wd w) (hb : Below w.heap.size w w') : Wd w' := ⟨h.1.kept hb, h.2.kept hb⟩
/-- A tree's items. -/
def mak (l : List En) : List It × Int := if ckT l ≠ 0 then ([], ckT l) else (l.map itm, 0)
set_option maxHeartbeats 2000000 in
theorem make_any (v : Value) (l : List En) (w : World) (h : ES w v l) (hl : Lt l) (hw : Wd w) :
    Calls Tryz.prog 8 #[v] w fun e w' => ∃ v', e = .returned (.tuple #[v', .int .i64 (mak l).2]) ∧ RI w' w.heap.size v' (mak l).1 ∧ Below w.heap.size w w' := by
  have CK := checkT_any v l w h hl hw.2
  obtain ⟨a, c, rfl, h2, h3, h4⟩ := h.shape
  have HS : Hid (ES w (.slice a l.length c) l) := h
  have HL : Hid (Lt l) := hl
  have HW : Hid (Wd w) := hw
  have hn := hl.1
  obtain ⟨n, hn'⟩ : ∃ n, n = l.length := ⟨_, rfl⟩
  have HN : Hid (n = l.length) := hn'
  rw [← hn'] at HS h2 hn CK ⊢
  have HM : Hid (mak l = if ckT l ≠ 0 then ([], ckT l) else (l.map itm, 0)) := rfl
  clear h hl h3 h4 hn' hw
  generalize mak l = R at *
  generalize ckT l = k at *
  go_enter Tryz.func8, Tryz.ntmps8
  go_wp2_with fail
  refine CK.mono ?_
  rintro e w1 ⟨rfl, b1⟩
  clear CK
  have B1 : Hid (Below w.heap.size w w1) := b1
  clear b1
  by_cases hk : k = 0
  · subst hk
    obtain rfl : R = (l.map itm, 0) := by have := HM.out; simpa using this
    go_wp2
    go_loopw [5, 15] (fun s q wr => ∃ j : Nat, j ≤ n ∧ q = .int .i64 j ∧ RI wr w.heap.size s ((l.take j).map itm) ∧ Below w.heap.size w wr) (fun _ q _ => n - (intOf q).toNat)
    case atStart => exact ⟨0, by omega, rfl, RI.nil _ _, B1.out⟩
    case round =>
      obtain ⟨j, hj, rfl, oe, bel⟩ := hrel
      have HB : Hid (Below w.heap.size w wr) := bel
      have HO : Hid (RI wr w.heap.size u5 ((l.take j).map itm)) := oe
      obtain ⟨va, vc, rfl, hv, _, _⟩ := oe.is.shape
      have hlj : ((l.take j).map itm).length = j := by rw [List.length_map, List.length_take, ← HN.out]; omega
      rw [hlj] at HO ⊢
      clear bel hv oe
      by_cases hlt : j < n
      · have lt2 : (j : Int) < (n : Int) := by omega
        obtain ⟨b, off, ua, un, uc, rfl, c1, c2, c3, hun, hsl⟩ := (HS.out.kept HB.out).at j (by rw [← HN.out]; exact hlt)
        have hz := (HL.out.at j).2
        have HT : Hid ((l.take (j + 1)).map itm = (l.take j).map itm ++ [itm (atE l j)]) := by unfold Hid; rw [take_at l j (by rw [← HN.out]; exact hlt)]; simp
        generalize atE l j = x at *
        have hy := itm_ok x hz
        obtain ⟨W1, hW1⟩ : ∃ W1, W1 = wr.alloc (.cells #[.string x.p, .bool x.d, .slice ua un uc] 54) := ⟨_, rfl⟩
        have b1 : Below wr.heap.size wr W1 := by rw [hW1]; exact al_below _ _
        have B2 : Hid (Below w.heap.size w W1) := HB.out.trans (b1.mono HB.out.size)
        have CO := item_any (.agg #[.string x.p, .bool x.d, .slice ua un uc]) x W1 ⟨ua, un, uc, rfl, hsl.kept b1⟩ (HW.out.kept B2.out).1 hz
        have O1 : Hid (RI W1 w.heap.size (.slice va j vc) ((l.take j).map itm)) := HO.out.below b1
        clear b1 hun hsl HO hz
        have HY : Hid (It.ok (itm x)) := hy
        clear hy
        generalize itm x = y at *
        generalize (l.take j).map itm = L at *
        have HJ : Hid (L.length = j) := hlj
        clear hlj
        unfold It.val at CO
        go_wp2_with fail
        rw [← hW1]
        clear hW1
        refine CO.mono ?_
        rintro e w2 ⟨rfl, b2⟩
        clear CO
        obtain ⟨W3, hW3⟩ : ∃ W3, W3 = w2.alloc (.cells y.cells.toArray 42) := ⟨_, rfl⟩
        have b3 : Below w2.heap.size w2 W3 := by rw [hW3]; exact al_below _ _
        have b13 : Below W1.heap.size W1 W3 := b2.trans (b3.mono b2.size)
        have B3 : Hid (Below w.heap.size w W3) := B2.out.trans (b13.mono B2.out.size)
        have R3 : Hid (RI W3 w.heap.size (.slice va j vc) L) := O1.out.below b13
        have K3 : Hid (W3.rangeAt w2.heap.size 0 y.cells) := by unfold Hid; rw [hW3]; exact (IB.new w2 y).range
        clear b2 b3 b13 O1
        go_wp2_with (refine wpList_bsI rfl _ rfl y HY.out rfl (Hid.out ?_))
        unfold Hid
        rw [← hW3]
        clear hW3
        go_wp2_with (at_builtin; refine wpList_append_it rfl _ _ rfl w.heap.size _ L rfl R3.out w2.heap.size y 1 HY.out rfl K3.out (by rw [HJ.out]; omega) B3.out.size (Hid.out ?_))
        unfold Hid
        intro v4 w4 r4 g4
        have B4 : Hid (Below w.heap.size w w4) := B3.out.grown g4 B3.out.size (own_base R3.out.1)
        have O4 : Hid (RI w4 w.heap.size v4 ((l.take (j + 1)).map itm)) := by
          unfold Hid
          rw [HT.out]
          exact r4
        clear r4 g4 R3 K3
        go_wp2
        go_roundw
        case rel => exact ⟨j + 1, by omega, by go_num, O4.out, B4.out⟩
        case measure => simp [intOf]; omega
      · obtain rfl : j = n := by omega
        have HR : Hid (RI wr w.heap.size (.slice va j vc) (l.map itm)) := by
          have h1 := HO.out
          have h2 : l.take j = l := by rw [HN.out, List.take_length]
          rw [h2] at h1
          exact h1
        go_wp2
        go_ret2
        exact ⟨_, rfl, HR.out, HB.out⟩
  · obtain rfl : R = ([], k) := by have := HM.out; rwa [if_pos hk] at this
    have hk2 : (k != 0) = true := by simpa using hk
    go_wp2
    go_ret2
    exact ⟨_, rfl, RI.nil _ _, B1.out⟩
end Go.Proofs.YtdnbiibijoggoaaGreatDoor

namespace Go.Proofs.YtdnbiibijoggoaaGreatDoor
open Go.RowKit
set_option maxRecDepth 100000

theorem any_hit (l : List It) (f : It → Bool) (j : Nat) (hj : j < l.length) (h : f (atI l j) = true) : l.any f = true := List.any_eq_true.2 ⟨_, atI_mem l j hj, h⟩
theorem any_none (l : List It) (f : It → Bool) (h : ∀ k, k < l.length → f (atI l k) = false) : l.any f = false := by
  rw [List.any_eq_false]
  intro x hx
  obtain ⟨k, hk, rfl⟩ := List.getElem_of_mem hx
  have := h k hk
  rw [atI_eq l k hk] at this
  simp [this]

set_option maxHeartbeats 1000000 in
theorem idxO_any (v : Value) (l : List It) (w : World) (h : IS w v l) (hl : l.length ≤ 100000) :
    Calls Tryz.prog 60 #[v, .func (.func 36) #[] #[]] w fun e w' => ∃ r : Int, e = .returned (.int .i64 r) ∧ decide (0 ≤ r) = l.any outI ∧ Below w.heap.size w w' := by
  obtain ⟨a, c, rfl, h2, h3, h4⟩ := h.shape
  have HS : Hid (IS w (.slice a l.length c) l) := h
  have HOK : Hid (∀ x ∈ l, x.ok) := h.ok
  have HHIT : Hid (∀ j, j < l.length → outI (atI l j) = true → l.any outI = true) := fun j hj h => any_hit l outI j hj h
  have HNO : Hid ((∀ k, k < l.length → outI (atI l k) = false) → l.any outI = false) := any_none l outI
  obtain ⟨n, hn'⟩ : ∃ n, n = l.length := ⟨_, rfl⟩
  have HN : Hid (n = l.length) := hn'
  have hn := hl
  rw [← hn'] at HS h2 hn HHIT HNO ⊢
  clear h hl h3 h4 hn'
  generalize l.any outI = r at *
  go_enter Tryz.func60, Tryz.ntmps60
  go_wp2
  go_loopw [8] (fun q wr => ∃ j : Nat, j ≤ n ∧ q = .int .i64 j ∧ (∀ k, k < j → outI (atI l k) = false) ∧ Below w.heap.size w wr) (fun q _ => n - (intOf q).toNat)
  case atStart => exact ⟨0, by omega, rfl, fun k hk => by omega, Below.refl _ _⟩
  case round =>
    obtain ⟨j, hj, rfl, ok, bel⟩ := hrel
    have HB : Hid (Below w.heap.size w wr) := bel
    have OK : Hid (∀ k, k < j → outI (atI l k) = false) := ok
    clear bel ok
    by_cases hlt : j < n
    · have lt2 : (j : Int) < (n : Int) := by omega
      have ge0 : Hid (decide (0 ≤ (j : Int)) = true) := by unfold Hid; simp
      obtain ⟨b, off, rfl, hr⟩ := (HS.out.kept HB.out).at j (by rw [← HN.out]; exact hlt)
      have hx : (atI l j).ok := It.at l HOK.out j
      have HF : Hid (outI (atI l j) = true → r = true) := HHIT.out j hlt
      have NX : Hid (outI (atI l j) = false → ∀ k, k < j + 1 → outI (atI l k) = false) := fun h k hk => by
        rcases Nat.lt_or_ge k j with h' | h'
        · exact OK.out k h'
        · rw [show k = j by omega]; exact h
      generalize atI l j = x at *
      have RN : Hid (wr.rangeAt b (off + j * 35) x.cells) := hr
      have HZ : Hid ((Tryz.prog.info? 42).map (·.size) = some x.cells.length) := sizeI.trans (by rw [It.len hx])
      have CS : Calls Tryz.prog 36 #[x.val] wr fun e w' => e = .returned (.bool (outI x)) ∧ Below wr.heap.size wr w' := (fun W => out_any x W) wr
      unfold It.val at CS
      clear hr hx HHIT OK
      generalize outI x = sb at *
      generalize x.cells = cs at *
      go_wp2_with (refine wpList_load_mid rfl 42 _ rfl b (off + j * 35) rfl cs _ RN.out Tryz.underlying42 rfl HZ.out (Hid.out ?_))
      unfold Hid
      go_wp2_with fail
      refine CS.mono ?_
      rintro e w3 ⟨rfl, b3⟩
      have B3 : Hid (Below w.heap.size w w3) := HB.out.trans (b3.mono HB.out.size)
      clear b3 CS
      cases sb with
      | false =>
        have NX2 : Hid (∀ k, k < j + 1 → outI (atI l k) = false) := NX.out rfl
        clear NX HF
        go_wp2
        go_roundw
        case rel => exact ⟨j + 1, by omega, by go_num, NX2.out, B3.out⟩
        case measure => simp [intOf]; omega
      | true =>
        have HF2 : Hid (r = true) := HF.out rfl
        clear NX HF
        go_wp2
        go_ret
        exact ⟨_, rfl, by rw [HF2.out]; exact ge0.out, B3.out⟩
    · obtain rfl : j = n := by omega
      have HR : Hid (r = false) := HNO.out OK.out
      clear HNO HHIT OK
      go_wp2
      go_ret
      exact ⟨_, rfl, by rw [HR.out]; rfl, HB.out⟩
set_option maxHeartbeats 1000000 in
theorem contO_any (v : Value) (l : List It) (w : World) (h : IS w v l) (hl : l.length ≤ 100000) :
    Calls Tryz.prog 35 #[v, .func (.func 36) #[] #[]] w fun e w' => e = .returned (.bool (l.any outI)) ∧ Below w.heap.size w w' := by
  have c := idxO_any v l w h hl
  obtain ⟨a, c', rfl, _, _, _⟩ := h.shape
  generalize l.length = n at *
  generalize l.any outI = q at *
  clear h hl
  go_enter Tryz.func35, Tryz.ntmps35
  go_wp2_with fail
  refine c.mono ?_
  rintro e w1 ⟨r, rfl, hr, b1⟩
  clear c
  have HR : Hid (decide (0 ≤ r) = q) := hr
  have B1 : Hid (Below w.heap.size w w1) := b1
  clear hr b1
  go_wp2
  go_ret
  exact ⟨by rw [← HR.out]; rfl, B1.out⟩

set_option maxHeartbeats 1000000 in
theorem idxD_any (v : Value) (l : List It) (w : World) (h : IS w v l) (hl : l.length ≤ 100000) :
    Calls Tryz.prog 60 #[v, .func (.func 37) #[] #[]] w fun e w' => ∃ r : Int, e = .returned (.int .i64 r) ∧ decide (0 ≤ r) = l.any dirI ∧ Below w.heap.size w w' := by
  obtain ⟨a, c, rfl, h2, h3, h4⟩ := h.shape
  have HS : Hid (IS w (.slice a l.length c) l) := h
  have HOK : Hid (∀ x ∈ l, x.ok) := h.ok
  have HHIT : Hid (∀ j, j < l.length → dirI (atI l j) = true → l.any dirI = true) := fun j hj h => any_hit l dirI j hj h
  have HNO : Hid ((∀ k, k < l.length → dirI (atI l k) = false) → l.any dirI = false) := any_none l dirI
  obtain ⟨n, hn'⟩ : ∃ n, n = l.length := ⟨_, rfl⟩
  have HN : Hid (n = l.length) := hn'
  have hn := hl
  rw [← hn'] at HS h2 hn HHIT HNO ⊢
  clear h hl h3 h4 hn'
  generalize l.any dirI = r at *
  go_enter Tryz.func60, Tryz.ntmps60
  go_wp2
  go_loopw [8] (fun q wr => ∃ j : Nat, j ≤ n ∧ q = .int .i64 j ∧ (∀ k, k < j → dirI (atI l k) = false) ∧ Below w.heap.size w wr) (fun q _ => n - (intOf q).toNat)
  case atStart => exact ⟨0, by omega, rfl, fun k hk => by omega, Below.refl _ _⟩
  case round =>
    obtain ⟨j, hj, rfl, ok, bel⟩ := hrel
    have HB : Hid (Below w.heap.size w wr) := bel
    have OK : Hid (∀ k, k < j → dirI (atI l k) = false) := ok
    clear bel ok
    by_cases hlt : j < n
    · have lt2 : (j : Int) < (n : Int) := by omega
      have ge0 : Hid (decide (0 ≤ (j : Int)) = true) := by unfold Hid; simp
      obtain ⟨b, off, rfl, hr⟩ := (HS.out.kept HB.out).at j (by rw [← HN.out]; exact hlt)
      have hx : (atI l j).ok := It.at l HOK.out j
      have HF : Hid (dirI (atI l j) = true → r = true) := HHIT.out j hlt
      have NX : Hid (dirI (atI l j) = false → ∀ k, k < j + 1 → dirI (atI l k) = false) := fun h k hk => by
        rcases Nat.lt_or_ge k j with h' | h'
        · exact OK.out k h'
        · rw [show k = j by omega]; exact h
      generalize atI l j = x at *
      have RN : Hid (wr.rangeAt b (off + j * 35) x.cells) := hr
      have HZ : Hid ((Tryz.prog.info? 42).map (·.size) = some x.cells.length) := sizeI.trans (by rw [It.len hx])
      have CS : Calls Tryz.prog 37 #[x.val] wr fun e w' => e = .returned (.bool (dirI x)) ∧ Below wr.heap.size wr w' := (fun W => dir_any x W hx) wr
      unfold It.val at CS
      clear hr hx HHIT OK
      generalize dirI x = sb at *
      generalize x.cells = cs at *
      go_wp2_with (refine wpList_load_mid rfl 42 _ rfl b (off + j * 35) rfl cs _ RN.out Tryz.underlying42 rfl HZ.out (Hid.out ?_))
      unfold Hid
      go_wp2_with fail
      refine CS.mono ?_
      rintro e w3 ⟨rfl, b3⟩
      have B3 : Hid (Below w.heap.size w w3) := HB.out.trans (b3.mono HB.out.size)
      clear b3 CS
      cases sb with
      | false =>
        have NX2 : Hid (∀ k, k < j + 1 → dirI (atI l k) = false) := NX.out rfl
        clear NX HF
        go_wp2
        go_roundw
        case rel => exact ⟨j + 1, by omega, by go_num, NX2.out, B3.out⟩
        case measure => simp [intOf]; omega
      | true =>
        have HF2 : Hid (r = true) := HF.out rfl
        clear NX HF
        go_wp2
        go_ret
        exact ⟨_, rfl, by rw [HF2.out]; exact ge0.out, B3.out⟩
    · obtain rfl : j = n := by omega
      have HR : Hid (r = false) := HNO.out OK.out
      clear HNO HHIT OK
      go_wp2
      go_ret
      exact ⟨_, rfl, by rw [HR.out]; rfl, HB.out⟩
set_option maxHeartbeats 1000000 in
theorem contD_any (v : Value) (l : List It) (w : World) (h : IS w v l) (hl : l.length ≤ 100000) :
    Calls Tryz.prog 35 #[v, .func (.func 37) #[] #[]] w fun e w' => e = .returned (.bool (l.any dirI)) ∧ Below w.heap.size w w' := by
  have c := idxD_any v l w h hl
  obtain ⟨a, c', rfl, _, _, _⟩ := h.shape
  generalize l.length = n at *
  generalize l.any dirI = q at *
  clear h hl
  go_enter Tryz.func35, Tryz.ntmps35
  go_wp2_with fail
  refine c.mono ?_
  rintro e w1 ⟨r, rfl, hr, b1⟩
  clear c
  have HR : Hid (decide (0 ≤ r) = q) := hr
  have B1 : Hid (Below w.heap.size w w1) := b1
  clear hr b1
  go_wp2
  go_ret
  exact ⟨by rw [← HR.out]; rfl, B1.out⟩

/-- Whether items may be. -/
def mck (l : List It) : Int := if ckT (l.map std) ≠ 0 then ckT (l.map std) else if l.any outI = true then 13 else if l.any dirI = true then 9 else 0
set_option maxHeartbeats 1000000 in
theorem mcheck_any (v : Value) (l : List It) (w : World) (h : IS w v l) (hl : l.length ≤ 100) (hp : ∀ x ∈ l, x.p.size ≤ 1000) (hw : Wd w) :
    Calls Tryz.prog 16 #[v] w fun e w' => e = .returned (.int .i64 (mck l)) ∧ Below w.heap.size w w' := by
  have C1 := stands_any v l w h (by omega)
  have C2 : Hid (∀ v' W, ES W v' (l.map std) → Below w.heap.size w W → Calls Tryz.prog 25 #[v'] W fun e w' => e = .returned (.int .i64 (ckT (l.map std))) ∧ Below W.heap.size W w') := fun v' W hs hb => checkT_any v' _ W hs (std_lt l hl hp h.ok) (hw.2.kept hb)
  have C3 : Hid (∀ W, Below w.heap.size w W → Calls Tryz.prog 35 #[v, .func (.func 36) #[] #[]] W fun e w' => e = .returned (.bool (l.any outI)) ∧ Below W.heap.size W w') := fun W hb => contO_any v l W (h.kept hb) (by omega)
  have C4 : Hid (∀ W, Below w.heap.size w W → Calls Tryz.prog 35 #[v, .func (.func 37) #[] #[]] W fun e w' => e = .returned (.bool (l.any dirI)) ∧ Below W.heap.size W w') := fun W hb => contD_any v l W (h.kept hb) (by omega)
  have HM : Hid (mck l = if ckT (l.map std) ≠ 0 then ckT (l.map std) else if l.any outI = true then 13 else if l.any dirI = true then 9 else 0) := rfl
  obtain ⟨a, c, rfl, _, _, _⟩ := h.shape
  clear h hl hp hw
  generalize l.map std = L at *
  generalize l.any outI = qo at *
  generalize l.any dirI = qd at *
  generalize mck l = R at *
  generalize ckT L = k at *
  generalize l.length = n at *
  go_enter Tryz.func16, Tryz.ntmps16
  go_wp2_with fail
  refine C1.mono ?_
  rintro e w1 ⟨v1, rfl, o1, b1⟩
  have c2 := C2.out v1 w1 o1.es b1
  have B1 : Hid (Below w.heap.size w w1) := b1
  obtain ⟨va, vc, rfl, _, _, _⟩ := o1.es.shape
  clear C1 C2 o1 b1
  generalize L.length = m at *
  go_wp2_with fail
  refine c2.mono ?_
  rintro e w2 ⟨rfl, b2⟩
  have B2 : Hid (Below w.heap.size w w2) := B1.out.trans (b2.mono B1.out.size)
  clear c2 b2 B1
  by_cases hk : k = 0
  · subst hk
    have HM2 : Hid (R = if qo = true then 13 else if qd = true then 9 else 0) := by unfold Hid; have := HM.out; simpa using this
    clear HM
    have c3 := C3.out w2 B2.out
    go_wp2_with fail
    refine c3.mono ?_
    rintro e w3 ⟨rfl, b3⟩
    have B3 : Hid (Below w.heap.size w w3) := B2.out.trans (b3.mono B2.out.size)
    clear c3 b3 B2
    cases qo
    · have HM3 : Hid (R = if qd = true then 9 else 0) := by unfold Hid; have := HM2.out; simpa using this
      clear HM2
      have c4 := C4.out w3 B3.out
      go_wp2_with fail
      refine c4.mono ?_
      rintro e w4 ⟨rfl, b4⟩
      have B4 : Hid (Below w.heap.size w w4) := B3.out.trans (b4.mono B3.out.size)
      clear c4 b4 B3
      cases qd
      · have HM4 : Hid (R = 0) := by unfold Hid; have := HM3.out; simpa using this
        clear HM3
        go_wp2
        go_ret
        exact ⟨by rw [HM4.out]; rfl, B4.out⟩
      · have HM4 : Hid (R = 9) := by unfold Hid; have := HM3.out; simpa using this
        clear HM3
        go_wp2
        go_ret
        exact ⟨by rw [HM4.out]; rfl, B4.out⟩
    · have HM3 : Hid (R = 13) := by unfold Hid; have := HM2.out; simpa using this
      clear HM2
      go_wp2
      go_ret
      exact ⟨by rw [HM3.out]; rfl, B3.out⟩
  · have HM2 : Hid (R = k) := by unfold Hid; have := HM.out; rwa [if_pos hk] at this
    have hk2 : (k != 0) = true := by simpa using hk
    clear HM
    go_wp2
    go_ret
    exact ⟨by rw [HM2.out]; rfl, B2.out⟩
end Go.Proofs.YtdnbiibijoggoaaGreatDoor

namespace Go.Proofs.YtdnbiibijoggoaaGreatDoor
open Go.RowKit
set_option maxRecDepth 100000

/-- The sizes of files, added up as Go adds them. -/
def tot : Int → List It → Int
  | s, [] => s
  | s, x :: l => tot (if x.d = true then s else wrap64 (s + x.n)) l
theorem tot_step (l : List It) (j : Nat) (h : j < l.length) (s : Int) : tot s (l.take (j + 1)) = (if (atI l j).d = true then tot s (l.take j) else wrap64 (tot s (l.take j) + (atI l j).n)) := by
  have app : ∀ (a b : List It) (s : Int), tot s (a ++ b) = tot (tot s a) b := fun a => by
    induction a with
    | nil => intro b s; rfl
    | cons x a ih => intro b s; exact ih b _
  rw [takeI_at l j h, app]
  rfl
set_option maxHeartbeats 2000000 in
theorem total_any (v : Value) (l : List It) (w : World) (h : IS w v l) (hl : l.length ≤ 100000) :
    Calls Tryz.prog 20 #[v] w fun e w' => e = .returned (.int .i64 (tot 0 l)) ∧ Below w.heap.size w w' := by
  obtain ⟨a, c, rfl, h2, h3, h4⟩ := h.shape
  have HS : Hid (IS w (.slice a l.length c) l) := h
  have HOK : Hid (∀ x ∈ l, x.ok) := h.ok
  have hn := hl
  obtain ⟨n, hn'⟩ : ∃ n, n = l.length := ⟨_, rfl⟩
  have HN : Hid (n = l.length) := hn'
  rw [← hn'] at HS h2 hn ⊢
  clear h hl h3 h4 hn'
  go_enter Tryz.func20, Tryz.ntmps20
  go_wp2
  go_loopw [3, 8] (fun s q wr => ∃ j : Nat, j ≤ n ∧ q = .int .i64 j ∧ s = .int .i64 (tot 0 (l.take j)) ∧ Below w.heap.size w wr) (fun _ q _ => n - (intOf q).toNat)
  case atStart => exact ⟨0, by omega, rfl, rfl, Below.refl _ _⟩
  case round =>
    obtain ⟨j, hj, rfl, rfl, bel⟩ := hrel
    have HB : Hid (Below w.heap.size w wr) := bel
    clear bel
    by_cases hlt : j < n
    · have lt2 : (j : Int) < (n : Int) := by omega
      obtain ⟨b, off, rfl, hr⟩ := (HS.out.kept HB.out).at j (by rw [← HN.out]; exact hlt)
      have hx : (atI l j).ok := It.at l HOK.out j
      have HT : Hid (tot 0 (l.take (j + 1)) = (if (atI l j).d = true then tot 0 (l.take j) else wrap64 (tot 0 (l.take j) + (atI l j).n))) := tot_step l j (by rw [← HN.out]; exact hlt) 0
      generalize atI l j = x at *
      generalize tot 0 (l.take j) = T at *
      have RN : Hid (wr.rangeAt b (off + j * 35) x.cells) := hr
      have HZ : Hid ((Tryz.prog.info? 42).map (·.size) = some x.cells.length) := sizeI.trans (by rw [It.len hx])
      have HI : Hid ((Tryz.prog.info? 42).map (·.size) = some x.cells.toArray.size) := It.info x hx
      have HE : Hid (izc.size = x.cells.toArray.size) := izc_size.trans (It.size x hx).symm
      obtain ⟨W1, hW1⟩ : ∃ W1, W1 = wr.alloc (.cells x.cells.toArray 42) := ⟨_, rfl⟩
      have b1 : Below wr.heap.size wr W1 := by rw [hW1]; exact al_below _ _
      have R1 : W1.rangeAt wr.heap.size 0 x.cells := by rw [hW1]; exact (IB.new wr x).range
      have k1 := (range_head R1).2.1
      have k2 := (range_head R1).2.2
      have B1 : Hid (Below w.heap.size w W1) := HB.out.trans (b1.mono HB.out.size)
      have e1 := alloc_it wr x
      rw [← hW1] at e1
      have HE1 : Hid ((wr.alloc (.cells #[.string ⟨#[]⟩, .bool false, .int .i64 0, .int .u8 0, .int .u8 0, .int .u8 0, .int .u8 0, .int .u8 0, .int .u8 0, .int .u8 0, .int .u8 0, .int .u8 0, .int .u8 0, .int .u8 0, .int .u8 0, .int .u8 0, .int .u8 0, .int .u8 0, .int .u8 0, .int .u8 0, .int .u8 0, .int .u8 0, .int .u8 0, .int .u8 0, .int .u8 0, .int .u8 0, .int .u8 0, .int .u8 0, .int .u8 0, .int .u8 0, .int .u8 0, .int .u8 0, .int .u8 0, .int .u8 0, .int .u8 0] 42)).setRow wr.heap.size x.cells.toArray = W1) := e1
      have H1 : Hid (∀ v ∈ x.cells, v.oneCell' = true) := It.one x
      clear b1 hr hx e1 hW1 R1
      generalize x.cells = cs at *
      generalize x.n = xn at *
      generalize x.d = xd at *
      go_wp2_with (refine wpList_load_mid rfl 42 _ rfl b (off + j * 35) rfl cs _ RN.out Tryz.underlying42 rfl HZ.out (Hid.out ?_))
      unfold Hid
      go_wp2_with (refine wpList_store_row rfl 42 _ _ rfl wr.heap.size cs.toArray rfl rfl 42 izc (new_it wr) HI.out HE.out (all_oneCell_toArray H1.out) (Hid.out ?_))
      unfold Hid
      rw [HE1.out]
      cases xd
      · have HT2 : Hid (tot 0 (l.take (j + 1)) = wrap64 (T + xn)) := by unfold Hid; have := HT.out; simpa using this
        clear HT
        go_wp2
        go_roundw
        case rel => exact ⟨j + 1, by omega, by go_num, by rw [HT2.out], B1.out⟩
        case measure => simp [intOf]; omega
      · have HT2 : Hid (tot 0 (l.take (j + 1)) = T) := by unfold Hid; have := HT.out; simpa using this
        clear HT
        go_wp2
        go_roundw
        case rel => exact ⟨j + 1, by omega, by go_num, by rw [HT2.out], B1.out⟩
        case measure => simp [intOf]; omega
    · obtain rfl : j = n := by omega
      have HR : Hid (tot 0 (l.take j) = tot 0 l) := by unfold Hid; rw [HN.out, List.take_length]
      go_wp2
      go_ret
      exact ⟨by rw [HR.out]; rfl, HB.out⟩
end Go.Proofs.YtdnbiibijoggoaaGreatDoor

namespace Go.Proofs.YtdnbiibijoggoaaGreatDoor
open Go.RowKit
set_option maxRecDepth 100000

/-- The first item of a path. -/
def fin (l : List It) (q : ByteArray) : Option It := l.find? fun x => decide (x.p = q)
theorem fin_hit (l : List It) (q : ByteArray) (j : Nat) (hj : j < l.length) (h1 : ∀ k, k < j → ¬ (atI l k).p = q) (h2 : (atI l j).p = q) : fin l q = some (atI l j) := by
  unfold fin
  rw [List.find?_eq_some_iff_getElem]
  refine ⟨by simpa using h2, j, hj, (atI_eq l j hj).symm, fun k hk => ?_⟩
  have := h1 k hk
  rw [atI_eq l k (by omega)] at this
  simpa using this
theorem fin_none (l : List It) (q : ByteArray) (h : ∀ k, k < l.length → ¬ (atI l k).p = q) : fin l q = none := by
  unfold fin
  rw [List.find?_eq_none]
  intro x hx
  obtain ⟨k, hk, rfl⟩ := List.getElem_of_mem hx
  have := h k hk
  rw [atI_eq l k hk] at this
  simpa using this
theorem builtZ : Tryz.prog.built 42 [] = some it0.cells.toArray := by kernel_rfl
theorem retI {tmps : Array Value} {w : World} {g : Nat} {x : It} {b : Bool} (hx : x.ok) (hp : tmps.getD 4 undef = .pointer (some ⟨g, 0, none⟩)) (he : tmps.getD 5 undef = .bool b)
    (hg : w.heap[g]? = some (.cells x.cells.toArray 42 (0, 0))) : (results Tryz.f14 tmps).run Tryz.prog w = .ok (.tuple #[x.val, .bool b]) w := by
  have hld : (loadVar 42 ⟨g, 0, none⟩).run Tryz.prog w = .ok x.val w := run_loadVar_row w g 42 42 x.cells.toArray (0, 0) _ hg Tryz.underlying42 rfl (It.info x hx)
  rw [results_cell_tmp rfl, hp, he]
  simp [asAddr, Result.andThen, hld]
set_option maxHeartbeats 2000000 in
theorem find_any (v : Value) (l : List It) (q : ByteArray) (w : World) (h : IS w v l) (hl : l.length ≤ 100000) :
    Calls Tryz.prog 14 #[v, .string q] w fun e w' => e = .returned (.tuple #[((fin l q).getD it0).val, .bool (fin l q).isSome]) ∧ Below w.heap.size w w' := by
  obtain ⟨W0, hW0⟩ : ∃ W0, W0 = w.alloc (.cells izc 42) := ⟨_, rfl⟩
  have b0 : Below w.heap.size w W0 := by rw [hW0]; exact al_below _ _
  have s0 : W0.heap.size = w.heap.size + 1 := by rw [hW0]; simp
  have g0 : W0.heap[w.heap.size]? = some (.cells izc 42 (0, 0)) := by rw [hW0]; exact heap_alloc_new _ _
  have hwz : w.alloc (.cells #[.string ⟨#[]⟩, .bool false, .int .i64 0, .int .u8 0, .int .u8 0, .int .u8 0, .int .u8 0, .int .u8 0, .int .u8 0, .int .u8 0, .int .u8 0, .int .u8 0, .int .u8 0, .int .u8 0, .int .u8 0, .int .u8 0, .int .u8 0, .int .u8 0, .int .u8 0, .int .u8 0, .int .u8 0, .int .u8 0, .int .u8 0, .int .u8 0, .int .u8 0, .int .u8 0, .int .u8 0, .int .u8 0, .int .u8 0, .int .u8 0, .int .u8 0, .int .u8 0, .int .u8 0, .int .u8 0, .int .u8 0] 42) = W0 := hW0.symm
  obtain ⟨a, c, rfl, h2, h3, h4⟩ := h.shape
  have HS : Hid (IS W0 (.slice a l.length c) l) := h.kept b0
  have HOK : Hid (∀ x ∈ l, x.ok) := h.ok
  have G0 : Hid (∀ W, Below W0.heap.size W0 W → W.heap[w.heap.size]? = some (.cells izc 42 (0, 0)) ∧ Below w.heap.size w W) := fun W hb => ⟨(hb.block _ (by omega)).trans g0, b0.trans (hb.mono b0.size)⟩
  have hn := hl
  obtain ⟨n, hn'⟩ : ∃ n, n = l.length := ⟨_, rfl⟩
  have HN : Hid (n = l.length) := hn'
  rw [← hn'] at HS h2 hn ⊢
  have HH : Hid (∀ j, j < l.length → (∀ k, k < j → ¬ (atI l k).p = q) → (atI l j).p = q → fin l q = some (atI l j)) := fun j hj h1 h2 => fin_hit l q j hj h1 h2
  have HE : Hid ((∀ k, k < l.length → ¬ (atI l k).p = q) → fin l q = none) := fin_none l q
  have BZ : Hid (Tryz.prog.built 42 [] = some it0.cells.toArray) := builtZ
  clear h hl h3 h4 hn' hW0 b0 s0 g0
  generalize fin l q = R at *
  go_enter Tryz.func14, Tryz.ntmps14
  go_wp2_with fail
  try rw [hwz]
  clear hwz
  go_loopw [10] (fun z wr => ∃ j : Nat, j ≤ n ∧ z = .int .i64 j ∧ (∀ k, k < j → ¬ (atI l k).p = q) ∧ Below W0.heap.size W0 wr) (fun z _ => n - (intOf z).toNat)
  case atStart => exact ⟨0, by omega, rfl, fun k hk => by omega, Below.refl _ _⟩
  case round =>
    obtain ⟨j, hj, rfl, ok, bel⟩ := hrel
    have HB : Hid (Below W0.heap.size W0 wr) := bel
    have OK : Hid (∀ k, k < j → ¬ (atI l k).p = q) := ok
    clear bel ok
    by_cases hlt : j < n
    · have lt2 : (j : Int) < (n : Int) := by omega
      obtain ⟨b, off, rfl, hr⟩ := (HS.out.kept HB.out).at j (by rw [← HN.out]; exact hlt)
      have hx : (atI l j).ok := It.at l HOK.out j
      have HF : Hid ((atI l j).p = q → R = some (atI l j)) := HH.out j (by rw [← HN.out]; exact hlt) OK.out
      have NX : Hid (¬ (atI l j).p = q → ∀ k, k < j + 1 → ¬ (atI l k).p = q) := fun h k hk => by
        rcases Nat.lt_or_ge k j with h' | h'
        · exact OK.out k h'
        · rw [show k = j by omega]; exact h
      clear OK HH
      generalize atI l j = x at *
      have RN : Hid (wr.rangeAt b (off + j * 35) x.cells) := hr
      have HZ : Hid ((Tryz.prog.info? 42).map (·.size) = some x.cells.length) := sizeI.trans (by rw [It.len hx])
      have HI : Hid ((Tryz.prog.info? 42).map (·.size) = some x.cells.toArray.size) := It.info x hx
      have HE2 : Hid (izc.size = x.cells.toArray.size) := izc_size.trans (It.size x hx).symm
      obtain ⟨W1, hW1⟩ : ∃ W1, W1 = wr.alloc (.cells x.cells.toArray 42) := ⟨_, rfl⟩
      have b1 : Below wr.heap.size wr W1 := by rw [hW1]; exact al_below _ _
      have r1 : W1.rangeAt wr.heap.size 0 x.cells := by rw [hW1]; exact (IB.new wr x).range
      have R1 : Hid (W1.rangeAt wr.heap.size 0 x.cells) := r1
      have k0 := (range_head r1).1
      have B1 : Hid (Below W0.heap.size W0 W1) := HB.out.trans (b1.mono HB.out.size)
      have e1 := alloc_it wr x
      rw [← hW1] at e1
      have HE1 : Hid ((wr.alloc (.cells #[.string ⟨#[]⟩, .bool false, .int .i64 0, .int .u8 0, .int .u8 0, .int .u8 0, .int .u8 0, .int .u8 0, .int .u8 0, .int .u8 0, .int .u8 0, .int .u8 0, .int .u8 0, .int .u8 0, .int .u8 0, .int .u8 0, .int .u8 0, .int .u8 0, .int .u8 0, .int .u8 0, .int .u8 0, .int .u8 0, .int .u8 0, .int .u8 0, .int .u8 0, .int .u8 0, .int .u8 0, .int .u8 0, .int .u8 0, .int .u8 0, .int .u8 0, .int .u8 0, .int .u8 0, .int .u8 0, .int .u8 0] 42)).setRow wr.heap.size x.cells.toArray = W1) := e1
      have H1 : Hid (∀ v ∈ x.cells, v.oneCell' = true) := It.one x
      have HX : Hid x.ok := hx
      clear b1 hr e1 hW1 r1 hx
      obtain ⟨cs, hcs⟩ : ∃ cs, cs = x.cells := ⟨_, rfl⟩
      have HCS : Hid (cs = x.cells) := hcs
      rw [← hcs] at RN HZ HI HE2 R1 HE1 H1
      clear hcs
      go_wp2_with (refine wpList_load_mid rfl 42 _ rfl b (off + j * 35) rfl cs _ RN.out Tryz.underlying42 rfl HZ.out (Hid.out ?_))
      unfold Hid
      go_wp2_with (refine wpList_store_row rfl 42 _ _ rfl wr.heap.size cs.toArray rfl rfl 42 izc (new_it wr) HI.out HE2.out (all_oneCell_toArray H1.out) (Hid.out ?_))
      unfold Hid
      rw [HE1.out]
      by_cases hq : x.p = q
      · have t0 : (x.p.toList == q.toList) = true := by rw [tl_beq]; simp [hq]
        have HR : Hid (R = some x) := HF.out hq
        have GG : Hid (W1.heap[w.heap.size]? = some (.cells izc 42 (0, 0)) ∧ Below w.heap.size w W1) := G0.out W1 B1.out
        clear HF NX hq G0
        generalize x.p = xp at *
        go_wp2_with (first
          | refine wpList_load_mid rfl 42 _ rfl wr.heap.size 0 rfl cs _ R1.out Tryz.underlying42 rfl HZ.out ?_
          | refine wpList_store_row rfl 42 _ _ rfl w.heap.size cs.toArray rfl rfl 42 izc GG.out.1 HI.out HE2.out (all_oneCell_toArray H1.out) ?_)
        have hc := HCS.out
        subst hc
        refine bodyPost_ret (v := .tuple #[x.val, .bool true]) (retI HX.out rfl rfl (setRow_heap _ _ _ _ _ _ GG.out.1)) rfl ⟨by rw [HR.out]; rfl, below_setRow GG.out.2 (Nat.le_refl _) _⟩
      · have t0 : (x.p.toList == q.toList) = false := by rw [tl_beq]; simp [hq]
        have NX2 : Hid (∀ k, k < j + 1 → ¬ (atI l k).p = q) := NX.out hq
        clear HF NX hq G0
        generalize x.p = xp at *
        go_wp2
        go_roundw
        case rel => exact ⟨j + 1, by omega, by go_num, NX2.out, B1.out⟩
        case measure => simp [intOf]; omega
    · obtain rfl : j = n := by omega
      have HR : Hid (R = none) := HE.out (by rw [← HN.out]; exact OK.out)
      have GG : Hid (wr.heap[w.heap.size]? = some (.cells izc 42 (0, 0)) ∧ Below w.heap.size w wr) := G0.out wr HB.out
      clear HE HH OK G0
      go_wp2_with (first
          | refine wpList_built rfl 42 [] rfl [] rfl it0.cells.toArray BZ.out ?_
          | refine wpList_store_row rfl 42 _ _ rfl w.heap.size it0.cells.toArray rfl rfl 42 izc GG.out.1 (It.info _ it0_ok) rfl (It.ones _) ?_)
      refine bodyPost_ret (v := .tuple #[it0.val, .bool false]) (retI it0_ok rfl rfl (setRow_heap _ _ _ _ _ _ GG.out.1)) rfl ⟨by rw [HR.out]; rfl, below_setRow GG.out.2 (Nat.le_refl _) _⟩
end Go.Proofs.YtdnbiibijoggoaaGreatDoor

namespace Go.Proofs.YtdnbiibijoggoaaGreatDoor
open Go.RowKit
set_option maxRecDepth 100000

/-- Whether two lists are one. -/
def saI (l m : List It) : Bool := decide (l.length = m.length) && (List.range l.length).all fun i => sIt (atI l i) (atI m i)
theorem saI_iff (l m : List It) : saI l m = true ↔ l = m := by
  unfold saI
  rw [Bool.and_eq_true, decide_eq_true_eq, List.all_eq_true]
  constructor
  · rintro ⟨h1, h2⟩
    refine List.ext_getElem h1 fun i a b => ?_
    have := (sIt_iff _ _).1 (h2 i (List.mem_range.2 a))
    rwa [atI_eq l i a, atI_eq m i b] at this
  · rintro rfl
    exact ⟨rfl, fun i _ => (sIt_iff _ _).2 rfl⟩
set_option maxHeartbeats 2000000 in
theorem equalI_any (v u : Value) (l m : List It) (w : World) (h1 : IS w v l) (h2 : IS w u m) (hl : l.length ≤ 100000) (hm : m.length ≤ 100000) :
    Calls Tryz.prog 40 #[v, u] w fun e w' => e = .returned (.bool (saI l m)) ∧ Below w.heap.size w w' := by
  obtain ⟨a, c, rfl, _, _, _⟩ := h1.shape
  obtain ⟨a', c', rfl, _, _, _⟩ := h2.shape
  have HNE : Hid (l.length ≠ m.length → saI l m = false) := fun h => by unfold saI; simp [h]
  have HOK2 : Hid (l.length = m.length → (∀ k, k < l.length → sIt (atI l k) (atI m k) = true) → saI l m = true) := fun h k => by
    unfold saI
    rw [Bool.and_eq_true, decide_eq_true_eq, List.all_eq_true]
    exact ⟨h, fun i hi => k i (List.mem_range.1 hi)⟩
  have HHIT : Hid (∀ j, j < l.length → sIt (atI l j) (atI m j) = false → saI l m = false) := fun j hj h => by
    unfold saI
    rw [Bool.and_eq_false_iff]
    right
    rw [List.all_eq_false]
    exact ⟨j, List.mem_range.2 hj, by rw [h]; simp⟩
  have H1 : Hid (IS w (.slice a l.length c) l) := h1
  have H2 : Hid (IS w (.slice a' m.length c') m) := h2
  have K1 : Hid (∀ x ∈ l, x.ok) := h1.ok
  have K2 : Hid (∀ x ∈ m, x.ok) := h2.ok
  obtain ⟨n, hn'⟩ : ∃ n, n = l.length := ⟨_, rfl⟩
  obtain ⟨k, hk'⟩ : ∃ k, k = m.length := ⟨_, rfl⟩
  have HN : Hid (n = l.length) := hn'
  have HK : Hid (k = m.length) := hk'
  rw [← hn'] at H1 hl HNE HOK2 HHIT ⊢
  rw [← hk'] at H2 hm HNE HOK2 ⊢
  clear h1 h2 hn' hk'
  generalize saI l m = r at *
  by_cases hnk : n = k
  · subst hnk
    have t0 : ((n : Int) != (n : Int)) = false := by simp
    clear HNE
    go_enter Tryz.func40, Tryz.ntmps40
    go_wp2
    go_loopw [13] (fun q wr => ∃ j : Nat, j ≤ n ∧ q = .int .i64 j ∧ (∀ k, k < j → sIt (atI l k) (atI m k) = true) ∧ Below w.heap.size w wr) (fun q _ => n - (intOf q).toNat)
    case atStart => exact ⟨0, by omega, rfl, fun k hk => by omega, Below.refl _ _⟩
    case round =>
      obtain ⟨j, hj, rfl, ok, bel⟩ := hrel
      have HB : Hid (Below w.heap.size w wr) := bel
      have OK : Hid (∀ k, k < j → sIt (atI l k) (atI m k) = true) := ok
      clear ok
      by_cases hlt : j < n
      · have lt2 : (j : Int) < (n : Int) := by omega
        have lt3 : (0 : Int) ≤ (j : Int) := by omega
        obtain ⟨b, off, rfl, r1⟩ := (H1.out.kept HB.out).at j (by rw [← HN.out]; exact hlt)
        obtain ⟨b', off', rfl, r2⟩ := (H2.out.kept HB.out).at j (by rw [← HK.out]; exact hlt)
        have hx := It.at l K1.out j
        have hy := It.at m K2.out j
        have HF : Hid (sIt (atI l j) (atI m j) = false → r = false) := HHIT.out j hlt
        have NX : Hid (sIt (atI l j) (atI m j) = true → ∀ k, k < j + 1 → sIt (atI l k) (atI m k) = true) := fun h k hk => by
          rcases Nat.lt_or_ge k j with h' | h'
          · exact OK.out k h'
          · rw [show k = j by omega]; exact h
        clear OK HHIT
        generalize atI l j = x at *
        generalize atI m j = y at *
        have FX : Hid (∀ W, From wr W → W.rangeAt b (off + j * 35) x.cells) := fun W h => range_kept r1 h
        have FY : Hid (∀ W, From wr W → W.rangeAt b' (off' + j * 35) y.cells) := fun W h => range_kept r2 h
        have FB : Hid (∀ W, From wr W → Below w.heap.size w W) := fun W h => bel.trans (Below.mono h bel.size)
        have ZX : Hid ((Tryz.prog.info? 42).map (·.size) = some x.cells.length) := sizeI.trans (by rw [It.len hx])
        have ZY : Hid ((Tryz.prog.info? 42).map (·.size) = some y.cells.length) := sizeI.trans (by rw [It.len hy])
        have E1 : Hid (∀ W, (binOp .neq 42 (.agg x.cells.toArray) (.agg y.cells.toArray)).run Tryz.prog W = .ok (.bool (!sIt x y)) W) := fun W => neq_run x y hx hy W
        have E2 : Hid (∀ (a b : Operand) W, (eqGuard .neq 42 a b (.agg x.cells.toArray) (.agg y.cells.toArray)).run Tryz.prog W = .ok () W) := fun a b W => eqg_run .neq x y a b W
        clear bel r1 r2 hx hy
        generalize x.cells = cs at *
        generalize y.cells = ds at *
        generalize sIt x y = sb at *
        cases sb with
        | true =>
          have NX2 : Hid (∀ k, k < j + 1 → sIt (atI l k) (atI m k) = true) := NX.out rfl
          clear NX HF
          go_wp2_with fail
          refine wp_region_held_drew (S := From wr) (by kernel_rfl) ((Below.refl _ _).drew) (fun _ => ?_)
          refine wpAnyH_on ((Below.refl _ _).drew) (fun u0 hu0 bu0 => ?_)
          replace FX := on FX bu0
          replace FY := on FY bu0
          replace FB := on FB bu0
          refine wpAnyH_take (i := 0) (oi := { dst := some 16, op := Op.move (Operand.tmp 0), type := 25, pos := "slices.go:25", after := #[], guard := none }) (v := ?vr1) rfl (by kernel_rfl) (by kernel_rfl) (by kernel_rfl) (fun _ _ _ h => h) (Or.inl ⟨by rfl, ?yr1⟩) (Below.refl _ _) ?rr1
          case yr1 => (intro w hSw; go_simp; try with_reducible rfl)
          try simp only [Act.put, List.setIfInBounds_toArray, List.set_cons_zero, List.set_cons_succ]
          refine wpAnyH_take (i := 1) (oi := { dst := some 17, op := Op.move (Operand.tmp 5), type := 3, pos := "slices.go:25", after := #[], guard := none }) (v := ?vr2) rfl (by kernel_rfl) (by kernel_rfl) (by kernel_rfl) (fun _ _ _ h => h) (Or.inl ⟨by rfl, ?yr2⟩) (Below.refl _ _) ?rr2
          case yr2 => (intro w hSw; go_simp; try with_reducible rfl)
          try simp only [Act.put, List.setIfInBounds_toArray, List.set_cons_zero, List.set_cons_succ]
          refine wpAnyH_take (i := 2) (oi := { dst := some 18, op := Op.indexAddr 25 (Operand.tmp 16) (Operand.tmp 17), type := 0, pos := "slices.go:25", after := #[{ on := 0, ground := Ground.data }, { on := 1, ground := Ground.data }], guard := none }) (v := ?vr3) rfl (by kernel_rfl) (by kernel_rfl) (by kernel_rfl) (fun _ _ _ h => h) (Or.inl ⟨by rfl, ?yr3⟩) (Below.refl _ _) ?rr3
          case yr3 => (intro w hSw; go_simp; try with_reducible rfl)
          try simp only [Act.put, List.setIfInBounds_toArray, List.set_cons_zero, List.set_cons_succ]
          refine wpAnyH_take (i := 3) (oi := { dst := some 19, op := Op.load 42 (Operand.tmp 18), type := 42, pos := "slices.go:25", after := #[{ on := 2, ground := Ground.data }], guard := none }) (v := .agg cs.toArray) rfl (by kernel_rfl) (by kernel_rfl) (by kernel_rfl) (fun _ _ _ h => h) (yieldsIf_load_mid (by rfl) 42 _ rfl b (off + j * 35) rfl cs _ (fun w hw => FX.out w hw) Tryz.underlying42 rfl ZX.out) (Below.refl _ _) ?_
          try simp only [Act.put, List.setIfInBounds_toArray, List.set_cons_zero, List.set_cons_succ]
          refine wpAnyH_take (i := 4) (oi := { dst := some 20, op := Op.move (Operand.tmp 1), type := 25, pos := "slices.go:25", after := #[], guard := none }) (v := ?vr5) rfl (by kernel_rfl) (by kernel_rfl) (by kernel_rfl) (fun _ _ _ h => h) (Or.inl ⟨by rfl, ?yr5⟩) (Below.refl _ _) ?rr5
          case yr5 => (intro w hSw; go_simp; try with_reducible rfl)
          try simp only [Act.put, List.setIfInBounds_toArray, List.set_cons_zero, List.set_cons_succ]
          refine wpAnyH_take (i := 5) (oi := { dst := some 21, op := Op.move (Operand.tmp 5), type := 3, pos := "slices.go:25", after := #[], guard := none }) (v := ?vr6) rfl (by kernel_rfl) (by kernel_rfl) (by kernel_rfl) (fun _ _ _ h => h) (Or.inl ⟨by rfl, ?yr6⟩) (Below.refl _ _) ?rr6
          case yr6 => (intro w hSw; go_simp; try with_reducible rfl)
          try simp only [Act.put, List.setIfInBounds_toArray, List.set_cons_zero, List.set_cons_succ]
          refine wpAnyH_take (i := 6) (oi := { dst := some 22, op := Op.indexAddr 25 (Operand.tmp 20) (Operand.tmp 21), type := 0, pos := "slices.go:25", after := #[{ on := 4, ground := Ground.data }, { on := 5, ground := Ground.data }], guard := none }) (v := ?vr7) rfl (by kernel_rfl) (by kernel_rfl) (by kernel_rfl) (fun _ _ _ h => h) (Or.inl ⟨by rfl, ?yr7⟩) (Below.refl _ _) ?rr7
          case yr7 => (intro w hSw; go_simp; try with_reducible rfl)
          try simp only [Act.put, List.setIfInBounds_toArray, List.set_cons_zero, List.set_cons_succ]
          refine wpAnyH_take (i := 7) (oi := { dst := some 23, op := Op.load 42 (Operand.tmp 22), type := 42, pos := "slices.go:25", after := #[{ on := 6, ground := Ground.data }], guard := none }) (v := .agg ds.toArray) rfl (by kernel_rfl) (by kernel_rfl) (by kernel_rfl) (fun _ _ _ h => h) (yieldsIf_load_mid (by rfl) 42 _ rfl b' (off' + j * 35) rfl ds _ (fun w hw => FY.out w hw) Tryz.underlying42 rfl ZY.out) (Below.refl _ _) ?_
          try simp only [Act.put, List.setIfInBounds_toArray, List.set_cons_zero, List.set_cons_succ]
          refine wpAnyH_take (i := 8) (oi := { dst := some 24, op := Op.binOp BinOp.neq 42 (Operand.tmp 19) (Operand.tmp 23) 42, type := 4, pos := "slices.go:25", after := #[{ on := 3, ground := Ground.data }, { on := 7, ground := Ground.data }], guard := none }) (v := .bool (!true)) rfl (by kernel_rfl) (by kernel_rfl) (by kernel_rfl) (fun _ _ _ h => h) (yields_eqi (by rfl) .neq _ _ _ rfl (.agg cs.toArray) (.agg ds.toArray) (!true) rfl rfl (fun w => E2.out _ _ w) (fun w => E1.out w)) (Below.refl _ _) ?_
          try simp only [Act.put, List.setIfInBounds_toArray, List.set_cons_zero, List.set_cons_succ]
          refine wpAnyH_done (by kernel_rfl) ?_ _
          have BZ : Hid (Below w.heap.size w u0) := FB.out _ (Below.refl _ _)
          clear FX FY FB E1 E2 ZX ZY
          go_wp2
          go_roundw
          case rel => exact ⟨j + 1, by omega, by go_num, NX2.out, BZ.out⟩
          case measure => simp [intOf]; omega
        | false =>
          have HF2 : Hid (r = false) := HF.out rfl
          clear NX HF
          go_wp2_with fail
          refine wp_region_held_drew (S := From wr) (by kernel_rfl) ((Below.refl _ _).drew) (fun _ => ?_)
          refine wpAnyH_on ((Below.refl _ _).drew) (fun u0 hu0 bu0 => ?_)
          replace FX := on FX bu0
          replace FY := on FY bu0
          replace FB := on FB bu0
          refine wpAnyH_take (i := 0) (oi := { dst := some 16, op := Op.move (Operand.tmp 0), type := 25, pos := "slices.go:25", after := #[], guard := none }) (v := ?vs1) rfl (by kernel_rfl) (by kernel_rfl) (by kernel_rfl) (fun _ _ _ h => h) (Or.inl ⟨by rfl, ?ys1⟩) (Below.refl _ _) ?rs1
          case ys1 => (intro w hSw; go_simp; try with_reducible rfl)
          try simp only [Act.put, List.setIfInBounds_toArray, List.set_cons_zero, List.set_cons_succ]
          refine wpAnyH_take (i := 1) (oi := { dst := some 17, op := Op.move (Operand.tmp 5), type := 3, pos := "slices.go:25", after := #[], guard := none }) (v := ?vs2) rfl (by kernel_rfl) (by kernel_rfl) (by kernel_rfl) (fun _ _ _ h => h) (Or.inl ⟨by rfl, ?ys2⟩) (Below.refl _ _) ?rs2
          case ys2 => (intro w hSw; go_simp; try with_reducible rfl)
          try simp only [Act.put, List.setIfInBounds_toArray, List.set_cons_zero, List.set_cons_succ]
          refine wpAnyH_take (i := 2) (oi := { dst := some 18, op := Op.indexAddr 25 (Operand.tmp 16) (Operand.tmp 17), type := 0, pos := "slices.go:25", after := #[{ on := 0, ground := Ground.data }, { on := 1, ground := Ground.data }], guard := none }) (v := ?vs3) rfl (by kernel_rfl) (by kernel_rfl) (by kernel_rfl) (fun _ _ _ h => h) (Or.inl ⟨by rfl, ?ys3⟩) (Below.refl _ _) ?rs3
          case ys3 => (intro w hSw; go_simp; try with_reducible rfl)
          try simp only [Act.put, List.setIfInBounds_toArray, List.set_cons_zero, List.set_cons_succ]
          refine wpAnyH_take (i := 3) (oi := { dst := some 19, op := Op.load 42 (Operand.tmp 18), type := 42, pos := "slices.go:25", after := #[{ on := 2, ground := Ground.data }], guard := none }) (v := .agg cs.toArray) rfl (by kernel_rfl) (by kernel_rfl) (by kernel_rfl) (fun _ _ _ h => h) (yieldsIf_load_mid (by rfl) 42 _ rfl b (off + j * 35) rfl cs _ (fun w hw => FX.out w hw) Tryz.underlying42 rfl ZX.out) (Below.refl _ _) ?_
          try simp only [Act.put, List.setIfInBounds_toArray, List.set_cons_zero, List.set_cons_succ]
          refine wpAnyH_take (i := 4) (oi := { dst := some 20, op := Op.move (Operand.tmp 1), type := 25, pos := "slices.go:25", after := #[], guard := none }) (v := ?vs5) rfl (by kernel_rfl) (by kernel_rfl) (by kernel_rfl) (fun _ _ _ h => h) (Or.inl ⟨by rfl, ?ys5⟩) (Below.refl _ _) ?rs5
          case ys5 => (intro w hSw; go_simp; try with_reducible rfl)
          try simp only [Act.put, List.setIfInBounds_toArray, List.set_cons_zero, List.set_cons_succ]
          refine wpAnyH_take (i := 5) (oi := { dst := some 21, op := Op.move (Operand.tmp 5), type := 3, pos := "slices.go:25", after := #[], guard := none }) (v := ?vs6) rfl (by kernel_rfl) (by kernel_rfl) (by kernel_rfl) (fun _ _ _ h => h) (Or.inl ⟨by rfl, ?ys6⟩) (Below.refl _ _) ?rs6
          case ys6 => (intro w hSw; go_simp; try with_reducible rfl)
          try simp only [Act.put, List.setIfInBounds_toArray, List.set_cons_zero, List.set_cons_succ]
          refine wpAnyH_take (i := 6) (oi := { dst := some 22, op := Op.indexAddr 25 (Operand.tmp 20) (Operand.tmp 21), type := 0, pos := "slices.go:25", after := #[{ on := 4, ground := Ground.data }, { on := 5, ground := Ground.data }], guard := none }) (v := ?vs7) rfl (by kernel_rfl) (by kernel_rfl) (by kernel_rfl) (fun _ _ _ h => h) (Or.inl ⟨by rfl, ?ys7⟩) (Below.refl _ _) ?rs7
          case ys7 => (intro w hSw; go_simp; try with_reducible rfl)
          try simp only [Act.put, List.setIfInBounds_toArray, List.set_cons_zero, List.set_cons_succ]
          refine wpAnyH_take (i := 7) (oi := { dst := some 23, op := Op.load 42 (Operand.tmp 22), type := 42, pos := "slices.go:25", after := #[{ on := 6, ground := Ground.data }], guard := none }) (v := .agg ds.toArray) rfl (by kernel_rfl) (by kernel_rfl) (by kernel_rfl) (fun _ _ _ h => h) (yieldsIf_load_mid (by rfl) 42 _ rfl b' (off' + j * 35) rfl ds _ (fun w hw => FY.out w hw) Tryz.underlying42 rfl ZY.out) (Below.refl _ _) ?_
          try simp only [Act.put, List.setIfInBounds_toArray, List.set_cons_zero, List.set_cons_succ]
          refine wpAnyH_take (i := 8) (oi := { dst := some 24, op := Op.binOp BinOp.neq 42 (Operand.tmp 19) (Operand.tmp 23) 42, type := 4, pos := "slices.go:25", after := #[{ on := 3, ground := Ground.data }, { on := 7, ground := Ground.data }], guard := none }) (v := .bool (!false)) rfl (by kernel_rfl) (by kernel_rfl) (by kernel_rfl) (fun _ _ _ h => h) (yields_eqi (by rfl) .neq _ _ _ rfl (.agg cs.toArray) (.agg ds.toArray) (!false) rfl rfl (fun w => E2.out _ _ w) (fun w => E1.out w)) (Below.refl _ _) ?_
          try simp only [Act.put, List.setIfInBounds_toArray, List.set_cons_zero, List.set_cons_succ]
          refine wpAnyH_done (by kernel_rfl) ?_ _
          have BZ : Hid (Below w.heap.size w u0) := FB.out _ (Below.refl _ _)
          clear FX FY FB E1 E2 ZX ZY
          go_wp2
          go_ret
          exact ⟨by rw [HF2.out]; rfl, BZ.out⟩
      · obtain rfl : j = n := by omega
        have HR : Hid (r = true) := HOK2.out (by trivial) OK.out
        clear HOK2 HHIT OK
        go_wp2
        go_ret
        exact ⟨by rw [HR.out]; rfl, HB.out⟩
  · have HR : Hid (r = false) := HNE.out hnk
    have t0 : ((n : Int) != (k : Int)) = true := by simp; omega
    clear HNE HOK2 HHIT
    go_enter Tryz.func40, Tryz.ntmps40
    go_wp2
    go_ret
    exact ⟨by rw [HR.out]; rfl, Below.refl _ _⟩
set_option maxHeartbeats 1000000 in
theorem msame_any (v u : Value) (l m : List It) (w : World) (h1 : IS w v l) (h2 : IS w u m) (hl : l.length ≤ 100000) (hm : m.length ≤ 100000) :
    Calls Tryz.prog 22 #[v, u] w fun e w' => e = .returned (.bool (saI l m)) ∧ Below w.heap.size w w' := by
  have c := equalI_any v u l m w h1 h2 hl hm
  generalize saI l m = r at *
  clear h1 h2 hl hm
  go_enter Tryz.func22, Tryz.ntmps22
  go_wp2_with fail
  refine c.mono ?_
  rintro e w1 ⟨rfl, b1⟩
  clear c
  go_wp2
  go_ret
  exact ⟨rfl, b1⟩
end Go.Proofs.YtdnbiibijoggoaaGreatDoor
