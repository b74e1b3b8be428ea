/-
  What Same answers.
-/
import Derived.Test.YtajcabfeabbknaaGreatDoorCp
import Derived.Test.YtajcabfeabbknaaGreatDoorLe
import Derived.Deep.QuietTactic
import Derived.BigQuiet
namespace Go.Proofs.YtajcabfeabbknaaGreatDoor
open Go.RowKit

theorem strB_toList (X : List Int) : (strB X).toList = X.map fun n => UInt8.ofNat n.toNat := ByteArray.toList_mk _
theorem strB_inj {X Y : List Int} (hX : ∀ i, 0 ≤ X.getD i 0 ∧ X.getD i 0 < 256) (hY : ∀ i, 0 ≤ Y.getD i 0 ∧ Y.getD i 0 < 256) (h : (strB X).toList = (strB Y).toList) : X = Y := by
  rw [strB_toList, strB_toList] at h
  have hl : X.length = Y.length := by have := congrArg List.length h; simpa using this
  refine List.ext_getElem hl fun i h1 h2 => ?_
  have h3 := congrArg (fun l => l[i]?) h
  simp only [List.getElem?_map, List.getElem?_eq_getElem h1, List.getElem?_eq_getElem h2, Option.map_some, Option.some.injEq] at h3
  have h4 := congrArg UInt8.toNat h3
  simp only [UInt8.toNat_ofNat'] at h4
  have h5 := hX i
  have h6 := hY i
  simp only [List.getD, List.getElem?_eq_getElem h1, List.getElem?_eq_getElem h2, Option.getD_some] at h5 h6
  omega
theorem strB_beq {X Y : List Int} (hX : ∀ i, 0 ≤ X.getD i 0 ∧ X.getD i 0 < 256) (hY : ∀ i, 0 ≤ Y.getD i 0 ∧ Y.getD i 0 < 256) : ((strB X).toList == (strB Y).toList) = decide (X = Y) := by
  by_cases h : X = Y
  · subst h; simp
  · rw [decide_eq_false h]
    have : ¬ (strB X).toList = (strB Y).toList := fun e => h (strB_inj hX hY e)
    simpa using this

set_option maxHeartbeats 1000000 in
theorem equal_any (v u : Value) (X Y : List Int) (w : World) (s1 : Sl w v X) (s2 : Sl w u Y) :
    Calls Tryz.prog 98 #[v, u] w fun r w' => r = .returned (.bool (decide (X = Y))) ∧ w' = w := by
  have HD : Hid (((strB X).toList == (strB Y).toList) = decide (X = Y)) := strB_beq s1.bytes s2.bytes
  obtain ⟨a, cap, rfl, _⟩ := id s1
  obtain ⟨a', cap', rfl, _⟩ := id s2
  have c1 := s1.conv
  have c2 := s2.conv
  clear s1 s2
  generalize X.length = L1 at *
  generalize Y.length = L2 at *
  generalize strB X = S1 at *
  generalize strB Y = S2 at *
  go_enter Tryz.func98, Tryz.ntmps98
  go_wp2
  go_ret
  exact ⟨by rw [← HD.out]; rfl, rfl⟩

set_option maxHeartbeats 1000000 in
theorem sameEntry_any (v u : Value) (x y : En) (w : World) (h1 : EV w v x) (h2 : EV w u y) :
    Calls Tryz.prog 87 #[v, u] w fun e w' => e = .returned (.bool (samE x y)) ∧ Below w.heap.size w w' := by
  obtain ⟨ua, un, uc, rfl, s1⟩ := h1
  obtain ⟨va, vn, vc, rfl, s2⟩ := h2
  have HE : Hid (∀ W, Below w.heap.size w W → Calls Tryz.prog 98 #[.slice ua un uc, .slice va vn vc] W fun r w' => r = .returned (.bool (decide (x.z = y.z))) ∧ w' = W) := fun W hb => equal_any _ _ _ _ W (s1.kept hb) (s2.kept hb)
  have HR : Hid (samE x y = (decide (x.p = y.p) && decide (x.d = y.d) && decide (x.z = y.z))) := rfl
  have tp := tl_beq x.p y.p
  have B2 : Hid (Below w.heap.size w ((w.alloc (.cells #[.string x.p, .bool x.d, .slice ua un uc] 46)).alloc (.cells #[.string y.p, .bool y.d, .slice va vn vc] 46))) := ((Below.refl _ _).alloc (Nat.le_refl _) _).alloc (by simp) _
  generalize samE x y = r at *
  generalize decide (x.p = y.p) = t1 at *
  generalize decide (x.z = y.z) = t3 at *
  have td : (x.d == y.d) = decide (x.d = y.d) := by cases x.d <;> cases y.d <;> rfl
  generalize decide (x.d = y.d) = t2 at *
  generalize x.p = xp at *
  generalize x.d = xd at *
  generalize y.p = yp at *
  generalize y.d = yd at *
  have c := HE.out _ B2.out
  clear s1 s2 HE
  cases t1 with
  | false =>
    go_enter Tryz.func87, Tryz.ntmps87
    go_wp2
    go_ret
    exact ⟨by rw [HR.out]; rfl, B2.out⟩
  | true =>
    cases t2 with
    | false =>
      go_enter Tryz.func87, Tryz.ntmps87
      go_wp2
      go_ret
      exact ⟨by rw [HR.out]; rfl, B2.out⟩
    | true =>
      go_enter Tryz.func87, Tryz.ntmps87
      go_wp2_with (go_at_call 98; refine c.mono ?_; rintro e w' ⟨rfl, rfl⟩)
      go_ret
      exact ⟨by rw [HR.out]; rfl, B2.out⟩
theorem sam_hit (l m : List En) (j : Nat) (h : samE (atE l j) (atE m j) = false) : sam l m = false := by
  cases hb : sam l m with
  | false => rfl
  | true =>
    rw [(sam_iff l m).1 hb, (samE_iff _ _).2 rfl] at h
    cases h
theorem sam_ok (l m : List En) (hl : l.length = m.length) (h : ∀ k, k < l.length → samE (atE l k) (atE m k) = true) : sam l m = true := by
  unfold sam
  rw [Bool.and_eq_true, decide_eq_true_eq, List.all_eq_true]
  exact ⟨hl, fun i hi => h i (List.mem_range.1 hi)⟩
set_option maxHeartbeats 1000000 in
theorem equalFunc_any (v u : Value) (l m : List En) (w : World) (h1 : ES w v l) (h2 : ES w u m) (hl : l.length ≤ 100000) (hm : m.length ≤ 100000) :
    Calls Tryz.prog 86 #[v, u, .func (.func 87) #[] #[]] w fun e w' => e = .returned (.bool (sam l m)) ∧ Below w.heap.size w w' := by
  obtain ⟨a, c, rfl, g2, _, _⟩ := h1.shape
  obtain ⟨a', c', rfl, g2', _, _⟩ := h2.shape
  have H1 : Hid (ES w (.slice a l.length c) l) := h1
  have H2 : Hid (ES w (.slice a' m.length c') m) := h2
  have HHIT : Hid (∀ j, samE (atE l j) (atE m j) = false → sam l m = false) := sam_hit l m
  have HOK : Hid (l.length = m.length → (∀ k, k < l.length → samE (atE l k) (atE m k) = true) → sam l m = true) := sam_ok l m
  have HNE : Hid (l.length ≠ m.length → sam l m = false) := fun h => by unfold sam; rw [decide_eq_false h]; rfl
  obtain ⟨n, hn⟩ : ∃ n, n = l.length := ⟨_, rfl⟩
  obtain ⟨k, hk⟩ : ∃ k, k = m.length := ⟨_, rfl⟩
  have HN : Hid (n = l.length) := hn
  have HK : Hid (k = m.length) := hk
  rw [← hn] at H1 HOK HNE hl g2 ⊢
  rw [← hk] at H2 HOK HNE hm g2' ⊢
  clear h1 h2 hn hk
  generalize sam l m = r at *
  by_cases hnk : n = k
  · subst hnk
    have HOK2 : Hid ((∀ k, k < n → samE (atE l k) (atE m k) = true) → r = true) := HOK.out rfl
    clear HOK HNE
    go_enter Tryz.func86, Tryz.ntmps86
    go_wp2
    go_loopw [17] (fun q wr => ∃ j : Nat, j ≤ n ∧ q = .int .i64 j ∧ (∀ k, k < j → samE (atE l k) (atE m k) = true) ∧ Below w.heap.size w wr) (fun q _ => n - (intOf q).toNat)
    case atStart => exact ⟨0, by omega, rfl, fun k hk => by omega, Below.refl _ _⟩
    case round =>
      obtain ⟨j, hj, rfl, ok, bel⟩ := hrel
      have HB : Hid (Below w.heap.size w wr) := bel
      have OK : Hid (∀ k, k < j → samE (atE l k) (atE m k) = true) := ok
      clear bel ok
      by_cases hlt : j < n
      · have lt2 : (j : Int) < (n : Int) := by omega
        obtain ⟨b, off, ua, un, uc, rfl, c1, c2, c3, hun, s1⟩ := (H1.out.kept HB.out).at j (by rw [← HN.out]; exact hlt)
        obtain ⟨b', off', va, vn, vc, rfl, d1, d2, d3, hvn, s2⟩ := (H2.out.kept HB.out).at j (by rw [← HK.out]; exact hlt)
        have q1 : IntKind.i64.wrap ((j : Int) + 1) = ((j + 1 : Nat) : Int) := by simp [IntKind.wrap, IntKind.bits, IntKind.signed]; omega
        have HS1 : Hid (EV wr (.agg #[.string (atE l j).p, .bool (atE l j).d, .slice ua un uc]) (atE l j)) := ⟨ua, un, uc, rfl, s1⟩
        have HS2 : Hid (EV wr (.agg #[.string (atE m j).p, .bool (atE m j).d, .slice va vn vc]) (atE m j)) := ⟨va, vn, vc, rfl, s2⟩
        obtain ⟨W2, hW2⟩ : ∃ W2, W2 = (wr.alloc (.cells #[.string (atE l j).p, .bool (atE l j).d, .slice ua un uc] 46)).alloc (.cells #[.string (atE m j).p, .bool (atE m j).d, .slice va vn vc] 46) := ⟨_, rfl⟩
        have b2 : Below wr.heap.size wr W2 := by rw [hW2]; exact ((Below.refl _ _).alloc (Nat.le_refl _) _).alloc (by simp) _
        have B2 : Hid (Below w.heap.size w W2) := HB.out.trans (b2.mono HB.out.size)
        have CS := sameEntry_any _ _ _ _ W2 (HS1.out.kept b2) (HS2.out.kept b2)
        have d1' : (wr.alloc (.cells #[.string (atE l j).p, .bool (atE l j).d, .slice ua un uc] 46)).cell? ⟨b', off' + j * 3, none⟩ = some (.string (atE m j).p) := by rw [World.cell?_alloc_past _ _ _ (World.block_lt_of_cell? _ _ d1)]; exact d1
        have d2' : (wr.alloc (.cells #[.string (atE l j).p, .bool (atE l j).d, .slice ua un uc] 46)).cell? ⟨b', off' + j * 3 + 1, none⟩ = some (.bool (atE m j).d) := by rw [World.cell?_alloc_past _ _ _ (World.block_lt_of_cell? _ _ d2)]; exact d2
        have d3' : (wr.alloc (.cells #[.string (atE l j).p, .bool (atE l j).d, .slice ua un uc] 46)).cell? ⟨b', off' + j * 3 + 2, none⟩ = some (.slice va vn vc) := by rw [World.cell?_alloc_past _ _ _ (World.block_lt_of_cell? _ _ d3)]; exact d3
        have HF : Hid (samE (atE l j) (atE m j) = false → r = false) := HHIT.out j
        have NX : Hid (samE (atE l j) (atE m j) = true → ∀ k, k < j + 1 → samE (atE l k) (atE m k) = true) := fun h k hk => by
          rcases Nat.lt_or_ge k j with h' | h'
          · exact OK.out k h'
          · rw [show k = j by omega]; exact h
        clear b2 s1 s2 HS1 HS2 d1 d2 d3 OK hun hvn HHIT
        generalize atE l j = x at *
        generalize atE m j = y at *
        generalize hsb : samE x y = sb at *
        clear hsb
        go_wp2_with fail
        rw [← hW2]
        clear hW2
        refine CS.mono ?_
        rintro e w3 ⟨rfl, b3⟩
        have B3 : Hid (Below w.heap.size w w3) := B2.out.trans (b3.mono B2.out.size)
        clear b3 CS
        cases sb with
        | true =>
          have NX2 : Hid (∀ k, k < j + 1 → samE (atE l k) (atE m k) = true) := NX.out rfl
          clear NX HF
          go_wp2
          go_roundw
          case rel => exact ⟨j + 1, by omega, by go_num, NX2.out, B3.out⟩
          case measure => simp [intOf]; omega
        | false =>
          have HF2 : Hid (r = false) := HF.out rfl
          clear NX HF
          go_wp2
          go_ret
          exact ⟨by rw [HF2.out]; rfl, B3.out⟩
      · obtain rfl : j = n := by omega
        have hr := HOK2.out OK.out
        have HR : Hid (r = true) := hr
        clear hr HOK2 HHIT OK
        go_wp2
        go_ret
        exact ⟨by rw [HR.out]; rfl, HB.out⟩
  · have hr := HNE.out hnk
    have HR : Hid (r = false) := hr
    have t0 : ((n : Int) != (k : Int)) = true := by simp; omega
    clear hr HNE HOK HHIT
    go_enter Tryz.func86, Tryz.ntmps86
    go_wp2
    go_ret
    exact ⟨by rw [HR.out]; rfl, Below.refl _ _⟩
set_option maxHeartbeats 1000000 in
theorem same_any (v u : Value) (l m : List En) (w : World) (h1 : ES w v l) (h2 : ES w u m) (hl : l.length ≤ 100000) (hm : m.length ≤ 100000) :
    Calls Tryz.prog 65 #[v, u] w fun e w' => e = .returned (.bool (sam l m)) ∧ Below w.heap.size w w' := by
  have c := equalFunc_any v u l m w h1 h2 hl hm
  generalize sam l m = r at *
  clear h1 h2 hl hm
  go_enter Tryz.func65, Tryz.ntmps65
  go_wp2_with fail
  refine c.mono ?_
  rintro e w1 ⟨rfl, b1⟩
  clear c
  go_wp2
  go_ret
  exact ⟨rfl, b1⟩
end Go.Proofs.YtajcabfeabbknaaGreatDoor
