/-
  FieldLays answers true for every number and every texts, and nothing that was there is changed; the package-level table of widths starts as the program's text lays it (the card ties it).
-/
import Derived.Test.YtmlnocjljhhmdaaDoorFrame
import Derived.Test.YtmlnocjljhhmdaaDoorRLay
import Derived.Deep.RegionHeld3
import Derived.Deep.AppendLies
import Derived.Maps.AppendAt
import Derived.Deep.RegionWith
namespace Go.Proofs.YtmlnocjljhhmdaaDoor.fieldLays
open Go.ChangeShapes Go.WideShapes Go.ChangeAt Go.RowKit Go.Deep Go.ChangeMaps

theorem info25 : (Tryd.prog.info? 25).map (fun i => (i.zero, i.size, i.bytes)) = some (some (.slice none 0 0), 1, 24) := by kernel_rfl

theorem strs_plain {w : World} {a : Option Addr} {len cap : Nat} {Sx : Nat → ByteArray} (h : Strs w a len cap Sx) :
    len = 0 ∨ ∃ b off, a = some ⟨b, off, none⟩ ∧ ∀ i, i < len → w.cell? ⟨b, off + i, none⟩ = some (.string (Sx i)) ∧ (Sx i).size ≤ maxLen := by
  obtain ⟨h1, h2, h3⟩ := h
  rcases Nat.eq_zero_or_pos len with h0 | h0
  · exact .inl h0
  · rcases h3 with ⟨_, h⟩ | ⟨x, rfl, hc⟩
    · omega
    · obtain ⟨b, off, spot⟩ := x
      have hspot : spot = none := by simpa [Addr.add] using World.cell?_spot (hc 0 (by omega)).1
      subst hspot
      exact .inr ⟨b, off, rfl, fun i hi => by have := hc i hi; rwa [Addr.add_lit] at this⟩

/-- A text's bytes, in a row of the call's own. -/
abbrev Own (w : World) (B : Nat) (v : Value) (X : List Int) : Prop := w.ownsRow B 5 1 v X.length (X.map (Value.int .u8))
/-- A list of the first j texts' bytes, the list and each of them in a row of the call's own. -/
def Lst (w : World) (B : Nat) (va : Value) (Sx : Nat → ByteArray) (j : Nat) : Prop :=
  ∃ VA : List Value, w.ownsRow B 25 1 va j VA ∧ ∀ i, i < j → ∃ v, VA[i]? = some v ∧ Own w B v (textB (Sx i))

theorem own_tag {w : World} {B x : Nat} {e : TypeId} {size n : Nat} {v : Value} {xs : List Value} (h : w.ownsRow B e size v n xs) (hx : v.ownBlock = some x) : ∃ cur, w.heap[x]? = some (.cells cur e (0, 0)) := by
  rcases h.2 with ⟨rfl, _⟩ | ⟨g, cap, cur, rfl, _, hh, _⟩
  · cases hx
  · cases hx; exact ⟨cur, hh⟩

theorem Lst.kept {w w' : World} {B : Nat} {va : Value} {Sx : Nat → ByteArray} {j : Nat} {row : Option Nat} (h : Lst w B va Sx j) (hg : w.grownBy w' row) (hne : ∀ x, row = some x → va.ownBlock ≠ some x) (ht : ∀ x, row = some x → ∃ cur, w.heap[x]? = some (.cells cur 25 (0, 0))) : Lst w' B va Sx j := by
  obtain ⟨VA, ho, hall⟩ := h
  have ne : ∀ {u : Value} {e : TypeId} {n : Nat} {xs : List Value}, w.ownsRow B e 1 u n xs → (∀ x, row = some x → u.ownBlock ≠ some x) → w'.ownsRow B e 1 u n xs := fun hu hn => by
    refine hu.kept hg ?_
    rcases hr : row with _ | x
    · rcases hu' : Value.ownBlock _ with _ | y
      · exact .inl rfl
      · exact .inr (by simp)
    · exact .inr (hn x hr)
  refine ⟨VA, ne ho hne, fun i hi => ?_⟩
  obtain ⟨v, hv, hov⟩ := hall i hi
  refine ⟨v, hv, ne hov fun x hx hb => ?_⟩
  obtain ⟨c1, h1⟩ := own_tag hov hb
  obtain ⟨c2, h2⟩ := ht x hx
  rw [h1] at h2
  cases h2

theorem grown_below {w w' : World} (h : Below w.heap.size w w') : w.grownBy w' none := ⟨h.os, h.tape, h.output, h.size, fun k hk _ => h.block k hk⟩

theorem Lst.below {w w' : World} {B : Nat} {va : Value} {Sx : Nat → ByteArray} {j : Nat} (h : Lst w B va Sx j) (hb : Below w.heap.size w w') : Lst w' B va Sx j :=
  h.kept (grown_below hb) (fun x hx => by cases hx) (fun x hx => by cases hx)

theorem own_kept {w w' : World} {B : Nat} {v : Value} {X : List Int} {row : Option Nat} (h : Own w B v X) (hg : w.grownBy w' row) (ht : ∀ x, row = some x → ∃ cur, w.heap[x]? = some (.cells cur 25 (0, 0))) : Own w' B v X := by
  refine World.ownsRow.kept h hg ?_
  rcases hr : row with _ | x
  · rcases hu' : Value.ownBlock _ with _ | y
    · exact .inl rfl
    · exact .inr (by simp)
  · refine .inr fun hb => ?_
    obtain ⟨c1, h1⟩ := own_tag h hb
    obtain ⟨c2, h2⟩ := ht x hr
    rw [h1] at h2
    cases h2

theorem Lst.push {W w' : World} {B : Nat} {va v v' : Value} {Sx : Nat → ByteArray} {j : Nat} {VA : List Value} (oa : W.ownsRow B 25 1 va j VA) (ea : ∀ i, i < j → ∃ u, VA[i]? = some u ∧ Own W B u (textB (Sx i)))
    (ov : Own W B v (textB (Sx j))) (oa' : w'.ownsRow B 25 1 v' (j + 1) (VA ++ [v])) (hg : W.grownBy w' va.ownBlock) : Lst w' B v' Sx (j + 1) := by
  have hl : VA.length = j := by have := oa.1; simpa using this
  have ht : ∀ x, va.ownBlock = some x → ∃ cur, W.heap[x]? = some (.cells cur 25 (0, 0)) := fun x hx => own_tag oa hx
  refine ⟨_, oa', fun i hi => ?_⟩
  rcases Nat.lt_succ_iff_lt_or_eq.1 hi with h | rfl
  · obtain ⟨u, hu, ho⟩ := ea i h
    exact ⟨u, by rw [List.getElem?_append_left (by omega)]; exact hu, own_kept ho hg ht⟩
  · exact ⟨v, by rw [List.getElem?_append_right (by omega), hl]; simp, own_kept ov hg ht⟩

theorem Lst.parts {w : World} {B : Nat} {va : Value} {Sx : Nat → ByteArray} {j : Nat} (h : Lst w B va Sx j) (hb : ∀ k i, 0 ≤ (textB (Sx k)).getD i 0 ∧ (textB (Sx k)).getD i 0 < 256) (hj : j ≤ 60) :
    ∃ p c, va = .slice p j c ∧ Parts w p ((List.range j).map fun k => textB (Sx k)) := by
  obtain ⟨VA, ho, hall⟩ := h
  have hlen : ((List.range j).map fun k => textB (Sx k)).length = j := by simp
  rcases ho.2 with ⟨rfl, rfl⟩ | ⟨g, cap, cur, rfl, _⟩
  · exact ⟨none, 0, rfl, by simp, .inl rfl⟩
  · refine ⟨_, cap, rfl, by rw [hlen]; omega, .inr ⟨g, 0, rfl, fun i hi => ?_⟩⟩
    rw [hlen] at hi
    obtain ⟨v, hv, hov⟩ := hall i hi
    refine ⟨v, ?_, ?_⟩
    · have := ho.cells (g := g) rfl i v hv
      rwa [Addr.add_lit] at this
    · have e : ((List.range j).map fun k => textB (Sx k)).getD i [] = textB (Sx i) := by simp [List.getD, hi]
      rw [e]
      exact sl_owned hov (hb i)

theorem textB_bytes (s : ByteArray) : ∀ i, 0 ≤ (textB s).getD i 0 ∧ (textB s).getD i 0 < 256 := by
  have h := bytes_flat [numB (s.size : Int), sb s] (by
    intro X hX
    simp at hX
    rcases hX with rfl | rfl
    · by_cases h0 : lenOf (s.size : Int) = 0
      · have : numB (s.size : Int) = [] := by unfold numB; rw [if_pos h0]
        rw [this]; intro i; simp
      · obtain ⟨W, hW, hW0, hI, h1, h2, hn⟩ := pos_lim _ h0
        rw [hn]; exact pb_bytes _ W hI h1 h2
    · exact sb_bytes s)
  have e : [numB (s.size : Int), sb s].flatten = textB s := by simp [textB]
  rwa [e] at h

theorem ne_of_lies {o : Option Nat} {g H x : Nat} (hg : o = some g ∨ g = H) (h1 : o ≠ some x) (h2 : x < H) : g ≠ x := by
  rintro rfl
  rcases hg with h | h
  · exact h1 h
  · omega
theorem al_below (w : World) (o : Obj) : Below w.heap.size w (w.alloc o) := (Below.refl _ _).alloc (Nat.le_refl _) _
theorem lt_block {w : World} {B : Nat} {va : Value} {Sx : Nat → ByteArray} {j x : Nat} (h : Lst w B va Sx j) (hx : va.ownBlock = some x) : x < w.heap.size := by
  obtain ⟨VA, ho, _⟩ := h
  exact (ho.lt x hx).2

theorem parts_kept {w w' : World} {p : Option Addr} {ZZ : List (List Int)} (h : Parts w p ZZ) (hb : Below w.heap.size w w') : Parts w' p ZZ := by
  obtain ⟨h1, h2⟩ := h
  refine ⟨h1, ?_⟩
  rcases h2 with h2 | ⟨b, off, rfl, hall⟩
  · exact .inl h2
  · refine .inr ⟨b, off, rfl, fun i hi => ?_⟩
    obtain ⟨v, hc, sl⟩ := hall i hi
    exact ⟨v, (hb.cell (p := ⟨b, off + i, none⟩) (World.block_lt_of_cell? _ _ hc)).trans hc, sl.kept hb⟩

theorem numB_bytes (n : Int) : ∀ i, 0 ≤ (numB n).getD i 0 ∧ (numB n).getD i 0 < 256 := by
  by_cases h0 : lenOf n = 0
  · have : numB n = [] := by unfold numB; rw [if_pos h0]
    rw [this]; intro i; simp
  · obtain ⟨W, hW, hW0, hI, h1, h2, hn⟩ := pos_lim _ h0
    rw [hn]; exact pb_bytes _ W hI h1 h2

set_option maxRecDepth 100000 in
set_option maxHeartbeats 4000000 in
theorem walk (n : Int) (a : Option Addr) (len cap : Nat) (Sx : Nat → ByteArray) (w : World) (hw : Wid w) (wn : (Lit.int .i64 n).wf = true) (hS : Strs w a len cap Sx) :
    Calls Tryd.prog 3 #[.int .i64 n, .slice a len cap] w fun e w' => e = .returned (.bool true) ∧ Below w.heap.size w w' := by
  have hn := bounds_i64 wn
  have hp := hw.pos
  obtain ⟨i0, hi, hz0, hz1, hz2⟩ := info_parts info25
  have hlc : len ≤ 9223372036854775807 := by have h1 := hS.1; have h2 := hS.2.1; unfold maxLen at h2; omega
  have HS : Hid (len = 0 ∨ ∃ b off, a = some ⟨b, off, none⟩ ∧ ∀ i, i < len → w.cell? ⟨b, off + i, none⟩ = some (.string (Sx i)) ∧ (Sx i).size ≤ maxLen) := strs_plain hS
  clear wn hS
  by_cases hok : 60 < len
  · go_enter Tryd.func3, Tryd.ntmps3
    go_wp2_with (go_at_call 8; refine (awake_any _ hw).mono ?_; rintro e w' ⟨rfl, hbel⟩)
    go_ret
    exact ⟨rfl, by assumption⟩
  · go_enter Tryd.func3, Tryd.ntmps3
    go_wp2
    go_loopw [5, 6, 7] (fun ua ub i wr => ∃ (j : Nat) (va vb : Value), ua = va ∧ ub = vb ∧ j ≤ len ∧ i = .int .i64 j ∧ Lst wr w.heap.size va Sx j ∧ Lst wr w.heap.size vb Sx j ∧ (∀ x, va.ownBlock = some x → vb.ownBlock ≠ some x) ∧ Below w.heap.size w wr ∧ ∀ k, k < j → (Sx k).size ≤ 1000) (fun _ _ i _ => len - (intOf i).toNat)
    case atStart => exact ⟨0, _, _, rfl, rfl, by omega, rfl, ⟨[], World.ownsRow_nil _ _ _ _, fun i hi => by omega⟩, ⟨[], World.ownsRow_nil _ _ _ _, fun i hi => by omega⟩, (fun x hx => by simp [Value.ownBlock] at hx), Below.refl _ _, fun k hk => by omega⟩
    case round =>
      obtain ⟨j, va, vb, hva, hvb, hj, rfl, la, lb, hab, bel, hall⟩ := hrel
      have hva := hva.symm
      have hvb := hvb.symm
      subst hva
      subst hvb
      have hwr := hw.below bel hp
      have hsz := bel.size
      have HA : Hid (∀ k, k < j → (Sx k).size ≤ 1000) := hall
      clear hall
      by_cases hlt : j < len
      · rcases HS.out with h0 | ⟨b, off, rfl, hcells⟩
        · omega
        · obtain ⟨hc, hsm⟩ := hcells j hlt
          have HC : Hid (∀ w', Below w.heap.size w w' → w'.cell? ⟨b, off + j, none⟩ = some (.string (Sx j))) := fun w' hb => (hb.cell (p := ⟨b, off + j, none⟩) (World.block_lt_of_cell? _ _ hc)).trans hc
          have hcr := HC.out wr bel
          clear hc hcells
          unfold maxLen at hsm
          obtain ⟨S, hSj⟩ : ∃ S, S = Sx j := ⟨_, rfl⟩
          have HJ : Hid (S = Sx j) := hSj
          rw [← hSj] at hcr hsm HC
          clear hSj
          by_cases hbig : 1000 < S.size
          · go_wp2_with (go_at_call 8; refine (awake_any _ hwr).mono ?_; rintro e w' ⟨rfl, hbel⟩)
            go_ret
            exact ⟨rfl, bnext bel (by assumption) hsz⟩
          · have c1 := ftext_own S wr.drew hwr (by omega)
            have hj0 : (0 : Int) ≤ (j : Int) := by omega
            have hj1 : (j : Int) < (len : Int) := by omega
            have HTB : Hid (∀ i, 0 ≤ (textB S).getD i 0 ∧ (textB S).getD i 0 < 256) := textB_bytes S
            have LA : Hid (Lst wr.drew w.heap.size va Sx j) := la
            have LB : Hid (Lst wr.drew w.heap.size vb Sx j) := lb
            have HAB : Hid (∀ x, va.ownBlock = some x → vb.ownBlock ≠ some x) := hab
            clear la lb hab hwr
            go_wp2
            go_region_held3 (fun w' => w'.cell? ⟨b, off + j, none⟩ = some (.string S)) (first | exact hcr | exact hcr1 | exact HC.out _ (B1.alloc B1.size _) | exact hcr2 | exact hcr3 | exact HC.out _ (B3.alloc B3.size _) | exact hcr4)
              (first
                | (go_at_call 9; refine c1.mono ?_; rintro e w1 ⟨v1, rfl, ow1, b1⟩; have B1 := bnext bel.drew b1 hsz; have hcr1 := HC.out w1 B1; obtain ⟨q1, cp1, hv1, _⟩ := sl_owned (own_mono ow1 hsz) HTB.out; subst hv1; have ow1' := own_mono ow1 hsz
                   obtain ⟨VA, oa, ea⟩ := (LA.out.below b1).below (al_below w1 (.cells #[.slice q1 (textB S).length cp1] 25)); have lb1 := (LB.out.below b1).below (al_below w1 (.cells #[.slice q1 (textB S).length cp1] 25)); have ov1 := own_kept ow1' (grown_below (al_below w1 (.cells #[.slice q1 (textB S).length cp1] 25))) (fun x hx => by cases hx))
                | (go_at_call 10; refine (rtextB_any S _ (by omega)).mono ?_; rintro e w3 ⟨v3, rfl, ow3, b3⟩; have B3 := bnext B2 b3 B2.size; have hcr3 := HC.out w3 B3; obtain ⟨q3, cp3, hv3, _⟩ := sl_owned (own_mono ow3 B2.size) HTB.out; subst hv3; have ow3' := own_mono ow3 B2.size
                   obtain ⟨VB, ob, eb⟩ := (lb2.below b3).below (al_below w3 (.cells #[.slice q3 (textB S).length cp3] 25)); have la3 := (la2.below b3).below (al_below w3 (.cells #[.slice q3 (textB S).length cp3] 25)); have ov3 := own_kept ow3' (grown_below (al_below w3 (.cells #[.slice q3 (textB S).length cp3] 25))) (fun x hx => by cases hx))
                | (refine step_append_lies _ rfl (.tmp 25) (.tmp 31) 24 rfl w.heap.size 25 i0 (.slice none 0 0) 1 24 Tryd.underlying24 hi hz0 hz1 hz2 rfl (by decide) va j VA rfl oa ⟨w1.heap.size, 0, none⟩ 1 1 [.slice q1 (textB S).length cp1] rfl rfl (cell_one_new w1 _ 25) (by intro u hu; simp at hu; subst hu; rfl) (by decide) (by unfold maxLen; omega) (by omega) (B1.alloc B1.size _).size _ rfl ?_; intro g1 gc1 w2 oa' hgr1 hg1 hlt1; have la2 := Lst.push oa ea (by rw [← HJ.out]; exact ov1) oa' hgr1
                   have lb2 := lb1.kept hgr1 (fun x hx => HAB.out x hx) (fun x hx => own_tag oa hx); have B2 := (B1.alloc B1.size (.cells #[.slice q1 (textB S).length cp1] 25)).grown hgr1 (B1.alloc B1.size _).size (own_base oa); have hcr2 := HC.out w2 B2; have hab2 : Hid (∀ x, vb.ownBlock = some x → g1 ≠ x) := (fun x hx => ne_of_lies hg1 (fun e => HAB.out x e hx) (lt_block lb1 hx)))
                | (refine step_append_lies _ rfl (.tmp 33) (.tmp 39) 24 rfl w.heap.size 25 i0 (.slice none 0 0) 1 24 Tryd.underlying24 hi hz0 hz1 hz2 rfl (by decide) vb j VB rfl ob ⟨w3.heap.size, 0, none⟩ 1 1 [.slice q3 (textB S).length cp3] rfl rfl (cell_one_new w3 _ 25) (by intro u hu; simp at hu; subst hu; rfl) (by decide) (by unfold maxLen; omega) (by omega) (B3.alloc B3.size _).size _ rfl ?_; intro g2 gc2 w4 ob' hgr2 hg2 hlt2; have lb4 := Lst.push ob eb (by rw [← HJ.out]; exact ov3) ob' hgr2
                   have la4 := la3.kept hgr2 (fun x hx e => by cases e; exact hab2.out _ hx rfl) (fun x hx => own_tag ob hx); have B4 := (B3.alloc B3.size (.cells #[.slice q3 (textB S).length cp3] 25)).grown hgr2 (B3.alloc B3.size _).size (own_base ob); have hcr4 := HC.out w4 B4; have hab4 : Hid (g2 ≠ g1) := ne_of_lies hg2 (fun e => hab2.out _ e rfl) (lt_block la3 rfl)))
            all_goals
              have RL : Hid (Lst w4 w.heap.size (.slice (some ⟨g1, 0, none⟩) (j + 1) gc1) Sx (j + 1)) := la4
              have RM : Hid (Lst w4 w.heap.size (.slice (some ⟨g2, 0, none⟩) (j + 1) gc2) Sx (j + 1)) := lb4
              have HB4 : Hid (Below w.heap.size w w4) := B4
              clear la4 lb4 B4 hcr4 hcr3 hcr2 hcr1 hcr la3 la2 lb2 lb1 oa ea ob eb oa' ob' hgr1 hgr2 ov1 ov3 ow1 ow3 ow1' ow3' b1 b3 B1 B2 B3 c1
              go_wp2
              go_roundw
              case rel =>
                refine ⟨j + 1, _, _, rfl, rfl, by omega, by go_num, RL.out, RM.out, ?_, HB4.out, ?_⟩
                · intro x hx e
                  simp only [Value.ownBlock, Option.some.injEq] at hx e
                  exact hab4.out (e.trans hx.symm)
                · intro k hk
                  rcases Nat.lt_succ_iff_lt_or_eq.1 hk with h | h
                  · exact HA.out k h
                  · rw [h, ← HJ.out]; omega
              case measure => simp [intOf]; omega
      · obtain rfl : j = len := by omega
        obtain ⟨pa, ca, rfl, PA⟩ := la.parts (fun k => textB_bytes (Sx k)) (by omega)
        obtain ⟨pb', cb, rfl, PB⟩ := lb.parts (fun k => textB_bytes (Sx k)) (by omega)
        have hfl : ((List.range j).map fun k => textB (Sx k)).flatten.length ≤ 61000 := by
          have : ∀ m, m ≤ j → ((List.range m).map fun k => textB (Sx k)).flatten.length ≤ 1008 * m := by
            intro m
            induction m with
            | zero => intro _; simp
            | succ m ih =>
              intro hm
              have h1 := ih (by omega)
              have h2 := (textB_len (Sx m)).1
              have h3 := HA.out m (by omega)
              rw [List.range_succ, List.map_append, List.flatten_append, List.length_append]
              simp only [List.map_cons, List.map_nil, List.flatten_cons, List.flatten_nil, List.append_nil]
              omega
          have := this j (Nat.le_refl _)
          omega
        have hzl : ((List.range j).map fun k => textB (Sx k)).length = j := by simp
        have hzb : ∀ i, 0 ≤ ((List.range j).map fun k => textB (Sx k)).flatten.getD i 0 ∧ ((List.range j).map fun k => textB (Sx k)).flatten.getD i 0 < 256 := bytes_flat _ (by
          intro X hX
          obtain ⟨k, _, rfl⟩ := List.mem_map.1 hX
          exact textB_bytes (Sx k))
        have nb8 : (numB n).length ≤ 8 := by have nl := numB_len n; rcases lenOf_cases n with h | h | h | h | h | h <;> omega
        have HPA : Hid (Parts wr pa ((List.range j).map fun k => textB (Sx k))) := PA
        have HPB : Hid (Parts wr pb' ((List.range j).map fun k => textB (Sx k))) := PB
        clear la lb hab PA PB
        have JA : Hid (∀ w', Below wr.heap.size wr w' → Calls Tryd.prog 13 #[.slice pa j ca] w' fun r w2 => ∃ v, r = .returned v ∧ Sl w2 v ((List.range j).map fun k => textB (Sx k)).flatten ∧ Below w'.heap.size w' w2) := fun w' hb => by
          have h := join_any pa ca _ w' (parts_kept HPA.out hb) (by omega)
          rw [hzl] at h
          exact h.mono fun e w2 ⟨v, he, ho, hb⟩ => ⟨v, he, sl_owned ho hzb, hb⟩
        have JB : Hid (∀ w', Below wr.heap.size wr w' → Calls Tryd.prog 14 #[.slice pb' j cb] w' fun r w2 => ∃ v, r = .returned v ∧ Sl w2 v ((List.range j).map fun k => textB (Sx k)).flatten ∧ Below w'.heap.size w' w2) := fun w' hb => by
          have h := rjoin_any pb' cb _ w' (parts_kept HPB.out hb) (by omega)
          rw [hzl] at h
          exact h.mono fun e w2 ⟨v, he, ho, hb⟩ => ⟨v, he, sl_owned ho hzb, hb⟩
        have NB : Hid (∀ w' : World, Calls Tryd.prog 12 #[.int .i64 n] w' fun r w2 => ∃ v, r = .returned v ∧ Sl w2 v (numB n) ∧ Below w'.heap.size w' w2) := fun w' =>
          (rnumB_any n w').mono fun e w2 ⟨v, he, ho, hb⟩ => ⟨v, he, sl_owned ho (numB_bytes n), hb⟩
        clear hfl hzl hzb nb8 HPA HPB
        generalize ((List.range j).map fun k => textB (Sx k)).flatten = F at *
        generalize hTN : strB (numB n) = TN
        generalize hTF : strB F = TF
        have ETN : Hid (strB (numB n) = TN) := hTN
        have ETF : Hid (strB F = TF) := hTF
        clear hTN hTF
        have c1 := fnum_any n wr.drew hwr
        go_wp2
        go_region_with (first
          | (go_at_call 11; refine c1.mono ?_; rintro e w1 ⟨v1, rfl, s1, b1⟩; have D1 : Below wr.heap.size wr w1 := (Below.refl wr.heap.size wr).drew.trans b1; obtain ⟨q1, r1, hv1, _⟩ := id s1; subst hv1; have k1 := s1.conv; rw [ETN.out] at k1)
          | (go_at_call 12; refine (NB.out _).mono ?_; rintro e w2 ⟨v2, rfl, s2, b2⟩; have D2 := bnext D1 b2 D1.size; obtain ⟨q2, r2, hv2, _⟩ := id s2; subst hv2; have k2 := s2.conv; have k12 := (s1.kept b2).conv; rw [ETN.out] at k2 k12)
          | (go_at_call 13; refine (JA.out _ D2).mono ?_; rintro e w3 ⟨v3, rfl, s3, b3⟩; have D3 := bnext D2 b3 D2.size; obtain ⟨q3, r3, hv3, _⟩ := id s3; subst hv3; have k3 := s3.conv; rw [ETF.out] at k3)
          | (go_at_call 14; refine (JB.out _ D3).mono ?_; rintro e w4 ⟨v4, rfl, s4, b4⟩; have D4 := bnext D3 b4 D3.size; obtain ⟨q4, r4, hv4, _⟩ := id s4; subst hv4; have k4 := s4.conv; have k34 := (s3.kept b4).conv; rw [ETF.out] at k4 k34)
          | (go_at_call 8; refine (awake_any _ (hw.below (bnext bel D4 hsz) hp)).mono ?_; rintro e w5 ⟨rfl, b5⟩))
        all_goals
          go_wp2
          go_ret
          exact ⟨rfl, bnext (bnext bel D4 hsz) b5 (bnext bel D4 hsz).size⟩

theorem contract (H : Type) (enc : TypeId × Value → H) (W : World) (base : Nat) (args : Array Value) (ds gs : List (DataW H)) (before : List MemPlace)
    (hval : ∀ (j : Nat) t v, Tryd.f3.params[j]? = some t → args[j]? = some v → Value.okWide Tryd.prog W .any base t v)
    (hW : DataW.Whole enc Tryd.prog Tryd.f3.params.toList Rows.fieldLaysSpec.vars false W args.toList ds gs before) (hL : laidMetH Tryd.prog Rows.fieldLaysRow.laid W)
    (hsz0 : (DataW.weightsEach Tryd.prog (Tryd.f3.params.toList ++ Rows.fieldLaysSpec.plain.varTypes Tryd.prog) (ds ++ gs)).all (· ≤ reachBytes) = true) :
    Calls Tryd.prog 3 args W fun e W' => ∃ v, e = .returned v ∧ Rows.fieldLaysSpec.post enc Tryd.prog Tryd.f3 false true false false W args v W' := by
  have hW' := hW
  obtain ⟨p, q, hA0, hV, rfl, hfz, hnd⟩ := hW
  have hA : DataW.TrodAll enc Tryd.prog W 0 (fun _ => true) true Tryd.f3.params.toList args.toList ds p := hA0
  rw [Tryd.params3] at hA hval hsz0
  obtain ⟨v0, vs0, d0, ds0, p0, q0, hargs, rfl, rfl, h0, r0⟩ := trodAll_cons hA
  obtain ⟨v1, vs1, d1, ds1, p1, q1, rfl, rfl, rfl, h1, r1⟩ := trodAll_cons r0
  obtain ⟨rfl, rfl, rfl⟩ := trodAll_nil r1
  obtain rfl : args = #[v0, v1] := by cases args; simp_all
  obtain ⟨rfl, rfl⟩ := trodVars_none hV
  obtain ⟨a0, rfl, rfl, rfl, w0⟩ := open_int Tryd.underlying3 (hval 0 3 v0 rfl rfl) h0
  have k1 := h1
  have lt1 : ∀ x ∈ p1, x.block < W.heap.size := by obtain ⟨m, hm⟩ := k1; exact DataW.trod_lt m _ _ _ hm
  obtain ⟨a1, len1, cap1, Sx1, rfl, w1⟩ := strs_open (hval 1 22 v1 rfl rfl) h1
  clear hA0
  refine (walk a0 a1 len1 cap1 Sx1 W (wid_of hL) w0 w1).mono fun e W' ⟨he, bel⟩ => ?_
  subst he
  exact ⟨_, rfl, _, _, _, [], _, [], hW', trodAll_mk1 (shut_bool Tryd.underlying4 _), (trodAll_cons_mk (shut_int Tryd.underlying3 w0) (trodAll_cons_mk (Below.trod laidOut (by kernel_rfl) (of_decide_eq_true (by kernel_rfl)) k1 bel lt1) trodAll_mk0)), rfl, bel.frame _, fun h => by cases h⟩

theorem laid_met (os : Os) : laidMet Tryd.prog Rows.fieldLaysRow.laid (({ World.holding Tryd.prog os ⟨#[], #[], []⟩ with heap := (World.holding Tryd.prog os ⟨#[], #[], []⟩).heap.modify 0 fun
      | .cells _ t frozen => .cells #[.int .i64 1, .int .i64 2, .int .i64 4, .int .i64 8] t frozen
      | o => o } : World).forCall (fun _ _ => 0) ⟨#[], #[.int .i64 0, .slice none 0 0], []⟩).memory :=
  laidMet_of_run' 8 (by kernel_rfl) (by kernel_rfl)
theorem reads (os : Os) {H : Type} (enc : TypeId × Value → H) : ∃ places, DataW.whole enc Tryd.prog (({ World.holding Tryd.prog os ⟨#[], #[], []⟩ with heap := (World.holding Tryd.prog os ⟨#[], #[], []⟩).heap.modify 0 fun
      | .cells _ t frozen => .cells #[.int .i64 1, .int .i64 2, .int .i64 4, .int .i64 8] t frozen
      | o => o } : World).forCall (fun _ _ => 0) ⟨#[], #[.int .i64 0, .slice none 0 0], []⟩).memory Tryd.f3.params.toList Rows.fieldLaysSpec.vars false #[Value.int .i64 0, .slice none 0 0].toList 8 = some ([.lit (.int .i64 0), .nil], [], places) :=
  ⟨[], by kernel_rfl⟩

set_option maxRecDepth 100000 in
theorem lifted (os : Os) (started : os.Started) (H : Type) (enc : TypeId × Value → H) (F : Stop.Interp) :
    ReturnsInHanded {} Tryd.checked os 3 .any ((OpenSpec.ofChange Rows.fieldLaysSpec).preRow enc Tryd.prog Tryd.f3 Rows.fieldLaysRow.domain false Rows.fieldLaysRow.laid) (((OpenSpec.ofChange Rows.fieldLaysSpec).at F).post enc Tryd.prog Tryd.f3 false true false false) := by
  obtain ⟨places, hx⟩ := reads os enc
  refine returnsInHanded_of_row (C := Tryd.checked) (s := OpenSpec.ofChange Rows.fieldLaysSpec) own started (by kernel_rfl) Tryd.func3
    (witness_row_at (enc := enc) (C := Tryd.checked) false ({ World.holding Tryd.prog os ⟨#[], #[], []⟩ with heap := (World.holding Tryd.prog os ⟨#[], #[], []⟩).heap.modify 0 fun
      | .cells _ t frozen => .cells #[.int .i64 1, .int .i64 2, .int .i64 4, .int .i64 8] t frozen
      | o => o } : World) #[.int .i64 0, .slice none 0 0] rfl (by kernel_rfl) (by kernel_rfl) (by kernel_rfl)
      (OpenSpec.preRow_of_cond 8 hx (by kernel_rfl) (fun k hk => by cases hk) (by kernel_rfl) (laid_met os))) ?_
  intro W base args ds gs before hval hW _ _ hsz hL _ _
  exact contract H enc W base args ds gs before hval hW hL hsz

theorem said : Rows.FieldLaysSaid :=
  OpenClaim.holds_of_cond 3 Tryd.f3 rfl rfl rfl rfl rfl rfl rfl ⟨rfl, rfl, rfl, rfl, rfl⟩ rfl rfl rfl rfl rfl (by kernel_rfl) Tryd.func3 (by kernel_rfl)
    (of_decide_eq_true (by kernel_rfl)) (by unfold Func.isWrapper; first | (rw [if_pos (by decide +kernel)]; kernel_rfl) | (rw [if_neg (by decide +kernel)]; exact ⟨rfl, rfl⟩))
    (fun os started H enc _ F => by rw [OpenClaim.pre_eq_preRow]; exact lifted os started H enc F)

theorem plain (f : FuncId) (fn : Func) (hf : Tryd.pinned.checked.prog.funcNamed "sumpter/sumpterlaw02.FieldLays" = some f) (hfn : Tryd.pinned.checked.prog.funcs[f]? = some fn) :
    false = Tryd.pinned.checked.prog.looks [] ∧ ∀ (j : Nat) t, fn.params[j]? = some t → Tryd.pinned.checked.prog.wantsStandIn t = false := by
  obtain rfl : f = 3 := Option.some.inj ((show Tryd.prog.funcNamed "sumpter/sumpterlaw02.FieldLays" = some 3 by kernel_rfl).symm.trans hf) |>.symm
  obtain rfl : fn = Tryd.f3 := (Option.some.inj (Tryd.func3.symm.trans hfn)).symm
  refine ⟨by kernel_rfl, fun j t ht => ?_⟩
  rw [Tryd.params3] at ht
  have hm : t ∈ [3, 22] := by simpa using Array.mem_of_getElem? ht
  have hall : ([3, 22].all fun u => !Tryd.prog.wantsStandIn u) = true := by kernel_rfl
  exact (show Tryd.prog.wantsStandIn t = false by simpa using List.all_eq_true.1 hall t hm)
end Go.Proofs.YtmlnocjljhhmdaaDoor.fieldLays

namespace Go.Proofs.YtmlnocjljhhmdaaDoor
/-- The card of FieldLays. -/
theorem fieldLays_card : Rows.FieldLaysCardSaid :=
  Claim7.holds_tied_plain_at .later [] _ _ _ _ fieldLays.said (fun _ h => by cases h) (by kernel_rfl) (fun _ h => by cases h) fieldLays_row_tie rfl ⟨rfl, rfl⟩ (by kernel_rfl) rfl fieldLays.plain (by kernel_rfl)
#print axioms fieldLays_card
end Go.Proofs.YtmlnocjljhhmdaaDoor
