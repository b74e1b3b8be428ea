/-
  Steps in a row of the call's own; what steps answers, at each function that it is handed.
  What slices.Reverse makes of a row of steps.
  What slices.Grow of nil and slices.Concat of four lists of steps answer.
-/
import Derived.Test.YtajcabfeabbknaaGreatDoorMw
import Derived.Test.YtajcabfeabbknaaGreatDoorMn
import Derived.Deep.AppendLies
import Derived.Deep.RegionHeld3
import Derived.Laws.AppendOwnNone
namespace Go.Proofs.YtajcabfeabbknaaGreatDoor
open Go.RowKit Go.Deep

/-- The cells of steps. -/
def cellsT (l : List St) : List Value := l.flatMap fun x => [.int .u8 x.κ, .string x.p, .string x.t]
theorem cellsT_len (l : List St) : (cellsT l).length = l.length * 3 := by
  induction l with
  | nil => rfl
  | cons x l ih =>
    unfold cellsT at ih ⊢
    rw [List.flatMap_cons, List.length_append, ih]
    simp
    omega
theorem cellsT_app (l m : List St) : cellsT (l ++ m) = cellsT l ++ cellsT m := by unfold cellsT; rw [List.flatMap_append]
theorem cellsT_one (l : List St) : ∀ y ∈ cellsT l, y.oneCell' = true := fun y hy => by
  unfold cellsT at hy
  obtain ⟨x, _, h⟩ := List.mem_flatMap.1 hy
  simp only [List.mem_cons, List.not_mem_nil, or_false] at h
  rcases h with rfl | rfl | rfl <;> rfl
/-- Steps in a row of the call's own. -/
def SR (w : World) (B : Nat) (v : Value) (l : List St) : Prop := w.ownsRow B 51 3 v l.length (cellsT l)
theorem SR.nil (w : World) (B : Nat) : SR w B (.slice none 0 0) [] := ⟨rfl, .inl ⟨rfl, rfl⟩⟩
theorem SR.below {w w' : World} {B : Nat} {v : Value} {l : List St} (h : SR w B v l) (hb : Below w.heap.size w w') : SR w' B v l := own_below h hb
theorem SR.mono {w : World} {B B' : Nat} {v : Value} {l : List St} (h : SR w B v l) (hb : B' ≤ B) : SR w B' v l := own_mono h hb
theorem infoS : (Tryz.prog.info? 51).map (fun i => (i.zero, i.size, i.bytes)) = some (some (.agg #[.int .u8 0, .string ByteArray.empty, .string ByteArray.empty]), 3, 40) := by kernel_rfl
theorem map_next (F : List En) (κ : Int) (t : En → List UInt8) (j : Nat) (h : j < F.length) : (F.take (j + 1)).map (ste κ t) = (F.take j).map (ste κ t) ++ [ste κ t (atE F j)] := by
  rw [take_at F j h, List.map_append]
  rfl
/-- The cells of a step that was built. -/
theorem new3 (w : World) (x y z : Value) (t : TypeId) : ∀ j u, [x, y, z][j]? = some u → (w.alloc (.cells #[x, y, z] t)).cell? ((⟨w.heap.size, 0, none⟩ : Addr).add j) = some u := fun j u hj => by
  rw [Addr.add_lit, Nat.zero_add, World.cell?_alloc_at _ _ _ _ rfl]
  simpa using hj
/-- A block of another kind is no row of steps. -/
theorem row_tag {w : World} {B n g : Nat} {v : Value} {xs : List Value} {cs : Array Value} {t : TypeId} {fz : Nat × Nat} (h : w.ownsRow B 51 3 v n xs) (hb : w.heap[g]? = some (.cells cs t fz)) (ht : t ≠ 51) : some g ≠ v.ownBlock := by
  intro e
  rcases h.2 with ⟨rfl, _⟩ | ⟨g', cap, cur, rfl, _, hh, _⟩
  · cases e
  · cases e
    rw [hb] at hh
    cases hh
    exact ht rfl
set_option maxHeartbeats 4000000 in
set_option maxRecDepth 100000 in
theorem stepsK (κ : Int) (v av : Value) (l : List En) (f : En → Bool) (t : En → List UInt8) (g1 g2 g3 g4 : Nat) (w : World) (hl : Lt l) (hv : ∃ m, ES w v m) (hav : ∃ a b c, av = .func a b c)
    (hp : Calls Tryz.prog 22 #[v, av] w fun e w' => ∃ v', e = .returned v' ∧ SE w w' w.heap.size v' (l.filter f) ∧ Below w.heap.size w w')
    (hf : ∀ (W : World) (u : Value) (x : En), Below w.heap.size w W → EV W u x → x.p.size ≤ 1000 → Calls Tryz.prog 55 #[u, .pointer (some ⟨g1, 0, none⟩), .pointer (some ⟨g2, 0, none⟩), .pointer (some ⟨g3, 0, none⟩), .pointer (some ⟨g4, 0, none⟩)] W fun e w' => e = .returned (.string (mk (t x))) ∧ Below W.heap.size W w') :
    Calls Tryz.prog 32 #[.int .u8 κ, v, .func (.func 55) #[] #[.pointer (some ⟨g1, 0, none⟩), .pointer (some ⟨g2, 0, none⟩), .pointer (some ⟨g3, 0, none⟩), .pointer (some ⟨g4, 0, none⟩)], av] w fun e w' => ∃ v', e = .returned v' ∧ SR w' w.heap.size v' ((l.filter f).map (ste κ t)) ∧ Below w.heap.size w w' := by
  obtain ⟨i0, hi, hz0, hz1, hz2⟩ := info_parts infoS
  have HF : Hid (∀ (W : World) (u : Value) (x : En), Below w.heap.size w W → EV W u x → x.p.size ≤ 1000 → Calls Tryz.prog 55 #[u, .pointer (some ⟨g1, 0, none⟩), .pointer (some ⟨g2, 0, none⟩), .pointer (some ⟨g3, 0, none⟩), .pointer (some ⟨g4, 0, none⟩)] W fun e w' => e = .returned (.string (mk (t x))) ∧ Below W.heap.size W w') := hf
  have HL : Hid (∀ x ∈ l.filter f, x.p.size ≤ 1000) := fun x hx => (hl.2 x (List.mem_filter.1 hx).1).1
  have hn : (l.filter f).length ≤ 100 := Nat.le_trans (List.length_filter_le _ _) hl.1
  obtain ⟨m0, hv⟩ := hv
  obtain ⟨a, c, rfl, _, _, _⟩ := hv.shape
  obtain ⟨fa, fb, fc, rfl⟩ := hav
  generalize m0.length = n0 at *
  generalize l.filter f = F at *
  clear hf hl hv
  go_enter Tryz.func32, Tryz.ntmps32
  go_wp2_with fail
  refine hp.mono ?_
  rintro e w1 ⟨v1, rfl, s1, b1⟩
  have B1 : Hid (Below w.heap.size w w1) := b1
  have HS : Hid (ES w1 v1 F) := s1.es b1
  obtain ⟨va, vc, rfl, hvc⟩ := s1.shape4
  clear hp b1 s1
  obtain ⟨n, hn'⟩ : ∃ n, n = F.length := ⟨_, rfl⟩
  have HN : Hid (n = F.length) := hn'
  rw [← hn'] at HS hvc hn ⊢
  clear hn'
  go_wp2
  go_loopw [9, 16] (fun s q wr => ∃ j : Nat, j ≤ n ∧ q = .int .i64 j ∧ SR wr w1.heap.size s ((F.take j).map (ste κ t)) ∧ Below w1.heap.size w1 wr) (fun _ q _ => n - (intOf q).toNat)
  case atStart => exact ⟨0, by omega, rfl, SR.nil _ _, Below.refl _ _⟩
  case round =>
    obtain ⟨j, hj, rfl, sr, bel⟩ := hrel
    have HB : Hid (Below w1.heap.size w1 wr) := bel
    have HO : Hid (SR wr w1.heap.size u9 ((F.take j).map (ste κ t))) := sr
    clear sr bel
    obtain ⟨oa, oc, rfl⟩ := own_shape HO.out
    by_cases hlt : j < n
    · have lt2 : (j : Int) < (n : Int) := by omega
      obtain ⟨b, off, ua, un, uc, rfl, c1, c2, c3, hun, hsl⟩ := (HS.out.kept HB.out).at j (by rw [← HN.out]; exact hlt)
      have q1 : IntKind.i64.wrap ((j : Int) + 1) = ((j + 1 : Nat) : Int) := by simp [IntKind.wrap, IntKind.bits, IntKind.signed]; omega
      have HT : Hid ((F.take (j + 1)).map (ste κ t) = (F.take j).map (ste κ t) ++ [ste κ t (atE F j)]) := map_next F κ t j (by rw [← HN.out]; exact hlt)
      have HJ : Hid (((F.take j).map (ste κ t)).length = j) := by
        unfold Hid
        have := HN.out
        rw [List.length_map, List.length_take]
        omega
      obtain ⟨W1, hW1⟩ : ∃ W1, W1 = wr.alloc (.cells #[.string (atE F j).p, .bool (atE F j).d, .slice ua un uc] 46) := ⟨_, rfl⟩
      have b1 : Below wr.heap.size wr W1 := by rw [hW1]; exact (Below.refl _ _).alloc (Nat.le_refl _) _
      have K1 : W1.heap[wr.heap.size]? = some (.cells #[.string (atE F j).p, .bool (atE F j).d, .slice ua un uc] 46 (0, 0)) := by rw [hW1]; exact heap_alloc_new _ _
      have HKB : Hid (∀ W, Below W1.heap.size W1 W → W.heap[wr.heap.size]? = some (.cells #[.string (atE F j).p, .bool (atE F j).d, .slice ua un uc] 46 (0, 0))) := fun W hb => (hb.block _ (lt_of_block K1)).trans K1
      have HK : Hid (∀ W, Below W1.heap.size W1 W → W.cell? ⟨wr.heap.size, 0, none⟩ = some (.string (atE F j).p) ∧ W.cell? ⟨wr.heap.size, 1, none⟩ = some (.bool (atE F j).d) ∧ W.cell? ⟨wr.heap.size, 2, none⟩ = some (.slice ua un uc)) := fun W hb => by
        obtain ⟨p0, p1, p2, _⟩ := trio ((hb.block _ (lt_of_block K1)).trans K1)
        exact ⟨p0, p1, p2⟩
      have B2 : Hid (Below w1.heap.size w1 W1) := HB.out.trans (b1.mono HB.out.size)
      have O1 : Hid (W1.ownsRow w1.heap.size 51 3 (.slice oa j oc) j (cellsT ((F.take j).map (ste κ t)))) := by
        have := HO.out.below b1
        unfold SR at this
        rw [HJ.out] at this
        exact this
      have CS : Hid (∀ W, Below W1.heap.size W1 W → Calls Tryz.prog 55 #[.agg #[.string (atE F j).p, .bool (atE F j).d, .slice ua un uc], .pointer (some ⟨g1, 0, none⟩), .pointer (some ⟨g2, 0, none⟩), .pointer (some ⟨g3, 0, none⟩), .pointer (some ⟨g4, 0, none⟩)] W fun e w' => e = .returned (.string (mk (t (atE F j)))) ∧ Below W.heap.size W w') := fun W hb => by
        have hb2 : Below w1.heap.size w1 W := B2.out.trans (hb.mono B2.out.size)
        have hb3 : Below wr.heap.size wr W := b1.trans (hb.mono b1.size)
        exact HF.out W _ (atE F j) (B1.out.trans (hb2.mono B1.out.size)) ⟨ua, un, uc, rfl, hsl.kept hb3⟩ (HL.out _ (atE_mem F j (by rw [← HN.out]; exact hlt)))
      have hst : ste κ t (atE F j) = ⟨κ, (atE F j).p, mk (t (atE F j))⟩ := rfl
      rw [hst] at HT
      rw [HJ.out]
      clear hun hsl HO b1 K1 hst
      generalize mk (t (atE F j)) = tx at *
      generalize (atE F j).p = xp at *
      generalize (atE F j).d = xd at *
      generalize hfm : (F.take j).map (ste κ t) = FJ at *
      clear hfm
      go_wp2
      rw [← hW1]
      clear hW1 c1 c2 c3
      have k1 := HK.out W1 (Below.refl _ _)
      have k1d := HK.out W1.drew (Below.refl _ _).drew
      have C1 := CS.out W1.drew (Below.refl _ _).drew
      have DR : Hid (Below W1.heap.size W1 W1.drew) := (Below.refl _ _).drew
      have OD : Hid (W1.drew.ownsRow w1.heap.size 51 3 (.slice oa j oc) j (cellsT FJ)) := O1.out
      go_region_held3 (fun W => W.cell? ⟨wr.heap.size, 0, none⟩ = some (.string xp) ∧ W.cell? ⟨wr.heap.size, 1, none⟩ = some (.bool xd) ∧ W.cell? ⟨wr.heap.size, 2, none⟩ = some (.slice ua un uc)) (first | exact k1 | exact k1d | exact k2 | exact k3 | exact k4)
        (first
          | (go_at_call 55; refine C1.mono ?_; rintro e w2 ⟨rfl, b2⟩; have D2 := DR.out.trans (b2.mono DR.out.size); have k2 := HK.out w2 D2; have o2 := own_below OD.out b2; have n3 : Below w2.heap.size w2 (w2.alloc (.cells #[.int .u8 κ, .string xp, .string tx] 51)) := (Below.refl _ _).alloc (Nat.le_refl _) _; have D3 := D2.trans (n3.mono D2.size); have k3 := HK.out _ D3; have o3 := own_below o2 n3; have B3 := B2.out.trans (D3.mono B2.out.size))
          | (refine step_append_lies _ rfl (.tmp 20) (.tmp 28) 32 rfl w1.heap.size 51 i0 (.agg #[.int .u8 0, .string ByteArray.empty, .string ByteArray.empty]) 3 40 Tryz.underlying32 hi hz0 hz1 hz2 rfl (by decide) _ j (cellsT FJ) rfl o3 ⟨w2.heap.size, 0, none⟩ 1 1 [.int .u8 κ, .string xp, .string tx] rfl rfl (new3 w2 _ _ _ _) (by intro u hu; simp at hu; rcases hu with rfl | rfl | rfl <;> rfl) (by decide) (by unfold maxLen; omega) (by omega) B3.size _ rfl ?_; intro g4 gc4 w4 o4 hgr4 hg4 hlt4; have B4 := B3.grown hgr4 B3.size (own_base o3); have k4 : w4.cell? ⟨wr.heap.size, 0, none⟩ = some (.string xp) ∧ w4.cell? ⟨wr.heap.size, 1, none⟩ = some (.bool xd) ∧ w4.cell? ⟨wr.heap.size, 2, none⟩ = some (.slice ua un uc) := ⟨hgr4.cell k3.1 (row_tag o3 (HKB.out _ D3) (by decide)), hgr4.cell k3.2.1 (row_tag o3 (HKB.out _ D3) (by decide)), hgr4.cell k3.2.2 (row_tag o3 (HKB.out _ D3) (by decide))⟩))
      all_goals
        have S4 : Hid (SR w4 w1.heap.size (.slice (some ⟨g4, 0, none⟩) (j + 1) gc4) ((F.take (j + 1)).map (ste κ t))) := by
          unfold Hid SR
          rw [HT.out, List.length_append, HJ.out, cellsT_app]
          exact o4
        have HB4 : Hid (Below w1.heap.size w1 w4) := B4
        clear B4 o4 hgr4 hg4 hlt4 o3 o2 k1 k1d k2 k3 k4 B3 D3 D2 n3 b2 C1
        go_wp2
        go_roundw
        case rel => exact ⟨j + 1, by omega, by go_num, S4.out, HB4.out⟩
        case measure => simp [intOf]; omega
    · obtain rfl : j = n := by omega
      have HR : Hid (SR wr w.heap.size (.slice oa ((F.take j).map (ste κ t)).length oc) (F.map (ste κ t))) := by
        have h1 := HO.out.mono B1.out.size
        have h2 : F.take j = F := by rw [HN.out, List.take_length]
        unfold Hid
        rw [h2] at h1 ⊢
        exact h1
      have HB2 : Hid (Below w.heap.size w wr) := B1.out.trans (HB.out.mono B1.out.size)
      go_wp2
      go_ret
      exact ⟨_, rfl, HR.out, HB2.out⟩
set_option maxHeartbeats 4000000 in
set_option maxRecDepth 100000 in
theorem stepsN (κ : Int) (v av : Value) (l : List En) (f : En → Bool) (t : En → List UInt8) (w : World) (hl : Lt l) (hv : ∃ m, ES w v m) (hav : ∃ a b c, av = .func a b c)
    (hp : Calls Tryz.prog 22 #[v, av] w fun e w' => ∃ v', e = .returned v' ∧ SE w w' w.heap.size v' (l.filter f) ∧ Below w.heap.size w w')
    (hf : ∀ (W : World) (u : Value) (x : En), Below w.heap.size w W → EV W u x → x.p.size ≤ 1000 → Calls Tryz.prog 34 #[u] W fun e w' => e = .returned (.string (mk (t x))) ∧ Below W.heap.size W w') :
    Calls Tryz.prog 32 #[.int .u8 κ, v, .func (.func 34) #[] #[], av] w fun e w' => ∃ v', e = .returned v' ∧ SR w' w.heap.size v' ((l.filter f).map (ste κ t)) ∧ Below w.heap.size w w' := by
  obtain ⟨i0, hi, hz0, hz1, hz2⟩ := info_parts infoS
  have HF : Hid (∀ (W : World) (u : Value) (x : En), Below w.heap.size w W → EV W u x → x.p.size ≤ 1000 → Calls Tryz.prog 34 #[u] W fun e w' => e = .returned (.string (mk (t x))) ∧ Below W.heap.size W w') := hf
  have HL : Hid (∀ x ∈ l.filter f, x.p.size ≤ 1000) := fun x hx => (hl.2 x (List.mem_filter.1 hx).1).1
  have hn : (l.filter f).length ≤ 100 := Nat.le_trans (List.length_filter_le _ _) hl.1
  obtain ⟨m0, hv⟩ := hv
  obtain ⟨a, c, rfl, _, _, _⟩ := hv.shape
  obtain ⟨fa, fb, fc, rfl⟩ := hav
  generalize m0.length = n0 at *
  generalize l.filter f = F at *
  clear hf hl hv
  go_enter Tryz.func32, Tryz.ntmps32
  go_wp2_with fail
  refine hp.mono ?_
  rintro e w1 ⟨v1, rfl, s1, b1⟩
  have B1 : Hid (Below w.heap.size w w1) := b1
  have HS : Hid (ES w1 v1 F) := s1.es b1
  obtain ⟨va, vc, rfl, hvc⟩ := s1.shape4
  clear hp b1 s1
  obtain ⟨n, hn'⟩ : ∃ n, n = F.length := ⟨_, rfl⟩
  have HN : Hid (n = F.length) := hn'
  rw [← hn'] at HS hvc hn ⊢
  clear hn'
  go_wp2
  go_loopw [9, 16] (fun s q wr => ∃ j : Nat, j ≤ n ∧ q = .int .i64 j ∧ SR wr w1.heap.size s ((F.take j).map (ste κ t)) ∧ Below w1.heap.size w1 wr) (fun _ q _ => n - (intOf q).toNat)
  case atStart => exact ⟨0, by omega, rfl, SR.nil _ _, Below.refl _ _⟩
  case round =>
    obtain ⟨j, hj, rfl, sr, bel⟩ := hrel
    have HB : Hid (Below w1.heap.size w1 wr) := bel
    have HO : Hid (SR wr w1.heap.size u9 ((F.take j).map (ste κ t))) := sr
    clear sr bel
    obtain ⟨oa, oc, rfl⟩ := own_shape HO.out
    by_cases hlt : j < n
    · have lt2 : (j : Int) < (n : Int) := by omega
      obtain ⟨b, off, ua, un, uc, rfl, c1, c2, c3, hun, hsl⟩ := (HS.out.kept HB.out).at j (by rw [← HN.out]; exact hlt)
      have q1 : IntKind.i64.wrap ((j : Int) + 1) = ((j + 1 : Nat) : Int) := by simp [IntKind.wrap, IntKind.bits, IntKind.signed]; omega
      have HT : Hid ((F.take (j + 1)).map (ste κ t) = (F.take j).map (ste κ t) ++ [ste κ t (atE F j)]) := map_next F κ t j (by rw [← HN.out]; exact hlt)
      have HJ : Hid (((F.take j).map (ste κ t)).length = j) := by
        unfold Hid
        have := HN.out
        rw [List.length_map, List.length_take]
        omega
      obtain ⟨W1, hW1⟩ : ∃ W1, W1 = wr.alloc (.cells #[.string (atE F j).p, .bool (atE F j).d, .slice ua un uc] 46) := ⟨_, rfl⟩
      have b1 : Below wr.heap.size wr W1 := by rw [hW1]; exact (Below.refl _ _).alloc (Nat.le_refl _) _
      have K1 : W1.heap[wr.heap.size]? = some (.cells #[.string (atE F j).p, .bool (atE F j).d, .slice ua un uc] 46 (0, 0)) := by rw [hW1]; exact heap_alloc_new _ _
      have HKB : Hid (∀ W, Below W1.heap.size W1 W → W.heap[wr.heap.size]? = some (.cells #[.string (atE F j).p, .bool (atE F j).d, .slice ua un uc] 46 (0, 0))) := fun W hb => (hb.block _ (lt_of_block K1)).trans K1
      have HK : Hid (∀ W, Below W1.heap.size W1 W → W.cell? ⟨wr.heap.size, 0, none⟩ = some (.string (atE F j).p) ∧ W.cell? ⟨wr.heap.size, 1, none⟩ = some (.bool (atE F j).d) ∧ W.cell? ⟨wr.heap.size, 2, none⟩ = some (.slice ua un uc)) := fun W hb => by
        obtain ⟨p0, p1, p2, _⟩ := trio ((hb.block _ (lt_of_block K1)).trans K1)
        exact ⟨p0, p1, p2⟩
      have B2 : Hid (Below w1.heap.size w1 W1) := HB.out.trans (b1.mono HB.out.size)
      have O1 : Hid (W1.ownsRow w1.heap.size 51 3 (.slice oa j oc) j (cellsT ((F.take j).map (ste κ t)))) := by
        have := HO.out.below b1
        unfold SR at this
        rw [HJ.out] at this
        exact this
      have CS : Hid (∀ W, Below W1.heap.size W1 W → Calls Tryz.prog 34 #[.agg #[.string (atE F j).p, .bool (atE F j).d, .slice ua un uc]] W fun e w' => e = .returned (.string (mk (t (atE F j)))) ∧ Below W.heap.size W w') := fun W hb => by
        have hb2 : Below w1.heap.size w1 W := B2.out.trans (hb.mono B2.out.size)
        have hb3 : Below wr.heap.size wr W := b1.trans (hb.mono b1.size)
        exact HF.out W _ (atE F j) (B1.out.trans (hb2.mono B1.out.size)) ⟨ua, un, uc, rfl, hsl.kept hb3⟩ (HL.out _ (atE_mem F j (by rw [← HN.out]; exact hlt)))
      have hst : ste κ t (atE F j) = ⟨κ, (atE F j).p, mk (t (atE F j))⟩ := rfl
      rw [hst] at HT
      rw [HJ.out]
      clear hun hsl HO b1 K1 hst
      generalize mk (t (atE F j)) = tx at *
      generalize (atE F j).p = xp at *
      generalize (atE F j).d = xd at *
      generalize hfm : (F.take j).map (ste κ t) = FJ at *
      clear hfm
      go_wp2
      rw [← hW1]
      clear hW1 c1 c2 c3
      have k1 := HK.out W1 (Below.refl _ _)
      have k1d := HK.out W1.drew (Below.refl _ _).drew
      have C1 := CS.out W1.drew (Below.refl _ _).drew
      have DR : Hid (Below W1.heap.size W1 W1.drew) := (Below.refl _ _).drew
      have OD : Hid (W1.drew.ownsRow w1.heap.size 51 3 (.slice oa j oc) j (cellsT FJ)) := O1.out
      go_region_held3 (fun W => W.cell? ⟨wr.heap.size, 0, none⟩ = some (.string xp) ∧ W.cell? ⟨wr.heap.size, 1, none⟩ = some (.bool xd) ∧ W.cell? ⟨wr.heap.size, 2, none⟩ = some (.slice ua un uc)) (first | exact k1 | exact k1d | exact k2 | exact k3 | exact k4)
        (first
          | (go_at_call 34; refine C1.mono ?_; rintro e w2 ⟨rfl, b2⟩; have D2 := DR.out.trans (b2.mono DR.out.size); have k2 := HK.out w2 D2; have o2 := own_below OD.out b2; have n3 : Below w2.heap.size w2 (w2.alloc (.cells #[.int .u8 κ, .string xp, .string tx] 51)) := (Below.refl _ _).alloc (Nat.le_refl _) _; have D3 := D2.trans (n3.mono D2.size); have k3 := HK.out _ D3; have o3 := own_below o2 n3; have B3 := B2.out.trans (D3.mono B2.out.size))
          | (refine step_append_lies _ rfl (.tmp 20) (.tmp 28) 32 rfl w1.heap.size 51 i0 (.agg #[.int .u8 0, .string ByteArray.empty, .string ByteArray.empty]) 3 40 Tryz.underlying32 hi hz0 hz1 hz2 rfl (by decide) _ j (cellsT FJ) rfl o3 ⟨w2.heap.size, 0, none⟩ 1 1 [.int .u8 κ, .string xp, .string tx] rfl rfl (new3 w2 _ _ _ _) (by intro u hu; simp at hu; rcases hu with rfl | rfl | rfl <;> rfl) (by decide) (by unfold maxLen; omega) (by omega) B3.size _ rfl ?_; intro g4 gc4 w4 o4 hgr4 hg4 hlt4; have B4 := B3.grown hgr4 B3.size (own_base o3); have k4 : w4.cell? ⟨wr.heap.size, 0, none⟩ = some (.string xp) ∧ w4.cell? ⟨wr.heap.size, 1, none⟩ = some (.bool xd) ∧ w4.cell? ⟨wr.heap.size, 2, none⟩ = some (.slice ua un uc) := ⟨hgr4.cell k3.1 (row_tag o3 (HKB.out _ D3) (by decide)), hgr4.cell k3.2.1 (row_tag o3 (HKB.out _ D3) (by decide)), hgr4.cell k3.2.2 (row_tag o3 (HKB.out _ D3) (by decide))⟩))
      all_goals
        have S4 : Hid (SR w4 w1.heap.size (.slice (some ⟨g4, 0, none⟩) (j + 1) gc4) ((F.take (j + 1)).map (ste κ t))) := by
          unfold Hid SR
          rw [HT.out, List.length_append, HJ.out, cellsT_app]
          exact o4
        have HB4 : Hid (Below w1.heap.size w1 w4) := B4
        clear B4 o4 hgr4 hg4 hlt4 o3 o2 k1 k1d k2 k3 k4 B3 D3 D2 n3 b2 C1
        go_wp2
        go_roundw
        case rel => exact ⟨j + 1, by omega, by go_num, S4.out, HB4.out⟩
        case measure => simp [intOf]; omega
    · obtain rfl : j = n := by omega
      have HR : Hid (SR wr w.heap.size (.slice oa ((F.take j).map (ste κ t)).length oc) (F.map (ste κ t))) := by
        have h1 := HO.out.mono B1.out.size
        have h2 : F.take j = F := by rw [HN.out, List.take_length]
        unfold Hid
        rw [h2] at h1 ⊢
        exact h1
      have HB2 : Hid (Below w.heap.size w wr) := B1.out.trans (HB.out.mono B1.out.size)
      go_wp2
      go_ret
      exact ⟨_, rfl, HR.out, HB2.out⟩
end Go.Proofs.YtajcabfeabbknaaGreatDoor
namespace Go.Proofs.YtajcabfeabbknaaGreatDoor
open Go.RowKit

def s0 : St := ⟨0, ⟨#[]⟩, ⟨#[]⟩⟩
abbrev atS (l : List St) (i : Nat) : St := l.getD i s0
theorem atS_eq (l : List St) (i : Nat) (h : i < l.length) : atS l i = l[i] := by simp [atS, List.getD, h]
theorem cellsT_get : ∀ (l : List St) (i : Nat), i < l.length → (cellsT l)[i * 3]? = some (.int .u8 (atS l i).κ) ∧ (cellsT l)[i * 3 + 1]? = some (.string (atS l i).p) ∧ (cellsT l)[i * 3 + 2]? = some (.string (atS l i).t)
  | [], i, h => by simp at h
  | x :: l, 0, _ => ⟨rfl, rfl, rfl⟩
  | x :: l, i + 1, h => by
    obtain ⟨a, b, c⟩ := cellsT_get l i (by simpa using h)
    have e : cellsT (x :: l) = [.int .u8 x.κ, .string x.p, .string x.t] ++ cellsT l := by unfold cellsT; rw [List.flatMap_cons]
    have e2 : atS (x :: l) (i + 1) = atS l i := by simp [atS, List.getD]
    rw [e, e2]
    refine ⟨?_, ?_, ?_⟩
    · rw [List.getElem?_append_right (by simp; omega)]; simpa [show (i + 1) * 3 - 3 = i * 3 by omega] using a
    · rw [List.getElem?_append_right (by simp; omega)]; simpa [show (i + 1) * 3 + 1 - 3 = i * 3 + 1 by omega] using b
    · rw [List.getElem?_append_right (by simp; omega)]; simpa [show (i + 1) * 3 + 2 - 3 = i * 3 + 2 by omega] using c
theorem cellsT_set : ∀ (l : List St) (i : Nat) (y : St), i < l.length → (((cellsT l).set (i * 3) (.int .u8 y.κ)).set (i * 3 + 1) (.string y.p)).set (i * 3 + 2) (.string y.t) = cellsT (l.set i y)
  | [], i, _, h => by simp at h
  | x :: l, 0, y, _ => rfl
  | x :: l, i + 1, y, h => by
    have ih := cellsT_set l i y (by simpa using h)
    have e : ∀ (x : St) (l : List St), cellsT (x :: l) = [.int .u8 x.κ, .string x.p, .string x.t] ++ cellsT l := fun x l => by unfold cellsT; rw [List.flatMap_cons]
    rw [List.set_cons_succ, e, e, ← ih]
    rw [show (i + 1) * 3 = i * 3 + 3 by omega, show i * 3 + 3 + 1 = (i * 3 + 1) + 3 by omega, show i * 3 + 3 + 2 = (i * 3 + 2) + 3 by omega]
    rfl
/-- Whose first and last k were exchanged. -/
def revK (l : List St) (k : Nat) : List St := (List.range l.length).map fun p => if p < k ∨ l.length ≤ p + k then atS l (l.length - 1 - p) else atS l p
theorem revK_len (l : List St) (k : Nat) : (revK l k).length = l.length := by simp [revK]
theorem revK_at (l : List St) (k p : Nat) (h : p < l.length) : atS (revK l k) p = if p < k ∨ l.length ≤ p + k then atS l (l.length - 1 - p) else atS l p := by
  rw [atS_eq _ _ (by rw [revK_len]; exact h)]
  simp [revK]
theorem revK_zero (l : List St) : revK l 0 = l := by
  refine List.ext_getElem (revK_len l 0) fun i a b => ?_
  rw [← atS_eq _ _ a, revK_at l 0 i b, if_neg (by omega), atS_eq l i b]
theorem revK_end (l : List St) (k : Nat) (h : l.length ≤ k + k + 1) : revK l k = l.reverse := by
  refine List.ext_getElem (by rw [revK_len, List.length_reverse]) fun i a b => ?_
  rw [revK_len] at a
  rw [← atS_eq _ _ (by rw [revK_len]; exact a), revK_at l k i a, List.getElem_reverse, ← atS_eq l _ (by omega)]
  by_cases hc : i < k ∨ l.length ≤ i + k
  · rw [if_pos hc]
  · rw [if_neg hc]
    congr 1
    omega
theorem revK_next (l : List St) (k : Nat) (h : k + k + 1 < l.length) : ((revK l k).set k (atS l (l.length - 1 - k))).set (l.length - 1 - k) (atS l k) = revK l (k + 1) := by
  refine List.ext_getElem (by simp [revK_len]) fun i a b => ?_
  rw [revK_len] at b
  rw [List.getElem_set, List.getElem_set, ← atS_eq (revK l (k + 1)) _ (by rw [revK_len]; exact b), revK_at l (k + 1) i b]
  by_cases c1 : l.length - 1 - k = i
  · rw [if_pos c1, if_pos (by omega)]; congr 1; omega
  · rw [if_neg c1]
    by_cases c2 : k = i
    · rw [if_pos c2, if_pos (by omega), c2]
    · rw [if_neg c2, ← atS_eq (revK l k) _ (by rw [revK_len]; exact b), revK_at l k i b]
      by_cases c3 : i < k ∨ l.length ≤ i + k
      · rw [if_pos c3, if_pos (by omega)]
      · rw [if_neg c3, if_neg (by omega)]
theorem grow_trans {a b c : World} {o : Option Nat} (h1 : a.grownBy b o) (h2 : b.grownBy c o) : a.grownBy c o :=
  ⟨h2.os.trans h1.os, h2.tape.trans h1.tape, h2.output.trans h1.output, Nat.le_trans h1.size h2.size, fun k hk hne => (h2.block k (Nat.lt_of_lt_of_le hk h1.size) hne).trans (h1.block k hk hne)⟩
theorem grow_refl (a : World) (o : Option Nat) : a.grownBy a o := ⟨rfl, rfl, rfl, Nat.le_refl _, fun _ _ _ => rfl⟩
theorem grow_drew {a b : World} {o : Option Nat} (h : a.grownBy b o) : a.grownBy b.drew o := ⟨h.os, h.tape, h.output, h.size, h.block⟩
theorem swap_row {wr : World} {B g n c k m : Nat} {L : List St} {X Y : St} (h : wr.ownsRow B 51 3 (.slice (some ⟨g, 0, none⟩) n c) n (cellsT L)) (hk : k < L.length) (hm : m < L.length) :
    World.ownsRow (((((((wr.setCell ⟨g, k * 3, none⟩ (.int .u8 Y.κ)).setCell ⟨g, k * 3 + 1, none⟩ (.string Y.p)).setCell ⟨g, k * 3 + 2, none⟩ (.string Y.t)).setCell ⟨g, m * 3, none⟩ (.int .u8 X.κ)).setCell ⟨g, m * 3 + 1, none⟩ (.string X.p)).setCell ⟨g, m * 3 + 2, none⟩ (.string X.t)).drew) B 51 3 (.slice (some ⟨g, 0, none⟩) n c) n (cellsT ((L.set k Y).set m X)) ∧
      wr.grownBy (((((((wr.setCell ⟨g, k * 3, none⟩ (.int .u8 Y.κ)).setCell ⟨g, k * 3 + 1, none⟩ (.string Y.p)).setCell ⟨g, k * 3 + 2, none⟩ (.string Y.t)).setCell ⟨g, m * 3, none⟩ (.int .u8 X.κ)).setCell ⟨g, m * 3 + 1, none⟩ (.string X.p)).setCell ⟨g, m * 3 + 2, none⟩ (.string X.t)).drew) (some g) := by
  obtain ⟨o1, g1⟩ := World.ownsRow.stored h (k * 3) (.int .u8 Y.κ)
  obtain ⟨o2, g2⟩ := World.ownsRow.stored o1 (k * 3 + 1) (.string Y.p)
  obtain ⟨o3, g3⟩ := World.ownsRow.stored o2 (k * 3 + 2) (.string Y.t)
  obtain ⟨o4, g4⟩ := World.ownsRow.stored o3 (m * 3) (.int .u8 X.κ)
  obtain ⟨o5, g5⟩ := World.ownsRow.stored o4 (m * 3 + 1) (.string X.p)
  obtain ⟨o6, g6⟩ := World.ownsRow.stored o5 (m * 3 + 2) (.string X.t)
  rw [cellsT_set L k Y hk, cellsT_set (L.set k Y) m X (by rw [List.length_set]; exact hm)] at o6
  exact ⟨World.ownsRow.drew o6, grow_drew (grow_trans g1 (grow_trans g2 (grow_trans g3 (grow_trans g4 (grow_trans g5 g6)))))⟩
set_option maxHeartbeats 1000000 in
set_option maxRecDepth 100000 in
theorem reverse_any (B : Nat) (v : Value) (l : List St) (w : World) (h : SR w B v l) (hl : l.length ≤ 1000) :
    Calls Tryz.prog 37 #[v] w fun e w' => e = .returned (.tuple #[]) ∧ SR w' B v l.reverse ∧ w.grownBy w' v.ownBlock := by
  obtain ⟨a, c, rfl⟩ := own_shape h
  have HO : Hid (SR w B (.slice a l.length c) l) := h
  obtain ⟨n, hn⟩ : ∃ n, n = l.length := ⟨_, rfl⟩
  have HN : Hid (n = l.length) := hn
  have HE : Hid (∀ k, n ≤ k + k + 1 → revK l k = l.reverse) := fun k hk => revK_end l k (by rw [← hn]; exact hk)
  have q0 : IntKind.i64.wrap ((n : Int) - 1) = (n : Int) - 1 := by rw [IntKind.wrap_i64]; omega
  rw [← hn] at HO hl ⊢
  clear h hn
  go_enter Tryz.func37, Tryz.ntmps37
  go_wp2
  go_loopw [2, 3] (fun p q wr => ∃ k : Nat, k + k ≤ n ∧ p = .int .i64 k ∧ q = .int .i64 ((n : Int) - 1 - k) ∧ SR wr B (.slice a n c) (revK l k) ∧ w.grownBy wr (Value.ownBlock (.slice a n c))) (fun p _ _ => n - (intOf p).toNat)
  case atStart => exact ⟨0, by omega, rfl, by simp, by rw [revK_zero]; exact HO.out, grow_refl _ _⟩
  case round =>
    obtain ⟨k, hk, rfl, rfl, sr, gr⟩ := hrel
    have HS : Hid (SR wr B (.slice a n c) (revK l k)) := sr
    have HG : Hid (w.grownBy wr (Value.ownBlock (.slice a n c))) := gr
    clear sr gr
    by_cases hlt : k + k + 1 < n
    · have lt2 : (k : Int) < (n : Int) - 1 - (k : Int) := by omega
      obtain ⟨m, hm⟩ : ∃ m : Nat, m = n - 1 - k := ⟨_, rfl⟩
      have hmi : (n : Int) - 1 - (k : Int) = (m : Int) := by omega
      have HMI : Hid ((n : Int) - 1 - (k : Int) = (m : Int)) := hmi
      rw [hmi] at lt2 ⊢
      have hkm : k < m := by omega
      have hmn : m < n := by omega
      have ho := HS.out
      unfold SR at ho
      rw [revK_len, ← HN.out] at ho
      have HOW : Hid (wr.ownsRow B 51 3 (.slice a n c) n (cellsT (revK l k))) := ho
      obtain ⟨g, hga, hnc⟩ : ∃ g, a = some ⟨g, 0, none⟩ ∧ n ≤ c := by
        rcases ho.2 with ⟨_, h0⟩ | ⟨g, cap, cur, e, _, _, h1, _⟩
        · omega
        · cases e; exact ⟨g, rfl, h1⟩
      subst hga
      have cl : ∀ j, j < n * 3 → wr.cell? ⟨g, j, none⟩ = (cellsT (revK l k))[j]? := fun j hj => ho.cellAt j hj
      have fz : ∀ j, wr.frozen? ⟨g, j, none⟩ = false := fun j => ho.frozenAt j
      obtain ⟨x0, x1, x2⟩ := cellsT_get (revK l k) k (by rw [revK_len, ← HN.out]; omega)
      obtain ⟨y0, y1, y2⟩ := cellsT_get (revK l k) m (by rw [revK_len, ← HN.out]; omega)
      have hx : atS (revK l k) k = atS l k := by rw [revK_at l k k (by rw [← HN.out]; omega), if_neg (by rw [← HN.out]; omega)]
      have hy : atS (revK l k) m = atS l m := by rw [revK_at l k m (by rw [← HN.out]; omega), if_neg (by rw [← HN.out]; omega)]
      rw [hx] at x0 x1 x2
      rw [hy] at y0 y1 y2
      have X0 := (cl _ (by omega)).trans x0
      have X1 := (cl _ (by omega)).trans x1
      have X2 := (cl _ (by omega)).trans x2
      have Y0 := (cl _ (by omega)).trans y0
      have Y1 := (cl _ (by omega)).trans y1
      have Y2 := (cl _ (by omega)).trans y2
      have F0 := fz (k * 3)
      have F1 := fz (k * 3 + 1)
      have F2 := fz (k * 3 + 2)
      have E0 := fz (m * 3)
      have E1 := fz (m * 3 + 1)
      have E2 := fz (m * 3 + 2)
      have HX : Hid (revK l (k + 1) = ((revK l k).set k (atS l m)).set m (atS l k)) := by
        unfold Hid
        have := revK_next l k (by rw [← HN.out]; exact hlt)
        rw [← HN.out, ← hm] at this
        exact this.symm
      clear ho cl fz x0 x1 x2 y0 y1 y2 hx hy hm hmi
      generalize atS l k = X at *
      generalize atS l m = Y at *
      have q1 : IntKind.i64.wrap ((k : Int) + 1) = ((k + 1 : Nat) : Int) := by simp [IntKind.wrap, IntKind.bits, IntKind.signed]; omega
      have q2 : IntKind.i64.wrap ((m : Int) - 1) = (m : Int) - 1 := by rw [IntKind.wrap_i64]; omega
      have HRES : Hid (SR ((((((wr.setCell ⟨g, k * 3, none⟩ (.int .u8 Y.κ)).setCell ⟨g, k * 3 + 1, none⟩ (.string Y.p)).setCell ⟨g, k * 3 + 2, none⟩ (.string Y.t)).setCell ⟨g, m * 3, none⟩ (.int .u8 X.κ)).setCell ⟨g, m * 3 + 1, none⟩ (.string X.p)).setCell ⟨g, m * 3 + 2, none⟩ (.string X.t)).drew B (.slice (some ⟨g, 0, none⟩) n c) (revK l (k + 1)) ∧
          w.grownBy ((((((wr.setCell ⟨g, k * 3, none⟩ (.int .u8 Y.κ)).setCell ⟨g, k * 3 + 1, none⟩ (.string Y.p)).setCell ⟨g, k * 3 + 2, none⟩ (.string Y.t)).setCell ⟨g, m * 3, none⟩ (.int .u8 X.κ)).setCell ⟨g, m * 3 + 1, none⟩ (.string X.p)).setCell ⟨g, m * 3 + 2, none⟩ (.string X.t)).drew (some g)) := by
        have hn := HN.out
        obtain ⟨o6, g6⟩ := swap_row (X := X) (Y := Y) HOW.out (k := k) (m := m) (by rw [revK_len]; omega) (by rw [revK_len]; omega)
        rw [← HX.out] at o6
        refine ⟨?_, grow_trans HG.out g6⟩
        unfold SR
        rw [revK_len, ← hn]
        exact o6
      clear HX HOW HS HG
      go_wp2
      go_region
      go_wp2
      go_roundw
      case rel => exact ⟨k + 1, by omega, by go_num, by
        have := HMI.out
        rw [show (m : Int) - 1 = (n : Int) - 1 - ((k + 1 : Nat) : Int) by omega], HRES.out.1, HRES.out.2⟩
      case measure => simp [intOf]; omega
    · have hge : ¬ (k : Int) < (n : Int) - 1 - (k : Int) := by omega
      have HR : Hid (SR wr B (.slice a n c) l.reverse) := by
        have h1 := HS.out
        rw [HE.out k (by omega)] at h1
        exact h1
      clear HE HS
      go_wp2
      go_end0
      exact ⟨rfl, HR.out, HG.out⟩
end Go.Proofs.YtajcabfeabbknaaGreatDoor
namespace Go.Proofs.YtajcabfeabbknaaGreatDoor
open Go.RowKit Go.Shelf

set_option maxHeartbeats 4000000 in
set_option maxRecDepth 100000 in
theorem growS_any (n : Nat) (w : World) (hbig : n ≤ 1000000) :
    Calls Tryz.prog 66 #[.slice none 0 0, .int .i64 n] w fun r w' => ∃ v, r = .returned v ∧ SR w' w.heap.size v [] ∧ Below w.heap.size w w' := by
  obtain ⟨i0, hi, hz0, hz1, hz2⟩ := info_parts infoS
  rcases Nat.eq_zero_or_pos n with rfl | hp
  · go_enter Tryz.func66, Tryz.ntmps66
    go_wp2
    go_ret
    exact ⟨_, rfl, SR.nil _ _, Below.refl _ _⟩
  · obtain ⟨z, hz⟩ : ∃ z, z = Value.agg #[.int .u8 0, .string ByteArray.empty, .string ByteArray.empty] := ⟨_, rfl⟩
    have hzc : z.cells.size = 3 := by rw [hz]; rfl
    rw [← hz] at hz0
    have hrz : ∀ ty, (Builtin.append_ #[32, 3] ty #[.slice none 0 0, .int .i64 (n : Int)]).run Tryz.prog w =
      .ok (.slice (some ⟨w.heap.size, 0, none⟩) n (grownCap w n 0 51)) (w.drew.alloc (.cells (Builtin.zeroCells z.cells n ++ Builtin.zeroCells z.cells (grownCap w n 0 51 - n)) 51)) := fun ty => by
      have h := Lib.run_append_grow_zeros (P := Tryz.prog) w 32 3 ty 51 i0 z .i64 .i64 Tryz.underlying32 Tryz.underlying3 hi hz0 none 0 0 []
        (by rw [hz1]; exact run_firstCells_none w.drew 3 0 0 0) n hp (by omega) (by omega) (by omega) (by rw [hz2]; omega) (growslice_fits (by omega) (by rw [hz2]; omega))
      simpa using h
    have hGn : n ≤ grownCap w n 0 51 := grownCap_ge w _ _ _
    have hGm := grownCap_le_maxLen w n 0 51 (by unfold maxLen; omega)
    obtain ⟨G, hG⟩ : ∃ G, G = grownCap w n 0 51 := ⟨_, rfl⟩
    rw [← hG] at hrz hGn hGm
    have hG63 : G ≤ 9223372036854775807 := by unfold maxLen at hGm; omega
    have HM : Hid (G ≤ maxLen) := hGm
    obtain ⟨zc, hzq⟩ : ∃ zc, zc = z.cells := ⟨_, rfl⟩
    rw [← hzq] at hrz hzc
    have HZ : Hid (zc.size = 3) := hzc
    clear hG hGm hz hzc hzq hz0
    go_enter Tryz.func66, Tryz.ntmps66
    go_wp2_with (at_builtin; refine Lib.wpList_append_run _ rfl _ _ _ _ rfl _ _ rfl rfl _ _ (hrz _) ?_)
    go_ret
    refine ⟨_, rfl, ?_, ?_⟩
    · exact World.ownsRow_made (base := w.heap.size) (e := 51) (size := 3) w.drew _ G (Nat.le_refl _) HM.out (by simp [size_zeroCells, HZ.out]; omega)
    · exact ((Below.refl _ w).alloc (Nat.le_refl _) _).drew
/-- A value that is a slice of steps. -/
def TS (w : World) (v : Value) (l : List St) : Prop := ∃ a c, v = .slice a l.length c ∧ l.length ≤ c ∧ (a = none → c = 0) ∧ (l = [] ∨ ∃ b off, a = some ⟨b, off, none⟩ ∧ ∀ j, j < l.length * 3 → w.cell? ⟨b, off + j, none⟩ = (cellsT l)[j]?)
theorem SR.ts {w : World} {B : Nat} {v : Value} {l : List St} (h : SR w B v l) : TS w v l := by
  rcases h.2 with ⟨rfl, h2⟩ | ⟨g, cap, cur, rfl, hg, hh, hl, hm, hs, r⟩
  · obtain rfl : l = [] := List.length_eq_zero_iff.1 h2
    exact ⟨none, 0, rfl, Nat.le_refl _, fun _ => rfl, .inl rfl⟩
  · refine ⟨_, cap, rfl, hl, (fun e => by cases e), .inr ⟨g, 0, rfl, fun j hj => ?_⟩⟩
    rw [Nat.zero_add]
    exact World.ownsRow.cellAt h j hj
theorem TS.keep {w w' : World} {v : Value} {l : List St} (h : TS w v l) (hb : Below w.heap.size w w') : TS w' v l := by
  obtain ⟨a, c, h1, h2, h3, h4⟩ := h
  refine ⟨a, c, h1, h2, h3, ?_⟩
  rcases h4 with h4 | ⟨b, off, h5, h6⟩
  · exact .inl h4
  · refine .inr ⟨b, off, h5, fun j hj => ?_⟩
    have := h6 j hj
    rw [List.getElem?_eq_getElem (by rw [cellsT_len]; exact hj)] at this ⊢
    exact (hb.cell (World.block_lt_of_cell? _ _ this)).trans this
theorem TS.shape {w : World} {v : Value} {l : List St} (h : TS w v l) : ∃ a c, v = .slice a l.length c ∧ l.length ≤ c := by
  obtain ⟨a, c, h1, h2, _⟩ := h
  exact ⟨a, c, h1, h2⟩
/-- Steps laid behind. -/
theorem wpList_append_ts {w : World} {ops : Array Oper} {rest : List Oper} {o : Oper} {a : Act} {Q : Exit → Act → World → Prop} (hgd : o.guard = none) (s x : Operand)
    (ho : o.op = .call { callee := .builtin .append, args := #[s, x], argTypes := #[32, 32] })
    (B : Nat) (v : Value) (l : List St) (hs : a.eval s = v) (hown : SR w B v l) (src : Value) (m : List St) (hx : a.eval x = src) (hsl : TS w src m) (hbig : l.length + m.length ≤ 100000) (hbase : B ≤ w.heap.size)
    (h : ∀ v' w', SR w' B v' (l ++ m) → w.grownBy w' v.ownBlock → wpList Tryz.prog ops Q rest (a.put o.dst v') w') : wpList Tryz.prog ops Q (o :: rest) a w := by
  obtain ⟨ad, cap, rfl, h1, h2, h3⟩ := hsl
  obtain ⟨i0, hi, hz0, hz1, hz2⟩ := info_parts infoS
  have one : ∀ v' w', w'.ownsRow B 51 3 v' (l.length + m.length) (cellsT l ++ cellsT m) → SR w' B v' (l ++ m) := fun v' w' k => by
    unfold SR
    rw [List.length_append, cellsT_app]
    exact k
  cases ad with
  | none =>
    obtain rfl := h2 rfl
    obtain rfl : m = [] := List.length_eq_zero_iff.1 (by omega)
    refine wpList_append_own_none hgd s x 32 ho B 51 i0 3 Tryz.underlying32 hi v l.length (cellsT l) hs hown hx ?_
    refine h v w ?_ ⟨rfl, rfl, rfl, Nat.le_refl _, fun _ _ _ => rfl⟩
    rw [List.append_nil]
    exact hown
  | some y =>
    refine wpList_append_own_wide w hgd s x 32 ho B 51 i0 (.agg #[.int .u8 0, .string ByteArray.empty, .string ByteArray.empty]) 3 40 Tryz.underlying32 hi hz0 hz1 hz2 rfl (by decide) v l.length (cellsT l) hs hown y m.length cap (cellsT m) hx (cellsT_len m) ?_ (cellsT_one m) (by unfold maxLen; omega) (by omega) hbase ?_
    · intro j u hj
      rcases h3 with rfl | ⟨b, off, e, hc⟩
      · simp [cellsT] at hj
      · cases e
        have hlt : j < m.length * 3 := by
          rcases Nat.lt_or_ge j (m.length * 3) with hl | hl
          · exact hl
          · rw [List.getElem?_eq_none (by rw [cellsT_len]; exact hl)] at hj; cases hj
        rw [Addr.add_lit, hc j hlt]
        exact hj
    · intro v' w' o' g' _
      exact h v' w' (one v' w' o') g'
set_option maxHeartbeats 8000000 in
set_option maxRecDepth 100000 in
theorem concat_any (g : Nat) (v1 v2 v3 v4 : Value) (L1 L2 L3 L4 : List St) (w : World) (c0 : w.cell? ⟨g, 0, none⟩ = some v1) (c1 : w.cell? ⟨g, 1, none⟩ = some v2) (c2 : w.cell? ⟨g, 2, none⟩ = some v3) (c3 : w.cell? ⟨g, 3, none⟩ = some v4)
    (t1 : TS w v1 L1) (t2 : TS w v2 L2) (t3 : TS w v3 L3) (t4 : TS w v4 L4) (h1 : L1.length ≤ 100) (h2 : L2.length ≤ 100) (h3 : L3.length ≤ 100) (h4 : L4.length ≤ 100) :
    Calls Tryz.prog 40 #[.slice (some ⟨g, 0, none⟩) 4 4] w fun e w' => ∃ v', e = .returned v' ∧ SR w' w.heap.size v' (L1 ++ L2 ++ L3 ++ L4) ∧ Below w.heap.size w w' := by
  have T1 : Hid (∀ W, Below w.heap.size w W → TS W v1 L1 ∧ TS W v2 L2 ∧ TS W v3 L3 ∧ TS W v4 L4) := fun W hb => ⟨t1.keep hb, t2.keep hb, t3.keep hb, t4.keep hb⟩
  have HC : Hid (∀ W, Below w.heap.size w W → W.cell? ⟨g, 0, none⟩ = some v1 ∧ W.cell? ⟨g, 1, none⟩ = some v2 ∧ W.cell? ⟨g, 2, none⟩ = some v3 ∧ W.cell? ⟨g, 3, none⟩ = some v4) := fun W hb => ⟨(hb.cell (World.block_lt_of_cell? _ _ c0)).trans c0, (hb.cell (World.block_lt_of_cell? _ _ c1)).trans c1, (hb.cell (World.block_lt_of_cell? _ _ c2)).trans c2, (hb.cell (World.block_lt_of_cell? _ _ c3)).trans c3⟩
  obtain ⟨a1, k1, rfl, _⟩ := t1.shape
  obtain ⟨a2, k2, rfl, _⟩ := t2.shape
  obtain ⟨a3, k3, rfl, _⟩ := t3.shape
  obtain ⟨a4, k4, rfl, _⟩ := t4.shape
  have CG := growS_any (L1.length + L2.length + L3.length + L4.length) w (by omega)
  have HL : Hid (L1.length ≤ 100 ∧ L2.length ≤ 100 ∧ L3.length ≤ 100 ∧ L4.length ≤ 100) := ⟨h1, h2, h3, h4⟩
  clear t1 t2 t3 t4
  obtain ⟨n1, e1⟩ : ∃ n, n = L1.length := ⟨_, rfl⟩
  obtain ⟨n2, e2⟩ : ∃ n, n = L2.length := ⟨_, rfl⟩
  obtain ⟨n3, e3⟩ : ∃ n, n = L3.length := ⟨_, rfl⟩
  obtain ⟨n4, e4⟩ : ∃ n, n = L4.length := ⟨_, rfl⟩
  rw [← e1] at c0 h1
  rw [← e2] at c1 h2
  rw [← e3] at c2 h3
  rw [← e4] at c3 h4
  rw [← e1, ← e2, ← e3, ← e4] at T1 HC CG
  clear e1 e2 e3 e4
  have w1 : IntKind.i64.wrap (n1 : Int) = (n1 : Int) := by rw [IntKind.wrap_i64]; omega
  have w2 : IntKind.i64.wrap ((n1 : Int) + (n2 : Int)) = (n1 : Int) + (n2 : Int) := by rw [IntKind.wrap_i64]; omega
  have w3 : IntKind.i64.wrap ((n1 : Int) + (n2 : Int) + (n3 : Int)) = (n1 : Int) + (n2 : Int) + (n3 : Int) := by rw [IntKind.wrap_i64]; omega
  have w4 : IntKind.i64.wrap ((n1 : Int) + (n2 : Int) + (n3 : Int) + (n4 : Int)) = (n1 : Int) + (n2 : Int) + (n3 : Int) + (n4 : Int) := by rw [IntKind.wrap_i64]; omega
  have z2 : ¬ (n1 : Int) + (n2 : Int) < 0 := by omega
  have z3 : ¬ (n1 : Int) + (n2 : Int) + (n3 : Int) < 0 := by omega
  have z4 : ¬ (n1 : Int) + (n2 : Int) + (n3 : Int) + (n4 : Int) < 0 := by omega
  have eC : ((n1 + n2 + n3 + n4 : Nat) : Int) = (n1 : Int) + (n2 : Int) + (n3 : Int) + (n4 : Int) := by omega
  rw [eC] at CG
  clear eC
  go_enter Tryz.func40, Tryz.ntmps40
  go_wp2
  refine wp_loop_rounds 5 ?_
  rw [rounds_succ]
  go_wp2
  rw [rounds_succ]
  go_wp2
  rw [rounds_succ]
  go_wp2
  rw [rounds_succ]
  go_wp2
  rw [rounds_succ]
  go_wp2_with fail
  refine CG.mono ?_
  rintro e w5 ⟨v5, rfl, s5, b5⟩
  have B5 : Hid (Below w.heap.size w w5) := b5
  have S5 : Hid (SR w5 w.heap.size v5 []) := s5
  clear CG b5 s5 c0 c1 c2 c3 w1 w2 w3 w4 z2 z3 z4
  obtain ⟨b5, m5, rfl⟩ := own_shape S5.out
  go_wp2
  refine wp_loop_rounds 5 ?_
  rw [rounds_succ]
  obtain ⟨d0, d1, d2, d3⟩ := HC.out w5 B5.out
  go_wp2_with (at_builtin; refine wpList_append_ts rfl _ _ rfl w.heap.size _ ([]) rfl S5.out _ L1 rfl (T1.out w5 B5.out).1 (by have := HL.out; simp <;> omega) B5.out.size (Hid.out ?_))
  unfold Hid
  intro v6 w6 s6 g6
  have B6 : Hid (Below w.heap.size w w6) := B5.out.grown g6 B5.out.size (own_base S5.out)
  have S6 : Hid (SR w6 w.heap.size v6 ([] ++ L1)) := by unfold Hid; simpa using s6
  clear s6 g6 S5 d0 d1 d2 d3
  obtain ⟨b6, m6, rfl⟩ := own_shape S6.out
  generalize ([] ++ L1).length = r6 at *
  go_wp2
  rw [rounds_succ]
  obtain ⟨d0, d1, d2, d3⟩ := HC.out w6 B6.out
  go_wp2_with (at_builtin; refine wpList_append_ts rfl _ _ rfl w.heap.size _ ([] ++ L1) rfl S6.out _ L2 rfl (T1.out w6 B6.out).2.1 (by have := HL.out; simp <;> omega) B6.out.size (Hid.out ?_))
  unfold Hid
  intro v7 w7 s7 g7
  have B7 : Hid (Below w.heap.size w w7) := B6.out.grown g7 B6.out.size (own_base S6.out)
  have S7 : Hid (SR w7 w.heap.size v7 ([] ++ L1 ++ L2)) := by unfold Hid; simpa using s7
  clear s7 g7 S6 d0 d1 d2 d3
  obtain ⟨b7, m7, rfl⟩ := own_shape S7.out
  generalize ([] ++ L1 ++ L2).length = r7 at *
  go_wp2
  rw [rounds_succ]
  obtain ⟨d0, d1, d2, d3⟩ := HC.out w7 B7.out
  go_wp2_with (at_builtin; refine wpList_append_ts rfl _ _ rfl w.heap.size _ ([] ++ L1 ++ L2) rfl S7.out _ L3 rfl (T1.out w7 B7.out).2.2.1 (by have := HL.out; simp <;> omega) B7.out.size (Hid.out ?_))
  unfold Hid
  intro v8 w8 s8 g8
  have B8 : Hid (Below w.heap.size w w8) := B7.out.grown g8 B7.out.size (own_base S7.out)
  have S8 : Hid (SR w8 w.heap.size v8 ([] ++ L1 ++ L2 ++ L3)) := by unfold Hid; simpa using s8
  clear s8 g8 S7 d0 d1 d2 d3
  obtain ⟨b8, m8, rfl⟩ := own_shape S8.out
  generalize ([] ++ L1 ++ L2 ++ L3).length = r8 at *
  go_wp2
  rw [rounds_succ]
  obtain ⟨d0, d1, d2, d3⟩ := HC.out w8 B8.out
  go_wp2_with (at_builtin; refine wpList_append_ts rfl _ _ rfl w.heap.size _ ([] ++ L1 ++ L2 ++ L3) rfl S8.out _ L4 rfl (T1.out w8 B8.out).2.2.2 (by have := HL.out; simp <;> omega) B8.out.size (Hid.out ?_))
  unfold Hid
  intro v9 w9 s9 g9
  have B9 : Hid (Below w.heap.size w w9) := B8.out.grown g9 B8.out.size (own_base S8.out)
  have S9 : Hid (SR w9 w.heap.size v9 ([] ++ L1 ++ L2 ++ L3 ++ L4)) := by unfold Hid; simpa using s9
  clear s9 g9 S8 d0 d1 d2 d3
  obtain ⟨b9, m9, rfl⟩ := own_shape S9.out
  generalize ([] ++ L1 ++ L2 ++ L3 ++ L4).length = r9 at *
  go_wp2
  rw [rounds_succ]
  go_wp2
  go_ret
  exact ⟨_, rfl, by simpa using S9.out, B9.out⟩
end Go.Proofs.YtajcabfeabbknaaGreatDoor
