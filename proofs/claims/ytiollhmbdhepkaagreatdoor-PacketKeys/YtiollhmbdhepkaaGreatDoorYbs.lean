/-
  What mac.Label answers; nothing that was there is changed.
-/
import Derived.Test.YtiollhmbdhepkaaGreatDoorYbo
namespace Go.Proofs.YtiollhmbdhepkaaGreatDoor.Mc
open Go.Proofs.YtiollhmbdhepkaaGreatDoor.Sh Go.Proofs.YtiollhmbdhepkaaGreatDoor.Fi
set_option maxRecDepth 100000
open Go.RowKit

/-- Bytes in a row of the call's own. -/
abbrev Own (w : World) (B : Nat) (v : Value) (X : List Int) : Prop := w.ownsRow B 5 1 v X.length (X.map (Value.int .u8))
/-- A list of the first j texts, the list and each of them in a row of the call's own. -/
def Lst (w : World) (B : Nat) (va : Value) (T : Nat → List Int) (j : Nat) : Prop :=
  ∃ VA : List Value, w.ownsRow B 34 1 va j VA ∧ ∀ i, i < j → ∃ v, VA[i]? = some v ∧ Own w B v (T i)

theorem own_tag {w : World} {B x : Nat} {e : TypeId} {size n : Nat} {v : Value} {xs : List Value} (h : w.ownsRow B e size v n xs) (hx : v.ownBlock = some x) : ∃ cur, w.heap[x]? = some (.cells cur e (0, 0)) := by
  rcases h.2 with ⟨rfl, _⟩ | ⟨g, cap, cur, rfl, _, hh, _⟩
  · cases hx
  · cases hx; exact ⟨cur, hh⟩

theorem Lst.below {w w' : World} {B : Nat} {va : Value} {T : Nat → List Int} {j : Nat} (h : Lst w B va T j) (hb : Below w.heap.size w w') : Lst w' B va T j := by
  obtain ⟨VA, ho, hall⟩ := h
  have k : ∀ {u : Value} {e : TypeId} {n : Nat} {xs : List Value}, w.ownsRow B e 1 u n xs → w'.ownsRow B e 1 u n xs := fun hu => by
    obtain ⟨h1, h2⟩ := hu
    rcases h2 with h2 | ⟨g, cap, cur, hv, hg, hh, r⟩
    · exact ⟨h1, .inl h2⟩
    · exact ⟨h1, .inr ⟨g, cap, cur, hv, hg, (hb.block g (Array.getElem?_eq_some_iff.1 hh).1).trans hh, r⟩⟩
  exact ⟨VA, k ho, fun i hi => by
    obtain ⟨v, hv, hov⟩ := hall i hi
    exact ⟨v, hv, k hov⟩⟩

theorem own_kept {w w' : World} {B : Nat} {v : Value} {X : List Int} {row : Option Nat} (h : Own w B v X) (hg : w.grownBy w' row) (ht : ∀ x, row = some x → ∃ cur, w.heap[x]? = some (.cells cur 34 (0, 0))) : Own w' B v X := by
  refine World.ownsRow.kept h hg ?_
  rcases hr : row with _ | x
  · rcases hu' : Value.ownBlock _ with _ | y
    · exact .inl rfl
    · exact .inr (by simp)
  · refine .inr fun hb => ?_
    obtain ⟨c1, h1⟩ := own_tag h hb
    obtain ⟨c2, h2⟩ := ht x hr
    rw [h1] at h2
    cases h2

theorem Lst.push {W w' : World} {B : Nat} {va v v' : Value} {T : Nat → List Int} {j : Nat} {VA : List Value} (oa : W.ownsRow B 34 1 va j VA) (ea : ∀ i, i < j → ∃ u, VA[i]? = some u ∧ Own W B u (T i))
    (ov : Own W B v (T j)) (oa' : w'.ownsRow B 34 1 v' (j + 1) (VA ++ [v])) (hg : W.grownBy w' va.ownBlock) : Lst w' B v' T (j + 1) := by
  have hl : VA.length = j := by have := oa.1; simpa using this
  have ht : ∀ x, va.ownBlock = some x → ∃ cur, W.heap[x]? = some (.cells cur 34 (0, 0)) := fun x hx => own_tag oa hx
  refine ⟨_, oa', fun i hi => ?_⟩
  rcases Nat.lt_succ_iff_lt_or_eq.1 hi with h | rfl
  · obtain ⟨u, hu, ho⟩ := ea i h
    exact ⟨u, by rw [List.getElem?_append_left (by omega)]; exact hu, own_kept ho hg ht⟩
  · exact ⟨v, by rw [List.getElem?_append_right (by omega), hl]; simp, own_kept ov hg ht⟩

theorem Lst.parts {w : World} {B : Nat} {va : Value} {T : Nat → List Int} {j : Nat} (h : Lst w B va T j) (hb : ∀ k, Pl.Byt (T k)) (hj : j ≤ 1000000) (ZZ : List (List Int)) (hZ : ZZ.length = j) (hT : ∀ i, i < j → ZZ.getD i [] = T i) :
    ∃ p c, va = .slice p j c ∧ (p = none → c = 0) ∧ Parts w p ZZ := by
  obtain ⟨VA, ho, hall⟩ := h
  rcases id ho.2 with ⟨rfl, rfl⟩ | ⟨g, cap, cur, rfl, _⟩
  · exact ⟨none, 0, rfl, fun _ => rfl, by omega, .inl (List.length_eq_zero_iff.1 hZ)⟩
  · refine ⟨_, cap, rfl, (fun e => by cases e), by omega, .inr ⟨g, 0, rfl, fun i hi => ?_⟩⟩
    rw [hZ] at hi
    obtain ⟨v, hv, hov⟩ := hall i hi
    refine ⟨v, ?_, ?_⟩
    · have := ho.cells (g := g) rfl i v hv
      rwa [Addr.add_lit] at this
    · rw [hT i hi]
      exact sl_owned hov (hb i)

/-- What is labelled. -/
def labL (s : ByteArray) (PP : List (List Int)) : List Int := textB s ++ (PP.map textL).flatten
/-- The texts, one by one. -/
def labT (s : ByteArray) (PP : List (List Int)) : Nat → List Int
  | 0 => textB s
  | i + 1 => textL (PP.getD i [])
theorem textB_byt (s : ByteArray) : Pl.Byt (textB s) := byt_app (numB_byt _) (sb_bytes s)

set_option maxHeartbeats 4000000 in
set_option maxRecDepth 100000 in
theorem label_any (v : Value) (K : List Int) (s : ByteArray) (p : Option Addr) (kc : Nat) (PP : List (List Int)) (w : World) (ht : Tabs w) (sl : Sl w v K) (hP : Parts w p PP) (hk : K.length ≤ 100000000000000000) (hs : s.size ≤ 140737488351232) (hPl : PP.length ≤ 1000) (hPs : ∀ i, (PP.getD i []).length ≤ 1000000000) :
    Calls Tryz.prog 63 #[v, .string s, .slice p PP.length kc] w fun e w' => e = .returned (.agg (u8s (hmac K (labL s PP)))) ∧ Below w.heap.size w w' := by
  obtain ⟨i0, hi, hz0, hz1, hz2⟩ := info_parts info22
  obtain ⟨wa, hwa⟩ : ∃ wa, wa = w.alloc (.cells (u8s (List.replicate 32 0)) 47) := ⟨_, rfl⟩
  have ba : Below w.heap.size w wa := by rw [hwa]; exact al_below _ _
  have g0 : wa.heap[w.heap.size]? = some (.cells (u8s (List.replicate 32 0)) 47 (0, 0)) := by rw [hwa]; exact heap_alloc_new _ _
  have hlt : w.heap.size < wa.heap.size := by rw [hwa]; simp
  have hwz : w.alloc (.cells #[.int .u8 0, .int .u8 0, .int .u8 0, .int .u8 0, .int .u8 0, .int .u8 0, .int .u8 0, .int .u8 0, .int .u8 0, .int .u8 0, .int .u8 0, .int .u8 0, .int .u8 0, .int .u8 0, .int .u8 0, .int .u8 0, .int .u8 0, .int .u8 0, .int .u8 0, .int .u8 0, .int .u8 0, .int .u8 0, .int .u8 0, .int .u8 0, .int .u8 0, .int .u8 0, .int .u8 0, .int .u8 0, .int .u8 0, .int .u8 0, .int .u8 0, .int .u8 0] 47) = wa := hwa.symm
  have HTA : Hid (∀ W, Below wa.heap.size wa W → Tabs W) := fun W h => (ht.kept ba).kept h
  have HSA : Hid (∀ W, Below wa.heap.size wa W → Sl W v K) := fun W h => (sl.kept ba).kept h
  have HGA : Hid (∀ W, Below wa.heap.size wa W → W.heap[w.heap.size]? = some (.cells (u8s (List.replicate 32 0)) 47 (0, 0))) := fun W h => (h.block _ hlt).trans g0
  have HBA : Hid (∀ W, Below wa.heap.size wa W → Below w.heap.size w W) := fun W h => ba.trans (h.mono ba.size)
  have HPP : Hid (∀ j, j < PP.length → ∃ b off u, p = some ⟨b, off, none⟩ ∧ ∀ W, Below wa.heap.size wa W → W.cell? ⟨b, off + j, none⟩ = some u ∧ Sl W u (PP.getD j [])) := fun j hj => by
    rcases (hP.kept ba).2 with h | ⟨b, off, rfl, hall⟩
    · rw [h] at hj; simp at hj
    · obtain ⟨u, h1, h2⟩ := hall j hj
      exact ⟨b, off, u, rfl, fun W hW => ⟨(hW.cell (World.block_lt_of_cell? _ _ h1)).trans h1, h2.kept hW⟩⟩
  have HI2 : Hid ((Tryz.prog.info? 47).map (·.size) = some (u8s (hmac K (labL s PP))).size) := by unfold Hid; rw [u8s_size, hmac_len]; exact size26
  have HO2 : Hid ((u8s (List.replicate 32 0)).size = (u8s (hmac K (labL s PP))).size) := by unfold Hid; rw [u8s_size, u8s_size, hmac_len]; simp
  have HON : Hid ((u8s (hmac K (labL s PP))).all (·.oneCell') = true) := u8s_one _
  have HTT : Hid (∀ k, Pl.Byt (labT s PP k)) := by
    rintro (_ | k)
    · exact textB_byt s
    · refine textL_byt ?_
      by_cases h : k < PP.length
      · obtain ⟨_, _, u, _, h2⟩ := HPP.out k h
        exact (h2 wa (Below.refl _ _)).2.bytes
      · have e : PP.getD k [] = [] := by rw [List.getD, List.getElem?_eq_none (by omega)]; rfl
        rw [e]; intro i; simp
  have HPS : Hid (∀ i, (PP.getD i []).length ≤ 1000000000) := hPs
  have HT0 : Hid (labT s PP 0 = textB s) := rfl
  have HTS : Hid (∀ j, labT s PP (j + 1) = textL (PP.getD j [])) := fun _ => rfl
  have HZZ : Hid ((textB s :: PP.map textL).length = PP.length + 1 ∧ (∀ i, i < PP.length + 1 → (textB s :: PP.map textL).getD i [] = labT s PP i) ∧ (textB s :: PP.map textL).flatten = labL s PP) := by
    refine ⟨by simp, ?_, rfl⟩
    rintro (_ | i) h
    · rfl
    · have h' : i < PP.length := by omega
      simp [labT, List.getD, List.getElem?_eq_getElem h']
  have HFL : Hid ((labL s PP).length ≤ 10000000000000000) := by
    unfold Hid labL
    rw [List.length_append]
    have h1 : (textB s).length ≤ s.size + 8 := by unfold textB; rw [List.length_append, sb_len]; have := numB_le (s.size : Int); omega
    have h2 : ∀ (L : List (List Int)), (∀ X ∈ L, X.length ≤ 1000000000) → (L.map textL).flatten.length ≤ L.length * 1000000008 := by
      intro L
      induction L with
      | nil => intro _; simp
      | cons X L ih =>
        intro h
        have h3 := ih (fun Y hY => h Y (by simp [hY]))
        have h4 := textL_le X
        have h5 := h X (by simp)
        simp only [List.map_cons, List.flatten_cons, List.length_append, List.length_cons]
        omega
    have h3 := h2 PP (fun X hX => by
      obtain ⟨i, hi, rfl⟩ := List.getElem_of_mem hX
      have := hPs i
      simpa [List.getD, List.getElem?_eq_getElem hi] using this)
    have h4 : PP.length * 1000000008 ≤ 1000 * 1000000008 := Nat.mul_le_mul_right _ hPl
    omega
  have HKL : Hid (K.length ≤ 100000000000000000) := hk
  have c1 := ftext_own s wa (ht.kept ba).2 (by omega)
  obtain ⟨av, cv, rfl, -⟩ := sl
  obtain ⟨k, hk'⟩ : ∃ k, k = PP.length := ⟨_, rfl⟩
  rw [← hk'] at HPP HZZ hPl ⊢
  generalize labL s PP = LL at *
  generalize labT s PP = T at *
  obtain ⟨U, hU⟩ : ∃ U, U = u8s (hmac K LL) := ⟨_, rfl⟩
  have HU : Hid (U = u8s (hmac K LL)) := hU
  rw [← hU] at HI2 HO2 HON ⊢
  clear hU
  obtain ⟨n, hn⟩ : ∃ n, n = K.length := ⟨_, rfl⟩
  rw [← hn] at HSA ⊢
  clear hn
  clear hwa ba g0 hP hk' hPs ht hk
  go_enter Tryz.func63, Tryz.ntmps63
  go_wp2_with fail
  refine c1.mono ?_
  rintro e w1 ⟨v1, rfl, own1, b1⟩
  have own1' : Own w1 wa.heap.size v1 (T 0) := by rw [HT0.out]; exact own1
  obtain ⟨a1, q1, rfl, -⟩ := sl_owned own1' (HTT.out 0)
  have L2 : Hid (Lst (w1.alloc (.cells #[.slice a1 (T 0).length q1] 34)) wa.heap.size (.slice (some ⟨w1.heap.size, 0, none⟩) 1 1) T 1) := by
    have hb : Below w1.heap.size w1 (w1.alloc (.cells #[.slice a1 (T 0).length q1] 34)) := al_below _ _
    refine ⟨[.slice a1 (T 0).length q1], own_mono (own_lit1 w1 _) b1.size, fun i hi => ?_⟩
    obtain rfl : i = 0 := by omega
    refine ⟨_, rfl, own1'.1, ?_⟩
    rcases own1'.2 with h2 | ⟨g, cap, cur, hv, hg, hh, r⟩
    · exact .inl h2
    · exact .inr ⟨g, cap, cur, hv, hg, (hb.block g (Array.getElem?_eq_some_iff.1 hh).1).trans hh, r⟩
  have B2 : Hid (Below wa.heap.size wa (w1.alloc (.cells #[.slice a1 (T 0).length q1] 34))) := b1.alloc b1.size _
  clear own1 own1' b1 c1
  generalize (T 0).length = t0 at *
  go_wp2_with fail
  go_loopw [7, 15] (fun va q wr => ∃ j : Nat, j ≤ k ∧ q = .int .i64 j ∧ Lst wr wa.heap.size va T (j + 1) ∧ Below wa.heap.size wa wr) (fun _ q _ => k - (intOf q).toNat)
  case atStart => exact ⟨0, by omega, rfl, L2.out, B2.out⟩
  case round =>
    clear L2 B2
    obtain ⟨j, hj, rfl, hL, bel⟩ := hrel
    have BE : Hid (Below wa.heap.size wa wr) := bel
    by_cases hltj : j < k
    · have lt2 : (j : Int) < (k : Int) := by omega
      obtain ⟨b, off, u, rfl, hu⟩ := HPP.out j hltj
      obtain ⟨kc1, su⟩ := hu wr bel
      have cvs : (convert 34 9 u).run Tryz.prog wr = .ok (.string (strB (PP.getD j []))) wr := by
        obtain ⟨au, cu, rfl, -⟩ := id su
        exact su.conv
      have ct := ftext_own (strB (PP.getD j [])) wr (HTA.out wr bel).2 (by rw [strB_size]; have := HPS.out j; omega)
      rw [textB_strB su.bytes, ← HTS.out j] at ct
      have HL1 : Hid (Lst wr wa.heap.size u7 T (j + 1)) := hL
      obtain ⟨au, cu, rfl, -⟩ := su
      generalize strB (PP.getD j []) = SS at *
      generalize (PP.getD j []).length = ul at *
      clear bel hL hu
      go_wp2_with fail
      refine ct.mono ?_
      rintro e w2 ⟨v2, rfl, own2, b2⟩
      clear ct cvs kc1
      obtain ⟨a2, q2, rfl, -⟩ := sl_owned own2 (HTT.out (j + 1))
      have hwr := BE.out.size
      have B2 : Below wa.heap.size wa w2 := BE.out.trans (b2.mono hwr)
      have b3 := al_below w2 (.cells #[.slice a2 (T (j + 1)).length q2] 34)
      have L3 := (HL1.out.below b2).below b3
      have own3 : Own (w2.alloc (.cells #[.slice a2 (T (j + 1)).length q2] 34)) wa.heap.size (.slice a2 (T (j + 1)).length q2) (T (j + 1)) := by
        refine ⟨own2.1, ?_⟩
        rcases own2.2 with h2 | ⟨g, cap, cur, hv, hg, hh, r⟩
        · exact .inl h2
        · exact .inr ⟨g, cap, cur, hv, Nat.le_trans hwr hg, (b3.block g (Array.getElem?_eq_some_iff.1 hh).1).trans hh, r⟩
      have HO3 : Hid (Own (w2.alloc (.cells #[.slice a2 (T (j + 1)).length q2] 34)) wa.heap.size (.slice a2 (T (j + 1)).length q2) (T (j + 1))) := own3
      have HB3 : Hid (Below wa.heap.size wa (w2.alloc (.cells #[.slice a2 (T (j + 1)).length q2] 34))) := B2.alloc B2.size _
      obtain ⟨VA, oa, ea⟩ := L3
      have EA : Hid (∀ i, i < j + 1 → ∃ v, VA[i]? = some v ∧ Own (w2.alloc (.cells #[.slice a2 (T (j + 1)).length q2] 34)) wa.heap.size v (T i)) := ea
      have HN : Hid (∀ (i : Nat) u, [Value.slice a2 (T (j + 1)).length q2][i]? = some u → (w2.alloc (.cells #[.slice a2 (T (j + 1)).length q2] 34)).cell? ((⟨w2.heap.size, 0, none⟩ : Addr).add i) = some u) := fun i u hu => by
        rw [Addr.add_lit, Nat.zero_add, cell_of_row _ _ _ _ _ _ (heap_alloc_new _ _)]
        simpa using hu
      have HN1 : Hid (∀ u ∈ [Value.slice a2 (T (j + 1)).length q2], u.oneCell' = true) := fun u hu => by
        simp only [List.mem_singleton] at hu
        rw [hu]; rfl
      clear ea own3 own2 b2 b3 B2 HL1
      generalize hTL : (T (j + 1)).length = tl at *
      have HTL : Hid ((T (j + 1)).length = tl) := hTL
      clear hTL
      go_wp2_with (at_builtin; refine wpList_append_own_wide _ rfl _ _ 100 rfl wa.heap.size 34 i0 (.slice none 0 0) 1 24 Tryz.underlying100 hi hz0 hz1 hz2 rfl (by decide) _ (j + 1) VA rfl oa ⟨w2.heap.size, 0, none⟩ 1 1 [.slice a2 tl q2] rfl rfl HN.out HN1.out (by unfold maxLen; omega) (by omega) HB3.out.size (Hid.out ?_))
      unfold Hid
      intro v4 w4 oa4 hg4 _
      have L4 : Hid (Lst w4 wa.heap.size v4 T (j + 1 + 1)) := Lst.push oa EA.out HO3.out oa4 hg4
      have B4 : Hid (Below wa.heap.size wa w4) := HB3.out.grown hg4 HB3.out.size (own_base oa)
      clear oa oa4 hg4 EA HO3 HB3 HN HN1
      go_wp2
      go_roundw
      case rel => exact ⟨j + 1, by omega, by go_num, L4.out, B4.out⟩
      case measure => simp [intOf]; omega
    · obtain rfl : j = k := by omega
      obtain ⟨z1, z2, z3⟩ := HZZ.out
      obtain ⟨pp, cc, rfl, hc, hp⟩ := hL.parts HTT.out (by omega) (textB s :: PP.map textL) z1 z2
      have c9 := mof_any _ K pp cc _ wr (HTA.out wr bel).1 (HSA.out wr bel) hp hc (by rw [z1]; omega) HKL.out (by rw [z3]; exact HFL.out)
      rw [z1, z3, ← HU.out] at c9
      clear hL hp hc bel z1 z2 z3
      go_wp2_with fail
      refine c9.mono ?_
      rintro e w4 ⟨rfl, b4⟩
      have B4 : Below wa.heap.size wa w4 := BE.out.trans (b4.mono BE.out.size)
      have G4 : Hid (w4.heap[w.heap.size]? = some (.cells (u8s (List.replicate 32 0)) 47 (0, 0))) := HGA.out w4 B4
      have E4 : Hid (Below w.heap.size w w4) := HBA.out w4 B4
      clear c9 b4 B4
      go_wp2_with (refine wpList_store_row rfl 47 _ _ rfl w.heap.size U rfl rfl 47 _ G4.out HI2.out HO2.out HON.out ?_)
      refine bodyPost_ret (v := .agg U) (results_cell_row rfl _ _ w.heap.size 47 U (0, 0) _ rfl (setRow_heap _ _ _ _ _ _ G4.out) Tryz.underlying47 rfl HI2.out) rfl ⟨rfl, below_setRow E4.out (Nat.le_refl _) _⟩
end Go.Proofs.YtiollhmbdhepkaaGreatDoor.Mc
