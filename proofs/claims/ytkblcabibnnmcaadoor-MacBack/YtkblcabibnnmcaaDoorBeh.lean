/-
  What mac.sumBehind and mac.Of answer: the sum of the block and the parts; the sum with a key; nothing that was there is changed.
-/
import Derived.Test.YtkblcabibnnmcaaDoorMsk
import Derived.Deep.RegionWith
import Derived.Deep.RegionHeld3
namespace Go.Proofs.YtkblcabibnnmcaaDoor
open Go.RowKit

theorem info22 : (Tryd.prog.info? 22).map (fun i => (i.zero, i.size, i.bytes)) = some (some (.slice none 0 0), 1, 24) := by kernel_rfl

theorem Parts.kept {w w' : World} {p : Option Addr} {ZZ : List (List Int)} (h : Parts w p ZZ) (hb : Below w.heap.size w w') : Parts w' p ZZ := by
  obtain ⟨h1, h2⟩ := h
  refine ⟨h1, ?_⟩
  rcases h2 with h2 | ⟨b, off, rfl, hall⟩
  · exact .inl h2
  · refine .inr ⟨b, off, rfl, fun i hi => ?_⟩
    obtain ⟨v, hc, sl⟩ := hall i hi
    exact ⟨v, (hb.cell (p := ⟨b, off + i, none⟩) (World.block_lt_of_cell? _ _ hc)).trans hc, sl.kept hb⟩
/-- The cells of a slice of slices, as a list. -/
theorem Parts.vals {w : World} {b off : Nat} {ZZ : List (List Int)} (h : ∀ i, i < ZZ.length → ∃ v, w.cell? ⟨b, off + i, none⟩ = some v ∧ Sl w v (ZZ.getD i [])) :
    ∃ V : List Value, V.length = ZZ.length ∧ (∀ j u, V[j]? = some u → w.cell? ((⟨b, off, none⟩ : Addr).add j) = some u) ∧ (∀ u ∈ V, u.oneCell' = true) ∧ ∀ i, i < ZZ.length → ∃ u, V[i]? = some u ∧ Sl w u (ZZ.getD i []) := by
  classical
  refine ⟨(List.range ZZ.length).map fun i => if h' : i < ZZ.length then (h i h').choose else .bool false, by simp, ?_, ?_, ?_⟩
  · intro j u hj
    rw [List.getElem?_map] at hj
    by_cases hlt : j < ZZ.length
    · simp only [List.getElem?_range hlt, Option.map_some, dif_pos hlt, Option.some.injEq] at hj
      subst hj
      rw [Addr.add_lit]
      exact (h j hlt).choose_spec.1
    · rw [List.getElem?_eq_none (by simpa using hlt)] at hj
      simp at hj
  · intro u hu
    simp only [List.mem_map, List.mem_range] at hu
    obtain ⟨i, hi, rfl⟩ := hu
    rw [dif_pos hi]
    obtain ⟨a, c, e, _⟩ := (h i hi).choose_spec.2
    rw [e]; rfl
  · intro i hi
    exact ⟨_, by simp only [List.getElem?_map, List.getElem?_range hi, Option.map_some, dif_pos hi], (h i hi).choose_spec.2⟩

/-- A row of slices of the call's own is read as a slice of slices. -/
theorem parts_owned {w : World} {base n : Nat} {v : Value} {V : List Value} {ZZ : List (List Int)} (ho : w.ownsRow base 22 1 v n V) (hn : n = ZZ.length) (hm : n ≤ 9223372036854775807)
    (h : ∀ i, i < ZZ.length → ∃ u, V[i]? = some u ∧ Sl w u (ZZ.getD i [])) : ∃ p c, v = .slice p ZZ.length c ∧ Parts w p ZZ := by
  subst hn
  rcases ho.2 with ⟨rfl, h0⟩ | ⟨g, cap, cur, rfl, _⟩
  · refine ⟨none, 0, by rw [h0], hm, .inl (List.length_eq_zero_iff.1 h0)⟩
  · refine ⟨_, cap, rfl, hm, .inr ⟨g, 0, rfl, fun i hi => ?_⟩⟩
    obtain ⟨u, hu, sl⟩ := h i hi
    refine ⟨u, ?_, sl⟩
    have := ho.cells (g := g) rfl i u hu
    rwa [Addr.add_lit] at this

theorem own_lit1 (w : World) (v : Value) : (w.alloc (.cells #[v] 22)).ownsRow w.heap.size 22 1 (.slice (some ⟨w.heap.size, 0, none⟩) 1 1) 1 [v] :=
  ⟨rfl, .inr ⟨w.heap.size, 1, #[v], rfl, Nat.le_refl _, heap_alloc_new _ _, Nat.le_refl _, by unfold maxLen; omega, rfl, rfl⟩⟩

/-- 'append' of a slice of slices onto a list of one of the call's own. -/
theorem wpList_append_parts {w w0 : World} {ops : Array Oper} {rest : List Oper} {o : Oper} {a : Act} {Q : Exit → Act → World → Prop} (hgd : o.guard = none) (s x : Operand)
    (ho : o.op = .call { callee := .builtin .append, args := #[s, x], argTypes := #[30, 30] })
    (base : Nat) (v : Value) (n : Nat) (V : List Value) (XX : List (List Int)) (hs : a.eval s = v) (hown : w.ownsRow base 22 1 v n V) (hb0 : Below base w0 w) (hw0 : base = w0.heap.size) (hn : n = XX.length)
    (hV : ∀ i, i < XX.length → ∃ u, V[i]? = some u ∧ Sl w0 u (XX.getD i []))
    (p : Option Addr) (k c : Nat) (ZZ : List (List Int)) (hx : a.eval x = .slice p k c) (hk : k = ZZ.length) (hc : p = none → c = 0) (hP : Parts w0 p ZZ) (hbig : n + ZZ.length ≤ 1000000000)
    (h : ∀ p' c' w', Parts w' p' (XX ++ ZZ) → Below base w0 w' → wpList Tryd.prog ops Q rest (a.put o.dst (.slice p' (XX ++ ZZ).length c')) w') : wpList Tryd.prog ops Q (o :: rest) a w := by
  obtain ⟨i0, hi, hz0, hz1, hz2⟩ := info_parts info22
  subst hk
  have bw : Below w0.heap.size w0 w := by rw [← hw0]; exact hb0
  have hbase : base ≤ w.heap.size := by rw [hw0]; exact bw.size
  have e0 : ∀ i, (XX ++ ZZ).getD i [] = if i < XX.length then XX.getD i [] else ZZ.getD (i - XX.length) [] := fun i => by
    split
    · next h => simp [List.getD, List.getElem?_append_left h]
    · next h => simp [List.getD, List.getElem?_append_right (show XX.length ≤ i by omega)]
  have hVl : V.length = n := by have := hown.1; simpa using this
  by_cases hz : ZZ = []
  · subst hz
    have hap : (XX ++ ([] : List (List Int))) = XX := List.append_nil _
    rw [hap] at h
    cases p with
    | none =>
      obtain rfl := hc rfl
      refine wpList_append_own_none hgd s x 30 ho base 22 i0 1 Tryd.underlying30 hi v n V hs hown hx ?_
      obtain ⟨p', c', rfl, hp'⟩ := parts_owned hown hn (by omega) (fun i hi => by
        obtain ⟨u, h1, h2⟩ := hV i hi
        exact ⟨u, h1, h2.kept bw⟩)
      exact h p' c' w hp' hb0
    | some y =>
      refine wpList_append_own_wide w hgd s x 30 ho base 22 i0 (.slice none 0 0) 1 24 Tryd.underlying30 hi hz0 hz1 hz2 rfl (by decide) v n V hs hown y 0 c [] hx rfl (fun j u hj => by simp at hj) (fun u hu => by simp at hu) (by unfold maxLen; omega) (by simp at hbig; omega) hbase ?_
      intro v' w' ho' hg _
      have bw' : Below base w0 w' := hb0.grown hg hbase (own_base hown)
      rw [Nat.add_zero, List.append_nil] at ho'
      obtain ⟨p', c', rfl, hp'⟩ := parts_owned ho' hn (by omega) (fun i hi => by
        obtain ⟨u, h1, h2⟩ := hV i hi
        exact ⟨u, h1, h2.kept (by rw [← hw0]; exact bw')⟩)
      exact h p' c' w' hp' bw'
  · rcases hP.2 with h0 | ⟨b, off, rfl, hall⟩
    · exact absurd h0 hz
    · obtain ⟨U, u1, u2, u3, u4⟩ := Parts.vals hall
      have u2' : ∀ j u, U[j]? = some u → w.cell? ((⟨b, off, none⟩ : Addr).add j) = some u := fun j u hj => by
        have h1 := u2 j u hj
        exact (bw.cell (World.block_lt_of_cell? _ _ h1)).trans h1
      refine wpList_append_own_wide w hgd s x 30 ho base 22 i0 (.slice none 0 0) 1 24 Tryd.underlying30 hi hz0 hz1 hz2 rfl (by decide) v n V hs hown ⟨b, off, none⟩ ZZ.length c U hx (by rw [u1, Nat.mul_one]) u2' u3 (by unfold maxLen; omega) (by omega) hbase ?_
      intro v' w' ho' hg _
      have bw' : Below base w0 w' := hb0.grown hg hbase (own_base hown)
      obtain ⟨p', c', rfl, hp'⟩ := parts_owned (ZZ := XX ++ ZZ) ho' (by rw [List.length_append, hn]) (by omega) (fun i hi => by
        rw [e0]
        rw [List.length_append] at hi
        by_cases hlt : i < XX.length
        · rw [if_pos hlt, List.getElem?_append_left (by omega)]
          obtain ⟨u, h1, h2⟩ := hV i hlt
          exact ⟨u, h1, h2.kept (by rw [← hw0]; exact bw')⟩
        · rw [if_neg hlt, List.getElem?_append_right (by omega), hVl, hn]
          obtain ⟨u, h1, h2⟩ := u4 (i - XX.length) (by omega)
          exact ⟨u, h1, h2.kept (by rw [← hw0]; exact bw')⟩)
      exact h p' c' w' hp' bw'

set_option maxHeartbeats 2000000 in
set_option maxRecDepth 100000 in
theorem behind_any (v : Value) (X : List Int) (p : Option Addr) (kc : Nat) (ZZ : List (List Int)) (w : World) (ht : Tab w) (sl : Sl w v X) (hP : Parts w p ZZ) (hc : p = none → kc = 0) (hl : ZZ.length ≤ 1000000) (hbig : X.length + ZZ.flatten.length ≤ 100000000000000000) :
    Calls Tryd.prog 21 #[v, .slice p ZZ.length kc] w fun e w' => e = .returned (.agg (u8s (Pl.sha (X ++ ZZ.flatten)))) ∧ Below w.heap.size w w' := by
  obtain ⟨wa, hwa⟩ : ∃ wa, wa = w.alloc (.cells (u8s (List.replicate 32 0)) 26) := ⟨_, rfl⟩
  have ba : Below w.heap.size w wa := by rw [hwa]; exact (Below.refl _ _).alloc (Nat.le_refl _) _
  have g0 : wa.heap[w.heap.size]? = some (.cells (u8s (List.replicate 32 0)) 26 (0, 0)) := by rw [hwa]; exact heap_alloc_new _ _
  have hlt : w.heap.size < wa.heap.size := by rw [hwa]; simp
  have hwz : w.alloc (.cells #[.int .u8 0, .int .u8 0, .int .u8 0, .int .u8 0, .int .u8 0, .int .u8 0, .int .u8 0, .int .u8 0, .int .u8 0, .int .u8 0, .int .u8 0, .int .u8 0, .int .u8 0, .int .u8 0, .int .u8 0, .int .u8 0, .int .u8 0, .int .u8 0, .int .u8 0, .int .u8 0, .int .u8 0, .int .u8 0, .int .u8 0, .int .u8 0, .int .u8 0, .int .u8 0, .int .u8 0, .int .u8 0, .int .u8 0, .int .u8 0, .int .u8 0, .int .u8 0] 26) = wa := hwa.symm
  have HFL : Hid ([X] ++ ZZ = X :: ZZ) := rfl
  have hfl : (X :: ZZ).flatten = X ++ ZZ.flatten := rfl
  have HI : Hid ((Tryd.prog.info? 26).map (·.size) = some (u8s (Pl.sha (X ++ ZZ.flatten))).size) := by unfold Hid; rw [u8s_size, sha_len]; exact size26
  have HO : Hid ((u8s (List.replicate 32 0)).size = (u8s (Pl.sha (X ++ ZZ.flatten))).size) := by unfold Hid; rw [u8s_size, u8s_size, sha_len]; simp
  have HON : Hid ((u8s (Pl.sha (X ++ ZZ.flatten))).all (·.oneCell') = true) := u8s_one _
  have COF : Hid (∀ p' c' W, Below w.heap.size w W → Parts W p' (X :: ZZ) → Calls Tryd.prog 20 #[.slice p' ([X] ++ ZZ).length c'] W fun e w' => e = .returned (.agg (u8s (Pl.sha (X ++ ZZ.flatten)))) ∧ Below W.heap.size W w') := fun p' c' W hW hp => by
    have := of_any p' c' (X :: ZZ) W (ht.below hW ht.size) hp (by rw [hfl, List.length_append]; exact hbig)
    rw [hfl] at this
    exact this
  have own0 := own_lit1 wa v
  have SLA : Hid (∀ i, i < [X].length → ∃ u, [v][i]? = some u ∧ Sl wa u ([X].getD i [])) := fun i hi => by
    obtain rfl : i = 0 := by simpa using hi
    exact ⟨v, rfl, sl.kept ba⟩
  have HPA : Hid (Parts wa p ZZ) := hP.kept ba
  have bal : Below wa.heap.size wa (wa.alloc (.cells #[v] 22)) := (Below.refl _ _).alloc (Nat.le_refl _) _
  have HC : Hid (p = none → kc = 0) := hc
  have HBA : Hid (Below w.heap.size w wa) := ba
  have HG0 : Hid (wa.heap[w.heap.size]? = some (.cells (u8s (List.replicate 32 0)) 26 (0, 0))) := g0
  obtain ⟨k, hk⟩ : ∃ k, k = ZZ.length := ⟨_, rfl⟩
  have HK : Hid (k = ZZ.length) := hk
  rw [← hk] at hl ⊢
  obtain ⟨av, cv, rfl, -⟩ := sl
  clear hwa ba g0 hP hc hfl hbig ht hk
  generalize u8s (Pl.sha (X ++ ZZ.flatten)) = U at *
  go_enter Tryd.func21, Tryd.ntmps21
  go_wp2_with (at_builtin; refine wpList_append_parts rfl _ _ rfl wa.heap.size _ _ _ [X] rfl own0 bal rfl rfl SLA.out p _ kc ZZ rfl HK.out HC.out HPA.out (by rw [← HK.out]; omega) (Hid.out ?_))
  unfold Hid
  intro p' c' w1 hp1 hb1
  have B1 : Below w.heap.size w w1 := HBA.out.trans (hb1.mono (by omega))
  have c1 := COF.out p' c' w1 B1 hp1
  have HG1 : Hid (w1.heap[w.heap.size]? = some (.cells (u8s (List.replicate 32 0)) 26 (0, 0))) := (hb1.block _ hlt).trans HG0.out
  have HB1 : Hid (Below w.heap.size w w1) := B1
  clear B1 hp1 hb1 own0 bal COF
  go_wp2_with fail
  refine c1.mono ?_
  rintro e w2 ⟨rfl, b2⟩
  have B2 : Hid (Below w.heap.size w w2) := HB1.out.trans (b2.mono HB1.out.size)
  have HG2 : Hid (w2.heap[w.heap.size]? = some (.cells (u8s (List.replicate 32 0)) 26 (0, 0))) := (b2.block _ (Array.getElem?_eq_some_iff.1 HG1.out).1).trans HG1.out
  clear c1 b2
  go_wp2_with (refine wpList_store_row rfl 26 _ _ rfl w.heap.size U rfl rfl 26 _ HG2.out HI.out HO.out HON.out ?_)
  refine bodyPost_ret (v := .agg U) (results_cell_row rfl _ _ w.heap.size 26 U (0, 0) _ rfl (setRow_heap _ _ _ _ _ _ HG2.out) Tryd.underlying26 rfl HI.out) rfl ⟨rfl, below_setRow B2.out (Nat.le_refl _) _⟩
end Go.Proofs.YtkblcabibnnmcaaDoor
