/-
  What Check answers: the set of spans; slices.Equal at spans.
  slices.Backward at spans: the iterator.
-/
import Derived.Test.YtmplpdjkhdaniaaGreatDoorWai
import Derived.Test.YtmplpdjkhdaniaaGreatDoorWaq
namespace Go.Proofs.YtmplpdjkhdaniaaGreatDoor
open Go.RowKit Go.Shelf
set_option maxRecDepth 100000

set_option maxHeartbeats 2000000 in
theorem equalS_any (w : World) (u v : Value) (l m : List Sp) (hu : SSp w u l) (hv : SSp w v m) (hl : l.length ≤ 100000) :
    Calls Tryz.prog 40 #[u, v] w fun e w' => e = .returned (.bool (decide (l = m))) ∧ Below w.heap.size w w' := by
  obtain ⟨a, c, rfl, h2, h3, h4⟩ := hu.shape
  obtain ⟨a', c', rfl, h2', h3', h4'⟩ := hv.shape
  by_cases hnk : l.length = m.length
  · have HAT : Hid (∀ j, j < l.length → ∀ W, Below w.heap.size w W → ∃ b off b' off', a = some ⟨b, off, none⟩ ∧ a' = some ⟨b', off', none⟩ ∧ W.cell? ⟨b, off + j * 2, none⟩ = some (.int .i64 (atS l j).1) ∧ W.cell? ⟨b, off + j * 2 + 1, none⟩ = some (.int .i64 (atS l j).2) ∧ W.cell? ⟨b', off' + j * 2, none⟩ = some (.int .i64 (atS m j).1) ∧ W.cell? ⟨b', off' + j * 2 + 1, none⟩ = some (.int .i64 (atS m j).2)) := fun j hj W hb => by
      obtain ⟨b, off, e, q⟩ := (hu.kept hb).at j hj
      obtain ⟨b', off', e', q'⟩ := (hv.kept hb).at j (by omega)
      exact ⟨b, off, b', off', e, e', (spC q).1, (spC q).2, (spC q').1, (spC q').2⟩
    have HYES : Hid ((∀ k, k < l.length → atS l k = atS m k) → decide (l = m) = true) := fun h => by
      rw [decide_eq_true_eq]
      refine List.ext_getElem hnk fun k h1 h2 => ?_
      have := h k h1
      rwa [atS_eq l k h1, atS_eq m k h2] at this
    have HNO : Hid (∀ k, k < l.length → atS l k ≠ atS m k → decide (l = m) = false) := fun k hk h => by
      rw [decide_eq_false_iff_not]
      exact fun e => h (by rw [e])
    obtain ⟨r, hr⟩ : ∃ r, r = decide (l = m) := ⟨_, rfl⟩
    rw [← hr] at HYES HNO ⊢
    rw [← hnk]
    clear hu hv hr hnk h2 h3 h4 h2' h3' h4'
    obtain ⟨n, hn⟩ : ∃ n, n = l.length := ⟨_, rfl⟩
    rw [← hn] at HAT HYES HNO hl ⊢
    clear hn
    have t0 : ((n : Int) != (n : Int)) = false := by simp
    go_enter Tryz.func40, Tryz.ntmps40
    go_wp2
    go_loopw [13] (fun u wr => ∃ j : Nat, j ≤ n ∧ u = .int .i64 j ∧ (∀ k, k < j → atS l k = atS m k) ∧ Below w.heap.size w wr) (fun u _ => n - (intOf u).toNat)
    case atStart => exact ⟨0, by omega, rfl, fun k hk => by omega, Below.refl _ _⟩
    case round =>
      obtain ⟨j, hj, rfl, ok, bel⟩ := hrel
      have OK : Hid (∀ k, k < j → atS l k = atS m k) := ok
      have HB : Hid (Below w.heap.size w wr) := bel
      clear ok bel
      by_cases hjn : j < n
      · have lt2 : (j : Int) < (n : Int) := by omega
        obtain ⟨b, off, b', off', rfl, rfl, k1, k2, k3, k4⟩ := HAT.out j hjn wr HB.out
        have HNX : Hid (atS l j = atS m j → ∀ k, k < j + 1 → atS l k = atS m k) := fun h k hk => by
          rcases Nat.lt_or_ge k j with h' | h'
          · exact OK.out k h'
          · rw [show k = j by omega]; exact h
        have HN : Hid (atS l j ≠ atS m j → r = false) := fun h => HNO.out j hjn h
        have E1 := neq_sp (atS l j) (atS m j)
        have E2 := fun (a b : Operand) => eqg_sp .neq (atS l j) (atS m j) a b
        have HE : Hid (sSp (atS l j) (atS m j) = true ↔ atS l j = atS m j) := sSp_iff _ _
        unfold spv at E1 E2
        generalize atS l j = x at *
        generalize atS m j = y at *
        obtain ⟨B, hB⟩ : ∃ B, B = sSp x y := ⟨_, rfl⟩
        rw [← hB] at E1 HE
        clear hB
        cases B with
        | true =>
          have hxy := HE.out.1 rfl
          have NX := HNX.out hxy
          have HN1 : Hid (∀ k, k < j + 1 → atS l k = atS m k) := NX
          clear HNX HN HE hxy NX
          rw [Bool.not_true] at E1
          go_wp2_with fail
          go_quiet (fail)
          have BD : Hid (Below w.heap.size w (wr.drewN nq)) := HB.out.trans ((drn wr nq).mono HB.out.size)
          generalize wr.drewN nq = DW at *
          go_wp2
          go_roundw
          case rel => exact ⟨j + 1, by omega, by go_num, HN1.out, BD.out⟩
          case measure => simp [intOf]; omega
        | false =>
          have hxy : x ≠ y := fun e => by have := HE.out.2 e; cases this
          have HR : Hid (r = false) := HN.out hxy
          clear HNX HN HE hxy
          rw [Bool.not_false] at E1
          go_wp2_with fail
          go_quiet (fail)
          have BD : Hid (Below w.heap.size w (wr.drewN nq)) := HB.out.trans ((drn wr nq).mono HB.out.size)
          generalize wr.drewN nq = DW at *
          go_wp2
          go_ret
          exact ⟨by rw [HR.out]; rfl, BD.out⟩
      · obtain rfl : j = n := by omega
        have HR : Hid (r = true) := HYES.out OK.out
        have lt2 : ¬ (j : Int) < (j : Int) := by omega
        clear HYES HNO OK HAT
        go_wp2
        go_ret
        exact ⟨by rw [HR.out]; rfl, HB.out⟩
  · have e : decide (l = m) = false := by rw [decide_eq_false_iff_not]; exact fun e => hnk (by rw [e])
    rw [e]
    have HB : Hid (Below w.heap.size w w) := Below.refl _ _
    have t0 : ((l.length : Int) != (m.length : Int)) = true := by simp; omega
    clear hu hv e hnk
    generalize l.length = n at *
    generalize m.length = k at *
    go_enter Tryz.func40, Tryz.ntmps40
    go_wp2
    go_ret
    exact ⟨rfl, HB.out⟩
theorem su_below {n : Nat} {w0 w w' : World} {g : Nat} {v v' : Value} (h : SU w w' g v v') (b : Below n w0 w) (hn : n ≤ w.heap.size) (hg : n ≤ g) (ho : ∀ k, v.ownBlock = some k → n ≤ k) : Below n w0 w' :=
  b.trans ⟨h.os, h.tape, h.output, h.size, fun k hk => h.block k (by omega) (by omega) (fun e => by have := ho k e; omega)⟩
theorem setL_take_len (l : List Sp) (j : Nat) : (setL (l.take j)).length ≤ l.length := Nat.le_trans setL_len (by rw [List.length_take]; omega)
set_option maxHeartbeats 2000000 in
theorem setOf_any (w : World) (u : Value) (l : List Sp) (hu : SSp w u l) (hl : l.length ≤ 900) :
    Calls Tryz.prog 41 #[u] w fun e w' => ∃ v', e = .returned (.pointer (some ⟨w.heap.size, 0, none⟩)) ∧ ST w' w.heap.size w.heap.size v' (setL l) ∧ Below w.heap.size w w' := by
  obtain ⟨a, c, rfl, -, -, -⟩ := hu.shape
  have HAT : Hid (∀ j, j < l.length → ∀ W, Below w.heap.size w W → ∃ b off, a = some ⟨b, off, none⟩ ∧ W.cell? ⟨b, off + j * 2, none⟩ = some (.int .i64 (atS l j).1) ∧ W.cell? ⟨b, off + j * 2 + 1, none⟩ = some (.int .i64 (atS l j).2)) := fun j hj W hb => by
    obtain ⟨b, off, e, q⟩ := (hu.kept hb).at j hj
    exact ⟨b, off, e, (spC q).1, (spC q).2⟩
  have HSN : Hid (∀ j, j < l.length → setL (l.take (j + 1)) = adP (setL (l.take j)) (atS l j).1 (atS l j).2) := fun j hj => by rw [take_snoc hj, setL_snoc]
  have HLN : Hid (∀ j, (setL (l.take j)).length ≤ 900) := fun j => Nat.le_trans (setL_take_len l j) hl
  have HFN : Hid (setL (l.take l.length) = setL l) := by unfold Hid; rw [List.take_length]
  have HZ : Hid (setL (l.take 0) = []) := rfl
  have cn := new_any w
  obtain ⟨W0, hW0⟩ : ∃ W0, W0 = w.alloc (.cells #[.slice none 0 0] 131) := ⟨_, rfl⟩
  have b0 : Below w.heap.size w W0 := by rw [hW0]; exact al_below _ _
  have s0 : ST W0 w.heap.size w.heap.size (.slice none 0 0) [] := by rw [hW0]; exact st_new w _
  rw [← hW0] at cn
  have HB0 : Hid (Below w.heap.size w W0) := b0
  have HS0 : Hid (ST W0 w.heap.size w.heap.size (.slice none 0 0) []) := s0
  clear hu hW0 b0 s0
  generalize hF : (fun j => setL (l.take j)) = F at *
  have HF : Hid (∀ j, setL (l.take j) = F j) := fun j => by rw [← hF]
  clear hF
  simp only [HF.out] at HSN HLN HFN HZ
  generalize setL l = C at *
  obtain ⟨n, hn⟩ : ∃ n, n = l.length := ⟨_, rfl⟩
  rw [← hn] at HAT HSN HFN hl ⊢
  clear hn HF
  go_enter Tryz.func41, Tryz.ntmps41
  go_wp2_with fail
  refine cn.mono ?_
  rintro e w1 ⟨rfl, e1⟩
  subst e1
  clear cn
  go_wp2
  go_loopw [9] (fun v wr => ∃ (j : Nat) (vv : Value), j ≤ n ∧ v = .int .i64 j ∧ ST wr w.heap.size w.heap.size vv (F j) ∧ Below w.heap.size w wr) (fun v _ => n - (intOf v).toNat)
  case atStart => exact ⟨0, _, by omega, rfl, by rw [HZ.out]; exact HS0.out, HB0.out⟩
  case round =>
    obtain ⟨j, vv, hj, rfl, hst, bel⟩ := hrel
    have HB : Hid (Below w.heap.size w wr) := bel
    have HS : Hid (ST wr w.heap.size w.heap.size vv (F j)) := hst
    clear hst bel
    by_cases hjn : j < n
    · have lt2 : (j : Int) < (n : Int) := by omega
      obtain ⟨b, off, rfl, k1, k2⟩ := HAT.out j hjn wr HB.out
      have HN : Hid (F (j + 1) = adP (F j) (atS l j).1 (atS l j).2) := HSN.out j hjn
      generalize atS l j = x at *
      have b1 : Below wr.heap.size wr (wr.alloc (.cells #[.int .i64 x.1, .int .i64 x.2] 89)) := al_below _ _
      have BB1 : Hid (Below w.heap.size w (wr.alloc (.cells #[.int .i64 x.1, .int .i64 x.2] 89))) := HB.out.trans (b1.mono HB.out.size)
      have HS1 : Hid (ST (wr.alloc (.cells #[.int .i64 x.1, .int .i64 x.2] 89)) w.heap.size w.heap.size vv (F j)) := HS.out.below b1
      have ca := add_any _ _ _ _ _ x.1 x.2 HS1.out (by have := HLN.out j; omega) BB1.out.size
      clear b1
      generalize adB (F j) x.1 x.2 = rb at *
      go_wp2_with fail
      refine ca.mono ?_
      rintro e w5 ⟨rfl, v5, s5, u5⟩
      have BB5 : Hid (Below w.heap.size w w5) := su_below u5 BB1.out BB1.out.size (Nat.le_refl _) (own_base HS1.out.rs.1)
      have HS5 : Hid (ST w5 w.heap.size w.heap.size v5 (F (j + 1))) := by unfold Hid; rw [HN.out]; exact s5
      clear ca s5 u5
      go_wp2
      go_roundw
      case rel => exact ⟨j + 1, v5, by omega, by go_num, HS5.out, BB5.out⟩
      case measure => simp [intOf]; omega
    · obtain rfl : j = n := by omega
      have lt2 : ¬ (j : Int) < (j : Int) := by omega
      have HR : Hid (ST wr w.heap.size w.heap.size vv C) := by unfold Hid; rw [← HFN.out]; exact HS.out
      clear HS HFN
      go_wp2
      go_ret
      exact ⟨rfl, ⟨_, HR.out⟩, HB.out⟩
set_option maxHeartbeats 2000000 in
theorem check_any (w : World) (u : Value) (l : List Sp) (hu : SSp w u l) (hl : l.length ≤ 100000) :
    Calls Tryz.prog 29 #[u] w fun e w' => e = .returned (.int .i64 (chkL l)) ∧ Below w.heap.size w w' := by
  obtain ⟨a, c, rfl, -, -, -⟩ := id hu.shape
  by_cases h64 : 64 < l.length
  · have e1 : chkL l = 5 := by unfold chkL; rw [if_pos h64]
    have t0 : (64 : Int) < (l.length : Int) := by omega
    rw [e1]
    clear hu e1
    generalize l.length = n at *
    go_enter Tryz.func29, Tryz.ntmps29
    go_wp2
    go_ret
    exact ⟨rfl, Below.refl _ _⟩
  · have t0 : ¬ (64 : Int) < (l.length : Int) := by omega
    by_cases hz : l = []
    · have e1 : chkL l = 4 := by unfold chkL; rw [if_neg h64, if_pos (.inl hz)]
      have t1 : ((l.length : Int) == 0) = true := by rw [hz]; rfl
      rw [e1]
      clear hu e1 hz
      generalize l.length = n at *
      go_enter Tryz.func29, Tryz.ntmps29
      go_wp2
      go_ret
      exact ⟨rfl, Below.refl _ _⟩
    · have t1 : ((l.length : Int) == 0) = false := by have := List.length_pos_iff.2 hz; simp; omega
      have hs := setOf_any w _ l hu (by omega)
      have HLL : Hid ((setL l).length ≤ 64) := Nat.le_trans setL_len (by omega)
      have HU : Hid (SSp w (.slice a l.length c) l) := hu
      have HR : Hid (chkL l = if setL l = l then 0 else 4) := by
        unfold Hid chkL
        rw [if_neg h64]
        by_cases q : setL l = l
        · rw [if_pos q, if_neg (fun e => e.elim hz (fun e => e q))]
        · rw [if_neg q, if_pos (.inr q)]
      clear hu hz h64
      generalize chkL l = R at *
      generalize setL l = C at *
      obtain ⟨n, hn⟩ : ∃ n, n = l.length := ⟨_, rfl⟩
      rw [← hn] at t0 t1 hs HU hl ⊢
      have HNL : Hid (n = l.length) := hn
      clear hn
      go_enter Tryz.func29, Tryz.ntmps29
      go_wp2_with fail
      refine hs.mono ?_
      rintro e w1 ⟨v1, rfl, s1, b1⟩
      have HB1 : Hid (Below w.heap.size w w1) := b1
      have cs := spans_any w1 _ C s1.sqA
      have HU1 : Hid (SSp w1 (.slice a n c) l) := HU.out.kept b1
      clear hs s1 b1
      go_wp2_with fail
      refine cs.mono ?_
      rintro e w2 ⟨v2, rfl, r2, b2⟩
      have HB2 : Hid (Below w.heap.size w w2) := HB1.out.trans (b2.mono HB1.out.size)
      have ce := equalS_any w2 v2 (.slice a n c) C l r2.is (HU1.out.kept b2) (by have := HLL.out; omega)
      obtain ⟨a2, c2, rfl, -, -, -⟩ := r2.is.shape
      clear cs r2 b2
      by_cases q : C = l
      · have HR2 : Hid (R = 0) := by unfold Hid; rw [HR.out, if_pos q]
        rw [decide_eq_true q] at ce
        clear HR q
        generalize C.length = n2 at *
        go_wp2_with fail
        refine ce.mono ?_
        rintro e w3 ⟨rfl, b3⟩
        have HB3 : Hid (Below w.heap.size w w3) := HB2.out.trans (b3.mono HB2.out.size)
        clear ce b3
        go_wp2
        go_ret
        exact ⟨by rw [HR2.out]; rfl, HB3.out⟩
      · have HR2 : Hid (R = 4) := by unfold Hid; rw [HR.out, if_neg q]
        rw [decide_eq_false q] at ce
        clear HR q
        generalize C.length = n2 at *
        go_wp2_with fail
        refine ce.mono ?_
        rintro e w3 ⟨rfl, b3⟩
        have HB3 : Hid (Below w.heap.size w w3) := HB2.out.trans (b3.mono HB2.out.size)
        clear ce b3
        go_wp2
        go_ret
        exact ⟨by rw [HR2.out]; rfl, HB3.out⟩
end Go.Proofs.YtmplpdjkhdaniaaGreatDoor
namespace Go.Proofs.YtmplpdjkhdaniaaGreatDoor
open Go.RowKit Go.Shelf
set_option maxRecDepth 100000

abbrev Bl := { y : Nat × Sp // y.1 ≤ 100000 ∧ Okk y.2 }
abbrev benc (y : Bl) : Array Value := #[.int .i64 (y.1.1 : Nat), .agg #[.int .i64 y.1.2.1, .int .i64 y.1.2.2]]
/-- What comes: the places and spans, from the last one on. -/
def bwl (l : List Sp) : List (Nat × Sp) := (List.range l.length).map fun k => (l.length - (k + 1), atS l (l.length - (k + 1)))
theorem bwl_len (l : List Sp) : (bwl l).length = l.length := by simp [bwl]
theorem bl_of : ∀ (L : List (Nat × Sp)), (∀ y ∈ L, y.1 ≤ 100000 ∧ Okk y.2) → ∃ c : List Bl, c.map (·.1) = L
  | [], _ => ⟨[], rfl⟩
  | x :: l, h => by
    obtain ⟨c, hc⟩ := bl_of l (fun y hy => h y (List.mem_cons_of_mem _ hy))
    exact ⟨⟨x, h x (List.mem_cons_self ..)⟩ :: c, by rw [List.map_cons, hc]⟩
set_option maxHeartbeats 400000 in
theorem backward_any (w : World) (a : Option Addr) (n c : Nat) : Calls Tryz.prog 67 #[.slice a n c] w fun e w' => e = .returned (.func (.func 87) #[] #[.pointer (some ⟨w.heap.size, 0, none⟩)]) ∧ w' = w.alloc (.cells #[.slice a n c] 23) := by
  go_enter Tryz.func67, Tryz.ntmps67
  go_wp2
  go_ret
  exact ⟨rfl, rfl⟩
set_option maxHeartbeats 4000000 in
theorem back_stops (w0 : World) (b : Nat) (v : Value) (l : List Sp) (X : Nat → Prop) (n : Nat) (hn : 1 ≤ n) (hb : w0.heap[b]? = some (.cells #[v] 23 (0, 0))) (hv : SSp w0 v l) (hok : ∀ x ∈ l, Okk x) (hl : l.length ≤ 100000)
    (hX : ¬ X b) (hXr : ∀ k, rowB v = some k → k < w0.heap.size ∧ ¬ X k) :
    SeqStopsK Fence.wide n Tryz.prog 87 #[.pointer (some ⟨b, 0, none⟩)] benc (Kt w0.heap.size X) (fun xs => xs.map (·.1) = bwl l) (fun _ => True) l.length w0 := by
  intro lp J Jx W hW hJ hJx hY h0
  show CallsIn Fence.wide n Tryz.prog 87 #[.func (.yield lp) #[] #[], .pointer (some ⟨b, 0, none⟩)] W _
  refine callsIn_wide.2 ?_
  obtain ⟨cl, hcl⟩ := bl_of (bwl l) (fun y hy => by
    obtain ⟨k, hk, rfl⟩ := List.mem_map.1 hy
    rw [List.mem_range] at hk
    exact ⟨by simp only; omega, hok _ (atS_mem l _ (by omega))⟩)
  have hcll : cl.length = l.length := by rw [← bwl_len l, ← hcl, List.length_map]
  have hel : ∀ k, k < l.length → ∀ y : Bl, cl[k]? = some y → y.1 = (l.length - (k + 1), atS l (l.length - (k + 1))) := fun k hk y hy => by
    have h1 : (bwl l)[k]? = some y.1 := by rw [← hcl, List.getElem?_map, hy]; rfl
    unfold bwl at h1
    rw [List.getElem?_map, List.getElem?_range hk] at h1
    exact (Option.some.inj h1).symm
  have KW : Kt w0.heap.size X w0 W := Kt.below hW
  obtain ⟨a, c, rfl, h2, h3, h4⟩ := id hv.shape
  have FF : Hid (∀ V : World, Kt w0.heap.size X w0 V → V.cell? ⟨b, 0, none⟩ = some (.slice a l.length c) ∧ SSp V (.slice a l.length c) l) := fun V hk => ⟨by have := hk.blk (blk_lt hb) hX hb; simp [World.cell?, this], hv.kt hk hXr⟩
  have HJ0 : Hid (J [] W) := h0
  have HJ : Hid (∀ s A B, J s A → Below A.heap.size A B → J s B) := fun s A B h hb => hJ s A B none h (below_grown hb) (fun r e => by cases e)
  have HY : Hid (∀ pre x W1, J pre W1 → pre.length < l.length → YieldAt Fence.wide (n - 1) Tryz.prog lp (benc x) W1 fun e W' => (e = .returned (.bool true) ∧ J (pre ++ [x]) W' ∧ Kt w0.heap.size X W1 W') ∨ (e = .returned (.bool false) ∧ Jx (pre ++ [x]) W')) := hY
  have HKW : Hid (Kt w0.heap.size X w0 W) := KW
  have HCL : Hid (cl.map (·.1) = bwl l) := hcl
  have HEL : Hid (∀ k, k < l.length → ∀ y : Bl, cl[k]? = some y → y.1 = (l.length - (k + 1), atS l (l.length - (k + 1)))) := hel
  have HLN : Hid (cl.length = l.length) := hcll
  have k0 := (FF.out W KW).1
  clear hY hJ hJx h0 hcl hcll hel hb hv hok hX hXr hW KW h2 h3 h4
  obtain ⟨N, hN⟩ : ∃ N, N = l.length := ⟨_, rfl⟩
  have HNL : Hid (N = l.length) := hN
  rw [← hN] at FF HY HEL HLN k0 hl
  clear hN
  have y1 : IntKind.i64.wrap ((N : Int) - 1) = (N : Int) - 1 := by rw [IntKind.wrap_i64]; omega
  go_enter Tryz.func87, Tryz.ntmps87
  go_wp2
  refine (wpIn_wide (n := n)).1 ?_
  gi_loopw [3] (fun i wr => ∃ (k : Nat) (z : Int), k ≤ N ∧ i = .int .i64 z ∧ Hid (z + k + 1 = N) ∧ J (cl.take k) wr ∧ Kt w0.heap.size X w0 wr) (fun i _ => (intOf i + 1).toNat)
  case atStart => exact ⟨0, _, Nat.zero_le _, rfl, by unfold Hid; omega, by rw [List.take_zero]; exact HJ0.out, HKW.out⟩
  case round =>
    obtain ⟨k, z, hk, rfl, hz, hJs, hKs⟩ := hrel
    have HJS : Hid (J (cl.take k) wr) := hJs
    have HKS : Hid (Kt w0.heap.size X w0 wr) := hKs
    clear hJs hKs HJ0 HKW
    by_cases hlt : k < N
    · obtain ⟨m, rfl⟩ : ∃ m : Nat, z = m := ⟨z.toNat, by have := hz.out; omega⟩
      have hm : N - (k + 1) = m := by have := hz.out; omega
      have lt2 : (0 : Int) ≤ (m : Int) := by omega
      have lt3 : (m : Int) < (N : Int) := by have := hz.out; omega
      have lt4 : m < N := by omega
      obtain ⟨q1, q3⟩ := FF.out wr HKS.out
      have q4 := q3
      rw [show N = l.length from HNL.out] at q4
      obtain ⟨bb, off, rfl, hr⟩ := q4.at m (by rw [← HNL.out]; exact lt4)
      obtain ⟨r0, r1⟩ := spC hr
      have hkc : k < cl.length := by rw [HLN.out]; exact hlt
      obtain ⟨y, hy⟩ : ∃ y : Bl, cl[k]? = some y := ⟨cl[k], List.getElem?_eq_getElem hkc⟩
      have ye := HEL.out k hlt y hy
      rw [hm] at ye
      have htk : cl.take (k + 1) = cl.take k ++ [y] := by rw [List.take_add_one, hy]; rfl
      have HTK : Hid (cl.take (k + 1) = cl.take k ++ [y]) := htk
      obtain ⟨fn, tmps, assign, body, hyy, hR⟩ := HY.out (cl.take k) y wr HJS.out (by rw [List.length_take]; omega)
      dsimp only [benc] at hyy
      rw [ye] at hyy
      obtain ⟨x, hx⟩ : ∃ x, x = atS l m := ⟨_, rfl⟩
      rw [← hx] at hyy r0 r1
      have HR : Hid (RoundIn Fence.wide (n - 1) Tryz.prog lp fn tmps assign body wr _) := hR
      have xw : IntKind.i64.wrap ((m : Int) - 1) = (m : Int) - 1 := by rw [IntKind.wrap_i64]; omega
      have HZ1 : Hid ((m : Int) - 1 + ((k + 1 : Nat) : Int) + 1 = N) := by unfold Hid; have := hz.out; omega
      clear hR ye hy htk hx hr q3 q4 hkc hm hz
      gi_wp2
      refine HR.out.mono ?_
      rintro e W4 (⟨rfl, hJ4, hk4⟩ | ⟨rfl, hJx4⟩)
      · have HJ4 : Hid (J (cl.take (k + 1)) W4) := by unfold Hid; rw [HTK.out]; exact hJ4
        have HK4 : Hid (Kt w0.heap.size X w0 W4) := HKS.out.trans hk4
        clear hJ4 hk4 hyy
        gi_wp2
        go_roundw
        case rel => exact ⟨k + 1, (m : Int) - 1, by omega, by go_num, HZ1, HJ4.out, HK4.out⟩
        case measure => simp [intOf]
      · have HX4 : Hid (Jx (cl.take k ++ [y]) W4) := hJx4
        clear hJx4 hyy
        gi_wp2
        refine bodyPost_ret (results_none rfl _ _ _) rfl ?_
        exact ⟨⟨_, rfl⟩, .inr ⟨_, trivial, HX4.out⟩⟩
    · obtain rfl : k = N := by omega
      obtain rfl : z = -1 := by have := hz.out; omega
      have HJE : Hid (J cl wr) := by unfold Hid; have := HJS.out; rwa [List.take_of_length_le (by rw [HLN.out]; exact Nat.le_refl _)] at this
      clear HJS
      gi_wp2
      go_end0
      exact ⟨⟨_, rfl⟩, .inl ⟨cl, HCL.out, HJE.out⟩⟩
end Go.Proofs.YtmplpdjkhdaniaaGreatDoor
