/-
  What Check answers: the set of spans; slices.Equal at spans.
  Parts that grow in a variable.
  A span read.
  A hasher, as the walks read it: eight words, 64 bytes, a number.
  What sha.New, (*sha.Hasher).Fork and Len answer.
-/
import Derived.Test.YtiollhmbdhepkaaGreatDoorYap
import Derived.Test.YtiollhmbdhepkaaGreatDoorYat
namespace Go.Proofs.YtiollhmbdhepkaaGreatDoor
open Go.RowKit Go.Shelf
set_option maxRecDepth 100000

set_option maxHeartbeats 2000000 in
theorem equalS_any (w : World) (u v : Value) (l m : List Sp) (hu : SSp w u l) (hv : SSp w v m) (hl : l.length ≤ 100000) :
    Calls Tryz.prog 73 #[u, v] w fun e w' => e = .returned (.bool (decide (l = m))) ∧ Below w.heap.size w w' := by
  obtain ⟨a, c, rfl, h2, h3, h4⟩ := hu.shape
  obtain ⟨a', c', rfl, h2', h3', h4'⟩ := hv.shape
  by_cases hnk : l.length = m.length
  · have HAT : Hid (∀ j, j < l.length → ∀ W, Below w.heap.size w W → ∃ b off b' off', a = some ⟨b, off, none⟩ ∧ a' = some ⟨b', off', none⟩ ∧ W.cell? ⟨b, off + j * 2, none⟩ = some (.int .i64 (atS l j).1) ∧ W.cell? ⟨b, off + j * 2 + 1, none⟩ = some (.int .i64 (atS l j).2) ∧ W.cell? ⟨b', off' + j * 2, none⟩ = some (.int .i64 (atS m j).1) ∧ W.cell? ⟨b', off' + j * 2 + 1, none⟩ = some (.int .i64 (atS m j).2)) := fun j hj W hb => by
      obtain ⟨b, off, e, q⟩ := (hu.kept hb).at j hj
      obtain ⟨b', off', e', q'⟩ := (hv.kept hb).at j (by omega)
      exact ⟨b, off, b', off', e, e', (spC q).1, (spC q).2, (spC q').1, (spC q').2⟩
    have HYES : Hid ((∀ k, k < l.length → atS l k = atS m k) → decide (l = m) = true) := fun h => by
      rw [decide_eq_true_eq]
      refine List.ext_getElem hnk fun k h1 h2 => ?_
      have := h k h1
      rwa [atS_eq l k h1, atS_eq m k h2] at this
    have HNO : Hid (∀ k, k < l.length → atS l k ≠ atS m k → decide (l = m) = false) := fun k hk h => by
      rw [decide_eq_false_iff_not]
      exact fun e => h (by rw [e])
    obtain ⟨r, hr⟩ : ∃ r, r = decide (l = m) := ⟨_, rfl⟩
    rw [← hr] at HYES HNO ⊢
    rw [← hnk]
    clear hu hv hr hnk h2 h3 h4 h2' h3' h4'
    obtain ⟨n, hn⟩ : ∃ n, n = l.length := ⟨_, rfl⟩
    rw [← hn] at HAT HYES HNO hl ⊢
    clear hn
    have t0 : ((n : Int) != (n : Int)) = false := by simp
    go_enter Tryz.func73, Tryz.ntmps73
    go_wp2
    go_loopw [13] (fun u wr => ∃ j : Nat, j ≤ n ∧ u = .int .i64 j ∧ (∀ k, k < j → atS l k = atS m k) ∧ Below w.heap.size w wr) (fun u _ => n - (intOf u).toNat)
    case atStart => exact ⟨0, by omega, rfl, fun k hk => by omega, Below.refl _ _⟩
    case round =>
      obtain ⟨j, hj, rfl, ok, bel⟩ := hrel
      have OK : Hid (∀ k, k < j → atS l k = atS m k) := ok
      have HB : Hid (Below w.heap.size w wr) := bel
      clear ok bel
      by_cases hjn : j < n
      · have lt2 : (j : Int) < (n : Int) := by omega
        obtain ⟨b, off, b', off', rfl, rfl, k1, k2, k3, k4⟩ := HAT.out j hjn wr HB.out
        have HNX : Hid (atS l j = atS m j → ∀ k, k < j + 1 → atS l k = atS m k) := fun h k hk => by
          rcases Nat.lt_or_ge k j with h' | h'
          · exact OK.out k h'
          · rw [show k = j by omega]; exact h
        have HN : Hid (atS l j ≠ atS m j → r = false) := fun h => HNO.out j hjn h
        have E1 := neq_sp (atS l j) (atS m j)
        have E2 := fun (a b : Operand) => eqg_sp .neq (atS l j) (atS m j) a b
        have HE : Hid (sSp (atS l j) (atS m j) = true ↔ atS l j = atS m j) := sSp_iff _ _
        unfold spv at E1 E2
        generalize atS l j = x at *
        generalize atS m j = y at *
        obtain ⟨B, hB⟩ : ∃ B, B = sSp x y := ⟨_, rfl⟩
        rw [← hB] at E1 HE
        clear hB
        cases B with
        | true =>
          have hxy := HE.out.1 rfl
          have NX := HNX.out hxy
          have HN1 : Hid (∀ k, k < j + 1 → atS l k = atS m k) := NX
          clear HNX HN HE hxy NX
          rw [Bool.not_true] at E1
          go_wp2_with fail
          go_quiet (fail)
          have BD : Hid (Below w.heap.size w (wr.drewN nq)) := HB.out.trans ((drn wr nq).mono HB.out.size)
          generalize wr.drewN nq = DW at *
          go_wp2
          go_roundw
          case rel => exact ⟨j + 1, by omega, by go_num, HN1.out, BD.out⟩
          case measure => simp [intOf]; omega
        | false =>
          have hxy : x ≠ y := fun e => by have := HE.out.2 e; cases this
          have HR : Hid (r = false) := HN.out hxy
          clear HNX HN HE hxy
          rw [Bool.not_false] at E1
          go_wp2_with fail
          go_quiet (fail)
          have BD : Hid (Below w.heap.size w (wr.drewN nq)) := HB.out.trans ((drn wr nq).mono HB.out.size)
          generalize wr.drewN nq = DW at *
          go_wp2
          go_ret
          exact ⟨by rw [HR.out]; rfl, BD.out⟩
      · obtain rfl : j = n := by omega
        have HR : Hid (r = true) := HYES.out OK.out
        have lt2 : ¬ (j : Int) < (j : Int) := by omega
        clear HYES HNO OK HAT
        go_wp2
        go_ret
        exact ⟨by rw [HR.out]; rfl, HB.out⟩
  · have e : decide (l = m) = false := by rw [decide_eq_false_iff_not]; exact fun e => hnk (by rw [e])
    rw [e]
    have HB : Hid (Below w.heap.size w w) := Below.refl _ _
    have t0 : ((l.length : Int) != (m.length : Int)) = true := by simp; omega
    clear hu hv e hnk
    generalize l.length = n at *
    generalize m.length = k at *
    go_enter Tryz.func73, Tryz.ntmps73
    go_wp2
    go_ret
    exact ⟨rfl, HB.out⟩
theorem su_below {n : Nat} {w0 w w' : World} {g : Nat} {v v' : Value} (h : SU w w' g v v') (b : Below n w0 w) (hn : n ≤ w.heap.size) (hg : n ≤ g) (ho : ∀ k, v.ownBlock = some k → n ≤ k) : Below n w0 w' :=
  b.trans ⟨h.os, h.tape, h.output, h.size, fun k hk => h.block k (by omega) (by omega) (fun e => by have := ho k e; omega)⟩
theorem setL_take_len (l : List Sp) (j : Nat) : (setL (l.take j)).length ≤ l.length := Nat.le_trans setL_len (by rw [List.length_take]; omega)
set_option maxHeartbeats 2000000 in
theorem setOf_any (w : World) (u : Value) (l : List Sp) (hu : SSp w u l) (hl : l.length ≤ 900) :
    Calls Tryz.prog 74 #[u] w fun e w' => ∃ v', e = .returned (.pointer (some ⟨w.heap.size, 0, none⟩)) ∧ ST w' w.heap.size w.heap.size v' (setL l) ∧ Below w.heap.size w w' := by
  obtain ⟨a, c, rfl, -, -, -⟩ := hu.shape
  have HAT : Hid (∀ j, j < l.length → ∀ W, Below w.heap.size w W → ∃ b off, a = some ⟨b, off, none⟩ ∧ W.cell? ⟨b, off + j * 2, none⟩ = some (.int .i64 (atS l j).1) ∧ W.cell? ⟨b, off + j * 2 + 1, none⟩ = some (.int .i64 (atS l j).2)) := fun j hj W hb => by
    obtain ⟨b, off, e, q⟩ := (hu.kept hb).at j hj
    exact ⟨b, off, e, (spC q).1, (spC q).2⟩
  have HSN : Hid (∀ j, j < l.length → setL (l.take (j + 1)) = adP (setL (l.take j)) (atS l j).1 (atS l j).2) := fun j hj => by rw [take_snoc hj, setL_snoc]
  have HLN : Hid (∀ j, (setL (l.take j)).length ≤ 900) := fun j => Nat.le_trans (setL_take_len l j) hl
  have HFN : Hid (setL (l.take l.length) = setL l) := by unfold Hid; rw [List.take_length]
  have HZ : Hid (setL (l.take 0) = []) := rfl
  have cn := new_any w
  obtain ⟨W0, hW0⟩ : ∃ W0, W0 = w.alloc (.cells #[.slice none 0 0] 179) := ⟨_, rfl⟩
  have b0 : Below w.heap.size w W0 := by rw [hW0]; exact al_below _ _
  have s0 : ST W0 w.heap.size w.heap.size (.slice none 0 0) [] := by rw [hW0]; exact st_new w _
  rw [← hW0] at cn
  have HB0 : Hid (Below w.heap.size w W0) := b0
  have HS0 : Hid (ST W0 w.heap.size w.heap.size (.slice none 0 0) []) := s0
  clear hu hW0 b0 s0
  generalize hF : (fun j => setL (l.take j)) = F at *
  have HF : Hid (∀ j, setL (l.take j) = F j) := fun j => by rw [← hF]
  clear hF
  simp only [HF.out] at HSN HLN HFN HZ
  generalize setL l = C at *
  obtain ⟨n, hn⟩ : ∃ n, n = l.length := ⟨_, rfl⟩
  rw [← hn] at HAT HSN HFN hl ⊢
  clear hn HF
  go_enter Tryz.func74, Tryz.ntmps74
  go_wp2_with fail
  refine cn.mono ?_
  rintro e w1 ⟨rfl, e1⟩
  subst e1
  clear cn
  go_wp2
  go_loopw [9] (fun v wr => ∃ (j : Nat) (vv : Value), j ≤ n ∧ v = .int .i64 j ∧ ST wr w.heap.size w.heap.size vv (F j) ∧ Below w.heap.size w wr) (fun v _ => n - (intOf v).toNat)
  case atStart => exact ⟨0, _, by omega, rfl, by rw [HZ.out]; exact HS0.out, HB0.out⟩
  case round =>
    obtain ⟨j, vv, hj, rfl, hst, bel⟩ := hrel
    have HB : Hid (Below w.heap.size w wr) := bel
    have HS : Hid (ST wr w.heap.size w.heap.size vv (F j)) := hst
    clear hst bel
    by_cases hjn : j < n
    · have lt2 : (j : Int) < (n : Int) := by omega
      obtain ⟨b, off, rfl, k1, k2⟩ := HAT.out j hjn wr HB.out
      have HN : Hid (F (j + 1) = adP (F j) (atS l j).1 (atS l j).2) := HSN.out j hjn
      generalize atS l j = x at *
      have b1 : Below wr.heap.size wr (wr.alloc (.cells #[.int .i64 x.1, .int .i64 x.2] 131)) := al_below _ _
      have BB1 : Hid (Below w.heap.size w (wr.alloc (.cells #[.int .i64 x.1, .int .i64 x.2] 131))) := HB.out.trans (b1.mono HB.out.size)
      have HS1 : Hid (ST (wr.alloc (.cells #[.int .i64 x.1, .int .i64 x.2] 131)) w.heap.size w.heap.size vv (F j)) := HS.out.below b1
      have ca := add_any _ _ _ _ _ x.1 x.2 HS1.out (by have := HLN.out j; omega) BB1.out.size
      clear b1
      generalize adB (F j) x.1 x.2 = rb at *
      go_wp2_with fail
      refine ca.mono ?_
      rintro e w5 ⟨rfl, v5, s5, u5⟩
      have BB5 : Hid (Below w.heap.size w w5) := su_below u5 BB1.out BB1.out.size (Nat.le_refl _) (own_base HS1.out.rs.1)
      have HS5 : Hid (ST w5 w.heap.size w.heap.size v5 (F (j + 1))) := by unfold Hid; rw [HN.out]; exact s5
      clear ca s5 u5
      go_wp2
      go_roundw
      case rel => exact ⟨j + 1, v5, by omega, by go_num, HS5.out, BB5.out⟩
      case measure => simp [intOf]; omega
    · obtain rfl : j = n := by omega
      have lt2 : ¬ (j : Int) < (j : Int) := by omega
      have HR : Hid (ST wr w.heap.size w.heap.size vv C) := by unfold Hid; rw [← HFN.out]; exact HS.out
      clear HS HFN
      go_wp2
      go_ret
      exact ⟨rfl, ⟨_, HR.out⟩, HB.out⟩
set_option maxHeartbeats 2000000 in
theorem check_any (w : World) (u : Value) (l : List Sp) (hu : SSp w u l) (hl : l.length ≤ 100000) :
    Calls Tryz.prog 48 #[u] w fun e w' => e = .returned (.int .i64 (chkL l)) ∧ Below w.heap.size w w' := by
  obtain ⟨a, c, rfl, -, -, -⟩ := id hu.shape
  by_cases h64 : 64 < l.length
  · have e1 : chkL l = 5 := by unfold chkL; rw [if_pos h64]
    have t0 : (64 : Int) < (l.length : Int) := by omega
    rw [e1]
    clear hu e1
    generalize l.length = n at *
    go_enter Tryz.func48, Tryz.ntmps48
    go_wp2
    go_ret
    exact ⟨rfl, Below.refl _ _⟩
  · have t0 : ¬ (64 : Int) < (l.length : Int) := by omega
    by_cases hz : l = []
    · have e1 : chkL l = 4 := by unfold chkL; rw [if_neg h64, if_pos (.inl hz)]
      have t1 : ((l.length : Int) == 0) = true := by rw [hz]; rfl
      rw [e1]
      clear hu e1 hz
      generalize l.length = n at *
      go_enter Tryz.func48, Tryz.ntmps48
      go_wp2
      go_ret
      exact ⟨rfl, Below.refl _ _⟩
    · have t1 : ((l.length : Int) == 0) = false := by have := List.length_pos_iff.2 hz; simp; omega
      have hs := setOf_any w _ l hu (by omega)
      have HLL : Hid ((setL l).length ≤ 64) := Nat.le_trans setL_len (by omega)
      have HU : Hid (SSp w (.slice a l.length c) l) := hu
      have HR : Hid (chkL l = if setL l = l then 0 else 4) := by
        unfold Hid chkL
        rw [if_neg h64]
        by_cases q : setL l = l
        · rw [if_pos q, if_neg (fun e => e.elim hz (fun e => e q))]
        · rw [if_neg q, if_pos (.inr q)]
      clear hu hz h64
      generalize chkL l = R at *
      generalize setL l = C at *
      obtain ⟨n, hn⟩ : ∃ n, n = l.length := ⟨_, rfl⟩
      rw [← hn] at t0 t1 hs HU hl ⊢
      have HNL : Hid (n = l.length) := hn
      clear hn
      go_enter Tryz.func48, Tryz.ntmps48
      go_wp2_with fail
      refine hs.mono ?_
      rintro e w1 ⟨v1, rfl, s1, b1⟩
      have HB1 : Hid (Below w.heap.size w w1) := b1
      have cs := spans_any w1 _ C s1.sqA
      have HU1 : Hid (SSp w1 (.slice a n c) l) := HU.out.kept b1
      clear hs s1 b1
      go_wp2_with fail
      refine cs.mono ?_
      rintro e w2 ⟨v2, rfl, r2, b2⟩
      have HB2 : Hid (Below w.heap.size w w2) := HB1.out.trans (b2.mono HB1.out.size)
      have ce := equalS_any w2 v2 (.slice a n c) C l r2.is (HU1.out.kept b2) (by have := HLL.out; omega)
      obtain ⟨a2, c2, rfl, -, -, -⟩ := r2.is.shape
      clear cs r2 b2
      by_cases q : C = l
      · have HR2 : Hid (R = 0) := by unfold Hid; rw [HR.out, if_pos q]
        rw [decide_eq_true q] at ce
        clear HR q
        generalize C.length = n2 at *
        go_wp2_with fail
        refine ce.mono ?_
        rintro e w3 ⟨rfl, b3⟩
        have HB3 : Hid (Below w.heap.size w w3) := HB2.out.trans (b3.mono HB2.out.size)
        clear ce b3
        go_wp2
        go_ret
        exact ⟨by rw [HR2.out]; rfl, HB3.out⟩
      · have HR2 : Hid (R = 4) := by unfold Hid; rw [HR.out, if_neg q]
        rw [decide_eq_false q] at ce
        clear HR q
        generalize C.length = n2 at *
        go_wp2_with fail
        refine ce.mono ?_
        rintro e w3 ⟨rfl, b3⟩
        have HB3 : Hid (Below w.heap.size w w3) := HB2.out.trans (b3.mono HB2.out.size)
        clear ce b3
        go_wp2
        go_ret
        exact ⟨by rw [HR2.out]; rfl, HB3.out⟩
end Go.Proofs.YtiollhmbdhepkaaGreatDoor
namespace Go.Proofs.YtiollhmbdhepkaaGreatDoor
open Go.RowKit Go.Shelf
set_option maxRecDepth 100000

theorem Ow.keep {W W' : World} {B : Nat} {v : Value} {X : List Int} (h : Ow W B v X) (hk : ∀ (k : Nat) (cs : Array Value), v.ownBlock = some k → W.heap[k]? = some (.cells cs 5 (0, 0)) → W'.heap[k]? = some (.cells cs 5 (0, 0))) : Ow W' B v X := ⟨rs_keep h.1 hk, h.2⟩
/-- Parts, by the values in their row. -/
def PV (w : World) (B : Nat) (v : Value) (V : List Value) (ZZ : List (List Int)) : Prop := w.ownsRow B 34 1 v ZZ.length V ∧ ∀ i, i < ZZ.length → ∃ u, V[i]? = some u ∧ Ow w B u (ZZ.getD i [])
theorem PV.lp {w : World} {B : Nat} {v : Value} {V : List Value} {ZZ : List (List Int)} (h : PV w B v V ZZ) : LP w B v ZZ := ⟨V, h.1, h.2⟩
theorem PV.keep {W W' : World} {B : Nat} {v : Value} {V : List Value} {ZZ : List (List Int)} (h : PV W B v V ZZ) (hk : ∀ (k : Nat) (cs : Array Value) (t : TypeId), (t = 34 ∨ t = 5) → W.heap[k]? = some (.cells cs t (0, 0)) → W'.heap[k]? = some (.cells cs t (0, 0))) : PV W' B v V ZZ :=
  ⟨rs_keep h.1 (fun k cs _ hh => hk k cs _ (.inl rfl) hh), fun i hi => by
    obtain ⟨u, h1, h2⟩ := h.2 i hi
    exact ⟨u, h1, h2.keep (fun k cs _ hh => hk k cs _ (.inr rfl) hh)⟩⟩
theorem PV.below {W W' : World} {B : Nat} {v : Value} {V : List Value} {ZZ : List (List Int)} (h : PV W B v V ZZ) (hb : Below W.heap.size W W') : PV W' B v V ZZ := h.keep fun _ _ _ _ hh => blk_kept hh hb (blk_lt hh)
theorem PV.two {w : World} {B : Nat} {u1 u2 : Value} {X1 X2 : List Int} (h1 : Ow w B u1 X1) (h2 : Ow w B u2 X2) (hB : B ≤ w.heap.size) : PV (w.alloc (.cells #[u1, u2] 34)) B (.slice (some ⟨w.heap.size, 0, none⟩) 2 2) [u1, u2] [X1, X2] := by
  refine ⟨⟨rfl, .inr ⟨w.heap.size, 2, #[u1, u2], rfl, hB, heap_alloc_new _ _, Nat.le_refl _, by unfold maxLen; omega, rfl, rfl⟩⟩, fun i hi => ?_⟩
  rcases (show i = 0 ∨ i = 1 by simp at hi; omega) with rfl | rfl
  · exact ⟨u1, rfl, h1.below (al_below _ _)⟩
  · exact ⟨u2, rfl, h2.below (al_below _ _)⟩
/-- A variable that holds parts. -/
def PB (W : World) (k N : Nat) (vv : Value) (V : List Value) (ZZ : List (List Int)) : Prop := W.heap[k]? = some (.cells #[vv] 100 (0, 0)) ∧ PV W N vv V ZZ
theorem PB.below {W W' : World} {k N : Nat} {vv : Value} {V : List Value} {ZZ : List (List Int)} (h : PB W k N vv V ZZ) (hb : Below W.heap.size W W') : PB W' k N vv V ZZ := ⟨blk_kept h.1 hb (blk_lt h.1), h.2.below hb⟩
theorem PB.cell {W : World} {k N : Nat} {vv : Value} {V : List Value} {ZZ : List (List Int)} (h : PB W k N vv V ZZ) : W.cell? ⟨k, 0, none⟩ = some vv := by have := h.1; simp [World.cell?, this]
/-- What a part that is laid behind keeps. -/
structure Kq (N k : Nat) (W W' : World) : Prop where
  oth : KeepsOthers W W'
  os : W'.os = W.os
  tape : W'.tape = W.tape
  output : W'.output = W.output
  low : ∀ j, j < N → W'.heap[j]? = W.heap[j]?
  cel : ∀ (j : Nat) (cs : Array Value) (t : TypeId) (fr : Nat × Nat), j ≠ k → t ≠ 34 → W.heap[j]? = some (.cells cs t fr) → W'.heap[j]? = some (.cells cs t fr)
theorem Kq.refl (N k : Nat) (W : World) : Kq N k W W := ⟨KeepsOthers.refl _, rfl, rfl, rfl, fun _ _ => rfl, fun _ _ _ _ _ _ h => h⟩
theorem Kq.trans {N k : Nat} {A B C : World} (h : Kq N k A B) (h' : Kq N k B C) : Kq N k A C := ⟨h.oth.trans h'.oth, h'.os.trans h.os, h'.tape.trans h.tape, h'.output.trans h.output, fun j hj => (h'.low j hj).trans (h.low j hj), fun j cs t fr a b c => h'.cel j cs t fr a b (h.cel j cs t fr a b c)⟩
theorem Kq.of {N k : Nat} {A B : World} (h : Below A.heap.size A B) (hN : N ≤ A.heap.size) : Kq N k A B := ⟨keeps_below h, h.os, h.tape, h.output, fun j hj => h.block j (by omega), fun j cs t fr _ _ hh => blk_kept hh h (blk_lt hh)⟩
theorem Kq.bel {N k n : Nat} {w A B : World} (h : Kq N k A B) (hn : n ≤ N) (hb : Below n w A) : Below n w B := hb.trans ⟨h.os, h.tape, h.output, h.oth.size, fun j hj => h.low j (by omega)⟩
theorem Kq.drew (N k : Nat) (W : World) : Kq N k W W.drew := ⟨KeepsOthers.drew W, rfl, rfl, rfl, fun _ _ => rfl, fun _ _ _ _ _ _ h => h⟩
end Go.Proofs.YtiollhmbdhepkaaGreatDoor
namespace Go.Proofs.YtiollhmbdhepkaaGreatDoor
open Go.RowKit Go.Shelf
set_option maxRecDepth 100000

/-- All that was there but a block stays. -/
structure Bt (g : Nat) (w w' : World) : Prop where
  os : w'.os = w.os
  tape : w'.tape = w.tape
  output : w'.output = w.output
  size : w.heap.size ≤ w'.heap.size
  block : ∀ k, k < w.heap.size → k ≠ g → w'.heap[k]? = w.heap[k]?
theorem Bt.refl (g : Nat) (w : World) : Bt g w w := ⟨rfl, rfl, rfl, Nat.le_refl _, fun _ _ _ => rfl⟩
theorem Bt.trans {g : Nat} {a b c : World} (h : Bt g a b) (k : Bt g b c) : Bt g a c :=
  ⟨k.os.trans h.os, k.tape.trans h.tape, k.output.trans h.output, Nat.le_trans h.size k.size, fun i hi hn => (k.block i (Nat.lt_of_lt_of_le hi h.size) hn).trans (h.block i hi hn)⟩
theorem Bt.of {g : Nat} {w w' : World} (h : Below w.heap.size w w') : Bt g w w' := ⟨h.os, h.tape, h.output, h.size, fun k hk _ => h.block k hk⟩
theorem Bt.off {g : Nat} {w w' : World} (h : Fi.Off g w w') : Bt g w w' := ⟨h.os, h.tape, h.output, Nat.le_of_eq h.size.symm, fun k _ hn => h.block k hn⟩
theorem Bt.below {g n : Nat} {w a b : World} (h : Bt g a b) (hb : Below n w a) (hn : n ≤ g) (hs : n ≤ a.heap.size) : Below n w b := hb.trans ⟨h.os, h.tape, h.output, h.size, fun k hk => h.block k (by omega) (by omega)⟩
theorem RSp.bt {w w' : World} {B g : Nat} {v : Value} {l : List Sp} (h : RSp w B v l) (hb : Bt g w w') (hg : v.ownBlock ≠ some g) : RSp w' B v l := h.keep fun k _ hk hh => (hb.block k (blk_lt hh) (fun e => hg (e ▸ hk))).trans hh
end Go.Proofs.YtiollhmbdhepkaaGreatDoor
namespace Go.Proofs.YtiollhmbdhepkaaGreatDoor.Sh
open Go.RowKit
set_option maxRecDepth 100000

/-- The two tables, as the walks read them. -/
def Tab (w : World) : Prop := (∀ i, i < 8 → w.cell? ⟨2, i, none⟩ = some (.int .u32 ((Pl.words Pl.init).getD i 0 : Nat))) ∧ (∀ i, i < 64 → w.cell? ⟨3, i, none⟩ = some (.int .u32 (Pl.K.getD i 0 : Nat)))
theorem Tab.below {w w' : World} {B : Nat} (h : Tab w) (hb : Below B w w') (hB : 4 ≤ B) : Tab w' :=
  ⟨fun i hi => (hb.cell (p := ⟨2, i, none⟩) (show 2 < B by omega)).trans (h.1 i hi), fun i hi => (hb.cell (p := ⟨3, i, none⟩) (show 3 < B by omega)).trans (h.2 i hi)⟩
theorem Tab.size {w : World} (h : Tab w) : 4 ≤ w.heap.size := World.block_lt_of_cell? _ _ (h.2 0 (by omega))

/-- All but block g is as it was. -/
structure But (g : Nat) (w w' : World) : Prop where
  os : w'.os = w.os
  tape : w'.tape = w.tape
  output : w'.output = w.output
  size : w.heap.size ≤ w'.heap.size
  block : ∀ k, k < w.heap.size → k ≠ g → w'.heap[k]? = w.heap[k]?

theorem But.refl (g : Nat) (w : World) : But g w w := ⟨rfl, rfl, rfl, Nat.le_refl _, fun _ _ _ => rfl⟩
theorem But.trans {g : Nat} {a b c : World} (h : But g a b) (k : But g b c) : But g a c :=
  ⟨k.os.trans h.os, k.tape.trans h.tape, k.output.trans h.output, Nat.le_trans h.size k.size, fun i hi hn => (k.block i (Nat.lt_of_lt_of_le hi h.size) hn).trans (h.block i hi hn)⟩
theorem But.of {g : Nat} {w w' : World} (h : Below w.heap.size w w') : But g w w' := ⟨h.os, h.tape, h.output, h.size, fun k hk _ => h.block k hk⟩
theorem But.set (g i : Nat) (w : World) (v : Value) : But g w (w.setCell ⟨g, i, none⟩ v) :=
  ⟨rfl, rfl, rfl, by simp [World.setCell], fun k _ hn => heap_setCell_other _ _ _ _ hn⟩
theorem But.cells (g : Nat) : ∀ (vs : List Value) (o : Nat) (w : World), But g w (w.setCells g o vs)
  | [], _, w => But.refl g w
  | v :: r, o, w => (But.set g o w v).trans (But.cells g r (o + 1) _)
theorem But.below {g B : Nat} {w w' : World} (h : But g w w') (hB : B ≤ g) (hw : B ≤ w.heap.size) : Below B w w' :=
  ⟨h.os, h.tape, h.output, h.size, fun k hk => h.block k (by omega) (by omega)⟩
theorem But.drew {g : Nat} {w w' : World} (h : But g w w') : But g w w'.drew := ⟨h.os, h.tape, h.output, h.size, h.block⟩
theorem But.cell {g : Nat} {w w' : World} (h : But g w w') {p : Addr} (hp : p.block < w.heap.size) (hn : p.block ≠ g) : w'.cell? p = w.cell? p := World.cell?_of_block (w := w) (h.block p.block hp hn)
theorem Tab.but {w w' : World} {g : Nat} (h : Tab w) (hb : But g w w') (hg : 4 ≤ g) : Tab w' :=
  ⟨fun i hi => (hb.cell (p := ⟨2, i, none⟩) (show 2 < _ by have := h.size; omega) (show 2 ≠ g by omega)).trans (h.1 i hi),
   fun i hi => (hb.cell (p := ⟨3, i, none⟩) (show 3 < _ by have := h.size; omega) (show 3 ≠ g by omega)).trans (h.2 i hi)⟩
theorem _root_.Go.Proofs.YtiollhmbdhepkaaGreatDoor.Sl.but {w w' : World} {v : Value} {xs : List Int} {g : Nat} (h : Sl w v xs) (hb : But g w w') (hn : ∀ a l c, v = .slice (some a) l c → 0 < l → a.block ≠ g) : Sl w' v xs := by
  obtain ⟨a, cap, rfl, h1, h2, h3, h4⟩ := h
  refine ⟨a, cap, rfl, h1, h2, h3, ?_⟩
  rcases h4 with h4 | ⟨hp, b, off, rfl, hlc, hm, hc, hz⟩
  · exact .inl h4
  · have hbn : b ≠ g := hn _ _ _ rfl hp
    exact .inr ⟨hp, b, off, rfl, hlc, hm, fun i hi => (hb.cell (p := ⟨b, off + i, Option.none⟩) (World.block_lt_of_cell? _ _ (hc i hi)) hbn).trans (hc i hi), hz⟩

/-- A hasher's cells. -/
def hlist (S : List Nat) (R : List Int) (n : Nat) : List Value := (S.map fun (k : Nat) => Value.int .u32 (k : Int)) ++ (R.map (Value.int .u8) ++ [.int .i64 n])
def Hs (w : World) (g : Nat) (S : List Nat) (R : List Int) (n : Nat) : Prop := w.heap[g]? = some (.cells (hlist S R n).toArray 209 (0, 0)) ∧ S.length = 8 ∧ R.length = 64

theorem Hs.frozen {w : World} {g : Nat} {S : List Nat} {R : List Int} {n : Nat} (h : Hs w g S R n) (i : Nat) : w.frozen? ⟨g, i, none⟩ = false := frozen_of_row _ _ _ _ _ h.1
theorem Hs.word {w : World} {g : Nat} {S : List Nat} {R : List Int} {n : Nat} (h : Hs w g S R n) (i : Nat) (hi : i < 8) : w.cell? ⟨g, i, none⟩ = some (.int .u32 (S.getD i 0 : Nat)) := by
  obtain ⟨h1, h2, h3⟩ := h
  rw [cell_of_row _ _ _ _ _ _ h1]
  have : i < S.length := by omega
  simp [hlist, List.getElem?_append_left, this, List.getD]
theorem Hs.rest {w : World} {g : Nat} {S : List Nat} {R : List Int} {n : Nat} (h : Hs w g S R n) (i : Nat) (hi : i < 64) : w.cell? ⟨g, 8 + i, none⟩ = some (.int .u8 (R.getD i 0)) := by
  obtain ⟨h1, h2, h3⟩ := h
  rw [cell_of_row _ _ _ _ _ _ h1]
  have : i < R.length := by omega
  simp only [hlist, List.getElem?_toArray]
  rw [List.getElem?_append_right (by simp; omega), List.getElem?_append_left (by simp; omega)]
  simp [h2, List.getElem?_eq_getElem this, List.getD]
theorem Hs.num {w : World} {g : Nat} {S : List Nat} {R : List Int} {n : Nat} (h : Hs w g S R n) : w.cell? ⟨g, 72, none⟩ = some (.int .i64 n) := by
  obtain ⟨h1, h2, h3⟩ := h
  rw [cell_of_row _ _ _ _ _ _ h1]
  simp only [hlist, List.getElem?_toArray]
  rw [List.getElem?_append_right (by simp; omega), List.getElem?_append_right (by simp; omega)]
  simp [h2, h3]
theorem Hs.lt {w : World} {g : Nat} {S : List Nat} {R : List Int} {n : Nat} (h : Hs w g S R n) : g < w.heap.size := World.block_lt_of_cell? _ _ h.num
theorem Hs.below {w w' : World} {B g : Nat} {S : List Nat} {R : List Int} {n : Nat} (h : Hs w g S R n) (hb : Below B w w') (hB : g < B) : Hs w' g S R n := ⟨(hb.block g hB).trans h.1, h.2⟩
theorem Hs.kept {w w' : World} {g : Nat} {S : List Nat} {R : List Int} {n : Nat} (h : Hs w g S R n) (hb : Below w.heap.size w w') : Hs w' g S R n := h.below hb h.lt
theorem Hs.but {w w' : World} {f g : Nat} {S : List Nat} {R : List Int} {n : Nat} (h : Hs w g S R n) (hb : But f w w') (hB : g ≠ f) : Hs w' g S R n := ⟨(hb.block g h.lt hB).trans h.1, h.2⟩
theorem Hs.drew {w : World} {g : Nat} {S : List Nat} {R : List Int} {n : Nat} (h : Hs w g S R n) : Hs w.drew g S R n := h

theorem Hs.setWord {w : World} {g : Nat} {S : List Nat} {R : List Int} {n : Nat} (h : Hs w g S R n) (i : Nat) (hi : i < 8) (k : Nat) : Hs (w.setCell ⟨g, i, none⟩ (.int .u32 (k : Int))) g (S.set i k) R n := by
  obtain ⟨h1, h2, h3⟩ := h
  refine ⟨?_, by simpa using h2, h3⟩
  rw [heap_setCell_same _ _ _ _ _ _ h1]
  congr 2
  apply Array.ext'
  simp only [hlist, List.setIfInBounds_toArray]
  rw [List.set_append_left _ _ (by simp; omega), List.map_set]
theorem Hs.setNum {w : World} {g : Nat} {S : List Nat} {R : List Int} {n : Nat} (h : Hs w g S R n) (k : Nat) : Hs (w.setCell ⟨g, 72, none⟩ (.int .i64 (k : Int))) g S R k := by
  obtain ⟨h1, h2, h3⟩ := h
  refine ⟨?_, h2, h3⟩
  rw [heap_setCell_same _ _ _ _ _ _ h1]
  congr 2
  apply Array.ext'
  simp only [hlist, List.setIfInBounds_toArray]
  rw [List.set_append_right _ _ (by simp; omega), List.set_append_right _ _ (by simp; omega)]
  simp [h2, h3]
theorem Hs.setByte {w : World} {g : Nat} {S : List Nat} {R : List Int} {n : Nat} (h : Hs w g S R n) (i : Nat) (hi : i < 64) (z : Int) : Hs (w.setCell ⟨g, 8 + i, none⟩ (.int .u8 z)) g S (R.set i z) n := by
  obtain ⟨h1, h2, h3⟩ := h
  refine ⟨?_, h2, by simpa using h3⟩
  rw [heap_setCell_same _ _ _ _ _ _ h1]
  congr 2
  apply Array.ext'
  simp only [hlist, List.setIfInBounds_toArray]
  rw [List.set_append_right _ _ (by simp; omega), List.set_append_left _ _ (by simp; omega), List.map_set]
  simp [h2]
/-- Bytes laid over others. -/
def over : List Int → Nat → List Int → List Int
  | R, _, [] => R
  | R, i, z :: r => over (R.set i z) (i + 1) r
theorem Hs.setBytes {g : Nat} {S : List Nat} {n : Nat} : ∀ (zs : List Int) (i : Nat) (w : World) (R : List Int), Hs w g S R n → i + zs.length ≤ 64 → Hs (w.setCells g (8 + i) (zs.map (Value.int .u8))) g S (over R i zs) n
  | [], _, _, _, h, _ => h
  | z :: r, i, w, R, h, hl => by
    have hl' : i + (r.length + 1) ≤ 64 := by simpa using hl
    show Hs ((w.setCell ⟨g, 8 + i, none⟩ (.int .u8 z)).setCells g (8 + i + 1) (r.map (Value.int .u8))) g S (over (R.set i z) (i + 1) r) n
    exact Hs.setBytes r (i + 1) _ _ (h.setByte i (by omega) z) (by omega)
theorem over_len : ∀ (zs : List Int) (R : List Int) (i : Nat), (over R i zs).length = R.length
  | [], _, _ => rfl
  | z :: r, R, i => by show (over (R.set i z) (i + 1) r).length = _; rw [over_len r]; simp
theorem over_get : ∀ (zs : List Int) (R : List Int) (i : Nat) (k : Nat), i + zs.length ≤ R.length → (over R i zs).getD k 0 = if i ≤ k ∧ k < i + zs.length then zs.getD (k - i) 0 else R.getD k 0
  | [], R, i, k, _ => by rw [if_neg (by simp)]; rfl
  | z :: r, R, i, k, h => by
    have h' : i + (r.length + 1) ≤ R.length := by simpa using h
    show (over (R.set i z) (i + 1) r).getD k 0 = _
    rw [over_get r _ _ _ (by simp; omega)]
    have hl : (z :: r).length = r.length + 1 := rfl
    rw [hl]
    by_cases h1 : i + 1 ≤ k ∧ k < i + 1 + r.length
    · rw [if_pos h1, if_pos (by omega)]
      rw [show k - i = (k - (i + 1)) + 1 by omega]
      simp [List.getD]
    · rw [if_neg h1]
      by_cases h2 : k = i
      · subst h2
        rw [if_pos (by omega)]
        simp [List.getD]
        rw [List.getElem?_set_self (by omega)]
        simp
      · rw [if_neg (by omega)]
        simp [List.getD, List.getElem?_set_ne (show i ≠ k by omega)]
end Go.Proofs.YtiollhmbdhepkaaGreatDoor.Sh
namespace Go.Proofs.YtiollhmbdhepkaaGreatDoor.Sh
open Go.RowKit
set_option maxRecDepth 100000

theorem size47 : (Tryz.prog.info? 192).map (fun i => i.size) = some 8 := by kernel_rfl
theorem size65 : (Tryz.prog.info? 209).map (fun i => i.size) = some 73 := by kernel_rfl
theorem size26 : (Tryz.prog.info? 47).map (fun i => i.size) = some 32 := by kernel_rfl

def hz : Array Value := (hlist (List.replicate 8 0) (List.replicate 64 0) 0).toArray
theorem zero65 : ∀ w, (zeroValue 209).run Tryz.prog w = .ok (.agg hz) w := (zero_of_info (P := Tryz.prog) (t := 209) (v := .agg hz) (n := 73) (by kernel_rfl)).1
def h0 : Array Value := (hlist (Pl.words Pl.init) (List.replicate 64 0) 0).toArray
def i8 : Array Value := ((Pl.words Pl.init).map fun (n : Nat) => Value.int .u32 (n : Int)).toArray
theorem built65 : Tryz.prog.built 209 [(0, .agg i8)] = some h0 := by kernel_rfl
theorem size_hz : hz.size = 73 := by kernel_rfl

theorem range_words {w : World} {b : Nat} {S : List Nat} (h : ∀ i, i < S.length → w.cell? ⟨b, i, none⟩ = some (.int .u32 (S.getD i 0 : Nat))) : w.rangeAt b 0 (S.map fun (n : Nat) => Value.int .u32 (n : Int)) := by
  intro j v hv
  have hj : j < S.length := by
    have := (List.getElem?_eq_some_iff.1 hv).1
    simpa using this
  rw [Nat.zero_add, h j hj]
  rw [List.getElem?_map, List.getElem?_eq_getElem hj] at hv
  simp only [Option.map_some, Option.some.injEq] at hv
  rw [← hv]
  simp [List.getD, List.getElem?_eq_getElem hj]

set_option maxHeartbeats 1000000 in
set_option maxRecDepth 100000 in
theorem new_any (w : World) (ht : Tab w) :
    Calls Tryz.prog 134 #[] w fun e w' => e = .returned (.pointer (some ⟨w.heap.size, 0, none⟩)) ∧ Hs w' w.heap.size (Pl.words Pl.init) (List.replicate 64 0) 0 ∧ Below w.heap.size w w' := by
  have hr := range_words (b := 2) (S := Pl.words Pl.init) (fun i hi => ht.1 i hi)
  have HR : Hid (w.rangeAt 2 0 ((Pl.words Pl.init).map fun (n : Nat) => Value.int .u32 (n : Int))) := hr
  clear hr ht
  go_enter Tryz.func134, Tryz.ntmps134
  go_wp2_with (refine wpList_load_mid rfl 192 _ rfl 2 0 rfl ((Pl.words Pl.init).map fun (n : Nat) => Value.int .u32 (n : Int)) _ HR.out Tryz.underlying192 rfl size47 (Hid.out ?_))
  unfold Hid
  refine wpList_build rfl 209 _ rfl ?_ ?_
  · simp only [List.map_toArray, List.map_cons, List.map_nil]
    change (Tryz.prog.built 209 [(0, .agg i8)]).isSome = true
    rw [built65]; rfl
  simp only [List.map_toArray, List.map_cons, List.map_nil]
  change wpList _ _ _ _ (Act.put _ _ (.agg ((Tryz.prog.built 209 [(0, .agg i8)]).getD #[]))) _
  rw [built65]
  change wpList _ _ _ _ (Act.put _ _ (.agg h0)) _
  go_wp2
  go_ret
  exact ⟨rfl, ⟨heap_alloc_new _ _, rfl, rfl⟩, (Below.refl _ _).alloc (Nat.le_refl _) _⟩

theorem hlist_len (S : List Nat) (R : List Int) (n : Nat) : (hlist S R n).length = S.length + R.length + 1 := by simp [hlist]; omega
theorem hlist_one (S : List Nat) (R : List Int) (n : Nat) : (hlist S R n).toArray.all (·.oneCell') = true := by
  refine all_oneCell_toArray ?_
  intro v hv
  simp only [hlist, List.mem_append, List.mem_map, List.mem_singleton] at hv
  rcases hv with ⟨_, _, rfl⟩ | ⟨_, _, rfl⟩ | rfl <;> rfl

set_option maxHeartbeats 1000000 in
set_option maxRecDepth 100000 in
theorem fork_any (G : Nat) (S : List Nat) (R : List Int) (n : Nat) (w : World) (hh : Hs w G S R n) :
    Calls Tryz.prog 151 #[.pointer (some ⟨G, 0, none⟩)] w fun e w' => e = .returned (.pointer (some ⟨w.heap.size, 0, none⟩)) ∧ Hs w' w.heap.size S R n ∧ Below w.heap.size w w' := by
  have HH : Hid (Hs w G S R n) := hh
  have HI : Hid ((Tryz.prog.info? 209).map (·.size) = some (hlist S R n).toArray.size) := by unfold Hid; rw [List.size_toArray, hlist_len, hh.2.1, hh.2.2]; exact size65
  have z65 := zero65
  have HS : Hid ((hlist S R n).toArray.size = 73) := by unfold Hid; rw [List.size_toArray, hlist_len, hh.2.1, hh.2.2]
  clear hh
  go_enter Tryz.func151, Tryz.ntmps151
  go_wp2_with (first
    | refine wpList_load_row rfl 209 _ rfl G rfl 209 (hlist S R n).toArray (0, 0) _ HH.out.1 Tryz.underlying209 rfl HI.out ?_
    | (refine wpList_store_row rfl 209 _ _ rfl w.heap.size (hlist S R n).toArray rfl rfl 209 _ (heap_alloc_new _ _) HI.out (by rw [HS.out, size_hz]) (hlist_one S R n) ?_; rw [World.setRow_alloc_new]))
  go_ret
  exact ⟨rfl, ⟨heap_alloc_new _ _, HH.out.2⟩, (Below.refl _ _).alloc (Nat.le_refl _) _⟩
end Go.Proofs.YtiollhmbdhepkaaGreatDoor.Sh
