/-
  A Stream has as many bytes as Size tells, whatever it is: put, it has them; with a byte of text more it has one more, or two where the text's length needs more room; condition: a text of at most 1099 bytes, the tables of widths and of shapes as the program lays them.
-/
import Derived.Test.YtjjjomikgpnahaaDoorPkO
import Derived.Test.YtjjjomikgpnahaaDoorPkO
import Derived.Test.YtjjjomikgpnahaaDoorPkO
namespace Go.Proofs.YtjjjomikgpnahaaDoor.frameSizes
open Go.ChangeShapes Go.WideShapes Go.ChangeAt Go.RowKit Go.Deep Go.ChangeMaps
set_option maxRecDepth 100000

set_option maxHeartbeats 8000000 in
theorem walk (id : Int) (v1 : Value) (L1 : Int × Int) (s : ByteArray) (w : World) (ht : Tb w) (h0 : (Lit.int .i64 id).wf = true) (h1 : v1 = .agg #[.int .i64 L1.1, .int .i64 L1.2] ∧ (Lit.int .i64 L1.1).wf = true ∧ (Lit.int .i64 L1.2).wf = true) (h2 : s.size ≤ maxLen) :
    Calls Tryd.prog 4 #[.int .i64 id, v1, .string s] w fun e w' => e = .returned (.bool true) ∧ Below w.heap.size w w' := by
  obtain ⟨off, fl⟩ := L1
  obtain ⟨rfl, ho, _⟩ := h1
  simp only at ho ⊢
  have bi : i64B id := bounds_i64 h0
  have bo : i64B off := bounds_i64 ho
  clear h0 ho
  obtain ⟨W1, hW1⟩ : ∃ W1, W1 = w.alloc (.cells #[.int .i64 off, .int .i64 fl] 44) := ⟨_, rfl⟩
  have b1 : Below w.heap.size w W1 := by rw [hW1]; exact al_below _ _
  obtain ⟨fin, hfin⟩ : ∃ fin, fin = (fl == 1) := ⟨_, rfl⟩
  obtain ⟨W2, hW2⟩ : ∃ W2, W2 = W1.alloc (.cells #[.int .i64 id, .int .i64 off, .bool fin, .string s] 46) := ⟨_, rfl⟩
  have b2 : Below W1.heap.size W1 W2 := by rw [hW2]; exact al_below _ _
  have g2 : W2.heap[W1.heap.size]? = some (.cells #[.int .i64 id, .int .i64 off, .bool fin, .string s] 46 (0, 0)) := by rw [hW2]; exact heap_alloc_new _ _
  have HB2 : Hid (Below w.heap.size w W2) := b1.trans (b2.mono b1.size)
  have HT : Hid (Tb w) := ht
  have hz1 : W1.heap.size = w.heap.size + 1 := by rw [hW1]; simp
  rw [hz1] at g2
  have HZ : Hid (w.heap.size ≤ w.heap.size + 1) := Nat.le_succ _
  have HBI : Hid (i64B id) := bi
  have HBO : Hid (i64B off) := bo
  have hsz : s.size ≤ 9223372036854775807 := by unfold maxLen at h2; omega
  clear b1 b2 ht bi bo h2 hz1
  by_cases hs : 1099 < s.size
  · have t0 : (1099 : Int) < (s.size : Int) := by omega
    have ca := awake_any W2 (HT.out.next HB2.out)
    clear g2
    go_enter Tryd.func4, Tryd.ntmps4
    go_upto_region 3 with fail
    rw [← hfin, ← hW1, ← hW2]
    clear hW1 hW2 hfin
    go_wp2_with fail
    refine ca.mono ?_
    rintro e w3 ⟨rfl, b3⟩
    have HB3 : Hid (Below w.heap.size w w3) := HB2.out.trans (b3.mono HB2.out.size)
    clear ca b3
    go_wp2
    go_ret
    exact ⟨rfl, HB3.out⟩
  · have t0 : ¬ (1099 : Int) < (s.size : Int) := by omega
    have hs2 : s.size ≤ 1099 := by omega
    have HS : Hid (s.size ≤ 1099) := hs2
    have k0 : W2.cell? ⟨w.heap.size + 1, 0, none⟩ = some (.int .i64 id) := by simp [World.cell?, g2]
    have k1 : W2.cell? ⟨w.heap.size + 1, 1, none⟩ = some (.int .i64 off) := by simp [World.cell?, g2]
    have k2 : W2.cell? ⟨w.heap.size + 1, 2, none⟩ = some (.bool fin) := by simp [World.cell?, g2]
    have k3 : W2.cell? ⟨w.heap.size + 1, 3, none⟩ = some (.string s) := by simp [World.cell?, g2]
    have cp := putS_any id off fin s W2 (HT.out.next HB2.out) HBI.out HBO.out (by omega)
    have HAW : Hid (∀ W, Below w.heap.size w W → Calls Tryd.prog 5 #[] W fun e w' => e = .returned (.bool true) ∧ Below W.heap.size W w') := fun W hb => awake_any W (HT.out.next hb)
    have HSI : Hid (∀ W, Below w.heap.size w W → Calls Tryd.prog 11 #[.agg #[.int .i64 id, .int .i64 off, .bool fin, .string s]] W fun e w' => e = .returned (.int .i64 ((putR (strP id off fin s)).length : Nat)) ∧ Below W.heap.size W w') := fun W hb => sizeS_any id off fin s W (HT.out.next hb) HBI.out HBO.out (by have := HS.out; omega)
    obtain ⟨s2, hs2'⟩ : ∃ s2, s2 = s ++ ⟨#[120]⟩ := ⟨_, rfl⟩
    have hsz2 : s2.size = s.size + 1 := by rw [hs2', ByteArray.size_append]; rfl
    have HSZ2 : Hid (s2.size = s.size + 1) := hsz2
    have HSI2 : Hid (∀ W, Below w.heap.size w W → Calls Tryd.prog 11 #[.agg #[.int .i64 id, .int .i64 off, .bool fin, .string s2]] W fun e w' => e = .returned (.int .i64 ((putR (strP id off fin s2)).length : Nat)) ∧ Below W.heap.size W w') := fun W hb => sizeS_any id off fin s2 W (HT.out.next hb) HBI.out HBO.out (by have := HS.out; have := HSZ2.out; omega)
    have HQ : Hid (chkM (strP id off fin s) ≠ 0 → (putR (strP id off fin s)).length = 0) := fun h => by unfold putR; rw [if_neg h]; rfl
    have HQ2 : Hid (chkM (strP id off fin s) = 0 → (putR (strP id off fin s)).length ≤ 2000 ∧ 0 < (putR (strP id off fin s)).length ∧ (((putR (strP id off fin s2)).length = 0 ∧ 1099511626676 < off) ∨ (0 < (putR (strP id off fin s2)).length ∧ (putR (strP id off fin s2)).length = (putR (strP id off fin s)).length + (if s.size = 63 then 2 else 1)))) := fun h => by
      have hl := putS_len h (by have := HS.out; omega)
      obtain ⟨q1, q2, q3⟩ := strP_ok h
      have := HS.out
      have := HSZ2.out
      have n1 := numB_len8 id
      have n2 := numB_len8 off
      refine ⟨?_, ?_, ?_⟩
      · rw [hl]; split <;> omega
      · rw [hl]; split <;> omega
      · by_cases h3 : off + (s2.size : Int) ≤ 1099511627776
        · have hc2 : chkM (strP id off fin s2) = 0 := strP_chk q1 q2 h3 (by omega)
          have hl2 := putS_len hc2 (by omega)
          right
          rw [hl2, hl]
          constructor
          · split <;> omega
          · split <;> split <;> split <;> omega
        · left
          have hc2 : chkM (strP id off fin s2) ≠ 0 := fun h => by have := (strP_ok h).2.2; omega
          constructor
          · unfold putR; rw [if_neg hc2]; rfl
          · omega
    have HG2 : Hid (W2.heap[w.heap.size + 1]? = some (.cells #[.int .i64 id, .int .i64 off, .bool fin, .string s] 46 (0, 0))) := g2
    clear g2
    generalize putR (strP id off fin s) = P1 at *
    generalize putR (strP id off fin s2) = P2 at *
    generalize chkM (strP id off fin s) = C1 at *
    go_enter Tryd.func4, Tryd.ntmps4
    go_upto_region 3 with fail
    rw [← hfin, ← hW1, ← hW2]
    clear hW1 hW2 hfin
    go_wp2_with fail
    refine cp.mono ?_
    rintro e w3 ⟨v3, rfl, o3, b3⟩
    obtain ⟨va, vc, rfl⟩ := o3.shape
    have HB3 : Hid (Below w.heap.size w w3) := HB2.out.trans (b3.mono HB2.out.size)
    have Gw3 : Hid (w3.heap[w.heap.size + 1]? = some (.cells #[.int .i64 id, .int .i64 off, .bool fin, .string s] 46 (0, 0))) := blk_kept HG2.out b3 (blk_lt HG2.out)
    have HBw3 : Hid (Below w.heap.size w w3) := HB3.out
    clear cp o3 k0 k1 k2 k3 b3 HB3
    have l0 : w3.cell? ⟨w.heap.size + 1, 0, none⟩ = some (.int .i64 id) := by have := Gw3.out; simp [World.cell?, this]
    have l1 : w3.cell? ⟨w.heap.size + 1, 1, none⟩ = some (.int .i64 off) := by have := Gw3.out; simp [World.cell?, this]
    have l2 : w3.cell? ⟨w.heap.size + 1, 2, none⟩ = some (.bool fin) := by have := Gw3.out; simp [World.cell?, this]
    have l3 : w3.cell? ⟨w.heap.size + 1, 3, none⟩ = some (.string s) := by have := Gw3.out; simp [World.cell?, this]
    have cs := HSI.out w3 HBw3.out
    by_cases hc : C1 = 0
    · obtain ⟨a1, a2, a3⟩ := HQ2.out hc
      have H3 : Hid ((P2.length = 0 ∧ 1099511626676 < off) ∨ (0 < P2.length ∧ P2.length = P1.length + (if s.size = 63 then 2 else 1))) := a3
      have tc : (C1 != 0) = false := by rw [hc]; rfl
      clear hc HQ HQ2 a3
      obtain ⟨n1, hn1⟩ : ∃ n1, n1 = P1.length := ⟨_, rfl⟩
      obtain ⟨n2, hn2⟩ : ∃ n2, n2 = P2.length := ⟨_, rfl⟩
      have H4 : Hid ((n2 = 0 ∧ 1099511626676 < off) ∨ (0 < n2 ∧ n2 = n1 + (if s.size = 63 then 2 else 1))) := by rw [hn1, hn2]; exact H3.out
      rw [← hn1] at cs a1 a2 ⊢
      have HSJ2 : Hid (∀ W, Below w.heap.size w W → Calls Tryd.prog 11 #[.agg #[.int .i64 id, .int .i64 off, .bool fin, .string s2]] W fun e w' => e = .returned (.int .i64 (n2 : Nat)) ∧ Below W.heap.size W w') := fun W hb => by rw [hn2]; exact HSI2.out W hb
      clear H3 hn1 hn2 HSI HSI2
      go_wp2_with fail
      refine cs.mono ?_
      rintro e w4 ⟨rfl, b4⟩
      have Gw4 : Hid (w4.heap[w.heap.size + 1]? = some (.cells #[.int .i64 id, .int .i64 off, .bool fin, .string s] 46 (0, 0))) := blk_kept Gw3.out b4 (blk_lt Gw3.out)
      have HBw4 : Hid (Below w.heap.size w w4) := HBw3.out.trans (b4.mono HBw3.out.size)
      clear cs b4 l0 l1 l2 l3
      have l0 : w4.cell? ⟨w.heap.size + 1, 0, none⟩ = some (.int .i64 id) := by have := Gw4.out; simp [World.cell?, this]
      have l1 : w4.cell? ⟨w.heap.size + 1, 1, none⟩ = some (.int .i64 off) := by have := Gw4.out; simp [World.cell?, this]
      have l2 : w4.cell? ⟨w.heap.size + 1, 2, none⟩ = some (.bool fin) := by have := Gw4.out; simp [World.cell?, this]
      have l3 : w4.cell? ⟨w.heap.size + 1, 3, none⟩ = some (.string s) := by have := Gw4.out; simp [World.cell?, this]
      have lf : w4.frozen? ⟨w.heap.size + 1, 3, none⟩ = false := by have := Gw4.out; simp [World.frozen?, this]
      obtain ⟨w5, hw5⟩ : ∃ w5, w5 = w4.setCell ⟨w.heap.size + 1, 3, none⟩ (.string s2) := ⟨_, rfl⟩
      have Gw5 : Hid (w5.heap[w.heap.size + 1]? = some (.cells #[.int .i64 id, .int .i64 off, .bool fin, .string s2] 46 (0, 0))) := by unfold Hid; rw [hw5]; have := Gw4.out; simp [World.setCell, Array.getElem?_modify, this]
      have HBw5 : Hid (Below w.heap.size w w5) := by unfold Hid; rw [hw5]; exact HBw4.out.setCell HZ.out _
      go_upto_region 10 with fail
      rw [← hs2', ← hw5]
      clear hw5 l0 l1 l2 l3 lf Gw4 hs2' hsz2 hsz hs
      have l0 : w5.cell? ⟨w.heap.size + 1, 0, none⟩ = some (.int .i64 id) := by have := Gw5.out; simp [World.cell?, this]
      have l1 : w5.cell? ⟨w.heap.size + 1, 1, none⟩ = some (.int .i64 off) := by have := Gw5.out; simp [World.cell?, this]
      have l2 : w5.cell? ⟨w.heap.size + 1, 2, none⟩ = some (.bool fin) := by have := Gw5.out; simp [World.cell?, this]
      have l3 : w5.cell? ⟨w.heap.size + 1, 3, none⟩ = some (.string s2) := by have := Gw5.out; simp [World.cell?, this]
      have cs2 := HSJ2.out w5 HBw5.out
      go_wp2_with fail
      refine cs2.mono ?_
      rintro e w6 ⟨rfl, b6⟩
      have HBw6 : Hid (Below w.heap.size w w6) := HBw5.out.trans (b6.mono HBw5.out.size)
      clear cs2 b6 l0 l1 l2 l3 HSJ2
      rcases H4.out with ⟨q1, q2⟩ | ⟨q1, q2⟩
      · have tn : ((n2 : Int) == 0) = true := by rw [q1]; rfl
        have tp : decide (off > 1099511626676) = true := by simp; omega
        clear H4 q1
        have ca := HAW.out w6 HBw6.out
        go_wp2_with fail
        refine ca.mono ?_
        rintro e wz ⟨rfl, bz⟩
        have HBz : Hid (Below w.heap.size w wz) := HBw6.out.trans (bz.mono HBw6.out.size)
        clear ca bz
        go_wp2
        go_ret
        exact ⟨rfl, HBz.out⟩
      · have tn : ((n2 : Int) == 0) = false := by simp; omega
        have sw1 : IntKind.i64.wrap ((n1 : Int) + 1) = (n1 : Int) + 1 := by rw [IntKind.wrap_i64]; omega
        have sw2 : IntKind.i64.wrap ((n1 : Int) + 2) = (n1 : Int) + 2 := by rw [IntKind.wrap_i64]; omega
        by_cases h63 : s.size = 63
        · have t63 : ((s.size : Int) == 63) = true := by rw [h63]; rfl
          rw [if_pos h63] at q2
          have te : ((n2 : Int) == (n1 : Int) + 2) = true := by rw [q2]; simp
          clear H4 q1 q2 h63
          have ca := HAW.out w6 HBw6.out
          go_wp2_with fail
          refine ca.mono ?_
          rintro e wz ⟨rfl, bz⟩
          have HBz : Hid (Below w.heap.size w wz) := HBw6.out.trans (bz.mono HBw6.out.size)
          clear ca bz
          go_wp2
          go_ret
          exact ⟨rfl, HBz.out⟩
        · have t63 : ((s.size : Int) == 63) = false := by simp; omega
          rw [if_neg h63] at q2
          have te : ((n2 : Int) == (n1 : Int) + 1) = true := by rw [q2]; simp
          clear H4 q1 q2 h63
          have ca := HAW.out w6 HBw6.out
          go_wp2_with fail
          refine ca.mono ?_
          rintro e wz ⟨rfl, bz⟩
          have HBz : Hid (Below w.heap.size w wz) := HBw6.out.trans (bz.mono HBw6.out.size)
          clear ca bz
          go_wp2
          go_ret
          exact ⟨rfl, HBz.out⟩
    · have tc : (C1 != 0) = true := by simpa using hc
      have hp0 := HQ.out hc
      rw [hp0] at cs ⊢
      clear HQ HQ2 hc
      go_wp2_with fail
      refine cs.mono ?_
      rintro e w4 ⟨rfl, b4⟩
      have HBw4 : Hid (Below w.heap.size w w4) := HBw3.out.trans (b4.mono HBw3.out.size)
      clear cs b4 l0 l1 l2 l3
      have ca := HAW.out w4 HBw4.out
      go_wp2_with fail
      refine ca.mono ?_
      rintro e wz ⟨rfl, bz⟩
      have HBz : Hid (Below w.heap.size w wz) := HBw4.out.trans (bz.mono HBw4.out.size)
      clear ca bz
      go_wp2
      go_ret
      exact ⟨rfl, HBz.out⟩

theorem contract (H : Type) (enc : TypeId × Value → H) (W : World) (base : Nat) (args : Array Value) (ds gs : List (DataW H)) (before : List MemPlace)
    (hval : ∀ (j : Nat) t v, Tryd.f4.params[j]? = some t → args[j]? = some v → Value.okWide Tryd.prog W .any base t v)
    (hW : DataW.Whole enc Tryd.prog Tryd.f4.params.toList Rows.frameSizesSpec.vars false W args.toList ds gs before) (hL : laidMetH Tryd.prog Rows.frameSizesRow.laid W)
    (hsz0 : (DataW.weightsEach Tryd.prog (Tryd.f4.params.toList ++ Rows.frameSizesSpec.plain.varTypes Tryd.prog) (ds ++ gs)).all (· ≤ reachBytes) = true) :
    Calls Tryd.prog 4 args W fun e W' => ∃ v, e = .returned v ∧ Rows.frameSizesSpec.post enc Tryd.prog Tryd.f4 false true false false W args v W' := by
  have hW' := hW
  obtain ⟨p, q, hA0, hV, rfl, hfz, hnd⟩ := hW
  have hA : DataW.TrodAll enc Tryd.prog W 0 (fun _ => true) true Tryd.f4.params.toList args.toList ds p := hA0
  rw [Tryd.params4] at hA hval hsz0
  obtain ⟨v0, vs0, d0, ds0, p0, q0, hargs, rfl, rfl, h0, r0⟩ := trodAll_cons hA
  obtain ⟨v1, vs1, d1, ds1, p1, q1, rfl, rfl, rfl, h1, r1⟩ := trodAll_cons r0
  obtain ⟨v2, vs2, d2, ds2, p2, q2, rfl, rfl, rfl, h2, r2⟩ := trodAll_cons r1
  obtain ⟨rfl, rfl, rfl⟩ := trodAll_nil r2
  obtain rfl : args = #[v0, v1, v2] := by cases args; simp_all
  obtain ⟨rfl, rfl⟩ := trodVars_none hV
  obtain ⟨a0, rfl, rfl, rfl, w0⟩ := open_int Tryd.underlying3 (hval 0 3 v0 rfl rfl) h0
  have k1 := h1
  have lt1 : ∀ x ∈ p1, x.block < W.heap.size := by obtain ⟨m, hm⟩ := k1; exact DataW.trod_lt m _ _ _ hm
  obtain ⟨L1, w1⟩ := two_in (hval 1 44 v1 rfl rfl) h1
  obtain ⟨a2, rfl, rfl, rfl, w2⟩ := open_string Tryd.underlying9 (hval 2 9 v2 rfl rfl) h2
  clear hA0
  refine (walk a0 v1 L1 a2 W (tb_of hL) w0 w1 w2).mono fun e W' ⟨he, bel⟩ => ?_
  subst he
  exact ⟨_, rfl, _, _, _, [], _, [], hW', trodAll_mk1 (shut_bool Tryd.underlying4 _), (trodAll_cons_mk (shut_int Tryd.underlying3 w0) (trodAll_cons_mk (Below.trod laidOut (by kernel_rfl) (of_decide_eq_true (by kernel_rfl)) k1 bel lt1) (trodAll_cons_mk (shut_string Tryd.underlying9 w2) trodAll_mk0))), rfl, bel.frame _, fun h => by cases h⟩

theorem laid_met (os : Os) : laidMet Tryd.prog Rows.frameSizesRow.laid (({ World.holding Tryd.prog os ⟨#[], #[], []⟩ with heap := (((World.holding Tryd.prog os ⟨#[], #[], []⟩).heap.modify 0 (fun
      | .cells _ t frozen => .cells shpT t frozen
      | o => o)).modify 1 (fun
      | .cells _ t frozen => .cells widT t frozen
      | o => o)) } : World).forCall (fun _ _ => 0) ⟨#[], #[.int .i64 0, .agg #[.int .i64 0, .int .i64 0], .string ⟨#[]⟩], []⟩).memory :=
  laidMet_of_run' 8 (by kernel_rfl) (by kernel_rfl)
theorem reads (os : Os) {H : Type} (enc : TypeId × Value → H) : ∃ places, DataW.whole enc Tryd.prog (({ World.holding Tryd.prog os ⟨#[], #[], []⟩ with heap := (((World.holding Tryd.prog os ⟨#[], #[], []⟩).heap.modify 0 (fun
      | .cells _ t frozen => .cells shpT t frozen
      | o => o)).modify 1 (fun
      | .cells _ t frozen => .cells widT t frozen
      | o => o)) } : World).forCall (fun _ _ => 0) ⟨#[], #[.int .i64 0, .agg #[.int .i64 0, .int .i64 0], .string ⟨#[]⟩], []⟩).memory Tryd.f4.params.toList Rows.frameSizesSpec.vars false #[Value.int .i64 0, .agg #[.int .i64 0, .int .i64 0], .string ⟨#[]⟩].toList 8 = some ([.lit (.int .i64 0), .agg [.lit (.int .i64 0), .lit (.int .i64 0)], .lit (.string [])], [], places) :=
  ⟨[], by kernel_rfl⟩

set_option maxRecDepth 100000 in
theorem lifted (os : Os) (started : os.Started) (H : Type) (enc : TypeId × Value → H) (F : Stop.Interp) :
    ReturnsInHanded {} Tryd.checked os 4 .any ((OpenSpec.ofChange Rows.frameSizesSpec).preRow enc Tryd.prog Tryd.f4 Rows.frameSizesRow.domain false Rows.frameSizesRow.laid) (((OpenSpec.ofChange Rows.frameSizesSpec).at F).post enc Tryd.prog Tryd.f4 false true false false) := by
  obtain ⟨places, hx⟩ := reads os enc
  refine returnsInHanded_of_row (C := Tryd.checked) (s := OpenSpec.ofChange Rows.frameSizesSpec) own started (by kernel_rfl) Tryd.func4
    (witness_row_at (enc := enc) (C := Tryd.checked) false ({ World.holding Tryd.prog os ⟨#[], #[], []⟩ with heap := (((World.holding Tryd.prog os ⟨#[], #[], []⟩).heap.modify 0 (fun
      | .cells _ t frozen => .cells shpT t frozen
      | o => o)).modify 1 (fun
      | .cells _ t frozen => .cells widT t frozen
      | o => o)) } : World) #[.int .i64 0, .agg #[.int .i64 0, .int .i64 0], .string ⟨#[]⟩] rfl (by kernel_rfl) (by kernel_rfl) (by kernel_rfl)
      (OpenSpec.preRow_of_cond 8 hx (by kernel_rfl) (fun k hk => by cases hk) (by kernel_rfl) (laid_met os))) ?_
  intro W base args ds gs before hval hW _ _ hsz hL _ _
  exact contract H enc W base args ds gs before hval hW hL hsz

theorem said : Rows.FrameSizesSaid :=
  OpenClaim.holds_of_cond 4 Tryd.f4 rfl rfl rfl rfl rfl rfl rfl ⟨rfl, rfl, rfl, rfl, rfl⟩ rfl rfl rfl rfl rfl (by kernel_rfl) Tryd.func4 (by kernel_rfl)
    (of_decide_eq_true (by kernel_rfl)) (by unfold Func.isWrapper; first | (rw [if_pos (by decide +kernel)]; kernel_rfl) | (rw [if_neg (by decide +kernel)]; exact ⟨rfl, rfl⟩))
    (fun os started H enc _ F => by rw [OpenClaim.pre_eq_preRow]; exact lifted os started H enc F)

theorem plain (f : FuncId) (fn : Func) (hf : Tryd.pinned.checked.prog.funcNamed "sumpter/sumpterlaw18.FrameSizes" = some f) (hfn : Tryd.pinned.checked.prog.funcs[f]? = some fn) :
    true = Tryd.pinned.checked.prog.looks [] ∧ ∀ (j : Nat) t, fn.params[j]? = some t → Tryd.pinned.checked.prog.wantsStandIn t = false := by
  obtain rfl : f = 4 := Option.some.inj ((show Tryd.prog.funcNamed "sumpter/sumpterlaw18.FrameSizes" = some 4 by kernel_rfl).symm.trans hf) |>.symm
  obtain rfl : fn = Tryd.f4 := (Option.some.inj (Tryd.func4.symm.trans hfn)).symm
  refine ⟨by kernel_rfl, fun j t ht => ?_⟩
  rw [Tryd.params4] at ht
  have hm : t ∈ [3, 44, 9] := by simpa using Array.mem_of_getElem? ht
  have hall : ([3, 44, 9].all fun u => !Tryd.prog.wantsStandIn u) = true := by kernel_rfl
  exact (show Tryd.prog.wantsStandIn t = false by simpa using List.all_eq_true.1 hall t hm)
end Go.Proofs.YtjjjomikgpnahaaDoor.frameSizes

namespace Go.Proofs.YtjjjomikgpnahaaDoor
/-- The card of FrameSizes. -/
theorem frameSizes_card : Rows.FrameSizesCardSaid :=
  Claim7.holds_tied_plain_at .later [] _ _ _ _ frameSizes.said (fun _ h => by cases h) (by kernel_rfl) (fun _ h => by cases h) frameSizes_row_tie rfl ⟨rfl, rfl⟩ (by kernel_rfl) rfl frameSizes.plain (by kernel_rfl)
#print axioms frameSizes_card
end Go.Proofs.YtjjjomikgpnahaaDoor
