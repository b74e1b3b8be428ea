/-
  What the document's Check of items answers.
-/
import Derived.Test.YtdnbiibijoggoaaGreatDoorIe
import Derived.Test.YtdnbiibijoggoaaGreatDoorTg
import Derived.Test.YtdnbiibijoggoaaGreatDoorRa
namespace Go.Proofs.YtdnbiibijoggoaaGreatDoor
open Go.RowKit
set_option maxRecDepth 100000

theorem builtHZ : Tryz.prog.built 40 [] = some (u8c z32) := by kernel_rfl
theorem guardH : Tryz.prog.eqGuardType Tryz.prog.depth 40 = false := by kernel_rfl
theorem neqH_run (A B : List Int) (hA : A.length = 32) (hB : B.length = 32) (w : World) : (binOp .neq 40 (.agg (u8c A)) (.agg (u8c B))).run Tryz.prog w = .ok (.bool (!(A == B))) w := by
  have h := eq_u8c 9998 A B hA hB w
  have h' : (Op.equal 40 (.agg (u8c A)) (.agg (u8c B))).run Tryz.prog w = .ok (A == B) w := h
  show (do pure (.bool (!(← Op.equal 40 (.agg (u8c A)) (.agg (u8c B))))) : Sem Value).run Tryz.prog w = _
  rw [Sem.run_bind, h']
  rfl
theorem wp_neqH {w : World} {o : Oper} {a : Act} {K : Act → World → Prop} {Q : Exit → Act → World → Prop} (x y : Operand) (t : TypeId) (ho : o.op = .binOp .neq 40 x y t)
    (A B : List Int) (hA : A.length = 32) (hB : B.length = 32) (hx : a.eval x = .agg (u8c A)) (hy : a.eval y = .agg (u8c B)) (h : K (a.put o.dst (.bool (!(A == B)))) w) : o.wp Tryz.prog a w K Q := by
  unfold Oper.wp
  simp only [execOp, ho, hx, hy, Sem.run_bind, run_eqGuard_agg _ _ _ _ _ _ _ guardH, neqH_run A B hA hB, Result.andThen_ok, Sem.run_pure, Oper.upon]
  exact h
theorem wp_built {P : Program} {o : Oper} {a : Act} {w : World} {K : Act → World → Prop} {Q : Exit → Act → World → Prop} (t : TypeId) (parts : List (Nat × Operand)) (ho : o.op = .build t parts.toArray)
    (L : List (Nat × Value)) (hL : parts.map (fun (i, x) => (i, a.eval x)) = L) (cs : Array Value) (hb : P.built t L = some cs) (h : K (a.put o.dst (.agg cs)) w) : o.wp P a w K Q := by
  have e : (parts.toArray.map fun (i, x) => (i, a.eval x)).toList = L := by rw [← hL]; simp
  exact wp_build t parts.toArray ho (by rw [e, hb]; rfl) (by rw [e, hb]; exact h)
theorem dirI_eq (x : It) (hd : x.d = true) : dirI x = (decide (x.n ≠ 0) || !(x.s == z32)) := by
  unfold dirI sIt bare
  rw [hd]
  rw [bed x.s z32]
  by_cases h1 : x.n = 0 <;> by_cases h2 : x.s = z32 <;> simp [h1, h2]
theorem dirI_f (x : It) (hd : x.d = false) : dirI x = false := by unfold dirI; rw [hd]; rfl
set_option maxHeartbeats 4000000 in
theorem rcheckI_any (v : Value) (l : List It) (w : World) (h : IS w v l) (hl : l.length ≤ 100) (hp : ∀ x ∈ l, x.p.size ≤ 1000) :
    Calls Tryz.prog 32 #[v] w fun e w' => e = .returned (.int .i64 (mck l)) ∧ Below w.heap.size w w' := by
  have C1 := rstands_any v l w h (by omega)
  have C2 : Hid (∀ v' W, ES W v' (l.map std) → Calls Tryz.prog 27 #[v'] W fun e w' => e = .returned (.int .i64 (ckT (l.map std))) ∧ Below W.heap.size W w') := fun v' W hs => rcheckT_any v' _ W hs (std_lt l hl hp h.ok)
  have HM : Hid (mck l = if ckT (l.map std) ≠ 0 then ckT (l.map std) else if l.any outI = true then 13 else if l.any dirI = true then 9 else 0) := rfl
  have HS : Hid (IS w v l) := h
  have HOK : Hid (∀ x ∈ l, x.ok) := h.ok
  obtain ⟨a, c, rfl, h2, _, _⟩ := h.shape
  have O1 : Hid (∀ j, j < l.length → outI (atI l j) = true → l.any outI = true) := fun j hj h => any_hit l outI j hj h
  have O2 : Hid ((∀ k, k < l.length → outI (atI l k) = false) → l.any outI = false) := any_none l outI
  have D1 : Hid (∀ j, j < l.length → dirI (atI l j) = true → l.any dirI = true) := fun j hj h => any_hit l dirI j hj h
  have D2 : Hid ((∀ k, k < l.length → dirI (atI l k) = false) → l.any dirI = false) := any_none l dirI
  obtain ⟨n, hn'⟩ : ∃ n, n = l.length := ⟨_, rfl⟩
  have HN : Hid (n = l.length) := hn'
  rw [← hn'] at HS h2 hl O1 O2 D1 D2 C1 ⊢
  clear h hp hn'
  generalize l.map std = L at *
  generalize l.any outI = qo at *
  generalize l.any dirI = qd at *
  generalize mck l = R at *
  generalize ckT L = k at *
  go_enter Tryz.func32, Tryz.ntmps32
  go_wp2_with fail
  refine C1.mono ?_
  rintro e w1 ⟨v1, rfl, o1, b1⟩
  have c2 := C2.out v1 w1 o1.es
  have B1 : Hid (Below w.heap.size w w1) := b1
  obtain ⟨va, vc, rfl, _, _, _⟩ := o1.es.shape
  clear C1 C2 o1 b1
  generalize L.length = m at *
  go_wp2_with fail
  refine c2.mono ?_
  rintro e w2 ⟨rfl, b2⟩
  have B2 : Hid (Below w.heap.size w w2) := B1.out.trans (b2.mono B1.out.size)
  clear c2 b2 B1
  by_cases hk : k = 0
  · subst hk
    have HM2 : Hid (R = if qo = true then 13 else if qd = true then 9 else 0) := by unfold Hid; have := HM.out; simpa using this
    clear HM
    go_wp2
    go_loopw [4] (fun q wr => ∃ j : Nat, j ≤ n ∧ q = .int .i64 j ∧ Below w.heap.size w wr ∧ ∀ k, k < j → outI (atI l k) = false) (fun q _ => n - (intOf q).toNat)
    case atStart => exact ⟨0, by omega, rfl, B2.out, fun k hk => by omega⟩
    case round =>
      clear B2
      obtain ⟨j, hj, rfl, bel, ok⟩ := hrel
      have BE : Hid (Below w.heap.size w wr) := bel
      clear bel
      have OK : Hid (∀ k, k < j → outI (atI l k) = false) := ok
      clear ok
      by_cases hlt : j < n
      · have lt2 : (j : Int) < (n : Int) := by omega
        obtain ⟨b, off, rfl, hr⟩ := (HS.out.kept BE.out).at j (by rw [← HN.out]; exact hlt)
        have k2 := (range_head hr).2.2
        have HF : Hid (outI (atI l j) = true → qo = true) := O1.out j hlt
        have HE : Hid (outI (atI l j) = (decide ((atI l j).n < 0) || decide (65536 < (atI l j).n))) := rfl
        have NX : Hid (outI (atI l j) = false → ∀ k, k < j + 1 → outI (atI l k) = false) := fun h k hk => by
          rcases Nat.lt_or_ge k j with h' | h'
          · exact OK.out k h'
          · rw [show k = j by omega]; exact h
        clear hr OK
        generalize outI (atI l j) = sb at *
        generalize (atI l j).n = xn at *
        by_cases g1 : xn < 0
        · have hq : qo = true := HF.out (by rw [HE.out]; simp [g1])
          have HR : Hid (R = 13) := by unfold Hid; have := HM2.out; rw [hq] at this; simpa using this
          have t1 : decide (xn < 0) = true := by simp [g1]
          clear HF HE NX HM2 hq
          go_wp2
          go_ret
          exact ⟨by rw [HR.out]; rfl, BE.out⟩
        · have t1 : decide (xn < 0) = false := by simp [g1]
          by_cases g2 : 65536 < xn
          · have hq : qo = true := HF.out (by rw [HE.out]; simp [g2])
            have HR : Hid (R = 13) := by unfold Hid; have := HM2.out; rw [hq] at this; simpa using this
            clear HF HE NX HM2 hq
            go_wp2
            go_ret
            exact ⟨by rw [HR.out]; rfl, BE.out⟩
          · have NX2 : Hid (∀ k, k < j + 1 → outI (atI l k) = false) := NX.out (by rw [HE.out]; simp [g1, g2])
            clear HF HE NX
            go_wp2
            go_roundw
            case rel => exact ⟨j + 1, by omega, by go_num, BE.out, NX2.out⟩
            case measure => simp [intOf]; omega
      · obtain rfl : j = n := by omega
        have hq : qo = false := O2.out OK.out
        have HM3 : Hid (R = if qd = true then 9 else 0) := by unfold Hid; have := HM2.out; rw [hq] at this; simpa using this
        clear O1 O2 OK HM2 hq
        go_wp2
        go_loopw [5] (fun q wr => ∃ i : Nat, i ≤ j ∧ q = .int .i64 i ∧ Below w.heap.size w wr ∧ ∀ k, k < i → dirI (atI l k) = false) (fun q _ => j - (intOf q).toNat)
        case atStart => exact ⟨0, by omega, rfl, BE.out, fun k hk => by omega⟩
        case round =>
          clear BE
          obtain ⟨i, hi, rfl, bel, ok⟩ := hrel
          have BE : Hid (Below w.heap.size w wr) := bel
          clear bel
          have OK : Hid (∀ k, k < i → dirI (atI l k) = false) := ok
          clear ok
          by_cases hlt : i < j
          · have lt2 : (i : Int) < (j : Int) := by omega
            obtain ⟨b, off, rfl, hr⟩ := (HS.out.kept BE.out).at i (by rw [← HN.out]; exact hlt)
            obtain ⟨k0, k1, k2⟩ := range_head hr
            have RS : Hid (wr.rangeAt b (off + i * 35 + 3) ((atI l i).s.map (Value.int .u8))) := range_sum hr
            have hsl : (atI l i).s.length = 32 := (It.at l HOK.out i).1
            have HF : Hid (dirI (atI l i) = true → qd = true) := D1.out i hlt
            have HE1 : Hid ((atI l i).d = true → dirI (atI l i) = (decide ((atI l i).n ≠ 0) || !((atI l i).s == z32))) := dirI_eq _
            have HE2 : Hid ((atI l i).d = false → dirI (atI l i) = false) := dirI_f _
            have NX : Hid (dirI (atI l i) = false → ∀ k, k < i + 1 → dirI (atI l k) = false) := fun h k hk => by
              rcases Nat.lt_or_ge k i with h' | h'
              · exact OK.out k h'
              · rw [show k = i by omega]; exact h
            clear hr OK k0
            generalize dirI (atI l i) = sb at *
            generalize (atI l i).n = xn at *
            generalize (atI l i).d = xd at *
            generalize (atI l i).s = S at *
            cases xd
            · have NX2 : Hid (∀ k, k < i + 1 → dirI (atI l k) = false) := NX.out (HE2.out rfl)
              clear HF HE1 HE2 NX RS
              go_wp2
              go_roundw
              case rel => exact ⟨i + 1, by omega, by go_num, BE.out, NX2.out⟩
              case measure => simp [intOf]; omega
            · have hsb := HE1.out rfl
              by_cases g1 : xn = 0
              · subst g1
                have t1 : ((0 : Int) != 0) = false := by simp
                have RL : Hid ((Tryz.prog.info? 40).map (·.size) = some (S.map (Value.int .u8)).length) := infoHl S hsl
                have HSB : Hid (sb = !(S == z32)) := by unfold Hid; rw [hsb]; simp
                clear HE1 HE2 hsb
                generalize hqq : (S == z32) = qq at *
                have HQQ : Hid ((S == z32) = qq) := hqq
                clear hqq
                go_wp2_with (refine BigFrame.wpList_want (by rfl) fun KK hKK => wp_load_mid 40 _ rfl b (off + i * 35 + 3) rfl (S.map (Value.int .u8)) _ RS.out Tryz.underlying40 rfl RL.out (hKK _ _ (Hid.out ?_)))
                unfold Hid
                refine BigFrame.wpList_want (by rfl) fun KK hKK => wp_built 40 [] rfl [] rfl (u8c z32) builtHZ (hKK _ _ ?_)
                refine BigFrame.wpList_want (by rfl) fun KK hKK => wp_neqH _ _ _ rfl S z32 hsl z32_len rfl rfl (hKK _ _ ?_)
                rw [HQQ.out]
                clear HQQ RS RL k1 k2
                cases qq
                · have hq : qd = true := HF.out (by rw [HSB.out]; rfl)
                  have HR : Hid (R = 9) := by unfold Hid; have := HM3.out; rw [hq] at this; simpa using this
                  clear HF NX HM3 HSB hq
                  go_wp2
                  go_ret
                  exact ⟨by rw [HR.out]; rfl, BE.out⟩
                · have NX2 : Hid (∀ k, k < i + 1 → dirI (atI l k) = false) := NX.out (by rw [HSB.out]; rfl)
                  clear HF NX HSB
                  go_wp2
                  go_roundw
                  case rel => exact ⟨i + 1, by omega, by go_num, BE.out, NX2.out⟩
                  case measure => simp [intOf]; omega
              · have t1 : (xn != 0) = true := by simpa using g1
                have hq : qd = true := HF.out (by rw [hsb]; simp [g1])
                have HR : Hid (R = 9) := by unfold Hid; have := HM3.out; rw [hq] at this; simpa using this
                clear HF HE1 HE2 NX HM3 hsb hq RS
                go_wp2
                go_ret
                exact ⟨by rw [HR.out]; rfl, BE.out⟩
          · obtain rfl : i = j := by omega
            have hq : qd = false := D2.out OK.out
            have HR : Hid (R = 0) := by unfold Hid; have := HM3.out; rw [hq] at this; simpa using this
            clear D1 D2 OK HM3 hq
            go_wp2
            go_ret
            exact ⟨by rw [HR.out]; rfl, BE.out⟩
  · have HM2 : Hid (R = k) := by unfold Hid; have := HM.out; rwa [if_pos hk] at this
    have hk2 : (k != 0) = true := by simpa using hk
    clear HM
    go_wp2
    go_ret
    exact ⟨by rw [HM2.out]; rfl, B2.out⟩
end Go.Proofs.YtdnbiibijoggoaaGreatDoor
