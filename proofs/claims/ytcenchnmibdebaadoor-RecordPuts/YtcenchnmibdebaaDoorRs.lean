/-
  What the document's Split answers.
-/
import Derived.Test.YtcenchnmibdebaaDoorRn
import Derived.Test.YtcenchnmibdebaaDoorCk
import Derived.Deep.DeepAppendWide
import Derived.Deep.RegionWith
namespace Go.Proofs.YtcenchnmibdebaaDoor
open Go.RowKit
set_option maxRecDepth 100000

theorem info9 : (Tryd.prog.info? 9).map (fun i => (i.zero, i.size, i.bytes)) = some (some (.string ByteArray.empty), 1, 16) := by kernel_rfl
theorem own_base {w : World} {base : Nat} {e : TypeId} {size : Nat} {v : Value} {n : Nat} {xs : List Value} (h : w.ownsRow base e size v n xs) : ∀ k, v.ownBlock = some k → base ≤ k := by
  rcases h.2 with ⟨rfl, _⟩ | ⟨g, cap, cur, rfl, hg, _⟩
  · intro k hk; cases hk
  · intro k hk; cases hk; exact hg
/-- Texts in a row of the call's own. -/
def OT (w : World) (B : Nat) (v : Value) (VA : List (List UInt8)) : Prop := w.ownsRow B 9 1 v VA.length (VA.map fun x => Value.string (mk x))
theorem OT.ss {w : World} {B : Nat} {v : Value} {VA : List (List UInt8)} (h : OT w B v VA) : SS w v (VA.map mk) := by
  have h' := h
  rcases h.2 with ⟨rfl, h2⟩ | ⟨g, cap, cur, rfl, hg, hh, hl, r⟩
  · have e : VA = [] := by simpa using h2
    subst e
    exact ⟨.none, 0, rfl, Nat.le_refl _, .inl rfl⟩
  · refine ⟨_, cap, by rw [List.length_map], by rw [List.length_map]; exact hl, .inr ⟨g, 0, rfl, fun i x hx => ?_⟩⟩
    have := h'.cells (g := g) rfl i (.string x) (by
      rw [List.getElem?_map] at hx ⊢
      cases hv : VA[i]? with
      | none => rw [hv] at hx; cases hx
      | some y => rw [hv] at hx; simp at hx ⊢; exact hx)
    rwa [Addr.add_lit] at this
theorem OT.nil (w : World) (B : Nat) : OT w B (.slice none 0 0) [] := ⟨rfl, .inl ⟨rfl, rfl⟩⟩
theorem OT.below {w w' : World} {B : Nat} {v : Value} {VA : List (List UInt8)} (h : OT w B v VA) (hb : Below w.heap.size w w') : OT w' B v VA := by
  obtain ⟨h1, h2⟩ := h
  refine ⟨h1, ?_⟩
  rcases h2 with h2 | ⟨g, cap, cur, hv, hg, hh, r⟩
  · exact .inl h2
  · exact .inr ⟨g, cap, cur, hv, hg, (hb.block g (Array.getElem?_eq_some_iff.1 hh).1).trans hh, r⟩
theorem ext_at (s : ByteArray) (k i : Nat) : s.extract k i = mk (((dl s).drop k).take (i - k)) := by
  apply dl_inj
  rw [dl_mk]
  exact Lib.extract_data s k i
/-- The bytes from k on, up to i, hold no 47. -/
def Free (l : List UInt8) (k i : Nat) : Prop := ∀ j, k ≤ j → j < i → l.getD j 0 ≠ 47
theorem free_mem {l : List UInt8} {k i : Nat} (h : Free l k i) (hi : i ≤ l.length) : ∀ c ∈ (l.drop k).take (i - k), c ≠ 47 := by
  intro c hc
  obtain ⟨j, hj, rfl⟩ := List.getElem_of_mem hc
  have hj2 : j < i - k := by rw [List.length_take] at hj; omega
  have hj3 : k + j < l.length := by rw [List.length_take, List.length_drop] at hj; omega
  have := h (k + j) (by omega) (by omega)
  simpa [List.getD, hj3] using this
theorem parts_hit {l : List UInt8} {k i : Nat} (h : Free l k i) (hk : k ≤ i) (hi : i < l.length) (hc : l.getD i 0 = 47) : parts (l.drop k) = ((l.drop k).take (i - k)) :: parts (l.drop (i + 1)) := by
  have e1 : l.drop k = (l.drop k).take (i - k) ++ 47 :: l.drop (i + 1) := by
    have h1 : l.drop i = 47 :: l.drop (i + 1) := by
      rw [List.drop_eq_getElem_cons hi]
      simp only [List.getD, List.getElem?_eq_getElem hi, Option.getD_some] at hc
      rw [hc]
    rw [← h1]
    conv => lhs; rw [← List.take_append_drop (i - k) (l.drop k), List.drop_drop, show k + (i - k) = i by omega]
  conv => lhs; rw [e1]
  exact parts_cut _ _ (free_mem h (by omega))
theorem parts_end {l : List UInt8} {k : Nat} (h : Free l k l.length) : parts (l.drop k) = [(l.drop k).take (l.length - k)] := by
  have e1 : (l.drop k).take (l.length - k) = l.drop k := by
    rw [List.take_of_length_le]
    rw [List.length_drop]; exact Nat.le_refl _
  rw [e1]
  refine parts_none _ ?_
  have := free_mem h (Nat.le_refl _)
  rwa [e1] at this

set_option maxHeartbeats 2000000 in
theorem rsplit_any (s : ByteArray) (w : World) (hs : s.size ≤ 1000000) :
    Calls Tryd.prog 54 #[.string s] w fun e w' => ∃ v, e = .returned v ∧ SS w' v (sps s) ∧ Below w.heap.size w w' := by
  by_cases h0 : s.toList = []
  · have e : Hid (sps s = []) := by
      unfold Hid sps
      rw [tol] at h0
      rw [h0]
      rfl
    generalize sps s = xs at *
    go_enter Tryd.func54, Tryd.ntmps54
    go_wp2
    go_ret
    refine ⟨_, rfl, ?_, Below.refl _ _⟩
    rw [e.out]
    exact SS.nil w
  have e : Hid (sps s = (parts (dl s)).map mk) := by
    unfold Hid sps spl
    rw [if_neg (by rw [← tol]; exact h0)]
  have t0 : s.toList.isEmpty = false := by simp [h0]
  clear h0
  obtain ⟨i9, hi, hz0, hz1, hz2⟩ := info_parts info9
  have HIX : Hid (∀ (w : World) (i : Nat), i < s.size → (Instr.index 9 (.string s) (.int .i64 (i : Int))).run Tryd.prog w = .ok (.int .u8 (((dl s).getD i 0).toNat : Int)) w) := fun w i hi => run_index_dl s w i hi
  have HEX : Hid (∀ k i, s.extract k i = mk (((dl s).drop k).take (i - k))) := ext_at s
  have HLL : Hid ((dl s).length = s.size) := rfl
  have HLE : Hid ((parts (dl s)).length ≤ s.size + 1) := by
    unfold Hid
    have := spl_len (dl s)
    unfold spl at this
    rw [dl_len] at this
    split at this
    · rename_i hn; rw [hn]; simp [parts]
    · exact this
  obtain ⟨l, hl⟩ : ∃ l, l = dl s := ⟨_, rfl⟩
  rw [← hl] at e HIX HEX HLL HLE
  clear hl
  go_enter Tryd.func54, Tryd.ntmps54
  go_wp2
  go_loopw [3, 4, 5] (fun o f q wr => ∃ (k i : Nat) (VA : List (List UInt8)), q = .int .i64 i ∧ f = .int .i64 k ∧ k ≤ i ∧ ((i ≤ s.size ∧ Free l k i ∧ VA ++ parts (l.drop k) = parts l) ∨ (i = s.size + 1 ∧ VA = parts l)) ∧ OT wr w.heap.size o VA ∧ Below w.heap.size w wr) (fun _ _ q _ => s.size + 1 - (intOf q).toNat)
  case atStart => exact ⟨0, 0, [], rfl, rfl, Nat.le_refl _, .inl ⟨by omega, fun j h1 h2 => by omega, rfl⟩, OT.nil _ _, Below.refl _ _⟩
  case round =>
    obtain ⟨k, i, VA, rfl, rfl, hki, hst, ho, bel⟩ := hrel
    have HO : Hid (OT wr w.heap.size u3 VA) := ho
    have HB : Hid (Below w.heap.size w wr) := bel
    clear ho bel
    rcases Nat.lt_or_ge s.size i with hgt | hle
    · have hVA : VA = parts l := by
        rcases hst with ⟨h, _⟩ | ⟨_, h⟩
        · omega
        · exact h
      have HR : Hid (SS wr u3 (sps s)) := by
        unfold Hid
        rw [e.out, ← hVA]
        exact HO.out.ss
      have nle : ¬ (i : Int) ≤ (s.size : Int) := by omega
      clear hst hVA HO
      obtain ⟨ao, co, rfl, -⟩ := HR.out.shape
      generalize (sps s).length = nn at *
      go_wp2
      go_ret
      exact ⟨.slice ao nn co, rfl, HR.out, HB.out⟩
    · obtain ⟨hfree, hpa⟩ : Free l k i ∧ VA ++ parts (l.drop k) = parts l := by
        rcases hst with ⟨_, h1, h2⟩ | ⟨h, _⟩
        · exact ⟨h1, h2⟩
        · omega
      have HFR : Hid (Free l k i) := hfree
      have HPA : Hid (VA ++ parts (l.drop k) = parts l) := hpa
      have hVL : VA.length ≤ s.size + 1 := by
        have h1 := HLE.out
        rw [← hpa, List.length_append] at h1
        omega
      have le2 : (i : Int) ≤ (s.size : Int) := by omega
      have le3 : (k : Int) ≤ (i : Int) := by omega
      have q1 : IntKind.i64.wrap ((i : Int) + 1) = ((i + 1 : Nat) : Int) := by simp [IntKind.wrap, IntKind.bits, IntKind.signed]; omega
      clear hst hfree hpa
      obtain ⟨S, hS⟩ : ∃ S, S = s.extract k i := ⟨_, rfl⟩
      have HSX : Hid (S = mk ((l.drop k).take (i - k))) := by unfold Hid; rw [hS]; exact HEX.out k i
      have hS' := hS.symm
      have bal : Below wr.heap.size wr (wr.alloc (.cells #[.string S] 9)) := (Below.refl _ _).alloc (Nat.le_refl _) _
      have OA : Hid ((wr.alloc (.cells #[.string S] 9)).ownsRow w.heap.size 9 1 u3 VA.length (VA.map fun x => Value.string (mk x))) := HO.out.below bal
      have HB3 : Hid (Below w.heap.size w (wr.alloc (.cells #[.string S] 9))) := HB.out.trans (bal.mono HB.out.size)
      have HN : Hid (∀ (i : Nat) u, [Value.string S][i]? = some u → (wr.alloc (.cells #[.string S] 9)).cell? ((⟨wr.heap.size, 0, none⟩ : Addr).add i) = some u) := fun i u hu => by
        rw [Addr.add_lit, Nat.zero_add, cell_of_row _ _ _ _ _ _ (heap_alloc_new _ _)]
        simpa using hu
      have HN1 : Hid (∀ u ∈ [Value.string S], u.oneCell' = true) := fun u hu => by
        simp only [List.mem_singleton] at hu
        rw [hu]; rfl
      obtain ⟨ao, co, rfl, -⟩ := HO.out.ss.shape
      obtain ⟨n, hn⟩ : ∃ n, n = VA.length := ⟨_, rfl⟩
      have HNL : Hid (n = VA.length) := hn
      rw [List.length_map, ← hn] at OA HO ⊢
      have HO2 : Hid (OT wr w.heap.size (.slice ao n co) VA) := HO.out
      rw [← hn] at hVL
      clear bal hS hn HO
      by_cases hend : i = s.size
      · have NXT : Hid ((i + 1 ≤ s.size ∧ Free l (i + 1) (i + 1) ∧ (VA ++ [((l.drop k).take (i - k))]) ++ parts (l.drop (i + 1)) = parts l) ∨ (i + 1 = s.size + 1 ∧ VA ++ [((l.drop k).take (i - k))] = parts l)) := by
          refine .inr ⟨by omega, ?_⟩
          have h1 : Free l k l.length := by rw [HLL.out, ← hend]; exact HFR.out
          rw [hend, ← HPA.out, parts_end h1, HLL.out]
        have te : ((i : Int) == (s.size : Int)) = true := by simp [hend]
        clear HFR HPA hend HIX HEX
        go_wp2_with (at_builtin; refine wpList_append_own_wide _ rfl _ _ 96 rfl w.heap.size 9 i9 (.string ByteArray.empty) 1 16 Tryd.underlying96 hi hz0 hz1 hz2 rfl (by decide) _ n (VA.map fun x => Value.string (mk x)) rfl OA.out ⟨wr.heap.size, 0, none⟩ 1 1 [.string S] rfl rfl HN.out HN1.out (by unfold maxLen; omega) (by omega) HB3.out.size (Hid.out ?_))
        unfold Hid
        intro v4 w4 oa4 hg4 _
        have O4 : Hid (OT w4 w.heap.size v4 (VA ++ [((l.drop k).take (i - k))])) := by
          unfold Hid OT
          rw [List.length_append, List.map_append, ← HNL.out]
          have e5 : [Value.string S] = [((l.drop k).take (i - k))].map fun x => Value.string (mk x) := by rw [HSX.out]; rfl
          rw [← e5]
          exact oa4
        have B4 : Hid (Below w.heap.size w w4) := HB3.out.grown hg4 HB3.out.size (own_base OA.out)
        clear oa4 hg4 OA HN HN1 HB3 HSX HNL
        go_wp2
        go_roundw
        case rel => exact ⟨i + 1, i + 1, _, by go_num, by go_num, Nat.le_refl _, NXT.out, O4.out, B4.out⟩
        case measure => simp [intOf]; omega
      · have te : ((i : Int) == (s.size : Int)) = false := by simp; omega
        have hlt : i < s.size := by omega
        have ix := HIX.out wr i hlt
        by_cases hc : l.getD i 0 = 47
        · have NXT : Hid ((i + 1 ≤ s.size ∧ Free l (i + 1) (i + 1) ∧ (VA ++ [((l.drop k).take (i - k))]) ++ parts (l.drop (i + 1)) = parts l) ∨ (i + 1 = s.size + 1 ∧ VA ++ [((l.drop k).take (i - k))] = parts l)) := by
            refine .inl ⟨by omega, fun j h1 h2 => by omega, ?_⟩
            rw [List.append_assoc, List.singleton_append, ← parts_hit HFR.out hki (by rw [HLL.out]; exact hlt) hc]
            exact HPA.out
          have tc : ((l.getD i 0).toNat : Int) = 47 := by rw [hc]; rfl
          rw [tc] at ix
          clear HFR HPA HIX HEX hc tc
          go_wp2_with (at_builtin; refine wpList_append_own_wide _ rfl _ _ 96 rfl w.heap.size 9 i9 (.string ByteArray.empty) 1 16 Tryd.underlying96 hi hz0 hz1 hz2 rfl (by decide) _ n (VA.map fun x => Value.string (mk x)) rfl OA.out ⟨wr.heap.size, 0, none⟩ 1 1 [.string S] rfl rfl HN.out HN1.out (by unfold maxLen; omega) (by omega) HB3.out.size (Hid.out ?_))
          unfold Hid
          intro v4 w4 oa4 hg4 _
          have O4 : Hid (OT w4 w.heap.size v4 (VA ++ [((l.drop k).take (i - k))])) := by
            unfold Hid OT
            rw [List.length_append, List.map_append, ← HNL.out]
            have e5 : [Value.string S] = [((l.drop k).take (i - k))].map fun x => Value.string (mk x) := by rw [HSX.out]; rfl
            rw [← e5]
            exact oa4
          have B4 : Hid (Below w.heap.size w w4) := HB3.out.grown hg4 HB3.out.size (own_base OA.out)
          clear oa4 hg4 OA HN HN1 HB3 HSX HNL
          go_wp2
          go_roundw
          case rel => exact ⟨i + 1, i + 1, _, by go_num, by go_num, Nat.le_refl _, NXT.out, O4.out, B4.out⟩
          case measure => simp [intOf]; omega
        · have HF2 : Hid (Free l k (i + 1)) := fun j h1 h2 => by
            rcases Nat.lt_or_ge j i with h | h
            · exact HFR.out j h1 h
            · rw [show j = i by omega]; exact hc
          have tc : (((l.getD i 0).toNat : Int) == 47) = false := by
            have : ¬ ((l.getD i 0).toNat : Int) = 47 := fun h => by
              have h2 : (l.getD i 0).toNat = 47 := by omega
              exact hc (UInt8.toNat_inj.1 h2)
            simpa using this
          generalize ((l.getD i 0).toNat : Int) = x at *
          clear HFR HIX HEX hc OA HN HN1 HB3 HSX hS' HNL
          go_wp2
          go_roundw
          case rel => exact ⟨k, i + 1, VA, by go_num, rfl, by omega, .inl ⟨by omega, HF2.out, HPA.out⟩, HO2.out, HB.out⟩
          case measure => simp [intOf]; omega
end Go.Proofs.YtcenchnmibdebaaDoor
