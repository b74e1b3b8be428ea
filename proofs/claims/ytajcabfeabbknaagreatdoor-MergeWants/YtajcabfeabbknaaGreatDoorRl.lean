/-
  What the document's Name, Reserved, slash, Parent, Base and Under answer.
  What the document's Split answers.
  What the document's Check, Kept, Join and Less answer.
  What the document's Less, and both Joins, answer.
-/
import Derived.Test.YtajcabfeabbknaaGreatDoorLe
import Derived.Test.YtajcabfeabbknaaGreatDoorBas
import Derived.Deep.DeepAppendWide
import Derived.Deep.RegionWith
namespace Go.Proofs.YtajcabfeabbknaaGreatDoor
open Go.RowKit

set_option maxHeartbeats 1000000 in
theorem rname_any (s : ByteArray) (w : World) (hs : s.size ≤ maxLen) :
    Calls Tryz.prog 85 #[.string s] w fun e w' => e = .returned (.bool (nameB (dl s))) ∧ w' = w := by
  have HF : Hid (s.toList = [] ∨ 32 < s.size ∨ s.toList = [46] ∨ s.toList = [46, 46] ∨ (∃ i, i < s.size ∧ okc ((dl s).getD i 0) = false) → nameB (dl s) = false) := fun h => by
    rw [tol, ← dl_len] at h
    exact nameB_false _ h
  have HT : Hid (s.toList ≠ [] → s.size ≤ 32 → s.toList ≠ [46] → s.toList ≠ [46, 46] → (∀ i, i < s.size → okc ((dl s).getD i 0) = true) → nameB (dl s) = true) := fun h0 h1 h2 h3 h => by
    rw [tol] at h0 h2 h3
    exact nameB_true _ h0 h1 h2 h3 h
  have HIX : Hid (∀ (w : World) (i : Nat), i < s.size → (Instr.index 9 (.string s) (.int .i64 (i : Int))).run Tryz.prog w = .ok (.int .u8 (((dl s).getD i 0).toNat : Int)) w) := fun w i hi => run_index_dl s w i hi
  have H0 : Hid (s.size = 0 → s.toList = []) := fun h => by
    rw [tol]
    exact List.length_eq_zero_iff.1 h
  have H0' : Hid (s.toList = [] → s.size = 0) := fun h => by
    rw [tol] at h
    rw [← dl_len, h]
    rfl
  obtain ⟨l, hl⟩ : ∃ l, l = dl s := ⟨_, rfl⟩
  rw [← hl] at HF HT HIX ⊢
  clear hl
  generalize nameB l = r at *
  by_cases h0 : s.size = 0
  · have hr : Hid (r = false) := HF.out (.inl (H0.out h0))
    have h0' : (s.size : Int) < 1 := by omega
    clear HF HT
    go_enter Tryz.func85, Tryz.ntmps85
    go_wp2
    go_ret
    exact ⟨by rw [hr.out]; rfl, rfl⟩
  have h0' : ¬ (s.size : Int) < 1 := by omega
  by_cases h1 : 32 < s.size
  · have hr : Hid (r = false) := HF.out (.inr (.inl h1))
    have h1' : 32 < (s.size : Int) := by omega
    clear HF HT
    go_enter Tryz.func85, Tryz.ntmps85
    go_wp2
    go_ret
    exact ⟨by rw [hr.out]; rfl, rfl⟩
  have h1' : ¬ 32 < (s.size : Int) := by omega
  by_cases h2 : s.toList = [46]
  · have hr : Hid (r = false) := HF.out (.inr (.inr (.inl h2)))
    clear HF HT
    go_enter Tryz.func85, Tryz.ntmps85
    go_wp2
    go_ret
    exact ⟨by rw [hr.out]; rfl, rfl⟩
  by_cases h3 : s.toList = [46, 46]
  · have hr : Hid (r = false) := HF.out (.inr (.inr (.inr (.inl h3))))
    clear HF HT
    go_enter Tryz.func85, Tryz.ntmps85
    go_wp2
    go_ret
    exact ⟨by rw [hr.out]; rfl, rfl⟩
  have HT' : Hid ((∀ i, i < s.size → okc (l.getD i 0) = true) → r = true) := HT.out (fun e => h0 (H0'.out e)) (by omega) h2 h3
  have HF' : Hid (∀ i, i < s.size → okc (l.getD i 0) = false → r = false) := fun i hi h => HF.out (.inr (.inr (.inr (.inr ⟨i, hi, h⟩))))
  have t2 : (s.toList == [46]) = false := by simp [h2]
  have t3 : (s.toList == [46, 46]) = false := by simp [h3]
  clear HF HT h0 h2 h3 H0 H0'
  go_enter Tryz.func85, Tryz.ntmps85
  go_wp2
  go_loop [3] (fun q => ∃ j : Nat, j ≤ s.size ∧ q = .int .i64 j ∧ ∀ k, k < j → okc (l.getD k 0) = true) (fun q => s.size - (intOf q).toNat)
  case atStart => exact ⟨0, by omega, rfl, fun k hk => by omega⟩
  case round =>
    obtain ⟨j, hj, rfl, ok⟩ := hrel
    have OK : Hid (∀ k, k < j → okc (l.getD k 0) = true) := ok
    clear ok
    by_cases hlt : j < s.size
    · have lt2 : (j : Int) < (s.size : Int) := by omega
      have ix := HIX.out w j hlt
      have HF2 := HF'.out j hlt
      have NK : Hid (okc (l.getD j 0) = true → ∀ k, k < j + 1 → okc (l.getD k 0) = true) := fun h k hk => by
        rcases Nat.lt_or_ge k j with h' | h'
        · exact OK.out k h'
        · rw [show k = j by omega]; exact h
      have HE : Hid (okc (l.getD j 0) = (decide (33 ≤ ((l.getD j 0).toNat : Int)) && decide (((l.getD j 0).toNat : Int) ≤ 126) && decide (((l.getD j 0).toNat : Int) ≠ 47))) := rfl
      have q1 : IntKind.i64.wrap ((j : Int) + 1) = ((j + 1 : Nat) : Int) := by simp [IntKind.wrap, IntKind.bits, IntKind.signed]; unfold maxLen at hs; omega
      generalize okc (l.getD j 0) = ok at *
      generalize hx : ((l.getD j 0).toNat : Int) = x at *
      clear hx OK
      by_cases k1 : x = 47
      · have hr : Hid (r = false) := HF2 (by rw [HE.out, k1]; rfl)
        subst k1
        clear NK HF2 HE
        go_wp2
        go_ret
        exact ⟨by rw [hr.out]; rfl, rfl⟩
      have k1' : (x == 47) = false := by simp [k1]
      by_cases k2 : x < 33
      · have hr : Hid (r = false) := HF2 (by rw [HE.out]; simp; omega)
        clear NK HF2 HE
        go_wp2
        go_ret
        exact ⟨by rw [hr.out]; rfl, rfl⟩
      by_cases k3 : 126 < x
      · have hr : Hid (r = false) := HF2 (by rw [HE.out]; simp; omega)
        clear NK HF2 HE
        go_wp2
        go_ret
        exact ⟨by rw [hr.out]; rfl, rfl⟩
      have NK2 : Hid (∀ k, k < j + 1 → okc (l.getD k 0) = true) := NK.out (by rw [HE.out]; simp; omega)
      clear NK HF2 HE
      go_wp2
      exact ⟨⟨j + 1, by omega, by go_num, NK2.out⟩, by simp [intOf]; omega⟩
    · obtain rfl : j = s.size := by omega
      have hr : Hid (r = true) := HT'.out OK.out
      clear HT' HF' OK
      go_wp2
      go_ret
      exact ⟨by rw [hr.out]; rfl, rfl⟩
theorem res_take (s : ByteArray) : (decide (8 ≤ (s.size : Int)) && ((s.extract 0 8).toList == [46, 115, 117, 109, 112, 116, 101, 114])) = res (dl s) := by
  have h := Lib.hasPrefix_raw s ⟨#[46, 115, 117, 109, 112, 116, 101, 114]⟩
  have e1 : (⟨#[46, 115, 117, 109, 112, 116, 101, 114]⟩ : ByteArray).size = 8 := rfl
  have e2 : (⟨#[46, 115, 117, 109, 112, 116, 101, 114]⟩ : ByteArray).toList = [46, 115, 117, 109, 112, 116, 101, 114] := by rw [Lib.toList_data]
  rw [e1, e2] at h
  have e3 : decide (8 ≤ (s.size : Int)) = decide (8 ≤ s.size) := by
    by_cases k : 8 ≤ s.size
    · simp [k]; omega
    · simp [k]; omega
  rw [e3]
  exact h
set_option maxHeartbeats 1000000 in
theorem rreserved_any (s : ByteArray) (w : World) :
    Calls Tryz.prog 82 #[.string s] w fun e w' => e = .returned (.bool (res (dl s))) ∧ w' = w := by
  rw [← res_take]
  by_cases h : 8 ≤ s.size
  · have h' : 8 ≤ (s.size : Int) := by omega
    go_enter Tryz.func82, Tryz.ntmps82
    go_wp2
    go_ret
    exact ⟨by simp [h'], rfl⟩
  · have h' : ¬ 8 ≤ (s.size : Int) := by omega
    go_enter Tryz.func82, Tryz.ntmps82
    go_wp2
    go_ret
    exact ⟨by simp; omega, rfl⟩
theorem data_get (s : ByteArray) (i : Nat) : s.data[i]! = (dl s).getD i 0 := by
  by_cases h : i < s.data.size
  · have h1 : s.data[i]? = some s.data[i] := Array.getElem?_eq_getElem h
    rw [getElem!_pos s.data i h]
    simp [dl, List.getD, h1]
  · have h1 : s.data[i]? = none := Array.getElem?_eq_none (by omega)
    rw [getElem!_neg s.data i h]
    simp [dl, List.getD, h1]
    rfl
set_option maxHeartbeats 1000000 in
theorem slash_any (s : ByteArray) (w : World) (hs : s.size ≤ maxLen) :
    Calls Tryz.prog 84 #[.string s] w fun e w' => e = .returned (.int .i64 (lasl (dl s))) ∧ w' = w := by
  have HIX : Hid (∀ (w : World) (i : Nat), i < s.size → (Instr.index 9 (.string s) (.int .i64 (i : Int))).run Tryz.prog w = .ok (.int .u8 (((dl s).getD i 0).toNat : Int)) w) := fun w i hi => run_index_dl s w i hi
  obtain ⟨K, hK⟩ : ∃ K : Nat → Int, K = Lib.lastIdx s 47 := ⟨_, rfl⟩
  have HS : Hid (K s.size = lasl (dl s)) := by
    unfold Hid lasl
    rw [hK, mk_dl]
    rfl
  have H0 : Hid (K 0 = -1) := by rw [hK]; rfl
  have HST : Hid (∀ j, K (j + 1) = if (((dl s).getD j 0).toNat : Int) = 47 then (j : Int) else K j) := fun j => by
    rw [hK, Lib.lastIdx, data_get]
  generalize lasl (dl s) = r at *
  clear hK
  obtain ⟨X, hX⟩ : ∃ X : Nat → Int, X = fun j => (((dl s).getD j 0).toNat : Int) := ⟨_, rfl⟩
  have HIX : Hid (∀ (w : World) (i : Nat), i < s.size → (Instr.index 9 (.string s) (.int .i64 (i : Int))).run Tryz.prog w = .ok (.int .u8 (X i)) w) := by rw [hX]; exact HIX.out
  have HST : Hid (∀ j, K (j + 1) = if X j = 47 then (j : Int) else K j) := by rw [hX]; exact HST.out
  clear hX
  have q0 : IntKind.i64.wrap ((s.size : Int) - 1) = (s.size : Int) - 1 := by simp [IntKind.wrap, IntKind.bits, IntKind.signed]; unfold maxLen at hs; omega
  obtain ⟨n, hn⟩ : ∃ n, n = s.size := ⟨_, rfl⟩
  go_enter Tryz.func84, Tryz.ntmps84
  go_wp2
  go_loop [3] (fun q => ∃ j : Nat, j ≤ s.size ∧ q = .int .i64 ((j : Int) - 1) ∧ K j = r) (fun q => (intOf q + 1).toNat)
  case atStart => exact ⟨s.size, Nat.le_refl _, by go_num, HS.out⟩
  case round =>
    obtain ⟨j, hj, rfl, ok⟩ := hrel
    have OK : Hid (K j = r) := ok
    clear ok
    rcases j with _ | j
    · have hr : Hid (r = -1) := by unfold Hid; rw [← OK.out]; exact H0.out
      clear OK HST HS H0
      go_wp2
      go_ret
      exact ⟨by rw [hr.out]; rfl, rfl⟩
    · have e : ((j + 1 : Nat) : Int) - 1 = (j : Int) := by omega
      have ix := HIX.out w j (by omega)
      have ST := HST.out j
      have ge : (0 : Int) ≤ (j : Int) := by omega
      have q1 : IntKind.i64.wrap ((j : Int) - 1) = (j : Int) - 1 := by simp [IntKind.wrap, IntKind.bits, IntKind.signed]; unfold maxLen at hs; omega
      rw [e]
      generalize X j = x at *
      by_cases hx : x = 47
      · have hr : Hid (r = (j : Int)) := by unfold Hid; rw [← OK.out, ST, if_pos hx]
        subst hx
        clear OK ST HST HS H0 e
        go_wp2
        go_ret
        exact ⟨by rw [hr.out]; rfl, rfl⟩
      · have NK : Hid (K j = r) := by unfold Hid; rw [← OK.out, ST, if_neg hx]
        have hx' : (x == 47) = false := by simp [hx]
        clear OK ST HST HS H0 e
        go_wp2
        exact ⟨⟨j, by omega, by go_num, NK.out⟩, by simp [intOf]⟩
set_option maxHeartbeats 1000000 in
theorem rparent_any (s : ByteArray) (w : World) (hs : s.size < 4611686018427387904) :
    Calls Tryz.prog 62 #[.string s] w fun e w' => e = .returned (.string (mk (par (dl s)))) ∧ w' = w := by
  have c := slash_any s w (by unfold maxLen; omega)
  have hr := lasl_lt (dl s)
  rw [dl_len] at hr
  by_cases h0 : lasl (dl s) < 0
  · have e : Hid (mk (par (dl s)) = ⟨#[]⟩) := by unfold Hid; rw [par_neg _ h0]; rfl
    generalize mk (par (dl s)) = r at *
    generalize lasl (dl s) = k at *
    go_enter Tryz.func62, Tryz.ntmps62
    go_wp2_with (go_at_call 84; refine c.mono ?_; rintro e w' ⟨rfl, rfl⟩)
    go_ret
    exact ⟨by rw [e.out]; rfl, rfl⟩
  · obtain ⟨i, hi⟩ : ∃ i : Nat, lasl (dl s) = i := ⟨(lasl (dl s)).toNat, by omega⟩
    have e : Hid (s.extract 0 i = mk (par (dl s))) := par_at s i hi
    rw [hi] at c hr
    have hlt : i < s.size := by omega
    generalize mk (par (dl s)) = r at *
    clear h0 hi hr
    go_enter Tryz.func62, Tryz.ntmps62
    go_wp2_with (go_at_call 84; refine c.mono ?_; rintro e w' ⟨rfl, rfl⟩)
    go_ret
    exact ⟨by rw [← e.out]; rfl, rfl⟩
end Go.Proofs.YtajcabfeabbknaaGreatDoor
namespace Go.Proofs.YtajcabfeabbknaaGreatDoor
open Go.RowKit

theorem info9 : (Tryz.prog.info? 9).map (fun i => (i.zero, i.size, i.bytes)) = some (some (.string ByteArray.empty), 1, 16) := by kernel_rfl
/-- Texts in a row of the call's own. -/
def OT (w : World) (B : Nat) (v : Value) (VA : List (List UInt8)) : Prop := w.ownsRow B 9 1 v VA.length (VA.map fun x => Value.string (mk x))
theorem OT.ss {w : World} {B : Nat} {v : Value} {VA : List (List UInt8)} (h : OT w B v VA) : SS w v (VA.map mk) := by
  have h' := h
  rcases h.2 with ⟨rfl, h2⟩ | ⟨g, cap, cur, rfl, hg, hh, hl, r⟩
  · have e : VA = [] := by simpa using h2
    subst e
    exact ⟨.none, 0, rfl, Nat.le_refl _, .inl rfl⟩
  · refine ⟨_, cap, by rw [List.length_map], by rw [List.length_map]; exact hl, .inr ⟨g, 0, rfl, fun i x hx => ?_⟩⟩
    have := h'.cells (g := g) rfl i (.string x) (by
      rw [List.getElem?_map] at hx ⊢
      cases hv : VA[i]? with
      | none => rw [hv] at hx; cases hx
      | some y => rw [hv] at hx; simp at hx ⊢; exact hx)
    rwa [Addr.add_lit] at this
theorem OT.nil (w : World) (B : Nat) : OT w B (.slice none 0 0) [] := ⟨rfl, .inl ⟨rfl, rfl⟩⟩
theorem OT.below {w w' : World} {B : Nat} {v : Value} {VA : List (List UInt8)} (h : OT w B v VA) (hb : Below w.heap.size w w') : OT w' B v VA := by
  obtain ⟨h1, h2⟩ := h
  refine ⟨h1, ?_⟩
  rcases h2 with h2 | ⟨g, cap, cur, hv, hg, hh, r⟩
  · exact .inl h2
  · exact .inr ⟨g, cap, cur, hv, hg, (hb.block g (Array.getElem?_eq_some_iff.1 hh).1).trans hh, r⟩
theorem ext_at (s : ByteArray) (k i : Nat) : s.extract k i = mk (((dl s).drop k).take (i - k)) := by
  apply dl_inj
  rw [dl_mk]
  exact Lib.extract_data s k i
/-- The bytes from k on, up to i, hold no 47. -/
def Free (l : List UInt8) (k i : Nat) : Prop := ∀ j, k ≤ j → j < i → l.getD j 0 ≠ 47
theorem free_mem {l : List UInt8} {k i : Nat} (h : Free l k i) (hi : i ≤ l.length) : ∀ c ∈ (l.drop k).take (i - k), c ≠ 47 := by
  intro c hc
  obtain ⟨j, hj, rfl⟩ := List.getElem_of_mem hc
  have hj2 : j < i - k := by rw [List.length_take] at hj; omega
  have hj3 : k + j < l.length := by rw [List.length_take, List.length_drop] at hj; omega
  have := h (k + j) (by omega) (by omega)
  simpa [List.getD, hj3] using this
theorem parts_hit {l : List UInt8} {k i : Nat} (h : Free l k i) (hk : k ≤ i) (hi : i < l.length) (hc : l.getD i 0 = 47) : parts (l.drop k) = ((l.drop k).take (i - k)) :: parts (l.drop (i + 1)) := by
  have e1 : l.drop k = (l.drop k).take (i - k) ++ 47 :: l.drop (i + 1) := by
    have h1 : l.drop i = 47 :: l.drop (i + 1) := by
      rw [List.drop_eq_getElem_cons hi]
      simp only [List.getD, List.getElem?_eq_getElem hi, Option.getD_some] at hc
      rw [hc]
    rw [← h1]
    conv => lhs; rw [← List.take_append_drop (i - k) (l.drop k), List.drop_drop, show k + (i - k) = i by omega]
  conv => lhs; rw [e1]
  exact parts_cut _ _ (free_mem h (by omega))
theorem parts_end {l : List UInt8} {k : Nat} (h : Free l k l.length) : parts (l.drop k) = [(l.drop k).take (l.length - k)] := by
  have e1 : (l.drop k).take (l.length - k) = l.drop k := by
    rw [List.take_of_length_le]
    rw [List.length_drop]; exact Nat.le_refl _
  rw [e1]
  refine parts_none _ ?_
  have := free_mem h (Nat.le_refl _)
  rwa [e1] at this

set_option maxHeartbeats 2000000 in
theorem rsplit_any (s : ByteArray) (w : World) (hs : s.size ≤ 1000000) :
    Calls Tryz.prog 83 #[.string s] w fun e w' => ∃ v, e = .returned v ∧ SS w' v (sps s) ∧ Below w.heap.size w w' := by
  by_cases h0 : s.toList = []
  · have e : Hid (sps s = []) := by
      unfold Hid sps
      rw [tol] at h0
      rw [h0]
      rfl
    generalize sps s = xs at *
    go_enter Tryz.func83, Tryz.ntmps83
    go_wp2
    go_ret
    refine ⟨_, rfl, ?_, Below.refl _ _⟩
    rw [e.out]
    exact SS.nil w
  have e : Hid (sps s = (parts (dl s)).map mk) := by
    unfold Hid sps spl
    rw [if_neg (by rw [← tol]; exact h0)]
  have t0 : s.toList.isEmpty = false := by simp [h0]
  clear h0
  obtain ⟨i9, hi, hz0, hz1, hz2⟩ := info_parts info9
  have HIX : Hid (∀ (w : World) (i : Nat), i < s.size → (Instr.index 9 (.string s) (.int .i64 (i : Int))).run Tryz.prog w = .ok (.int .u8 (((dl s).getD i 0).toNat : Int)) w) := fun w i hi => run_index_dl s w i hi
  have HEX : Hid (∀ k i, s.extract k i = mk (((dl s).drop k).take (i - k))) := ext_at s
  have HLL : Hid ((dl s).length = s.size) := rfl
  have HLE : Hid ((parts (dl s)).length ≤ s.size + 1) := by
    unfold Hid
    have := spl_len (dl s)
    unfold spl at this
    rw [dl_len] at this
    split at this
    · rename_i hn; rw [hn]; simp [parts]
    · exact this
  obtain ⟨l, hl⟩ : ∃ l, l = dl s := ⟨_, rfl⟩
  rw [← hl] at e HIX HEX HLL HLE
  clear hl
  go_enter Tryz.func83, Tryz.ntmps83
  go_wp2
  go_loopw [3, 4, 5] (fun o f q wr => ∃ (k i : Nat) (VA : List (List UInt8)), q = .int .i64 i ∧ f = .int .i64 k ∧ k ≤ i ∧ ((i ≤ s.size ∧ Free l k i ∧ VA ++ parts (l.drop k) = parts l) ∨ (i = s.size + 1 ∧ VA = parts l)) ∧ OT wr w.heap.size o VA ∧ Below w.heap.size w wr) (fun _ _ q _ => s.size + 1 - (intOf q).toNat)
  case atStart => exact ⟨0, 0, [], rfl, rfl, Nat.le_refl _, .inl ⟨by omega, fun j h1 h2 => by omega, rfl⟩, OT.nil _ _, Below.refl _ _⟩
  case round =>
    obtain ⟨k, i, VA, rfl, rfl, hki, hst, ho, bel⟩ := hrel
    have HO : Hid (OT wr w.heap.size u3 VA) := ho
    have HB : Hid (Below w.heap.size w wr) := bel
    clear ho bel
    rcases Nat.lt_or_ge s.size i with hgt | hle
    · have hVA : VA = parts l := by
        rcases hst with ⟨h, _⟩ | ⟨_, h⟩
        · omega
        · exact h
      have HR : Hid (SS wr u3 (sps s)) := by
        unfold Hid
        rw [e.out, ← hVA]
        exact HO.out.ss
      have nle : ¬ (i : Int) ≤ (s.size : Int) := by omega
      clear hst hVA HO
      obtain ⟨ao, co, rfl, -⟩ := HR.out.shape
      generalize (sps s).length = nn at *
      go_wp2
      go_ret
      exact ⟨.slice ao nn co, rfl, HR.out, HB.out⟩
    · obtain ⟨hfree, hpa⟩ : Free l k i ∧ VA ++ parts (l.drop k) = parts l := by
        rcases hst with ⟨_, h1, h2⟩ | ⟨h, _⟩
        · exact ⟨h1, h2⟩
        · omega
      have HFR : Hid (Free l k i) := hfree
      have HPA : Hid (VA ++ parts (l.drop k) = parts l) := hpa
      have hVL : VA.length ≤ s.size + 1 := by
        have h1 := HLE.out
        rw [← hpa, List.length_append] at h1
        omega
      have le2 : (i : Int) ≤ (s.size : Int) := by omega
      have le3 : (k : Int) ≤ (i : Int) := by omega
      have q1 : IntKind.i64.wrap ((i : Int) + 1) = ((i + 1 : Nat) : Int) := by simp [IntKind.wrap, IntKind.bits, IntKind.signed]; omega
      clear hst hfree hpa
      obtain ⟨S, hS⟩ : ∃ S, S = s.extract k i := ⟨_, rfl⟩
      have HSX : Hid (S = mk ((l.drop k).take (i - k))) := by unfold Hid; rw [hS]; exact HEX.out k i
      have hS' := hS.symm
      have bal : Below wr.heap.size wr (wr.alloc (.cells #[.string S] 9)) := (Below.refl _ _).alloc (Nat.le_refl _) _
      have OA : Hid ((wr.alloc (.cells #[.string S] 9)).ownsRow w.heap.size 9 1 u3 VA.length (VA.map fun x => Value.string (mk x))) := HO.out.below bal
      have HB3 : Hid (Below w.heap.size w (wr.alloc (.cells #[.string S] 9))) := HB.out.trans (bal.mono HB.out.size)
      have HN : Hid (∀ (i : Nat) u, [Value.string S][i]? = some u → (wr.alloc (.cells #[.string S] 9)).cell? ((⟨wr.heap.size, 0, none⟩ : Addr).add i) = some u) := fun i u hu => by
        rw [Addr.add_lit, Nat.zero_add, cell_of_row _ _ _ _ _ _ (heap_alloc_new _ _)]
        simpa using hu
      have HN1 : Hid (∀ u ∈ [Value.string S], u.oneCell' = true) := fun u hu => by
        simp only [List.mem_singleton] at hu
        rw [hu]; rfl
      obtain ⟨ao, co, rfl, -⟩ := HO.out.ss.shape
      obtain ⟨n, hn⟩ : ∃ n, n = VA.length := ⟨_, rfl⟩
      have HNL : Hid (n = VA.length) := hn
      rw [List.length_map, ← hn] at OA HO ⊢
      have HO2 : Hid (OT wr w.heap.size (.slice ao n co) VA) := HO.out
      rw [← hn] at hVL
      clear bal hS hn HO
      by_cases hend : i = s.size
      · have NXT : Hid ((i + 1 ≤ s.size ∧ Free l (i + 1) (i + 1) ∧ (VA ++ [((l.drop k).take (i - k))]) ++ parts (l.drop (i + 1)) = parts l) ∨ (i + 1 = s.size + 1 ∧ VA ++ [((l.drop k).take (i - k))] = parts l)) := by
          refine .inr ⟨by omega, ?_⟩
          have h1 : Free l k l.length := by rw [HLL.out, ← hend]; exact HFR.out
          rw [hend, ← HPA.out, parts_end h1, HLL.out]
        have te : ((i : Int) == (s.size : Int)) = true := by simp [hend]
        clear HFR HPA hend HIX HEX
        go_wp2_with (at_builtin; refine wpList_append_own_wide _ rfl _ _ 99 rfl w.heap.size 9 i9 (.string ByteArray.empty) 1 16 Tryz.underlying99 hi hz0 hz1 hz2 rfl (by decide) _ n (VA.map fun x => Value.string (mk x)) rfl OA.out ⟨wr.heap.size, 0, none⟩ 1 1 [.string S] rfl rfl HN.out HN1.out (by unfold maxLen; omega) (by omega) HB3.out.size (Hid.out ?_))
        unfold Hid
        intro v4 w4 oa4 hg4 _
        have O4 : Hid (OT w4 w.heap.size v4 (VA ++ [((l.drop k).take (i - k))])) := by
          unfold Hid OT
          rw [List.length_append, List.map_append, ← HNL.out]
          have e5 : [Value.string S] = [((l.drop k).take (i - k))].map fun x => Value.string (mk x) := by rw [HSX.out]; rfl
          rw [← e5]
          exact oa4
        have B4 : Hid (Below w.heap.size w w4) := HB3.out.grown hg4 HB3.out.size (own_base OA.out)
        clear oa4 hg4 OA HN HN1 HB3 HSX HNL
        go_wp2
        go_roundw
        case rel => exact ⟨i + 1, i + 1, _, by go_num, by go_num, Nat.le_refl _, NXT.out, O4.out, B4.out⟩
        case measure => simp [intOf]; omega
      · have te : ((i : Int) == (s.size : Int)) = false := by simp; omega
        have hlt : i < s.size := by omega
        have ix := HIX.out wr i hlt
        by_cases hc : l.getD i 0 = 47
        · have NXT : Hid ((i + 1 ≤ s.size ∧ Free l (i + 1) (i + 1) ∧ (VA ++ [((l.drop k).take (i - k))]) ++ parts (l.drop (i + 1)) = parts l) ∨ (i + 1 = s.size + 1 ∧ VA ++ [((l.drop k).take (i - k))] = parts l)) := by
            refine .inl ⟨by omega, fun j h1 h2 => by omega, ?_⟩
            rw [List.append_assoc, List.singleton_append, ← parts_hit HFR.out hki (by rw [HLL.out]; exact hlt) hc]
            exact HPA.out
          have tc : ((l.getD i 0).toNat : Int) = 47 := by rw [hc]; rfl
          rw [tc] at ix
          clear HFR HPA HIX HEX hc tc
          go_wp2_with (at_builtin; refine wpList_append_own_wide _ rfl _ _ 99 rfl w.heap.size 9 i9 (.string ByteArray.empty) 1 16 Tryz.underlying99 hi hz0 hz1 hz2 rfl (by decide) _ n (VA.map fun x => Value.string (mk x)) rfl OA.out ⟨wr.heap.size, 0, none⟩ 1 1 [.string S] rfl rfl HN.out HN1.out (by unfold maxLen; omega) (by omega) HB3.out.size (Hid.out ?_))
          unfold Hid
          intro v4 w4 oa4 hg4 _
          have O4 : Hid (OT w4 w.heap.size v4 (VA ++ [((l.drop k).take (i - k))])) := by
            unfold Hid OT
            rw [List.length_append, List.map_append, ← HNL.out]
            have e5 : [Value.string S] = [((l.drop k).take (i - k))].map fun x => Value.string (mk x) := by rw [HSX.out]; rfl
            rw [← e5]
            exact oa4
          have B4 : Hid (Below w.heap.size w w4) := HB3.out.grown hg4 HB3.out.size (own_base OA.out)
          clear oa4 hg4 OA HN HN1 HB3 HSX HNL
          go_wp2
          go_roundw
          case rel => exact ⟨i + 1, i + 1, _, by go_num, by go_num, Nat.le_refl _, NXT.out, O4.out, B4.out⟩
          case measure => simp [intOf]; omega
        · have HF2 : Hid (Free l k (i + 1)) := fun j h1 h2 => by
            rcases Nat.lt_or_ge j i with h | h
            · exact HFR.out j h1 h
            · rw [show j = i by omega]; exact hc
          have tc : (((l.getD i 0).toNat : Int) == 47) = false := by
            have : ¬ ((l.getD i 0).toNat : Int) = 47 := fun h => by
              have h2 : (l.getD i 0).toNat = 47 := by omega
              exact hc (UInt8.toNat_inj.1 h2)
            simpa using this
          generalize ((l.getD i 0).toNat : Int) = x at *
          clear HFR HIX HEX hc OA HN HN1 HB3 HSX hS' HNL
          go_wp2
          go_roundw
          case rel => exact ⟨k, i + 1, VA, by go_num, rfl, by omega, .inl ⟨by omega, HF2.out, HPA.out⟩, HO2.out, HB.out⟩
          case measure => simp [intOf]; omega
end Go.Proofs.YtajcabfeabbknaaGreatDoor
namespace Go.Proofs.YtajcabfeabbknaaGreatDoor
open Go.RowKit
set_option maxRecDepth 100000

set_option maxHeartbeats 1000000 in
theorem rcheck_any (s : ByteArray) (w : World) (hs : s.size ≤ maxLen) :
    Calls Tryz.prog 63 #[.string s] w fun e w' => e = .returned (.int .i64 (chk (dl s))) ∧ Below w.heap.size w w' := by
  by_cases h1 : 128 < s.size
  · have hr : Hid (chk (dl s) = 5) := chk_long _ h1
    have h1' : 128 < (s.size : Int) := by omega
    generalize chk (dl s) = r at *
    go_enter Tryz.func63, Tryz.ntmps63
    go_wp2
    go_ret
    exact ⟨by rw [hr.out]; rfl, Below.refl _ _⟩
  have h1' : ¬ 128 < (s.size : Int) := by omega
  have c := rsplit_any s w (by omega)
  have HL : Hid ((sps s).length = (spl (dl s)).length) := sps_len s
  have HN : Hid (∀ (w : World) (j : Nat), Calls Tryz.prog 85 #[.string ((sps s).getD j ⟨#[]⟩)] w fun e w' => e = .returned (.bool (nameB ((spl (dl s)).getD j []))) ∧ w' = w) := fun w j => by
    have := rname_any ((sps s).getD j ⟨#[]⟩) w (by have := sps_size s j; omega)
    rwa [sps_get] at this
  have HBAD : Hid (∀ j, j < (spl (dl s)).length → nameB ((spl (dl s)).getD j []) = false → chk (dl s) = 6) := fun j hj hn => chk_bad _ (by rw [dl_len]; omega) j hj hn
  have HGOOD : Hid ((spl (dl s)).length ≠ 0 → (∀ j, j < (spl (dl s)).length → nameB ((spl (dl s)).getD j []) = true) → chk (dl s) = if 8 < (spl (dl s)).length then 5 else 0) := chk_good _ (by rw [dl_len]; omega)
  have HNIL : Hid ((spl (dl s)).length = 0 → chk (dl s) = 6) := fun h => by
    have h2 := (spl_nil_iff (dl s)).1 (List.length_eq_zero_iff.1 h)
    rw [h2]
    rfl
  have hlen := spl_len (dl s)
  rw [dl_len] at hlen
  generalize chk (dl s) = r at *
  generalize sps s = xs at *
  obtain ⟨NB, hNB⟩ : ∃ NB : Nat → Bool, NB = fun j => nameB ((spl (dl s)).getD j []) := ⟨_, rfl⟩
  have HN : Hid (∀ (w : World) (j : Nat), Calls Tryz.prog 85 #[.string (xs.getD j ⟨#[]⟩)] w fun e w' => e = .returned (.bool (NB j)) ∧ w' = w) := by rw [hNB]; exact HN.out
  have HBAD : Hid (∀ j, j < (spl (dl s)).length → NB j = false → r = 6) := by rw [hNB]; exact HBAD.out
  have HGOOD : Hid ((spl (dl s)).length ≠ 0 → (∀ j, j < (spl (dl s)).length → NB j = true) → r = if 8 < (spl (dl s)).length then 5 else 0) := by rw [hNB]; exact HGOOD.out
  clear hNB
  generalize (spl (dl s)).length = n at *
  go_enter Tryz.func63, Tryz.ntmps63
  go_wp2_with fail
  refine c.mono ?_
  rintro e w1 ⟨v, rfl, ss, b1⟩
  clear c
  have HS : Hid (SS w1 v xs) := ss
  have HB : Hid (Below w.heap.size w w1) := b1
  obtain ⟨a, cp, rfl, hcp⟩ := ss.shape
  rw [HL.out] at HS hcp ⊢
  clear ss b1
  go_wp2_with fail
  go_loop [4] (fun q => ∃ j : Nat, j ≤ n ∧ q = .int .i64 j ∧ ∀ k, k < j → NB k = true) (fun q => n - (intOf q).toNat)
  case atStart => exact ⟨0, by omega, rfl, fun k hk => by omega⟩
  case round =>
    obtain ⟨j, hj, rfl, ok⟩ := hrel
    have OK : Hid (∀ k, k < j → NB k = true) := ok
    clear ok
    by_cases hlt : j < n
    · have lt2 : (j : Int) < (n : Int) := by omega
      obtain ⟨b, off, rfl, hc⟩ := HS.out.at j (by rw [HL.out]; exact hlt)
      have c := HN.out w1 j
      have NK : Hid (NB j = true → ∀ k, k < j + 1 → NB k = true) := fun h k hk => by
        rcases Nat.lt_or_ge k j with h' | h'
        · exact OK.out k h'
        · rw [show k = j by omega]; exact h
      have HF2 : Hid (NB j = false → r = 6) := HBAD.out j hlt
      have q1 : IntKind.i64.wrap ((j : Int) + 1) = ((j + 1 : Nat) : Int) := by simp [IntKind.wrap, IntKind.bits, IntKind.signed]; omega
      generalize xs.getD j ⟨#[]⟩ = x at *
      cases hb : NB j with
      | true =>
        have NK2 : Hid (∀ k, k < j + 1 → NB k = true) := NK.out hb
        rw [hb] at c
        clear NK hb HF2 OK
        go_wp2_with (go_at_call 85; refine c.mono ?_; rintro e w' ⟨rfl, rfl⟩)
        exact ⟨⟨j + 1, by omega, by go_num, NK2.out⟩, by simp [intOf]; omega⟩
      | false =>
        have hr : Hid (r = 6) := HF2.out hb
        rw [hb] at c
        clear NK hb HF2 OK
        go_wp2_with (go_at_call 85; refine c.mono ?_; rintro e w' ⟨rfl, rfl⟩)
        go_ret
        exact ⟨by rw [hr.out]; rfl, HB.out⟩
    · obtain rfl : j = n := by omega
      by_cases h0 : j = 0
      · have hr : Hid (r = 6) := HNIL.out h0
        subst h0
        clear HNIL HBAD HGOOD OK
        go_wp2
        go_ret
        exact ⟨by rw [hr.out]; rfl, HB.out⟩
      have h0' : ((j : Int) == 0) = false := by simp; omega
      have hr : Hid (r = if 8 < j then 5 else 0) := HGOOD.out h0 OK.out
      clear HGOOD HBAD OK HNIL
      by_cases h8 : 8 < j
      · have hr2 : Hid (r = 5) := by unfold Hid; rw [hr.out, if_pos h8]
        have h8' : 8 < (j : Int) := by omega
        clear hr
        go_wp2
        go_ret
        exact ⟨by rw [hr2.out]; rfl, HB.out⟩
      · have hr2 : Hid (r = 0) := by unfold Hid; rw [hr.out, if_neg h8]
        have h8' : ¬ 8 < (j : Int) := by omega
        clear hr
        go_wp2
        go_ret
        exact ⟨by rw [hr2.out]; rfl, HB.out⟩
theorem last_suffix (l : List UInt8) (h : l ≠ []) : [126].isSuffixOf l = decide (((l.getD (l.length - 1) 0).toNat : Int) = 126) := by
  have tn : ∀ c : UInt8, ((c.toNat : Nat) : Int) = 126 ↔ c = 126 := fun c => by
    constructor
    · intro h
      have : c.toNat = 126 := by omega
      exact UInt8.toNat_inj.1 this
    · intro h
      subst h
      rfl
  rcases List.eq_nil_or_concat l with rfl | ⟨t, x, rfl⟩
  · exact absurd rfl h
  · rw [List.concat_eq_append, List.length_append]
    have e : (t ++ [x]).getD (t.length + [x].length - 1) 0 = x := by simp [List.getD]
    rw [e, Bool.eq_iff_iff, List.isSuffixOf_iff_suffix]
    simp only [decide_eq_true_eq, tn]
    constructor
    · rintro ⟨t2, ht2⟩
      have := List.append_inj_right' ht2 rfl
      simpa using this.symm
    · rintro rfl
      exact ⟨t, rfl⟩
set_option maxHeartbeats 1000000 in
theorem rkept_any (s : ByteArray) (w : World) (hs : s.size < 4611686018427387904) :
    Calls Tryz.prog 30 #[.string s] w fun e w' => e = .returned (.string (mk (kep (dl s)))) ∧ Below w.heap.size w w' := by
  have hsz : (s ++ ⟨#[126]⟩ : ByteArray).size = s.size + 1 := by rw [ByteArray.size_append]; rfl
  by_cases h0 : s.toList = []
  · have hr : Hid (mk (kep (dl s)) = ⟨#[]⟩) := by
      unfold Hid
      rw [← tol, h0]
      rfl
    generalize mk (kep (dl s)) = r at *
    go_enter Tryz.func30, Tryz.ntmps30
    go_wp2
    go_ret
    exact ⟨by rw [hr.out]; rfl, Below.refl _ _⟩
  have t0 : s.toList.isEmpty = false := by simp [h0]
  have n0 : dl s ≠ [] := by rw [← tol]; exact h0
  have hpos : 0 < s.size := by
    rw [← dl_len]
    exact List.length_pos_iff.2 n0
  have hsf := last_suffix (dl s) n0
  have ix := run_index_dl s w (s.size - 1) (by omega)
  have q1 : IntKind.i64.wrap ((s.size : Int) - 1) = ((s.size - 1 : Nat) : Int) := by simp [IntKind.wrap, IntKind.bits, IntKind.signed]; omega
  rw [dl_len] at hsf
  generalize (((dl s).getD (s.size - 1) 0).toNat : Int) = x at *
  by_cases hx : x = 126
  · rw [hx] at hsf ix
    have hr : Hid (mk (kep (dl s)) = ⟨#[]⟩) := by
      unfold Hid kep
      rw [if_pos (.inr (.inl hsf))]
      rfl
    generalize mk (kep (dl s)) = r at *
    clear h0 hsf n0 hx
    go_enter Tryz.func30, Tryz.ntmps30
    go_wp2
    go_ret
    exact ⟨by rw [hr.out]; rfl, Below.refl _ _⟩
  · have hsf : [126].isSuffixOf (dl s) = false := by rw [hsf]; simp [hx]
    have hx' : (x == 126) = false := by simp [hx]
    have c2 := rcheck_any (s ++ ⟨#[126]⟩) w (by rw [hsz]; unfold maxLen; omega)
    rw [app126, dl_mk, ← app126] at c2
    by_cases hk : chk (dl s ++ [126]) = 0
    · have hr : Hid (mk (kep (dl s)) = s ++ ⟨#[126]⟩) := by
        unfold Hid kep
        rw [if_neg, app126]
        rintro (h | h | h)
        · exact n0 h
        · rw [hsf] at h; cases h
        · exact h hk
      rw [hk] at c2
      generalize mk (kep (dl s)) = r at *
      generalize hS : s ++ ⟨#[126]⟩ = S at *
      clear h0 hsf n0 hk
      go_enter Tryz.func30, Tryz.ntmps30
      go_wp2_with (go_at_call 63; refine c2.mono ?_; rintro e w' ⟨rfl, b2⟩)
      go_ret
      exact ⟨by rw [hr.out]; rfl, b2⟩
    · have hr : Hid (mk (kep (dl s)) = ⟨#[]⟩) := by
        unfold Hid kep
        rw [if_pos (.inr (.inr hk))]
        rfl
      have t4 : (chk (dl s ++ [126]) == 0) = false := by simp [hk]
      generalize mk (kep (dl s)) = r at *
      generalize chk (dl s ++ [126]) = k at *
      generalize hS : s ++ ⟨#[126]⟩ = S at *
      clear h0 hsf n0
      go_enter Tryz.func30, Tryz.ntmps30
      go_wp2_with (go_at_call 63; refine c2.mono ?_; rintro e w' ⟨rfl, b2⟩)
      go_ret
      exact ⟨by rw [hr.out]; rfl, b2⟩
end Go.Proofs.YtajcabfeabbknaaGreatDoor
namespace Go.Proofs.YtajcabfeabbknaaGreatDoor
open Go.RowKit
set_option maxRecDepth 100000

theorem ltL_end (X Y : List (List UInt8)) (j : Nat) (h : X.length ≤ j ∨ Y.length ≤ j) (hj : j ≤ X.length ∧ j ≤ Y.length) : ltL (X.drop j) (Y.drop j) = decide (X.length < Y.length) := by
  by_cases hx : j < X.length
  · have hy : Y.length = j := by omega
    rw [List.drop_of_length_le (l := Y) (by omega), ltL_nil]
    simp; omega
  · have hx' : X.length = j := by omega
    rw [List.drop_of_length_le (l := X) (by omega)]
    by_cases hy : j < Y.length
    · rw [drop_at Y [] j hy]
      simp [ltL]; omega
    · rw [List.drop_of_length_le (l := Y) (by omega), ltL_nil]
      simp; omega
theorem ltL_step (X Y : List (List UInt8)) (j : Nat) (h1 : j < X.length) (h2 : j < Y.length) : ltL (X.drop j) (Y.drop j) = if X.getD j [] = Y.getD j [] then ltL (X.drop (j + 1)) (Y.drop (j + 1)) else Op.bytesLess (X.getD j []) (Y.getD j []) := by
  rw [drop_at X [] j h1, drop_at Y [] j h2, ltL_cons]

set_option maxHeartbeats 2000000 in
theorem rless_any (s t : ByteArray) (w : World) (hs : s.size ≤ 1000000) (ht : t.size ≤ 1000000) :
    Calls Tryz.prog 61 #[.string s, .string t] w fun e w' => e = .returned (.bool (les (dl s) (dl t))) ∧ Below w.heap.size w w' := by
  have c1 := rsplit_any s w hs
  have HT : Hid (∀ w, Calls Tryz.prog 83 #[.string t] w fun e w' => ∃ v, e = .returned v ∧ SS w' v (sps t) ∧ Below w.heap.size w w') := fun w => rsplit_any t w ht
  have L1 : Hid ((sps s).length ≤ 1000001) := by unfold Hid; have := spl_len (dl s); rw [sps_len]; rw [dl_len] at this; omega
  have hr : Hid (ltL ((sps s).map dl) ((sps t).map dl) = les (dl s) (dl t)) := by
    unfold Hid les
    rw [sps_dl, sps_dl]
  generalize les (dl s) (dl t) = r at *
  generalize sps s = xs at *
  generalize sps t = ys at *
  have HEND : Hid (∀ j, (xs.length ≤ j ∨ ys.length ≤ j) → j ≤ xs.length ∧ j ≤ ys.length → ltL ((xs.map dl).drop j) ((ys.map dl).drop j) = decide (xs.length < ys.length)) := fun j h hj => by
    have := ltL_end (xs.map dl) (ys.map dl) j (by simpa using h) (by simpa using hj)
    simpa using this
  have HSTEP : Hid (∀ j, j < xs.length → j < ys.length → ltL ((xs.map dl).drop j) ((ys.map dl).drop j) = if xs.getD j ⟨#[]⟩ = ys.getD j ⟨#[]⟩ then ltL ((xs.map dl).drop (j + 1)) ((ys.map dl).drop (j + 1)) else Op.bytesLess (xs.getD j ⟨#[]⟩).toList (ys.getD j ⟨#[]⟩).toList) := fun j ha hb => by
    have := ltL_step (xs.map dl) (ys.map dl) j (by simpa using ha) (by simpa using hb)
    rw [dl_getD, dl_getD] at this
    rw [this, tol, tol]
    by_cases he : xs.getD j ⟨#[]⟩ = ys.getD j ⟨#[]⟩
    · rw [if_pos he, if_pos (by rw [he])]
    · rw [if_neg he, if_neg (fun e => he (dl_inj e))]
  obtain ⟨K, hK⟩ : ∃ K : Nat → Bool, K = fun j => ltL ((xs.map dl).drop j) ((ys.map dl).drop j) := ⟨_, rfl⟩
  have HEND : Hid (∀ j, (xs.length ≤ j ∨ ys.length ≤ j) → j ≤ xs.length ∧ j ≤ ys.length → K j = decide (xs.length < ys.length)) := by rw [hK]; exact HEND.out
  have HSTEP : Hid (∀ j, j < xs.length → j < ys.length → K j = if xs.getD j ⟨#[]⟩ = ys.getD j ⟨#[]⟩ then K (j + 1) else Op.bytesLess (xs.getD j ⟨#[]⟩).toList (ys.getD j ⟨#[]⟩).toList) := by rw [hK]; exact HSTEP.out
  have H0 : Hid (K 0 = r) := by rw [hK]; exact hr.out
  clear hK hr
  obtain ⟨n1, hn1⟩ : ∃ n, n = xs.length := ⟨_, rfl⟩
  obtain ⟨n2, hn2⟩ : ∃ n, n = ys.length := ⟨_, rfl⟩
  have HN1 : Hid (n1 = xs.length) := hn1
  have HN2 : Hid (n2 = ys.length) := hn2
  rw [← hn1] at HEND HSTEP L1
  rw [← hn2] at HEND HSTEP
  clear hn1 hn2
  go_enter Tryz.func61, Tryz.ntmps61
  go_wp2_with fail
  refine c1.mono ?_
  rintro e w1 ⟨v1, rfl, s1, b1⟩
  clear c1
  have S1 : Hid (SS w1 v1 xs) := s1
  have B1 : Hid (Below w.heap.size w w1) := b1
  have c2 := HT.out w1
  obtain ⟨a1, k1, rfl, kk1⟩ := s1.shape
  clear s1 b1 HT
  rw [← HN1.out] at S1 kk1 ⊢
  go_wp2_with fail
  refine c2.mono ?_
  rintro e w2 ⟨v2, rfl, s2, b2⟩
  clear c2
  have B2 : Hid (Below w.heap.size w w2) := B1.out.trans (b2.mono B1.out.size)
  have S2 : Hid (SS w2 v2 ys) := s2
  have S1 : Hid (SS w2 (.slice a1 n1 k1) xs) := S1.out.kept b2
  obtain ⟨a2, k2, rfl, kk2⟩ := s2.shape
  clear s2 b2 B1
  rw [← HN2.out] at S2 kk2 ⊢
  have l1 := L1.out
  go_wp2_with fail
  go_loopw [7] (fun q wr => ∃ j : Nat, j ≤ n1 ∧ j ≤ n2 ∧ q = .int .i64 j ∧ K j = r ∧ Below w2.heap.size w2 wr) (fun q _ => n1 - (intOf q).toNat)
  case atStart => exact ⟨0, by omega, by omega, rfl, H0.out, Below.refl _ _⟩
  case round =>
    obtain ⟨j, hj, hj2, rfl, ok, bel⟩ := hrel
    have OK : Hid (K j = r) := ok
    have BE : Hid (Below w2.heap.size w2 wr) := bel
    have B3 : Hid (Below w.heap.size w wr) := B2.out.trans (bel.mono B2.out.size)
    have S1 : Hid (SS wr (.slice a1 n1 k1) xs) := S1.out.kept bel
    have S2 : Hid (SS wr (.slice a2 n2 k2) ys) := S2.out.kept bel
    clear ok bel
    by_cases hlt : j < n1
    · have lt2 : (j : Int) < (n1 : Int) := by omega
      by_cases hlt2 : j < n2
      · have lt4 : (j : Int) < (n2 : Int) := by omega
        obtain ⟨b1, o1, rfl, hc1⟩ := S1.out.at j (by rw [← HN1.out]; exact hlt)
        obtain ⟨b2, o2, rfl, hc2⟩ := S2.out.at j (by rw [← HN2.out]; exact hlt2)
        have q1 : IntKind.i64.wrap ((j : Int) + 1) = ((j + 1 : Nat) : Int) := by simp [IntKind.wrap, IntKind.bits, IntKind.signed]; omega
        have ST : Hid (K j = if xs.getD j ⟨#[]⟩ = ys.getD j ⟨#[]⟩ then K (j + 1) else Op.bytesLess (xs.getD j ⟨#[]⟩).toList (ys.getD j ⟨#[]⟩).toList) := HSTEP.out j hlt hlt2
        clear HSTEP HEND
        generalize xs.getD j ⟨#[]⟩ = x at *
        generalize ys.getD j ⟨#[]⟩ = y at *
        by_cases he : x = y
        · subst he
          have NK : Hid (K (j + 1) = r) := by unfold Hid; rw [← OK.out, ST.out, if_pos rfl]
          clear ST OK
          go_wp2_with fail
          go_region
          go_wp2
          go_roundw
          case rel => exact ⟨j + 1, by omega, by omega, by go_num, NK.out, BE.out.drew⟩
          case measure => simp [intOf]; omega
        · have hr : Hid (Op.bytesLess x.toList y.toList = r) := by unfold Hid; rw [← OK.out, ST.out, if_neg he]
          have te : (x.toList == y.toList) = false := by rw [tl_beq]; simp [he]
          clear ST OK he
          go_wp2_with fail
          go_region
          go_wp2_with fail
          go_region
          go_wp2
          go_ret
          exact ⟨by rw [← hr.out]; rfl, B3.out.drew.drew⟩
      · have lt4 : ¬ (j : Int) < (n2 : Int) := by omega
        have hr : Hid (decide (n1 < n2) = r) := by unfold Hid; rw [← OK.out, HEND.out j (.inr (by omega)) ⟨hj, hj2⟩]
        clear HSTEP HEND OK
        go_wp2
        go_ret
        exact ⟨by rw [← hr.out]; rfl, B3.out⟩
    · obtain rfl : j = n1 := by omega
      have hr : Hid (decide (j < n2) = r) := by unfold Hid; rw [← OK.out, HEND.out j (.inl (by omega)) ⟨hj, hj2⟩]
      clear HSTEP HEND OK
      go_wp2
      go_ret
      exact ⟨by rw [← hr.out]; rfl, B3.out⟩
end Go.Proofs.YtajcabfeabbknaaGreatDoor
