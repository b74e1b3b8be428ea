/-
  What the document's Name, Reserved, slash, Parent, Base and Under answer.
-/
import Derived.Test.YtdomknajkipmnaaDoorSp
namespace Go.Proofs.YtdomknajkipmnaaDoor
open Go.RowKit

set_option maxHeartbeats 1000000 in
theorem rname_any (s : ByteArray) (w : World) (hs : s.size ≤ maxLen) :
    Calls Tryd.prog 64 #[.string s] w fun e w' => e = .returned (.bool (nameB (dl s))) ∧ w' = w := by
  have HF : Hid (s.toList = [] ∨ 32 < s.size ∨ s.toList = [46] ∨ s.toList = [46, 46] ∨ (∃ i, i < s.size ∧ okc ((dl s).getD i 0) = false) → nameB (dl s) = false) := fun h => by
    rw [tol, ← dl_len] at h
    exact nameB_false _ h
  have HT : Hid (s.toList ≠ [] → s.size ≤ 32 → s.toList ≠ [46] → s.toList ≠ [46, 46] → (∀ i, i < s.size → okc ((dl s).getD i 0) = true) → nameB (dl s) = true) := fun h0 h1 h2 h3 h => by
    rw [tol] at h0 h2 h3
    exact nameB_true _ h0 h1 h2 h3 h
  have HIX : Hid (∀ (w : World) (i : Nat), i < s.size → (Instr.index 9 (.string s) (.int .i64 (i : Int))).run Tryd.prog w = .ok (.int .u8 (((dl s).getD i 0).toNat : Int)) w) := fun w i hi => run_index_dl s w i hi
  have H0 : Hid (s.size = 0 → s.toList = []) := fun h => by
    rw [tol]
    exact List.length_eq_zero_iff.1 h
  have H0' : Hid (s.toList = [] → s.size = 0) := fun h => by
    rw [tol] at h
    rw [← dl_len, h]
    rfl
  obtain ⟨l, hl⟩ : ∃ l, l = dl s := ⟨_, rfl⟩
  rw [← hl] at HF HT HIX ⊢
  clear hl
  generalize nameB l = r at *
  by_cases h0 : s.size = 0
  · have hr : Hid (r = false) := HF.out (.inl (H0.out h0))
    have h0' : (s.size : Int) < 1 := by omega
    clear HF HT
    go_enter Tryd.func64, Tryd.ntmps64
    go_wp2
    go_ret
    exact ⟨by rw [hr.out]; rfl, rfl⟩
  have h0' : ¬ (s.size : Int) < 1 := by omega
  by_cases h1 : 32 < s.size
  · have hr : Hid (r = false) := HF.out (.inr (.inl h1))
    have h1' : 32 < (s.size : Int) := by omega
    clear HF HT
    go_enter Tryd.func64, Tryd.ntmps64
    go_wp2
    go_ret
    exact ⟨by rw [hr.out]; rfl, rfl⟩
  have h1' : ¬ 32 < (s.size : Int) := by omega
  by_cases h2 : s.toList = [46]
  · have hr : Hid (r = false) := HF.out (.inr (.inr (.inl h2)))
    clear HF HT
    go_enter Tryd.func64, Tryd.ntmps64
    go_wp2
    go_ret
    exact ⟨by rw [hr.out]; rfl, rfl⟩
  by_cases h3 : s.toList = [46, 46]
  · have hr : Hid (r = false) := HF.out (.inr (.inr (.inr (.inl h3))))
    clear HF HT
    go_enter Tryd.func64, Tryd.ntmps64
    go_wp2
    go_ret
    exact ⟨by rw [hr.out]; rfl, rfl⟩
  have HT' : Hid ((∀ i, i < s.size → okc (l.getD i 0) = true) → r = true) := HT.out (fun e => h0 (H0'.out e)) (by omega) h2 h3
  have HF' : Hid (∀ i, i < s.size → okc (l.getD i 0) = false → r = false) := fun i hi h => HF.out (.inr (.inr (.inr (.inr ⟨i, hi, h⟩))))
  have t2 : (s.toList == [46]) = false := by simp [h2]
  have t3 : (s.toList == [46, 46]) = false := by simp [h3]
  clear HF HT h0 h2 h3 H0 H0'
  go_enter Tryd.func64, Tryd.ntmps64
  go_wp2
  go_loop [3] (fun q => ∃ j : Nat, j ≤ s.size ∧ q = .int .i64 j ∧ ∀ k, k < j → okc (l.getD k 0) = true) (fun q => s.size - (intOf q).toNat)
  case atStart => exact ⟨0, by omega, rfl, fun k hk => by omega⟩
  case round =>
    obtain ⟨j, hj, rfl, ok⟩ := hrel
    have OK : Hid (∀ k, k < j → okc (l.getD k 0) = true) := ok
    clear ok
    by_cases hlt : j < s.size
    · have lt2 : (j : Int) < (s.size : Int) := by omega
      have ix := HIX.out w j hlt
      have HF2 := HF'.out j hlt
      have NK : Hid (okc (l.getD j 0) = true → ∀ k, k < j + 1 → okc (l.getD k 0) = true) := fun h k hk => by
        rcases Nat.lt_or_ge k j with h' | h'
        · exact OK.out k h'
        · rw [show k = j by omega]; exact h
      have HE : Hid (okc (l.getD j 0) = (decide (33 ≤ ((l.getD j 0).toNat : Int)) && decide (((l.getD j 0).toNat : Int) ≤ 126) && decide (((l.getD j 0).toNat : Int) ≠ 47))) := rfl
      have q1 : IntKind.i64.wrap ((j : Int) + 1) = ((j + 1 : Nat) : Int) := by simp [IntKind.wrap, IntKind.bits, IntKind.signed]; unfold maxLen at hs; omega
      generalize okc (l.getD j 0) = ok at *
      generalize hx : ((l.getD j 0).toNat : Int) = x at *
      clear hx OK
      by_cases k1 : x = 47
      · have hr : Hid (r = false) := HF2 (by rw [HE.out, k1]; rfl)
        subst k1
        clear NK HF2 HE
        go_wp2
        go_ret
        exact ⟨by rw [hr.out]; rfl, rfl⟩
      have k1' : (x == 47) = false := by simp [k1]
      by_cases k2 : x < 33
      · have hr : Hid (r = false) := HF2 (by rw [HE.out]; simp; omega)
        clear NK HF2 HE
        go_wp2
        go_ret
        exact ⟨by rw [hr.out]; rfl, rfl⟩
      by_cases k3 : 126 < x
      · have hr : Hid (r = false) := HF2 (by rw [HE.out]; simp; omega)
        clear NK HF2 HE
        go_wp2
        go_ret
        exact ⟨by rw [hr.out]; rfl, rfl⟩
      have NK2 : Hid (∀ k, k < j + 1 → okc (l.getD k 0) = true) := NK.out (by rw [HE.out]; simp; omega)
      clear NK HF2 HE
      go_wp2
      exact ⟨⟨j + 1, by omega, by go_num, NK2.out⟩, by simp [intOf]; omega⟩
    · obtain rfl : j = s.size := by omega
      have hr : Hid (r = true) := HT'.out OK.out
      clear HT' HF' OK
      go_wp2
      go_ret
      exact ⟨by rw [hr.out]; rfl, rfl⟩
theorem res_take (s : ByteArray) : (decide (8 ≤ (s.size : Int)) && ((s.extract 0 8).toList == [46, 115, 117, 109, 112, 116, 101, 114])) = res (dl s) := by
  have h := Lib.hasPrefix_raw s ⟨#[46, 115, 117, 109, 112, 116, 101, 114]⟩
  have e1 : (⟨#[46, 115, 117, 109, 112, 116, 101, 114]⟩ : ByteArray).size = 8 := rfl
  have e2 : (⟨#[46, 115, 117, 109, 112, 116, 101, 114]⟩ : ByteArray).toList = [46, 115, 117, 109, 112, 116, 101, 114] := by rw [Lib.toList_data]
  rw [e1, e2] at h
  have e3 : decide (8 ≤ (s.size : Int)) = decide (8 ≤ s.size) := by
    by_cases k : 8 ≤ s.size
    · simp [k]; omega
    · simp [k]; omega
  rw [e3]
  exact h
set_option maxHeartbeats 1000000 in
theorem rreserved_any (s : ByteArray) (w : World) :
    Calls Tryd.prog 38 #[.string s] w fun e w' => e = .returned (.bool (res (dl s))) ∧ w' = w := by
  rw [← res_take]
  by_cases h : 8 ≤ s.size
  · have h' : 8 ≤ (s.size : Int) := by omega
    go_enter Tryd.func38, Tryd.ntmps38
    go_wp2
    go_ret
    exact ⟨by simp [h'], rfl⟩
  · have h' : ¬ 8 ≤ (s.size : Int) := by omega
    go_enter Tryd.func38, Tryd.ntmps38
    go_wp2
    go_ret
    exact ⟨by simp; omega, rfl⟩
theorem data_get (s : ByteArray) (i : Nat) : s.data[i]! = (dl s).getD i 0 := by
  by_cases h : i < s.data.size
  · have h1 : s.data[i]? = some s.data[i] := Array.getElem?_eq_getElem h
    rw [getElem!_pos s.data i h]
    simp [dl, List.getD, h1]
  · have h1 : s.data[i]? = none := Array.getElem?_eq_none (by omega)
    rw [getElem!_neg s.data i h]
    simp [dl, List.getD, h1]
    rfl
set_option maxHeartbeats 1000000 in
theorem slash_any (s : ByteArray) (w : World) (hs : s.size ≤ maxLen) :
    Calls Tryd.prog 57 #[.string s] w fun e w' => e = .returned (.int .i64 (lasl (dl s))) ∧ w' = w := by
  have HIX : Hid (∀ (w : World) (i : Nat), i < s.size → (Instr.index 9 (.string s) (.int .i64 (i : Int))).run Tryd.prog w = .ok (.int .u8 (((dl s).getD i 0).toNat : Int)) w) := fun w i hi => run_index_dl s w i hi
  obtain ⟨K, hK⟩ : ∃ K : Nat → Int, K = Lib.lastIdx s 47 := ⟨_, rfl⟩
  have HS : Hid (K s.size = lasl (dl s)) := by
    unfold Hid lasl
    rw [hK, mk_dl]
    rfl
  have H0 : Hid (K 0 = -1) := by rw [hK]; rfl
  have HST : Hid (∀ j, K (j + 1) = if (((dl s).getD j 0).toNat : Int) = 47 then (j : Int) else K j) := fun j => by
    rw [hK, Lib.lastIdx, data_get]
  generalize lasl (dl s) = r at *
  clear hK
  obtain ⟨X, hX⟩ : ∃ X : Nat → Int, X = fun j => (((dl s).getD j 0).toNat : Int) := ⟨_, rfl⟩
  have HIX : Hid (∀ (w : World) (i : Nat), i < s.size → (Instr.index 9 (.string s) (.int .i64 (i : Int))).run Tryd.prog w = .ok (.int .u8 (X i)) w) := by rw [hX]; exact HIX.out
  have HST : Hid (∀ j, K (j + 1) = if X j = 47 then (j : Int) else K j) := by rw [hX]; exact HST.out
  clear hX
  have q0 : IntKind.i64.wrap ((s.size : Int) - 1) = (s.size : Int) - 1 := by simp [IntKind.wrap, IntKind.bits, IntKind.signed]; unfold maxLen at hs; omega
  obtain ⟨n, hn⟩ : ∃ n, n = s.size := ⟨_, rfl⟩
  go_enter Tryd.func57, Tryd.ntmps57
  go_wp2
  go_loop [3] (fun q => ∃ j : Nat, j ≤ s.size ∧ q = .int .i64 ((j : Int) - 1) ∧ K j = r) (fun q => (intOf q + 1).toNat)
  case atStart => exact ⟨s.size, Nat.le_refl _, by go_num, HS.out⟩
  case round =>
    obtain ⟨j, hj, rfl, ok⟩ := hrel
    have OK : Hid (K j = r) := ok
    clear ok
    rcases j with _ | j
    · have hr : Hid (r = -1) := by unfold Hid; rw [← OK.out]; exact H0.out
      clear OK HST HS H0
      go_wp2
      go_ret
      exact ⟨by rw [hr.out]; rfl, rfl⟩
    · have e : ((j + 1 : Nat) : Int) - 1 = (j : Int) := by omega
      have ix := HIX.out w j (by omega)
      have ST := HST.out j
      have ge : (0 : Int) ≤ (j : Int) := by omega
      have q1 : IntKind.i64.wrap ((j : Int) - 1) = (j : Int) - 1 := by simp [IntKind.wrap, IntKind.bits, IntKind.signed]; unfold maxLen at hs; omega
      rw [e]
      generalize X j = x at *
      by_cases hx : x = 47
      · have hr : Hid (r = (j : Int)) := by unfold Hid; rw [← OK.out, ST, if_pos hx]
        subst hx
        clear OK ST HST HS H0 e
        go_wp2
        go_ret
        exact ⟨by rw [hr.out]; rfl, rfl⟩
      · have NK : Hid (K j = r) := by unfold Hid; rw [← OK.out, ST, if_neg hx]
        have hx' : (x == 47) = false := by simp [hx]
        clear OK ST HST HS H0 e
        go_wp2
        exact ⟨⟨j, by omega, by go_num, NK.out⟩, by simp [intOf]⟩
set_option maxHeartbeats 1000000 in
theorem rparent_any (s : ByteArray) (w : World) (hs : s.size < 4611686018427387904) :
    Calls Tryd.prog 42 #[.string s] w fun e w' => e = .returned (.string (mk (par (dl s)))) ∧ w' = w := by
  have c := slash_any s w (by unfold maxLen; omega)
  have hr := lasl_lt (dl s)
  rw [dl_len] at hr
  by_cases h0 : lasl (dl s) < 0
  · have e : Hid (mk (par (dl s)) = ⟨#[]⟩) := by unfold Hid; rw [par_neg _ h0]; rfl
    generalize mk (par (dl s)) = r at *
    generalize lasl (dl s) = k at *
    go_enter Tryd.func42, Tryd.ntmps42
    go_wp2_with (go_at_call 57; refine c.mono ?_; rintro e w' ⟨rfl, rfl⟩)
    go_ret
    exact ⟨by rw [e.out]; rfl, rfl⟩
  · obtain ⟨i, hi⟩ : ∃ i : Nat, lasl (dl s) = i := ⟨(lasl (dl s)).toNat, by omega⟩
    have e : Hid (s.extract 0 i = mk (par (dl s))) := par_at s i hi
    rw [hi] at c hr
    have hlt : i < s.size := by omega
    generalize mk (par (dl s)) = r at *
    clear h0 hi hr
    go_enter Tryd.func42, Tryd.ntmps42
    go_wp2_with (go_at_call 57; refine c.mono ?_; rintro e w' ⟨rfl, rfl⟩)
    go_ret
    exact ⟨by rw [← e.out]; rfl, rfl⟩
end Go.Proofs.YtdomknajkipmnaaDoor
