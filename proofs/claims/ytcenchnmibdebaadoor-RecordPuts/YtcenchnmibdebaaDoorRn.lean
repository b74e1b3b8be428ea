/-
  What the document's Name, Reserved, slash, Parent, Base and Under answer.
-/
import Derived.Test.YtcenchnmibdebaaDoorSp
namespace Go.Proofs.YtcenchnmibdebaaDoor
open Go.RowKit
set_option maxRecDepth 100000

set_option maxHeartbeats 1000000 in
theorem rname_any (s : ByteArray) (w : World) (hs : s.size ≤ maxLen) :
    Calls Tryd.prog 55 #[.string s] w fun e w' => e = .returned (.bool (nameB (dl s))) ∧ w' = w := by
  have HF : Hid (s.toList = [] ∨ 32 < s.size ∨ s.toList = [46] ∨ s.toList = [46, 46] ∨ (∃ i, i < s.size ∧ okc ((dl s).getD i 0) = false) → nameB (dl s) = false) := fun h => by
    rw [tol, ← dl_len] at h
    exact nameB_false _ h
  have HT : Hid (s.toList ≠ [] → s.size ≤ 32 → s.toList ≠ [46] → s.toList ≠ [46, 46] → (∀ i, i < s.size → okc ((dl s).getD i 0) = true) → nameB (dl s) = true) := fun h0 h1 h2 h3 h => by
    rw [tol] at h0 h2 h3
    exact nameB_true _ h0 h1 h2 h3 h
  have HIX : Hid (∀ (w : World) (i : Nat), i < s.size → (Instr.index 9 (.string s) (.int .i64 (i : Int))).run Tryd.prog w = .ok (.int .u8 (((dl s).getD i 0).toNat : Int)) w) := fun w i hi => run_index_dl s w i hi
  have H0 : Hid (s.size = 0 → s.toList = []) := fun h => by
    rw [tol]
    exact List.length_eq_zero_iff.1 h
  have H0' : Hid (s.toList = [] → s.size = 0) := fun h => by
    rw [tol] at h
    rw [← dl_len, h]
    rfl
  obtain ⟨l, hl⟩ : ∃ l, l = dl s := ⟨_, rfl⟩
  rw [← hl] at HF HT HIX ⊢
  clear hl
  generalize nameB l = r at *
  by_cases h0 : s.size = 0
  · have hr : Hid (r = false) := HF.out (.inl (H0.out h0))
    have h0' : (s.size : Int) < 1 := by omega
    clear HF HT
    go_enter Tryd.func55, Tryd.ntmps55
    go_wp2
    go_ret
    exact ⟨by rw [hr.out]; rfl, rfl⟩
  have h0' : ¬ (s.size : Int) < 1 := by omega
  by_cases h1 : 32 < s.size
  · have hr : Hid (r = false) := HF.out (.inr (.inl h1))
    have h1' : 32 < (s.size : Int) := by omega
    clear HF HT
    go_enter Tryd.func55, Tryd.ntmps55
    go_wp2
    go_ret
    exact ⟨by rw [hr.out]; rfl, rfl⟩
  have h1' : ¬ 32 < (s.size : Int) := by omega
  by_cases h2 : s.toList = [46]
  · have hr : Hid (r = false) := HF.out (.inr (.inr (.inl h2)))
    clear HF HT
    go_enter Tryd.func55, Tryd.ntmps55
    go_wp2
    go_ret
    exact ⟨by rw [hr.out]; rfl, rfl⟩
  by_cases h3 : s.toList = [46, 46]
  · have hr : Hid (r = false) := HF.out (.inr (.inr (.inr (.inl h3))))
    clear HF HT
    go_enter Tryd.func55, Tryd.ntmps55
    go_wp2
    go_ret
    exact ⟨by rw [hr.out]; rfl, rfl⟩
  have HT' : Hid ((∀ i, i < s.size → okc (l.getD i 0) = true) → r = true) := HT.out (fun e => h0 (H0'.out e)) (by omega) h2 h3
  have HF' : Hid (∀ i, i < s.size → okc (l.getD i 0) = false → r = false) := fun i hi h => HF.out (.inr (.inr (.inr (.inr ⟨i, hi, h⟩))))
  have t2 : (s.toList == [46]) = false := by simp [h2]
  have t3 : (s.toList == [46, 46]) = false := by simp [h3]
  clear HF HT h0 h2 h3 H0 H0'
  go_enter Tryd.func55, Tryd.ntmps55
  go_wp2
  go_loop [3] (fun q => ∃ j : Nat, j ≤ s.size ∧ q = .int .i64 j ∧ ∀ k, k < j → okc (l.getD k 0) = true) (fun q => s.size - (intOf q).toNat)
  case atStart => exact ⟨0, by omega, rfl, fun k hk => by omega⟩
  case round =>
    obtain ⟨j, hj, rfl, ok⟩ := hrel
    have OK : Hid (∀ k, k < j → okc (l.getD k 0) = true) := ok
    clear ok
    by_cases hlt : j < s.size
    · have lt2 : (j : Int) < (s.size : Int) := by omega
      have ix := HIX.out w j hlt
      have HF2 := HF'.out j hlt
      have NK : Hid (okc (l.getD j 0) = true → ∀ k, k < j + 1 → okc (l.getD k 0) = true) := fun h k hk => by
        rcases Nat.lt_or_ge k j with h' | h'
        · exact OK.out k h'
        · rw [show k = j by omega]; exact h
      have HE : Hid (okc (l.getD j 0) = (decide (33 ≤ ((l.getD j 0).toNat : Int)) && decide (((l.getD j 0).toNat : Int) ≤ 126) && decide (((l.getD j 0).toNat : Int) ≠ 47))) := rfl
      have q1 : IntKind.i64.wrap ((j : Int) + 1) = ((j + 1 : Nat) : Int) := by simp [IntKind.wrap, IntKind.bits, IntKind.signed]; unfold maxLen at hs; omega
      generalize okc (l.getD j 0) = ok at *
      generalize hx : ((l.getD j 0).toNat : Int) = x at *
      clear hx OK
      by_cases k1 : x = 47
      · have hr : Hid (r = false) := HF2 (by rw [HE.out, k1]; rfl)
        subst k1
        clear NK HF2 HE
        go_wp2
        go_ret
        exact ⟨by rw [hr.out]; rfl, rfl⟩
      have k1' : (x == 47) = false := by simp [k1]
      by_cases k2 : x < 33
      · have hr : Hid (r = false) := HF2 (by rw [HE.out]; simp; omega)
        clear NK HF2 HE
        go_wp2
        go_ret
        exact ⟨by rw [hr.out]; rfl, rfl⟩
      by_cases k3 : 126 < x
      · have hr : Hid (r = false) := HF2 (by rw [HE.out]; simp; omega)
        clear NK HF2 HE
        go_wp2
        go_ret
        exact ⟨by rw [hr.out]; rfl, rfl⟩
      have NK2 : Hid (∀ k, k < j + 1 → okc (l.getD k 0) = true) := NK.out (by rw [HE.out]; simp; omega)
      clear NK HF2 HE
      go_wp2
      exact ⟨⟨j + 1, by omega, by go_num, NK2.out⟩, by simp [intOf]; omega⟩
    · obtain rfl : j = s.size := by omega
      have hr : Hid (r = true) := HT'.out OK.out
      clear HT' HF' OK
      go_wp2
      go_ret
      exact ⟨by rw [hr.out]; rfl, rfl⟩
theorem res_take (s : ByteArray) : (decide (8 ≤ (s.size : Int)) && ((s.extract 0 8).toList == [46, 115, 117, 109, 112, 116, 101, 114])) = res (dl s) := by
  have h := Lib.hasPrefix_raw s ⟨#[46, 115, 117, 109, 112, 116, 101, 114]⟩
  have e1 : (⟨#[46, 115, 117, 109, 112, 116, 101, 114]⟩ : ByteArray).size = 8 := rfl
  have e2 : (⟨#[46, 115, 117, 109, 112, 116, 101, 114]⟩ : ByteArray).toList = [46, 115, 117, 109, 112, 116, 101, 114] := by rw [Lib.toList_data]
  rw [e1, e2] at h
  have e3 : decide (8 ≤ (s.size : Int)) = decide (8 ≤ s.size) := by
    by_cases k : 8 ≤ s.size
    · simp [k]; omega
    · simp [k]; omega
  rw [e3]
  exact h
set_option maxHeartbeats 1000000 in
theorem rreserved_any (s : ByteArray) (w : World) :
    Calls Tryd.prog 37 #[.string s] w fun e w' => e = .returned (.bool (res (dl s))) ∧ w' = w := by
  rw [← res_take]
  by_cases h : 8 ≤ s.size
  · have h' : 8 ≤ (s.size : Int) := by omega
    go_enter Tryd.func37, Tryd.ntmps37
    go_wp2
    go_ret
    exact ⟨by simp [h'], rfl⟩
  · have h' : ¬ 8 ≤ (s.size : Int) := by omega
    go_enter Tryd.func37, Tryd.ntmps37
    go_wp2
    go_ret
    exact ⟨by simp; omega, rfl⟩
theorem data_get (s : ByteArray) (i : Nat) : s.data[i]! = (dl s).getD i 0 := by
  by_cases h : i < s.data.size
  · have h1 : s.data[i]? = some s.data[i] := Array.getElem?_eq_getElem h
    rw [getElem!_pos s.data i h]
    simp [dl, List.getD, h1]
  · have h1 : s.data[i]? = none := Array.getElem?_eq_none (by omega)
    rw [getElem!_neg s.data i h]
    simp [dl, List.getD, h1]
    rfl
theorem und_raw (p d : ByteArray) (h0 : d.toList ≠ []) (h1 : d.size < p.size) : und (dl p) (dl d) = (((p.extract 0 d.size).toList == d.toList) && decide ((((dl p).getD d.size 0).toNat : Int) = 47)) := by
  have hd : dl d ≠ [] := by rw [← tol]; exact h0
  unfold und
  rw [if_neg hd, Lib.toList_data, Lib.toList_data]
  have e1 : (p.extract 0 d.size).data.toList = (dl p).take (dl d).length := by rw [Lib.extract_data]; simp
  rw [e1]
  have hl : (dl d).length < (dl p).length := h1
  have ez : d.size = (dl d).length := rfl
  rw [ez]
  generalize dl p = P at *
  have : d.data.toList = dl d := rfl
  rw [this]
  generalize dl d = D at *
  have tn : ∀ c : UInt8, ((c.toNat : Nat) : Int) = 47 ↔ c = 47 := fun c => by
    constructor
    · intro h
      have : c.toNat = 47 := by omega
      exact UInt8.toNat_inj.1 this
    · intro h
      subst h
      rfl
  rw [Bool.eq_iff_iff, List.isPrefixOf_iff_prefix]
  simp only [Bool.and_eq_true, beq_iff_eq, decide_eq_true_eq, tn]
  constructor
  · rintro ⟨t, rfl⟩
    simp
  · rintro ⟨h2, h3⟩
    have h4 : P.drop D.length = 47 :: P.drop (D.length + 1) := by
      rw [List.drop_eq_getElem_cons hl]
      simp only [List.getD, List.getElem?_eq_getElem hl, Option.getD_some] at h3
      rw [h3]
    refine ⟨P.drop (D.length + 1), ?_⟩
    rw [List.append_assoc]
    show D ++ 47 :: P.drop (D.length + 1) = P
    rw [← h4]
    conv => lhs; rw [← h2]
    rw [h2]
    conv => rhs; rw [← List.take_append_drop D.length P, h2]
end Go.Proofs.YtcenchnmibdebaaDoor
