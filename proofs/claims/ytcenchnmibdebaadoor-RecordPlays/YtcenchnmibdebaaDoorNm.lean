/-
  What path.Name answers: whether a text is a name; and Reserved.
-/
import Derived.Test.YtcenchnmibdebaaDoorPl
import Derived.Deep.QuietTactic
import Derived.BigQuiet
import Derived.WalkLawsBesides
import Derived.WalkSpells
namespace Go.Proofs.YtcenchnmibdebaaDoor
open Go.RowKit
set_option maxRecDepth 100000

theorem run_index_dl (s : ByteArray) (w : World) (i : Nat) (h : i < s.size) : (Instr.index 9 (.string s) (.int .i64 (i : Int))).run Tryd.prog w = .ok (.int .u8 (((dl s).getD i 0).toNat : Int)) w := by
  have e : s[i]? = some s[i] := by rw [getElem?_pos s i h]
  have e2 : (dl s).getD i 0 = s[i] := by
    have h' : i < s.data.toList.length := h
    simp only [dl, List.getD, List.getElem?_eq_getElem h', Option.getD_some]
    rfl
  rw [e2]
  simp [Instr.index, asIntOf, run_underlying Tryd.underlying9, e]
theorem tl_beq (s t : ByteArray) : (s.toList == t.toList) = decide (s = t) := by
  rw [tol, tol]
  by_cases h : s = t
  · simp [h]
  · have : ¬ dl s = dl t := fun e => h (dl_inj e)
    simp [h]
    simpa using this

set_option maxHeartbeats 1000000 in
theorem ofName_any (c : Int) (w : World) :
    Calls Tryd.prog 77 #[.int .u8 c] w fun e w' => e = .returned (.bool (decide (33 ≤ c) && decide (c ≤ 126) && decide (c ≠ 47))) ∧ w' = w := by
  by_cases h1 : 33 ≤ c
  · by_cases h2 : c ≤ 126
    · by_cases h3 : c = 47
      · subst h3
        go_enter Tryd.func77, Tryd.ntmps77
        go_wp2
        go_ret
        exact ⟨rfl, rfl⟩
      · have t3 : (c != 47) = true := by simp [h3]
        go_enter Tryd.func77, Tryd.ntmps77
        go_wp2
        go_ret
        exact ⟨by simp [h1, h2, h3], rfl⟩
    · go_enter Tryd.func77, Tryd.ntmps77
      go_wp2
      go_ret
      exact ⟨by simp; omega, rfl⟩
  · go_enter Tryd.func77, Tryd.ntmps77
    go_wp2
    go_ret
    exact ⟨by simp; omega, rfl⟩

theorem nameB_true (l : List UInt8) (h0 : l ≠ []) (h1 : l.length ≤ 32) (h2 : l ≠ [46]) (h3 : l ≠ [46, 46]) (h : ∀ i, i < l.length → okc (l.getD i 0) = true) : nameB l = true := by
  unfold nameB
  simp only [h0, h1, h2, h3, ne_eq, not_false_eq_true, decide_true, Bool.true_and, List.all_eq_true]
  intro c hc
  obtain ⟨i, hi, rfl⟩ := List.getElem_of_mem hc
  have := h i hi
  simpa [List.getD, hi] using this
theorem nameB_false (l : List UInt8) (h : l = [] ∨ 32 < l.length ∨ l = [46] ∨ l = [46, 46] ∨ ∃ i, i < l.length ∧ okc (l.getD i 0) = false) : nameB l = false := by
  rcases h with rfl | h | rfl | rfl | ⟨i, hi, h⟩
  · rfl
  · unfold nameB; have : ¬ l.length ≤ 32 := by omega
    simp [this]
  · rfl
  · rfl
  · cases hn : nameB l with
    | false => rfl
    | true =>
      unfold nameB at hn
      simp only [Bool.and_eq_true, List.all_eq_true] at hn
      have := hn.2 l[i] (List.getElem_mem hi)
      simp [List.getD, hi] at h
      rw [h] at this
      cases this

set_option maxHeartbeats 1000000 in
theorem name_any (s : ByteArray) (w : World) (hs : s.size ≤ maxLen) :
    Calls Tryd.prog 60 #[.string s] w fun e w' => e = .returned (.bool (nameB (dl s))) ∧ w' = w := by
  have HF : Hid (s.toList = [] ∨ 32 < s.size ∨ s.toList = [46] ∨ s.toList = [46, 46] ∨ (∃ i, i < s.size ∧ okc ((dl s).getD i 0) = false) → nameB (dl s) = false) := fun h => by
    rw [tol, ← dl_len] at h
    exact nameB_false _ h
  have HT : Hid (s.toList ≠ [] → s.size ≤ 32 → s.toList ≠ [46] → s.toList ≠ [46, 46] → (∀ i, i < s.size → okc ((dl s).getD i 0) = true) → nameB (dl s) = true) := fun h0 h1 h2 h3 h => by
    rw [tol] at h0 h2 h3
    exact nameB_true _ h0 h1 h2 h3 h
  have HIX : Hid (∀ (w : World) (i : Nat), i < s.size → (Instr.index 9 (.string s) (.int .i64 (i : Int))).run Tryd.prog w = .ok (.int .u8 (((dl s).getD i 0).toNat : Int)) w) := fun w i hi => run_index_dl s w i hi
  obtain ⟨l, hl⟩ : ∃ l, l = dl s := ⟨_, rfl⟩
  rw [← hl] at HF HT HIX ⊢
  clear hl
  generalize nameB l = r at *
  by_cases h0 : s.toList = []
  · have hr : Hid (r = false) := HF.out (.inl h0)
    clear HF HT
    go_enter Tryd.func60, Tryd.ntmps60
    go_wp2
    go_ret
    exact ⟨by rw [hr.out]; rfl, rfl⟩
  by_cases h1 : 32 < s.size
  · have hr : Hid (r = false) := HF.out (.inr (.inl h1))
    have h1' : 32 < (s.size : Int) := by omega
    clear HF HT
    go_enter Tryd.func60, Tryd.ntmps60
    go_wp2
    go_ret
    exact ⟨by rw [hr.out]; rfl, rfl⟩
  have h1' : ¬ 32 < (s.size : Int) := by omega
  by_cases h2 : s.toList = [46]
  · have hr : Hid (r = false) := HF.out (.inr (.inr (.inl h2)))
    clear HF HT
    go_enter Tryd.func60, Tryd.ntmps60
    go_wp2
    go_ret
    exact ⟨by rw [hr.out]; rfl, rfl⟩
  by_cases h3 : s.toList = [46, 46]
  · have hr : Hid (r = false) := HF.out (.inr (.inr (.inr (.inl h3))))
    clear HF HT
    go_enter Tryd.func60, Tryd.ntmps60
    go_wp2
    go_ret
    exact ⟨by rw [hr.out]; rfl, rfl⟩
  have HT' : Hid ((∀ i, i < s.size → okc (l.getD i 0) = true) → r = true) := HT.out h0 (by omega) h2 h3
  have HF' : Hid (∀ i, i < s.size → okc (l.getD i 0) = false → r = false) := fun i hi h => HF.out (.inr (.inr (.inr (.inr ⟨i, hi, h⟩))))
  have t0 : s.toList.isEmpty = false := by simp [h0]
  have t2 : (s.toList == [46]) = false := by simp [h2]
  have t3 : (s.toList == [46, 46]) = false := by simp [h3]
  clear HF HT h0 h2 h3
  go_enter Tryd.func60, Tryd.ntmps60
  go_wp2
  go_loop [21] (fun q => ∃ j : Nat, j ≤ s.size ∧ q = .int .i64 j ∧ ∀ k, k < j → okc (l.getD k 0) = true) (fun q => s.size - (intOf q).toNat)
  case atStart => exact ⟨0, by omega, rfl, fun k hk => by omega⟩
  case round =>
    obtain ⟨j, hj, rfl, ok⟩ := hrel
    have OK : Hid (∀ k, k < j → okc (l.getD k 0) = true) := ok
    clear ok
    by_cases hlt : j < s.size
    · have lt2 : (j : Int) < (s.size : Int) := by omega
      have ix := HIX.out w j hlt
      have c := ofName_any ((l.getD j 0).toNat : Int) w
      have HF2 := HF'.out j hlt
      have NK : Hid (okc (l.getD j 0) = true → ∀ k, k < j + 1 → okc (l.getD k 0) = true) := fun h k hk => by
        rcases Nat.lt_or_ge k j with h' | h'
        · exact OK.out k h'
        · rw [show k = j by omega]; exact h
      have HE : Hid (okc (l.getD j 0) = (decide (33 ≤ ((l.getD j 0).toNat : Int)) && decide (((l.getD j 0).toNat : Int) ≤ 126) && decide (((l.getD j 0).toNat : Int) ≠ 47))) := rfl
      rw [← HE.out] at c
      have q1 : IntKind.i64.wrap ((j : Int) + 1) = ((j + 1 : Nat) : Int) := by simp [IntKind.wrap, IntKind.bits, IntKind.signed]; unfold maxLen at hs; omega
      generalize hx : ((l.getD j 0).toNat : Int) = x at *
      clear HE hx
      cases hb : okc (l.getD j 0) with
      | true =>
        have NK2 : Hid (∀ k, k < j + 1 → okc (l.getD k 0) = true) := NK.out hb
        rw [hb] at c
        clear NK hb HF2 OK
        go_wp2_with (go_at_call 77; refine c.mono ?_; rintro e w' ⟨rfl, rfl⟩)
        exact ⟨⟨j + 1, by omega, by go_num, NK2.out⟩, by simp [intOf]; omega⟩
      | false =>
        have hr : Hid (r = false) := HF2 hb
        rw [hb] at c
        clear NK hb HF2 OK
        go_wp2_with (go_at_call 77; refine c.mono ?_; rintro e w' ⟨rfl, rfl⟩)
        go_ret
        exact ⟨by rw [hr.out]; rfl, rfl⟩
    · obtain rfl : j = s.size := by omega
      have hr : Hid (r = true) := HT'.out OK.out
      clear HT' HF' OK
      go_wp2
      go_ret
      exact ⟨by rw [hr.out]; rfl, rfl⟩
set_option maxHeartbeats 1000000 in
theorem reserved_any (s : ByteArray) (w : World) :
    Calls Tryd.prog 43 #[.string s] w fun e w' => e = .returned (.bool (res (dl s))) ∧ w' = w := by
  have c := Tryd.strings_HasPrefix s ⟨#[46, 115, 117, 109, 112, 116, 101, 114]⟩ w
  have HE : Hid (Lib.hasPrefix s.data.toList (⟨#[46, 115, 117, 109, 112, 116, 101, 114]⟩ : ByteArray).data.toList = res (dl s)) := rfl
  rw [HE.out] at c
  clear HE
  generalize res (dl s) = r at *
  go_enter Tryd.func43, Tryd.ntmps43
  go_wp2_with (go_at_call 61; refine c.mono ?_; rintro e w' ⟨rfl, rfl⟩)
  go_ret
  exact ⟨rfl, rfl⟩
end Go.Proofs.YtcenchnmibdebaaDoor
