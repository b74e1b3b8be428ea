/-
  Digits, plainly: they are read as the bytes that they were made of; digits that are read are those of what was read; the order of digits is that of the bytes.
-/
import Derived.Test.YthcpnhafikojnaaDoorHex
import Derived.Test.YthcpnhafikojnaaDoorLess
namespace Go.Proofs.YthcpnhafikojnaaDoor
open Go.RowKit

theorem baTL (S : ByteArray) : S.toList = S.data.toList := by
  have aux : ∀ (d i : Nat) (r : List UInt8), S.size - i = d → ByteArray.toList.loop S i r = r.reverse ++ S.data.toList.drop i := by
    intro d
    induction d with
    | zero =>
      intro i r h
      rw [ByteArray.toList.loop, if_neg (by omega)]
      rw [List.drop_of_length_le (by show S.size ≤ i; omega)]
      simp
    | succ d ih =>
      intro i r h
      have hi : i < S.size := by omega
      have hi' : i < S.data.toList.length := hi
      rw [ByteArray.toList.loop, if_pos hi, ih (i + 1) _ (by omega), List.drop_eq_getElem_cons hi']
      have e : S.get! i = S.data.toList[i] := by
        show S.data[i]! = _
        rw [getElem!_pos S.data i hi, Array.getElem_toList]
      rw [e]
      simp
  show ByteArray.toList.loop S 0 [] = _
  rw [aux (S.size - 0) 0 [] rfl]
  simp
theorem strB_list (l : List Int) : (strB l).toList = l.map fun n => UInt8.ofNat n.toNat := by rw [baTL]; simp [strB]
theorem bl_strB {l : List Int} (h : Pl.Byt l) : bl (strB l) = l := by
  refine eq_of_getD _ _ (by rw [bl_len]; simp [strB, ByteArray.size]) (fun i hi => ?_)
  rw [bl_len] at hi
  have hi' : i < l.length := by simpa [strB, ByteArray.size] using hi
  have hb := h i
  have e : l.getD i 0 = l[i] := by simp [List.getD, List.getElem?_eq_getElem hi']
  rw [e] at hb ⊢
  simp only [bl, strB, List.getD, List.getElem?_map, List.getElem?_eq_getElem hi', Option.map_some, Option.getD_some, UInt8.toNat_ofNat']
  omega
theorem strB_bl (s : ByteArray) : strB (bl s) = s := by
  unfold strB bl
  rw [List.map_map]
  have : ((fun n : Int => UInt8.ofNat n.toNat) ∘ fun b : UInt8 => (b.toNat : Int)) = id := by funext b; simp
  rw [this]
  simp
theorem byt_tail {x : Int} {l : List Int} (h : Pl.Byt (x :: l)) : (0 ≤ x ∧ x < 256) ∧ Pl.Byt l := ⟨by simpa using h 0, fun i => by simpa using h (i + 1)⟩

theorem less_list : ∀ (A B : List Int), Pl.Byt A → Pl.Byt B → A.length = B.length → Op.bytesLess (A.map fun n => UInt8.ofNat n.toNat) (B.map fun n => UInt8.ofNat n.toNat) = ltB A B
  | [], [], _, _, _ => rfl
  | [], _ :: _, _, _, h => by simp at h
  | _ :: _, [], _, _, h => by simp at h
  | x :: A, y :: B, hA, hB, h => by
    obtain ⟨hx, hA'⟩ := byt_tail hA
    obtain ⟨hy, hB'⟩ := byt_tail hB
    have ih := less_list A B hA' hB' (by simpa using h)
    show (decide (UInt8.ofNat x.toNat < UInt8.ofNat y.toNat) || (UInt8.ofNat x.toNat == UInt8.ofNat y.toNat && Op.bytesLess (A.map fun n => UInt8.ofNat n.toNat) (B.map fun n => UInt8.ofNat n.toNat))) = if x = y then ltB A B else decide (x < y)
    rw [ih]
    have hlt : (UInt8.ofNat x.toNat < UInt8.ofNat y.toNat) ↔ x < y := by
      rw [UInt8.lt_iff_toNat_lt]
      simp only [UInt8.toNat_ofNat']
      omega
    have heq : (UInt8.ofNat x.toNat = UInt8.ofNat y.toNat) ↔ x = y := by
      constructor
      · intro e
        have := congrArg UInt8.toNat e
        simp only [UInt8.toNat_ofNat'] at this
        omega
      · intro e; rw [e]
    by_cases e : x = y
    · rw [if_pos e]
      subst e
      simp
    · rw [if_neg e]
      have e2 : (UInt8.ofNat x.toNat == UInt8.ofNat y.toNat) = false := by simp only [beq_eq_false_iff_ne]; exact fun q => e (heq.1 q)
      rw [e2]
      simp only [Bool.false_and, Bool.or_false]
      by_cases q : x < y
      · rw [decide_eq_true (hlt.2 q), decide_eq_true q]
      · rw [decide_eq_false (fun z => q (hlt.1 z)), decide_eq_false q]
theorem less_str {A B : List Int} (hA : Pl.Byt A) (hB : Pl.Byt B) (h : A.length = B.length) : Op.bytesLess (strB A).toList (strB B).toList = ltB A B := by
  rw [strB_list, strB_list]
  exact less_list A B hA hB h

theorem hexd_lt (i j : Nat) (hi : i < 16) (hj : j < 16) : (hexd i < hexd j ↔ i < j) ∧ (hexd i = hexd j ↔ i = j) := by
  have all : ∀ a : Fin 16, ∀ b : Fin 16, (hexd a.val < hexd b.val ↔ a.val < b.val) ∧ (hexd a.val = hexd b.val ↔ a.val = b.val) := by decide +kernel
  exact all ⟨i, hi⟩ ⟨j, hj⟩
theorem ltB_hex : ∀ (A B : List Int), Pl.Byt A → Pl.Byt B → A.length = B.length → ltB (hexB A) (hexB B) = ltB A B
  | [], [], _, _, _ => rfl
  | [], _ :: _, _, _, h => by simp at h
  | _ :: _, [], _, _, h => by simp at h
  | x :: A, y :: B, hA, hB, h => by
    obtain ⟨hx, hA'⟩ := byt_tail hA
    obtain ⟨hy, hB'⟩ := byt_tail hB
    have ih := ltB_hex A B hA' hB' (by simpa using h)
    show (if hexd (x / 16).toNat = hexd (y / 16).toNat then (if hexd (x % 16).toNat = hexd (y % 16).toNat then ltB (hexB A) (hexB B) else decide (hexd (x % 16).toNat < hexd (y % 16).toNat)) else decide (hexd (x / 16).toNat < hexd (y / 16).toNat)) = if x = y then ltB A B else decide (x < y)
    obtain ⟨p1, p2⟩ := hexd_lt (x / 16).toNat (y / 16).toNat (by omega) (by omega)
    obtain ⟨q1, q2⟩ := hexd_lt (x % 16).toNat (y % 16).toNat (by omega) (by omega)
    rw [ih]
    by_cases e1 : (x / 16).toNat = (y / 16).toNat
    · rw [if_pos (p2.2 e1)]
      by_cases e2 : (x % 16).toNat = (y % 16).toNat
      · rw [if_pos (q2.2 e2), if_pos (by omega)]
      · rw [if_neg (fun z => e2 (q2.1 z)), if_neg (by omega)]
        congr 1
        rw [q1]
        apply propext
        omega
    · rw [if_neg (fun z => e1 (p2.1 z)), if_neg (by omega)]
      congr 1
      rw [p1]
      apply propext
      omega
theorem less_hex {A B : List Int} (hA : Pl.Byt A) (hB : Pl.Byt B) (h : A.length = B.length) : Op.bytesLess (strB (hexB A)).toList (strB (hexB B)).toList = ltB A B := by
  rw [less_str (hexB_byt A) (hexB_byt B) (by rw [hexB_len, hexB_len, h]), ltB_hex A B hA hB h]

theorem hexB_get : ∀ (A : List Int) (i : Nat), i < A.length → (hexB A).getD (2 * i) 0 = hexd (A.getD i 0 / 16).toNat ∧ (hexB A).getD (2 * i + 1) 0 = hexd (A.getD i 0 % 16).toNat
  | [], i, h => by simp at h
  | x :: A, 0, _ => by simp [hexB]
  | x :: A, i + 1, h => by
    have ih := hexB_get A i (by simpa using h)
    rw [show 2 * (i + 1) = 2 * i + 1 + 1 by omega]
    simpa [hexB] using ih
theorem dg_hexd (i : Nat) (hi : i < 16) : dg (hexd i) = i := by
  have all : ∀ a : Fin 16, dg (hexd a.val) = (a.val : Int) := by decide +kernel
  exact all ⟨i, hi⟩
theorem hexd_dg (c : Int) (h0 : 0 ≤ c) (h1 : c < 256) (hd : 0 ≤ dg c) : hexd (dg c).toNat = c := by
  have all : ∀ j : Fin 256, 0 ≤ dg (j.val : Int) → hexd (dg (j.val : Int)).toNat = (j.val : Int) := by decide +kernel
  have := all ⟨c.toNat, by omega⟩
  simp only [Int.toNat_of_nonneg h0] at this
  exact this hd
theorem pok_hex {A : List Int} (hA : A.length = 32) (hb : Pl.Byt A) : pok (hexB A) = true := by
  refine pok_of _ (by rw [hexB_len, hA]) (fun i hi => ?_)
  have h := hexB_get A (i / 2) (by omega)
  have hx := hb (i / 2)
  rcases Nat.mod_two_eq_zero_or_one i with e | e
  · rw [show i = 2 * (i / 2) by omega, h.1, dg_hexd _ (by omega)]; omega
  · rw [show i = 2 * (i / 2) + 1 by omega, h.2, dg_hexd _ (by omega)]; omega
theorem pbytes_hex {A : List Int} (hA : A.length = 32) (hb : Pl.Byt A) : pbytes (hexB A) = A := by
  refine eq_of_getD _ _ (by rw [pbytes_len, hA]) (fun i hi => ?_)
  rw [pbytes_len] at hi
  have h := hexB_get A i (by omega)
  have hx := hb i
  rw [pbytes_get _ _ hi, h.1, h.2, dg_hexd _ (by omega), dg_hexd _ (by omega)]
  omega
/-- A sum's digits are read as it was. -/
theorem parse_hex {A : List Int} (hA : A.length = 32) (hb : Pl.Byt A) : pval (bl (strB (hexB A))) = A ∧ perr (bl (strB (hexB A))) = 0 := by
  rw [bl_strB (hexB_byt A)]
  unfold pval perr
  rw [pok_hex hA hb]
  exact ⟨pbytes_hex hA hb, rfl⟩
/-- A text that is read is its digits. -/
theorem hex_parse (s : ByteArray) (h : perr (bl s) = 0) : strB (hexB (pval (bl s))) = s := by
  have hp : pok (bl s) = true := by
    unfold perr at h
    by_cases q : pok (bl s) = true
    · exact q
    · rw [if_neg q] at h; omega
  have hv : pval (bl s) = pbytes (bl s) := by unfold pval; rw [if_pos hp]
  have hl : (bl s).length = 64 ∧ ∀ c ∈ bl s, 0 ≤ dg c := by
    unfold pok at hp
    simp only [Bool.and_eq_true, List.all_eq_true, decide_eq_true_eq, beq_iff_eq] at hp
    exact hp
  have hd : ∀ i, i < 64 → 0 ≤ dg ((bl s).getD i 0) := fun i hi => by
    have := hl.2 (bl s)[i] (List.getElem_mem (by omega))
    simpa [List.getD, List.getElem?_eq_getElem (show i < (bl s).length by omega)] using this
  have e : hexB (pbytes (bl s)) = bl s := by
    refine eq_of_getD _ _ (by rw [hexB_len, pbytes_len, hl.1]) (fun i hi => ?_)
    rw [hexB_len, pbytes_len] at hi
    have h1 := hexB_get (pbytes (bl s)) (i / 2) (by rw [pbytes_len]; omega)
    rw [pbytes_get _ _ (by omega)] at h1
    have d1 := hd (2 * (i / 2)) (by omega)
    have d2 := hd (2 * (i / 2) + 1) (by omega)
    have m1 := dg_lt ((bl s).getD (2 * (i / 2)) 0)
    have m2 := dg_lt ((bl s).getD (2 * (i / 2) + 1) 0)
    have x1 := hexd_dg _ (bl_byt s (2 * (i / 2))).1 (bl_byt s (2 * (i / 2))).2 d1
    have x2 := hexd_dg _ (bl_byt s (2 * (i / 2) + 1)).1 (bl_byt s (2 * (i / 2) + 1)).2 d2
    rcases Nat.mod_two_eq_zero_or_one i with e | e
    · have e' : (bl s).getD i 0 = (bl s).getD (2 * (i / 2)) 0 := by rw [show 2 * (i / 2) = i by omega]
      have e'' : (hexB (pbytes (bl s))).getD i 0 = (hexB (pbytes (bl s))).getD (2 * (i / 2)) 0 := by rw [show 2 * (i / 2) = i by omega]
      rw [e', e'', h1.1]
      have q : ((16 * dg ((bl s).getD (2 * (i / 2)) 0) + dg ((bl s).getD (2 * (i / 2) + 1) 0)) / 16).toNat = (dg ((bl s).getD (2 * (i / 2)) 0)).toNat := by omega
      rw [q]
      exact x1
    · have e' : (bl s).getD i 0 = (bl s).getD (2 * (i / 2) + 1) 0 := by rw [show 2 * (i / 2) + 1 = i by omega]
      have e'' : (hexB (pbytes (bl s))).getD i 0 = (hexB (pbytes (bl s))).getD (2 * (i / 2) + 1) 0 := by rw [show 2 * (i / 2) + 1 = i by omega]
      rw [e', e'', h1.2]
      have q : ((16 * dg ((bl s).getD (2 * (i / 2)) 0) + dg ((bl s).getD (2 * (i / 2) + 1) 0)) % 16).toNat = (dg ((bl s).getD (2 * (i / 2) + 1) 0)).toNat := by omega
      rw [q]
      exact x2
  rw [hv, e, strB_bl]
end Go.Proofs.YthcpnhafikojnaaDoor
