/-
  What path.Join and the document's Join answer.
-/
import Derived.Test.YtgppjbfmpjabcaaDoorLe
namespace Go.Proofs.YtgppjbfmpjabcaaDoor
open Go.RowKit

set_option maxHeartbeats 1000000 in
theorem join_any (v : Value) (xs : List ByteArray) (w : World) (h : SS w v xs) (hl : xs.length ≤ 1000000) (hj : (joi (xs.map dl)).length ≤ 1000000000) :
    Calls Tryd.prog 20 #[v] w fun e w' => e = .returned (.string (mk (joi (xs.map dl)))) ∧ Below w.heap.size w w' := by
  obtain ⟨a, c, rfl, hc, h3⟩ := h
  rcases h3 with rfl | ⟨b, off, rfl, h5⟩
  · have cj := Tryd.strings_Join_none a c ⟨#[47]⟩ w
    have hr : Hid (mk (joi (([] : List ByteArray).map dl)) = ⟨#[]⟩) := rfl
    generalize mk (joi (([] : List ByteArray).map dl)) = r at *
    show Calls Tryd.prog 20 #[.slice a 0 c] w _
    go_enter Tryd.func20, Tryd.ntmps20
    go_wp2_with (go_at_call 34; refine cj.mono ?_; rintro e w' ⟨rfl, rfl⟩)
    go_ret
    exact ⟨by rw [hr.out]; rfl, Below.refl _ _⟩
  · by_cases h0 : xs = []
    · subst h0
      have cj := Tryd.strings_Join_none (some ⟨b, off, none⟩) c ⟨#[47]⟩ w
      have hr : Hid (mk (joi (([] : List ByteArray).map dl)) = ⟨#[]⟩) := rfl
      generalize mk (joi (([] : List ByteArray).map dl)) = r at *
      show Calls Tryd.prog 20 #[.slice (some ⟨b, off, none⟩) 0 c] w _
      go_enter Tryd.func20, Tryd.ntmps20
      go_wp2_with (go_at_call 34; refine cj.mono ?_; rintro e w' ⟨rfl, rfl⟩)
      go_ret
      exact ⟨by rw [hr.out]; rfl, Below.refl _ _⟩
    · have hb : b < w.heap.size := by
        obtain ⟨x, r, rfl⟩ := List.exists_cons_of_ne_nil h0
        exact World.block_lt_of_cell? _ _ (h5 0 x rfl)
      have e : Lib.join (xs.map (·.data.toList)) (⟨#[47]⟩ : ByteArray).data.toList = joi (xs.map dl) := joi_lib (xs.map dl)
      have cj := Tryd.strings_Join b off c xs ⟨#[47]⟩ w h5 hb (by omega) hc (by rw [e]; omega)
      rw [e] at cj
      have hr : Hid ((⟨(joi (xs.map dl)).toArray⟩ : ByteArray) = mk (joi (xs.map dl))) := rfl
      rw [hr.out] at cj
      clear e hr hj
      generalize mk (joi (xs.map dl)) = r at *
      generalize xs.length = n at *
      clear h5 h0 hb
      go_enter Tryd.func20, Tryd.ntmps20
      go_wp2_with (go_at_call 34; refine cj.mono ?_; rintro e w' ⟨rfl, bj⟩)
      go_ret
      exact ⟨rfl, bj⟩
theorem joi_take (X : List (List UInt8)) (j : Nat) (h : j < X.length) (h0 : 0 < j) : joi (X.take (j + 1)) = (joi (X.take j) ++ [47]) ++ X.getD j [] := by
  have e : X.take (j + 1) = X.take j ++ [X.getD j []] := by
    rw [List.take_add_one]
    simp [List.getD, h]
  rw [e, joi_snoc _ _ (fun e => by have h2 := congrArg List.length e; rw [List.length_take, List.length_nil] at h2; omega)]
  simp
theorem joi_take1 (X : List (List UInt8)) (h : 0 < X.length) : joi (X.take 1) = X.getD 0 [] := by
  cases X with
  | nil => simp at h
  | cons x r => rfl
theorem app_mk (l : List UInt8) (s : ByteArray) : mk l ++ s = mk (l ++ dl s) := by
  conv => lhs; rw [← mk_dl s]
  exact mk_append _ _

set_option maxHeartbeats 1000000 in
theorem rjoin_any (v : Value) (xs : List ByteArray) (w : World) (h : SS w v xs) (hl : xs.length ≤ 1000) (hx : ∀ j, (xs.getD j ⟨#[]⟩).size ≤ 1000) :
    Calls Tryd.prog 21 #[v] w fun e w' => e = .returned (.string (mk (joi (xs.map dl)))) ∧ w' = w := by
  have HS : Hid (SS w v xs) := h
  obtain ⟨a, c, rfl, hc⟩ := h.shape
  clear h
  obtain ⟨J, hJ⟩ : ∃ J : Nat → ByteArray, J = fun j => mk (joi ((xs.map dl).take j)) := ⟨_, rfl⟩
  have H0 : Hid (J 0 = ⟨#[]⟩) := by rw [hJ]; rfl
  have HN : Hid (J xs.length = mk (joi (xs.map dl))) := by
    unfold Hid
    rw [hJ]
    show mk (joi ((xs.map dl).take xs.length)) = _
    rw [List.take_of_length_le (by simp)]
  have H1 : Hid (0 < xs.length → (⟨#[]⟩ : ByteArray) ++ xs.getD 0 ⟨#[]⟩ = J 1) := fun h => by
    rw [hJ]
    show _ = mk (joi ((xs.map dl).take 1))
    rw [joi_take1 _ (by simpa using h), dl_getD, ← mk_nil, app_mk]
    rfl
  have HST : Hid (∀ j, j < xs.length → 0 < j → (J j ++ ⟨#[47]⟩) ++ xs.getD j ⟨#[]⟩ = J (j + 1)) := fun j h h0 => by
    rw [hJ]
    show (mk (joi ((xs.map dl).take j)) ++ ⟨#[47]⟩) ++ xs.getD j ⟨#[]⟩ = mk (joi ((xs.map dl).take (j + 1)))
    rw [joi_take _ j (by simpa using h) h0, dl_getD, app_mk, app_mk]
  have HJL : Hid (∀ j, (J j).size ≤ 1001000) := fun j => by
    rw [hJ]
    show (mk (joi ((xs.map dl).take j))).size ≤ _
    rw [mk_size]
    have h1 := joi_le ((xs.map dl).take j) 1000 (fun x hm => by
      obtain ⟨i, hi, rfl⟩ := List.getElem_of_mem (List.mem_of_mem_take hm)
      have h2 := hx i
      rw [← dl_len, ← dl_getD] at h2
      have h3 : (xs.map dl).getD i [] = (xs.map dl)[i] := by rw [List.getD, List.getElem?_eq_getElem hi]; rfl
      rw [h3] at h2
      exact h2)
    have h2 : ((xs.map dl).take j).length ≤ 1000 := by rw [List.length_take, List.length_map]; omega
    have h3 : ((xs.map dl).take j).length * (1000 + 1) ≤ 1000 * (1000 + 1) := Nat.mul_le_mul_right _ h2
    omega
  clear hJ
  generalize mk (joi (xs.map dl)) = r at *
  have HX : Hid (∀ j, (xs.getD j ⟨#[]⟩).size ≤ 1000) := hx
  clear hx
  obtain ⟨n, hn⟩ : ∃ n, n = xs.length := ⟨_, rfl⟩
  have HNL : Hid (n = xs.length) := hn
  rw [← hn] at HS HN H1 HST hc hl ⊢
  clear hn
  go_enter Tryd.func21, Tryd.ntmps21
  go_wp2
  go_loop [3, 4] (fun o q => ∃ j : Nat, j ≤ n ∧ q = .int .i64 j ∧ o = .string (J j)) (fun _ q => n - (intOf q).toNat)
  case atStart => exact ⟨0, by omega, rfl, by rw [H0.out]⟩
  case round =>
    obtain ⟨j, hj, rfl, rfl⟩ := hrel
    by_cases hlt : j < n
    · have lt2 : (j : Int) < (n : Int) := by omega
      obtain ⟨b, off, rfl, hcl⟩ := HS.out.at j (by rw [← HNL.out]; exact hlt)
      have q1 : IntKind.i64.wrap ((j : Int) + 1) = ((j + 1 : Nat) : Int) := by simp [IntKind.wrap, IntKind.bits, IntKind.signed]; omega
      have hxs := HX.out j
      by_cases h0 : 0 < j
      · have h0' : 0 < (j : Int) := by omega
        have ST : Hid ((J j ++ ⟨#[47]⟩) ++ xs.getD j ⟨#[]⟩ = J (j + 1)) := HST.out j hlt h0
        have sz := HJL.out j
        generalize xs.getD j ⟨#[]⟩ = x at *
        obtain ⟨A1, hA1⟩ : ∃ A1, A1 = J j ++ ⟨#[47]⟩ := ⟨_, rfl⟩
        have sz1 : A1.size ≤ 1001001 := by rw [hA1, ByteArray.size_append]; have : (⟨#[47]⟩ : ByteArray).size = 1 := rfl; omega
        rw [← hA1] at ST
        have hA1' := hA1.symm
        clear hA1 HST H1
        go_wp2
        exact ⟨⟨j + 1, by omega, by go_num, by rw [← ST.out]⟩, by simp [intOf]; omega⟩
      · obtain rfl : j = 0 := by omega
        rw [Nat.add_zero] at hcl
        have ST : Hid ((⟨#[]⟩ : ByteArray) ++ xs.getD 0 ⟨#[]⟩ = J 1) := H1.out hlt
        have hJ0 := H0.out
        generalize xs.getD 0 ⟨#[]⟩ = x at *
        clear HST H1
        go_wp2
        exact ⟨⟨1, by omega, by go_num, by rw [← ST.out]⟩, by simp [intOf]; omega⟩
    · obtain rfl : j = n := by omega
      clear HST H1
      go_wp2
      go_ret
      exact ⟨by rw [← HN.out]; rfl, rfl⟩
end Go.Proofs.YtgppjbfmpjabcaaDoor
