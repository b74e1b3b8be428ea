/-
  What crc.moveHalf, crc.More, crc.Of and the document's run, Of, More answer: the register's plain function; nothing is written. Condition: the package-level table of half bytes holds what its initialiser lays.
-/
import Derived.Test.YtpkobpdiddjnpaaDoorCrReg
import Derived.Test.YtpkobpdiddjnpaaDoorBas
namespace Go.Proofs.YtpkobpdiddjnpaaDoor.Cr
open Go.RowKit
set_option maxRecDepth 100000

/-- The table of half bytes, as the walks read it. -/
def Tab (w : World) : Prop := ∀ i, i < 16 → w.cell? ⟨1, i, none⟩ = some (.int .u32 (Reg.tab.getD i 0 : Nat))

theorem and15 (r : Nat) (h : r < 4294967296) : bits .and .u32 (r : Int) 15 = ((r % 16 : Nat) : Int) := by
  have := u32_and_nat r 15 h (by omega)
  rw [show ((15 : Nat) : Int) = 15 from rfl] at this
  rw [this]
  have e : r &&& 15 = r % 16 := Nat.and_two_pow_sub_one_eq_mod r 4
  rw [e]

set_option maxHeartbeats 1000000 in
theorem half_any (r : Nat) (w : World) (hw : Tab w) (hr : r < 4294967296) :
    Calls Tryd.prog 80 #[.int .u32 r] w fun e w' => e = .returned (.int .u32 (Reg.sts 4 r : Nat)) ∧ w' = w := by
  have hc := hw (r % 16) (Nat.mod_lt _ (by omega))
  have ha := and15 r hr
  have ht : Reg.tab.getD (r % 16) 0 < 4294967296 := by
    have h1 : Reg.sts 4 (r % 16) = Reg.tab.getD (r % 16) 0 := Reg.half_low _ (Nat.mod_lt _ (by omega))
    rw [← h1]
    exact Reg.sts_lt 4 (by omega)
  have hx := u32_xor_nat (r / 16) (Reg.tab.getD (r % 16) 0) (by omega) ht
  rw [← Reg.half_eq] at hx
  have hm : r % 16 < 16 := Nat.mod_lt _ (by omega)
  generalize Reg.tab.getD (r % 16) 0 = t at *
  generalize r % 16 = m at *
  generalize Reg.sts 4 r = s at *
  rw [Int.natCast_ediv, show ((16 : Nat) : Int) = 16 from rfl] at hx
  clear hw
  go_enter Tryd.func80, Tryd.ntmps80
  go_wp2
  go_ret
  exact ⟨rfl, rfl⟩

theorem not32 (c : Nat) (h : c < 4294967296) : bits .xor .u32 IntKind.u32.max (c : Int) = (Reg.inv c : Nat) := by
  have e : IntKind.u32.max = ((Reg.top : Nat) : Int) := by decide
  have hi : Reg.inv c = Reg.top ^^^ c := rfl
  rw [e, hi]
  exact u32_xor_nat Reg.top c Reg.top_lt h
theorem xorB (r : Nat) (z : Int) (h : r < 4294967296) (h0 : 0 ≤ z) (h1 : z < 256) : bits .xor .u32 (r : Int) z = ((r ^^^ z.toNat : Nat) : Int) := by
  have := u32_xor_nat r z.toNat h (by omega)
  rw [Int.toNat_of_nonneg h0] at this
  exact this

theorem byt_getD {xs : List Int} (h : ∀ i, 0 ≤ xs.getD i 0 ∧ xs.getD i 0 < 256) : Reg.Byt xs := by
  intro x hx
  obtain ⟨i, hi, rfl⟩ := List.getElem_of_mem hx
  have := h i
  simpa [List.getD, List.getElem?_eq_getElem hi] using this
theorem byt_take {xs : List Int} (h : Reg.Byt xs) (n : Nat) : Reg.Byt (xs.take n) := fun x hx => h x (List.mem_of_mem_take hx)
theorem take_next (xs : List Int) (j : Nat) (h : j < xs.length) : xs.take (j + 1) = xs.take j ++ [xs.getD j 0] := by
  rw [List.take_add_one, List.getElem?_eq_getElem h]
  simp [List.getD, List.getElem?_eq_getElem h]

set_option maxHeartbeats 1000000 in
theorem more_any (c : Nat) (v : Value) (xs : List Int) (w : World) (hw : Tab w) (hc : c < 4294967296) (sl : Sl w v xs) :
    Calls Tryd.prog 60 #[.int .u32 c, v] w fun e w' => e = .returned (.int .u32 (Reg.inv (Reg.run (Reg.inv c) xs) : Nat)) ∧ w' = w := by
  have hby := byt_getD sl.bytes
  have hbd := sl.bytes
  obtain ⟨a, cap, rfl, h1, h2, h3, h4⟩ := sl
  have hL : xs.length ≤ 9223372036854775807 := by unfold maxLen at h2; omega
  have hn := not32 c hc
  have hi := Reg.inv_lt hc
  generalize Reg.inv c = q at *
  have HR : Hid (∀ j, Reg.run q (xs.take j) < 4294967296) := fun j => Reg.run_lt _ hi (byt_take hby j)
  have HN : Hid (∀ j, j < xs.length → Reg.run q (xs.take (j + 1)) = Reg.sts 4 (Reg.sts 4 (Reg.run q (xs.take j) ^^^ (xs.getD j 0).toNat))) := fun j hj => by
    rw [take_next xs j hj, Reg.run_snoc]
    show Reg.sts (4 + 4) _ = _
    rw [Reg.sts_add]
  have HE : Hid (∀ j, j = xs.length → Reg.run q xs = Reg.run q (xs.take j)) := fun j hj => by rw [hj, List.take_length]
  have HB : Hid (∀ i, 0 ≤ xs.getD i 0 ∧ xs.getD i 0 < 256) := hbd
  have HW : Hid (Tab w) := hw
  have H4 : Hid (Row w a xs.length cap xs) := h4
  have H0 : Hid (Reg.run q (xs.take 0) = q) := rfl
  clear hby hbd hw h4 h3 h2 hi hc
  generalize hX : xs.length = L at *
  clear hX
  go_enter Tryd.func60, Tryd.ntmps60
  go_wp2
  go_loop [5, 12] (fun r i => ∃ j : Nat, j ≤ L ∧ i = .int .i64 j ∧ r = .int .u32 (Reg.run q (xs.take j) : Nat)) (fun _ i => L - (intOf i).toNat)
  case atStart => exact ⟨0, by omega, rfl, by rw [H0.out]⟩
  case round =>
    obtain ⟨j, hj, rfl, rfl⟩ := hrel
    have hr := HR.out j
    by_cases hlt : j < L
    · rcases H4.out with h0 | ⟨hp, b, off, rfl, hlc, hm, hcell, hz⟩
      · omega
      · have hcj := hcell j hlt
        have hzj := HB.out j
        have hx := xorB _ _ hr hzj.1 hzj.2
        have hnx := HN.out j hlt
        have hr2 : Reg.run q (xs.take j) ^^^ (xs.getD j 0).toNat < 4294967296 := Reg.xor_lt hr (by omega)
        have c1 := half_any _ w HW.out hr2
        have c2 := half_any _ w HW.out (Reg.sts_lt 4 hr2)
        rw [← hnx] at c2
        clear hnx hcell hz hr2
        generalize Reg.run q (xs.take j) = r at *
        obtain ⟨r', hr'⟩ : ∃ r', r' = Reg.run q (xs.take (j + 1)) := ⟨_, rfl⟩
        have HF : Hid (r' = Reg.run q (xs.take (j + 1))) := hr'
        rw [← hr'] at c2
        clear hr'
        generalize xs.getD j 0 = z at *
        generalize Reg.sts 4 (r ^^^ z.toNat) = s at *
        generalize r ^^^ z.toNat = t at *
        go_wp2_with fail
        refine c1.mono ?_
        rintro e w1 ⟨rfl, e1⟩
        subst e1
        clear c1
        go_wp2_with fail
        refine c2.mono ?_
        rintro e w1 ⟨rfl, e1⟩
        subst e1
        clear c2
        go_wp2
        go_round
        case rel => exact ⟨j + 1, by omega, by go_num, by rw [HF.out]⟩
        case measure => simp [intOf]; omega
    · obtain rfl : j = L := by omega
      have hn2 := not32 _ hr
      have HS : Hid (Reg.inv (Reg.run q xs) = Reg.inv (Reg.run q (xs.take j))) := by unfold Hid; rw [HE.out j rfl]
      generalize Reg.run q (xs.take j) = r at *
      generalize Reg.inv r = s at *
      go_wp2
      go_ret
      exact ⟨by rw [HS.out]; rfl, rfl⟩

/-- The sum of bytes. -/
def sumOf (xs : List Int) : Nat := Reg.inv (Reg.run Reg.top xs)
theorem inv0 : Reg.inv 0 = Reg.top := by decide
theorem sum_lt {xs : List Int} (h : Reg.Byt xs) : sumOf xs < 4294967296 := Reg.inv_lt (Reg.run_lt _ Reg.top_lt h)

set_option maxHeartbeats 1000000 in
theorem of_any (v : Value) (xs : List Int) (w : World) (hw : Tab w) (sl : Sl w v xs) :
    Calls Tryd.prog 42 #[v] w fun e w' => e = .returned (.int .u32 (sumOf xs : Nat)) ∧ w' = w := by
  have c := more_any 0 v xs w hw (by omega) sl
  rw [inv0] at c
  unfold sumOf
  generalize Reg.inv (Reg.run Reg.top xs) = s at *
  clear sl hw
  go_enter Tryd.func42, Tryd.ntmps42
  go_wp2_with (go_at_call 60; refine c.mono ?_; rintro e w1 ⟨rfl, rfl⟩)
  go_ret
  exact ⟨rfl, rfl⟩
end Go.Proofs.YtpkobpdiddjnpaaDoor.Cr
