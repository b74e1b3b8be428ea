/-
  What the document's run, Of and More answer: the register's plain function; nothing is written.
-/
import Derived.Test.YtpkobpdiddjnpaaDoorCrSum
namespace Go.Proofs.YtpkobpdiddjnpaaDoor.Cr
open Go.RowKit
set_option maxRecDepth 100000

theorem xorP (q : Nat) (h : q < 4294967296) : bits .xor .u32 (q : Int) 3988292384 = ((q ^^^ Reg.P : Nat) : Int) := by
  have e : (3988292384 : Int) = ((Reg.P : Nat) : Int) := by decide
  rw [e]
  exact u32_xor_nat q Reg.P h (by decide)

set_option maxHeartbeats 2000000 in
theorem rrun_any (q : Nat) (v : Value) (xs : List Int) (w : World) (hi : q < 4294967296) (sl : Sl w v xs) :
    Calls Tryd.prog 65 #[.int .u32 q, v] w fun e w' => e = .returned (.int .u32 (Reg.run q xs : Nat)) ∧ w' = w := by
  have hby := byt_getD sl.bytes
  have hbd := sl.bytes
  obtain ⟨a, cap, rfl, h1, h2, h3, h4⟩ := sl
  have hL : xs.length ≤ 9223372036854775807 := by unfold maxLen at h2; omega
  have HR : Hid (∀ j, Reg.run q (xs.take j) < 4294967296) := fun j => Reg.run_lt _ hi (byt_take hby j)
  have HN : Hid (∀ j, j < xs.length → Reg.run q (xs.take (j + 1)) = Reg.sts 8 (Reg.run q (xs.take j) ^^^ (xs.getD j 0).toNat)) := fun j hj => by
    rw [take_next xs j hj, Reg.run_snoc]
    rfl
  have HE : Hid (∀ j, j = xs.length → Reg.run q xs = Reg.run q (xs.take j)) := fun j hj => by rw [hj, List.take_length]
  have HB : Hid (∀ i, 0 ≤ xs.getD i 0 ∧ xs.getD i 0 < 256) := hbd
  have H4 : Hid (Row w a xs.length cap xs) := h4
  have H0 : Hid (Reg.run q (xs.take 0) = q) := rfl
  clear hby hbd h4 h3 h2 hi
  generalize hX : xs.length = L at *
  clear hX
  go_enter Tryd.func65, Tryd.ntmps65
  go_wp2
  go_loop [0, 5] (fun r i => ∃ j : Nat, j ≤ L ∧ i = .int .i64 j ∧ r = .int .u32 (Reg.run q (xs.take j) : Nat)) (fun _ i => L - (intOf i).toNat)
  case atStart => exact ⟨0, by omega, rfl, by rw [H0.out]⟩
  case round =>
    obtain ⟨j, hj, rfl, rfl⟩ := hrel
    have hr := HR.out j
    by_cases hlt : j < L
    · rcases H4.out with h0 | ⟨hp, b, off, rfl, hlc, hm, hcell, hz⟩
      · omega
      · have hcj := hcell j hlt
        have hzj := HB.out j
        have hx := xorB _ _ hr hzj.1 hzj.2
        have hnx := HN.out j hlt
        have hr2 : Reg.run q (xs.take j) ^^^ (xs.getD j 0).toNat < 4294967296 := Reg.xor_lt hr (by omega)
        have HF : Hid (Reg.run q (xs.take (j + 1)) = Reg.sts 8 (Reg.run q (xs.take j) ^^^ (xs.getD j 0).toNat)) := hnx
        clear hnx hcell hz
        generalize Reg.run q (xs.take j) = r at *
        generalize xs.getD j 0 = z at *
        generalize r ^^^ z.toNat = t at *
        have HT : Hid (∀ k, Reg.sts k t < 4294967296) := fun k => Reg.sts_lt k hr2
        go_wp2
        go_loop [0, 6] (fun r i => ∃ k : Nat, k ≤ 8 ∧ i = .int .i64 k ∧ r = .int .u32 (Reg.sts k t : Nat)) (fun _ i => 8 - (intOf i).toNat)
        case atStart => exact ⟨0, by omega, rfl, rfl⟩
        case round =>
          obtain ⟨k, hk, rfl, rfl⟩ := hrel
          by_cases hlt8 : k < 8
          · have hs := HT.out k
            have HK : Hid (Reg.sts (k + 1) t = Reg.st (Reg.sts k t)) := Reg.sts_succ k t
            generalize Reg.sts k t = s at *
            by_cases hodd : s % 2 = 1
            · have HV : Hid (Reg.st s = s / 2 ^^^ Reg.P) := by unfold Hid Reg.st; rw [if_pos hodd]
              have hp1 := xorP (s / 2) (by omega)
              rw [Int.natCast_ediv, show ((2 : Nat) : Int) = 2 from rfl] at hp1
              generalize s / 2 ^^^ Reg.P = s' at *
              have hm1 : (s : Int) % 2 = 1 := by omega
              clear hodd
              go_wp2
              go_round
              case rel => exact ⟨k + 1, by omega, by go_num, by rw [HK.out, HV.out]⟩
              case measure => simp [intOf]; omega
            · have HV : Hid (Reg.st s = s / 2) := by unfold Hid Reg.st; rw [if_neg hodd]
              have hm1 : (s : Int) % 2 = 0 := by omega
              clear hodd
              go_wp2
              go_round
              case rel => exact ⟨k + 1, by omega, by go_num, by rw [HK.out, HV.out, Int.natCast_ediv]; rfl⟩
              case measure => simp [intOf]; omega
          · obtain rfl : k = 8 := by omega
            rw [← HF.out]
            go_wp2
            go_round
            case rel => exact ⟨j + 1, by omega, by go_num, rfl⟩
            case measure => simp [intOf]; omega
    · obtain rfl : j = L := by omega
      have HS : Hid (Reg.run q xs = Reg.run q (xs.take j)) := by unfold Hid; rw [HE.out j rfl]
      generalize Reg.run q (xs.take j) = r at *
      go_wp2
      go_ret
      exact ⟨by rw [HS.out]; rfl, rfl⟩
end Go.Proofs.YtpkobpdiddjnpaaDoor.Cr
