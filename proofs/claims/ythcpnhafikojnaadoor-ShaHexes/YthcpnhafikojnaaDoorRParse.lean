/-
  What the document's digit and Parse answer.
-/
import Derived.Test.YthcpnhafikojnaaDoorParse
import Derived.Deep.QuietTactic
import Derived.BigQuiet
import Derived.Laws.ResultCell
import Derived.Deep.RegionWith
namespace Go.Proofs.YthcpnhafikojnaaDoor
open Go.RowKit

/-- The document's number of a digit. -/
def rdg (c : Int) : Int := if dg c < 0 then 16 else dg c
/-- The digit of a number. -/
def hexd (i : Nat) : Int := (bl digs).getD i 0
theorem rdg_at (c : Int) (i : Nat) (hi : i < 16) (h : hexd i = c) : rdg c = i := by
  have all : ∀ j : Fin 16, rdg (hexd j.val) = (j.val : Int) := by decide +kernel
  rw [← h]
  exact all ⟨i, hi⟩
theorem rdg_none (c : Int) (h0 : 0 ≤ c) (h1 : c < 256) (h : ∀ i, i < 16 → hexd i ≠ c) : rdg c = 16 := by
  have all : ∀ j : Fin 256, (∀ i : Fin 16, hexd i.val ≠ (j.val : Int)) → rdg (j.val : Int) = 16 := by decide +kernel
  have := all ⟨c.toNat, by omega⟩ (fun i => by
    have := h i.val i.isLt
    simp only [Int.toNat_of_nonneg h0]
    exact this)
  simp only [Int.toNat_of_nonneg h0] at this
  exact this

set_option maxHeartbeats 1000000 in
theorem rdigit_any (c : Int) (w : World) (h0 : 0 ≤ c) (h1 : c < 256) :
    Calls Tryd.prog 26 #[.int .u8 c] w fun e w' => e = .returned (.int .u8 (rdg c)) ∧ w' = w := by
  have HIX : Hid (∀ (w : World) (k : IntKind) (i : Nat), i < 16 → (Instr.index 9 (.string ⟨#[48, 49, 50, 51, 52, 53, 54, 55, 56, 57, 97, 98, 99, 100, 101, 102]⟩) (.int k (i : Int))).run Tryd.prog w = .ok (.int .u8 (hexd i)) w) := fun w k i hi => run_index_bl digs w k i hi
  have HN : Hid ((∀ i, i < 16 → hexd i ≠ c) → rdg c = 16) := rdg_none c h0 h1
  have HA : Hid (∀ i, i < 16 → hexd i = c → rdg c = (i : Int)) := fun i hi h => rdg_at c i hi h
  obtain ⟨r, hr⟩ : ∃ r, r = rdg c := ⟨_, rfl⟩
  rw [← hr] at HN HA ⊢
  clear hr
  go_enter Tryd.func26, Tryd.ntmps26
  go_wp2
  go_loop [3] (fun i => ∃ j : Nat, j ≤ 16 ∧ i = .int .u8 j ∧ ∀ k, k < j → hexd k ≠ c) (fun i => 16 - (intOf i).toNat)
  case atStart => exact ⟨0, by omega, rfl, fun k hk => by omega⟩
  case round =>
    obtain ⟨j, hj, rfl, ok⟩ := hrel
    have OK : Hid (∀ k, k < j → hexd k ≠ c) := ok
    clear ok
    by_cases hlt : j < 16
    · have lt2 : (j : Int) < 16 := by omega
      have ix := HIX.out w .u8 j hlt
      by_cases he : hexd j = c
      · have HR : Hid (r = (j : Int)) := HA.out j hlt he
        have t1 : (hexd j == c) = true := by simp [he]
        have t2 : decide (hexd j = c) = true := by simp [he]
        generalize hexd j = x at *
        clear he HN HA OK
        go_wp2
        go_ret
        exact ⟨by rw [HR.out]; rfl, rfl⟩
      · have t1 : (hexd j == c) = false := by simp [he]
        have t2 : decide (hexd j = c) = false := by simp [he]
        have NK : Hid (∀ k, k < j + 1 → hexd k ≠ c) := fun k hk => by
          rcases Nat.lt_or_ge k j with h | h
          · exact OK.out k h
          · rw [show k = j by omega]; exact he
        have q1 : IntKind.u8.wrap ((j : Int) + 1) = ((j + 1 : Nat) : Int) := by simp [IntKind.wrap, IntKind.bits, IntKind.signed]; omega
        generalize hexd j = x at *
        clear OK
        go_wp2
        exact ⟨⟨j + 1, by omega, by go_num, NK.out⟩, by simp [intOf]; omega⟩
    · obtain rfl : j = 16 := by omega
      have HR : Hid (r = 16) := HN.out OK.out
      clear HN HA OK
      go_wp2
      go_ret
      exact ⟨by rw [HR.out]; rfl, rfl⟩
theorem rdg_cases (c : Int) : (rdg c = 16 ∧ dg c < 0) ∨ (rdg c = dg c ∧ 0 ≤ dg c ∧ dg c < 16) := by
  have := dg_lt c
  unfold rdg
  split
  · exact .inl ⟨rfl, by assumption⟩
  · exact .inr ⟨rfl, by omega, by omega⟩
theorem ret12 {tmps : Array Value} {w : World} {B : Nat} {D : List Int} {e : Int} {fr : Nat × Nat} (hp : tmps.getD 2 undef = .pointer (some ⟨B, 0, none⟩)) (he : tmps.getD 3 undef = .int .i64 e)
    (hg : w.heap[B]? = some (.cells (u8s D) 26 fr)) (hl : D.length = 32) : (results Tryd.f12 tmps).run Tryd.prog w = .ok (.tuple #[.agg (u8s D), .int .i64 e]) w := by
  have hld : (loadVar 26 ⟨B, 0, none⟩).run Tryd.prog w = .ok (.agg (u8s D)) w := run_loadVar_row w B 26 26 (u8s D) fr _ hg Tryd.underlying26 rfl (by rw [u8s_size, hl]; exact size26)
  rw [results_cell_tmp rfl, hp, he]
  simp [asAddr, Result.andThen, hld]
set_option maxHeartbeats 2000000 in
set_option maxRecDepth 100000 in
theorem rparse_any (s : ByteArray) (w : World) :
    Calls Tryd.prog 12 #[.string s] w fun e w' => e = .returned (.tuple #[.agg (u8s (pval (bl s))), .int .i64 (perr (bl s))]) ∧ Below w.heap.size w w' := by
  have hx := bl_byt s
  have hl := bl_len s
  by_cases h64 : s.size = 64
  · have HX : Hid (∀ i, 0 ≤ (bl s).getD i 0 ∧ (bl s).getD i 0 < 256) := hx
    have HIX : Hid (∀ (w : World) (i : Nat), i < 64 → (Instr.index 9 (.string s) (.int .i64 (i : Int))).run Tryd.prog w = .ok (.int .u8 ((bl s).getD i 0)) w) := fun w i hi => run_index_bl s w .i64 i (by omega)
    rw [h64] at hl
    have HL : Hid ((bl s).length = 64) := hl
    obtain ⟨l, hll⟩ : ∃ l, l = bl s := ⟨_, rfl⟩
    rw [← hll] at HX HIX HL ⊢
    clear hll hl hx
    have HPL : Hid ((pbytes l).length = 32) := pbytes_len l
    have hsz : (s.size : Int) = 64 := by omega
    go_enter Tryd.func12, Tryd.ntmps12
    go_wp2
    go_loopw [5] (fun q wr => ∃ j : Nat, j ≤ 32 ∧ q = .int .i64 j ∧ (∀ i, i < 2 * j → 0 ≤ dg (l.getD i 0)) ∧ Rows2 w.heap.size 26 (u8s (List.replicate 32 0)) (u8s (partI (pbytes l) j)) w wr) (fun q _ => 32 - (intOf q).toNat)
    case atStart =>
      refine ⟨0, by omega, rfl, fun i hi => by omega, ?_⟩
      rw [partI_zero, HPL.out]
      exact Rows2.two w 26 _ _
    case round =>
      obtain ⟨j, hj, rfl, ok, g⟩ := hrel
      have OK : Hid (∀ i, i < 2 * j → 0 ≤ dg (l.getD i 0)) := ok
      have GR : Hid (Rows2 w.heap.size 26 (u8s (List.replicate 32 0)) (u8s (partI (pbytes l) j)) w wr) := g
      clear ok g
      by_cases hlt : j < 32
      · have lt2 : (j : Int) < 32 := by omega
        have q1 : IntKind.i64.wrap (2 * (j : Int)) = ((2 * j : Nat) : Int) := by simp [IntKind.wrap, IntKind.bits, IntKind.signed]; omega
        have q2 : IntKind.i64.wrap (((2 * j : Nat) : Int) + 1) = ((2 * j + 1 : Nat) : Int) := by simp [IntKind.wrap, IntKind.bits, IntKind.signed]; omega
        have i1 := fun w' => HIX.out w' (2 * j) (by omega)
        have i2 := fun w' => HIX.out w' (2 * j + 1) (by omega)
        have d1 := fun w' => rdigit_any (l.getD (2 * j) 0) w' (HX.out _).1 (HX.out _).2
        have d2 := fun w' => rdigit_any (l.getD (2 * j + 1) 0) w' (HX.out _).1 (HX.out _).2
        have p1 := rdg_cases (l.getD (2 * j) 0)
        have p2 := rdg_cases (l.getD (2 * j + 1) 0)
        generalize rdg (l.getD (2 * j) 0) = rA at *
        generalize rdg (l.getD (2 * j + 1) 0) = rB at *
        have e1 := dg_lt (l.getD (2 * j) 0)
        have e2 := dg_lt (l.getD (2 * j + 1) 0)
        have kf := GR.out.frozen j
        have kc := (GR.out.cell j).trans (u8s_get _ j (by rw [partI_len, HPL.out]; omega))
        have NS : Hid (∀ (wz : World), wz.heap = wr.heap → wz.os = wr.os → wz.tape = wr.tape → wz.output = wr.output → Rows2 w.heap.size 26 (u8s (List.replicate 32 0)) (u8s (partI (pbytes l) (j + 1))) w (wz.setCell ⟨w.heap.size + 1, j, none⟩ (.int .u8 (16 * dg (l.getD (2 * j) 0) + dg (l.getD (2 * j + 1) 0))))) := fun wz z1 z2 z3 z4 => by
          have g := GR.out
          have gz : Rows2 w.heap.size 26 (u8s (List.replicate 32 0)) (u8s (partI (pbytes l) j)) w wz := ⟨by rw [z1]; exact g.1, by rw [z1]; exact g.2.1, ⟨z2.trans g.2.2.os, z3.trans g.2.2.tape, z4.trans g.2.2.output, by rw [z1]; exact g.2.2.size, fun k hk => by rw [z1]; exact g.2.2.block k hk⟩⟩
          have := gz.set j (.int .u8 ((pbytes l).getD j 0))
          rw [u8s_set, partI_set _ _ (by rw [HPL.out]; omega), pbytes_get _ _ hlt] at this
          exact this
        have HP1 : Hid (dg (l.getD (2 * j) 0) < 0 → pok l = false) := fun h => pok_not l (2 * j) (by rw [HL.out]; omega) h
        have HP2 : Hid (dg (l.getD (2 * j + 1) 0) < 0 → pok l = false) := fun h => pok_not l (2 * j + 1) (by rw [HL.out]; omega) h
        have HOK : Hid (0 ≤ dg (l.getD (2 * j) 0) → 0 ≤ dg (l.getD (2 * j + 1) 0) → ∀ i, i < 2 * (j + 1) → 0 ≤ dg (l.getD i 0)) := fun a b i hi => by
          rcases Nat.lt_or_ge i (2 * j) with h | h
          · exact OK.out i h
          · rcases Nat.eq_or_lt_of_le h with h | h
            · rw [← h]; exact a
            · rw [show i = 2 * j + 1 by omega]; exact b
        generalize (partI (pbytes l) j).getD j 0 = old at *
        generalize dg (l.getD (2 * j) 0) = dA at *
        generalize dg (l.getD (2 * j + 1) 0) = dB at *
        generalize l.getD (2 * j) 0 = xA at *
        generalize l.getD (2 * j + 1) 0 = xB at *
        have D1 : Hid (∀ w', Calls Tryd.prog 26 #[.int .u8 xA] w' fun e w1 => e = .returned (.int .u8 rA) ∧ w1 = w') := d1
        have D2 : Hid (∀ w', Calls Tryd.prog 26 #[.int .u8 xB] w' fun e w1 => e = .returned (.int .u8 rB) ∧ w1 = w') := d2
        clear d1 d2
        have HMJ : Hid (2 * j = 2 * j) := rfl
        generalize 2 * j + 1 = m1 at *
        generalize 2 * j = m0 at *
        clear HMJ
        go_wp2_with fail
        go_quiet ((first | (go_at_call_of 26 (Value.int IntKind.u8 xA); exact Calls.quiet_of_same (D1.out _)) | (go_at_call_of 26 (Value.int IntKind.u8 xB); exact Calls.quiet_of_same (D2.out _))))
        have P1 : Hid ((rA = 16 ∧ dA < 0) ∨ (rA = dA ∧ 0 ≤ dA ∧ dA < 16)) := p1
        have P2 : Hid ((rB = 16 ∧ dB < 0) ∨ (rB = dB ∧ 0 ≤ dB ∧ dB < 16)) := p2
        clear p1 p2
        by_cases hA : dA < 0
        · obtain rfl : rA = 16 := by have := P1.out; omega
          have GZ : Hid (wr.heap[w.heap.size]? = some (.cells (u8s (List.replicate 32 0)) 26 (0, 0))) := GR.out.1
          have BZ : Hid (∀ n, Below w.heap.size w (wr.drewN n)) := fun _ => ⟨GR.out.2.2.os, GR.out.2.2.tape, GR.out.2.2.output, GR.out.2.2.size, GR.out.2.2.block⟩
          have PF : Hid (pok l = false) := HP1.out hA
          clear NS HOK HP1 HP2
          go_wp2_with (refine wpList_store_row rfl 26 _ _ rfl w.heap.size (u8s (List.replicate 32 0)) rfl rfl 26 _ GZ.out zeros_size rfl (u8s_one _) ?_)
          refine bodyPost_ret (v := .tuple #[.agg (u8s (List.replicate 32 0)), .int .i64 4]) (ret12 rfl rfl (setRow_heap _ _ _ _ _ _ GZ.out) rfl) rfl ⟨by unfold pval perr; rw [PF.out]; rfl, below_setRow (BZ.out _) (Nat.le_refl _) _⟩
        · obtain ⟨rfl, a1, a2⟩ : rA = dA ∧ 0 ≤ dA ∧ dA < 16 := by have := P1.out; omega
          have tA : (rA == 16) = false := by simp; omega
          have tA' : decide (rA = 16) = false := by simp; omega
          by_cases hB : dB < 0
          · obtain rfl : rB = 16 := by have := P2.out; omega
            have GZ : Hid (wr.heap[w.heap.size]? = some (.cells (u8s (List.replicate 32 0)) 26 (0, 0))) := GR.out.1
            have BZ : Hid (∀ n, Below w.heap.size w (wr.drewN n)) := fun _ => ⟨GR.out.2.2.os, GR.out.2.2.tape, GR.out.2.2.output, GR.out.2.2.size, GR.out.2.2.block⟩
            have PF : Hid (pok l = false) := HP2.out hB
            clear NS HOK HP1 HP2
            go_wp2_with (refine wpList_store_row rfl 26 _ _ rfl w.heap.size (u8s (List.replicate 32 0)) rfl rfl 26 _ GZ.out zeros_size rfl (u8s_one _) ?_)
            refine bodyPost_ret (v := .tuple #[.agg (u8s (List.replicate 32 0)), .int .i64 4]) (ret12 rfl rfl (setRow_heap _ _ _ _ _ _ GZ.out) rfl) rfl ⟨by unfold pval perr; rw [PF.out]; rfl, below_setRow (BZ.out _) (Nat.le_refl _) _⟩
          · obtain ⟨rfl, b1, b2⟩ : rB = dB ∧ 0 ≤ dB ∧ dB < 16 := by have := P2.out; omega
            have tB : (rB == 16) = false := by simp; omega
            have tB' : decide (rB = 16) = false := by simp; omega
            have o1 : IntKind.u8.wrap (16 * rA) = 16 * rA := by simp [IntKind.wrap, IntKind.bits, IntKind.signed]; omega
            have o2 : IntKind.u8.wrap (16 * rA + rB) = 16 * rA + rB := by simp [IntKind.wrap, IntKind.bits, IntKind.signed]; omega
            have o3 : (16 * rA + rB) % 256 = 16 * rA + rB := by omega
            have a0 : 0 ≤ rA := by omega
            have b0 : 0 ≤ rB := by omega
            have HK : Hid (∀ i, i < 2 * (j + 1) → 0 ≤ dg (l.getD i 0)) := HOK.out a0 b0
            clear HOK HP1 HP2
            go_wp2
            exact ⟨⟨j + 1, by omega, by go_num, HK.out, NS.out _ rfl rfl rfl rfl⟩, by simp [intOf]; omega⟩
      · obtain rfl : j = 32 := by omega
        have PT : Hid (pok l = true) := pok_of l HL.out (fun i hi => OK.out i (by omega))
        obtain ⟨g0, g1, gb⟩ := GR.out
        rw [show partI (pbytes l) 32 = pbytes l by rw [← HPL.out]; exact partI_all _] at g1
        have GB : Hid (Below w.heap.size w wr) := gb
        have G0 : Hid (wr.heap[w.heap.size]? = some (.cells (u8s (List.replicate 32 0)) 26 (0, 0))) := g0
        have G1 : Hid (wr.heap[w.heap.size + 1]? = some (.cells (u8s (pbytes l)) 26 (0, 0))) := g1
        have HI : Hid ((Tryd.prog.info? 26).map (·.size) = some (u8s (pbytes l)).size) := by unfold Hid; rw [u8s_size, HPL.out]; exact size26
        have HO : Hid ((u8s (List.replicate 32 0)).size = (u8s (pbytes l)).size) := by unfold Hid; rw [u8s_size, u8s_size, HPL.out]; simp
        clear g0 g1 gb GR OK
        go_wp2_with (first
          | refine wpList_load_row rfl 26 _ rfl (w.heap.size + 1) rfl 26 (u8s (pbytes l)) (0, 0) _ G1.out Tryd.underlying26 rfl HI.out ?_
          | refine wpList_store_row rfl 26 _ _ rfl w.heap.size (u8s (pbytes l)) rfl rfl 26 _ G0.out HI.out HO.out (u8s_one _) ?_)
        refine bodyPost_ret (v := .tuple #[.agg (u8s (pbytes l)), .int .i64 0]) (ret12 rfl rfl (setRow_heap _ _ _ _ _ _ G0.out) HPL.out) rfl ⟨by unfold pval perr; rw [PT.out]; rfl, below_setRow GB.out (Nat.le_refl _) _⟩
  · have PF : Hid (pok (bl s) = false) := pok_short _ (by rw [hl]; exact h64)
    have hne : ¬ (s.size : Int) = 64 := by omega
    have hne2 : ((s.size : Int) != 64) = true := by simp; omega
    have GZ : Hid (Rows2 w.heap.size 26 (u8s (List.replicate 32 0)) (u8s (List.replicate 32 0)) w ((w.alloc (.cells (u8s (List.replicate 32 0)) 26)).alloc (.cells (u8s (List.replicate 32 0)) 26))) := Rows2.two w 26 _ _
    clear hx hl
    go_enter Tryd.func12, Tryd.ntmps12
    go_wp2_with (first
      | refine wpList_load_row rfl 26 (.tmp 4) rfl (w.heap.size + 1) rfl 26 (u8s (List.replicate 32 0)) (0, 0) _ GZ.out.2.1 Tryd.underlying26 rfl zeros_size ?_
      | refine wpList_store_row rfl 26 _ _ rfl w.heap.size (u8s (List.replicate 32 0)) rfl rfl 26 _ GZ.out.1 zeros_size rfl (u8s_one _) ?_)
    refine bodyPost_ret (v := .tuple #[.agg (u8s (List.replicate 32 0)), .int .i64 4]) (ret12 rfl rfl (setRow_heap _ _ _ _ _ _ GZ.out.1) rfl) rfl ⟨by unfold pval perr; rw [PF.out]; rfl, below_setRow GZ.out.2.2 (Nat.le_refl _) _⟩
end Go.Proofs.YthcpnhafikojnaaDoor
