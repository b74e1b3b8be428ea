/-
  What strings.IndexByte of the sixteen digits, and sha.Parse, answer.
-/
import Derived.Test.YthcpnhafikojnaaDoorSum
import Derived.Laws.Externs
import Derived.Deep.QuietTactic
import Derived.BigQuiet
import Derived.Laws.ResultCell
namespace Go.Proofs.YthcpnhafikojnaaDoor
open Go.RowKit

def digs : ByteArray := ⟨#[48, 49, 50, 51, 52, 53, 54, 55, 56, 57, 97, 98, 99, 100, 101, 102]⟩
/-- A digit's number; below nought: it is none. -/
def dg (c : Int) : Int := if 48 ≤ c ∧ c ≤ 57 then c - 48 else if 97 ≤ c ∧ c ≤ 102 then c - 87 else -1
theorem dg_first (c : Int) (h0 : 0 ≤ c) (h1 : c < 256) : firstIdx digs c.toNat.toUInt8 = dg c := by
  have all : ∀ j : Fin 256, firstIdx digs (j.val.toUInt8) = dg (j.val : Int) := by decide +kernel
  have := all ⟨c.toNat, by omega⟩
  simp only at this
  rw [this, Int.toNat_of_nonneg h0]
theorem dg_lt (c : Int) : -1 ≤ dg c ∧ dg c < 16 := by
  unfold dg
  split
  · omega
  · split <;> omega
theorem call37 (s : ByteArray) (c : Int) (w : World) : (callFunc 37 #[.string s, .int .u8 c]).run Tryd.prog w = .ok (.value (.int .i64 (firstIdx s c.toNat.toUInt8))) w := by
  rw [run_callFunc_extern (e := Extern.BytealgIndexByte.indexByte) Tryd.func37 (by kernel_rfl) (by kernel_rfl) (by kernel_rfl) (by kernel_rfl), run_indexByte_string]
  rfl

set_option maxHeartbeats 1000000 in
theorem idx_any (c : Int) (w : World) (h0 : 0 ≤ c) (h1 : c < 256) : Calls Tryd.prog 25 #[.string ⟨#[48, 49, 50, 51, 52, 53, 54, 55, 56, 57, 97, 98, 99, 100, 101, 102]⟩, .int .u8 c] w fun e w' => e = .returned (.int .i64 (dg c)) ∧ w' = w := by
  have hc := call37 digs c w
  rw [dg_first c h0 h1, show digs = ⟨#[48, 49, 50, 51, 52, 53, 54, 55, 56, 57, 97, 98, 99, 100, 101, 102]⟩ from rfl] at hc
  generalize dg c = d at *
  go_enter Tryd.func25, Tryd.ntmps25
  go_wp2
  go_ret
  exact ⟨rfl, rfl⟩

/-- A string's bytes. -/
def bl (s : ByteArray) : List Int := s.data.toList.map fun b => (b.toNat : Int)
theorem bl_len (s : ByteArray) : (bl s).length = s.size := by unfold bl; rw [List.length_map]; rfl
theorem bl_byt (s : ByteArray) (i : Nat) : 0 ≤ (bl s).getD i 0 ∧ (bl s).getD i 0 < 256 := by
  unfold bl
  by_cases h : i < s.data.toList.length
  · simp only [List.getD, List.getElem?_map, List.getElem?_eq_getElem h, Option.map_some, Option.getD_some]
    have := (s.data.toList[i]).toNat_lt
    omega
  · simp [List.getD, List.getElem?_eq_none (show s.data.toList.length ≤ i by omega)]
theorem run_index_bl (s : ByteArray) (w : World) (k : IntKind) (i : Nat) (h : i < s.size) : (Instr.index 9 (.string s) (.int k (i : Int))).run Tryd.prog w = .ok (.int .u8 ((bl s).getD i 0)) w := by
  have e : s[i]? = some s[i] := by rw [getElem?_pos s i h]
  have e2 : (bl s).getD i 0 = ((s[i]).toNat : Int) := by
    unfold bl
    have h' : i < s.data.toList.length := h
    simp only [List.getD, List.getElem?_map, List.getElem?_eq_getElem h', Option.map_some, Option.getD_some]
    rfl
  rw [e2]
  simp [Instr.index, asIntOf, run_underlying Tryd.underlying9, e]

/-- Whether the bytes are 64 digits. -/
def pok (l : List Int) : Bool := l.length == 64 && l.all fun c => decide (0 ≤ dg c)
def pbytes (l : List Int) : List Int := (List.range 32).map fun i => 16 * dg (l.getD (2 * i) 0) + dg (l.getD (2 * i + 1) 0)
def pval (l : List Int) : List Int := if pok l then pbytes l else List.replicate 32 0
def perr (l : List Int) : Int := if pok l then 0 else 4
theorem pbytes_len (l : List Int) : (pbytes l).length = 32 := by simp [pbytes]
theorem pbytes_get (l : List Int) (i : Nat) (h : i < 32) : (pbytes l).getD i 0 = 16 * dg (l.getD (2 * i) 0) + dg (l.getD (2 * i + 1) 0) := by
  simp [pbytes, List.getD, h]
theorem pok_of (l : List Int) (hl : l.length = 64) (h : ∀ i, i < 64 → 0 ≤ dg (l.getD i 0)) : pok l = true := by
  unfold pok
  simp only [hl, beq_self_eq_true, Bool.true_and, List.all_eq_true, decide_eq_true_eq]
  intro c hc
  obtain ⟨i, hi, rfl⟩ := List.getElem_of_mem hc
  have := h i (by omega)
  simpa [List.getD, List.getElem?_eq_getElem hi] using this
theorem pok_not (l : List Int) (i : Nat) (hi : i < l.length) (h : dg (l.getD i 0) < 0) : pok l = false := by
  cases hp : pok l with
  | false => rfl
  | true =>
    unfold pok at hp
    simp only [Bool.and_eq_true, List.all_eq_true, decide_eq_true_eq] at hp
    have := hp.2 l[i] (List.getElem_mem hi)
    simp [List.getD, List.getElem?_eq_getElem hi] at h
    omega
theorem pok_short (l : List Int) (h : l.length ≠ 64) : pok l = false := by unfold pok; simp [h]

theorem hex_or (a b : Int) (ha : 0 ≤ a) (ha2 : a < 16) (hb : 0 ≤ b) (hb2 : b < 16) : bits .or .i64 (a * 16) b = 16 * a + b := by
  have all : ∀ x : Fin 16, ∀ y : Fin 16, bits .or .i64 ((x.val : Int) * 16) (y.val : Int) = 16 * (x.val : Int) + (y.val : Int) := by decide +kernel
  have := all ⟨a.toNat, by omega⟩ ⟨b.toNat, by omega⟩
  simp only [Int.toNat_of_nonneg ha, Int.toNat_of_nonneg hb] at this
  exact this

theorem ret11 {tmps : Array Value} {w : World} {B : Nat} {D : List Int} {e : Int} {fr : Nat × Nat} (hp : tmps.getD 2 undef = .pointer (some ⟨B, 0, none⟩)) (he : tmps.getD 3 undef = .int .i64 e)
    (hg : w.heap[B]? = some (.cells (u8s D) 26 fr)) (hl : D.length = 32) : (results Tryd.f11 tmps).run Tryd.prog w = .ok (.tuple #[.agg (u8s D), .int .i64 e]) w := by
  have hld : (loadVar 26 ⟨B, 0, none⟩).run Tryd.prog w = .ok (.agg (u8s D)) w := run_loadVar_row w B 26 26 (u8s D) fr _ hg Tryd.underlying26 rfl (by rw [u8s_size, hl]; exact size26)
  rw [results_cell_tmp rfl, hp, he]
  simp [asAddr, Result.andThen, hld]
theorem zeros_size : (Tryd.prog.info? 26).map (·.size) = some (u8s (List.replicate 32 0)).size := size26

set_option maxHeartbeats 2000000 in
set_option maxRecDepth 100000 in
theorem parse_any (s : ByteArray) (w : World) :
    Calls Tryd.prog 11 #[.string s] w fun e w' => e = .returned (.tuple #[.agg (u8s (pval (bl s))), .int .i64 (perr (bl s))]) ∧ Below w.heap.size w w' := by
  have hx := bl_byt s
  have hl := bl_len s
  by_cases h64 : s.size = 64
  · have HX : Hid (∀ i, 0 ≤ (bl s).getD i 0 ∧ (bl s).getD i 0 < 256) := hx
    have HIX : Hid (∀ (w : World) (i : Nat), i < 64 → (Instr.index 9 (.string s) (.int .i64 (i : Int))).run Tryd.prog w = .ok (.int .u8 ((bl s).getD i 0)) w) := fun w i hi => run_index_bl s w .i64 i (by omega)
    rw [h64] at hl
    have HL : Hid ((bl s).length = 64) := hl
    obtain ⟨l, hll⟩ : ∃ l, l = bl s := ⟨_, rfl⟩
    rw [← hll] at HX HIX HL ⊢
    clear hll hl hx
    have HPL : Hid ((pbytes l).length = 32) := pbytes_len l
    have hsz : (s.size : Int) = 64 := by omega
    go_enter Tryd.func11, Tryd.ntmps11
    go_wp2
    go_loopw [12] (fun q wr => ∃ j : Nat, j ≤ 32 ∧ q = .int .i64 j ∧ (∀ i, i < 2 * j → 0 ≤ dg (l.getD i 0)) ∧ Rows2 w.heap.size 26 (u8s (List.replicate 32 0)) (u8s (partI (pbytes l) j)) w wr) (fun q _ => 32 - (intOf q).toNat)
    case atStart =>
      refine ⟨0, by omega, rfl, fun i hi => by omega, ?_⟩
      rw [partI_zero, HPL.out]
      exact Rows2.two w 26 _ _
    case round =>
      obtain ⟨j, hj, rfl, ok, g⟩ := hrel
      have OK : Hid (∀ i, i < 2 * j → 0 ≤ dg (l.getD i 0)) := ok
      have GR : Hid (Rows2 w.heap.size 26 (u8s (List.replicate 32 0)) (u8s (partI (pbytes l) j)) w wr) := g
      clear ok g
      by_cases hlt : j < 32
      · have lt2 : (j : Int) < 32 := by omega
        have q1 : IntKind.i64.wrap (2 * (j : Int)) = ((2 * j : Nat) : Int) := by simp [IntKind.wrap, IntKind.bits, IntKind.signed]; omega
        have q2 : IntKind.i64.wrap (((2 * j : Nat) : Int) + 1) = ((2 * j + 1 : Nat) : Int) := by simp [IntKind.wrap, IntKind.bits, IntKind.signed]; omega
        have i1 := fun w' => HIX.out w' (2 * j) (by omega)
        have i2 := fun w' => HIX.out w' (2 * j + 1) (by omega)
        have d1 := fun w' => idx_any (l.getD (2 * j) 0) w' (HX.out _).1 (HX.out _).2
        have d2 := fun w' => idx_any (l.getD (2 * j + 1) 0) w' (HX.out _).1 (HX.out _).2
        have e1 := dg_lt (l.getD (2 * j) 0)
        have e2 := dg_lt (l.getD (2 * j + 1) 0)
        have kf := GR.out.frozen j
        have kc := (GR.out.cell j).trans (u8s_get _ j (by rw [partI_len, HPL.out]; omega))
        have NS : Hid (∀ (wz : World), wz.heap = wr.heap → wz.os = wr.os → wz.tape = wr.tape → wz.output = wr.output → Rows2 w.heap.size 26 (u8s (List.replicate 32 0)) (u8s (partI (pbytes l) (j + 1))) w (wz.setCell ⟨w.heap.size + 1, j, none⟩ (.int .u8 (16 * dg (l.getD (2 * j) 0) + dg (l.getD (2 * j + 1) 0))))) := fun wz z1 z2 z3 z4 => by
          have g := GR.out
          have gz : Rows2 w.heap.size 26 (u8s (List.replicate 32 0)) (u8s (partI (pbytes l) j)) w wz := ⟨by rw [z1]; exact g.1, by rw [z1]; exact g.2.1, ⟨z2.trans g.2.2.os, z3.trans g.2.2.tape, z4.trans g.2.2.output, by rw [z1]; exact g.2.2.size, fun k hk => by rw [z1]; exact g.2.2.block k hk⟩⟩
          have := gz.set j (.int .u8 ((pbytes l).getD j 0))
          rw [u8s_set, partI_set _ _ (by rw [HPL.out]; omega), pbytes_get _ _ hlt] at this
          exact this
        have HP1 : Hid (dg (l.getD (2 * j) 0) < 0 → pok l = false) := fun h => pok_not l (2 * j) (by rw [HL.out]; omega) h
        have HP2 : Hid (dg (l.getD (2 * j + 1) 0) < 0 → pok l = false) := fun h => pok_not l (2 * j + 1) (by rw [HL.out]; omega) h
        have HOK : Hid (0 ≤ dg (l.getD (2 * j) 0) → 0 ≤ dg (l.getD (2 * j + 1) 0) → ∀ i, i < 2 * (j + 1) → 0 ≤ dg (l.getD i 0)) := fun a b i hi => by
          rcases Nat.lt_or_ge i (2 * j) with h | h
          · exact OK.out i h
          · rcases Nat.eq_or_lt_of_le h with h | h
            · rw [← h]; exact a
            · rw [show i = 2 * j + 1 by omega]; exact b
        generalize (partI (pbytes l) j).getD j 0 = old at *
        generalize dg (l.getD (2 * j) 0) = dA at *
        generalize dg (l.getD (2 * j + 1) 0) = dB at *
        generalize l.getD (2 * j) 0 = xA at *
        generalize l.getD (2 * j + 1) 0 = xB at *
        have D1 : Hid (∀ w', Calls Tryd.prog 25 #[.string ⟨#[48, 49, 50, 51, 52, 53, 54, 55, 56, 57, 97, 98, 99, 100, 101, 102]⟩, .int .u8 xA] w' fun e w1 => e = .returned (.int .i64 dA) ∧ w1 = w') := d1
        have D2 : Hid (∀ w', Calls Tryd.prog 25 #[.string ⟨#[48, 49, 50, 51, 52, 53, 54, 55, 56, 57, 97, 98, 99, 100, 101, 102]⟩, .int .u8 xB] w' fun e w1 => e = .returned (.int .i64 dB) ∧ w1 = w') := d2
        clear d1 d2
        have HMJ : Hid (2 * j = 2 * j) := rfl
        generalize 2 * j + 1 = m1 at *
        generalize 2 * j = m0 at *
        clear HMJ
        go_wp2_with fail
        go_quiet ((go_at_call 25; first | exact Calls.quiet_of_same (D1.out _) | exact Calls.quiet_of_same (D2.out _)))
        by_cases hA : dA < 0
        · have tA : decide (dA < 0) = true := by simp [hA]
          have GZ : Hid (wr.heap[w.heap.size]? = some (.cells (u8s (List.replicate 32 0)) 26 (0, 0))) := GR.out.1
          have BZ : Hid (∀ n, Below w.heap.size w (wr.drewN n)) := fun _ => ⟨GR.out.2.2.os, GR.out.2.2.tape, GR.out.2.2.output, GR.out.2.2.size, GR.out.2.2.block⟩
          have PF : Hid (pok l = false) := HP1.out hA
          clear NS HOK HP1 HP2
          go_wp2_with (refine wpList_store_row rfl 26 _ _ rfl w.heap.size (u8s (List.replicate 32 0)) rfl rfl 26 _ GZ.out zeros_size rfl (u8s_one _) ?_)
          refine bodyPost_ret (v := .tuple #[.agg (u8s (List.replicate 32 0)), .int .i64 4]) (ret11 rfl rfl (setRow_heap _ _ _ _ _ _ GZ.out) rfl) rfl ⟨by unfold pval perr; rw [PF.out]; rfl, below_setRow (BZ.out _) (Nat.le_refl _) _⟩
        · have tA : decide (dA < 0) = false := by simp [hA]
          by_cases hB : dB < 0
          · have tB : decide (dB < 0) = true := by simp [hB]
            have GZ : Hid (wr.heap[w.heap.size]? = some (.cells (u8s (List.replicate 32 0)) 26 (0, 0))) := GR.out.1
            have BZ : Hid (∀ n, Below w.heap.size w (wr.drewN n)) := fun _ => ⟨GR.out.2.2.os, GR.out.2.2.tape, GR.out.2.2.output, GR.out.2.2.size, GR.out.2.2.block⟩
            have PF : Hid (pok l = false) := HP2.out hB
            clear NS HOK HP1 HP2
            go_wp2_with (refine wpList_store_row rfl 26 _ _ rfl w.heap.size (u8s (List.replicate 32 0)) rfl rfl 26 _ GZ.out zeros_size rfl (u8s_one _) ?_)
            refine bodyPost_ret (v := .tuple #[.agg (u8s (List.replicate 32 0)), .int .i64 4]) (ret11 rfl rfl (setRow_heap _ _ _ _ _ _ GZ.out) rfl) rfl ⟨by unfold pval perr; rw [PF.out]; rfl, below_setRow (BZ.out _) (Nat.le_refl _) _⟩
          · have tB : decide (dB < 0) = false := by simp [hB]
            have o1 := hex_or dA dB (by omega) (by omega) (by omega) (by omega)
            have o2 : (16 * dA + dB) % 256 = 16 * dA + dB := by omega
            have a0 : 0 ≤ dA := by omega
            have b0 : 0 ≤ dB := by omega
            have HK : Hid (∀ i, i < 2 * (j + 1) → 0 ≤ dg (l.getD i 0)) := HOK.out a0 b0
            clear HOK HP1 HP2
            go_wp2
            exact ⟨⟨j + 1, by omega, by go_num, HK.out, NS.out _ rfl rfl rfl rfl⟩, by simp [intOf]; omega⟩
      · obtain rfl : j = 32 := by omega
        have PT : Hid (pok l = true) := pok_of l HL.out (fun i hi => OK.out i (by omega))
        obtain ⟨g0, g1, gb⟩ := GR.out
        rw [show partI (pbytes l) 32 = pbytes l by rw [← HPL.out]; exact partI_all _] at g1
        have GB : Hid (Below w.heap.size w wr) := gb
        have G0 : Hid (wr.heap[w.heap.size]? = some (.cells (u8s (List.replicate 32 0)) 26 (0, 0))) := g0
        have G1 : Hid (wr.heap[w.heap.size + 1]? = some (.cells (u8s (pbytes l)) 26 (0, 0))) := g1
        have HI : Hid ((Tryd.prog.info? 26).map (·.size) = some (u8s (pbytes l)).size) := by unfold Hid; rw [u8s_size, HPL.out]; exact size26
        have HO : Hid ((u8s (List.replicate 32 0)).size = (u8s (pbytes l)).size) := by unfold Hid; rw [u8s_size, u8s_size, HPL.out]; simp
        clear g0 g1 gb GR OK
        go_wp2_with (first
          | refine wpList_load_row rfl 26 _ rfl (w.heap.size + 1) rfl 26 (u8s (pbytes l)) (0, 0) _ G1.out Tryd.underlying26 rfl HI.out ?_
          | refine wpList_store_row rfl 26 _ _ rfl w.heap.size (u8s (pbytes l)) rfl rfl 26 _ G0.out HI.out HO.out (u8s_one _) ?_)
        refine bodyPost_ret (v := .tuple #[.agg (u8s (pbytes l)), .int .i64 0]) (ret11 rfl rfl (setRow_heap _ _ _ _ _ _ G0.out) HPL.out) rfl ⟨by unfold pval perr; rw [PT.out]; rfl, below_setRow GB.out (Nat.le_refl _) _⟩
  · have PF : Hid (pok (bl s) = false) := pok_short _ (by rw [hl]; exact h64)
    have hne : ¬ (s.size : Int) = 64 := by omega
    have hne2 : ((s.size : Int) != 64) = true := by simp; omega
    have GZ : Hid (Rows2 w.heap.size 26 (u8s (List.replicate 32 0)) (u8s (List.replicate 32 0)) w ((w.alloc (.cells (u8s (List.replicate 32 0)) 26)).alloc (.cells (u8s (List.replicate 32 0)) 26))) := Rows2.two w 26 _ _
    clear hx hl
    go_enter Tryd.func11, Tryd.ntmps11
    go_wp2_with (refine wpList_store_row rfl 26 _ _ rfl w.heap.size (u8s (List.replicate 32 0)) rfl rfl 26 _ GZ.out.1 zeros_size rfl (u8s_one _) ?_)
    refine bodyPost_ret (v := .tuple #[.agg (u8s (List.replicate 32 0)), .int .i64 4]) (ret11 rfl rfl (setRow_heap _ _ _ _ _ _ GZ.out.1) rfl) rfl ⟨by unfold pval perr; rw [PF.out]; rfl, below_setRow GZ.out.2.2 (Nat.le_refl _) _⟩
end Go.Proofs.YthcpnhafikojnaaDoor
