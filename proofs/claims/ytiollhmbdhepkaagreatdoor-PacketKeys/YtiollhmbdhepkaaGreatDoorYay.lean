/-
  What slices.Grow of nil, slices.Concat and bytes.Clone answer: a slice of the call's own that holds the parts' bytes, one behind the other; nothing that was there is changed.
  What field.Join answers (a bridge: parts as the main texts tell them).
  A packet: its cells in a block; what of it may be; its head; its room.
  What mayBe, head, Room and isLong answer.
-/
import Derived.Test.YtiollhmbdhepkaaGreatDoorYaa
import Derived.Test.YtiollhmbdhepkaaGreatDoorYap
import Derived.Test.YtiollhmbdhepkaaGreatDoorYar
import Derived.Test.YtiollhmbdhepkaaGreatDoorYag
import Derived.Test.YtiollhmbdhepkaaGreatDoorYax
import Derived.Deep.RegionHeld3
namespace Go.Proofs.YtiollhmbdhepkaaGreatDoor
open Go.RowKit
set_option maxRecDepth 100000

/-- A slice of slices of bytes, as Concat reads it. -/
def Parts (w : World) (p : Option Addr) (ZZ : List (List Int)) : Prop :=
  ZZ.length ≤ 9223372036854775807 ∧ (ZZ = [] ∨ ∃ b off, p = some ⟨b, off, none⟩ ∧ ∀ i, i < ZZ.length → ∃ v, w.cell? ⟨b, off + i, none⟩ = some v ∧ Sl w v (ZZ.getD i []))

theorem flat_succ (ZZ : List (List Int)) (j : Nat) (h : j < ZZ.length) : (ZZ.take (j + 1)).flatten = (ZZ.take j).flatten ++ ZZ.getD j [] := by
  rw [List.take_add_one, List.getElem?_eq_getElem h, List.flatten_append]
  simp [List.getD, List.getElem?_eq_getElem h]

theorem parts2 (w : World) (u1 u2 : Value) (X Y : List Int) (s1 : Sl w u1 X) (s2 : Sl w u2 Y) : Parts (w.alloc (.cells #[u1, u2] 34)) (some ⟨w.heap.size, 0, none⟩) [X, Y] := by
  have hb : Below w.heap.size w (w.alloc (.cells #[u1, u2] 34)) := (Below.refl _ _).alloc (Nat.le_refl _) _
  refine ⟨by simp, .inr ⟨_, 0, rfl, fun i hi => ?_⟩⟩
  have hi2 : i = 0 ∨ i = 1 := by simp at hi; omega
  rcases hi2 with rfl | rfl
  · exact ⟨u1, by rw [World.cell?_alloc_at _ _ _ _ rfl]; rfl, s1.kept hb⟩
  · exact ⟨u2, by rw [World.cell?_alloc_at _ _ _ _ rfl]; rfl, s2.kept hb⟩

theorem isnil (w : World) : (binOp BinOp.eql 34 (.slice none 0 0) (.slice none 0 0)).run Tryz.prog w = .ok (.bool true) w := by kernel_rfl
theorem notnil (x : Addr) (n c : Nat) (w : World) : (binOp BinOp.eql 34 (.slice (some x) n c) (.slice none 0 0)).run Tryz.prog w = .ok (.bool false) w := by kernel_rfl

set_option maxHeartbeats 1000000 in
/-- What bytes.Clone answers: a slice of its own of the same bytes, nil for nil. -/
theorem clone_any (v : Value) (xs : List Int) (w : World) (h : Sl w v xs) (hbig : xs.length ≤ 200000000000000) :
    Calls Tryz.prog 93 #[v] w fun r w' => ∃ v', r = .returned v' ∧ w'.ownsRow w.heap.size 5 1 v' xs.length (xs.map (Value.int .u8)) ∧ Below w.heap.size w w' := by
  obtain ⟨i0, hi, hz0, hz1, hz2⟩ := info_parts info5'
  obtain ⟨a, cap, rfl, h1, h2, h3, h4⟩ := h
  cases a with
  | none =>
    obtain rfl := h3 rfl
    obtain rfl : xs = [] := List.length_eq_zero_iff.1 (by omega)
    clear h1 h2 h3 h4 hbig
    have hnil := isnil w
    go_enter Tryz.func93, Tryz.ntmps93
    go_wp2
    go_ret
    exact ⟨_, rfl, World.ownsRow_nil _ _ _ _, Below.refl _ _⟩
  | some x =>
    have hown0 : (w.alloc (.cells #[] 5)).ownsRow w.heap.size 5 1 (.slice (some ⟨w.heap.size, 0, none⟩) 0 0) 0 [] := World.ownsRow_made (base := w.heap.size) (e := 5) (size := 1) w #[] 0 (Nat.le_refl _) (by unfold maxLen; omega) rfl
    have hb0 : Below w.heap.size w (w.alloc (.cells #[] 5)) := (Below.refl _ _).alloc (Nat.le_refl _) _
    have hnews := news_row (h4.kept hb0)
    obtain ⟨L, hL⟩ : ∃ L, L = xs.length := ⟨_, rfl⟩
    have HL : Hid (L = xs.length) := hL
    rw [← hL] at hbig h1 ⊢
    clear h3 h4 hL h2
    have hnil := notnil x L cap w
    go_enter Tryz.func93, Tryz.ntmps93
    go_wp2_with (at_builtin; refine wpList_append_own_wide _ rfl _ _ 34 rfl w.heap.size 5 i0 (.int .u8 0) 1 1 Tryz.underlying34 hi hz0 hz1 hz2 rfl (by decide) _ 0 [] rfl hown0 x L cap (xs.map (Value.int .u8)) rfl (by rw [List.length_map, HL.out, Nat.mul_one]) hnews (ints_one xs) (by unfold maxLen; omega) (by omega) (by simp) ?_)
    intro v' w2 hown' hgrow _
    have hbel' : Below w.heap.size w w2 := hb0.grown hgrow (by simp) (own_base hown0)
    try simp only [Nat.zero_add, List.nil_append] at hown'
    clear hown0 hgrow hb0 hnews
    go_wp2
    go_ret
    exact ⟨_, rfl, hown', hbel'⟩

end Go.Proofs.YtiollhmbdhepkaaGreatDoor
namespace Go.Proofs.YtiollhmbdhepkaaGreatDoor
open Go.RowKit

theorem join_any (p : Option Addr) (kc : Nat) (ZZ : List (List Int)) (w : World) (hP : Parts w p ZZ) (hbig : ZZ.flatten.length ≤ 200000000000000) :
    Calls Tryz.prog 58 #[.slice p ZZ.length kc] w fun r w' => ∃ v, r = .returned v ∧ w'.ownsRow w.heap.size 5 1 v ZZ.flatten.length (ZZ.flatten.map (Value.int .u8)) ∧ Below w.heap.size w w' := Fi.join_any p kc ZZ w hP hbig

end Go.Proofs.YtiollhmbdhepkaaGreatDoor
namespace Go.Proofs.YtiollhmbdhepkaaGreatDoor
open Go.RowKit
set_option maxRecDepth 100000

/-- A packet in a block. -/
def KB (w : World) (g : Nat) (k c n : Int) (v : Value) : Prop := w.heap[g]? = some (.cells #[.int .u8 k, .int .i64 c, .int .i64 n, v] 51 (0, 0))
structure KC (w : World) (g : Nat) (k c n : Int) (v : Value) : Prop where
  c0 : w.cell? ⟨g, 0, none⟩ = some (.int .u8 k)
  c1 : w.cell? ⟨g, 1, none⟩ = some (.int .i64 c)
  c2 : w.cell? ⟨g, 2, none⟩ = some (.int .i64 n)
  c3 : w.cell? ⟨g, 3, none⟩ = some v
theorem KB.new (w : World) (k c n : Int) (v : Value) : KB (w.alloc (.cells #[.int .u8 k, .int .i64 c, .int .i64 n, v] 51)) w.heap.size k c n v := heap_alloc_new _ _
theorem KB.kept {w w' : World} {g : Nat} {k c n : Int} {v : Value} (h : KB w g k c n v) (hb : Below w.heap.size w w') : KB w' g k c n v := blk_kept h hb (blk_lt h)
theorem KB.kc {w : World} {g : Nat} {k c n : Int} {v : Value} (h : KB w g k c n v) : KC w g k c n v := by
  unfold KB at h
  refine ⟨?_, ?_, ?_, ?_⟩ <;> simp [World.cell?, h]
theorem infoK : (Tryz.prog.info? 51).map (·.size) = some 4 := by kernel_rfl

/-- May a packet's head be? -/
def mb (k c n : Int) : Bool := decide (k ≤ 1) && (decide (0 ≤ c) && decide (c ≤ 1099511627776)) && (decide (0 ≤ n) && decide (n ≤ 1099511627776))
theorem mb_iff {k c n : Int} : mb k c n = true ↔ k ≤ 1 ∧ (0 ≤ c ∧ c ≤ 1099511627776) ∧ (0 ≤ n ∧ n ≤ 1099511627776) := by
  unfold mb
  simp only [Bool.and_eq_true, decide_eq_true_eq, and_assoc]
def hdL (k c n : Int) : List Int := k :: (Fi.numB c ++ Fi.numB n)
theorem numB_le (n : Int) : (Fi.numB n).length ≤ 8 := by
  have h1 := Fi.numB_len n
  have h2 : Fi.lenOf n ≤ 8 := by
    unfold Fi.lenOf
    repeat' split
    all_goals omega
  omega
theorem hdL_le (k c n : Int) : (hdL k c n).length ≤ 17 := by
  unfold hdL
  have := numB_le c
  have := numB_le n
  simp only [List.length_cons, List.length_append]
  omega
theorem hdL_pos (k c n : Int) : 1 ≤ (hdL k c n).length := by
  unfold hdL
  simp only [List.length_cons]
  omega
theorem byt_cat {X Y : List Int} (h1 : ∀ k, 0 ≤ X.getD k 0 ∧ X.getD k 0 < 256) (h2 : ∀ k, 0 ≤ Y.getD k 0 ∧ Y.getD k 0 < 256) : ∀ k, 0 ≤ (X ++ Y).getD k 0 ∧ (X ++ Y).getD k 0 < 256 := fun k => by
  rcases Nat.lt_or_ge k X.length with h | h
  · have := h1 k
    simpa [List.getD, List.getElem?_append_left h] using this
  · have := h2 (k - X.length)
    simpa [List.getD, List.getElem?_append_right h] using this
theorem hdL_byt {k c n : Int} (h0 : 0 ≤ k) (h1 : k < 256) : ∀ i, 0 ≤ (hdL k c n).getD i 0 ∧ (hdL k c n).getD i 0 < 256 := by
  have hn : ∀ m i, 0 ≤ (Fi.numB m).getD i 0 ∧ (Fi.numB m).getD i 0 < 256 := fun m i => by
    unfold Fi.numB
    split
    · simp
    · rename_i h
      obtain ⟨W, hW, -, hI, h0, h1, -⟩ := Fi.pos_lim m h
      rw [hW, Int.toNat_natCast]
      exact Fi.pb_bytes m W hI h0 h1 i
  intro i
  unfold hdL
  cases i with
  | zero => exact ⟨h0, h1⟩
  | succ i =>
    rw [List.getD_cons_succ]
    exact byt_cat (hn c) (hn n) i
/-- How many bytes the Body may have. -/
def rmI (k c n : Int) : Int := if mb k c n = true then 1184 - ((hdL k c n).length : Int) else 0
theorem rmI_yes {k c n : Int} (h : mb k c n = true) : rmI k c n = 1184 - ((hdL k c n).length : Int) := by unfold rmI; rw [if_pos h]
theorem rmI_no {k c n : Int} (h : mb k c n = false) : rmI k c n = 0 := by unfold rmI; rw [if_neg (by rw [h]; decide)]
theorem rmI_bd {k c n : Int} : 0 ≤ rmI k c n ∧ rmI k c n ≤ 1183 := by
  unfold rmI
  have := hdL_le k c n
  have := hdL_pos k c n
  split <;> omega

theorem up_any (n : Int) (w : World) : Calls Tryz.prog 82 #[.int .i64 n] w fun e w' => e = .returned (.bool (decide (0 ≤ n) && decide (n ≤ 1099511627776))) ∧ w' = w := by
  by_cases h0 : 0 ≤ n
  · by_cases h1 : n ≤ 1099511627776
    · have er : (decide (0 ≤ n) && decide (n ≤ 1099511627776)) = true := by simp [h0, h1]
      rw [er]
      clear er
      go_enter Tryz.func82, Tryz.ntmps82
      go_wp2
      go_ret
      exact ⟨rfl, rfl⟩
    · have er : (decide (0 ≤ n) && decide (n ≤ 1099511627776)) = false := by simp [h1]
      rw [er]
      clear er
      go_enter Tryz.func82, Tryz.ntmps82
      go_wp2
      go_ret
      exact ⟨rfl, rfl⟩
  · have er : (decide (0 ≤ n) && decide (n ≤ 1099511627776)) = false := by simp [h0]
    rw [er]
    clear er
    go_enter Tryz.func82, Tryz.ntmps82
    go_wp2
    go_ret
    exact ⟨rfl, rfl⟩

theorem wrP {x : Int} (h0 : -9223372036854775808 ≤ x) (h1 : x ≤ 9223372036854775807) : IntKind.i64.wrap x = x := by rw [IntKind.wrap_i64]; omega
theorem parts_kept {w w' : World} {p : Option Addr} {ZZ : List (List Int)} (h : Parts w p ZZ) (hb : Below w.heap.size w w') : Parts w' p ZZ := by
  obtain ⟨hl, h0 | ⟨b, off, hp, hc⟩⟩ := h
  · exact ⟨hl, .inl h0⟩
  · refine ⟨hl, .inr ⟨b, off, hp, fun i hi => ?_⟩⟩
    obtain ⟨v, hv, hs⟩ := hc i hi
    exact ⟨v, (hb.cell (World.block_lt_of_cell? _ _ hv)).trans hv, hs.kept hb⟩
theorem parts3 (w : World) (u1 u2 u3 : Value) (X Y Z : List Int) (s1 : Sl w u1 X) (s2 : Sl w u2 Y) (s3 : Sl w u3 Z) : Parts (w.alloc (.cells #[u1, u2, u3] 34)) (some ⟨w.heap.size, 0, none⟩) [X, Y, Z] := by
  have hb : Below w.heap.size w (w.alloc (.cells #[u1, u2, u3] 34)) := (Below.refl _ _).alloc (Nat.le_refl _) _
  refine ⟨by simp, .inr ⟨_, 0, rfl, fun i hi => ?_⟩⟩
  have hi2 : i = 0 ∨ i = 1 ∨ i = 2 := by simp at hi; omega
  rcases hi2 with rfl | rfl | rfl
  · exact ⟨u1, by rw [World.cell?_alloc_at _ _ _ _ rfl]; rfl, s1.kept hb⟩
  · exact ⟨u2, by rw [World.cell?_alloc_at _ _ _ _ rfl]; rfl, s2.kept hb⟩
  · exact ⟨u3, by rw [World.cell?_alloc_at _ _ _ _ rfl]; rfl, s3.kept hb⟩
theorem join3_any (p : Option Addr) (X Y Z : List Int) (w : World) (hP : Parts w p [X, Y, Z]) (hbig : X.length + (Y.length + Z.length) ≤ 200000000000000) :
    Calls Tryz.prog 58 #[.slice p 3 3] w fun r w' => ∃ v, r = .returned v ∧ w'.ownsRow w.heap.size 5 1 v (X ++ (Y ++ Z)).length ((X ++ (Y ++ Z)).map (Value.int .u8)) ∧ Below w.heap.size w w' := by
  have hf : [X, Y, Z].flatten = X ++ (Y ++ Z) := by simp
  have := join_any p 3 [X, Y, Z] w hP (by rw [hf]; simp only [List.length_append]; exact hbig)
  rwa [hf] at this
theorem join2p_any (p : Option Addr) (X Y : List Int) (w : World) (hP : Parts w p [X, Y]) (hbig : X.length + Y.length ≤ 200000000000000) :
    Calls Tryz.prog 58 #[.slice p 2 2] w fun r w' => ∃ v, r = .returned v ∧ w'.ownsRow w.heap.size 5 1 v (X ++ Y).length ((X ++ Y).map (Value.int .u8)) ∧ Below w.heap.size w w' := by
  have hf : [X, Y].flatten = X ++ Y := by simp
  have := join_any p 2 [X, Y] w hP (by rw [hf]; simp only [List.length_append]; exact hbig)
  rwa [hf] at this

end Go.Proofs.YtiollhmbdhepkaaGreatDoor
namespace Go.Proofs.YtiollhmbdhepkaaGreatDoor
open Go.RowKit
set_option maxRecDepth 100000

theorem pmay_any (k c n : Int) (a : Option Addr) (m cp : Nat) (w : World) : Calls Tryz.prog 55 #[.agg #[.int .u8 k, .int .i64 c, .int .i64 n, .slice a m cp]] w fun e w' => e = .returned (.bool (mb k c n)) ∧ Below w.heap.size w w' := by
  obtain ⟨W1, hW1⟩ : ∃ W1, W1 = w.alloc (.cells #[.int .u8 k, .int .i64 c, .int .i64 n, .slice a m cp] 51) := ⟨_, rfl⟩
  have b1 : Below w.heap.size w W1 := by rw [hW1]; exact al_below _ _
  have g1 : KB W1 w.heap.size k c n (.slice a m cp) := by rw [hW1]; exact KB.new _ _ _ _ _
  have HB : Hid (Below w.heap.size w W1) := b1
  have HG : Hid (KB W1 w.heap.size k c n (.slice a m cp)) := g1
  obtain ⟨c0, c1, c2, c3⟩ := g1.kc
  have u1 := up_any c W1
  have u2 := up_any n W1
  unfold mb
  generalize (decide (0 ≤ c) && decide (c ≤ 1099511627776)) = B1 at u1 ⊢
  generalize (decide (0 ≤ n) && decide (n ≤ 1099511627776)) = B2 at u2 ⊢
  clear b1 g1
  by_cases hk : k ≤ 1
  · have tk : decide (k ≤ 1) = true := by simp [hk]
    rw [tk]
    cases B1
    · go_enter Tryz.func55, Tryz.ntmps55
      go_upto_region 1 with fail
      rw [← hW1]
      clear hW1
      go_wp2_with fail
      refine u1.mono ?_
      rintro e w2 ⟨rfl, rfl⟩
      clear u1 u2
      go_wp2
      go_ret
      exact ⟨rfl, HB.out⟩
    · go_enter Tryz.func55, Tryz.ntmps55
      go_upto_region 1 with fail
      rw [← hW1]
      clear hW1
      go_wp2_with fail
      refine u1.mono ?_
      rintro e w2 ⟨rfl, rfl⟩
      clear u1
      go_wp2_with fail
      refine u2.mono ?_
      rintro e w2 ⟨rfl, rfl⟩
      clear u2
      go_wp2
      go_ret
      exact ⟨by simp, HB.out⟩
  · have tk : decide (k ≤ 1) = false := by simp; omega
    rw [tk]
    go_enter Tryz.func55, Tryz.ntmps55
    go_upto_region 1 with fail
    rw [← hW1]
    clear hW1
    clear u1 u2
    go_wp2
    go_ret
    exact ⟨by simp, HB.out⟩
set_option maxHeartbeats 4000000 in
theorem head_any (k c n : Int) (a : Option Addr) (m cp : Nat) (w : World) (hw : Fi.Wid w) (hk : 0 ≤ k ∧ k < 256) : Calls Tryz.prog 57 #[.agg #[.int .u8 k, .int .i64 c, .int .i64 n, .slice a m cp]] w fun e w' => ∃ v, e = .returned v ∧ w'.ownsRow w.heap.size 5 1 v (hdL k c n).length ((hdL k c n).map (Value.int .u8)) ∧ Below w.heap.size w w' := by
  obtain ⟨W1, hW1⟩ : ∃ W1, W1 = w.alloc (.cells #[.int .u8 k, .int .i64 c, .int .i64 n, .slice a m cp] 51) := ⟨_, rfl⟩
  have b1 : Below w.heap.size w W1 := by rw [hW1]; exact al_below _ _
  have g1 : KB W1 w.heap.size k c n (.slice a m cp) := by rw [hW1]; exact KB.new _ _ _ _ _
  have HB : Hid (Below w.heap.size w W1) := b1
  have HG : Hid (KB W1 w.heap.size k c n (.slice a m cp)) := g1
  have FP : Hid (∀ x, From W1 x → KB x w.heap.size k c n (.slice a m cp)) := fun x hx => g1.kept hx
  have FW : Hid (∀ x, From W1 x → Fi.Wid x) := fun x hx => (hw.below b1 hw.pos).below hx (Nat.lt_of_lt_of_le hw.pos b1.size)
  have FB : Hid (∀ x, From W1 x → Below w.heap.size w x) := fun x hx => b1.trans (Below.mono hx b1.size)
  have HK : Hid (0 ≤ k ∧ k < 256) := hk
  have HLE : Hid ([k].length + ((Fi.numB c).length + (Fi.numB n).length) ≤ 200000000000000) := by unfold Hid; have := numB_le c; have := numB_le n; simp only [List.length_cons, List.length_nil]; omega
  clear b1 g1 hw hk HB HG
  go_enter Tryz.func57, Tryz.ntmps57
  go_upto_region 1 with fail
  rw [← hW1]
  clear hW1
  go_wp2_with fail
  refine wp_region_held_drew (S := From W1) (by kernel_rfl) ((Below.refl _ _).drew) (fun _ => ?_)
  refine wpAnyH_on ((Below.refl _ _).drew) (fun u0 hu0 bu0 => ?_)
  replace FP := on FP bu0
  replace FW := on FW bu0
  replace FB := on FB bu0
  refine wpAnyH_take (i := 0) (oi := { dst := some 3, op := Op.fieldAddr 51 (Operand.tmp 1) 0, type := 0, pos := "packet.go:119", after := #[], guard := none }) (v := ?vh1) rfl (by kernel_rfl) (by kernel_rfl) (by kernel_rfl) (fun _ _ _ h => h) (Or.inl ⟨by rfl, ?yh1⟩) (Below.refl _ _) ?rh1
  case yh1 => (intro w hSw; go_simp; try with_reducible rfl)
  try simp only [Act.put, List.setIfInBounds_toArray, List.set_cons_zero, List.set_cons_succ]
  refine wpAnyH_take (i := 1) (oi := { dst := some 4, op := Op.load 5 (Operand.tmp 3), type := 5, pos := "packet.go:119", after := #[{ on := 0, ground := Ground.data }], guard := none }) (v := ?vh2) rfl (by kernel_rfl) (by kernel_rfl) (by kernel_rfl) (fun _ _ _ h => h) (Or.inl ⟨by rfl, ?yh2⟩) (Below.refl _ _) ?rh2
  case yh2 => (intro w hSw; have t := (FP.out w hSw).kc.c0; go_simp; try with_reducible rfl)
  try simp only [Act.put, List.setIfInBounds_toArray, List.set_cons_zero, List.set_cons_succ]
  refine wpAnyH_take (i := 3) (oi := { dst := some 6, op := Op.fieldAddr 51 (Operand.tmp 1) 1, type := 0, pos := "packet.go:119", after := #[], guard := none }) (v := ?vh3) rfl (by kernel_rfl) (by kernel_rfl) (by kernel_rfl) (fun _ _ _ h => h) (Or.inl ⟨by rfl, ?yh3⟩) (Below.refl _ _) ?rh3
  case yh3 => (intro w hSw; go_simp; try with_reducible rfl)
  try simp only [Act.put, List.setIfInBounds_toArray, List.set_cons_zero, List.set_cons_succ]
  refine wpAnyH_take (i := 4) (oi := { dst := some 7, op := Op.load 3 (Operand.tmp 6), type := 3, pos := "packet.go:119", after := #[{ on := 3, ground := Ground.data }], guard := none }) (v := ?vh4) rfl (by kernel_rfl) (by kernel_rfl) (by kernel_rfl) (fun _ _ _ h => h) (Or.inl ⟨by rfl, ?yh4⟩) (Below.refl _ _) ?rh4
  case yh4 => (intro w hSw; have t := (FP.out w hSw).kc.c1; go_simp; try with_reducible rfl)
  try simp only [Act.put, List.setIfInBounds_toArray, List.set_cons_zero, List.set_cons_succ]
  refine wpAnyH_take (i := 6) (oi := { dst := some 9, op := Op.fieldAddr 51 (Operand.tmp 1) 2, type := 0, pos := "packet.go:119", after := #[], guard := none }) (v := ?vh5) rfl (by kernel_rfl) (by kernel_rfl) (by kernel_rfl) (fun _ _ _ h => h) (Or.inl ⟨by rfl, ?yh5⟩) (Below.refl _ _) ?rh5
  case yh5 => (intro w hSw; go_simp; try with_reducible rfl)
  try simp only [Act.put, List.setIfInBounds_toArray, List.set_cons_zero, List.set_cons_succ]
  refine wpAnyH_take (i := 7) (oi := { dst := some 10, op := Op.load 3 (Operand.tmp 9), type := 3, pos := "packet.go:119", after := #[{ on := 6, ground := Ground.data }], guard := none }) (v := ?vh6) rfl (by kernel_rfl) (by kernel_rfl) (by kernel_rfl) (fun _ _ _ h => h) (Or.inl ⟨by rfl, ?yh6⟩) (Below.refl _ _) ?rh6
  case yh6 => (intro w hSw; have t := (FP.out w hSw).kc.c2; go_simp; try with_reducible rfl)
  try simp only [Act.put, List.setIfInBounds_toArray, List.set_cons_zero, List.set_cons_succ]
  refine wpAnyH_ready (rs := [2, 5]) (by kernel_rfl) (by simp) ?_
  refine AllReadyH.cons (o := { dst := some 5, op := Op.buildSlice 34 1 #[(0, Operand.tmp 4)], type := 34, pos := "packet.go:119", after := #[{ on := 1, ground := Ground.data }], guard := none }) rfl (fun KK hKK => ?_) ?_
  · go_simp
    refine hKK.out _ _ (al_below _ _) (fun _ => ?_)
    clear hKK KK
    try simp only [Act.put, List.setIfInBounds_toArray, List.set_cons_zero, List.set_cons_succ]
    refine wpAnyH_on (al_below _ _) (fun u7 hu7 bu7 => ?_)
    replace FP := on FP bu7
    replace FW := on FW bu7
    replace FB := on FB bu7
    have F2 : Hid (∀ x, From u7 x → Sl x (.slice (some ⟨u0.heap.size, 0, none⟩) 1 1) [k]) := fun x hx => Sl.kept (by rw [hu7.out]; exact (Pt.byte u0 k HK.out).1) hx
    refine wpAnyH_ready (rs := [5]) (by kernel_rfl) (by simp) ?_
    refine AllReadyH.cons (o := { dst := some 8, op := Op.call { callee := Callee.value (Operand.func 77), args := #[Operand.tmp 7], argTypes := #[3] }, type := 34, pos := "packet.go:119", after := #[{ on := 4, ground := Ground.data }], guard := none }) rfl (fun KK hKK => ?_) ?_
    · go_simp
      refine (Fi.fnum_any c _ (FW.out _ (Below.refl _ _))).mono ?_
      rintro e u8' ⟨v5, rfl, s5, bu8'⟩
      obtain ⟨a5, q5, rfl, -⟩ := id s5
      (try go_wp2_with fail)
      refine hKK.out _ _ (bu8') (fun _ => ?_)
      clear hKK KK
      try simp only [Act.put, List.setIfInBounds_toArray, List.set_cons_zero, List.set_cons_succ]
      refine wpAnyH_on (bu8') (fun u8 hu8 bu8 => ?_)
      replace FP := on FP bu8
      replace FW := on FW bu8
      replace FB := on FB bu8
      replace F2 := on F2 bu8
      have F5 : Hid (∀ x, From u8 x → Sl x (.slice a5 (Fi.numB c).length q5) (Fi.numB c)) := fun x hx => by rw [hu8.out] at hx; exact Sl.kept s5 hx
      clear s5
      obtain ⟨l5, hl5⟩ : ∃ l, l = (Fi.numB c).length := ⟨_, rfl⟩
      rw [← hl5] at F5 ⊢
      clear hl5
      refine wpAnyH_ready (rs := [8]) (by kernel_rfl) (by simp) ?_
      refine AllReadyH.cons (o := { dst := some 11, op := Op.call { callee := Callee.value (Operand.func 77), args := #[Operand.tmp 10], argTypes := #[3] }, type := 34, pos := "packet.go:119", after := #[{ on := 7, ground := Ground.data }, { on := 5, ground := Ground.chain }], guard := none }) rfl (fun KK hKK => ?_) ?_
      · go_simp
        refine (Fi.fnum_any n _ (FW.out _ (Below.refl _ _))).mono ?_
        rintro e u9' ⟨v8, rfl, s8, bu9'⟩
        obtain ⟨a8, q8, rfl, -⟩ := id s8
        (try go_wp2_with fail)
        refine hKK.out _ _ (bu9') (fun _ => ?_)
        clear hKK KK
        try simp only [Act.put, List.setIfInBounds_toArray, List.set_cons_zero, List.set_cons_succ]
        refine wpAnyH_on (bu9') (fun u9 hu9 bu9 => ?_)
        replace FP := on FP bu9
        replace FW := on FW bu9
        replace FB := on FB bu9
        replace F2 := on F2 bu9
        replace F5 := on F5 bu9
        have F8 : Hid (∀ x, From u9 x → Sl x (.slice a8 (Fi.numB n).length q8) (Fi.numB n)) := fun x hx => by rw [hu9.out] at hx; exact Sl.kept s8 hx
        clear s8
        obtain ⟨l8, hl8⟩ : ∃ l, l = (Fi.numB n).length := ⟨_, rfl⟩
        rw [← hl8] at F8 ⊢
        clear hl8
        refine wpAnyH_ready (rs := [9]) (by kernel_rfl) (by simp) ?_
        refine AllReadyH.cons (o := { dst := some 12, op := Op.buildSlice 100 3 #[(0, Operand.tmp 5), (1, Operand.tmp 8), (2, Operand.tmp 11)], type := 100, pos := "packet.go:119", after := #[{ on := 2, ground := Ground.data }, { on := 5, ground := Ground.data }, { on := 8, ground := Ground.data }], guard := none }) rfl (fun KK hKK => ?_) ?_
        · have FB0 : Hid (Below w.heap.size w u9) := FB.out _ (Below.refl _ _)
          have pu10 := parts3 u9 _ _ _ [k] (Fi.numB c) (Fi.numB n) (F2.out _ (Below.refl _ _)) (F5.out _ (Below.refl _ _)) (F8.out _ (Below.refl _ _))
          go_simp
          refine hKK.out _ _ (al_below _ _) (fun _ => ?_)
          clear hKK KK
          try simp only [Act.put, List.setIfInBounds_toArray, List.set_cons_zero, List.set_cons_succ]
          refine wpAnyH_on (al_below _ _) (fun u10 hu10 bu10 => ?_)
          replace FP := on FP bu10
          replace FW := on FW bu10
          replace FB := on FB bu10
          replace F2 := on F2 bu10
          replace F5 := on F5 bu10
          replace F8 := on F8 bu10
          have FPP : Hid (∀ x, From u10 x → Parts x (some ⟨u9.heap.size, 0, none⟩) [[k], Fi.numB c, Fi.numB n]) := fun x hx => parts_kept (by rw [hu10.out]; exact pu10) hx
          clear pu10
          refine wpAnyH_ready (rs := [10]) (by kernel_rfl) (by simp) ?_
          refine AllReadyH.cons (o := { dst := some 13, op := Op.call { callee := Callee.value (Operand.func 58), args := #[Operand.tmp 12], argTypes := #[100] }, type := 34, pos := "packet.go:119", after := #[{ on := 9, ground := Ground.data }, { on := 8, ground := Ground.chain }], guard := none }) rfl (fun KK hKK => ?_) ?_
          · go_simp
            refine (join3_any _ _ _ _ _ (FPP.out _ (Below.refl _ _)) HLE.out).mono ?_
            rintro e u11' ⟨v10, rfl, own10, bu11'⟩
            (try go_wp2_with fail)
            refine hKK.out _ _ (bu11') (fun _ => ?_)
            clear hKK KK
            try simp only [Act.put, List.setIfInBounds_toArray, List.set_cons_zero, List.set_cons_succ]
            refine wpAnyH_on (bu11') (fun u11 hu11 bu11 => ?_)
            replace FP := on FP bu11
            replace FW := on FW bu11
            replace FB := on FB bu11
            replace F2 := on F2 bu11
            replace F5 := on F5 bu11
            replace F8 := on F8 bu11
            replace FPP := on FPP bu11
            have O10 : Hid (u11.ownsRow w.heap.size 5 1 v10 (hdL k c n).length ((hdL k c n).map (Value.int .u8))) := by unfold Hid; rw [hu11.out]; exact own_mono own10 (Nat.le_trans FB0.out.size (by rw [hu10.out]; simp))
            have B10 : Hid (Below w.heap.size w u11) := FB.out _ (Below.refl _ _)
            clear own10
            refine wpAnyH_take (i := 11) (oi := { dst := some 2, op := Op.assign (Operand.tmp 13), type := 34, pos := "packet.go:119", after := #[{ on := 10, ground := Ground.data }, { on := 10, ground := Ground.chain }, { on := 0, ground := Ground.phase }, { on := 1, ground := Ground.phase }, { on := 2, ground := Ground.phase }, { on := 3, ground := Ground.phase }, { on := 4, ground := Ground.phase }, { on := 5, ground := Ground.phase }, { on := 6, ground := Ground.phase }, { on := 7, ground := Ground.phase }, { on := 8, ground := Ground.phase }, { on := 9, ground := Ground.phase }, { on := 10, ground := Ground.phase }], guard := none }) (v := ?vh12) rfl (by kernel_rfl) (by kernel_rfl) (by kernel_rfl) (fun _ _ _ h => h) (Or.inl ⟨by rfl, ?yh12⟩) (Below.refl _ _) ?rh12
            case yh12 => (intro w hSw; go_simp; try with_reducible rfl)
            try simp only [Act.put, List.setIfInBounds_toArray, List.set_cons_zero, List.set_cons_succ]
            refine wpAnyH_done (by kernel_rfl) ?_ _
            go_wp2
            go_ret
            exact ⟨_, rfl, O10.out, B10.out⟩
          exact AllReadyH.nil
        exact AllReadyH.nil
      exact AllReadyH.nil
    exact AllReadyH.nil
  refine AllReadyH.cons (o := { dst := some 8, op := Op.call { callee := Callee.value (Operand.func 77), args := #[Operand.tmp 7], argTypes := #[3] }, type := 34, pos := "packet.go:119", after := #[{ on := 4, ground := Ground.data }], guard := none }) rfl (fun KK hKK => ?_) ?_
  · go_simp
    refine (Fi.fnum_any c _ (FW.out _ (Below.refl _ _))).mono ?_
    rintro e u13' ⟨v5, rfl, s5, bu13'⟩
    obtain ⟨a5, q5, rfl, -⟩ := id s5
    (try go_wp2_with fail)
    refine hKK.out _ _ (bu13') (fun _ => ?_)
    clear hKK KK
    try simp only [Act.put, List.setIfInBounds_toArray, List.set_cons_zero, List.set_cons_succ]
    refine wpAnyH_on (bu13') (fun u13 hu13 bu13 => ?_)
    replace FP := on FP bu13
    replace FW := on FW bu13
    replace FB := on FB bu13
    have F5 : Hid (∀ x, From u13 x → Sl x (.slice a5 (Fi.numB c).length q5) (Fi.numB c)) := fun x hx => by rw [hu13.out] at hx; exact Sl.kept s5 hx
    clear s5
    obtain ⟨l5, hl5⟩ : ∃ l, l = (Fi.numB c).length := ⟨_, rfl⟩
    rw [← hl5] at F5 ⊢
    clear hl5
    refine wpAnyH_ready (rs := [2, 8]) (by kernel_rfl) (by simp) ?_
    refine AllReadyH.cons (o := { dst := some 5, op := Op.buildSlice 34 1 #[(0, Operand.tmp 4)], type := 34, pos := "packet.go:119", after := #[{ on := 1, ground := Ground.data }], guard := none }) rfl (fun KK hKK => ?_) ?_
    · go_simp
      refine hKK.out _ _ (al_below _ _) (fun _ => ?_)
      clear hKK KK
      try simp only [Act.put, List.setIfInBounds_toArray, List.set_cons_zero, List.set_cons_succ]
      refine wpAnyH_on (al_below _ _) (fun u14 hu14 bu14 => ?_)
      replace FP := on FP bu14
      replace FW := on FW bu14
      replace FB := on FB bu14
      replace F5 := on F5 bu14
      have F2 : Hid (∀ x, From u14 x → Sl x (.slice (some ⟨u13.heap.size, 0, none⟩) 1 1) [k]) := fun x hx => Sl.kept (by rw [hu14.out]; exact (Pt.byte u13 k HK.out).1) hx
      refine wpAnyH_ready (rs := [8]) (by kernel_rfl) (by simp) ?_
      refine AllReadyH.cons (o := { dst := some 11, op := Op.call { callee := Callee.value (Operand.func 77), args := #[Operand.tmp 10], argTypes := #[3] }, type := 34, pos := "packet.go:119", after := #[{ on := 7, ground := Ground.data }, { on := 5, ground := Ground.chain }], guard := none }) rfl (fun KK hKK => ?_) ?_
      · go_simp
        refine (Fi.fnum_any n _ (FW.out _ (Below.refl _ _))).mono ?_
        rintro e u15' ⟨v8, rfl, s8, bu15'⟩
        obtain ⟨a8, q8, rfl, -⟩ := id s8
        (try go_wp2_with fail)
        refine hKK.out _ _ (bu15') (fun _ => ?_)
        clear hKK KK
        try simp only [Act.put, List.setIfInBounds_toArray, List.set_cons_zero, List.set_cons_succ]
        refine wpAnyH_on (bu15') (fun u15 hu15 bu15 => ?_)
        replace FP := on FP bu15
        replace FW := on FW bu15
        replace FB := on FB bu15
        replace F5 := on F5 bu15
        replace F2 := on F2 bu15
        have F8 : Hid (∀ x, From u15 x → Sl x (.slice a8 (Fi.numB n).length q8) (Fi.numB n)) := fun x hx => by rw [hu15.out] at hx; exact Sl.kept s8 hx
        clear s8
        obtain ⟨l8, hl8⟩ : ∃ l, l = (Fi.numB n).length := ⟨_, rfl⟩
        rw [← hl8] at F8 ⊢
        clear hl8
        refine wpAnyH_ready (rs := [9]) (by kernel_rfl) (by simp) ?_
        refine AllReadyH.cons (o := { dst := some 12, op := Op.buildSlice 100 3 #[(0, Operand.tmp 5), (1, Operand.tmp 8), (2, Operand.tmp 11)], type := 100, pos := "packet.go:119", after := #[{ on := 2, ground := Ground.data }, { on := 5, ground := Ground.data }, { on := 8, ground := Ground.data }], guard := none }) rfl (fun KK hKK => ?_) ?_
        · have FB0 : Hid (Below w.heap.size w u15) := FB.out _ (Below.refl _ _)
          have pu16 := parts3 u15 _ _ _ [k] (Fi.numB c) (Fi.numB n) (F2.out _ (Below.refl _ _)) (F5.out _ (Below.refl _ _)) (F8.out _ (Below.refl _ _))
          go_simp
          refine hKK.out _ _ (al_below _ _) (fun _ => ?_)
          clear hKK KK
          try simp only [Act.put, List.setIfInBounds_toArray, List.set_cons_zero, List.set_cons_succ]
          refine wpAnyH_on (al_below _ _) (fun u16 hu16 bu16 => ?_)
          replace FP := on FP bu16
          replace FW := on FW bu16
          replace FB := on FB bu16
          replace F5 := on F5 bu16
          replace F2 := on F2 bu16
          replace F8 := on F8 bu16
          have FPP : Hid (∀ x, From u16 x → Parts x (some ⟨u15.heap.size, 0, none⟩) [[k], Fi.numB c, Fi.numB n]) := fun x hx => parts_kept (by rw [hu16.out]; exact pu16) hx
          clear pu16
          refine wpAnyH_ready (rs := [10]) (by kernel_rfl) (by simp) ?_
          refine AllReadyH.cons (o := { dst := some 13, op := Op.call { callee := Callee.value (Operand.func 58), args := #[Operand.tmp 12], argTypes := #[100] }, type := 34, pos := "packet.go:119", after := #[{ on := 9, ground := Ground.data }, { on := 8, ground := Ground.chain }], guard := none }) rfl (fun KK hKK => ?_) ?_
          · go_simp
            refine (join3_any _ _ _ _ _ (FPP.out _ (Below.refl _ _)) HLE.out).mono ?_
            rintro e u17' ⟨v10, rfl, own10, bu17'⟩
            (try go_wp2_with fail)
            refine hKK.out _ _ (bu17') (fun _ => ?_)
            clear hKK KK
            try simp only [Act.put, List.setIfInBounds_toArray, List.set_cons_zero, List.set_cons_succ]
            refine wpAnyH_on (bu17') (fun u17 hu17 bu17 => ?_)
            replace FP := on FP bu17
            replace FW := on FW bu17
            replace FB := on FB bu17
            replace F5 := on F5 bu17
            replace F2 := on F2 bu17
            replace F8 := on F8 bu17
            replace FPP := on FPP bu17
            have O10 : Hid (u17.ownsRow w.heap.size 5 1 v10 (hdL k c n).length ((hdL k c n).map (Value.int .u8))) := by unfold Hid; rw [hu17.out]; exact own_mono own10 (Nat.le_trans FB0.out.size (by rw [hu16.out]; simp))
            have B10 : Hid (Below w.heap.size w u17) := FB.out _ (Below.refl _ _)
            clear own10
            refine wpAnyH_take (i := 11) (oi := { dst := some 2, op := Op.assign (Operand.tmp 13), type := 34, pos := "packet.go:119", after := #[{ on := 10, ground := Ground.data }, { on := 10, ground := Ground.chain }, { on := 0, ground := Ground.phase }, { on := 1, ground := Ground.phase }, { on := 2, ground := Ground.phase }, { on := 3, ground := Ground.phase }, { on := 4, ground := Ground.phase }, { on := 5, ground := Ground.phase }, { on := 6, ground := Ground.phase }, { on := 7, ground := Ground.phase }, { on := 8, ground := Ground.phase }, { on := 9, ground := Ground.phase }, { on := 10, ground := Ground.phase }], guard := none }) (v := ?vh18) rfl (by kernel_rfl) (by kernel_rfl) (by kernel_rfl) (fun _ _ _ h => h) (Or.inl ⟨by rfl, ?yh18⟩) (Below.refl _ _) ?rh18
            case yh18 => (intro w hSw; go_simp; try with_reducible rfl)
            try simp only [Act.put, List.setIfInBounds_toArray, List.set_cons_zero, List.set_cons_succ]
            refine wpAnyH_done (by kernel_rfl) ?_ _
            go_wp2
            go_ret
            exact ⟨_, rfl, O10.out, B10.out⟩
          exact AllReadyH.nil
        exact AllReadyH.nil
      exact AllReadyH.nil
    refine AllReadyH.cons (o := { dst := some 11, op := Op.call { callee := Callee.value (Operand.func 77), args := #[Operand.tmp 10], argTypes := #[3] }, type := 34, pos := "packet.go:119", after := #[{ on := 7, ground := Ground.data }, { on := 5, ground := Ground.chain }], guard := none }) rfl (fun KK hKK => ?_) ?_
    · go_simp
      refine (Fi.fnum_any n _ (FW.out _ (Below.refl _ _))).mono ?_
      rintro e u19' ⟨v8, rfl, s8, bu19'⟩
      obtain ⟨a8, q8, rfl, -⟩ := id s8
      (try go_wp2_with fail)
      refine hKK.out _ _ (bu19') (fun _ => ?_)
      clear hKK KK
      try simp only [Act.put, List.setIfInBounds_toArray, List.set_cons_zero, List.set_cons_succ]
      refine wpAnyH_on (bu19') (fun u19 hu19 bu19 => ?_)
      replace FP := on FP bu19
      replace FW := on FW bu19
      replace FB := on FB bu19
      replace F5 := on F5 bu19
      have F8 : Hid (∀ x, From u19 x → Sl x (.slice a8 (Fi.numB n).length q8) (Fi.numB n)) := fun x hx => by rw [hu19.out] at hx; exact Sl.kept s8 hx
      clear s8
      obtain ⟨l8, hl8⟩ : ∃ l, l = (Fi.numB n).length := ⟨_, rfl⟩
      rw [← hl8] at F8 ⊢
      clear hl8
      refine wpAnyH_ready (rs := [2]) (by kernel_rfl) (by simp) ?_
      refine AllReadyH.cons (o := { dst := some 5, op := Op.buildSlice 34 1 #[(0, Operand.tmp 4)], type := 34, pos := "packet.go:119", after := #[{ on := 1, ground := Ground.data }], guard := none }) rfl (fun KK hKK => ?_) ?_
      · go_simp
        refine hKK.out _ _ (al_below _ _) (fun _ => ?_)
        clear hKK KK
        try simp only [Act.put, List.setIfInBounds_toArray, List.set_cons_zero, List.set_cons_succ]
        refine wpAnyH_on (al_below _ _) (fun u20 hu20 bu20 => ?_)
        replace FP := on FP bu20
        replace FW := on FW bu20
        replace FB := on FB bu20
        replace F5 := on F5 bu20
        replace F8 := on F8 bu20
        have F2 : Hid (∀ x, From u20 x → Sl x (.slice (some ⟨u19.heap.size, 0, none⟩) 1 1) [k]) := fun x hx => Sl.kept (by rw [hu20.out]; exact (Pt.byte u19 k HK.out).1) hx
        refine wpAnyH_ready (rs := [9]) (by kernel_rfl) (by simp) ?_
        refine AllReadyH.cons (o := { dst := some 12, op := Op.buildSlice 100 3 #[(0, Operand.tmp 5), (1, Operand.tmp 8), (2, Operand.tmp 11)], type := 100, pos := "packet.go:119", after := #[{ on := 2, ground := Ground.data }, { on := 5, ground := Ground.data }, { on := 8, ground := Ground.data }], guard := none }) rfl (fun KK hKK => ?_) ?_
        · have FB0 : Hid (Below w.heap.size w u20) := FB.out _ (Below.refl _ _)
          have pu21 := parts3 u20 _ _ _ [k] (Fi.numB c) (Fi.numB n) (F2.out _ (Below.refl _ _)) (F5.out _ (Below.refl _ _)) (F8.out _ (Below.refl _ _))
          go_simp
          refine hKK.out _ _ (al_below _ _) (fun _ => ?_)
          clear hKK KK
          try simp only [Act.put, List.setIfInBounds_toArray, List.set_cons_zero, List.set_cons_succ]
          refine wpAnyH_on (al_below _ _) (fun u21 hu21 bu21 => ?_)
          replace FP := on FP bu21
          replace FW := on FW bu21
          replace FB := on FB bu21
          replace F5 := on F5 bu21
          replace F8 := on F8 bu21
          replace F2 := on F2 bu21
          have FPP : Hid (∀ x, From u21 x → Parts x (some ⟨u20.heap.size, 0, none⟩) [[k], Fi.numB c, Fi.numB n]) := fun x hx => parts_kept (by rw [hu21.out]; exact pu21) hx
          clear pu21
          refine wpAnyH_ready (rs := [10]) (by kernel_rfl) (by simp) ?_
          refine AllReadyH.cons (o := { dst := some 13, op := Op.call { callee := Callee.value (Operand.func 58), args := #[Operand.tmp 12], argTypes := #[100] }, type := 34, pos := "packet.go:119", after := #[{ on := 9, ground := Ground.data }, { on := 8, ground := Ground.chain }], guard := none }) rfl (fun KK hKK => ?_) ?_
          · go_simp
            refine (join3_any _ _ _ _ _ (FPP.out _ (Below.refl _ _)) HLE.out).mono ?_
            rintro e u22' ⟨v10, rfl, own10, bu22'⟩
            (try go_wp2_with fail)
            refine hKK.out _ _ (bu22') (fun _ => ?_)
            clear hKK KK
            try simp only [Act.put, List.setIfInBounds_toArray, List.set_cons_zero, List.set_cons_succ]
            refine wpAnyH_on (bu22') (fun u22 hu22 bu22 => ?_)
            replace FP := on FP bu22
            replace FW := on FW bu22
            replace FB := on FB bu22
            replace F5 := on F5 bu22
            replace F8 := on F8 bu22
            replace F2 := on F2 bu22
            replace FPP := on FPP bu22
            have O10 : Hid (u22.ownsRow w.heap.size 5 1 v10 (hdL k c n).length ((hdL k c n).map (Value.int .u8))) := by unfold Hid; rw [hu22.out]; exact own_mono own10 (Nat.le_trans FB0.out.size (by rw [hu21.out]; simp))
            have B10 : Hid (Below w.heap.size w u22) := FB.out _ (Below.refl _ _)
            clear own10
            refine wpAnyH_take (i := 11) (oi := { dst := some 2, op := Op.assign (Operand.tmp 13), type := 34, pos := "packet.go:119", after := #[{ on := 10, ground := Ground.data }, { on := 10, ground := Ground.chain }, { on := 0, ground := Ground.phase }, { on := 1, ground := Ground.phase }, { on := 2, ground := Ground.phase }, { on := 3, ground := Ground.phase }, { on := 4, ground := Ground.phase }, { on := 5, ground := Ground.phase }, { on := 6, ground := Ground.phase }, { on := 7, ground := Ground.phase }, { on := 8, ground := Ground.phase }, { on := 9, ground := Ground.phase }, { on := 10, ground := Ground.phase }], guard := none }) (v := ?vh23) rfl (by kernel_rfl) (by kernel_rfl) (by kernel_rfl) (fun _ _ _ h => h) (Or.inl ⟨by rfl, ?yh23⟩) (Below.refl _ _) ?rh23
            case yh23 => (intro w hSw; go_simp; try with_reducible rfl)
            try simp only [Act.put, List.setIfInBounds_toArray, List.set_cons_zero, List.set_cons_succ]
            refine wpAnyH_done (by kernel_rfl) ?_ _
            go_wp2
            go_ret
            exact ⟨_, rfl, O10.out, B10.out⟩
          exact AllReadyH.nil
        exact AllReadyH.nil
      exact AllReadyH.nil
    exact AllReadyH.nil
  exact AllReadyH.nil
theorem room_any (k c n : Int) (a : Option Addr) (m cp : Nat) (w : World) (hw : Fi.Wid w) (hk : 0 ≤ k ∧ k < 256) : Calls Tryz.prog 21 #[.agg #[.int .u8 k, .int .i64 c, .int .i64 n, .slice a m cp]] w fun e w' => e = .returned (.int .i64 (rmI k c n)) ∧ Below w.heap.size w w' := by
  obtain ⟨W1, hW1⟩ : ∃ W1, W1 = w.alloc (.cells #[.int .u8 k, .int .i64 c, .int .i64 n, .slice a m cp] 51) := ⟨_, rfl⟩
  have b1 : Below w.heap.size w W1 := by rw [hW1]; exact al_below _ _
  have g1 : KB W1 w.heap.size k c n (.slice a m cp) := by rw [hW1]; exact KB.new _ _ _ _ _
  have HB : Hid (Below w.heap.size w W1) := b1
  have HG : Hid (KB W1 w.heap.size k c n (.slice a m cp)) := g1
  have cm := pmay_any k c n a m cp W1
  have HW : Hid (Fi.Wid W1) := hw.below b1 hw.pos
  have HK : Hid (0 ≤ k ∧ k < 256) := hk
  clear b1 g1 hw hk
  cases hm : mb k c n
  · rw [hm] at cm
    rw [rmI_no hm]
    go_enter Tryz.func21, Tryz.ntmps21
    go_upto_region 1 with fail
    rw [← hW1]
    clear hW1
    go_wp2_with (refine wpList_load_row rfl 51 _ rfl w.heap.size rfl 51 #[.int .u8 k, .int .i64 c, .int .i64 n, .slice a m cp] (0, 0) _ HG.out Tryz.underlying51 rfl infoK ?_)
    refine cm.mono ?_
    rintro e w2 ⟨rfl, b2⟩
    have HB2 : Hid (Below w.heap.size w w2) := HB.out.trans (b2.mono HB.out.size)
    clear b2 cm
    go_wp2
    go_ret
    exact ⟨rfl, HB2.out⟩
  · rw [hm] at cm
    obtain ⟨hl, hhl⟩ : ∃ hl, hl = (hdL k c n).length := ⟨_, rfl⟩
    obtain ⟨R, hR⟩ : ∃ R : Int, R = 1184 - (hl : Int) := ⟨_, rfl⟩
    have l1 := hdL_le k c n
    rw [rmI_yes hm, ← hhl, ← hR]
    rw [← hhl] at l1
    go_enter Tryz.func21, Tryz.ntmps21
    go_upto_region 1 with fail
    rw [← hW1]
    clear hW1
    go_wp2_with (refine wpList_load_row rfl 51 _ rfl w.heap.size rfl 51 #[.int .u8 k, .int .i64 c, .int .i64 n, .slice a m cp] (0, 0) _ HG.out Tryz.underlying51 rfl infoK ?_)
    refine cm.mono ?_
    rintro e w2 ⟨rfl, b2⟩
    have HB2 : Hid (Below w.heap.size w w2) := HB.out.trans (b2.mono HB.out.size)
    have HG2 : Hid (KB w2 w.heap.size k c n (.slice a m cp)) := HG.out.kept b2
    have ch := head_any k c n a m cp w2 (HW.out.below b2 HW.out.pos) HK.out
    clear b2 cm HB HG HW
    go_wp2_with (refine wpList_load_row rfl 51 _ rfl w.heap.size rfl 51 #[.int .u8 k, .int .i64 c, .int .i64 n, .slice a m cp] (0, 0) _ HG2.out Tryz.underlying51 rfl infoK ?_)
    refine ch.mono ?_
    rintro e w3 ⟨v3, rfl, o3, b3⟩
    have HB3 : Hid (Below w.heap.size w w3) := HB2.out.trans (b3.mono HB2.out.size)
    obtain ⟨a3, q3, rfl, -⟩ := sl_owned o3 (hdL_byt HK.out.1 HK.out.2)
    rw [← hhl]
    have k1 := wrP (x := 1200 - (hl : Int)) (by omega) (by omega)
    have k2 : IntKind.i64.wrap (1200 - (hl : Int) - 16) = R := by rw [wrP (by omega) (by omega)]; omega
    clear b3 ch o3 HB2 HG2 hhl hR l1
    go_wp2
    go_ret
    exact ⟨rfl, HB3.out⟩
set_option maxHeartbeats 4000000 in
theorem isLong_any (k c n : Int) (a : Option Addr) (m cp : Nat) (w : World) (hw : Fi.Wid w) (hk : 0 ≤ k ∧ k < 256) : Calls Tryz.prog 56 #[.agg #[.int .u8 k, .int .i64 c, .int .i64 n, .slice a m cp]] w fun e w' => e = .returned (.bool (decide (rmI k c n < (m : Int)))) ∧ Below w.heap.size w w' := by
  obtain ⟨W1, hW1⟩ : ∃ W1, W1 = w.alloc (.cells #[.int .u8 k, .int .i64 c, .int .i64 n, .slice a m cp] 51) := ⟨_, rfl⟩
  have b1 : Below w.heap.size w W1 := by rw [hW1]; exact al_below _ _
  have g1 : KB W1 w.heap.size k c n (.slice a m cp) := by rw [hW1]; exact KB.new _ _ _ _ _
  have HB : Hid (Below w.heap.size w W1) := b1
  have HG : Hid (KB W1 w.heap.size k c n (.slice a m cp)) := g1
  have cr := room_any k c n a m cp
  obtain ⟨R, hR⟩ : ∃ R, R = rmI k c n := ⟨_, rfl⟩
  rw [← hR] at cr ⊢
  clear hR
  have FP : Hid (∀ x, From W1 x → KB x w.heap.size k c n (.slice a m cp)) := fun x hx => g1.kept hx
  have FW : Hid (∀ x, From W1 x → Fi.Wid x) := fun x hx => (hw.below b1 hw.pos).below hx (Nat.lt_of_lt_of_le hw.pos b1.size)
  have FB : Hid (∀ x, From W1 x → Below w.heap.size w x) := fun x hx => b1.trans (Below.mono hx b1.size)
  have HK : Hid (0 ≤ k ∧ k < 256) := hk
  clear b1 g1 hw hk HB HG
  go_enter Tryz.func56, Tryz.ntmps56
  go_upto_region 1 with fail
  rw [← hW1]
  clear hW1
  go_wp2_with fail
  refine wp_region_held_drew (S := From W1) (by kernel_rfl) ((Below.refl _ _).drew) (fun _ => ?_)
  refine wpAnyH_on ((Below.refl _ _).drew) (fun u0 hu0 bu0 => ?_)
  replace FP := on FP bu0
  replace FW := on FW bu0
  replace FB := on FB bu0
  refine wpAnyH_take (i := 0) (oi := { dst := some 3, op := Op.fieldAddr 51 (Operand.tmp 1) 3, type := 0, pos := "packet.go:114", after := #[], guard := none }) (v := ?vl1) rfl (by kernel_rfl) (by kernel_rfl) (by kernel_rfl) (fun _ _ _ h => h) (Or.inl ⟨by rfl, ?yl1⟩) (Below.refl _ _) ?rl1
  case yl1 => (intro w hSw; go_simp; try with_reducible rfl)
  try simp only [Act.put, List.setIfInBounds_toArray, List.set_cons_zero, List.set_cons_succ]
  refine wpAnyH_take (i := 1) (oi := { dst := some 4, op := Op.load 34 (Operand.tmp 3), type := 34, pos := "packet.go:114", after := #[{ on := 0, ground := Ground.data }], guard := none }) (v := ?vl2) rfl (by kernel_rfl) (by kernel_rfl) (by kernel_rfl) (fun _ _ _ h => h) (Or.inl ⟨by rfl, ?yl2⟩) (Below.refl _ _) ?rl2
  case yl2 => (intro w hSw; have t := (FP.out w hSw).kc.c3; go_simp; try with_reducible rfl)
  try simp only [Act.put, List.setIfInBounds_toArray, List.set_cons_zero, List.set_cons_succ]
  refine wpAnyH_take (i := 2) (oi := { dst := some 5, op := Op.call { callee := Callee.builtin Builtin.len, args := #[Operand.tmp 4], argTypes := #[34] }, type := 3, pos := "packet.go:114", after := #[{ on := 1, ground := Ground.data }], guard := none }) (v := ?vl3) rfl (by kernel_rfl) (by kernel_rfl) (by kernel_rfl) (fun _ _ _ h => h) (Or.inl ⟨by rfl, ?yl3⟩) (Below.refl _ _) ?rl3
  case yl3 => (intro w hSw; go_simp; try with_reducible rfl)
  try simp only [Act.put, List.setIfInBounds_toArray, List.set_cons_zero, List.set_cons_succ]
  refine wpAnyH_take (i := 3) (oi := { dst := some 6, op := Op.load 51 (Operand.tmp 1), type := 51, pos := "packet.go:114", after := #[], guard := none }) (v := .agg #[.int .u8 k, .int .i64 c, .int .i64 n, .slice a m cp]) rfl (by kernel_rfl) (by kernel_rfl) (by kernel_rfl) (fun _ _ _ h => h) (yieldsIf_load_mid (by rfl) _ _ rfl w.heap.size 0 rfl _ _ (fun x h => blk_range (FP.out x h)) Tryz.underlying51 rfl infoK) (Below.refl _ _) ?_
  try simp only [Act.put, List.setIfInBounds_toArray, List.set_cons_zero, List.set_cons_succ]
  refine wpAnyH_ready (rs := [4]) (by kernel_rfl) (by simp) ?_
  refine AllReadyH.cons (o := { dst := some 7, op := Op.call { callee := Callee.value (Operand.func 21), args := #[Operand.tmp 6], argTypes := #[51] }, type := 3, pos := "packet.go:114", after := #[{ on := 3, ground := Ground.data }], guard := none }) rfl (fun KK hKK => ?_) ?_
  · go_simp
    refine (cr _ (FW.out _ (Below.refl _ _)) HK.out).mono ?_
    rintro e u5' ⟨rfl, bu5'⟩
    (try go_wp2_with fail)
    refine hKK.out _ _ (bu5') (fun _ => ?_)
    clear hKK KK
    try simp only [Act.put, List.setIfInBounds_toArray, List.set_cons_zero, List.set_cons_succ]
    refine wpAnyH_on (bu5') (fun u5 hu5 bu5 => ?_)
    replace FP := on FP bu5
    replace FW := on FW bu5
    replace FB := on FB bu5
    have B4 : Hid (Below w.heap.size w u5) := FB.out _ (Below.refl _ _)
    refine wpAnyH_take (i := 5) (oi := { dst := some 8, op := Op.binOp BinOp.gtr 3 (Operand.tmp 5) (Operand.tmp 7) 3, type := 4, pos := "packet.go:114", after := #[{ on := 2, ground := Ground.data }, { on := 4, ground := Ground.data }], guard := none }) (v := ?vl6) rfl (by kernel_rfl) (by kernel_rfl) (by kernel_rfl) (fun _ _ _ h => h) (Or.inl ⟨by rfl, ?yl6⟩) (Below.refl _ _) ?rl6
    case yl6 => (intro w hSw; go_simp; try with_reducible rfl)
    try simp only [Act.put, List.setIfInBounds_toArray, List.set_cons_zero, List.set_cons_succ]
    refine wpAnyH_take (i := 6) (oi := { dst := some 2, op := Op.assign (Operand.tmp 8), type := 4, pos := "packet.go:114", after := #[{ on := 5, ground := Ground.data }, { on := 4, ground := Ground.chain }, { on := 0, ground := Ground.phase }, { on := 1, ground := Ground.phase }, { on := 2, ground := Ground.phase }, { on := 3, ground := Ground.phase }, { on := 4, ground := Ground.phase }, { on := 5, ground := Ground.phase }], guard := none }) (v := ?vl7) rfl (by kernel_rfl) (by kernel_rfl) (by kernel_rfl) (fun _ _ _ h => h) (Or.inl ⟨by rfl, ?yl7⟩) (Below.refl _ _) ?rl7
    case yl7 => (intro w hSw; go_simp; try with_reducible rfl)
    try simp only [Act.put, List.setIfInBounds_toArray, List.set_cons_zero, List.set_cons_succ]
    refine wpAnyH_done (by kernel_rfl) ?_ _
    go_wp2
    go_ret
    exact ⟨rfl, B4.out⟩
  exact AllReadyH.nil

end Go.Proofs.YtiollhmbdhepkaaGreatDoor
