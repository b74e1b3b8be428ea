/-
  What Pack answers.
-/
import Derived.Test.YtiollhmbdhepkaaGreatDoorYbn
import Derived.Test.YtiollhmbdhepkaaGreatDoorYbo
namespace Go.Proofs.YtiollhmbdhepkaaGreatDoor
open Go.RowKit
set_option maxRecDepth 100000

structure Pkd where
  k : Int
  c : Int
  n : Int
  body : List Int
def pkErr : Pkd := ⟨0, 0, 0, []⟩
def pkE (k c n : Int) (l : List Fm) : Int := if layE l ≠ 0 then layE l else if rmI k c n < ((layL l).length : Int) then 5 else if mb k c n = false then 2 else 0
def pkM (k c n : Int) (l : List Fm) : Pkd := if pkE k c n l = 0 then ⟨k, c, n, layL l⟩ else pkErr
theorem retP {tmps : Array Value} {w : World} {g : Nat} {cs : Array Value} {t : TypeId} {fr : Nat × Nat} (hp : tmps.getD 8 undef = .pointer (some ⟨g, 0, none⟩))
    (hg : w.heap[g]? = some (.cells cs t fr)) (hl : (Tryz.prog.info? 51).map (·.size) = some cs.size) : (results Tryz.f28 tmps).run Tryz.prog w = .ok (.tuple #[.agg cs, tmps.getD 9 undef]) w := by
  have hld : (loadVar 51 ⟨g, 0, none⟩).run Tryz.prog w = .ok (.agg cs) w := run_loadVar_row w g t 51 cs fr _ hg Tryz.underlying51 rfl hl
  have hr : Tryz.f28.results = #[.cell 8 51, .tmp 9] := rfl
  have hp' : tmps[8]?.getD undef = .pointer (some ⟨g, 0, none⟩) := by simpa using hp
  simp [results, hp', asAddr, hld]
theorem own_row_other {w : World} {base n m c g : Nat} {a : Option Addr} {xs : List Value} {cs : Array Value} (h : w.ownsRow base 5 1 (.slice a m c) n xs) (hg : ∀ x, a = some x → x.block ≠ g) : (w.setRow g cs).ownsRow base 5 1 (.slice a m c) n xs := by
  obtain ⟨h1, h2⟩ := h
  rcases h2 with h2 | ⟨q, cap, cur, e1, e2, e3, e4⟩
  · exact ⟨h1, .inl h2⟩
  · refine ⟨h1, .inr ⟨q, cap, cur, e1, e2, ?_, e4⟩⟩
    rw [setRow_other w g q cs (by cases e1; exact hg _ rfl)]
    exact e3
set_option maxHeartbeats 8000000 in
theorem ppack_any (k c n : Int) (v : Value) (l : List Fm) (w : World) (B : Nat) (ht : Tb w) (hk : 0 ≤ k ∧ k < 256) (h : RF w B v l) (hg : ∀ p ∈ l, FG p) (hl : l.length ≤ 100000)
    (hput : ∀ p ∈ l, ∀ (sv : Value) (w : World), Tb w → FP w p sv → (∃ t y, frV p sv = .iface t y) → Calls Tryz.prog 14 #[frV p sv] w fun e w' => ∃ v, e = .returned (.tuple #[v, .int .i64 (chkM p)]) ∧ Ow w' w.heap.size v (putR p) ∧ Below w.heap.size w w') :
    Calls Tryz.prog 28 #[.int .u8 k, .int .i64 c, .int .i64 n, v] w fun e w' => ∃ bv, e = .returned (.tuple #[.agg #[.int .u8 (pkM k c n l).k, .int .i64 (pkM k c n l).c, .int .i64 (pkM k c n l).n, bv], .int .i64 (pkE k c n l)]) ∧ Ow w' w.heap.size bv (pkM k c n l).body ∧ Below w.heap.size w w' := by
  obtain ⟨W1, hW1⟩ : ∃ W1, W1 = w.alloc (.cells #[.int .u8 0, .int .i64 0, .int .i64 0, .slice none 0 0] 51) := ⟨_, rfl⟩
  have b1 : Below w.heap.size w W1 := by rw [hW1]; exact al_below _ _
  have A1 : Hid (KB W1 w.heap.size 0 0 0 (.slice none 0 0)) := by unfold Hid; rw [hW1]; exact KB.new _ _ _ _ _
  have B1 : Hid (Below w.heap.size w W1) := b1
  have HT : Hid (Tb w) := ht
  have HK : Hid (0 ≤ k ∧ k < 256) := hk
  have cl := play_any v l W1 B (ht.next b1) (h.below b1) hg hl hput
  clear hput
  have HY : Hid (layE l = 0 → layL l = (l.map putM).flatten) := fun q => by unfold layL; rw [if_pos q]
  obtain ⟨va, vc, rfl⟩ := h.shape
  obtain ⟨ll, hll⟩ : ∃ ll, ll = l.length := ⟨_, rfl⟩
  rw [← hll] at cl ⊢
  obtain ⟨E, hE⟩ : ∃ E, E = layE l := ⟨_, rfl⟩
  obtain ⟨L, hL⟩ : ∃ L, L = layL l := ⟨_, rfl⟩
  have HE0 : Hid (layE l = E) := hE.symm
  have HL0 : Hid (layL l = L) := hL.symm
  rw [← hE, ← hL] at cl
  clear ht hk h hg hl b1 hll hE hL HY
  go_enter Tryz.func28, Tryz.ntmps28
  go_upto_region 1 with fail
  rw [← hW1]
  clear hW1
  go_wp2_with fail
  refine cl.mono ?_
  rintro e w2 ⟨bv, rfl, o2, b2⟩
  have A2 : Hid (KB w2 w.heap.size 0 0 0 (.slice none 0 0)) := A1.out.kept b2
  have B2 : Hid (Below w.heap.size w w2) := B1.out.trans (b2.mono B1.out.size)
  have O2 : Hid (Ow w2 W1.heap.size bv L) := o2
  have Z1 : Hid (w.heap.size < W1.heap.size) := blk_lt A1.out
  obtain ⟨ba, bc, rfl, -⟩ := id o2.sl
  clear cl o2 b2 A1 B1
  by_cases he : E = 0
  rotate_left
  · have t1 : (E != 0) = true := by simpa using he
    have HE : Hid (pkE k c n l = E) := by unfold Hid pkE; rw [HE0.out, if_pos he]
    have HX : Hid (pkM k c n l = pkErr) := by unfold Hid pkM; rw [HE.out, if_neg he]
    clear he HE0 HL0 O2 HT HK Z1
    generalize L.length = bl at *
    go_wp2_with (refine wpList_store_row rfl 51 _ _ rfl w.heap.size #[.int .u8 0, .int .i64 0, .int .i64 0, .slice none 0 0] rfl rfl 51 _ A2.out infoK rfl (k4_one _ _ _ _ _ _) (Hid.out ?_))
    unfold Hid
    go_wp2
    refine bodyPost_ret (retP rfl (setRow_heap _ _ _ _ _ _ A2.out) infoK) rfl ?_
    exact ⟨.slice none 0 0, by rw [HE.out, HX.out]; rfl, by rw [HX.out]; exact ⟨World.ownsRow_nil _ _ _ _, fun i => by simp [pkErr]⟩, below_setRow B2.out (Nat.le_refl _) _⟩
  have t1 : (E != 0) = false := by simpa using he
  have HEZ : Hid (E = 0) := he
  clear he
  obtain ⟨bl, hbl⟩ : ∃ bl, bl = L.length := ⟨_, rfl⟩
  have HBL : Hid (bl = L.length) := hbl
  rw [← hbl] at O2 ⊢
  obtain ⟨w3, hw3⟩ : ∃ w3, w3 = w2.alloc (.cells #[.int .u8 k, .int .i64 c, .int .i64 n, .slice ba bl bc] 51) := ⟨_, rfl⟩
  have b3 : Below w2.heap.size w2 w3 := by rw [hw3]; exact al_below _ _
  have A3 : Hid (KB w3 w.heap.size 0 0 0 (.slice none 0 0)) := A2.out.kept b3
  have B3 : Hid (Below w.heap.size w w3) := B2.out.trans (b3.mono B2.out.size)
  have D3 : Hid (KB w3 w2.heap.size k c n (.slice ba bl bc)) := by unfold Hid; rw [hw3]; exact KB.new _ _ _ _ _
  have O3 : Hid (Ow w3 W1.heap.size (.slice ba bl bc) L) := ⟨own_below O2.out.1 b3, O2.out.2⟩
  have hst : (w2.alloc (.cells #[.int .u8 0, .int .i64 0, .int .i64 0, .slice none 0 0] 51)).setRow w2.heap.size #[.int .u8 k, .int .i64 c, .int .i64 n, .slice ba bl bc] = w3 := by rw [hw3]; exact World.setRow_alloc_new _ _ _ _
  have HG0 : Hid (KB (w2.alloc (.cells #[.int .u8 0, .int .i64 0, .int .i64 0, .slice none 0 0] 51)) w2.heap.size 0 0 0 (.slice none 0 0)) := KB.new _ _ _ _ _
  have cl := isLong_any k c n ba bl bc w3 (HT.out.next B3.out).v HK.out
  have cm := pmay_any k c n ba bl bc
  clear b3 A2 B2 O2 hw3 hbl
  go_upto_region 5 with (refine wpList_store_row rfl 51 _ _ rfl w2.heap.size #[.int .u8 k, .int .i64 c, .int .i64 n, .slice ba bl bc] rfl rfl 51 _ HG0.out infoK rfl (k4_one _ _ _ _ _ _) ?_)
  rw [hst]
  clear hst HG0
  go_wp2_with (refine wpList_load_row rfl 51 _ rfl w2.heap.size rfl 51 #[.int .u8 k, .int .i64 c, .int .i64 n, .slice ba bl bc] (0, 0) _ D3.out Tryz.underlying51 rfl infoK ?_)
  refine cl.mono ?_
  rintro e w4 ⟨rfl, b4⟩
  have A4 : Hid (KB w4 w.heap.size 0 0 0 (.slice none 0 0)) := A3.out.kept b4
  have B4 : Hid (Below w.heap.size w w4) := B3.out.trans (b4.mono B3.out.size)
  have D4 : Hid (KB w4 w2.heap.size k c n (.slice ba bl bc)) := D3.out.kept b4
  have O4 : Hid (Ow w4 W1.heap.size (.slice ba bl bc) L) := ⟨own_below O3.out.1 b4, O3.out.2⟩
  clear cl b4 A3 B3 D3 O3 t1
  by_cases hlong : rmI k c n < (bl : Int)
  · have t2 : decide (rmI k c n < (bl : Int)) = true := by simp [hlong]
    have HE : Hid (pkE k c n l = 5) := by unfold Hid pkE; rw [HE0.out, if_neg (by have := HEZ.out; omega), HL0.out, ← HBL.out, if_pos hlong]
    have HX : Hid (pkM k c n l = pkErr) := by unfold Hid pkM; rw [HE.out, if_neg (by decide)]
    rw [t2]
    clear hlong t2 HE0 HL0 O4 HT HK Z1 HBL D4 cm HEZ
    go_wp2_with (refine wpList_store_row rfl 51 _ _ rfl w.heap.size #[.int .u8 0, .int .i64 0, .int .i64 0, .slice none 0 0] rfl rfl 51 _ A4.out infoK rfl (k4_one _ _ _ _ _ _) (Hid.out ?_))
    unfold Hid
    go_wp2
    refine bodyPost_ret (retP rfl (setRow_heap _ _ _ _ _ _ A4.out) infoK) rfl ?_
    exact ⟨.slice none 0 0, by rw [HE.out, HX.out]; rfl, by rw [HX.out]; exact ⟨World.ownsRow_nil _ _ _ _, fun i => by simp [pkErr]⟩, below_setRow B4.out (Nat.le_refl _) _⟩
  have t2 : decide (rmI k c n < (bl : Int)) = false := by simp; omega
  have HNL : Hid (¬ rmI k c n < (bl : Int)) := hlong
  rw [t2]
  have cm4 := cm w4
  clear hlong t2 cm
  go_wp2_with (refine wpList_load_row rfl 51 _ rfl w2.heap.size rfl 51 #[.int .u8 k, .int .i64 c, .int .i64 n, .slice ba bl bc] (0, 0) _ D4.out Tryz.underlying51 rfl infoK ?_)
  refine cm4.mono ?_
  rintro e w5 ⟨rfl, b5⟩
  have A5 : Hid (KB w5 w.heap.size 0 0 0 (.slice none 0 0)) := A4.out.kept b5
  have B5 : Hid (Below w.heap.size w w5) := B4.out.trans (b5.mono B4.out.size)
  have D5 : Hid (KB w5 w2.heap.size k c n (.slice ba bl bc)) := D4.out.kept b5
  have O5 : Hid (Ow w5 W1.heap.size (.slice ba bl bc) L) := ⟨own_below O4.out.1 b5, O4.out.2⟩
  clear cm4 b5 A4 B4 D4 O4
  cases hmb : mb k c n
  · have HE : Hid (pkE k c n l = 2) := by unfold Hid pkE; rw [HE0.out, if_neg (by have := HEZ.out; omega), HL0.out, ← HBL.out, if_neg (by have := HNL.out; omega), if_pos hmb]
    have HX : Hid (pkM k c n l = pkErr) := by unfold Hid pkM; rw [HE.out, if_neg (by decide)]
    clear hmb HE0 HL0 O5 HT HK Z1 HBL D5 HEZ HNL
    go_wp2_with (refine wpList_store_row rfl 51 _ _ rfl w.heap.size #[.int .u8 0, .int .i64 0, .int .i64 0, .slice none 0 0] rfl rfl 51 _ A5.out infoK rfl (k4_one _ _ _ _ _ _) (Hid.out ?_))
    unfold Hid
    go_wp2
    refine bodyPost_ret (retP rfl (setRow_heap _ _ _ _ _ _ A5.out) infoK) rfl ?_
    exact ⟨.slice none 0 0, by rw [HE.out, HX.out]; rfl, by rw [HX.out]; exact ⟨World.ownsRow_nil _ _ _ _, fun i => by simp [pkErr]⟩, below_setRow B5.out (Nat.le_refl _) _⟩
  · have HE : Hid (pkE k c n l = 0) := by unfold Hid pkE; rw [HE0.out, if_neg (by have := HEZ.out; omega), HL0.out, ← HBL.out, if_neg (by have := HNL.out; omega), if_neg (by rw [hmb]; decide)]
    have HX : Hid (pkM k c n l = ⟨k, c, n, L⟩) := by unfold Hid pkM; rw [HE.out, if_pos rfl, HL0.out]
    have OZ : Hid (Ow (w5.setRow w.heap.size #[.int .u8 k, .int .i64 c, .int .i64 n, .slice ba bl bc]) w.heap.size (.slice ba bl bc) L) := ⟨own_row_other (own_mono O5.out.1 (Nat.le_of_lt Z1.out)) (fun x hx => by have := own_far O5.out.1 x hx; have := Z1.out; omega), O5.out.2⟩
    clear hmb HE0 HL0 O5 HT HK Z1 HBL HEZ HNL
    go_wp2_with (first | refine wpList_load_row rfl 51 _ rfl w2.heap.size rfl 51 #[.int .u8 k, .int .i64 c, .int .i64 n, .slice ba bl bc] (0, 0) _ D5.out Tryz.underlying51 rfl infoK (Hid.out ?_) | refine wpList_store_row rfl 51 _ _ rfl w.heap.size #[.int .u8 k, .int .i64 c, .int .i64 n, .slice ba bl bc] rfl rfl 51 _ A5.out infoK rfl (k4_one _ _ _ _ _ _) (Hid.out ?_))
    unfold Hid
    go_wp2_with (first | refine wpList_load_row rfl 51 _ rfl w2.heap.size rfl 51 #[.int .u8 k, .int .i64 c, .int .i64 n, .slice ba bl bc] (0, 0) _ D5.out Tryz.underlying51 rfl infoK (Hid.out ?_) | refine wpList_store_row rfl 51 _ _ rfl w.heap.size #[.int .u8 k, .int .i64 c, .int .i64 n, .slice ba bl bc] rfl rfl 51 _ A5.out infoK rfl (k4_one _ _ _ _ _ _) (Hid.out ?_))
    refine bodyPost_ret (retP rfl (setRow_heap _ _ _ _ _ _ A5.out) infoK) rfl ?_
    exact ⟨.slice ba bl bc, by rw [HE.out, HX.out]; rfl, by rw [HX.out]; exact OZ.out, below_setRow B5.out (Nat.le_refl _) _⟩

end Go.Proofs.YtiollhmbdhepkaaGreatDoor
