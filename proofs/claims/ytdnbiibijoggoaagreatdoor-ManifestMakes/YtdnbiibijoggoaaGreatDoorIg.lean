/-
  Texts on Lp, Ly, Pt, in one.
-/
import Derived.Test.YtdnbiibijoggoaaGreatDoorIc
import Derived.Test.YtdnbiibijoggoaaGreatDoorTe
import Derived.Test.YtdnbiibijoggoaaGreatDoorIe
namespace Go.Proofs.YtdnbiibijoggoaaGreatDoor
open Go.RowKit
set_option maxRecDepth 100000

/-- Bytes in a row of the call's own. -/
def Ow (w : World) (B : Nat) (v : Value) (X : List Int) : Prop := w.ownsRow B 5 1 v X.length (X.map (Value.int .u8)) ∧ ∀ k, 0 ≤ X.getD k 0 ∧ X.getD k 0 < 256
theorem Ow.sl {w : World} {B : Nat} {v : Value} {X : List Int} (h : Ow w B v X) : Sl w v X := sl_owned h.1 h.2
theorem Ow.below {w w' : World} {B : Nat} {v : Value} {X : List Int} (h : Ow w B v X) (hb : Below w.heap.size w w') : Ow w' B v X := ⟨own_below h.1 hb, h.2⟩
theorem Ow.mono {w : World} {B B' : Nat} {v : Value} {X : List Int} (h : Ow w B v X) (hb : B' ≤ B) : Ow w B' v X := ⟨own_mono h.1 hb, h.2⟩
theorem Ow.shape {w : World} {B : Nat} {v : Value} {X : List Int} (h : Ow w B v X) : ∃ a c, v = .slice a X.length c := own_shape h.1
/-- A list of texts. -/
def LP (w : World) (B : Nat) (v : Value) (ZZ : List (List Int)) : Prop :=
  ∃ V : List Value, w.ownsRow B 34 1 v ZZ.length V ∧ ∀ i, i < ZZ.length → ∃ u, V[i]? = some u ∧ Ow w B u (ZZ.getD i [])
theorem LP.below {w w' : World} {B : Nat} {v : Value} {ZZ : List (List Int)} (h : LP w B v ZZ) (hb : Below w.heap.size w w') : LP w' B v ZZ := by
  obtain ⟨V, h1, h2⟩ := h
  refine ⟨V, own_below h1 hb, fun i hi => ?_⟩
  obtain ⟨u, h3, h4⟩ := h2 i hi
  exact ⟨u, h3, h4.below hb⟩
theorem LP.parts {w : World} {B : Nat} {v : Value} {ZZ : List (List Int)} (h : LP w B v ZZ) (hm : ZZ.length ≤ 100000) : ∃ p c, v = .slice p ZZ.length c ∧ Fi.Parts w p ZZ := by
  obtain ⟨V, ho, h⟩ := h
  have ho' := ho
  rcases ho.2 with ⟨rfl, h0⟩ | ⟨g, cap, cur, rfl, _⟩
  · exact ⟨none, 0, by rw [h0], by omega, .inl (List.length_eq_zero_iff.1 h0)⟩
  · refine ⟨_, cap, rfl, by omega, .inr ⟨g, 0, rfl, fun i hi => ?_⟩⟩
    obtain ⟨u, hu, sl⟩ := h i hi
    refine ⟨u, ?_, fsl sl.sl⟩
    have := ho'.cells (g := g) rfl i u hu
    rwa [Addr.add_lit] at this
theorem LP.one {w : World} {B : Nat} {u : Value} {X : List Int} (h : Ow w B u X) (hB : B ≤ w.heap.size) : LP (w.alloc (.cells #[u] 34)) B (.slice (some ⟨w.heap.size, 0, none⟩) 1 1) [X] := by
  refine ⟨[u], ⟨rfl, .inr ⟨w.heap.size, 1, #[u], rfl, hB, heap_alloc_new _ _, Nat.le_refl _, by unfold maxLen; omega, rfl, rfl⟩⟩, fun i hi => ?_⟩
  obtain rfl : i = 0 := by simpa using hi
  exact ⟨u, rfl, h.below (al_below _ _)⟩
theorem infoB : (Tryz.prog.info? 34).map (fun i => (i.zero, i.size, i.bytes)) = some (some (.slice none 0 0), 1, 24) := by kernel_rfl
/-- A text laid behind. -/
theorem wpList_append_lp {w : World} {ops : Array Oper} {rest : List Oper} {o : Oper} {a : Act} {Q : Exit → Act → World → Prop} (hgd : o.guard = none) (s x : Operand)
    (ho : o.op = .call { callee := .builtin .append, args := #[s, x], argTypes := #[60, 60] })
    (B : Nat) (v : Value) (ZZ : List (List Int)) (hs : a.eval s = v) (hown : LP w B v ZZ) (g : Nat) (u : Value) (X : List Int) (cap : Nat) (hX : Ow w B u X)
    (hx : a.eval x = .slice (some ⟨g, 0, none⟩) 1 cap) (hc : w.cell? ⟨g, 0, none⟩ = some u) (hbig : ZZ.length ≤ 100000) (hbase : B ≤ w.heap.size)
    (h : ∀ v' w', LP w' B v' (ZZ ++ [X]) → Below B w w' → wpList Tryz.prog ops Q rest (a.put o.dst v') w') : wpList Tryz.prog ops Q (o :: rest) a w := by
  obtain ⟨i0, hi, hz0, hz1, hz2⟩ := info_parts infoB
  obtain ⟨V, hV, hall⟩ := hown
  refine wpList_append_own_wide w hgd s x 60 ho B 34 i0 (.slice none 0 0) 1 24 Tryz.underlying60 hi hz0 hz1 hz2 rfl (by decide) v ZZ.length V hs hV ⟨g, 0, none⟩ 1 cap [u] hx rfl ?_ ?_ (by unfold maxLen; omega) (by omega) hbase ?_
  · intro j z hj
    rw [Addr.add_lit]
    cases j with
    | zero => simp at hj; subst hj; exact hc
    | succ j => simp at hj
  · intro z hz
    simp at hz
    subst hz
    obtain ⟨_, _, rfl⟩ := hX.shape
    rfl
  · intro v' w' ho' hg _
    have ap : ∀ {y : Value} {Y : List Int}, Ow w B y Y → Ow w' B y Y := fun hy => ⟨own_apart hV hy.1 (by decide) hg, hy.2⟩
    have hVl : V.length = ZZ.length := by have := hV.1; simpa using this
    refine h v' w' ⟨V ++ [u], by rw [List.length_append]; exact ho', fun i hi => ?_⟩ ((Below.refl B w).grown hg hbase (own_base hV))
    rw [List.length_append, List.length_singleton] at hi
    rcases Nat.lt_or_ge i ZZ.length with h' | h'
    · obtain ⟨z, hz, oz⟩ := hall i h'
      refine ⟨z, by rw [List.getElem?_append_left (by omega)]; exact hz, ?_⟩
      have e : (ZZ ++ [X]).getD i [] = ZZ.getD i [] := by simp [List.getD, List.getElem?_append_left h']
      rw [e]
      exact ap oz
    · obtain rfl : i = ZZ.length := by omega
      refine ⟨u, by rw [List.getElem?_append_right (by omega), hVl]; simp, ?_⟩
      have e : (ZZ ++ [X]).getD ZZ.length [] = X := by simp [List.getD]
      rw [e]
      exact ap hX
/-- Values that are slices, in a row, as parts. -/
theorem partsL {w : World} (us : List Value) (XX : List (List Int)) (hl : XX.length ≤ 100000) (h : ∀ i, i < XX.length → ∃ u, us[i]? = some u ∧ Sl w u (XX.getD i [])) : Fi.Parts (w.alloc (.cells us.toArray 34)) (some ⟨w.heap.size, 0, none⟩) XX := by
  refine ⟨by omega, .inr ⟨w.heap.size, 0, rfl, fun i hi => ?_⟩⟩
  obtain ⟨u, hu, su⟩ := h i hi
  refine ⟨u, ?_, fsl (su.kept (al_below _ _))⟩
  rw [World.cell?_alloc_at _ _ _ _ rfl]
  simpa using hu
theorem fparts_kept {w w' : World} {p : Option Addr} {ZZ : List (List Int)} (h : Fi.Parts w p ZZ) (hb : Below w.heap.size w w') : Fi.Parts w' p ZZ := by
  refine ⟨h.1, ?_⟩
  rcases h.2 with h | ⟨b, off, e, h⟩
  · exact .inl h
  · refine .inr ⟨b, off, e, fun i hi => ?_⟩
    obtain ⟨v, h1, h2⟩ := h i hi
    exact ⟨v, (hb.cell (World.block_lt_of_cell? _ _ h1)).trans h1, h2.kept hb⟩
theorem parts_bytes {w : World} {p : Option Addr} {ZZ : List (List Int)} (h : Fi.Parts w p ZZ) : ∀ i, 0 ≤ ZZ.flatten.getD i 0 ∧ ZZ.flatten.getD i 0 < 256 := by
  refine bytes_flat ZZ fun X hX => ?_
  obtain ⟨i, hi, rfl⟩ := List.getElem_of_mem hX
  rcases h.2 with h | ⟨b, off, e, h⟩
  · subst h; simp at hi
  · obtain ⟨v, _, s⟩ := h i hi
    have := (slf s).bytes
    simpa [List.getD, List.getElem?_eq_getElem hi] using this
theorem fjoin_any (p : Option Addr) (kc : Nat) (ZZ : List (List Int)) (w : World) (hP : Fi.Parts w p ZZ) (hbig : ZZ.flatten.length ≤ 200000000000000) :
    Calls Tryz.prog 31 #[.slice p ZZ.length kc] w fun r w' => ∃ v, r = .returned v ∧ Ow w' w.heap.size v ZZ.flatten ∧ Below w.heap.size w w' :=
  (Fi.join_any p kc ZZ w hP hbig).mono fun _ _ ⟨v, e1, o, b⟩ => ⟨v, e1, ⟨o, parts_bytes hP⟩, b⟩
end Go.Proofs.YtdnbiibijoggoaaGreatDoor

namespace Go.Proofs.YtdnbiibijoggoaaGreatDoor
open Go.RowKit
set_option maxRecDepth 100000

set_option maxHeartbeats 1000000 in
theorem fnum_own (n : Int) (w : World) (hw : Fi.Wid w) :
    Calls Tryz.prog 29 #[.int .i64 n] w fun r w' => ∃ v, r = .returned v ∧ Ow w' w.heap.size v (Fi.numB n) ∧ Below w.heap.size w w' := by
  by_cases h0 : Fi.lenOf n = 0
  · have hn : Fi.numB n = [] := by unfold Fi.numB; rw [if_pos h0]
    rw [hn]
    have c := Fi.put_no n w hw h0
    clear hn h0
    go_enter Tryz.func29, Tryz.ntmps29
    go_wp2_with (go_at_call 56; refine c.mono ?_; rintro e w' ⟨rfl, rfl⟩)
    go_ret
    exact ⟨_, rfl, ⟨World.ownsRow_nil _ _ _ _, fun k => by simp⟩, Below.refl _ _⟩
  · obtain ⟨W, hW, hW0, hI, h1, h2, hn⟩ := Fi.pos_lim n h0
    have c := Fi.put_ok n W w hw hW hW0
    have hl := Fi.pb_len n W hI
    have hW8 : W ≤ 8 := by rcases hI with rfl | rfl | rfl | rfl <;> omega
    have HS : Hid (Ow (w.alloc (.cells (Fi.pbA n W) 5)) w.heap.size (.slice (some ⟨w.heap.size, 0, none⟩) W W) (Fi.numB n)) := by
      unfold Hid
      rw [hn]
      refine ⟨?_, Fi.pb_bytes n W hI h1 h2⟩
      rw [hl]
      refine ⟨by simp [hl], .inr ⟨w.heap.size, W, Fi.pbA n W, rfl, Nat.le_refl _, heap_alloc_new _ _, Nat.le_refl _, by unfold maxLen; omega, by unfold Fi.pbA; simp [hl], by unfold Fi.pbA; simp; exact List.take_of_length_le (by simp [hl])⟩⟩
    clear hn hl h0 hW hW0
    go_enter Tryz.func29, Tryz.ntmps29
    go_wp2_with (go_at_call 56; refine c.mono ?_; rintro e w' ⟨rfl, rfl⟩)
    go_ret
    exact ⟨_, rfl, HS.out, (Below.refl _ _).alloc (Nat.le_refl _) _⟩
/-- An item's bytes. -/
def layI (x : It) : List Int := if x.d = true then Fi.textB x.p ++ [1] else Fi.textB x.p ++ ([0] ++ (Fi.numB x.n ++ x.s))
theorem numB_len8 (n : Int) : (Fi.numB n).length ≤ 8 := by
  unfold Fi.numB
  split
  · simp
  · rename_i h0
    obtain ⟨W, hW, _, hI, _, _, hn⟩ := Fi.pos_lim n h0
    rw [hW, Int.toNat_natCast, Fi.pb_len n W hI]
    rcases hI with rfl | rfl | rfl | rfl <;> omega
theorem textB_len9 (s : ByteArray) : (Fi.textB s).length ≤ 8 + s.size := (Fi.textB_len s).1
theorem sl_lit {w : World} (z : Int) (h0 : 0 ≤ z) (h1 : z < 256) : Sl (w.alloc (.cells #[.int .u8 z] 5)) (.slice (some ⟨w.heap.size, 0, none⟩) 1 1) [z] := by
  refine sl_range (A := [z]) (fun j v hv => ?_) (byteList _ (by simp; omega)) rfl (Nat.le_refl _) (by unfold maxLen; omega)
  rw [World.cell?_alloc_at _ _ _ _ rfl]
  simpa using hv
theorem two_get {P : Value → List Int → Prop} {u0 u1 : Value} {X0 X1 : List Int} (h0 : P u0 X0) (h1 : P u1 X1) : ∀ i, i < [X0, X1].length → ∃ u, [u0, u1][i]? = some u ∧ P u ([X0, X1].getD i []) := fun i hi => by
  rcases (show i = 0 ∨ i = 1 by simp at hi; omega) with rfl | rfl
  · exact ⟨u0, rfl, h0⟩
  · exact ⟨u1, rfl, h1⟩
theorem four_get {P : Value → List Int → Prop} {u0 u1 u2 u3 : Value} {X0 X1 X2 X3 : List Int} (h0 : P u0 X0) (h1 : P u1 X1) (h2 : P u2 X2) (h3 : P u3 X3) : ∀ i, i < [X0, X1, X2, X3].length → ∃ u, [u0, u1, u2, u3][i]? = some u ∧ P u ([X0, X1, X2, X3].getD i []) := fun i hi => by
  rcases (show i = 0 ∨ i = 1 ∨ i = 2 ∨ i = 3 by simp at hi; omega) with rfl | rfl | rfl | rfl
  · exact ⟨u0, rfl, h0⟩
  · exact ⟨u1, rfl, h1⟩
  · exact ⟨u2, rfl, h2⟩
  · exact ⟨u3, rfl, h3⟩
set_option maxHeartbeats 2000000 in
theorem lay_any (x : It) (w : World) (hx : x.ok) (ht : Tb w) (hp : x.p.size ≤ 1000) :
    Calls Tryz.prog 30 #[x.val] w fun e w' => ∃ u, e = .returned u ∧ Ow w' w.heap.size u (layI x) ∧ Below w.heap.size w w' := by
  obtain ⟨W1, hW1⟩ : ∃ W1, W1 = w.alloc (.cells x.cells.toArray 42) := ⟨_, rfl⟩
  have b1 : Below w.heap.size w W1 := by rw [hW1]; exact al_below _ _
  have g1 : IB W1 w.heap.size x := by rw [hW1]; exact IB.new w x
  have FT : Hid (∀ W, From W1 W → W.cell? ⟨w.heap.size, 0, none⟩ = some (.string x.p) ∧ W.cell? ⟨w.heap.size, 2, none⟩ = some (.int .i64 x.n)) := fun W hb => ⟨(range_head (g1.kept hb).range).1, (range_head (g1.kept hb).range).2.2⟩
  have FB : Hid (∀ W, From W1 W → Below w.heap.size w W) := fun W h => b1.trans (Below.mono h b1.size)
  have FW : Hid (∀ W, From W1 W → Fi.Wid W) := fun W h => (ht.kept (b1.trans (Below.mono h b1.size))).2
  have FS : Hid (∀ W, From W1 W → Sl W (.slice (some ⟨w.heap.size, 3, none⟩) 32 32) x.s) := fun W hb => sl_range (by simpa using range_sum (g1.kept hb).range) hx.2.1 hx.1.symm (Nat.le_refl _) (by unfold maxLen; omega)
  have CT : Hid (∀ W, Fi.Wid W → Calls Tryz.prog 57 #[.string x.p] W fun r w' => ∃ v, r = .returned v ∧ Sl w' v (Fi.textB x.p) ∧ Below W.heap.size W w') := fun W hw => Fi.ftext_any x.p W hw (by omega)
  have CN : Hid (∀ W, Fi.Wid W → Calls Tryz.prog 29 #[.int .i64 x.n] W fun r w' => ∃ v, r = .returned v ∧ Sl w' v (Fi.numB x.n) ∧ Below W.heap.size W w') := fun W hw => Fi.fnum_any x.n W hw
  have lt9 := textB_len9 x.p
  have ln8 := numB_len8 x.n
  have hsl := hx.1
  have CJ2 : Hid (∀ W (g : Nat), Fi.Parts W (some ⟨g, 0, none⟩) [Fi.textB x.p, [1]] → Calls Tryz.prog 31 #[.slice (some ⟨g, 0, none⟩) 2 2] W fun r w' => ∃ v, r = .returned v ∧ Ow w' W.heap.size v (Fi.textB x.p ++ [1]) ∧ Below W.heap.size W w') := fun W g hP => by
    have := fjoin_any (some ⟨g, 0, none⟩) 2 _ W hP (by simp; omega)
    rw [show [Fi.textB x.p, [1]].flatten = Fi.textB x.p ++ [1] by simp] at this
    exact this
  have CJ4 : Hid (∀ W (g : Nat), Fi.Parts W (some ⟨g, 0, none⟩) [Fi.textB x.p, [0], Fi.numB x.n, x.s] → Calls Tryz.prog 31 #[.slice (some ⟨g, 0, none⟩) 4 4] W fun r w' => ∃ v, r = .returned v ∧ Ow w' W.heap.size v (Fi.textB x.p ++ ([0] ++ (Fi.numB x.n ++ x.s))) ∧ Below W.heap.size W w') := fun W g hP => by
    have := fjoin_any (some ⟨g, 0, none⟩) 4 _ W hP (by simp; omega)
    rw [show [Fi.textB x.p, [0], Fi.numB x.n, x.s].flatten = Fi.textB x.p ++ ([0] ++ (Fi.numB x.n ++ x.s)) by simp] at this
    exact this
  have HY : Hid (layI x = if x.d = true then Fi.textB x.p ++ [1] else Fi.textB x.p ++ ([0] ++ (Fi.numB x.n ++ x.s))) := rfl
  have k3 : x.cells.toArray[0]? = some (.string x.p) := rfl
  have k4 : x.cells.toArray[1]? = some (.bool x.d) := rfl
  clear b1 g1 hx lt9 ln8 hsl ht hp
  unfold It.val
  generalize layI x = Y at *
  generalize x.s = S at *
  generalize x.cells.toArray = cs at *
  generalize Fi.textB x.p = TT at *
  generalize Fi.numB x.n = NN at *
  generalize x.p = pp at *
  generalize x.d = dd at *
  generalize x.n = nn at *
  cases dd
  · have hY : Hid (Y = TT ++ ([0] ++ (NN ++ S))) := by unfold Hid; have := HY.out; simpa using this
    rw [← hY.out] at CJ4
    clear HY CJ2
    go_enter Tryz.func30, Tryz.ntmps30
    go_wp2_with fail
    rw [← hW1]
    clear hW1 k3 k4
    refine wp_region_held_drew (S := From W1) (by kernel_rfl) ((Below.refl _ _).drew) (fun _ => ?_)
    refine wpAnyH_on ((Below.refl _ _).drew) (fun u0 hu0 bu0 => ?_)
    replace FT := on FT bu0
    replace FB := on FB bu0
    replace FW := on FW bu0
    replace FS := on FS bu0
    refine wpAnyH_take (i := 0) (oi := { dst := some 11, op := Op.fieldAddr 42 (Operand.tmp 1) 0, type := 0, pos := "manifest.go:143", after := #[], guard := none }) (v := ?vr1) rfl (by kernel_rfl) (by kernel_rfl) (by kernel_rfl) (fun _ _ _ h => h) (Or.inl ⟨by rfl, ?yr1⟩) (Below.refl _ _) ?rr1
    case yr1 => (intro w hSw; go_simp; try with_reducible rfl)
    try simp only [Act.put, List.setIfInBounds_toArray, List.set_cons_zero, List.set_cons_succ]
    refine wpAnyH_take (i := 1) (oi := { dst := some 12, op := Op.load 9 (Operand.tmp 11), type := 9, pos := "manifest.go:143", after := #[{ on := 0, ground := Ground.data }], guard := none }) (v := ?vr2) rfl (by kernel_rfl) (by kernel_rfl) (by kernel_rfl) (fun _ _ _ h => h) (Or.inl ⟨by rfl, ?yr2⟩) (Below.refl _ _) ?rr2
    case yr2 => (intro w hSw; obtain ⟨t0, t1⟩ := FT.out w hSw; go_simp; try with_reducible rfl)
    try simp only [Act.put, List.setIfInBounds_toArray, List.set_cons_zero, List.set_cons_succ]
    refine wpAnyH_take (i := 4) (oi := { dst := some 15, op := Op.fieldAddr 42 (Operand.tmp 1) 2, type := 0, pos := "manifest.go:143", after := #[], guard := none }) (v := ?vr3) rfl (by kernel_rfl) (by kernel_rfl) (by kernel_rfl) (fun _ _ _ h => h) (Or.inl ⟨by rfl, ?yr3⟩) (Below.refl _ _) ?rr3
    case yr3 => (intro w hSw; go_simp; try with_reducible rfl)
    try simp only [Act.put, List.setIfInBounds_toArray, List.set_cons_zero, List.set_cons_succ]
    refine wpAnyH_take (i := 5) (oi := { dst := some 16, op := Op.load 3 (Operand.tmp 15), type := 3, pos := "manifest.go:143", after := #[{ on := 4, ground := Ground.data }], guard := none }) (v := ?vr4) rfl (by kernel_rfl) (by kernel_rfl) (by kernel_rfl) (fun _ _ _ h => h) (Or.inl ⟨by rfl, ?yr4⟩) (Below.refl _ _) ?rr4
    case yr4 => (intro w hSw; obtain ⟨t0, t1⟩ := FT.out w hSw; go_simp; try with_reducible rfl)
    try simp only [Act.put, List.setIfInBounds_toArray, List.set_cons_zero, List.set_cons_succ]
    refine wpAnyH_take (i := 7) (oi := { dst := some 18, op := Op.fieldAddr 42 (Operand.tmp 1) 3, type := 0, pos := "manifest.go:143", after := #[], guard := none }) (v := ?vr5) rfl (by kernel_rfl) (by kernel_rfl) (by kernel_rfl) (fun _ _ _ h => h) (Or.inl ⟨by rfl, ?yr5⟩) (Below.refl _ _) ?rr5
    case yr5 => (intro w hSw; go_simp; try with_reducible rfl)
    try simp only [Act.put, List.setIfInBounds_toArray, List.set_cons_zero, List.set_cons_succ]
    refine wpAnyH_take (i := 8) (oi := { dst := some 19, op := Op.slice 40 (Operand.tmp 18) none none none, type := 34, pos := "manifest.go:143", after := #[{ on := 7, ground := Ground.data }], guard := none }) (v := ?vr6) rfl (by kernel_rfl) (by kernel_rfl) (by kernel_rfl) (fun _ _ _ h => h) (Or.inl ⟨by rfl, ?yr6⟩) (Below.refl _ _) ?rr6
    case yr6 => (intro w hSw; go_simp; try with_reducible rfl)
    try simp only [Act.put, List.setIfInBounds_toArray, List.set_cons_zero, List.set_cons_succ]
    refine wpAnyH_ready (rs := [2, 3]) (by kernel_rfl) (by simp) ?_
    refine AllReadyH.cons (o := { dst := some 13, op := Op.call { callee := Callee.value (Operand.func 57), args := #[Operand.tmp 12], argTypes := #[9] }, type := 34, pos := "manifest.go:143", after := #[{ on := 1, ground := Ground.data }], guard := none }) rfl (fun KK hKK => ?_) ?_
    · go_simp
      refine (CT.out _ (FW.out _ (Below.refl _ _))).mono ?_
      rintro e u7' ⟨vu7, rfl, su7, bu7'⟩
      obtain ⟨ta, tc, rfl, -⟩ := id su7
      (try go_wp2_with fail)
      refine hKK.out _ _ (bu7') (fun _ => ?_)
      clear hKK KK
      try simp only [Act.put, List.setIfInBounds_toArray, List.set_cons_zero, List.set_cons_succ]
      refine wpAnyH_on (bu7') (fun u7 hu7 bu7 => ?_)
      replace FT := on FT bu7
      replace FB := on FB bu7
      replace FW := on FW bu7
      replace FS := on FS bu7
      have FV : Hid (∀ x, From u7 x → Sl x (.slice ta TT.length tc) TT) := fun x hx => Sl.kept (by rw [hu7.out]; exact su7) hx
      clear su7
      refine wpAnyH_ready (rs := [3, 6]) (by kernel_rfl) (by simp) ?_
      refine AllReadyH.cons (o := { dst := some 14, op := Op.buildSlice 34 1 #[(0, Operand.const (Value.int IntKind.u8 0))], type := 34, pos := "manifest.go:143", after := #[], guard := none }) rfl (fun KK hKK => ?_) ?_
      · have su8 := sl_lit (w := u7) 0 (by omega) (by omega)
        go_simp
        refine hKK.out _ _ (al_below _ _) (fun _ => ?_)
        clear hKK KK
        try simp only [Act.put, List.setIfInBounds_toArray, List.set_cons_zero, List.set_cons_succ]
        refine wpAnyH_on (al_below _ _) (fun u8 hu8 bu8 => ?_)
        replace FT := on FT bu8
        replace FB := on FB bu8
        replace FW := on FW bu8
        replace FS := on FS bu8
        replace FV := on FV bu8
        have FZ : Hid (∀ x, From u8 x → Sl x (.slice (some ⟨u7.heap.size, 0, none⟩) 1 1) [0]) := fun x hx => Sl.kept (by rw [hu8.out]; exact su8) hx
        clear su8
        refine wpAnyH_ready (rs := [6]) (by kernel_rfl) (by simp) ?_
        refine AllReadyH.cons (o := { dst := some 17, op := Op.call { callee := Callee.value (Operand.func 29), args := #[Operand.tmp 16], argTypes := #[3] }, type := 34, pos := "manifest.go:143", after := #[{ on := 5, ground := Ground.data }, { on := 2, ground := Ground.chain }], guard := none }) rfl (fun KK hKK => ?_) ?_
        · go_simp
          refine (CN.out _ (FW.out _ (Below.refl _ _))).mono ?_
          rintro e u9' ⟨vu9, rfl, su9, bu9'⟩
          obtain ⟨na, nc, rfl, -⟩ := id su9
          (try go_wp2_with fail)
          refine hKK.out _ _ (bu9') (fun _ => ?_)
          clear hKK KK
          try simp only [Act.put, List.setIfInBounds_toArray, List.set_cons_zero, List.set_cons_succ]
          refine wpAnyH_on (bu9') (fun u9 hu9 bu9 => ?_)
          replace FT := on FT bu9
          replace FB := on FB bu9
          replace FW := on FW bu9
          replace FS := on FS bu9
          replace FV := on FV bu9
          replace FZ := on FZ bu9
          have FN : Hid (∀ x, From u9 x → Sl x (.slice na NN.length nc) NN) := fun x hx => Sl.kept (by rw [hu9.out]; exact su9) hx
          clear su9
          refine wpAnyH_ready (rs := [9]) (by kernel_rfl) (by simp) ?_
          refine AllReadyH.cons (o := { dst := some 20, op := Op.buildSlice 60 4 #[(0, Operand.tmp 13), (1, Operand.tmp 14), (2, Operand.tmp 17), (3, Operand.tmp 19)], type := 60, pos := "manifest.go:143", after := #[{ on := 2, ground := Ground.data }, { on := 3, ground := Ground.data }, { on := 6, ground := Ground.data }, { on := 8, ground := Ground.data }], guard := none }) rfl (fun KK hKK => ?_) ?_
          · have pu10 := partsL (w := u9) [.slice ta TT.length tc, .slice (some ⟨u7.heap.size, 0, none⟩) 1 1, .slice na NN.length nc, .slice (some ⟨w.heap.size, 3, none⟩) 32 32] [TT, [0], NN, S] (by simp) (four_get (P := fun u X => Sl u9 u X) (FV.out _ (Below.refl _ _)) (FZ.out _ (Below.refl _ _)) (FN.out _ (Below.refl _ _)) (FS.out _ (Below.refl _ _)))
            go_simp
            refine hKK.out _ _ (al_below _ _) (fun _ => ?_)
            clear hKK KK
            try simp only [Act.put, List.setIfInBounds_toArray, List.set_cons_zero, List.set_cons_succ]
            refine wpAnyH_on (al_below _ _) (fun u10 hu10 bu10 => ?_)
            replace FT := on FT bu10
            replace FB := on FB bu10
            replace FW := on FW bu10
            replace FS := on FS bu10
            replace FV := on FV bu10
            replace FZ := on FZ bu10
            replace FN := on FN bu10
            have FP : Hid (∀ x, From u10 x → Fi.Parts x (some ⟨u9.heap.size, 0, none⟩) [TT, [0], NN, S]) := fun x hx => fparts_kept (by rw [hu10.out]; exact pu10) hx
            clear pu10
            refine wpAnyH_ready (rs := [10]) (by kernel_rfl) (by simp) ?_
            refine AllReadyH.cons (o := { dst := some 21, op := Op.call { callee := Callee.value (Operand.func 31), args := #[Operand.tmp 20], argTypes := #[60] }, type := 34, pos := "manifest.go:143", after := #[{ on := 9, ground := Ground.data }, { on := 6, ground := Ground.chain }], guard := none }) rfl (fun KK hKK => ?_) ?_
            · have lwu11 : w.heap.size ≤ u10.heap.size := (FB.out _ (Below.refl _ _)).size
              go_simp
              refine (CJ4.out _ _ (FP.out _ (Below.refl _ _))).mono ?_
              rintro e u11' ⟨vu11, rfl, ou11, bu11'⟩
              obtain ⟨ja, jc, rfl⟩ := Ow.shape ou11
              (try go_wp2_with fail)
              refine hKK.out _ _ (bu11') (fun _ => ?_)
              clear hKK KK
              try simp only [Act.put, List.setIfInBounds_toArray, List.set_cons_zero, List.set_cons_succ]
              refine wpAnyH_on (bu11') (fun u11 hu11 bu11 => ?_)
              replace FT := on FT bu11
              replace FB := on FB bu11
              replace FW := on FW bu11
              replace FS := on FS bu11
              replace FV := on FV bu11
              replace FZ := on FZ bu11
              replace FN := on FN bu11
              replace FP := on FP bu11
              have OZ : Hid (Ow u11 w.heap.size (.slice ja Y.length jc) Y) := by unfold Hid; rw [hu11.out]; exact Ow.mono ou11 lwu11
              clear ou11
              refine wpAnyH_take (i := 11) (oi := { dst := some 2, op := Op.assign (Operand.tmp 21), type := 34, pos := "manifest.go:143", after := #[{ on := 10, ground := Ground.data }, { on := 10, ground := Ground.chain }, { on := 0, ground := Ground.phase }, { on := 1, ground := Ground.phase }, { on := 2, ground := Ground.phase }, { on := 3, ground := Ground.phase }, { on := 4, ground := Ground.phase }, { on := 5, ground := Ground.phase }, { on := 6, ground := Ground.phase }, { on := 7, ground := Ground.phase }, { on := 8, ground := Ground.phase }, { on := 9, ground := Ground.phase }, { on := 10, ground := Ground.phase }], guard := none }) (v := ?vr12) rfl (by kernel_rfl) (by kernel_rfl) (by kernel_rfl) (fun _ _ _ h => h) (Or.inl ⟨by rfl, ?yr12⟩) (Below.refl _ _) ?rr12
              case yr12 => (intro w hSw; go_simp; try with_reducible rfl)
              try simp only [Act.put, List.setIfInBounds_toArray, List.set_cons_zero, List.set_cons_succ]
              refine wpAnyH_done (by kernel_rfl) ?_ _
              have BZ : Hid (Below w.heap.size w u11) := FB.out _ (Below.refl _ _)
              go_wp2
              go_ret
              exact ⟨_, rfl, OZ.out, BZ.out⟩
            exact AllReadyH.nil
          exact AllReadyH.nil
        exact AllReadyH.nil
      refine AllReadyH.cons (o := { dst := some 17, op := Op.call { callee := Callee.value (Operand.func 29), args := #[Operand.tmp 16], argTypes := #[3] }, type := 34, pos := "manifest.go:143", after := #[{ on := 5, ground := Ground.data }, { on := 2, ground := Ground.chain }], guard := none }) rfl (fun KK hKK => ?_) ?_
      · go_simp
        refine (CN.out _ (FW.out _ (Below.refl _ _))).mono ?_
        rintro e u13' ⟨vu13, rfl, su13, bu13'⟩
        obtain ⟨na, nc, rfl, -⟩ := id su13
        (try go_wp2_with fail)
        refine hKK.out _ _ (bu13') (fun _ => ?_)
        clear hKK KK
        try simp only [Act.put, List.setIfInBounds_toArray, List.set_cons_zero, List.set_cons_succ]
        refine wpAnyH_on (bu13') (fun u13 hu13 bu13 => ?_)
        replace FT := on FT bu13
        replace FB := on FB bu13
        replace FW := on FW bu13
        replace FS := on FS bu13
        replace FV := on FV bu13
        have FN : Hid (∀ x, From u13 x → Sl x (.slice na NN.length nc) NN) := fun x hx => Sl.kept (by rw [hu13.out]; exact su13) hx
        clear su13
        refine wpAnyH_ready (rs := [3]) (by kernel_rfl) (by simp) ?_
        refine AllReadyH.cons (o := { dst := some 14, op := Op.buildSlice 34 1 #[(0, Operand.const (Value.int IntKind.u8 0))], type := 34, pos := "manifest.go:143", after := #[], guard := none }) rfl (fun KK hKK => ?_) ?_
        · have su14 := sl_lit (w := u13) 0 (by omega) (by omega)
          go_simp
          refine hKK.out _ _ (al_below _ _) (fun _ => ?_)
          clear hKK KK
          try simp only [Act.put, List.setIfInBounds_toArray, List.set_cons_zero, List.set_cons_succ]
          refine wpAnyH_on (al_below _ _) (fun u14 hu14 bu14 => ?_)
          replace FT := on FT bu14
          replace FB := on FB bu14
          replace FW := on FW bu14
          replace FS := on FS bu14
          replace FV := on FV bu14
          replace FN := on FN bu14
          have FZ : Hid (∀ x, From u14 x → Sl x (.slice (some ⟨u13.heap.size, 0, none⟩) 1 1) [0]) := fun x hx => Sl.kept (by rw [hu14.out]; exact su14) hx
          clear su14
          refine wpAnyH_ready (rs := [9]) (by kernel_rfl) (by simp) ?_
          refine AllReadyH.cons (o := { dst := some 20, op := Op.buildSlice 60 4 #[(0, Operand.tmp 13), (1, Operand.tmp 14), (2, Operand.tmp 17), (3, Operand.tmp 19)], type := 60, pos := "manifest.go:143", after := #[{ on := 2, ground := Ground.data }, { on := 3, ground := Ground.data }, { on := 6, ground := Ground.data }, { on := 8, ground := Ground.data }], guard := none }) rfl (fun KK hKK => ?_) ?_
          · have pu15 := partsL (w := u14) [.slice ta TT.length tc, .slice (some ⟨u13.heap.size, 0, none⟩) 1 1, .slice na NN.length nc, .slice (some ⟨w.heap.size, 3, none⟩) 32 32] [TT, [0], NN, S] (by simp) (four_get (P := fun u X => Sl u14 u X) (FV.out _ (Below.refl _ _)) (FZ.out _ (Below.refl _ _)) (FN.out _ (Below.refl _ _)) (FS.out _ (Below.refl _ _)))
            go_simp
            refine hKK.out _ _ (al_below _ _) (fun _ => ?_)
            clear hKK KK
            try simp only [Act.put, List.setIfInBounds_toArray, List.set_cons_zero, List.set_cons_succ]
            refine wpAnyH_on (al_below _ _) (fun u15 hu15 bu15 => ?_)
            replace FT := on FT bu15
            replace FB := on FB bu15
            replace FW := on FW bu15
            replace FS := on FS bu15
            replace FV := on FV bu15
            replace FN := on FN bu15
            replace FZ := on FZ bu15
            have FP : Hid (∀ x, From u15 x → Fi.Parts x (some ⟨u14.heap.size, 0, none⟩) [TT, [0], NN, S]) := fun x hx => fparts_kept (by rw [hu15.out]; exact pu15) hx
            clear pu15
            refine wpAnyH_ready (rs := [10]) (by kernel_rfl) (by simp) ?_
            refine AllReadyH.cons (o := { dst := some 21, op := Op.call { callee := Callee.value (Operand.func 31), args := #[Operand.tmp 20], argTypes := #[60] }, type := 34, pos := "manifest.go:143", after := #[{ on := 9, ground := Ground.data }, { on := 6, ground := Ground.chain }], guard := none }) rfl (fun KK hKK => ?_) ?_
            · have lwu16 : w.heap.size ≤ u15.heap.size := (FB.out _ (Below.refl _ _)).size
              go_simp
              refine (CJ4.out _ _ (FP.out _ (Below.refl _ _))).mono ?_
              rintro e u16' ⟨vu16, rfl, ou16, bu16'⟩
              obtain ⟨ja, jc, rfl⟩ := Ow.shape ou16
              (try go_wp2_with fail)
              refine hKK.out _ _ (bu16') (fun _ => ?_)
              clear hKK KK
              try simp only [Act.put, List.setIfInBounds_toArray, List.set_cons_zero, List.set_cons_succ]
              refine wpAnyH_on (bu16') (fun u16 hu16 bu16 => ?_)
              replace FT := on FT bu16
              replace FB := on FB bu16
              replace FW := on FW bu16
              replace FS := on FS bu16
              replace FV := on FV bu16
              replace FN := on FN bu16
              replace FZ := on FZ bu16
              replace FP := on FP bu16
              have OZ : Hid (Ow u16 w.heap.size (.slice ja Y.length jc) Y) := by unfold Hid; rw [hu16.out]; exact Ow.mono ou16 lwu16
              clear ou16
              refine wpAnyH_take (i := 11) (oi := { dst := some 2, op := Op.assign (Operand.tmp 21), type := 34, pos := "manifest.go:143", after := #[{ on := 10, ground := Ground.data }, { on := 10, ground := Ground.chain }, { on := 0, ground := Ground.phase }, { on := 1, ground := Ground.phase }, { on := 2, ground := Ground.phase }, { on := 3, ground := Ground.phase }, { on := 4, ground := Ground.phase }, { on := 5, ground := Ground.phase }, { on := 6, ground := Ground.phase }, { on := 7, ground := Ground.phase }, { on := 8, ground := Ground.phase }, { on := 9, ground := Ground.phase }, { on := 10, ground := Ground.phase }], guard := none }) (v := ?vr17) rfl (by kernel_rfl) (by kernel_rfl) (by kernel_rfl) (fun _ _ _ h => h) (Or.inl ⟨by rfl, ?yr17⟩) (Below.refl _ _) ?rr17
              case yr17 => (intro w hSw; go_simp; try with_reducible rfl)
              try simp only [Act.put, List.setIfInBounds_toArray, List.set_cons_zero, List.set_cons_succ]
              refine wpAnyH_done (by kernel_rfl) ?_ _
              have BZ : Hid (Below w.heap.size w u16) := FB.out _ (Below.refl _ _)
              go_wp2
              go_ret
              exact ⟨_, rfl, OZ.out, BZ.out⟩
            exact AllReadyH.nil
          exact AllReadyH.nil
        exact AllReadyH.nil
      exact AllReadyH.nil
    refine AllReadyH.cons (o := { dst := some 14, op := Op.buildSlice 34 1 #[(0, Operand.const (Value.int IntKind.u8 0))], type := 34, pos := "manifest.go:143", after := #[], guard := none }) rfl (fun KK hKK => ?_) ?_
    · have su18 := sl_lit (w := u0) 0 (by omega) (by omega)
      go_simp
      refine hKK.out _ _ (al_below _ _) (fun _ => ?_)
      clear hKK KK
      try simp only [Act.put, List.setIfInBounds_toArray, List.set_cons_zero, List.set_cons_succ]
      refine wpAnyH_on (al_below _ _) (fun u18 hu18 bu18 => ?_)
      replace FT := on FT bu18
      replace FB := on FB bu18
      replace FW := on FW bu18
      replace FS := on FS bu18
      have FZ : Hid (∀ x, From u18 x → Sl x (.slice (some ⟨u0.heap.size, 0, none⟩) 1 1) [0]) := fun x hx => Sl.kept (by rw [hu18.out]; exact su18) hx
      clear su18
      refine wpAnyH_ready (rs := [2]) (by kernel_rfl) (by simp) ?_
      refine AllReadyH.cons (o := { dst := some 13, op := Op.call { callee := Callee.value (Operand.func 57), args := #[Operand.tmp 12], argTypes := #[9] }, type := 34, pos := "manifest.go:143", after := #[{ on := 1, ground := Ground.data }], guard := none }) rfl (fun KK hKK => ?_) ?_
      · go_simp
        refine (CT.out _ (FW.out _ (Below.refl _ _))).mono ?_
        rintro e u19' ⟨vu19, rfl, su19, bu19'⟩
        obtain ⟨ta, tc, rfl, -⟩ := id su19
        (try go_wp2_with fail)
        refine hKK.out _ _ (bu19') (fun _ => ?_)
        clear hKK KK
        try simp only [Act.put, List.setIfInBounds_toArray, List.set_cons_zero, List.set_cons_succ]
        refine wpAnyH_on (bu19') (fun u19 hu19 bu19 => ?_)
        replace FT := on FT bu19
        replace FB := on FB bu19
        replace FW := on FW bu19
        replace FS := on FS bu19
        replace FZ := on FZ bu19
        have FV : Hid (∀ x, From u19 x → Sl x (.slice ta TT.length tc) TT) := fun x hx => Sl.kept (by rw [hu19.out]; exact su19) hx
        clear su19
        refine wpAnyH_ready (rs := [6]) (by kernel_rfl) (by simp) ?_
        refine AllReadyH.cons (o := { dst := some 17, op := Op.call { callee := Callee.value (Operand.func 29), args := #[Operand.tmp 16], argTypes := #[3] }, type := 34, pos := "manifest.go:143", after := #[{ on := 5, ground := Ground.data }, { on := 2, ground := Ground.chain }], guard := none }) rfl (fun KK hKK => ?_) ?_
        · go_simp
          refine (CN.out _ (FW.out _ (Below.refl _ _))).mono ?_
          rintro e u20' ⟨vu20, rfl, su20, bu20'⟩
          obtain ⟨na, nc, rfl, -⟩ := id su20
          (try go_wp2_with fail)
          refine hKK.out _ _ (bu20') (fun _ => ?_)
          clear hKK KK
          try simp only [Act.put, List.setIfInBounds_toArray, List.set_cons_zero, List.set_cons_succ]
          refine wpAnyH_on (bu20') (fun u20 hu20 bu20 => ?_)
          replace FT := on FT bu20
          replace FB := on FB bu20
          replace FW := on FW bu20
          replace FS := on FS bu20
          replace FZ := on FZ bu20
          replace FV := on FV bu20
          have FN : Hid (∀ x, From u20 x → Sl x (.slice na NN.length nc) NN) := fun x hx => Sl.kept (by rw [hu20.out]; exact su20) hx
          clear su20
          refine wpAnyH_ready (rs := [9]) (by kernel_rfl) (by simp) ?_
          refine AllReadyH.cons (o := { dst := some 20, op := Op.buildSlice 60 4 #[(0, Operand.tmp 13), (1, Operand.tmp 14), (2, Operand.tmp 17), (3, Operand.tmp 19)], type := 60, pos := "manifest.go:143", after := #[{ on := 2, ground := Ground.data }, { on := 3, ground := Ground.data }, { on := 6, ground := Ground.data }, { on := 8, ground := Ground.data }], guard := none }) rfl (fun KK hKK => ?_) ?_
          · have pu21 := partsL (w := u20) [.slice ta TT.length tc, .slice (some ⟨u0.heap.size, 0, none⟩) 1 1, .slice na NN.length nc, .slice (some ⟨w.heap.size, 3, none⟩) 32 32] [TT, [0], NN, S] (by simp) (four_get (P := fun u X => Sl u20 u X) (FV.out _ (Below.refl _ _)) (FZ.out _ (Below.refl _ _)) (FN.out _ (Below.refl _ _)) (FS.out _ (Below.refl _ _)))
            go_simp
            refine hKK.out _ _ (al_below _ _) (fun _ => ?_)
            clear hKK KK
            try simp only [Act.put, List.setIfInBounds_toArray, List.set_cons_zero, List.set_cons_succ]
            refine wpAnyH_on (al_below _ _) (fun u21 hu21 bu21 => ?_)
            replace FT := on FT bu21
            replace FB := on FB bu21
            replace FW := on FW bu21
            replace FS := on FS bu21
            replace FZ := on FZ bu21
            replace FV := on FV bu21
            replace FN := on FN bu21
            have FP : Hid (∀ x, From u21 x → Fi.Parts x (some ⟨u20.heap.size, 0, none⟩) [TT, [0], NN, S]) := fun x hx => fparts_kept (by rw [hu21.out]; exact pu21) hx
            clear pu21
            refine wpAnyH_ready (rs := [10]) (by kernel_rfl) (by simp) ?_
            refine AllReadyH.cons (o := { dst := some 21, op := Op.call { callee := Callee.value (Operand.func 31), args := #[Operand.tmp 20], argTypes := #[60] }, type := 34, pos := "manifest.go:143", after := #[{ on := 9, ground := Ground.data }, { on := 6, ground := Ground.chain }], guard := none }) rfl (fun KK hKK => ?_) ?_
            · have lwu22 : w.heap.size ≤ u21.heap.size := (FB.out _ (Below.refl _ _)).size
              go_simp
              refine (CJ4.out _ _ (FP.out _ (Below.refl _ _))).mono ?_
              rintro e u22' ⟨vu22, rfl, ou22, bu22'⟩
              obtain ⟨ja, jc, rfl⟩ := Ow.shape ou22
              (try go_wp2_with fail)
              refine hKK.out _ _ (bu22') (fun _ => ?_)
              clear hKK KK
              try simp only [Act.put, List.setIfInBounds_toArray, List.set_cons_zero, List.set_cons_succ]
              refine wpAnyH_on (bu22') (fun u22 hu22 bu22 => ?_)
              replace FT := on FT bu22
              replace FB := on FB bu22
              replace FW := on FW bu22
              replace FS := on FS bu22
              replace FZ := on FZ bu22
              replace FV := on FV bu22
              replace FN := on FN bu22
              replace FP := on FP bu22
              have OZ : Hid (Ow u22 w.heap.size (.slice ja Y.length jc) Y) := by unfold Hid; rw [hu22.out]; exact Ow.mono ou22 lwu22
              clear ou22
              refine wpAnyH_take (i := 11) (oi := { dst := some 2, op := Op.assign (Operand.tmp 21), type := 34, pos := "manifest.go:143", after := #[{ on := 10, ground := Ground.data }, { on := 10, ground := Ground.chain }, { on := 0, ground := Ground.phase }, { on := 1, ground := Ground.phase }, { on := 2, ground := Ground.phase }, { on := 3, ground := Ground.phase }, { on := 4, ground := Ground.phase }, { on := 5, ground := Ground.phase }, { on := 6, ground := Ground.phase }, { on := 7, ground := Ground.phase }, { on := 8, ground := Ground.phase }, { on := 9, ground := Ground.phase }, { on := 10, ground := Ground.phase }], guard := none }) (v := ?vr23) rfl (by kernel_rfl) (by kernel_rfl) (by kernel_rfl) (fun _ _ _ h => h) (Or.inl ⟨by rfl, ?yr23⟩) (Below.refl _ _) ?rr23
              case yr23 => (intro w hSw; go_simp; try with_reducible rfl)
              try simp only [Act.put, List.setIfInBounds_toArray, List.set_cons_zero, List.set_cons_succ]
              refine wpAnyH_done (by kernel_rfl) ?_ _
              have BZ : Hid (Below w.heap.size w u22) := FB.out _ (Below.refl _ _)
              go_wp2
              go_ret
              exact ⟨_, rfl, OZ.out, BZ.out⟩
            exact AllReadyH.nil
          exact AllReadyH.nil
        exact AllReadyH.nil
      exact AllReadyH.nil
    exact AllReadyH.nil
  · have hY : Hid (Y = TT ++ [1]) := by unfold Hid; have := HY.out; simpa using this
    rw [← hY.out] at CJ2
    clear HY CJ4 CN FS
    go_enter Tryz.func30, Tryz.ntmps30
    go_wp2_with fail
    rw [← hW1]
    clear hW1 k3 k4
    refine (CT.out W1 (FW.out _ (Below.refl _ _))).mono ?_
    rintro e w2 ⟨v2, rfl, s2, b2⟩
    obtain ⟨a2, c2, rfl, _⟩ := id s2
    have P3 := sl_lit (w := w2) 1 (by omega) (by omega)
    obtain ⟨W3, hW3⟩ : ∃ W3, W3 = w2.alloc (.cells #[.int .u8 1] 5) := ⟨_, rfl⟩
    rw [← hW3] at P3
    have b3 : Below w2.heap.size w2 W3 := by rw [hW3]; exact al_below _ _
    have P4 := partsL (w := W3) [.slice a2 TT.length c2, .slice (some ⟨w2.heap.size, 0, none⟩) 1 1] [TT, [1]] (by simp) (two_get (P := fun u X => Sl W3 u X) (s2.kept b3) P3)
    obtain ⟨W4, hW4⟩ : ∃ W4, W4 = W3.alloc (.cells #[.slice a2 TT.length c2, .slice (some ⟨w2.heap.size, 0, none⟩) 1 1] 34) := ⟨_, rfl⟩
    have s3 : W3.heap.size = w2.heap.size + 1 := by rw [hW3]; simp
    have b4 : Below W3.heap.size W3 W4 := by rw [hW4]; exact al_below _ _
    have b24 := b3.trans (b4.mono b3.size)
    have B4 : Hid (Below w.heap.size w W4) := FB.out _ (b2.trans (b24.mono b2.size))
    have cj := CJ2.out W4 W3.heap.size (by rw [hW4]; exact P4)
    have hw3 : w2.alloc (.cells #[.int .u8 1] 5) = W3 := hW3.symm
    have hw4 : W3.alloc (.cells #[.slice a2 TT.length c2, .slice (some ⟨w2.heap.size, 0, none⟩) 1 1] 34) = W4 := hW4.symm
    have HS3 : Hid (W3.heap.size = w2.heap.size + 1) := s3
    clear s2 b2 P3 hW3 b3 P4 hW4 s3 b4 b24 CT CJ2 FT FW FB
    go_wp2_with fail
    try rw [hw3]
    try rw [← HS3.out]
    try rw [hw4]
    clear hw3 hw4
    refine cj.mono ?_
    rintro e w5 ⟨v5, rfl, o5, b5⟩
    clear cj
    have OZ : Hid (Ow w5 w.heap.size v5 Y) := o5.mono B4.out.size
    have BZ : Hid (Below w.heap.size w w5) := B4.out.trans (b5.mono B4.out.size)
    obtain ⟨ja, jc, rfl⟩ := o5.shape
    clear o5 b5
    go_wp2
    go_ret
    exact ⟨_, rfl, OZ.out, BZ.out⟩
end Go.Proofs.YtdnbiibijoggoaaGreatDoor

namespace Go.Proofs.YtdnbiibijoggoaaGreatDoor
open Go.RowKit
set_option maxRecDepth 100000

/-- The bytes of items, one behind the other. -/
def layL (l : List It) : List Int := Fi.numB l.length ++ (l.map layI).flatten
def mput (l : List It) : List Int × Int := if mck l ≠ 0 then ([], mck l) else (layL l, 0)
theorem lay_len (x : It) (h : x.ok) (hp : x.p.size ≤ 1000) : (layI x).length ≤ 2000 := by
  have h1 := textB_len9 x.p
  have h2 := numB_len8 x.n
  unfold layI
  split
  · simp; omega
  · simp [h.1]; omega
theorem lays_len : ∀ (l : List It), (∀ x ∈ l, x.ok) → (∀ x ∈ l, x.p.size ≤ 1000) → (l.map layI).flatten.length ≤ l.length * 2000
  | [], _, _ => by simp
  | x :: l, h, hp => by
    have ih := lays_len l (fun y hy => h y (by simp [hy])) (fun y hy => hp y (by simp [hy]))
    have h1 := lay_len x (h x (by simp)) (hp x (by simp))
    rw [List.map_cons, List.flatten_cons, List.length_append, List.length_cons]
    omega
set_option maxHeartbeats 2000000 in
theorem put_any (v : Value) (l : List It) (w : World) (h : IS w v l) (hl : l.length ≤ 100) (hp : ∀ x ∈ l, x.p.size ≤ 1000) (hw : Wd w) :
    Calls Tryz.prog 12 #[v] w fun e w' => ∃ v', e = .returned (.tuple #[v', .int .i64 (mput l).2]) ∧ Ow w' w.heap.size v' (mput l).1 ∧ Below w.heap.size w w' := by
  have CK := mcheck_any v l w h hl hp hw
  obtain ⟨a, c, rfl, h2, h3, h4⟩ := h.shape
  have HS : Hid (IS w (.slice a l.length c) l) := h
  have HOK : Hid (∀ x ∈ l, x.ok) := h.ok
  have HP : Hid (∀ j, (atI l j).p.size ≤ 1000) := fun j => by
    by_cases hi : j < l.length
    · exact hp _ (atI_mem l j hi)
    · have e : atI l j = it0 := by simp [atI, List.getD, List.getElem?_eq_none (show l.length ≤ j by omega)]
      rw [e]; decide
  have HBIG : Hid ((Fi.numB l.length :: l.map layI).flatten.length ≤ 200000000000000) := by
    unfold Hid
    have h1 := lays_len l h.ok hp
    have h2 := numB_len8 l.length
    rw [List.flatten_cons, List.length_append]
    omega
  have HW : Hid (Wd w) := hw
  have hn := hl
  have HM : Hid (mput l = if mck l ≠ 0 then ([], mck l) else (layL l, 0)) := rfl
  have HY : Hid (layL l = (Fi.numB l.length :: l.map layI).flatten) := by unfold Hid layL; simp
  obtain ⟨n, hn'⟩ : ∃ n, n = l.length := ⟨_, rfl⟩
  have HN : Hid (n = l.length) := hn'
  have CNN : Hid (∀ W, Below w.heap.size w W → Calls Tryz.prog 29 #[.int .i64 (n : Int)] W fun r w' => ∃ v, r = .returned v ∧ Ow w' W.heap.size v (Fi.numB n) ∧ Below W.heap.size W w') := fun W hb => fnum_own n W (hw.kept hb).1.2
  rw [← hn'] at HS h2 hn CK HY HBIG ⊢
  clear h hl h3 h4 hn' hw hp
  generalize mput l = R at *
  generalize mck l = k at *
  generalize layL l = Y at *
  go_enter Tryz.func12, Tryz.ntmps12
  go_wp2_with fail
  refine CK.mono ?_
  rintro e w1 ⟨rfl, b1⟩
  clear CK
  have B1 : Hid (Below w.heap.size w w1) := b1
  clear b1
  by_cases hk : k = 0
  · subst hk
    obtain rfl : R = (Y, 0) := by have := HM.out; simpa using this
    clear HM
    have cn := CNN.out w1 B1.out
    clear CNN
    go_wp2_with fail
    refine cn.mono ?_
    rintro e w2 ⟨v2, rfl, o2, b2⟩
    clear cn
    have B2 : Hid (Below w.heap.size w w2) := B1.out.trans (b2.mono B1.out.size)
    have L3 := LP.one (o2.mono B1.out.size) B2.out.size
    obtain ⟨W3, hW3⟩ : ∃ W3, W3 = w2.alloc (.cells #[v2] 34) := ⟨_, rfl⟩
    rw [← hW3] at L3
    have B3 : Hid (Below w.heap.size w W3) := by unfold Hid; rw [hW3]; exact B2.out.trans ((al_below _ _).mono B2.out.size)
    obtain ⟨na, nc, rfl⟩ := o2.shape
    have HL3 : Hid (LP W3 w.heap.size (.slice (some ⟨w2.heap.size, 0, none⟩) 1 1) (Fi.numB n :: (l.take 0).map layI)) := L3
    have hw3 : w2.alloc (.cells #[.slice na (Fi.numB n).length nc] 34) = W3 := hW3.symm
    clear o2 b2 L3 hW3 B1 B2
    go_wp2_with fail
    try rw [hw3]
    clear hw3
    go_loopw [5, 19] (fun s q wr => ∃ j : Nat, j ≤ n ∧ q = .int .i64 j ∧ LP wr w.heap.size s (Fi.numB n :: (l.take j).map layI) ∧ Below w.heap.size w wr) (fun _ q _ => n - (intOf q).toNat)
    case atStart => exact ⟨0, by omega, rfl, HL3.out, B3.out⟩
    case round =>
      clear HL3 B3
      obtain ⟨j, hj, rfl, oe, bel⟩ := hrel
      have HB : Hid (Below w.heap.size w wr) := bel
      have HO : Hid (LP wr w.heap.size u5 (Fi.numB n :: (l.take j).map layI)) := oe
      have hlj : (Fi.numB n :: (l.take j).map layI).length = j + 1 := by rw [List.length_cons, List.length_map, List.length_take, ← HN.out]; omega
      obtain ⟨va, vc, rfl, -⟩ := oe.parts (by rw [hlj]; omega)
      rw [hlj] at HO ⊢
      clear bel oe
      by_cases hlt : j < n
      · have lt2 : (j : Int) < (n : Int) := by omega
        obtain ⟨b, off, rfl, hr⟩ := (HS.out.kept HB.out).at j (by rw [← HN.out]; exact hlt)
        have hx : (atI l j).ok := It.at l HOK.out j
        have hxp := HP.out j
        have HT : Hid (Fi.numB n :: (l.take (j + 1)).map layI = (Fi.numB n :: (l.take j).map layI) ++ [layI (atI l j)]) := by unfold Hid; rw [takeI_at l j (by rw [← HN.out]; exact hlt)]; simp
        generalize atI l j = x at *
        have RN : Hid (wr.rangeAt b (off + j * 35) x.cells) := hr
        have HZ : Hid ((Tryz.prog.info? 42).map (·.size) = some x.cells.length) := sizeI.trans (by rw [It.len hx])
        have HI : Hid ((Tryz.prog.info? 42).map (·.size) = some x.cells.toArray.size) := It.info x hx
        have HE : Hid (izc.size = x.cells.toArray.size) := izc_size.trans (It.size x hx).symm
        obtain ⟨W1, hW1⟩ : ∃ W1, W1 = wr.alloc (.cells x.cells.toArray 42) := ⟨_, rfl⟩
        have b1 : Below wr.heap.size wr W1 := by rw [hW1]; exact al_below _ _
        have R1 : Hid (W1.rangeAt wr.heap.size 0 x.cells) := by unfold Hid; rw [hW1]; exact (IB.new wr x).range
        have B1 : Hid (Below w.heap.size w W1) := HB.out.trans (b1.mono HB.out.size)
        have CO := lay_any x W1 hx (HW.out.kept B1.out).1 hxp
        have O1 : Hid (LP W1 w.heap.size (.slice va (j + 1) vc) (Fi.numB n :: (l.take j).map layI)) := HO.out.below b1
        have e1 := alloc_it wr x
        rw [← hW1] at e1
        have HE1 : Hid ((wr.alloc (.cells #[.string ⟨#[]⟩, .bool false, .int .i64 0, .int .u8 0, .int .u8 0, .int .u8 0, .int .u8 0, .int .u8 0, .int .u8 0, .int .u8 0, .int .u8 0, .int .u8 0, .int .u8 0, .int .u8 0, .int .u8 0, .int .u8 0, .int .u8 0, .int .u8 0, .int .u8 0, .int .u8 0, .int .u8 0, .int .u8 0, .int .u8 0, .int .u8 0, .int .u8 0, .int .u8 0, .int .u8 0, .int .u8 0, .int .u8 0, .int .u8 0, .int .u8 0, .int .u8 0, .int .u8 0, .int .u8 0, .int .u8 0] 42)).setRow wr.heap.size x.cells.toArray = W1) := e1
        have H1 : Hid (∀ v ∈ x.cells, v.oneCell' = true) := It.one x
        clear b1 HO hr hx e1 hW1 hxp
        generalize Fi.numB n :: (l.take j).map layI = L at *
        have HJ : Hid (L.length = j + 1) := hlj
        clear hlj
        unfold It.val at CO
        generalize layI x = X at *
        generalize x.cells = cs at *
        go_wp2_with (refine wpList_load_mid rfl 42 _ rfl b (off + j * 35) rfl cs _ RN.out Tryz.underlying42 rfl HZ.out (Hid.out ?_))
        unfold Hid
        go_wp2_with (refine wpList_store_row rfl 42 _ _ rfl wr.heap.size cs.toArray rfl rfl 42 izc (new_it wr) HI.out HE.out (all_oneCell_toArray H1.out) (Hid.out ?_))
        unfold Hid
        rw [HE1.out]
        go_wp2_with (refine wpList_load_mid rfl 42 _ rfl wr.heap.size 0 rfl cs _ R1.out Tryz.underlying42 rfl HZ.out (Hid.out ?_))
        unfold Hid
        go_wp2_with fail
        refine CO.mono ?_
        rintro e w2 ⟨u, rfl, o2, b2⟩
        clear CO
        obtain ⟨W3, hW3⟩ : ∃ W3, W3 = w2.alloc (.cells #[u] 34) := ⟨_, rfl⟩
        have b3 : Below w2.heap.size w2 W3 := by rw [hW3]; exact al_below _ _
        have b13 : Below W1.heap.size W1 W3 := b2.trans (b3.mono b2.size)
        have B3 : Hid (Below w.heap.size w W3) := B1.out.trans (b13.mono B1.out.size)
        have L3 : Hid (LP W3 w.heap.size (.slice va (j + 1) vc) L) := O1.out.below b13
        have O3 : Hid (Ow W3 w.heap.size u X) := (o2.mono B1.out.size).below b3
        have K3 : Hid (W3.cell? ⟨w2.heap.size, 0, none⟩ = some u) := by unfold Hid; rw [hW3, World.cell?_alloc_at _ _ _ _ rfl]; rfl
        obtain ⟨ua, uc, rfl⟩ := o2.shape
        have hw3 : w2.alloc (.cells #[.slice ua X.length uc] 34) = W3 := hW3.symm
        have HW3 : Hid (w2.alloc (.cells #[.slice ua X.length uc] 34) = W3) := hW3.symm
        clear o2 b2 b3 b13 O1 hW3 hw3
        generalize X.length = nx at *
        go_wp2_with (at_builtin; rw [HW3.out]; refine wpList_append_lp rfl _ _ rfl w.heap.size _ L rfl L3.out w2.heap.size (.slice ua nx uc) X 1 O3.out rfl K3.out (by rw [HJ.out]; omega) B3.out.size (Hid.out ?_))
        unfold Hid
        intro v4 w4 r4 g4
        have B4 : Hid (Below w.heap.size w w4) := B3.out.trans g4
        have O4 : Hid (LP w4 w.heap.size v4 (Fi.numB n :: (l.take (j + 1)).map layI)) := by
          unfold Hid
          rw [HT.out]
          exact r4
        clear r4 g4 L3 O3 K3
        go_wp2
        go_roundw
        case rel => exact ⟨j + 1, by omega, by go_num, O4.out, B4.out⟩
        case measure => simp [intOf]; omega
      · obtain rfl : j = n := by omega
        have h1 := HO.out
        have h2 : l.take j = l := by rw [HN.out, List.take_length]
        rw [h2] at h1
        obtain ⟨p, c', e, hP⟩ := h1.parts (by rw [List.length_cons, List.length_map, ← HN.out]; omega)
        have cj := fjoin_any p c' _ wr hP HBIG.out
        rw [← HY.out] at cj
        have e2 : (Fi.numB j :: l.map layI).length = j + 1 := by rw [List.length_cons, List.length_map, ← HN.out]
        rw [e2] at cj e
        cases e
        clear h1 h2 hP e2 hlj
        go_wp2_with fail
        refine cj.mono ?_
        rintro e w5 ⟨v5, rfl, o5, b5⟩
        clear cj
        have OZ : Hid (Ow w5 w.heap.size v5 Y) := o5.mono HB.out.size
        have BZ : Hid (Below w.heap.size w w5) := HB.out.trans (b5.mono HB.out.size)
        obtain ⟨ja, jc, rfl⟩ := o5.shape
        clear o5 b5
        go_wp2
        go_ret2
        exact ⟨_, rfl, OZ.out, BZ.out⟩
  · obtain rfl : R = ([], k) := by have := HM.out; rwa [if_pos hk] at this
    have hk2 : (k != 0) = true := by simpa using hk
    go_wp2
    go_ret2
    exact ⟨_, rfl, ⟨World.ownsRow_nil _ _ _ _, fun k => by simp⟩, B1.out⟩
end Go.Proofs.YtdnbiibijoggoaaGreatDoor
