/-
  The names of the families side by side; texts in rows of the call's own; a number laid, a number read.
-/
import Derived.Test.YthhghehnaopmhaaDoorGq
import Derived.Test.YthhghehnaopmhaaDoorAe
import Derived.Test.YthhghehnaopmhaaDoorFiLay
import Derived.Test.YthhghehnaopmhaaDoorFiNums
import Derived.Test.YthhghehnaopmhaaDoorFiNum
namespace Go.Proofs.YthhghehnaopmhaaDoor
open Go.RowKit
set_option maxRecDepth 100000

theorem fsl {w : World} {v : Value} {xs : List Int} (h : Sl w v xs) : Fi.Sl w v xs := h
theorem slf {w : World} {v : Value} {xs : List Int} (h : Fi.Sl w v xs) : Sl w v xs := h
/-- Bytes in a row of the call's own. -/
def Ow (w : World) (B : Nat) (v : Value) (X : List Int) : Prop := w.ownsRow B 5 1 v X.length (X.map (Value.int .u8)) ∧ ∀ k, 0 ≤ X.getD k 0 ∧ X.getD k 0 < 256
theorem Ow.sl {w : World} {B : Nat} {v : Value} {X : List Int} (h : Ow w B v X) : Sl w v X := sl_owned h.1 h.2
theorem Ow.below {w w' : World} {B : Nat} {v : Value} {X : List Int} (h : Ow w B v X) (hb : Below w.heap.size w w') : Ow w' B v X := ⟨own_below h.1 hb, h.2⟩
theorem Ow.mono {w : World} {B B' : Nat} {v : Value} {X : List Int} (h : Ow w B v X) (hb : B' ≤ B) : Ow w B' v X := ⟨own_mono h.1 hb, h.2⟩
theorem Ow.shape {w : World} {B : Nat} {v : Value} {X : List Int} (h : Ow w B v X) : ∃ a c, v = .slice a X.length c := own_shape h.1
/-- A list of texts. -/
def LP (w : World) (B : Nat) (v : Value) (ZZ : List (List Int)) : Prop :=
  ∃ V : List Value, w.ownsRow B 25 1 v ZZ.length V ∧ ∀ i, i < ZZ.length → ∃ u, V[i]? = some u ∧ Ow w B u (ZZ.getD i [])
theorem LP.below {w w' : World} {B : Nat} {v : Value} {ZZ : List (List Int)} (h : LP w B v ZZ) (hb : Below w.heap.size w w') : LP w' B v ZZ := by
  obtain ⟨V, h1, h2⟩ := h
  refine ⟨V, own_below h1 hb, fun i hi => ?_⟩
  obtain ⟨u, h3, h4⟩ := h2 i hi
  exact ⟨u, h3, h4.below hb⟩
theorem LP.parts {w : World} {B : Nat} {v : Value} {ZZ : List (List Int)} (h : LP w B v ZZ) (hm : ZZ.length ≤ 100000) : ∃ p c, v = .slice p ZZ.length c ∧ Fi.Parts w p ZZ := by
  obtain ⟨V, ho, h⟩ := h
  have ho' := ho
  rcases ho.2 with ⟨rfl, h0⟩ | ⟨g, cap, cur, rfl, _⟩
  · exact ⟨none, 0, by rw [h0], by omega, .inl (List.length_eq_zero_iff.1 h0)⟩
  · refine ⟨_, cap, rfl, by omega, .inr ⟨g, 0, rfl, fun i hi => ?_⟩⟩
    obtain ⟨u, hu, sl⟩ := h i hi
    refine ⟨u, ?_, fsl sl.sl⟩
    have := ho'.cells (g := g) rfl i u hu
    rwa [Addr.add_lit] at this
theorem LP.one {w : World} {B : Nat} {u : Value} {X : List Int} (h : Ow w B u X) (hB : B ≤ w.heap.size) : LP (w.alloc (.cells #[u] 25)) B (.slice (some ⟨w.heap.size, 0, none⟩) 1 1) [X] := by
  refine ⟨[u], ⟨rfl, .inr ⟨w.heap.size, 1, #[u], rfl, hB, heap_alloc_new _ _, Nat.le_refl _, by unfold maxLen; omega, rfl, rfl⟩⟩, fun i hi => ?_⟩
  obtain rfl : i = 0 := by simpa using hi
  exact ⟨u, rfl, h.below (al_below _ _)⟩
theorem infoB : (Tryd.prog.info? 25).map (fun i => (i.zero, i.size, i.bytes)) = some (some (.slice none 0 0), 1, 24) := by kernel_rfl
/-- A text laid behind. -/
theorem wpList_append_lp {w : World} {ops : Array Oper} {rest : List Oper} {o : Oper} {a : Act} {Q : Exit → Act → World → Prop} (hgd : o.guard = none) (s x : Operand)
    (ho : o.op = .call { callee := .builtin .append, args := #[s, x], argTypes := #[87, 87] })
    (B : Nat) (v : Value) (ZZ : List (List Int)) (hs : a.eval s = v) (hown : LP w B v ZZ) (g : Nat) (u : Value) (X : List Int) (cap : Nat) (hX : Ow w B u X)
    (hx : a.eval x = .slice (some ⟨g, 0, none⟩) 1 cap) (hc : w.cell? ⟨g, 0, none⟩ = some u) (hbig : ZZ.length ≤ 100000) (hbase : B ≤ w.heap.size)
    (h : ∀ v' w', LP w' B v' (ZZ ++ [X]) → Below B w w' → wpList Tryd.prog ops Q rest (a.put o.dst v') w') : wpList Tryd.prog ops Q (o :: rest) a w := by
  obtain ⟨i0, hi, hz0, hz1, hz2⟩ := info_parts infoB
  obtain ⟨V, hV, hall⟩ := hown
  refine wpList_append_own_wide w hgd s x 87 ho B 25 i0 (.slice none 0 0) 1 24 Tryd.underlying87 hi hz0 hz1 hz2 rfl (by decide) v ZZ.length V hs hV ⟨g, 0, none⟩ 1 cap [u] hx rfl ?_ ?_ (by unfold maxLen; omega) (by omega) hbase ?_
  · intro j z hj
    rw [Addr.add_lit]
    cases j with
    | zero => simp at hj; subst hj; exact hc
    | succ j => simp at hj
  · intro z hz
    simp at hz
    subst hz
    obtain ⟨_, _, rfl⟩ := hX.shape
    rfl
  · intro v' w' ho' hg _
    have ap : ∀ {y : Value} {Y : List Int}, Ow w B y Y → Ow w' B y Y := fun hy => ⟨own_apart hV hy.1 (by decide) hg, hy.2⟩
    have hVl : V.length = ZZ.length := by have := hV.1; simpa using this
    refine h v' w' ⟨V ++ [u], by rw [List.length_append]; exact ho', fun i hi => ?_⟩ ((Below.refl B w).grown hg hbase (own_base hV))
    rw [List.length_append, List.length_singleton] at hi
    rcases Nat.lt_or_ge i ZZ.length with h' | h'
    · obtain ⟨z, hz, oz⟩ := hall i h'
      refine ⟨z, by rw [List.getElem?_append_left (by omega)]; exact hz, ?_⟩
      have e : (ZZ ++ [X]).getD i [] = ZZ.getD i [] := by simp [List.getD, List.getElem?_append_left h']
      rw [e]
      exact ap oz
    · obtain rfl : i = ZZ.length := by omega
      refine ⟨u, by rw [List.getElem?_append_right (by omega), hVl]; simp, ?_⟩
      have e : (ZZ ++ [X]).getD ZZ.length [] = X := by simp [List.getD]
      rw [e]
      exact ap hX
/-- Values that are slices, in a row, as parts. -/
theorem partsL {w : World} (us : List Value) (XX : List (List Int)) (hl : XX.length ≤ 100000) (h : ∀ i, i < XX.length → ∃ u, us[i]? = some u ∧ Sl w u (XX.getD i [])) : Fi.Parts (w.alloc (.cells us.toArray 25)) (some ⟨w.heap.size, 0, none⟩) XX := by
  refine ⟨by omega, .inr ⟨w.heap.size, 0, rfl, fun i hi => ?_⟩⟩
  obtain ⟨u, hu, su⟩ := h i hi
  refine ⟨u, ?_, fsl (su.kept (al_below _ _))⟩
  rw [World.cell?_alloc_at _ _ _ _ rfl]
  simpa using hu
theorem fparts_kept {w w' : World} {p : Option Addr} {ZZ : List (List Int)} (h : Fi.Parts w p ZZ) (hb : Below w.heap.size w w') : Fi.Parts w' p ZZ := by
  refine ⟨h.1, ?_⟩
  rcases h.2 with h | ⟨b, off, e, h⟩
  · exact .inl h
  · refine .inr ⟨b, off, e, fun i hi => ?_⟩
    obtain ⟨v, h1, h2⟩ := h i hi
    exact ⟨v, (hb.cell (World.block_lt_of_cell? _ _ h1)).trans h1, h2.kept hb⟩
theorem parts_bytes {w : World} {p : Option Addr} {ZZ : List (List Int)} (h : Fi.Parts w p ZZ) : ∀ i, 0 ≤ ZZ.flatten.getD i 0 ∧ ZZ.flatten.getD i 0 < 256 := by
  refine bytes_flat ZZ fun X hX => ?_
  obtain ⟨i, hi, rfl⟩ := List.getElem_of_mem hX
  rcases h.2 with h | ⟨b, off, e, h⟩
  · subst h; simp at hi
  · obtain ⟨v, _, s⟩ := h i hi
    have := (slf s).bytes
    simpa [List.getD, List.getElem?_eq_getElem hi] using this
theorem fjoin_any (p : Option Addr) (kc : Nat) (ZZ : List (List Int)) (w : World) (hP : Fi.Parts w p ZZ) (hbig : ZZ.flatten.length ≤ 200000000000000) :
    Calls Tryd.prog 34 #[.slice p ZZ.length kc] w fun r w' => ∃ v, r = .returned v ∧ Ow w' w.heap.size v ZZ.flatten ∧ Below w.heap.size w w' :=
  (Fi.join_any p kc ZZ w hP hbig).mono fun _ _ ⟨v, e1, o, b⟩ => ⟨v, e1, ⟨o, parts_bytes hP⟩, b⟩
set_option maxHeartbeats 1000000 in
theorem fnum_own (n : Int) (w : World) (hw : Fi.Wid w) :
    Calls Tryd.prog 30 #[.int .i64 n] w fun r w' => ∃ v, r = .returned v ∧ Ow w' w.heap.size v (Fi.numB n) ∧ Below w.heap.size w w' := by
  by_cases h0 : Fi.lenOf n = 0
  · have hn : Fi.numB n = [] := by unfold Fi.numB; rw [if_pos h0]
    rw [hn]
    have c := Fi.put_no n w hw h0
    clear hn h0
    go_enter Tryd.func30, Tryd.ntmps30
    go_wp2_with (go_at_call 49; refine c.mono ?_; rintro e w' ⟨rfl, rfl⟩)
    go_ret
    exact ⟨_, rfl, ⟨World.ownsRow_nil _ _ _ _, fun k => by simp⟩, Below.refl _ _⟩
  · obtain ⟨W, hW, hW0, hI, h1, h2, hn⟩ := Fi.pos_lim n h0
    have c := Fi.put_ok n W w hw hW hW0
    have hl := Fi.pb_len n W hI
    have hW8 : W ≤ 8 := by rcases hI with rfl | rfl | rfl | rfl <;> omega
    have HS : Hid (Ow (w.alloc (.cells (Fi.pbA n W) 5)) w.heap.size (.slice (some ⟨w.heap.size, 0, none⟩) W W) (Fi.numB n)) := by
      unfold Hid
      rw [hn]
      refine ⟨?_, Fi.pb_bytes n W hI h1 h2⟩
      rw [hl]
      refine ⟨by simp [hl], .inr ⟨w.heap.size, W, Fi.pbA n W, rfl, Nat.le_refl _, heap_alloc_new _ _, Nat.le_refl _, by unfold maxLen; omega, by unfold Fi.pbA; simp [hl], by unfold Fi.pbA; simp; exact List.take_of_length_le (by simp [hl])⟩⟩
    clear hn hl h0 hW hW0
    go_enter Tryd.func30, Tryd.ntmps30
    go_wp2_with (go_at_call 49; refine c.mono ?_; rintro e w' ⟨rfl, rfl⟩)
    go_ret
    exact ⟨_, rfl, HS.out, (Below.refl _ _).alloc (Nat.le_refl _) _⟩
theorem rdNum (g s : Nat) (xs : List Int) (e m : Int) (w : World) (hw : Fi.Wid w) (h : Fi.Rd w g s xs e) :
    Calls Tryd.prog 39 #[.pointer (some ⟨g, 0, none⟩), .int .i64 m] w fun r w' => r = .returned (.int .i64 (rN xs e m).1) ∧ Fi.Rd w' g s (rN xs e m).2.1 (rN xs e m).2.2 ∧ Fi.Off g w w' := by
  unfold rN
  split
  · rename_i he
    subst he
    exact Fi.num_any g s xs m w hw h
  · rename_i he
    refine (Fi.num_stop g s xs e m w h he).mono ?_
    rintro r w' ⟨rfl, rfl⟩
    exact ⟨rfl, h, Fi.Off.refl _ _⟩
theorem Rd.setRow {w : World} {g s k : Nat} {xs : List Int} {e : Int} (h : Fi.Rd w g s xs e) (hg : k ≠ g) (hs : k ≠ s) (cs : Array Value) : Fi.Rd (w.setRow k cs) g s xs e := by
  have hb : Fi.Off k w (w.setRow k cs) := ⟨rfl, rfl, rfl, by simp, fun j hj => setRow_other w k j cs hj⟩
  exact h.off hb (fun e => hg e.symm) (fun e => hs e.symm)
theorem Rd.lt {w : World} {g s : Nat} {xs : List Int} {e : Int} (h : Fi.Rd w g s xs e) : g < w.heap.size := by
  obtain ⟨a, cap, c0, _⟩ := h
  exact World.block_lt_of_cell? _ _ c0
end Go.Proofs.YthhghehnaopmhaaDoor
