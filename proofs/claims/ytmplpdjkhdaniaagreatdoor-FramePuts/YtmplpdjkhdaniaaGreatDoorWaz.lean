/-
  Spans of one's own; what build makes.
  Parts one behind the other, whatever memory they lie in.
-/
import Derived.Deep.AppendSrc
import Derived.Test.YtmplpdjkhdaniaaGreatDoorWav
import Derived.Test.YtmplpdjkhdaniaaGreatDoorWai
import Derived.Test.YtmplpdjkhdaniaaGreatDoorWay
namespace Go.Proofs.YtmplpdjkhdaniaaGreatDoor
open Go.RowKit
set_option maxRecDepth 100000

theorem is_flat {k : Nat} {w : World} {b off n c : Nat} {L : List (List Value)} (h : IS k w (.slice (some ⟨b, off, none⟩) n c) L) (hk : 0 < k) : ∀ j u, L.flatten[j]? = some u → w.cell? ((⟨b, off, none⟩ : Addr).add j) = some u := fun j u hj => by
  have hl : j < L.length * k := by rw [← h.cl.flat]; exact (List.getElem?_eq_some_iff.1 hj).1
  have hi : j / k < L.length := (Nat.div_lt_iff_lt_mul hk).2 hl
  have hm : j % k < k := Nat.mod_lt _ hk
  have hcl := (h.cl _ (atC_mem L _ hi)).1
  obtain ⟨v, hv⟩ : ∃ v, (atC L (j / k))[j % k]? = some v := ⟨(atC L (j / k))[j % k]'(by rw [hcl]; exact hm), List.getElem?_eq_getElem _⟩
  have e := h.cl.get hi hv
  rw [Nat.div_add_mod' j k, hj] at e
  cases e
  obtain ⟨b', off', e', hr⟩ := h.at _ hi
  cases e'
  have q := hr _ _ hv
  rw [Addr.add_lit]
  rwa [Nat.add_assoc, Nat.div_add_mod' j k] at q
theorem infoSp : (Tryz.prog.info? 89).map (fun i => (i.zero, i.size, i.bytes)) = some (some (.agg #[.int .i64 0, .int .i64 0]), 2, 16) := by kernel_rfl
set_option maxHeartbeats 1000000 in
theorem ownSpans_any (w : World) (v : Value) (l : List Sp) (h : SSp w v l) (hl : l.length ≤ 100000) :
    Calls Tryz.prog 37 #[v] w fun e w' => ∃ v', e = .returned v' ∧ RSp w' w.heap.size v' l ∧ Below w.heap.size w w' := by
  obtain ⟨a, c, rfl, h1, h2, h3⟩ := h.shape
  obtain ⟨i0, hi, hz0, hz1, hz2⟩ := info_parts infoSp
  have h0 : RSp w w.heap.size (.slice none 0 0) [] := RI.nil _ _ _ _
  cases a with
  | none =>
    obtain rfl : c = 0 := h3 rfl
    obtain rfl : l = [] := List.length_eq_zero_iff.1 (by omega)
    clear h hi hz0 hz1 hz2
    go_enter Tryz.func37, Tryz.ntmps37
    go_wp2
    go_ret
    exact ⟨_, rfl, h0, Below.refl _ _⟩
  | some x =>
    obtain ⟨b, off, sp⟩ := x
    have hsp : l ≠ [] → sp = none := fun hn => by
      obtain ⟨b', off', e, -⟩ := SSp.at h 0 (List.length_pos_iff.2 hn)
      cases e
      rfl
    have hcl : ((l.map spc).flatten).length = l.length * 2 := by rw [(spc_cl l).flat, List.length_map]
    have hc : ∀ j u, (l.map spc).flatten[j]? = some u → w.cell? ((⟨b, off, sp⟩ : Addr).add j) = some u := fun j u hj => by
      have hn : l ≠ [] := fun e => by rw [e] at hj; simp at hj
      obtain rfl := hsp hn
      exact is_flat h (by omega) j u hj
    have HO : Hid (∀ v' w', w'.ownsRow w.heap.size 89 2 v' (0 + l.length) ([] ++ (l.map spc).flatten) → RSp w' w.heap.size v' l) := fun v' w' ho => ⟨by rw [Nat.zero_add, List.nil_append] at ho; rw [List.length_map]; exact ho, spc_cl l⟩
    have h1' := (spc_cl l).ones
    have HO2 : Hid (∀ v' w', w'.ownsRow w.heap.size 89 2 v' l.length (l.map spc).flatten → RSp w' w.heap.size v' l) := fun v' w' ho => HO.out v' w' (by rw [Nat.zero_add, List.nil_append]; exact ho)
    clear HO
    generalize (l.map spc).flatten = F at *
    generalize l.length = n at *
    go_enter Tryz.func37, Tryz.ntmps37
    go_wp2_with (at_builtin; refine wpList_append_own_wide w rfl _ _ 23 rfl w.heap.size 89 i0 _ 2 16 Tryz.underlying23 hi hz0 hz1 hz2 rfl (by decide) _ 0 [] rfl (World.ownsRow_nil _ _ _ _) ⟨b, off, sp⟩ n c F rfl hcl hc h1' (by unfold maxLen; omega) (by omega) (Nat.le_refl _) (Hid.out ?_))
    unfold Hid
    intro v' w' ho hg hx
    go_wp2
    go_ret
    exact ⟨_, rfl, HO2.out _ _ ho, (Below.refl _ _).grown hg (Nat.le_refl _) (fun k e => by cases e)⟩
/-- The value of a frame, its Spans being some slice. -/
def frV (p : Fm) (sv : Value) : Value :=
  if p.k = 1 then .iface 69 (.agg #[])
  else if p.k = 2 then .iface 72 (.agg #[.int .i64 p.n, sv])
  else if p.k = 3 then .iface 42 (.agg #[.int .i64 p.id, .int .i64 p.n, .bool p.fin, .string p.tx])
  else if p.k = 4 then .iface 74 (.agg #[.int .i64 p.id, .int .i64 p.cd, .int .i64 p.n])
  else if p.k = 5 then .iface 76 (.agg #[.int .i64 p.id, .int .i64 p.cd])
  else if p.k = 6 then .iface 78 (.agg #[.int .i64 p.n])
  else if p.k = 7 then .iface 80 (.agg #[.int .i64 p.id, .int .i64 p.n])
  else if p.k = 8 then .iface 81 (.agg #[.int .i64 p.n])
  else if p.k = 9 then .iface 83 (.agg (p.nc.map (Value.int .u8) ++ [Value.string p.tx]).toArray)
  else if p.k = 10 then .iface 85 (.agg #[.int .i64 p.cd, .string p.tx])
  else .nilIface
end Go.Proofs.YtmplpdjkhdaniaaGreatDoor
namespace Go.Proofs.YtmplpdjkhdaniaaGreatDoor
open Go.RowKit Go.Shelf
set_option maxRecDepth 100000

/-- A part: a slice of bytes whose memory is no list of parts. -/
def Pt (w : World) (u : Value) (X : List Int) : Prop := Sl w u X ∧ ∀ k, rowB u = some k → ∃ cs t fr, w.heap[k]? = some (.cells cs t fr) ∧ t ≠ 34
theorem sl_heap {w w' : World} {u : Value} {X : List Int} (h : Sl w u X) (hk : ∀ k, rowB u = some k → w'.heap[k]? = w.heap[k]?) : Sl w' u X := by
  obtain ⟨a, c, rfl, h1, h2, h3, h4⟩ := h
  refine ⟨a, c, rfl, h1, h2, h3, ?_⟩
  rcases h4 with h4 | ⟨hp, b, off, rfl, q1, q2, q3, q4⟩
  · exact .inl h4
  · exact .inr ⟨hp, b, off, rfl, q1, q2, fun i hi => (World.cell?_of_block (a := ⟨b, off + i, none⟩) (hk b rfl)).trans (q3 i hi), q4⟩
theorem Pt.below {w w' : World} {u : Value} {X : List Int} (h : Pt w u X) (hb : Below w.heap.size w w') : Pt w' u X :=
  ⟨h.1.kept hb, fun k hk => by
    obtain ⟨cs, t, fr, h1, h2⟩ := h.2 k hk
    exact ⟨cs, t, fr, blk_kept h1 hb (blk_lt h1), h2⟩⟩
theorem Pt.ow {w : World} {B : Nat} {u : Value} {X : List Int} (h : Ow w B u X) : Pt w u X := by
  refine ⟨h.sl, fun k hk => ?_⟩
  rcases h.1.2 with ⟨rfl, _⟩ | ⟨g, cap, cur, rfl, _, hh, _⟩
  · cases hk
  · obtain rfl : g = k := by simpa [rowB] using hk
    exact ⟨_, _, _, hh, by decide⟩
/-- A list of parts in a row of the call's own. -/
def LQ (w : World) (B : Nat) (v : Value) (ZZ : List (List Int)) : Prop :=
  ∃ V : List Value, w.ownsRow B 34 1 v ZZ.length V ∧ ∀ i, i < ZZ.length → ∃ u, V[i]? = some u ∧ Pt w u (ZZ.getD i [])
theorem LQ.below {w w' : World} {B : Nat} {v : Value} {ZZ : List (List Int)} (h : LQ w B v ZZ) (hb : Below w.heap.size w w') : LQ w' B v ZZ := by
  obtain ⟨V, h1, h2⟩ := h
  refine ⟨V, own_below h1 hb, fun i hi => ?_⟩
  obtain ⟨u, h3, h4⟩ := h2 i hi
  exact ⟨u, h3, h4.below hb⟩
theorem LQ.parts {w : World} {B : Nat} {v : Value} {ZZ : List (List Int)} (h : LQ w B v ZZ) (hm : ZZ.length ≤ 100000) : ∃ p c, v = .slice p ZZ.length c ∧ Fi.Parts w p ZZ := by
  obtain ⟨V, ho, h⟩ := h
  have ho' := ho
  rcases ho.2 with ⟨rfl, h0⟩ | ⟨g, cap, cur, rfl, _⟩
  · exact ⟨none, 0, by rw [h0], by omega, .inl (List.length_eq_zero_iff.1 h0)⟩
  · refine ⟨_, cap, rfl, by omega, .inr ⟨g, 0, rfl, fun i hi => ?_⟩⟩
    obtain ⟨u, hu, sl⟩ := h i hi
    refine ⟨u, ?_, fsl sl.1⟩
    have := ho'.cells (g := g) rfl i u hu
    rwa [Addr.add_lit] at this
theorem LQ.one {w : World} {B : Nat} {u : Value} {X : List Int} (h : Pt w u X) (hB : B ≤ w.heap.size) : LQ (w.alloc (.cells #[u] 34)) B (.slice (some ⟨w.heap.size, 0, none⟩) 1 1) [X] := by
  refine ⟨[u], ⟨rfl, .inr ⟨w.heap.size, 1, #[u], rfl, hB, heap_alloc_new _ _, Nat.le_refl _, by unfold maxLen; omega, rfl, rfl⟩⟩, fun i hi => ?_⟩
  obtain rfl : i = 0 := by simpa using hi
  exact ⟨u, rfl, h.below (al_below _ _)⟩
/-- One byte, alone. -/
theorem Pt.byte (w : World) (b : Int) (h : 0 ≤ b ∧ b < 256) : Pt (w.alloc (.cells #[.int .u8 b] 5)) (.slice (some ⟨w.heap.size, 0, none⟩) 1 1) [b] := by
  refine ⟨⟨_, 1, rfl, Nat.le_refl _, by unfold maxLen; omega, fun e => (by cases e), .inr ⟨Nat.one_pos, w.heap.size, 0, rfl, Nat.le_refl _, by unfold maxLen; omega, fun i hi => ?_, fun i => ?_⟩⟩, fun k hk => ?_⟩
  · obtain rfl : i = 0 := by simpa using hi
    rw [World.cell?_alloc_at _ _ _ _ rfl]
    rfl
  · cases i with
    | zero => simpa using h
    | succ i => simp
  · obtain rfl : w.heap.size = k := by simpa [rowB] using hk
    exact ⟨_, _, _, heap_alloc_new _ _, by decide⟩
/-- Bytes in the midst of a plain form. -/
theorem Pt.nonce {w : World} {g : Nat} {p : Fm} {sv : Value} (h : PF w g 33 p sv) (hn : p.nc.length = 16) (hb : ∀ i, 0 ≤ p.nc.getD i 0 ∧ p.nc.getD i 0 < 256) : Pt w (.slice (some ⟨g, 6, none⟩) 16 16) p.nc := by
  refine ⟨sl_range (h.pc hn).nc hb hn.symm (Nat.le_refl _) (by unfold maxLen; omega), fun k hk => ?_⟩
  obtain rfl : g = k := by simpa [rowB] using hk
  exact ⟨_, _, _, h, by decide⟩
/-- A part laid behind. -/
theorem wpList_append_lq {w : World} {ops : Array Oper} {rest : List Oper} {o : Oper} {a : Act} {Q : Exit → Act → World → Prop} (hgd : o.guard = none) (s x : Operand)
    (ho : o.op = .call { callee := .builtin .append, args := #[s, x], argTypes := #[96, 96] })
    (B : Nat) (v : Value) (ZZ : List (List Int)) (hs : a.eval s = v) (hown : LQ w B v ZZ) (g : Nat) (u : Value) (X : List Int) (cap : Nat) (hX : Pt w u X)
    (hx : a.eval x = .slice (some ⟨g, 0, none⟩) 1 cap) (hc : w.cell? ⟨g, 0, none⟩ = some u) (hbig : ZZ.length ≤ 100000) (hbase : B ≤ w.heap.size)
    (h : ∀ v' w', LQ w' B v' (ZZ ++ [X]) → Below B w w' → wpList Tryz.prog ops Q rest (a.put o.dst v') w') : wpList Tryz.prog ops Q (o :: rest) a w := by
  obtain ⟨i0, hi, hz0, hz1, hz2⟩ := info_parts infoB
  obtain ⟨V, hV, hall⟩ := hown
  refine wpList_append_own_wide w hgd s x 96 ho B 34 i0 (.slice none 0 0) 1 24 Tryz.underlying96 hi hz0 hz1 hz2 rfl (by decide) v ZZ.length V hs hV ⟨g, 0, none⟩ 1 cap [u] hx rfl ?_ ?_ (by unfold maxLen; omega) (by omega) hbase ?_
  · intro j z hj
    rw [Addr.add_lit]
    cases j with
    | zero => simp at hj; subst hj; exact hc
    | succ j => simp at hj
  · intro z hz
    simp at hz
    subst hz
    obtain ⟨_, _, rfl, -⟩ := hX.1
    rfl
  · intro v' w' ho' hg _
    have ap : ∀ {y : Value} {Y : List Int}, Pt w y Y → Pt w' y Y := fun {y Y} hy => by
      have key : ∀ k, rowB y = some k → w'.heap[k]? = w.heap[k]? := fun k hk => by
        obtain ⟨cs, t, fr, h1, h2⟩ := hy.2 k hk
        refine hg.block k (blk_lt h1) (fun e => ?_)
        rcases hV.2 with ⟨rfl, _⟩ | ⟨g', cap', cur, rfl, _, hh, _⟩
        · cases e
        · cases e
          rw [hh] at h1
          cases h1
          exact h2 rfl
      exact ⟨sl_heap hy.1 key, fun k hk => by
        obtain ⟨cs, t, fr, h1, h2⟩ := hy.2 k hk
        exact ⟨cs, t, fr, (key k hk).trans h1, h2⟩⟩
    have hVl : V.length = ZZ.length := by have := hV.1; simpa using this
    refine h v' w' ⟨V ++ [u], by rw [List.length_append]; exact ho', fun i hi => ?_⟩ ((Below.refl B w).grown hg hbase (own_base hV))
    rw [List.length_append, List.length_singleton] at hi
    rcases Nat.lt_or_ge i ZZ.length with h' | h'
    · obtain ⟨z, hz, oz⟩ := hall i h'
      refine ⟨z, by rw [List.getElem?_append_left (by omega)]; exact hz, ?_⟩
      have e : (ZZ ++ [X]).getD i [] = ZZ.getD i [] := by simp [List.getD, List.getElem?_append_left h']
      rw [e]
      exact ap oz
    · obtain rfl : i = ZZ.length := by omega
      refine ⟨u, by rw [List.getElem?_append_right (by omega), hVl]; simp, ?_⟩
      have e : (ZZ ++ [X]).getD ZZ.length [] = X := by simp [List.getD]
      rw [e]
      exact ap hX
theorem ssp_row {w : World} {v : Value} {l : List Sp} (h : SSp w v l) (hn : l ≠ []) : ∀ k, rowB v = some k → k < w.heap.size := fun k hk => by
  obtain ⟨a, c, rfl, -, -, -⟩ := h.shape
  obtain ⟨b, off, rfl, hr⟩ := h.at 0 (List.length_pos_iff.2 hn)
  obtain rfl : b = k := by simpa [rowB] using hk
  exact World.block_lt_of_cell? _ _ (spC hr).1
set_option maxHeartbeats 1000000 in
theorem ftext_ow (s : ByteArray) (w : World) (hw : Fi.Wid w) (hs : s.size ≤ 140737488355328) :
    Calls Tryz.prog 46 #[.string s] w fun r w' => ∃ v, r = .returned v ∧ Ow w' w.heap.size v (Fi.textB s) ∧ Below w.heap.size w w' := by
  have c1 := Fi.fnum_any s.size w hw
  have hlen : (Fi.textB s).length ≤ 200000000000000 := by
    have := (Fi.textB_len s).1
    omega
  go_enter Tryz.func46, Tryz.ntmps46
  go_wp2_with fail
  refine c1.mono ?_
  rintro e w1 ⟨v1, rfl, sl1, bel1⟩
  obtain ⟨a2, cap2, w2, cv, sl2, bel2⟩ := Fi.conv_str s w1 (by omega)
  have hP : ∀ u1 u2, Fi.Sl w2 u1 (Fi.numB s.size) → Fi.Sl w2 u2 (Fi.sb s) → Fi.Parts (w2.alloc (.cells #[u1, u2] 34)) (some ⟨w2.heap.size, 0, none⟩) [Fi.numB s.size, Fi.sb s] := fun u1 u2 s1 s2 => Fi.parts2 w2 u1 u2 _ _ s1 s2
  have sl1' := sl1.kept bel2
  obtain ⟨a1, cap1, rfl, _⟩ := sl1
  have cj := fjoin_any _ 2 _ _ (hP _ _ sl1' sl2) (by simpa [Fi.textB] using hlen)
  have hfl : [Fi.numB s.size, Fi.sb s].flatten = Fi.textB s := by simp [Fi.textB]
  rw [hfl] at cj
  have hb12 := bel1.trans (bel2.mono bel1.size)
  have HB3 : Hid (Below w.heap.size w (w2.alloc (.cells #[.slice a1 (Fi.numB s.size).length cap1, .slice (some a2) s.size cap2] 34))) := hb12.alloc hb12.size _
  clear hP sl1' sl2 c1 hfl hlen
  simp only [List.length_cons, List.length_nil] at cj
  generalize (Fi.numB s.size).length = L1 at *
  obtain ⟨TB, hTB⟩ : ∃ TB, TB = Fi.textB s := ⟨_, rfl⟩
  have HTB : Hid (TB = Fi.textB s) := hTB
  rw [← hTB] at cj
  clear hTB
  clear bel1 bel2 hb12
  go_wp2_with (go_at_call 48; refine cj.mono ?_; rintro e w3 ⟨v3, rfl, own3, bel3⟩)
  go_ret
  exact ⟨v3, rfl, by rw [← HTB.out]; exact own3.mono HB3.out.size, HB3.out.trans (bel3.mono HB3.out.size)⟩
end Go.Proofs.YtmplpdjkhdaniaaGreatDoor
