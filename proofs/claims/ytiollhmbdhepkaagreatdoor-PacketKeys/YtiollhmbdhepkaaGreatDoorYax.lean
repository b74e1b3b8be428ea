/-
  Spans of one's own; what build makes.
  Parts one behind the other, whatever memory they lie in.
  What lay lays.
-/
import Derived.Deep.AppendSrc
import Derived.Test.YtiollhmbdhepkaaGreatDoorYav
import Derived.Test.YtiollhmbdhepkaaGreatDoorYaw
import Derived.Test.YtiollhmbdhepkaaGreatDoorYag
namespace Go.Proofs.YtiollhmbdhepkaaGreatDoor
open Go.RowKit
set_option maxRecDepth 100000

theorem is_flat {k : Nat} {w : World} {b off n c : Nat} {L : List (List Value)} (h : IS k w (.slice (some ⟨b, off, none⟩) n c) L) (hk : 0 < k) : ∀ j u, L.flatten[j]? = some u → w.cell? ((⟨b, off, none⟩ : Addr).add j) = some u := fun j u hj => by
  have hl : j < L.length * k := by rw [← h.cl.flat]; exact (List.getElem?_eq_some_iff.1 hj).1
  have hi : j / k < L.length := (Nat.div_lt_iff_lt_mul hk).2 hl
  have hm : j % k < k := Nat.mod_lt _ hk
  have hcl := (h.cl _ (atC_mem L _ hi)).1
  obtain ⟨v, hv⟩ : ∃ v, (atC L (j / k))[j % k]? = some v := ⟨(atC L (j / k))[j % k]'(by rw [hcl]; exact hm), List.getElem?_eq_getElem _⟩
  have e := h.cl.get hi hv
  rw [Nat.div_add_mod' j k, hj] at e
  cases e
  obtain ⟨b', off', e', hr⟩ := h.at _ hi
  cases e'
  have q := hr _ _ hv
  rw [Addr.add_lit]
  rwa [Nat.add_assoc, Nat.div_add_mod' j k] at q
theorem infoSp : (Tryz.prog.info? 131).map (fun i => (i.zero, i.size, i.bytes)) = some (some (.agg #[.int .i64 0, .int .i64 0]), 2, 16) := by kernel_rfl
set_option maxHeartbeats 1000000 in
theorem ownSpans_any (w : World) (v : Value) (l : List Sp) (h : SSp w v l) (hl : l.length ≤ 100000) :
    Calls Tryz.prog 70 #[v] w fun e w' => ∃ v', e = .returned v' ∧ RSp w' w.heap.size v' l ∧ Below w.heap.size w w' := by
  obtain ⟨a, c, rfl, h1, h2, h3⟩ := h.shape
  obtain ⟨i0, hi, hz0, hz1, hz2⟩ := info_parts infoSp
  have h0 : RSp w w.heap.size (.slice none 0 0) [] := RI.nil _ _ _ _
  cases a with
  | none =>
    obtain rfl : c = 0 := h3 rfl
    obtain rfl : l = [] := List.length_eq_zero_iff.1 (by omega)
    clear h hi hz0 hz1 hz2
    go_enter Tryz.func70, Tryz.ntmps70
    go_wp2
    go_ret
    exact ⟨_, rfl, h0, Below.refl _ _⟩
  | some x =>
    obtain ⟨b, off, sp⟩ := x
    have hsp : l ≠ [] → sp = none := fun hn => by
      obtain ⟨b', off', e, -⟩ := SSp.at h 0 (List.length_pos_iff.2 hn)
      cases e
      rfl
    have hcl : ((l.map spc).flatten).length = l.length * 2 := by rw [(spc_cl l).flat, List.length_map]
    have hc : ∀ j u, (l.map spc).flatten[j]? = some u → w.cell? ((⟨b, off, sp⟩ : Addr).add j) = some u := fun j u hj => by
      have hn : l ≠ [] := fun e => by rw [e] at hj; simp at hj
      obtain rfl := hsp hn
      exact is_flat h (by omega) j u hj
    have HO : Hid (∀ v' w', w'.ownsRow w.heap.size 131 2 v' (0 + l.length) ([] ++ (l.map spc).flatten) → RSp w' w.heap.size v' l) := fun v' w' ho => ⟨by rw [Nat.zero_add, List.nil_append] at ho; rw [List.length_map]; exact ho, spc_cl l⟩
    have h1' := (spc_cl l).ones
    have HO2 : Hid (∀ v' w', w'.ownsRow w.heap.size 131 2 v' l.length (l.map spc).flatten → RSp w' w.heap.size v' l) := fun v' w' ho => HO.out v' w' (by rw [Nat.zero_add, List.nil_append]; exact ho)
    clear HO
    generalize (l.map spc).flatten = F at *
    generalize l.length = n at *
    go_enter Tryz.func70, Tryz.ntmps70
    go_wp2_with (at_builtin; refine wpList_append_own_wide w rfl _ _ 23 rfl w.heap.size 131 i0 _ 2 16 Tryz.underlying23 hi hz0 hz1 hz2 rfl (by decide) _ 0 [] rfl (World.ownsRow_nil _ _ _ _) ⟨b, off, sp⟩ n c F rfl hcl hc h1' (by unfold maxLen; omega) (by omega) (Nat.le_refl _) (Hid.out ?_))
    unfold Hid
    intro v' w' ho hg hx
    go_wp2
    go_ret
    exact ⟨_, rfl, HO2.out _ _ ho, (Below.refl _ _).grown hg (Nat.le_refl _) (fun k e => by cases e)⟩
/-- The value of a frame, its Spans being some slice. -/
def frV (p : Fm) (sv : Value) : Value :=
  if p.k = 1 then .iface 93 (.agg #[])
  else if p.k = 2 then .iface 114 (.agg #[.int .i64 p.n, sv])
  else if p.k = 3 then .iface 42 (.agg #[.int .i64 p.id, .int .i64 p.n, .bool p.fin, .string p.tx])
  else if p.k = 4 then .iface 116 (.agg #[.int .i64 p.id, .int .i64 p.cd, .int .i64 p.n])
  else if p.k = 5 then .iface 118 (.agg #[.int .i64 p.id, .int .i64 p.cd])
  else if p.k = 6 then .iface 120 (.agg #[.int .i64 p.n])
  else if p.k = 7 then .iface 122 (.agg #[.int .i64 p.id, .int .i64 p.n])
  else if p.k = 8 then .iface 123 (.agg #[.int .i64 p.n])
  else if p.k = 9 then .iface 125 (.agg (p.nc.map (Value.int .u8) ++ [Value.string p.tx]).toArray)
  else if p.k = 10 then .iface 127 (.agg #[.int .i64 p.cd, .string p.tx])
  else .nilIface
end Go.Proofs.YtiollhmbdhepkaaGreatDoor
namespace Go.Proofs.YtiollhmbdhepkaaGreatDoor
open Go.RowKit Go.Shelf
set_option maxRecDepth 100000

/-- A part: a slice of bytes whose memory is no list of parts. -/
def Pt (w : World) (u : Value) (X : List Int) : Prop := Sl w u X ∧ ∀ k, rowB u = some k → ∃ cs t fr, w.heap[k]? = some (.cells cs t fr) ∧ t ≠ 34
theorem sl_heap {w w' : World} {u : Value} {X : List Int} (h : Sl w u X) (hk : ∀ k, rowB u = some k → w'.heap[k]? = w.heap[k]?) : Sl w' u X := by
  obtain ⟨a, c, rfl, h1, h2, h3, h4⟩ := h
  refine ⟨a, c, rfl, h1, h2, h3, ?_⟩
  rcases h4 with h4 | ⟨hp, b, off, rfl, q1, q2, q3, q4⟩
  · exact .inl h4
  · exact .inr ⟨hp, b, off, rfl, q1, q2, fun i hi => (World.cell?_of_block (a := ⟨b, off + i, none⟩) (hk b rfl)).trans (q3 i hi), q4⟩
theorem Pt.below {w w' : World} {u : Value} {X : List Int} (h : Pt w u X) (hb : Below w.heap.size w w') : Pt w' u X :=
  ⟨h.1.kept hb, fun k hk => by
    obtain ⟨cs, t, fr, h1, h2⟩ := h.2 k hk
    exact ⟨cs, t, fr, blk_kept h1 hb (blk_lt h1), h2⟩⟩
theorem Pt.ow {w : World} {B : Nat} {u : Value} {X : List Int} (h : Ow w B u X) : Pt w u X := by
  refine ⟨h.sl, fun k hk => ?_⟩
  rcases h.1.2 with ⟨rfl, _⟩ | ⟨g, cap, cur, rfl, _, hh, _⟩
  · cases hk
  · obtain rfl : g = k := by simpa [rowB] using hk
    exact ⟨_, _, _, hh, by decide⟩
/-- A list of parts in a row of the call's own. -/
def LQ (w : World) (B : Nat) (v : Value) (ZZ : List (List Int)) : Prop :=
  ∃ V : List Value, w.ownsRow B 34 1 v ZZ.length V ∧ ∀ i, i < ZZ.length → ∃ u, V[i]? = some u ∧ Pt w u (ZZ.getD i [])
theorem LQ.below {w w' : World} {B : Nat} {v : Value} {ZZ : List (List Int)} (h : LQ w B v ZZ) (hb : Below w.heap.size w w') : LQ w' B v ZZ := by
  obtain ⟨V, h1, h2⟩ := h
  refine ⟨V, own_below h1 hb, fun i hi => ?_⟩
  obtain ⟨u, h3, h4⟩ := h2 i hi
  exact ⟨u, h3, h4.below hb⟩
theorem LQ.parts {w : World} {B : Nat} {v : Value} {ZZ : List (List Int)} (h : LQ w B v ZZ) (hm : ZZ.length ≤ 100000) : ∃ p c, v = .slice p ZZ.length c ∧ Fi.Parts w p ZZ := by
  obtain ⟨V, ho, h⟩ := h
  have ho' := ho
  rcases ho.2 with ⟨rfl, h0⟩ | ⟨g, cap, cur, rfl, _⟩
  · exact ⟨none, 0, by rw [h0], by omega, .inl (List.length_eq_zero_iff.1 h0)⟩
  · refine ⟨_, cap, rfl, by omega, .inr ⟨g, 0, rfl, fun i hi => ?_⟩⟩
    obtain ⟨u, hu, sl⟩ := h i hi
    refine ⟨u, ?_, fsl sl.1⟩
    have := ho'.cells (g := g) rfl i u hu
    rwa [Addr.add_lit] at this
theorem LQ.one {w : World} {B : Nat} {u : Value} {X : List Int} (h : Pt w u X) (hB : B ≤ w.heap.size) : LQ (w.alloc (.cells #[u] 34)) B (.slice (some ⟨w.heap.size, 0, none⟩) 1 1) [X] := by
  refine ⟨[u], ⟨rfl, .inr ⟨w.heap.size, 1, #[u], rfl, hB, heap_alloc_new _ _, Nat.le_refl _, by unfold maxLen; omega, rfl, rfl⟩⟩, fun i hi => ?_⟩
  obtain rfl : i = 0 := by simpa using hi
  exact ⟨u, rfl, h.below (al_below _ _)⟩
/-- One byte, alone. -/
theorem Pt.byte (w : World) (b : Int) (h : 0 ≤ b ∧ b < 256) : Pt (w.alloc (.cells #[.int .u8 b] 5)) (.slice (some ⟨w.heap.size, 0, none⟩) 1 1) [b] := by
  refine ⟨⟨_, 1, rfl, Nat.le_refl _, by unfold maxLen; omega, fun e => (by cases e), .inr ⟨Nat.one_pos, w.heap.size, 0, rfl, Nat.le_refl _, by unfold maxLen; omega, fun i hi => ?_, fun i => ?_⟩⟩, fun k hk => ?_⟩
  · obtain rfl : i = 0 := by simpa using hi
    rw [World.cell?_alloc_at _ _ _ _ rfl]
    rfl
  · cases i with
    | zero => simpa using h
    | succ i => simp
  · obtain rfl : w.heap.size = k := by simpa [rowB] using hk
    exact ⟨_, _, _, heap_alloc_new _ _, by decide⟩
/-- A part laid behind. -/
theorem wpList_append_lq {w : World} {ops : Array Oper} {rest : List Oper} {o : Oper} {a : Act} {Q : Exit → Act → World → Prop} (hgd : o.guard = none) (s x : Operand)
    (ho : o.op = .call { callee := .builtin .append, args := #[s, x], argTypes := #[100, 100] })
    (B : Nat) (v : Value) (ZZ : List (List Int)) (hs : a.eval s = v) (hown : LQ w B v ZZ) (g : Nat) (u : Value) (X : List Int) (cap : Nat) (hX : Pt w u X)
    (hx : a.eval x = .slice (some ⟨g, 0, none⟩) 1 cap) (hc : w.cell? ⟨g, 0, none⟩ = some u) (hbig : ZZ.length ≤ 100000) (hbase : B ≤ w.heap.size)
    (h : ∀ v' w', LQ w' B v' (ZZ ++ [X]) → Below B w w' → wpList Tryz.prog ops Q rest (a.put o.dst v') w') : wpList Tryz.prog ops Q (o :: rest) a w := by
  obtain ⟨i0, hi, hz0, hz1, hz2⟩ := info_parts infoB
  obtain ⟨V, hV, hall⟩ := hown
  refine wpList_append_own_wide w hgd s x 100 ho B 34 i0 (.slice none 0 0) 1 24 Tryz.underlying100 hi hz0 hz1 hz2 rfl (by decide) v ZZ.length V hs hV ⟨g, 0, none⟩ 1 cap [u] hx rfl ?_ ?_ (by unfold maxLen; omega) (by omega) hbase ?_
  · intro j z hj
    rw [Addr.add_lit]
    cases j with
    | zero => simp at hj; subst hj; exact hc
    | succ j => simp at hj
  · intro z hz
    simp at hz
    subst hz
    obtain ⟨_, _, rfl, -⟩ := hX.1
    rfl
  · intro v' w' ho' hg _
    have ap : ∀ {y : Value} {Y : List Int}, Pt w y Y → Pt w' y Y := fun {y Y} hy => by
      have key : ∀ k, rowB y = some k → w'.heap[k]? = w.heap[k]? := fun k hk => by
        obtain ⟨cs, t, fr, h1, h2⟩ := hy.2 k hk
        refine hg.block k (blk_lt h1) (fun e => ?_)
        rcases hV.2 with ⟨rfl, _⟩ | ⟨g', cap', cur, rfl, _, hh, _⟩
        · cases e
        · cases e
          rw [hh] at h1
          cases h1
          exact h2 rfl
      exact ⟨sl_heap hy.1 key, fun k hk => by
        obtain ⟨cs, t, fr, h1, h2⟩ := hy.2 k hk
        exact ⟨cs, t, fr, (key k hk).trans h1, h2⟩⟩
    have hVl : V.length = ZZ.length := by have := hV.1; simpa using this
    refine h v' w' ⟨V ++ [u], by rw [List.length_append]; exact ho', fun i hi => ?_⟩ ((Below.refl B w).grown hg hbase (own_base hV))
    rw [List.length_append, List.length_singleton] at hi
    rcases Nat.lt_or_ge i ZZ.length with h' | h'
    · obtain ⟨z, hz, oz⟩ := hall i h'
      refine ⟨z, by rw [List.getElem?_append_left (by omega)]; exact hz, ?_⟩
      have e : (ZZ ++ [X]).getD i [] = ZZ.getD i [] := by simp [List.getD, List.getElem?_append_left h']
      rw [e]
      exact ap oz
    · obtain rfl : i = ZZ.length := by omega
      refine ⟨u, by rw [List.getElem?_append_right (by omega), hVl]; simp, ?_⟩
      have e : (ZZ ++ [X]).getD ZZ.length [] = X := by simp [List.getD]
      rw [e]
      exact ap hX
end Go.Proofs.YtiollhmbdhepkaaGreatDoor
namespace Go.Proofs.YtiollhmbdhepkaaGreatDoor
open Go.RowKit Go.Shelf
set_option maxRecDepth 100000

theorem hlen_ok {p : Fm} (h : Ok p) (hn : p.nc.length = 16) : (putM p).length ≤ 200000000000000 := by
  have := hdB_len h hn
  rw [putM_eq, List.length_cons, List.length_append]
  omega
theorem key1 (A1 A2 : List Int) (A3 : Int) (A4 A5 A6 A7 : List Int) : (1 : Int) :: (((if false = true then A1 else []) ++ ((if false = true then A2 else []) ++ ((if false = true then [A3] else []) ++ ((if false = true then A4 else []) ++ ((if false = true then A5 else []) ++ (if false = true then A6 else [])))))) ++ (if false = true then A7 else [])) = ([(1 : Int)] :: []).flatten := by simp
theorem putM_1' {p : Fm} (hk : p.k = 1) (e1 : hI 1 = false) (e2 : hN 1 = false) (e3 : hF 1 = false) (e4 : hC 1 = false) (e5 : hO 1 = false) (e6 : hT 1 = false) (e7 : hS 1 = false) : putM p = ([1] :: []).flatten := by
  rw [putM_eq, hk]
  unfold hdB
  rw [hk, e1, e2, e3, e4, e5, e6, e7]
  exact key1 _ _ _ _ _ _ _
theorem putM_1 {p : Fm} (hk : p.k = 1) : putM p = ([1] :: []).flatten := putM_1' hk (by decide) (by decide) (by decide) (by decide) (by decide) (by decide) (by decide)
end Go.Proofs.YtiollhmbdhepkaaGreatDoor
