/-
  What take answers: an operation that is taken off a decoder, nothing, or a panic.
-/
import Derived.Test.YtfccjeepmhgckaaDoorDo
namespace Go.Proofs.YtfccjeepmhgckaaDoor
open Go.RowKit
set_option maxRecDepth 100000

/-- A decoder's block. -/
def DB (w : World) (g : Nat) (old made : Int) (v : Value) (er : Int) : Prop := w.heap[g]? = some (.cells #[.int .i64 old, .int .i64 made, v, .int .i64 er] 48 (0, 0))
theorem DB.lt {w : World} {g : Nat} {old made : Int} {v : Value} {er : Int} (h : DB w g old made v er) : g < w.heap.size := (Array.getElem?_eq_some_iff.1 h).1
theorem DB.kept {w w' : World} {g : Nat} {old made : Int} {v : Value} {er : Int} (h : DB w g old made v er) (hb : Below w.heap.size w w') : DB w' g old made v er := (hb.block g h.lt).trans h
theorem DB.cells {w : World} {g : Nat} {old made : Int} {v : Value} {er : Int} (h : DB w g old made v er) : w.cell? ⟨g, 0, none⟩ = some (.int .i64 old) ∧ w.cell? ⟨g, 1, none⟩ = some (.int .i64 made) ∧ w.cell? ⟨g, 2, none⟩ = some v ∧ w.cell? ⟨g, 3, none⟩ = some (.int .i64 er) := cell4 h
theorem DB.free {w : World} {g : Nat} {old made : Int} {v : Value} {er : Int} (h : DB w g old made v er) : ∀ i, w.frozen? ⟨g, i, none⟩ = false := fun _ => frozen_of_row _ _ _ _ _ h
theorem db_u8 (old made : Int) (a : Option Addr) (n c : Nat) (er : Int) : ∀ (i : Nat) (z : Int), #[Value.int .i64 old, .int .i64 made, .slice a n c, .int .i64 er][i]? ≠ some (Value.int .u8 z) :=
  no_u8 (fun z e => by cases e) (fun z e => by cases e) (fun z e => by cases e) (fun z e => by cases e)
/-- All but block g and the row r is as it was. -/
structure Kp (g : Nat) (r : Option Nat) (w w' : World) : Prop where
  os : w'.os = w.os
  tape : w'.tape = w.tape
  output : w'.output = w.output
  size : w.heap.size ≤ w'.heap.size
  block : ∀ k, k < w.heap.size → k ≠ g → some k ≠ r → w'.heap[k]? = w.heap[k]?
theorem Kp.of {g : Nat} {r : Option Nat} {w w' : World} (h : Below w.heap.size w w') : Kp g r w w' := ⟨h.os, h.tape, h.output, h.size, fun k hk _ _ => h.block k hk⟩
theorem Kp.set (g i : Nat) (r : Option Nat) (w : World) (v : Value) : Kp g r w (w.setCell ⟨g, i, none⟩ v) :=
  ⟨rfl, rfl, rfl, by simp [World.setCell], fun k _ hn _ => heap_setCell_other _ _ _ _ hn⟩
theorem Kp.st4 (g : Nat) (r : Option Nat) (w : World) (v0 v1 v2 v3 : Value) : Kp g r w (st4 w g v0 v1 v2 v3) :=
  ⟨rfl, rfl, rfl, by rw [st4_size]; exact Nat.le_refl _, fun k _ hn _ => st4_other _ _ _ _ _ _ k hn⟩
theorem Kp.grown {g : Nat} {r : Option Nat} {w w' : World} (h : w.grownBy w' r) : Kp g r w w' := ⟨h.os, h.tape, h.output, h.size, fun k hk _ hr => h.block k hk hr⟩
theorem Kp.trans {g : Nat} {r : Option Nat} {a b c : World} (h : Kp g r a b) (k : Kp g r b c) : Kp g r a c :=
  ⟨k.os.trans h.os, k.tape.trans h.tape, k.output.trans h.output, Nat.le_trans h.size k.size, fun i hi hn hr => (k.block i (Nat.lt_of_lt_of_le hi h.size) hn hr).trans (h.block i hi hn hr)⟩
/-- On the way something newer may be written. -/
theorem Kp.then {g g' : Nat} {r r' : Option Nat} {a b c : World} (h : Kp g r a b) (k : Kp g' r' b c) (hg : g' = g ∨ a.heap.size ≤ g') (hr : r' = r ∨ ∀ i, r' = some i → a.heap.size ≤ i) : Kp g r a c :=
  ⟨k.os.trans h.os, k.tape.trans h.tape, k.output.trans h.output, Nat.le_trans h.size k.size, fun i hi hn hr1 => (k.block i (Nat.lt_of_lt_of_le hi h.size) (by omega) (by
    rcases hr with rfl | hr
    · exact hr1
    · intro e
      have := hr i e.symm
      omega)).trans (h.block i hi hn hr1)⟩
theorem Kp.below {g B : Nat} {r : Option Nat} {w w' : World} (h : Kp g r w w') (hB : B ≤ g) (hr : ∀ k, r = some k → B ≤ k) (hw : B ≤ w.heap.size) : Below B w w' :=
  ⟨h.os, h.tape, h.output, h.size, fun k hk => h.block k (by omega) (by omega) (fun e => by have := hr k e.symm; omega)⟩
/-- A row of the call's own stays. -/
theorem own_kp {w w' : World} {B n s : Nat} {e : TypeId} {v : Value} {xs : List Value} {g : Nat} {r : Option Nat} (h : w.ownsRow B e s v n xs) (hk : Kp g r w w') (hg : v.ownBlock ≠ some g) (hr : ∀ i, v.ownBlock = some i → some i ≠ r) : w'.ownsRow B e s v n xs := by
  obtain ⟨h1, h2⟩ := h
  refine ⟨h1, ?_⟩
  rcases h2 with h2 | ⟨k, cap, cur, rfl, hb, hh, q⟩
  · exact .inl h2
  · exact .inr ⟨k, cap, cur, rfl, hb, (hk.block k (Array.getElem?_eq_some_iff.1 hh).1 (fun e => hg (congrArg some e)) (hr k rfl)).trans hh, q⟩
theorem own_ne {w : World} {B n s : Nat} {e : TypeId} {v : Value} {xs : List Value} {g : Nat} {cs : Array Value} {T : TypeId} {fr : Nat × Nat} (h : w.ownsRow B e s v n xs) (hg : w.heap[g]? = some (.cells cs T fr)) (hT : T ≠ e) : v.ownBlock ≠ some g := by
  intro he
  rcases h.2 with ⟨rfl, _⟩ | ⟨k, cap, cur, rfl, hb, hh, q⟩
  · cases he
  · cases he
    rw [hg] at hh
    cases hh
    exact hT rfl

theorem alo {n u : World} {cs : Array Value} {T : TypeId} (h : n = u.alloc (.cells cs T)) : ∀ W, Below n.heap.size n W → W.heap[u.heap.size]? = some (.cells cs T (0, 0)) := fun W hb => by
  have e : n.heap[u.heap.size]? = some (.cells cs T (0, 0)) := by rw [h]; exact heap_alloc_new _ _
  exact (Below.block hb _ (Array.getElem?_eq_some_iff.1 e).1).trans e
abbrev aop : Value := .agg #[.bool false, .int .i64 0, .int .i64 0, .slice none 0 0]
set_option maxHeartbeats 4000000 in
theorem take_wait (g : Nat) (old made : Int) (v : Value) (er : Int) (b : List Int) (w : World) (hd : DB w g old made v er) (h : SlX w v b) (ht : Fi.Wid w) (ho : old ≤ 9223372036854775807) (hk : opA old b = .wait) :
    Calls Tryd.prog 28 #[.pointer (some ⟨g, 0, none⟩)] w fun e w' => e = .returned (.tuple #[aop, .bool false]) ∧ Below w.heap.size w w' := by
  obtain ⟨W0, hW0⟩ : ∃ W0, W0 = w.alloc (.cells zop 46) := ⟨_, rfl⟩
  have b0 : Below w.heap.size w W0 := by rw [hW0]; exact al_below _ _
  have g0 : W0.heap[w.heap.size]? = some (.cells zop 46 (0, 0)) := by rw [hW0]; exact heap_alloc_new _ _
  have l0 : w.heap.size < W0.heap.size := by rw [hW0]; simp
  have FT : Hid (∀ W, From W0 W → W.cell? ⟨g, 2, none⟩ = some v ∧ W.cell? ⟨g, 0, none⟩ = some (.int .i64 old)) := fun W hb => by
    obtain ⟨k0, k1, k2, k3⟩ := ((hd.kept b0).kept hb).cells
    exact ⟨k2, k0⟩
  have FB : Hid (∀ W, From W0 W → Below w.heap.size w W) := fun W hb => b0.trans (Below.mono hb b0.size)
  have FG : Hid (∀ W, From W0 W → W.heap[w.heap.size]? = some (.cells zop 46 (0, 0))) := fun W hb => (Below.block hb _ l0).trans g0
  have CO : Hid (∀ W, From W0 W → Calls Tryd.prog 35 #[v, .int .i64 old] W fun e w' => TP (.wait) v b W e w') := fun W hb => by
    have := opA_any v b old W (h.kept (b0.trans (Below.mono hb b0.size))) (Wid.kept ht (b0.trans (Below.mono hb b0.size))) ho
    rwa [hk] at this
  obtain ⟨a, c, rfl, -⟩ := id h.1
  clear hd h ht ho hk b0 g0 l0
  generalize b.length = L at *
  go_enter Tryd.func28, Tryd.ntmps28
  go_wp2_with fail
  rw [← hW0]
  clear hW0
  refine wp_region_held_drew (S := From W0) (by kernel_rfl) (Below.drew (Below.refl _ _)) (fun _ => ?_)
  refine wpAnyH_name (fun u0 hu0 => ?_)
  have bu0 : Below W0.heap.size W0 u0 := by rw [hu0.out]; exact Below.drew (Below.refl _ _)
  refine wpAnyH_take (i := 0) (oi := { dst := some 8, op := Op.move (Operand.tmp 0), type := 24, pos := "delta.go:157", after := #[], guard := none }) (v := ?vr1) rfl (by kernel_rfl) (by kernel_rfl) (by kernel_rfl) (fun _ _ _ h => h) (Or.inl ⟨by rfl, ?yr1⟩) bu0 ?rr1
  case yr1 => (intro w hSw; go_simp; try with_reducible rfl)
  try simp only [Act.put, List.setIfInBounds_toArray, List.set_cons_zero, List.set_cons_succ]
  refine wpAnyH_take (i := 1) (oi := { dst := some 9, op := Op.nilCheck (Operand.tmp 8), type := 0, pos := "delta.go:157", after := #[{ on := 0, ground := Ground.data }], guard := none }) (v := ?vr2) rfl (by kernel_rfl) (by kernel_rfl) (by kernel_rfl) (fun _ _ _ h => h) (Or.inl ⟨by rfl, ?yr2⟩) bu0 ?rr2
  case yr2 => (intro w hSw; go_simp; try with_reducible rfl)
  try simp only [Act.put, List.setIfInBounds_toArray, List.set_cons_zero, List.set_cons_succ]
  refine wpAnyH_take (i := 2) (oi := { dst := some 10, op := Op.fieldAddr 48 (Operand.tmp 9) 2, type := 0, pos := "delta.go:157", after := #[{ on := 1, ground := Ground.data }], guard := none }) (v := ?vr3) rfl (by kernel_rfl) (by kernel_rfl) (by kernel_rfl) (fun _ _ _ h => h) (Or.inl ⟨by rfl, ?yr3⟩) bu0 ?rr3
  case yr3 => (intro w hSw; go_simp; try with_reducible rfl)
  try simp only [Act.put, List.setIfInBounds_toArray, List.set_cons_zero, List.set_cons_succ]
  refine wpAnyH_take (i := 3) (oi := { dst := some 11, op := Op.load 26 (Operand.tmp 10), type := 26, pos := "delta.go:157", after := #[{ on := 2, ground := Ground.data }], guard := none }) (v := ?vr4) rfl (by kernel_rfl) (by kernel_rfl) (by kernel_rfl) (fun _ _ _ h => h) (Or.inl ⟨by rfl, ?yr4⟩) bu0 ?rr4
  case yr4 => (intro w hSw; obtain ⟨t2, t0⟩ := FT.out w hSw; go_simp; try with_reducible rfl)
  try simp only [Act.put, List.setIfInBounds_toArray, List.set_cons_zero, List.set_cons_succ]
  refine wpAnyH_take (i := 4) (oi := { dst := some 12, op := Op.move (Operand.tmp 0), type := 24, pos := "delta.go:157", after := #[], guard := none }) (v := ?vr5) rfl (by kernel_rfl) (by kernel_rfl) (by kernel_rfl) (fun _ _ _ h => h) (Or.inl ⟨by rfl, ?yr5⟩) bu0 ?rr5
  case yr5 => (intro w hSw; go_simp; try with_reducible rfl)
  try simp only [Act.put, List.setIfInBounds_toArray, List.set_cons_zero, List.set_cons_succ]
  refine wpAnyH_take (i := 5) (oi := { dst := some 13, op := Op.nilCheck (Operand.tmp 12), type := 0, pos := "delta.go:157", after := #[{ on := 4, ground := Ground.data }], guard := none }) (v := ?vr6) rfl (by kernel_rfl) (by kernel_rfl) (by kernel_rfl) (fun _ _ _ h => h) (Or.inl ⟨by rfl, ?yr6⟩) bu0 ?rr6
  case yr6 => (intro w hSw; go_simp; try with_reducible rfl)
  try simp only [Act.put, List.setIfInBounds_toArray, List.set_cons_zero, List.set_cons_succ]
  refine wpAnyH_take (i := 6) (oi := { dst := some 14, op := Op.fieldAddr 48 (Operand.tmp 13) 0, type := 0, pos := "delta.go:157", after := #[{ on := 5, ground := Ground.data }], guard := none }) (v := ?vr7) rfl (by kernel_rfl) (by kernel_rfl) (by kernel_rfl) (fun _ _ _ h => h) (Or.inl ⟨by rfl, ?yr7⟩) bu0 ?rr7
  case yr7 => (intro w hSw; go_simp; try with_reducible rfl)
  try simp only [Act.put, List.setIfInBounds_toArray, List.set_cons_zero, List.set_cons_succ]
  refine wpAnyH_take (i := 7) (oi := { dst := some 15, op := Op.load 3 (Operand.tmp 14), type := 3, pos := "delta.go:157", after := #[{ on := 6, ground := Ground.data }], guard := none }) (v := ?vr8) rfl (by kernel_rfl) (by kernel_rfl) (by kernel_rfl) (fun _ _ _ h => h) (Or.inl ⟨by rfl, ?yr8⟩) bu0 ?rr8
  case yr8 => (intro w hSw; obtain ⟨t2, t0⟩ := FT.out w hSw; go_simp; try with_reducible rfl)
  try simp only [Act.put, List.setIfInBounds_toArray, List.set_cons_zero, List.set_cons_succ]
  refine wpAnyH_ready (rs := [8, 13]) (by kernel_rfl) (by simp) ?_
  refine AllReadyH.cons (o := { dst := some 16, op := Op.call { callee := Callee.value (Operand.func 35), args := #[Operand.tmp 11, Operand.tmp 15], argTypes := #[26, 3] }, type := 66, pos := "delta.go:157", after := #[{ on := 3, ground := Ground.data }, { on := 7, ground := Ground.data }], guard := none }) rfl (fun KK hKK => ?_) ?_
  · go_simp
    refine (CO.out _ bu0).mono ?_
    rintro e u9' ⟨bu9', hp⟩
    simp only at hp
    subst hp
    (try go_wp2_with fail)
    refine hKK.out _ _ (bu0.trans (Below.mono (bu9') bu0.size)) (fun _ => ?_)
    clear hKK KK
    try simp only [Act.put, List.setIfInBounds_toArray, List.set_cons_zero, List.set_cons_succ]
    refine wpAnyH_name (fun u9 hu9 => ?_)
    have bu9 : Below W0.heap.size W0 u9 := by rw [hu9.out]; exact (bu0.trans (Below.mono (bu9') bu0.size))
    have BN : Hid (Below u0.heap.size u0 u9) := by unfold Hid; rw [hu9.out]; exact bu9'
    refine wpAnyH_take (i := 9) (oi := { dst := some 7, op := Op.move (Operand.tmp 16), type := 66, pos := "delta.go:157", after := #[{ on := 8, ground := Ground.data }], guard := none }) (v := ?vr10) rfl (by kernel_rfl) (by kernel_rfl) (by kernel_rfl) (fun _ _ _ h => h) (Or.inl ⟨by rfl, ?yr10⟩) bu9 ?rr10
    case yr10 => (intro w hSw; go_simp; try with_reducible rfl)
    try simp only [Act.put, List.setIfInBounds_toArray, List.set_cons_zero, List.set_cons_succ]
    refine wpAnyH_take (i := 10) (oi := { dst := some 17, op := Op.extract (Operand.tmp 7) 0, type := 46, pos := "delta.go:157", after := #[{ on := 9, ground := Ground.data }], guard := none }) (v := ?vr11) rfl (by kernel_rfl) (by kernel_rfl) (by kernel_rfl) (fun _ _ _ h => h) (Or.inl ⟨by rfl, ?yr11⟩) bu9 ?rr11
    case yr11 => (intro w hSw; go_simp; try with_reducible rfl)
    try simp only [Act.put, List.setIfInBounds_toArray, List.set_cons_zero, List.set_cons_succ]
    refine wpAnyH_take (i := 11) (oi := { dst := some 18, op := Op.extract (Operand.tmp 7) 1, type := 26, pos := "delta.go:157", after := #[{ on := 9, ground := Ground.data }, { on := 14, ground := Ground.gcOnly Departure.lateStores }], guard := none }) (v := ?vr12) rfl (by kernel_rfl) (by kernel_rfl) (by kernel_rfl) (fun _ _ _ h => h) (Or.inl ⟨by rfl, ?yr12⟩) bu9 ?rr12
    case yr12 => (intro w hSw; go_simp; try with_reducible rfl)
    try simp only [Act.put, List.setIfInBounds_toArray, List.set_cons_zero, List.set_cons_succ]
    refine wpAnyH_take (i := 12) (oi := { dst := some 19, op := Op.extract (Operand.tmp 7) 2, type := 4, pos := "delta.go:157", after := #[{ on := 9, ground := Ground.data }, { on := 15, ground := Ground.gcOnly Departure.lateStores }], guard := none }) (v := ?vr13) rfl (by kernel_rfl) (by kernel_rfl) (by kernel_rfl) (fun _ _ _ h => h) (Or.inl ⟨by rfl, ?yr13⟩) bu9 ?rr13
    case yr13 => (intro w hSw; go_simp; try with_reducible rfl)
    try simp only [Act.put, List.setIfInBounds_toArray, List.set_cons_zero, List.set_cons_succ]
    refine wpAnyH_ready (rs := [13]) (by kernel_rfl) (by simp) ?_
    refine AllReadyH.cons (o := { dst := some 4, op := Op.alloc 46, type := 0, pos := "delta.go:157", after := #[], guard := none }) rfl (fun KK hKK => ?_) ?_
    · go_simp
      refine hKK.out _ _ (bu9.trans (Below.mono (al_below _ _) bu9.size)) (fun _ => ?_)
      clear hKK KK
      try simp only [Act.put, List.setIfInBounds_toArray, List.set_cons_zero, List.set_cons_succ]
      refine wpAnyH_name (fun u14 hu14 => ?_)
      have bu14 : Below W0.heap.size W0 u14 := by rw [hu14.out]; exact (bu9.trans (Below.mono (al_below _ _) bu9.size))
      have GO : Hid (∀ W, Below u14.heap.size u14 W → W.heap[u9.heap.size]? = some (.cells zop 46 (0, 0))) := alo hu14.out
      have LO : Hid (W0.heap.size ≤ u9.heap.size) := Below.size bu9
      refine wpAnyH_ready (rs := [14]) (by kernel_rfl) (by simp) ?_
      refine AllReadyH.cons (o := { dst := none, op := Op.store 46 (Operand.tmp 4) (Operand.tmp 17), type := 0, pos := "delta.go:157", after := #[{ on := 13, ground := Ground.data }, { on := 10, ground := Ground.data }, { on := 8, ground := Ground.chain }, { on := 0, ground := Ground.phase }, { on := 1, ground := Ground.phase }, { on := 2, ground := Ground.phase }, { on := 3, ground := Ground.phase }, { on := 4, ground := Ground.phase }, { on := 5, ground := Ground.phase }, { on := 6, ground := Ground.phase }, { on := 7, ground := Ground.phase }, { on := 8, ground := Ground.phase }, { on := 9, ground := Ground.phase }, { on := 10, ground := Ground.phase }, { on := 11, ground := Ground.textOnly Departure.lateStores }, { on := 12, ground := Ground.textOnly Departure.lateStores }, { on := 13, ground := Ground.phase }], guard := none }) rfl (fun KK hKK => ?_) ?_
      · have go1 : u14.heap[u9.heap.size]? = some (.cells zop 46 (0, 0)) := by first | exact GO.out u14 (Below.refl _ _) | exact GO.out u14 BN.out
        have f0 : ∀ i, u14.frozen? ⟨u9.heap.size, i, none⟩ = false := fun i => frozen_of_row _ _ _ _ _ go1
        obtain ⟨d0, d1, d2, d3⟩ := cell4 go1
        go_simp
        try rw [st4_eq]
        refine hKK.out _ _ (Below.trans bu14 (st4_below _ _ _ _ _ _ _ LO.out)) (fun _ => ?_)
        clear hKK KK
        try simp only [Act.put]
        refine wpAnyH_name (fun u15 hu15 => ?_)
        have bu15 : Below W0.heap.size W0 u15 := by rw [hu15.out]; exact (Below.trans bu14 (st4_below _ _ _ _ _ _ _ LO.out))
        have go2 : u14.heap[u9.heap.size]? = some (.cells zop 46 (0, 0)) := by first | exact GO.out u14 (Below.refl _ _) | exact GO.out u14 BN.out
        have GX : Hid (u15.heap[u9.heap.size]? = some (.cells #[.bool false, .int .i64 0, .int .i64 0, .slice none 0 0] 46 (0, 0))) := by unfold Hid; rw [hu15.out]; exact st4_block _ _ _ _ _ _ go2
        refine wpAnyH_take (i := 15) (oi := { dst := some 5, op := Op.assign (Operand.tmp 18), type := 26, pos := "delta.go:157", after := #[{ on := 11, ground := Ground.data }, { on := 14, ground := Ground.chain }, { on := 0, ground := Ground.phase }, { on := 1, ground := Ground.phase }, { on := 2, ground := Ground.phase }, { on := 3, ground := Ground.phase }, { on := 4, ground := Ground.phase }, { on := 5, ground := Ground.phase }, { on := 6, ground := Ground.phase }, { on := 7, ground := Ground.phase }, { on := 8, ground := Ground.phase }, { on := 9, ground := Ground.phase }, { on := 10, ground := Ground.phase }, { on := 11, ground := Ground.phase }, { on := 12, ground := Ground.textOnly Departure.lateStores }, { on := 13, ground := Ground.phase }, { on := 14, ground := Ground.phase }], guard := none }) (v := ?vr16) rfl (by kernel_rfl) (by kernel_rfl) (by kernel_rfl) (fun _ _ _ h => h) (Or.inl ⟨by rfl, ?yr16⟩) bu15 ?rr16
        case yr16 => (intro w hSw; go_simp; try with_reducible rfl)
        try simp only [Act.put, List.setIfInBounds_toArray, List.set_cons_zero, List.set_cons_succ]
        refine wpAnyH_take (i := 16) (oi := { dst := some 6, op := Op.assign (Operand.tmp 19), type := 4, pos := "delta.go:157", after := #[{ on := 12, ground := Ground.data }, { on := 15, ground := Ground.chain }, { on := 0, ground := Ground.phase }, { on := 1, ground := Ground.phase }, { on := 2, ground := Ground.phase }, { on := 3, ground := Ground.phase }, { on := 4, ground := Ground.phase }, { on := 5, ground := Ground.phase }, { on := 6, ground := Ground.phase }, { on := 7, ground := Ground.phase }, { on := 8, ground := Ground.phase }, { on := 9, ground := Ground.phase }, { on := 10, ground := Ground.phase }, { on := 11, ground := Ground.phase }, { on := 12, ground := Ground.phase }, { on := 13, ground := Ground.phase }, { on := 14, ground := Ground.phase }, { on := 15, ground := Ground.phase }], guard := none }) (v := ?vr17) rfl (by kernel_rfl) (by kernel_rfl) (by kernel_rfl) (fun _ _ _ h => h) (Or.inl ⟨by rfl, ?yr17⟩) bu15 ?rr17
        case yr17 => (intro w hSw; go_simp; try with_reducible rfl)
        try simp only [Act.put, List.setIfInBounds_toArray, List.set_cons_zero, List.set_cons_succ]
        refine wpAnyH_done (by kernel_rfl) ?_ _
        have B1 : Hid (Below w.heap.size w u15) := FB.out _ bu15
        have gg := FG.out u15 bu15
        have f0 : ∀ i, u15.frozen? ⟨w.heap.size, i, none⟩ = false := fun i => frozen_of_row _ _ _ _ _ gg
        have GG : Hid (u15.heap[w.heap.size]? = some (.cells zop 46 (0, 0))) := gg
        obtain ⟨d0, d1, d2, d3⟩ := cell4 gg
        clear gg GX
        go_wp2
        rw [st4_eq]
        have BZ : Hid (Below w.heap.size w (st4 u15 w.heap.size (.bool false) (.int .i64 0) (.int .i64 0) (.slice none 0 0))) := B1.out.trans (st4_below _ _ _ _ _ _ _ (Nat.le_refl _))
        have gz := st4_block u15 w.heap.size (.bool false) (.int .i64 0) (.int .i64 0) (.slice none 0 0) GG.out
        obtain ⟨z0, z1, z2, z3⟩ := cell4 gz
        generalize st4 u15 w.heap.size (.bool false) (.int .i64 0) (.int .i64 0) (.slice none 0 0) = WZ at *
        clear d0 d1 d2 d3 f0
        refine bodyPost_ret (v := .tuple #[aop, .bool false]) ?h rfl ?_
        case h => simp [results, Tryd.results28, go_sem, z0, z1, z2, z3]
        exact ⟨rfl, BZ.out⟩
      exact AllReadyH.nil
    exact AllReadyH.nil
  refine AllReadyH.cons (o := { dst := some 4, op := Op.alloc 46, type := 0, pos := "delta.go:157", after := #[], guard := none }) rfl (fun KK hKK => ?_) ?_
  · go_simp
    refine hKK.out _ _ (bu0.trans (Below.mono (al_below _ _) bu0.size)) (fun _ => ?_)
    clear hKK KK
    try simp only [Act.put, List.setIfInBounds_toArray, List.set_cons_zero, List.set_cons_succ]
    refine wpAnyH_name (fun u18 hu18 => ?_)
    have bu18 : Below W0.heap.size W0 u18 := by rw [hu18.out]; exact (bu0.trans (Below.mono (al_below _ _) bu0.size))
    have GO : Hid (∀ W, Below u18.heap.size u18 W → W.heap[u0.heap.size]? = some (.cells zop 46 (0, 0))) := alo hu18.out
    have LO : Hid (W0.heap.size ≤ u0.heap.size) := Below.size bu0
    refine wpAnyH_ready (rs := [8]) (by kernel_rfl) (by simp) ?_
    refine AllReadyH.cons (o := { dst := some 16, op := Op.call { callee := Callee.value (Operand.func 35), args := #[Operand.tmp 11, Operand.tmp 15], argTypes := #[26, 3] }, type := 66, pos := "delta.go:157", after := #[{ on := 3, ground := Ground.data }, { on := 7, ground := Ground.data }], guard := none }) rfl (fun KK hKK => ?_) ?_
    · go_simp
      refine (CO.out _ bu18).mono ?_
      rintro e u19' ⟨bu19', hp⟩
      simp only at hp
      subst hp
      (try go_wp2_with fail)
      refine hKK.out _ _ (bu18.trans (Below.mono (bu19') bu18.size)) (fun _ => ?_)
      clear hKK KK
      try simp only [Act.put, List.setIfInBounds_toArray, List.set_cons_zero, List.set_cons_succ]
      refine wpAnyH_name (fun u19 hu19 => ?_)
      have bu19 : Below W0.heap.size W0 u19 := by rw [hu19.out]; exact (bu18.trans (Below.mono (bu19') bu18.size))
      have BN : Hid (Below u18.heap.size u18 u19) := by unfold Hid; rw [hu19.out]; exact bu19'
      refine wpAnyH_take (i := 9) (oi := { dst := some 7, op := Op.move (Operand.tmp 16), type := 66, pos := "delta.go:157", after := #[{ on := 8, ground := Ground.data }], guard := none }) (v := ?vr20) rfl (by kernel_rfl) (by kernel_rfl) (by kernel_rfl) (fun _ _ _ h => h) (Or.inl ⟨by rfl, ?yr20⟩) bu19 ?rr20
      case yr20 => (intro w hSw; go_simp; try with_reducible rfl)
      try simp only [Act.put, List.setIfInBounds_toArray, List.set_cons_zero, List.set_cons_succ]
      refine wpAnyH_take (i := 10) (oi := { dst := some 17, op := Op.extract (Operand.tmp 7) 0, type := 46, pos := "delta.go:157", after := #[{ on := 9, ground := Ground.data }], guard := none }) (v := ?vr21) rfl (by kernel_rfl) (by kernel_rfl) (by kernel_rfl) (fun _ _ _ h => h) (Or.inl ⟨by rfl, ?yr21⟩) bu19 ?rr21
      case yr21 => (intro w hSw; go_simp; try with_reducible rfl)
      try simp only [Act.put, List.setIfInBounds_toArray, List.set_cons_zero, List.set_cons_succ]
      refine wpAnyH_take (i := 11) (oi := { dst := some 18, op := Op.extract (Operand.tmp 7) 1, type := 26, pos := "delta.go:157", after := #[{ on := 9, ground := Ground.data }, { on := 14, ground := Ground.gcOnly Departure.lateStores }], guard := none }) (v := ?vr22) rfl (by kernel_rfl) (by kernel_rfl) (by kernel_rfl) (fun _ _ _ h => h) (Or.inl ⟨by rfl, ?yr22⟩) bu19 ?rr22
      case yr22 => (intro w hSw; go_simp; try with_reducible rfl)
      try simp only [Act.put, List.setIfInBounds_toArray, List.set_cons_zero, List.set_cons_succ]
      refine wpAnyH_take (i := 12) (oi := { dst := some 19, op := Op.extract (Operand.tmp 7) 2, type := 4, pos := "delta.go:157", after := #[{ on := 9, ground := Ground.data }, { on := 15, ground := Ground.gcOnly Departure.lateStores }], guard := none }) (v := ?vr23) rfl (by kernel_rfl) (by kernel_rfl) (by kernel_rfl) (fun _ _ _ h => h) (Or.inl ⟨by rfl, ?yr23⟩) bu19 ?rr23
      case yr23 => (intro w hSw; go_simp; try with_reducible rfl)
      try simp only [Act.put, List.setIfInBounds_toArray, List.set_cons_zero, List.set_cons_succ]
      refine wpAnyH_ready (rs := [14]) (by kernel_rfl) (by simp) ?_
      refine AllReadyH.cons (o := { dst := none, op := Op.store 46 (Operand.tmp 4) (Operand.tmp 17), type := 0, pos := "delta.go:157", after := #[{ on := 13, ground := Ground.data }, { on := 10, ground := Ground.data }, { on := 8, ground := Ground.chain }, { on := 0, ground := Ground.phase }, { on := 1, ground := Ground.phase }, { on := 2, ground := Ground.phase }, { on := 3, ground := Ground.phase }, { on := 4, ground := Ground.phase }, { on := 5, ground := Ground.phase }, { on := 6, ground := Ground.phase }, { on := 7, ground := Ground.phase }, { on := 8, ground := Ground.phase }, { on := 9, ground := Ground.phase }, { on := 10, ground := Ground.phase }, { on := 11, ground := Ground.textOnly Departure.lateStores }, { on := 12, ground := Ground.textOnly Departure.lateStores }, { on := 13, ground := Ground.phase }], guard := none }) rfl (fun KK hKK => ?_) ?_
      · have go1 : u19.heap[u0.heap.size]? = some (.cells zop 46 (0, 0)) := by first | exact GO.out u19 (Below.refl _ _) | exact GO.out u19 BN.out
        have f0 : ∀ i, u19.frozen? ⟨u0.heap.size, i, none⟩ = false := fun i => frozen_of_row _ _ _ _ _ go1
        obtain ⟨d0, d1, d2, d3⟩ := cell4 go1
        go_simp
        try rw [st4_eq]
        refine hKK.out _ _ (Below.trans bu19 (st4_below _ _ _ _ _ _ _ LO.out)) (fun _ => ?_)
        clear hKK KK
        try simp only [Act.put]
        refine wpAnyH_name (fun u24 hu24 => ?_)
        have bu24 : Below W0.heap.size W0 u24 := by rw [hu24.out]; exact (Below.trans bu19 (st4_below _ _ _ _ _ _ _ LO.out))
        have go2 : u19.heap[u0.heap.size]? = some (.cells zop 46 (0, 0)) := by first | exact GO.out u19 (Below.refl _ _) | exact GO.out u19 BN.out
        have GX : Hid (u24.heap[u0.heap.size]? = some (.cells #[.bool false, .int .i64 0, .int .i64 0, .slice none 0 0] 46 (0, 0))) := by unfold Hid; rw [hu24.out]; exact st4_block _ _ _ _ _ _ go2
        refine wpAnyH_take (i := 15) (oi := { dst := some 5, op := Op.assign (Operand.tmp 18), type := 26, pos := "delta.go:157", after := #[{ on := 11, ground := Ground.data }, { on := 14, ground := Ground.chain }, { on := 0, ground := Ground.phase }, { on := 1, ground := Ground.phase }, { on := 2, ground := Ground.phase }, { on := 3, ground := Ground.phase }, { on := 4, ground := Ground.phase }, { on := 5, ground := Ground.phase }, { on := 6, ground := Ground.phase }, { on := 7, ground := Ground.phase }, { on := 8, ground := Ground.phase }, { on := 9, ground := Ground.phase }, { on := 10, ground := Ground.phase }, { on := 11, ground := Ground.phase }, { on := 12, ground := Ground.textOnly Departure.lateStores }, { on := 13, ground := Ground.phase }, { on := 14, ground := Ground.phase }], guard := none }) (v := ?vr25) rfl (by kernel_rfl) (by kernel_rfl) (by kernel_rfl) (fun _ _ _ h => h) (Or.inl ⟨by rfl, ?yr25⟩) bu24 ?rr25
        case yr25 => (intro w hSw; go_simp; try with_reducible rfl)
        try simp only [Act.put, List.setIfInBounds_toArray, List.set_cons_zero, List.set_cons_succ]
        refine wpAnyH_take (i := 16) (oi := { dst := some 6, op := Op.assign (Operand.tmp 19), type := 4, pos := "delta.go:157", after := #[{ on := 12, ground := Ground.data }, { on := 15, ground := Ground.chain }, { on := 0, ground := Ground.phase }, { on := 1, ground := Ground.phase }, { on := 2, ground := Ground.phase }, { on := 3, ground := Ground.phase }, { on := 4, ground := Ground.phase }, { on := 5, ground := Ground.phase }, { on := 6, ground := Ground.phase }, { on := 7, ground := Ground.phase }, { on := 8, ground := Ground.phase }, { on := 9, ground := Ground.phase }, { on := 10, ground := Ground.phase }, { on := 11, ground := Ground.phase }, { on := 12, ground := Ground.phase }, { on := 13, ground := Ground.phase }, { on := 14, ground := Ground.phase }, { on := 15, ground := Ground.phase }], guard := none }) (v := ?vr26) rfl (by kernel_rfl) (by kernel_rfl) (by kernel_rfl) (fun _ _ _ h => h) (Or.inl ⟨by rfl, ?yr26⟩) bu24 ?rr26
        case yr26 => (intro w hSw; go_simp; try with_reducible rfl)
        try simp only [Act.put, List.setIfInBounds_toArray, List.set_cons_zero, List.set_cons_succ]
        refine wpAnyH_done (by kernel_rfl) ?_ _
        have B1 : Hid (Below w.heap.size w u24) := FB.out _ bu24
        have gg := FG.out u24 bu24
        have f0 : ∀ i, u24.frozen? ⟨w.heap.size, i, none⟩ = false := fun i => frozen_of_row _ _ _ _ _ gg
        have GG : Hid (u24.heap[w.heap.size]? = some (.cells zop 46 (0, 0))) := gg
        obtain ⟨d0, d1, d2, d3⟩ := cell4 gg
        clear gg GX
        go_wp2
        rw [st4_eq]
        have BZ : Hid (Below w.heap.size w (st4 u24 w.heap.size (.bool false) (.int .i64 0) (.int .i64 0) (.slice none 0 0))) := B1.out.trans (st4_below _ _ _ _ _ _ _ (Nat.le_refl _))
        have gz := st4_block u24 w.heap.size (.bool false) (.int .i64 0) (.int .i64 0) (.slice none 0 0) GG.out
        obtain ⟨z0, z1, z2, z3⟩ := cell4 gz
        generalize st4 u24 w.heap.size (.bool false) (.int .i64 0) (.int .i64 0) (.slice none 0 0) = WZ at *
        clear d0 d1 d2 d3 f0
        refine bodyPost_ret (v := .tuple #[aop, .bool false]) ?h rfl ?_
        case h => simp [results, Tryd.results28, go_sem, z0, z1, z2, z3]
        exact ⟨rfl, BZ.out⟩
      exact AllReadyH.nil
    exact AllReadyH.nil
  exact AllReadyH.nil
set_option maxHeartbeats 4000000 in
theorem take_pan (g : Nat) (old made : Int) (v : Value) (er : Int) (b : List Int) (w : World) (hd : DB w g old made v er) (h : SlX w v b) (ht : Fi.Wid w) (ho : old ≤ 9223372036854775807) (k : Int) (hk : opA old b = .bad k) :
    Calls Tryd.prog 28 #[.pointer (some ⟨g, 0, none⟩)] w fun e w' => e = pan k ∧ Below w.heap.size w w' := by
  obtain ⟨W0, hW0⟩ : ∃ W0, W0 = w.alloc (.cells zop 46) := ⟨_, rfl⟩
  have b0 : Below w.heap.size w W0 := by rw [hW0]; exact al_below _ _
  have g0 : W0.heap[w.heap.size]? = some (.cells zop 46 (0, 0)) := by rw [hW0]; exact heap_alloc_new _ _
  have l0 : w.heap.size < W0.heap.size := by rw [hW0]; simp
  have FT : Hid (∀ W, From W0 W → W.cell? ⟨g, 2, none⟩ = some v ∧ W.cell? ⟨g, 0, none⟩ = some (.int .i64 old)) := fun W hb => by
    obtain ⟨k0, k1, k2, k3⟩ := ((hd.kept b0).kept hb).cells
    exact ⟨k2, k0⟩
  have FB : Hid (∀ W, From W0 W → Below w.heap.size w W) := fun W hb => b0.trans (Below.mono hb b0.size)
  have FG : Hid (∀ W, From W0 W → W.heap[w.heap.size]? = some (.cells zop 46 (0, 0))) := fun W hb => (Below.block hb _ l0).trans g0
  have CO : Hid (∀ W, From W0 W → Calls Tryd.prog 35 #[v, .int .i64 old] W fun e w' => TP (.bad k) v b W e w') := fun W hb => by
    have := opA_any v b old W (h.kept (b0.trans (Below.mono hb b0.size))) (Wid.kept ht (b0.trans (Below.mono hb b0.size))) ho
    rwa [hk] at this
  obtain ⟨a, c, rfl, -⟩ := id h.1
  clear hd h ht ho hk b0 g0 l0
  generalize b.length = L at *
  go_enter Tryd.func28, Tryd.ntmps28
  go_wp2_with fail
  rw [← hW0]
  clear hW0
  refine wp_region_held_drew (S := From W0) (by kernel_rfl) (Below.drew (Below.refl _ _)) (fun _ => ?_)
  refine wpAnyH_name (fun u0 hu0 => ?_)
  have bu0 : Below W0.heap.size W0 u0 := by rw [hu0.out]; exact Below.drew (Below.refl _ _)
  refine wpAnyH_take (i := 0) (oi := { dst := some 8, op := Op.move (Operand.tmp 0), type := 24, pos := "delta.go:157", after := #[], guard := none }) (v := ?vp1) rfl (by kernel_rfl) (by kernel_rfl) (by kernel_rfl) (fun _ _ _ h => h) (Or.inl ⟨by rfl, ?yp1⟩) bu0 ?rp1
  case yp1 => (intro w hSw; go_simp; try with_reducible rfl)
  try simp only [Act.put, List.setIfInBounds_toArray, List.set_cons_zero, List.set_cons_succ]
  refine wpAnyH_take (i := 1) (oi := { dst := some 9, op := Op.nilCheck (Operand.tmp 8), type := 0, pos := "delta.go:157", after := #[{ on := 0, ground := Ground.data }], guard := none }) (v := ?vp2) rfl (by kernel_rfl) (by kernel_rfl) (by kernel_rfl) (fun _ _ _ h => h) (Or.inl ⟨by rfl, ?yp2⟩) bu0 ?rp2
  case yp2 => (intro w hSw; go_simp; try with_reducible rfl)
  try simp only [Act.put, List.setIfInBounds_toArray, List.set_cons_zero, List.set_cons_succ]
  refine wpAnyH_take (i := 2) (oi := { dst := some 10, op := Op.fieldAddr 48 (Operand.tmp 9) 2, type := 0, pos := "delta.go:157", after := #[{ on := 1, ground := Ground.data }], guard := none }) (v := ?vp3) rfl (by kernel_rfl) (by kernel_rfl) (by kernel_rfl) (fun _ _ _ h => h) (Or.inl ⟨by rfl, ?yp3⟩) bu0 ?rp3
  case yp3 => (intro w hSw; go_simp; try with_reducible rfl)
  try simp only [Act.put, List.setIfInBounds_toArray, List.set_cons_zero, List.set_cons_succ]
  refine wpAnyH_take (i := 3) (oi := { dst := some 11, op := Op.load 26 (Operand.tmp 10), type := 26, pos := "delta.go:157", after := #[{ on := 2, ground := Ground.data }], guard := none }) (v := ?vp4) rfl (by kernel_rfl) (by kernel_rfl) (by kernel_rfl) (fun _ _ _ h => h) (Or.inl ⟨by rfl, ?yp4⟩) bu0 ?rp4
  case yp4 => (intro w hSw; obtain ⟨t2, t0⟩ := FT.out w hSw; go_simp; try with_reducible rfl)
  try simp only [Act.put, List.setIfInBounds_toArray, List.set_cons_zero, List.set_cons_succ]
  refine wpAnyH_take (i := 4) (oi := { dst := some 12, op := Op.move (Operand.tmp 0), type := 24, pos := "delta.go:157", after := #[], guard := none }) (v := ?vp5) rfl (by kernel_rfl) (by kernel_rfl) (by kernel_rfl) (fun _ _ _ h => h) (Or.inl ⟨by rfl, ?yp5⟩) bu0 ?rp5
  case yp5 => (intro w hSw; go_simp; try with_reducible rfl)
  try simp only [Act.put, List.setIfInBounds_toArray, List.set_cons_zero, List.set_cons_succ]
  refine wpAnyH_take (i := 5) (oi := { dst := some 13, op := Op.nilCheck (Operand.tmp 12), type := 0, pos := "delta.go:157", after := #[{ on := 4, ground := Ground.data }], guard := none }) (v := ?vp6) rfl (by kernel_rfl) (by kernel_rfl) (by kernel_rfl) (fun _ _ _ h => h) (Or.inl ⟨by rfl, ?yp6⟩) bu0 ?rp6
  case yp6 => (intro w hSw; go_simp; try with_reducible rfl)
  try simp only [Act.put, List.setIfInBounds_toArray, List.set_cons_zero, List.set_cons_succ]
  refine wpAnyH_take (i := 6) (oi := { dst := some 14, op := Op.fieldAddr 48 (Operand.tmp 13) 0, type := 0, pos := "delta.go:157", after := #[{ on := 5, ground := Ground.data }], guard := none }) (v := ?vp7) rfl (by kernel_rfl) (by kernel_rfl) (by kernel_rfl) (fun _ _ _ h => h) (Or.inl ⟨by rfl, ?yp7⟩) bu0 ?rp7
  case yp7 => (intro w hSw; go_simp; try with_reducible rfl)
  try simp only [Act.put, List.setIfInBounds_toArray, List.set_cons_zero, List.set_cons_succ]
  refine wpAnyH_take (i := 7) (oi := { dst := some 15, op := Op.load 3 (Operand.tmp 14), type := 3, pos := "delta.go:157", after := #[{ on := 6, ground := Ground.data }], guard := none }) (v := ?vp8) rfl (by kernel_rfl) (by kernel_rfl) (by kernel_rfl) (fun _ _ _ h => h) (Or.inl ⟨by rfl, ?yp8⟩) bu0 ?rp8
  case yp8 => (intro w hSw; obtain ⟨t2, t0⟩ := FT.out w hSw; go_simp; try with_reducible rfl)
  try simp only [Act.put, List.setIfInBounds_toArray, List.set_cons_zero, List.set_cons_succ]
  refine wpAnyH_ready (rs := [8, 13]) (by kernel_rfl) (by simp) ?_
  refine AllReadyH.cons (o := { dst := some 16, op := Op.call { callee := Callee.value (Operand.func 35), args := #[Operand.tmp 11, Operand.tmp 15], argTypes := #[26, 3] }, type := 66, pos := "delta.go:157", after := #[{ on := 3, ground := Ground.data }, { on := 7, ground := Ground.data }], guard := none }) rfl (fun KK hKK => ?_) ?_
  · go_simp
    refine (CO.out _ bu0).mono ?_
    rintro e u9' ⟨bu9', hp⟩
    simp only at hp
    subst hp
    (try go_wp2)
    exact ⟨rfl, rfl, (FB.out _ bu0).trans (bu9'.mono (FB.out _ bu0).size)⟩
  refine AllReadyH.cons (o := { dst := some 4, op := Op.alloc 46, type := 0, pos := "delta.go:157", after := #[], guard := none }) rfl (fun KK hKK => ?_) ?_
  · go_simp
    refine hKK.out _ _ (bu0.trans (Below.mono (al_below _ _) bu0.size)) (fun _ => ?_)
    clear hKK KK
    try simp only [Act.put, List.setIfInBounds_toArray, List.set_cons_zero, List.set_cons_succ]
    refine wpAnyH_name (fun u10 hu10 => ?_)
    have bu10 : Below W0.heap.size W0 u10 := by rw [hu10.out]; exact (bu0.trans (Below.mono (al_below _ _) bu0.size))
    have GO : Hid (∀ W, Below u10.heap.size u10 W → W.heap[u0.heap.size]? = some (.cells zop 46 (0, 0))) := alo hu10.out
    have LO : Hid (W0.heap.size ≤ u0.heap.size) := Below.size bu0
    refine wpAnyH_ready (rs := [8]) (by kernel_rfl) (by simp) ?_
    refine AllReadyH.cons (o := { dst := some 16, op := Op.call { callee := Callee.value (Operand.func 35), args := #[Operand.tmp 11, Operand.tmp 15], argTypes := #[26, 3] }, type := 66, pos := "delta.go:157", after := #[{ on := 3, ground := Ground.data }, { on := 7, ground := Ground.data }], guard := none }) rfl (fun KK hKK => ?_) ?_
    · go_simp
      refine (CO.out _ bu10).mono ?_
      rintro e u11' ⟨bu11', hp⟩
      simp only at hp
      subst hp
      (try go_wp2)
      exact ⟨rfl, rfl, (FB.out _ bu10).trans (bu11'.mono (FB.out _ bu10).size)⟩
    exact AllReadyH.nil
  exact AllReadyH.nil
set_option maxHeartbeats 4000000 in
theorem take_long (g : Nat) (old made : Int) (v : Value) (er : Int) (b : List Int) (w : World) (hd : DB w g old made v er) (h : SlX w v b) (ht : Fi.Wid w) (ho : old ≤ 9223372036854775807) (x : Xp) (k : Nat) (hk : opA old b = .op x k) (h0 : 0 ≤ made) (h1 : made ≤ 65536) (hl : 65536 - made < mkX x) :
    Calls Tryd.prog 28 #[.pointer (some ⟨g, 0, none⟩)] w fun e w' => e = pan 5 ∧ Below w.heap.size w w' := by
  obtain ⟨W0, hW0⟩ : ∃ W0, W0 = w.alloc (.cells zop 46) := ⟨_, rfl⟩
  have b0 : Below w.heap.size w W0 := by rw [hW0]; exact al_below _ _
  have g0 : W0.heap[w.heap.size]? = some (.cells zop 46 (0, 0)) := by rw [hW0]; exact heap_alloc_new _ _
  have l0 : w.heap.size < W0.heap.size := by rw [hW0]; simp
  have FT : Hid (∀ W, From W0 W → W.cell? ⟨g, 2, none⟩ = some v ∧ W.cell? ⟨g, 0, none⟩ = some (.int .i64 old)) := fun W hb => by
    obtain ⟨k0, k1, k2, k3⟩ := ((hd.kept b0).kept hb).cells
    exact ⟨k2, k0⟩
  have FB : Hid (∀ W, From W0 W → Below w.heap.size w W) := fun W hb => b0.trans (Below.mono hb b0.size)
  have FG : Hid (∀ W, From W0 W → W.heap[w.heap.size]? = some (.cells zop 46 (0, 0))) := fun W hb => (Below.block hb _ l0).trans g0
  have CO : Hid (∀ W, From W0 W → Calls Tryd.prog 35 #[v, .int .i64 old] W fun e w' => TP (.op x k) v b W e w') := fun W hb => by
    have := opA_any v b old W (h.kept (b0.trans (Below.mono hb b0.size))) (Wid.kept ht (b0.trans (Below.mono hb b0.size))) ho
    rwa [hk] at this
  obtain ⟨a, c, rfl, -⟩ := id h.1
  have HDG : Hid (∀ W, From W0 W → DB W g old made (.slice a b.length c) er) := fun W hb => (hd.kept b0).kept hb
  have hgl : g < w.heap.size := hd.lt
  have CM : Hid (∀ ua uc W, Calls Tryd.prog 25 #[xval x ua x.d.length uc] W fun e w' => e = .returned (.int .i64 (mkX x)) ∧ Below W.heap.size W w') := fun ua uc W => makes_any x ua x.d.length uc W rfl
  have HL0 : Hid (w.heap.size < W0.heap.size) := l0
  have hmx := mkX_pos x
  clear hd h ht ho hk b0 g0 l0
  generalize b.length = L at *
  generalize mkX x = mx at *
  obtain ⟨nd, hnd⟩ : ∃ nd, nd = x.d.length := ⟨_, rfl⟩
  have HND : Hid (nd = x.d.length) := hnd
  rw [← hnd] at CM
  clear hnd
  have HYL : Hid (decide (65536 - made < mx) = true) := by unfold Hid; simpa using hl
  go_enter Tryd.func28, Tryd.ntmps28
  go_wp2_with fail
  rw [← hW0]
  clear hW0
  refine wp_region_held_drew (S := From W0) (by kernel_rfl) (Below.drew (Below.refl _ _)) (fun _ => ?_)
  refine wpAnyH_name (fun u0 hu0 => ?_)
  have bu0 : Below W0.heap.size W0 u0 := by rw [hu0.out]; exact Below.drew (Below.refl _ _)
  refine wpAnyH_take (i := 0) (oi := { dst := some 8, op := Op.move (Operand.tmp 0), type := 24, pos := "delta.go:157", after := #[], guard := none }) (v := ?vl1) rfl (by kernel_rfl) (by kernel_rfl) (by kernel_rfl) (fun _ _ _ h => h) (Or.inl ⟨by rfl, ?yl1⟩) bu0 ?rl1
  case yl1 => (intro w hSw; go_simp; try with_reducible rfl)
  try simp only [Act.put, List.setIfInBounds_toArray, List.set_cons_zero, List.set_cons_succ]
  refine wpAnyH_take (i := 1) (oi := { dst := some 9, op := Op.nilCheck (Operand.tmp 8), type := 0, pos := "delta.go:157", after := #[{ on := 0, ground := Ground.data }], guard := none }) (v := ?vl2) rfl (by kernel_rfl) (by kernel_rfl) (by kernel_rfl) (fun _ _ _ h => h) (Or.inl ⟨by rfl, ?yl2⟩) bu0 ?rl2
  case yl2 => (intro w hSw; go_simp; try with_reducible rfl)
  try simp only [Act.put, List.setIfInBounds_toArray, List.set_cons_zero, List.set_cons_succ]
  refine wpAnyH_take (i := 2) (oi := { dst := some 10, op := Op.fieldAddr 48 (Operand.tmp 9) 2, type := 0, pos := "delta.go:157", after := #[{ on := 1, ground := Ground.data }], guard := none }) (v := ?vl3) rfl (by kernel_rfl) (by kernel_rfl) (by kernel_rfl) (fun _ _ _ h => h) (Or.inl ⟨by rfl, ?yl3⟩) bu0 ?rl3
  case yl3 => (intro w hSw; go_simp; try with_reducible rfl)
  try simp only [Act.put, List.setIfInBounds_toArray, List.set_cons_zero, List.set_cons_succ]
  refine wpAnyH_take (i := 3) (oi := { dst := some 11, op := Op.load 26 (Operand.tmp 10), type := 26, pos := "delta.go:157", after := #[{ on := 2, ground := Ground.data }], guard := none }) (v := ?vl4) rfl (by kernel_rfl) (by kernel_rfl) (by kernel_rfl) (fun _ _ _ h => h) (Or.inl ⟨by rfl, ?yl4⟩) bu0 ?rl4
  case yl4 => (intro w hSw; obtain ⟨t2, t0⟩ := FT.out w hSw; go_simp; try with_reducible rfl)
  try simp only [Act.put, List.setIfInBounds_toArray, List.set_cons_zero, List.set_cons_succ]
  refine wpAnyH_take (i := 4) (oi := { dst := some 12, op := Op.move (Operand.tmp 0), type := 24, pos := "delta.go:157", after := #[], guard := none }) (v := ?vl5) rfl (by kernel_rfl) (by kernel_rfl) (by kernel_rfl) (fun _ _ _ h => h) (Or.inl ⟨by rfl, ?yl5⟩) bu0 ?rl5
  case yl5 => (intro w hSw; go_simp; try with_reducible rfl)
  try simp only [Act.put, List.setIfInBounds_toArray, List.set_cons_zero, List.set_cons_succ]
  refine wpAnyH_take (i := 5) (oi := { dst := some 13, op := Op.nilCheck (Operand.tmp 12), type := 0, pos := "delta.go:157", after := #[{ on := 4, ground := Ground.data }], guard := none }) (v := ?vl6) rfl (by kernel_rfl) (by kernel_rfl) (by kernel_rfl) (fun _ _ _ h => h) (Or.inl ⟨by rfl, ?yl6⟩) bu0 ?rl6
  case yl6 => (intro w hSw; go_simp; try with_reducible rfl)
  try simp only [Act.put, List.setIfInBounds_toArray, List.set_cons_zero, List.set_cons_succ]
  refine wpAnyH_take (i := 6) (oi := { dst := some 14, op := Op.fieldAddr 48 (Operand.tmp 13) 0, type := 0, pos := "delta.go:157", after := #[{ on := 5, ground := Ground.data }], guard := none }) (v := ?vl7) rfl (by kernel_rfl) (by kernel_rfl) (by kernel_rfl) (fun _ _ _ h => h) (Or.inl ⟨by rfl, ?yl7⟩) bu0 ?rl7
  case yl7 => (intro w hSw; go_simp; try with_reducible rfl)
  try simp only [Act.put, List.setIfInBounds_toArray, List.set_cons_zero, List.set_cons_succ]
  refine wpAnyH_take (i := 7) (oi := { dst := some 15, op := Op.load 3 (Operand.tmp 14), type := 3, pos := "delta.go:157", after := #[{ on := 6, ground := Ground.data }], guard := none }) (v := ?vl8) rfl (by kernel_rfl) (by kernel_rfl) (by kernel_rfl) (fun _ _ _ h => h) (Or.inl ⟨by rfl, ?yl8⟩) bu0 ?rl8
  case yl8 => (intro w hSw; obtain ⟨t2, t0⟩ := FT.out w hSw; go_simp; try with_reducible rfl)
  try simp only [Act.put, List.setIfInBounds_toArray, List.set_cons_zero, List.set_cons_succ]
  refine wpAnyH_ready (rs := [8, 13]) (by kernel_rfl) (by simp) ?_
  refine AllReadyH.cons (o := { dst := some 16, op := Op.call { callee := Callee.value (Operand.func 35), args := #[Operand.tmp 11, Operand.tmp 15], argTypes := #[26, 3] }, type := 66, pos := "delta.go:157", after := #[{ on := 3, ground := Ground.data }, { on := 7, ground := Ground.data }], guard := none }) rfl (fun KK hKK => ?_) ?_
  · go_simp
    refine (CO.out _ bu0).mono ?_
    rintro e u9' ⟨bu9', hp⟩
    simp only at hp
    obtain ⟨ua, uc, v1, rfl, ow1, sx1, ob1⟩ := hp
    obtain ⟨va, vc, rfl, -⟩ := id sx1.1
    obtain ⟨nv, hnv⟩ : ∃ nv, nv = (b.drop k).length := ⟨_, rfl⟩
    rw [← hnv] at sx1 ob1 ⊢
    clear hnv
    rw [← HND.out] at ow1 ⊢
    (try go_wp2_with fail)
    refine hKK.out _ _ (bu0.trans (Below.mono (bu9') bu0.size)) (fun _ => ?_)
    clear hKK KK
    try simp only [Act.put, List.setIfInBounds_toArray, List.set_cons_zero, List.set_cons_succ]
    refine wpAnyH_name (fun u9 hu9 => ?_)
    have bu9 : Below W0.heap.size W0 u9 := by rw [hu9.out]; exact (bu0.trans (Below.mono (bu9') bu0.size))
    have BN : Hid (Below u0.heap.size u0 u9) := by unfold Hid; rw [hu9.out]; exact bu9'
    have OW1 : Hid (Ow u9 W0.heap.size (.slice ua nd uc) x.d) := by unfold Hid; rw [hu9.out]; exact ow1.mono (Below.size bu0)
    have SX1 : Hid (SlX u9 (.slice va nv vc) (b.drop k)) := by unfold Hid; rw [hu9.out]; exact sx1
    have OB1 : Hid ((Value.slice va nv vc).ownBlock = (Value.slice a L c).ownBlock) := ob1
    clear ow1 sx1 ob1
    refine wpAnyH_take (i := 9) (oi := { dst := some 7, op := Op.move (Operand.tmp 16), type := 66, pos := "delta.go:157", after := #[{ on := 8, ground := Ground.data }], guard := none }) (v := ?vl10) rfl (by kernel_rfl) (by kernel_rfl) (by kernel_rfl) (fun _ _ _ h => h) (Or.inl ⟨by rfl, ?yl10⟩) bu9 ?rl10
    case yl10 => (intro w hSw; go_simp; try with_reducible rfl)
    try simp only [Act.put, List.setIfInBounds_toArray, List.set_cons_zero, List.set_cons_succ]
    refine wpAnyH_take (i := 10) (oi := { dst := some 17, op := Op.extract (Operand.tmp 7) 0, type := 46, pos := "delta.go:157", after := #[{ on := 9, ground := Ground.data }], guard := none }) (v := ?vl11) rfl (by kernel_rfl) (by kernel_rfl) (by kernel_rfl) (fun _ _ _ h => h) (Or.inl ⟨by rfl, ?yl11⟩) bu9 ?rl11
    case yl11 => (intro w hSw; go_simp; try with_reducible rfl)
    try simp only [Act.put, List.setIfInBounds_toArray, List.set_cons_zero, List.set_cons_succ]
    refine wpAnyH_take (i := 11) (oi := { dst := some 18, op := Op.extract (Operand.tmp 7) 1, type := 26, pos := "delta.go:157", after := #[{ on := 9, ground := Ground.data }, { on := 14, ground := Ground.gcOnly Departure.lateStores }], guard := none }) (v := ?vl12) rfl (by kernel_rfl) (by kernel_rfl) (by kernel_rfl) (fun _ _ _ h => h) (Or.inl ⟨by rfl, ?yl12⟩) bu9 ?rl12
    case yl12 => (intro w hSw; go_simp; try with_reducible rfl)
    try simp only [Act.put, List.setIfInBounds_toArray, List.set_cons_zero, List.set_cons_succ]
    refine wpAnyH_take (i := 12) (oi := { dst := some 19, op := Op.extract (Operand.tmp 7) 2, type := 4, pos := "delta.go:157", after := #[{ on := 9, ground := Ground.data }, { on := 15, ground := Ground.gcOnly Departure.lateStores }], guard := none }) (v := ?vl13) rfl (by kernel_rfl) (by kernel_rfl) (by kernel_rfl) (fun _ _ _ h => h) (Or.inl ⟨by rfl, ?yl13⟩) bu9 ?rl13
    case yl13 => (intro w hSw; go_simp; try with_reducible rfl)
    try simp only [Act.put, List.setIfInBounds_toArray, List.set_cons_zero, List.set_cons_succ]
    refine wpAnyH_ready (rs := [13]) (by kernel_rfl) (by simp) ?_
    refine AllReadyH.cons (o := { dst := some 4, op := Op.alloc 46, type := 0, pos := "delta.go:157", after := #[], guard := none }) rfl (fun KK hKK => ?_) ?_
    · go_simp
      refine hKK.out _ _ (bu9.trans (Below.mono (al_below _ _) bu9.size)) (fun _ => ?_)
      clear hKK KK
      try simp only [Act.put, List.setIfInBounds_toArray, List.set_cons_zero, List.set_cons_succ]
      refine wpAnyH_name (fun u14 hu14 => ?_)
      have bu14 : Below W0.heap.size W0 u14 := by rw [hu14.out]; exact (bu9.trans (Below.mono (al_below _ _) bu9.size))
      have GO : Hid (∀ W, Below u14.heap.size u14 W → W.heap[u9.heap.size]? = some (.cells zop 46 (0, 0))) := alo hu14.out
      have LO : Hid (W0.heap.size ≤ u9.heap.size) := Below.size bu9
      have BA : Hid (Below u9.heap.size u9 u14) := by unfold Hid; rw [hu14.out]; exact al_below _ _
      refine wpAnyH_ready (rs := [14]) (by kernel_rfl) (by simp) ?_
      refine AllReadyH.cons (o := { dst := none, op := Op.store 46 (Operand.tmp 4) (Operand.tmp 17), type := 0, pos := "delta.go:157", after := #[{ on := 13, ground := Ground.data }, { on := 10, ground := Ground.data }, { on := 8, ground := Ground.chain }, { on := 0, ground := Ground.phase }, { on := 1, ground := Ground.phase }, { on := 2, ground := Ground.phase }, { on := 3, ground := Ground.phase }, { on := 4, ground := Ground.phase }, { on := 5, ground := Ground.phase }, { on := 6, ground := Ground.phase }, { on := 7, ground := Ground.phase }, { on := 8, ground := Ground.phase }, { on := 9, ground := Ground.phase }, { on := 10, ground := Ground.phase }, { on := 11, ground := Ground.textOnly Departure.lateStores }, { on := 12, ground := Ground.textOnly Departure.lateStores }, { on := 13, ground := Ground.phase }], guard := none }) rfl (fun KK hKK => ?_) ?_
      · have go1 : u14.heap[u9.heap.size]? = some (.cells zop 46 (0, 0)) := by first | exact GO.out u14 (Below.refl _ _) | exact GO.out u14 BN.out
        have f0 : ∀ i, u14.frozen? ⟨u9.heap.size, i, none⟩ = false := fun i => frozen_of_row _ _ _ _ _ go1
        obtain ⟨d0, d1, d2, d3⟩ := cell4 go1
        go_simp
        try rw [st4_eq]
        refine hKK.out _ _ (Below.trans bu14 (st4_below _ _ _ _ _ _ _ LO.out)) (fun _ => ?_)
        clear hKK KK
        try simp only [Act.put]
        refine wpAnyH_name (fun u15 hu15 => ?_)
        have bu15 : Below W0.heap.size W0 u15 := by rw [hu15.out]; exact (Below.trans bu14 (st4_below _ _ _ _ _ _ _ LO.out))
        have go2 : u14.heap[u9.heap.size]? = some (.cells zop 46 (0, 0)) := by first | exact GO.out u14 (Below.refl _ _) | exact GO.out u14 BN.out
        have GX : Hid (u15.heap[u9.heap.size]? = some (.cells #[.bool x.c, .int .i64 x.a, .int .i64 x.n, .slice ua nd uc] 46 (0, 0))) := by unfold Hid; rw [hu15.out]; exact st4_block _ _ _ _ _ _ go2
        have OW2 : Hid (Ow u15 W0.heap.size (.slice ua nd uc) x.d) := by unfold Hid; rw [hu15.out]; exact ow_off (by first | exact OW1.out | exact OW1.out.below BA.out) (fun k hk => st4_other _ _ _ _ _ _ k hk) go2 (by decide)
        have SX2 : Hid (SlX u15 (.slice va nv vc) (b.drop k)) := by unfold Hid; rw [hu15.out]; exact slx_off (by first | exact SX1.out | exact SX1.out.kept BA.out) (fun k hk => st4_other _ _ _ _ _ _ k hk) go2 (op_u8 _ _ _ _ _ _)
        clear go2
        refine wpAnyH_take (i := 15) (oi := { dst := some 5, op := Op.assign (Operand.tmp 18), type := 26, pos := "delta.go:157", after := #[{ on := 11, ground := Ground.data }, { on := 14, ground := Ground.chain }, { on := 0, ground := Ground.phase }, { on := 1, ground := Ground.phase }, { on := 2, ground := Ground.phase }, { on := 3, ground := Ground.phase }, { on := 4, ground := Ground.phase }, { on := 5, ground := Ground.phase }, { on := 6, ground := Ground.phase }, { on := 7, ground := Ground.phase }, { on := 8, ground := Ground.phase }, { on := 9, ground := Ground.phase }, { on := 10, ground := Ground.phase }, { on := 11, ground := Ground.phase }, { on := 12, ground := Ground.textOnly Departure.lateStores }, { on := 13, ground := Ground.phase }, { on := 14, ground := Ground.phase }], guard := none }) (v := ?vl16) rfl (by kernel_rfl) (by kernel_rfl) (by kernel_rfl) (fun _ _ _ h => h) (Or.inl ⟨by rfl, ?yl16⟩) bu15 ?rl16
        case yl16 => (intro w hSw; go_simp; try with_reducible rfl)
        try simp only [Act.put, List.setIfInBounds_toArray, List.set_cons_zero, List.set_cons_succ]
        refine wpAnyH_take (i := 16) (oi := { dst := some 6, op := Op.assign (Operand.tmp 19), type := 4, pos := "delta.go:157", after := #[{ on := 12, ground := Ground.data }, { on := 15, ground := Ground.chain }, { on := 0, ground := Ground.phase }, { on := 1, ground := Ground.phase }, { on := 2, ground := Ground.phase }, { on := 3, ground := Ground.phase }, { on := 4, ground := Ground.phase }, { on := 5, ground := Ground.phase }, { on := 6, ground := Ground.phase }, { on := 7, ground := Ground.phase }, { on := 8, ground := Ground.phase }, { on := 9, ground := Ground.phase }, { on := 10, ground := Ground.phase }, { on := 11, ground := Ground.phase }, { on := 12, ground := Ground.phase }, { on := 13, ground := Ground.phase }, { on := 14, ground := Ground.phase }, { on := 15, ground := Ground.phase }], guard := none }) (v := ?vl17) rfl (by kernel_rfl) (by kernel_rfl) (by kernel_rfl) (fun _ _ _ h => h) (Or.inl ⟨by rfl, ?yl17⟩) bu15 ?rl17
        case yl17 => (intro w hSw; go_simp; try with_reducible rfl)
        try simp only [Act.put, List.setIfInBounds_toArray, List.set_cons_zero, List.set_cons_succ]
        refine wpAnyH_done (by kernel_rfl) ?_ _
        have F2 : Hid (From W0 u15) := bu15
        have LO2 : Hid (W0.heap.size ≤ u9.heap.size) := LO.out
        have GX2 : Hid (u15.heap[u9.heap.size]? = some (.cells #[.bool x.c, .int .i64 x.a, .int .i64 x.n, .slice ua nd uc] 46 (0, 0))) := GX.out
        clear GX LO GO
        try clear BA
        try clear BN
        clear SX1 OW1
        generalize u9.heap.size = ob at *
        obtain ⟨w2, hw2⟩ : ∃ w2, w2 = u15 := ⟨_, rfl⟩
        rw [← hw2] at F2 GX2 OW2 SX2 ⊢
        clear hw2
        have FE : Hid (∀ W, From w2 W → W.cell? ⟨ob, 0, none⟩ = some (.bool x.c) ∧ W.cell? ⟨ob, 1, none⟩ = some (.int .i64 x.a) ∧ W.cell? ⟨ob, 2, none⟩ = some (.int .i64 x.n) ∧ W.cell? ⟨ob, 3, none⟩ = some (.slice ua nd uc)) := fun W hb => cell4 ((Below.block hb _ (Array.getElem?_eq_some_iff.1 GX2.out).1).trans GX2.out)
        have FD : Hid (∀ W, From w2 W → DB W g old made (.slice a L c) er) := fun W hb => HDG.out W (F2.out.trans (Below.mono hb F2.out.size))
        have FX : Hid (∀ W, From w2 W → Below w.heap.size w W ∧ Ow W W0.heap.size (.slice ua nd uc) x.d ∧ SlX W (.slice va nv vc) (b.drop k) ∧ W.heap[w.heap.size]? = some (.cells zop 46 (0, 0)) ∧ W.heap[ob]? = some (.cells #[.bool x.c, .int .i64 x.a, .int .i64 x.n, .slice ua nd uc] 46 (0, 0))) := fun W hb => ⟨FB.out W (F2.out.trans (Below.mono hb F2.out.size)), OW2.out.below hb, SX2.out.kept hb, FG.out W (F2.out.trans (Below.mono hb F2.out.size)), (Below.block hb _ (Array.getElem?_eq_some_iff.1 GX2.out).1).trans GX2.out⟩
        have HYW : Hid (IntKind.i64.wrap (65536 - made) = 65536 - made) := by unfold Hid; rw [IntKind.wrap_i64]; omega
        clear FB FG HDG FT CO OW2 SX2 F2 GX2
        go_wp2_with fail
        refine wp_region_held_drew (S := From w2) (by kernel_rfl) ((Below.refl _ _).drew) (fun _ => ?_)
        refine wpAnyH_on ((Below.refl _ _).drew) (fun u0 hu0 bu0 => ?_)
        replace FE := on FE bu0
        replace FD := on FD bu0
        replace FX := on FX bu0
        refine wpAnyH_take (i := 0) (oi := { dst := some 23, op := Op.load 46 (Operand.tmp 4), type := 46, pos := "delta.go:161", after := #[], guard := none }) (v := ?vm11) rfl (by kernel_rfl) (by kernel_rfl) (by kernel_rfl) (fun _ _ _ h => h) (Or.inl ⟨by rfl, ?ym11⟩) (Below.refl _ _) ?rm11
        case ym11 => (intro w hSw; obtain ⟨t0, t1, t2, t3⟩ := FE.out w hSw; go_simp; try with_reducible rfl)
        try simp only [Act.put, List.setIfInBounds_toArray, List.set_cons_zero, List.set_cons_succ]
        refine wpAnyH_take (i := 2) (oi := { dst := some 25, op := Op.move (Operand.tmp 0), type := 24, pos := "delta.go:161", after := #[], guard := none }) (v := ?vm12) rfl (by kernel_rfl) (by kernel_rfl) (by kernel_rfl) (fun _ _ _ h => h) (Or.inl ⟨by rfl, ?ym12⟩) (Below.refl _ _) ?rm12
        case ym12 => (intro w hSw; go_simp; try with_reducible rfl)
        try simp only [Act.put, List.setIfInBounds_toArray, List.set_cons_zero, List.set_cons_succ]
        refine wpAnyH_take (i := 3) (oi := { dst := some 26, op := Op.nilCheck (Operand.tmp 25), type := 0, pos := "delta.go:161", after := #[{ on := 2, ground := Ground.data }], guard := none }) (v := ?vm13) rfl (by kernel_rfl) (by kernel_rfl) (by kernel_rfl) (fun _ _ _ h => h) (Or.inl ⟨by rfl, ?ym13⟩) (Below.refl _ _) ?rm13
        case ym13 => (intro w hSw; go_simp; try with_reducible rfl)
        try simp only [Act.put, List.setIfInBounds_toArray, List.set_cons_zero, List.set_cons_succ]
        refine wpAnyH_take (i := 4) (oi := { dst := some 27, op := Op.fieldAddr 48 (Operand.tmp 26) 1, type := 0, pos := "delta.go:161", after := #[{ on := 3, ground := Ground.data }], guard := none }) (v := ?vm14) rfl (by kernel_rfl) (by kernel_rfl) (by kernel_rfl) (fun _ _ _ h => h) (Or.inl ⟨by rfl, ?ym14⟩) (Below.refl _ _) ?rm14
        case ym14 => (intro w hSw; go_simp; try with_reducible rfl)
        try simp only [Act.put, List.setIfInBounds_toArray, List.set_cons_zero, List.set_cons_succ]
        refine wpAnyH_take (i := 5) (oi := { dst := some 28, op := Op.load 3 (Operand.tmp 27), type := 3, pos := "delta.go:161", after := #[{ on := 4, ground := Ground.data }], guard := none }) (v := ?vm15) rfl (by kernel_rfl) (by kernel_rfl) (by kernel_rfl) (fun _ _ _ h => h) (Or.inl ⟨by rfl, ?ym15⟩) (Below.refl _ _) ?rm15
        case ym15 => (intro w hSw; have t1 := (FD.out w hSw).cells.2.1; go_simp; try with_reducible rfl)
        try simp only [Act.put, List.setIfInBounds_toArray, List.set_cons_zero, List.set_cons_succ]
        refine wpAnyH_take (i := 6) (oi := { dst := some 29, op := Op.binOp BinOp.sub 3 (Operand.const (Value.int IntKind.i64 65536)) (Operand.tmp 28) 3, type := 3, pos := "delta.go:161", after := #[{ on := 5, ground := Ground.data }], guard := none }) (v := .int .i64 (65536 - made)) rfl (by kernel_rfl) (by kernel_rfl) (by kernel_rfl) (fun _ _ _ h => h) (Or.inl ⟨by rfl, ?ym16⟩) (Below.refl _ _) ?rm16
        case ym16 => (intro w hSw; have yw := HYW.out; go_simp; try with_reducible rfl)
        try simp only [Act.put, List.setIfInBounds_toArray, List.set_cons_zero, List.set_cons_succ]
        refine wpAnyH_ready (rs := [1]) (by kernel_rfl) (by simp) ?_
        refine AllReadyH.cons (o := { dst := some 24, op := Op.call { callee := Callee.value (Operand.func 25), args := #[Operand.tmp 23], argTypes := #[46] }, type := 3, pos := "delta.go:161", after := #[{ on := 0, ground := Ground.data }], guard := none }) rfl (fun KK hKK => ?_) ?_
        · go_simp
          refine (CM.out _ _ _).mono ?_
          rintro e u7' ⟨rfl, bu7'⟩
          (try go_wp2_with fail)
          refine hKK.out _ _ (bu7') (fun _ => ?_)
          clear hKK KK
          try simp only [Act.put, List.setIfInBounds_toArray, List.set_cons_zero, List.set_cons_succ]
          refine wpAnyH_on (bu7') (fun u7 hu7 bu7 => ?_)
          replace FE := on FE bu7
          replace FD := on FD bu7
          replace FX := on FX bu7
          have F3 : Hid (From w2 u7) := by unfold Hid; exact (bu0.trans (Below.mono bu7 bu0.size))
          refine wpAnyH_take (i := 7) (oi := { dst := some 30, op := Op.binOp BinOp.gtr 3 (Operand.tmp 24) (Operand.tmp 29) 3, type := 4, pos := "delta.go:161", after := #[{ on := 1, ground := Ground.data }, { on := 6, ground := Ground.data }], guard := none }) (v := .bool true) rfl (by kernel_rfl) (by kernel_rfl) (by kernel_rfl) (fun _ _ _ h => h) (Or.inl ⟨by rfl, ?ym18⟩) (Below.refl _ _) ?rm18
          case ym18 => (intro w hSw; have yl := HYL.out; go_simp; try with_reducible rfl)
          try simp only [Act.put, List.setIfInBounds_toArray, List.set_cons_zero, List.set_cons_succ]
          refine wpAnyH_done (by kernel_rfl) ?_ _
          have BZ := (FX.out _ (Below.refl _ _)).1
          have HBZ : Hid (Below w.heap.size w u7) := BZ
          clear BZ FX FD FE
          go_wp2
          exact ⟨rfl, rfl, HBZ.out⟩
        exact AllReadyH.nil
      exact AllReadyH.nil
    exact AllReadyH.nil
  refine AllReadyH.cons (o := { dst := some 4, op := Op.alloc 46, type := 0, pos := "delta.go:157", after := #[], guard := none }) rfl (fun KK hKK => ?_) ?_
  · go_simp
    refine hKK.out _ _ (bu0.trans (Below.mono (al_below _ _) bu0.size)) (fun _ => ?_)
    clear hKK KK
    try simp only [Act.put, List.setIfInBounds_toArray, List.set_cons_zero, List.set_cons_succ]
    refine wpAnyH_name (fun u18 hu18 => ?_)
    have bu18 : Below W0.heap.size W0 u18 := by rw [hu18.out]; exact (bu0.trans (Below.mono (al_below _ _) bu0.size))
    have GO : Hid (∀ W, Below u18.heap.size u18 W → W.heap[u0.heap.size]? = some (.cells zop 46 (0, 0))) := alo hu18.out
    have LO : Hid (W0.heap.size ≤ u0.heap.size) := Below.size bu0
    have BA : Hid (Below u0.heap.size u0 u18) := by unfold Hid; rw [hu18.out]; exact al_below _ _
    refine wpAnyH_ready (rs := [8]) (by kernel_rfl) (by simp) ?_
    refine AllReadyH.cons (o := { dst := some 16, op := Op.call { callee := Callee.value (Operand.func 35), args := #[Operand.tmp 11, Operand.tmp 15], argTypes := #[26, 3] }, type := 66, pos := "delta.go:157", after := #[{ on := 3, ground := Ground.data }, { on := 7, ground := Ground.data }], guard := none }) rfl (fun KK hKK => ?_) ?_
    · go_simp
      refine (CO.out _ bu18).mono ?_
      rintro e u19' ⟨bu19', hp⟩
      simp only at hp
      obtain ⟨ua, uc, v1, rfl, ow1, sx1, ob1⟩ := hp
      obtain ⟨va, vc, rfl, -⟩ := id sx1.1
      obtain ⟨nv, hnv⟩ : ∃ nv, nv = (b.drop k).length := ⟨_, rfl⟩
      rw [← hnv] at sx1 ob1 ⊢
      clear hnv
      rw [← HND.out] at ow1 ⊢
      (try go_wp2_with fail)
      refine hKK.out _ _ (bu18.trans (Below.mono (bu19') bu18.size)) (fun _ => ?_)
      clear hKK KK
      try simp only [Act.put, List.setIfInBounds_toArray, List.set_cons_zero, List.set_cons_succ]
      refine wpAnyH_name (fun u19 hu19 => ?_)
      have bu19 : Below W0.heap.size W0 u19 := by rw [hu19.out]; exact (bu18.trans (Below.mono (bu19') bu18.size))
      have BN : Hid (Below u18.heap.size u18 u19) := by unfold Hid; rw [hu19.out]; exact bu19'
      have OW1 : Hid (Ow u19 W0.heap.size (.slice ua nd uc) x.d) := by unfold Hid; rw [hu19.out]; exact ow1.mono (Below.size bu18)
      have SX1 : Hid (SlX u19 (.slice va nv vc) (b.drop k)) := by unfold Hid; rw [hu19.out]; exact sx1
      have OB1 : Hid ((Value.slice va nv vc).ownBlock = (Value.slice a L c).ownBlock) := ob1
      clear ow1 sx1 ob1
      refine wpAnyH_take (i := 9) (oi := { dst := some 7, op := Op.move (Operand.tmp 16), type := 66, pos := "delta.go:157", after := #[{ on := 8, ground := Ground.data }], guard := none }) (v := ?vl20) rfl (by kernel_rfl) (by kernel_rfl) (by kernel_rfl) (fun _ _ _ h => h) (Or.inl ⟨by rfl, ?yl20⟩) bu19 ?rl20
      case yl20 => (intro w hSw; go_simp; try with_reducible rfl)
      try simp only [Act.put, List.setIfInBounds_toArray, List.set_cons_zero, List.set_cons_succ]
      refine wpAnyH_take (i := 10) (oi := { dst := some 17, op := Op.extract (Operand.tmp 7) 0, type := 46, pos := "delta.go:157", after := #[{ on := 9, ground := Ground.data }], guard := none }) (v := ?vl21) rfl (by kernel_rfl) (by kernel_rfl) (by kernel_rfl) (fun _ _ _ h => h) (Or.inl ⟨by rfl, ?yl21⟩) bu19 ?rl21
      case yl21 => (intro w hSw; go_simp; try with_reducible rfl)
      try simp only [Act.put, List.setIfInBounds_toArray, List.set_cons_zero, List.set_cons_succ]
      refine wpAnyH_take (i := 11) (oi := { dst := some 18, op := Op.extract (Operand.tmp 7) 1, type := 26, pos := "delta.go:157", after := #[{ on := 9, ground := Ground.data }, { on := 14, ground := Ground.gcOnly Departure.lateStores }], guard := none }) (v := ?vl22) rfl (by kernel_rfl) (by kernel_rfl) (by kernel_rfl) (fun _ _ _ h => h) (Or.inl ⟨by rfl, ?yl22⟩) bu19 ?rl22
      case yl22 => (intro w hSw; go_simp; try with_reducible rfl)
      try simp only [Act.put, List.setIfInBounds_toArray, List.set_cons_zero, List.set_cons_succ]
      refine wpAnyH_take (i := 12) (oi := { dst := some 19, op := Op.extract (Operand.tmp 7) 2, type := 4, pos := "delta.go:157", after := #[{ on := 9, ground := Ground.data }, { on := 15, ground := Ground.gcOnly Departure.lateStores }], guard := none }) (v := ?vl23) rfl (by kernel_rfl) (by kernel_rfl) (by kernel_rfl) (fun _ _ _ h => h) (Or.inl ⟨by rfl, ?yl23⟩) bu19 ?rl23
      case yl23 => (intro w hSw; go_simp; try with_reducible rfl)
      try simp only [Act.put, List.setIfInBounds_toArray, List.set_cons_zero, List.set_cons_succ]
      refine wpAnyH_ready (rs := [14]) (by kernel_rfl) (by simp) ?_
      refine AllReadyH.cons (o := { dst := none, op := Op.store 46 (Operand.tmp 4) (Operand.tmp 17), type := 0, pos := "delta.go:157", after := #[{ on := 13, ground := Ground.data }, { on := 10, ground := Ground.data }, { on := 8, ground := Ground.chain }, { on := 0, ground := Ground.phase }, { on := 1, ground := Ground.phase }, { on := 2, ground := Ground.phase }, { on := 3, ground := Ground.phase }, { on := 4, ground := Ground.phase }, { on := 5, ground := Ground.phase }, { on := 6, ground := Ground.phase }, { on := 7, ground := Ground.phase }, { on := 8, ground := Ground.phase }, { on := 9, ground := Ground.phase }, { on := 10, ground := Ground.phase }, { on := 11, ground := Ground.textOnly Departure.lateStores }, { on := 12, ground := Ground.textOnly Departure.lateStores }, { on := 13, ground := Ground.phase }], guard := none }) rfl (fun KK hKK => ?_) ?_
      · have go1 : u19.heap[u0.heap.size]? = some (.cells zop 46 (0, 0)) := by first | exact GO.out u19 (Below.refl _ _) | exact GO.out u19 BN.out
        have f0 : ∀ i, u19.frozen? ⟨u0.heap.size, i, none⟩ = false := fun i => frozen_of_row _ _ _ _ _ go1
        obtain ⟨d0, d1, d2, d3⟩ := cell4 go1
        go_simp
        try rw [st4_eq]
        refine hKK.out _ _ (Below.trans bu19 (st4_below _ _ _ _ _ _ _ LO.out)) (fun _ => ?_)
        clear hKK KK
        try simp only [Act.put]
        refine wpAnyH_name (fun u24 hu24 => ?_)
        have bu24 : Below W0.heap.size W0 u24 := by rw [hu24.out]; exact (Below.trans bu19 (st4_below _ _ _ _ _ _ _ LO.out))
        have go2 : u19.heap[u0.heap.size]? = some (.cells zop 46 (0, 0)) := by first | exact GO.out u19 (Below.refl _ _) | exact GO.out u19 BN.out
        have GX : Hid (u24.heap[u0.heap.size]? = some (.cells #[.bool x.c, .int .i64 x.a, .int .i64 x.n, .slice ua nd uc] 46 (0, 0))) := by unfold Hid; rw [hu24.out]; exact st4_block _ _ _ _ _ _ go2
        have OW2 : Hid (Ow u24 W0.heap.size (.slice ua nd uc) x.d) := by unfold Hid; rw [hu24.out]; exact ow_off (by first | exact OW1.out | exact OW1.out.below BA.out) (fun k hk => st4_other _ _ _ _ _ _ k hk) go2 (by decide)
        have SX2 : Hid (SlX u24 (.slice va nv vc) (b.drop k)) := by unfold Hid; rw [hu24.out]; exact slx_off (by first | exact SX1.out | exact SX1.out.kept BA.out) (fun k hk => st4_other _ _ _ _ _ _ k hk) go2 (op_u8 _ _ _ _ _ _)
        clear go2
        refine wpAnyH_take (i := 15) (oi := { dst := some 5, op := Op.assign (Operand.tmp 18), type := 26, pos := "delta.go:157", after := #[{ on := 11, ground := Ground.data }, { on := 14, ground := Ground.chain }, { on := 0, ground := Ground.phase }, { on := 1, ground := Ground.phase }, { on := 2, ground := Ground.phase }, { on := 3, ground := Ground.phase }, { on := 4, ground := Ground.phase }, { on := 5, ground := Ground.phase }, { on := 6, ground := Ground.phase }, { on := 7, ground := Ground.phase }, { on := 8, ground := Ground.phase }, { on := 9, ground := Ground.phase }, { on := 10, ground := Ground.phase }, { on := 11, ground := Ground.phase }, { on := 12, ground := Ground.textOnly Departure.lateStores }, { on := 13, ground := Ground.phase }, { on := 14, ground := Ground.phase }], guard := none }) (v := ?vl25) rfl (by kernel_rfl) (by kernel_rfl) (by kernel_rfl) (fun _ _ _ h => h) (Or.inl ⟨by rfl, ?yl25⟩) bu24 ?rl25
        case yl25 => (intro w hSw; go_simp; try with_reducible rfl)
        try simp only [Act.put, List.setIfInBounds_toArray, List.set_cons_zero, List.set_cons_succ]
        refine wpAnyH_take (i := 16) (oi := { dst := some 6, op := Op.assign (Operand.tmp 19), type := 4, pos := "delta.go:157", after := #[{ on := 12, ground := Ground.data }, { on := 15, ground := Ground.chain }, { on := 0, ground := Ground.phase }, { on := 1, ground := Ground.phase }, { on := 2, ground := Ground.phase }, { on := 3, ground := Ground.phase }, { on := 4, ground := Ground.phase }, { on := 5, ground := Ground.phase }, { on := 6, ground := Ground.phase }, { on := 7, ground := Ground.phase }, { on := 8, ground := Ground.phase }, { on := 9, ground := Ground.phase }, { on := 10, ground := Ground.phase }, { on := 11, ground := Ground.phase }, { on := 12, ground := Ground.phase }, { on := 13, ground := Ground.phase }, { on := 14, ground := Ground.phase }, { on := 15, ground := Ground.phase }], guard := none }) (v := ?vl26) rfl (by kernel_rfl) (by kernel_rfl) (by kernel_rfl) (fun _ _ _ h => h) (Or.inl ⟨by rfl, ?yl26⟩) bu24 ?rl26
        case yl26 => (intro w hSw; go_simp; try with_reducible rfl)
        try simp only [Act.put, List.setIfInBounds_toArray, List.set_cons_zero, List.set_cons_succ]
        refine wpAnyH_done (by kernel_rfl) ?_ _
        have F2 : Hid (From W0 u24) := bu24
        have LO2 : Hid (W0.heap.size ≤ u0.heap.size) := LO.out
        have GX2 : Hid (u24.heap[u0.heap.size]? = some (.cells #[.bool x.c, .int .i64 x.a, .int .i64 x.n, .slice ua nd uc] 46 (0, 0))) := GX.out
        clear GX LO GO
        try clear BA
        try clear BN
        clear SX1 OW1
        generalize u0.heap.size = ob at *
        obtain ⟨w2, hw2⟩ : ∃ w2, w2 = u24 := ⟨_, rfl⟩
        rw [← hw2] at F2 GX2 OW2 SX2 ⊢
        clear hw2
        have FE : Hid (∀ W, From w2 W → W.cell? ⟨ob, 0, none⟩ = some (.bool x.c) ∧ W.cell? ⟨ob, 1, none⟩ = some (.int .i64 x.a) ∧ W.cell? ⟨ob, 2, none⟩ = some (.int .i64 x.n) ∧ W.cell? ⟨ob, 3, none⟩ = some (.slice ua nd uc)) := fun W hb => cell4 ((Below.block hb _ (Array.getElem?_eq_some_iff.1 GX2.out).1).trans GX2.out)
        have FD : Hid (∀ W, From w2 W → DB W g old made (.slice a L c) er) := fun W hb => HDG.out W (F2.out.trans (Below.mono hb F2.out.size))
        have FX : Hid (∀ W, From w2 W → Below w.heap.size w W ∧ Ow W W0.heap.size (.slice ua nd uc) x.d ∧ SlX W (.slice va nv vc) (b.drop k) ∧ W.heap[w.heap.size]? = some (.cells zop 46 (0, 0)) ∧ W.heap[ob]? = some (.cells #[.bool x.c, .int .i64 x.a, .int .i64 x.n, .slice ua nd uc] 46 (0, 0))) := fun W hb => ⟨FB.out W (F2.out.trans (Below.mono hb F2.out.size)), OW2.out.below hb, SX2.out.kept hb, FG.out W (F2.out.trans (Below.mono hb F2.out.size)), (Below.block hb _ (Array.getElem?_eq_some_iff.1 GX2.out).1).trans GX2.out⟩
        have HYW : Hid (IntKind.i64.wrap (65536 - made) = 65536 - made) := by unfold Hid; rw [IntKind.wrap_i64]; omega
        clear FB FG HDG FT CO OW2 SX2 F2 GX2
        go_wp2_with fail
        refine wp_region_held_drew (S := From w2) (by kernel_rfl) ((Below.refl _ _).drew) (fun _ => ?_)
        refine wpAnyH_on ((Below.refl _ _).drew) (fun u0 hu0 bu0 => ?_)
        replace FE := on FE bu0
        replace FD := on FD bu0
        replace FX := on FX bu0
        refine wpAnyH_take (i := 0) (oi := { dst := some 23, op := Op.load 46 (Operand.tmp 4), type := 46, pos := "delta.go:161", after := #[], guard := none }) (v := ?vm21) rfl (by kernel_rfl) (by kernel_rfl) (by kernel_rfl) (fun _ _ _ h => h) (Or.inl ⟨by rfl, ?ym21⟩) (Below.refl _ _) ?rm21
        case ym21 => (intro w hSw; obtain ⟨t0, t1, t2, t3⟩ := FE.out w hSw; go_simp; try with_reducible rfl)
        try simp only [Act.put, List.setIfInBounds_toArray, List.set_cons_zero, List.set_cons_succ]
        refine wpAnyH_take (i := 2) (oi := { dst := some 25, op := Op.move (Operand.tmp 0), type := 24, pos := "delta.go:161", after := #[], guard := none }) (v := ?vm22) rfl (by kernel_rfl) (by kernel_rfl) (by kernel_rfl) (fun _ _ _ h => h) (Or.inl ⟨by rfl, ?ym22⟩) (Below.refl _ _) ?rm22
        case ym22 => (intro w hSw; go_simp; try with_reducible rfl)
        try simp only [Act.put, List.setIfInBounds_toArray, List.set_cons_zero, List.set_cons_succ]
        refine wpAnyH_take (i := 3) (oi := { dst := some 26, op := Op.nilCheck (Operand.tmp 25), type := 0, pos := "delta.go:161", after := #[{ on := 2, ground := Ground.data }], guard := none }) (v := ?vm23) rfl (by kernel_rfl) (by kernel_rfl) (by kernel_rfl) (fun _ _ _ h => h) (Or.inl ⟨by rfl, ?ym23⟩) (Below.refl _ _) ?rm23
        case ym23 => (intro w hSw; go_simp; try with_reducible rfl)
        try simp only [Act.put, List.setIfInBounds_toArray, List.set_cons_zero, List.set_cons_succ]
        refine wpAnyH_take (i := 4) (oi := { dst := some 27, op := Op.fieldAddr 48 (Operand.tmp 26) 1, type := 0, pos := "delta.go:161", after := #[{ on := 3, ground := Ground.data }], guard := none }) (v := ?vm24) rfl (by kernel_rfl) (by kernel_rfl) (by kernel_rfl) (fun _ _ _ h => h) (Or.inl ⟨by rfl, ?ym24⟩) (Below.refl _ _) ?rm24
        case ym24 => (intro w hSw; go_simp; try with_reducible rfl)
        try simp only [Act.put, List.setIfInBounds_toArray, List.set_cons_zero, List.set_cons_succ]
        refine wpAnyH_take (i := 5) (oi := { dst := some 28, op := Op.load 3 (Operand.tmp 27), type := 3, pos := "delta.go:161", after := #[{ on := 4, ground := Ground.data }], guard := none }) (v := ?vm25) rfl (by kernel_rfl) (by kernel_rfl) (by kernel_rfl) (fun _ _ _ h => h) (Or.inl ⟨by rfl, ?ym25⟩) (Below.refl _ _) ?rm25
        case ym25 => (intro w hSw; have t1 := (FD.out w hSw).cells.2.1; go_simp; try with_reducible rfl)
        try simp only [Act.put, List.setIfInBounds_toArray, List.set_cons_zero, List.set_cons_succ]
        refine wpAnyH_take (i := 6) (oi := { dst := some 29, op := Op.binOp BinOp.sub 3 (Operand.const (Value.int IntKind.i64 65536)) (Operand.tmp 28) 3, type := 3, pos := "delta.go:161", after := #[{ on := 5, ground := Ground.data }], guard := none }) (v := .int .i64 (65536 - made)) rfl (by kernel_rfl) (by kernel_rfl) (by kernel_rfl) (fun _ _ _ h => h) (Or.inl ⟨by rfl, ?ym26⟩) (Below.refl _ _) ?rm26
        case ym26 => (intro w hSw; have yw := HYW.out; go_simp; try with_reducible rfl)
        try simp only [Act.put, List.setIfInBounds_toArray, List.set_cons_zero, List.set_cons_succ]
        refine wpAnyH_ready (rs := [1]) (by kernel_rfl) (by simp) ?_
        refine AllReadyH.cons (o := { dst := some 24, op := Op.call { callee := Callee.value (Operand.func 25), args := #[Operand.tmp 23], argTypes := #[46] }, type := 3, pos := "delta.go:161", after := #[{ on := 0, ground := Ground.data }], guard := none }) rfl (fun KK hKK => ?_) ?_
        · go_simp
          refine (CM.out _ _ _).mono ?_
          rintro e u7' ⟨rfl, bu7'⟩
          (try go_wp2_with fail)
          refine hKK.out _ _ (bu7') (fun _ => ?_)
          clear hKK KK
          try simp only [Act.put, List.setIfInBounds_toArray, List.set_cons_zero, List.set_cons_succ]
          refine wpAnyH_on (bu7') (fun u7 hu7 bu7 => ?_)
          replace FE := on FE bu7
          replace FD := on FD bu7
          replace FX := on FX bu7
          have F3 : Hid (From w2 u7) := by unfold Hid; exact (bu0.trans (Below.mono bu7 bu0.size))
          refine wpAnyH_take (i := 7) (oi := { dst := some 30, op := Op.binOp BinOp.gtr 3 (Operand.tmp 24) (Operand.tmp 29) 3, type := 4, pos := "delta.go:161", after := #[{ on := 1, ground := Ground.data }, { on := 6, ground := Ground.data }], guard := none }) (v := .bool true) rfl (by kernel_rfl) (by kernel_rfl) (by kernel_rfl) (fun _ _ _ h => h) (Or.inl ⟨by rfl, ?ym28⟩) (Below.refl _ _) ?rm28
          case ym28 => (intro w hSw; have yl := HYL.out; go_simp; try with_reducible rfl)
          try simp only [Act.put, List.setIfInBounds_toArray, List.set_cons_zero, List.set_cons_succ]
          refine wpAnyH_done (by kernel_rfl) ?_ _
          have BZ := (FX.out _ (Below.refl _ _)).1
          have HBZ : Hid (Below w.heap.size w u7) := BZ
          clear BZ FX FD FE
          go_wp2
          exact ⟨rfl, rfl, HBZ.out⟩
        exact AllReadyH.nil
      exact AllReadyH.nil
    exact AllReadyH.nil
  exact AllReadyH.nil
set_option maxHeartbeats 8000000 in
theorem take_op (g : Nat) (old made : Int) (v : Value) (er : Int) (b : List Int) (w : World) (hd : DB w g old made v er) (h : SlX w v b) (ht : Fi.Wid w) (ho : old ≤ 9223372036854775807) (x : Xp) (k : Nat) (hk : opA old b = .op x k) (h0 : 0 ≤ made) (h1 : made ≤ 65536) (hl : ¬ 65536 - made < mkX x) :
    Calls Tryd.prog 28 #[.pointer (some ⟨g, 0, none⟩)] w fun e w' => ∃ ua uc v', e = .returned (.tuple #[xval x ua x.d.length uc, .bool true]) ∧ Ow w' w.heap.size (.slice ua x.d.length uc) x.d ∧ SlX w' v' (b.drop k) ∧ DB w' g old (made + mkX x) v' er ∧ v'.ownBlock = v.ownBlock ∧ Kp g none w w' := by
  obtain ⟨W0, hW0⟩ : ∃ W0, W0 = w.alloc (.cells zop 46) := ⟨_, rfl⟩
  have b0 : Below w.heap.size w W0 := by rw [hW0]; exact al_below _ _
  have g0 : W0.heap[w.heap.size]? = some (.cells zop 46 (0, 0)) := by rw [hW0]; exact heap_alloc_new _ _
  have l0 : w.heap.size < W0.heap.size := by rw [hW0]; simp
  have FT : Hid (∀ W, From W0 W → W.cell? ⟨g, 2, none⟩ = some v ∧ W.cell? ⟨g, 0, none⟩ = some (.int .i64 old)) := fun W hb => by
    obtain ⟨k0, k1, k2, k3⟩ := ((hd.kept b0).kept hb).cells
    exact ⟨k2, k0⟩
  have FB : Hid (∀ W, From W0 W → Below w.heap.size w W) := fun W hb => b0.trans (Below.mono hb b0.size)
  have FG : Hid (∀ W, From W0 W → W.heap[w.heap.size]? = some (.cells zop 46 (0, 0))) := fun W hb => (Below.block hb _ l0).trans g0
  have CO : Hid (∀ W, From W0 W → Calls Tryd.prog 35 #[v, .int .i64 old] W fun e w' => TP (.op x k) v b W e w') := fun W hb => by
    have := opA_any v b old W (h.kept (b0.trans (Below.mono hb b0.size))) (Wid.kept ht (b0.trans (Below.mono hb b0.size))) ho
    rwa [hk] at this
  obtain ⟨a, c, rfl, -⟩ := id h.1
  have HDG : Hid (∀ W, From W0 W → DB W g old made (.slice a b.length c) er) := fun W hb => (hd.kept b0).kept hb
  have hgl : g < w.heap.size := hd.lt
  have CM : Hid (∀ ua uc W, Calls Tryd.prog 25 #[xval x ua x.d.length uc] W fun e w' => e = .returned (.int .i64 (mkX x)) ∧ Below W.heap.size W w') := fun ua uc W => makes_any x ua x.d.length uc W rfl
  have HL0 : Hid (w.heap.size < W0.heap.size) := l0
  have hmx := mkX_pos x
  clear hd h ht ho hk b0 g0 l0
  generalize b.length = L at *
  generalize mkX x = mx at *
  obtain ⟨nd, hnd⟩ : ∃ nd, nd = x.d.length := ⟨_, rfl⟩
  have HND : Hid (nd = x.d.length) := hnd
  rw [← hnd] at CM
  rw [← hnd]
  clear hnd
  have HYL : Hid (decide (65536 - made < mx) = false) := by unfold Hid; simpa using hl
  go_enter Tryd.func28, Tryd.ntmps28
  go_wp2_with fail
  rw [← hW0]
  clear hW0
  refine wp_region_held_drew (S := From W0) (by kernel_rfl) (Below.drew (Below.refl _ _)) (fun _ => ?_)
  refine wpAnyH_name (fun u0 hu0 => ?_)
  have bu0 : Below W0.heap.size W0 u0 := by rw [hu0.out]; exact Below.drew (Below.refl _ _)
  refine wpAnyH_take (i := 0) (oi := { dst := some 8, op := Op.move (Operand.tmp 0), type := 24, pos := "delta.go:157", after := #[], guard := none }) (v := ?vo1) rfl (by kernel_rfl) (by kernel_rfl) (by kernel_rfl) (fun _ _ _ h => h) (Or.inl ⟨by rfl, ?yo1⟩) bu0 ?ro1
  case yo1 => (intro w hSw; go_simp; try with_reducible rfl)
  try simp only [Act.put, List.setIfInBounds_toArray, List.set_cons_zero, List.set_cons_succ]
  refine wpAnyH_take (i := 1) (oi := { dst := some 9, op := Op.nilCheck (Operand.tmp 8), type := 0, pos := "delta.go:157", after := #[{ on := 0, ground := Ground.data }], guard := none }) (v := ?vo2) rfl (by kernel_rfl) (by kernel_rfl) (by kernel_rfl) (fun _ _ _ h => h) (Or.inl ⟨by rfl, ?yo2⟩) bu0 ?ro2
  case yo2 => (intro w hSw; go_simp; try with_reducible rfl)
  try simp only [Act.put, List.setIfInBounds_toArray, List.set_cons_zero, List.set_cons_succ]
  refine wpAnyH_take (i := 2) (oi := { dst := some 10, op := Op.fieldAddr 48 (Operand.tmp 9) 2, type := 0, pos := "delta.go:157", after := #[{ on := 1, ground := Ground.data }], guard := none }) (v := ?vo3) rfl (by kernel_rfl) (by kernel_rfl) (by kernel_rfl) (fun _ _ _ h => h) (Or.inl ⟨by rfl, ?yo3⟩) bu0 ?ro3
  case yo3 => (intro w hSw; go_simp; try with_reducible rfl)
  try simp only [Act.put, List.setIfInBounds_toArray, List.set_cons_zero, List.set_cons_succ]
  refine wpAnyH_take (i := 3) (oi := { dst := some 11, op := Op.load 26 (Operand.tmp 10), type := 26, pos := "delta.go:157", after := #[{ on := 2, ground := Ground.data }], guard := none }) (v := ?vo4) rfl (by kernel_rfl) (by kernel_rfl) (by kernel_rfl) (fun _ _ _ h => h) (Or.inl ⟨by rfl, ?yo4⟩) bu0 ?ro4
  case yo4 => (intro w hSw; obtain ⟨t2, t0⟩ := FT.out w hSw; go_simp; try with_reducible rfl)
  try simp only [Act.put, List.setIfInBounds_toArray, List.set_cons_zero, List.set_cons_succ]
  refine wpAnyH_take (i := 4) (oi := { dst := some 12, op := Op.move (Operand.tmp 0), type := 24, pos := "delta.go:157", after := #[], guard := none }) (v := ?vo5) rfl (by kernel_rfl) (by kernel_rfl) (by kernel_rfl) (fun _ _ _ h => h) (Or.inl ⟨by rfl, ?yo5⟩) bu0 ?ro5
  case yo5 => (intro w hSw; go_simp; try with_reducible rfl)
  try simp only [Act.put, List.setIfInBounds_toArray, List.set_cons_zero, List.set_cons_succ]
  refine wpAnyH_take (i := 5) (oi := { dst := some 13, op := Op.nilCheck (Operand.tmp 12), type := 0, pos := "delta.go:157", after := #[{ on := 4, ground := Ground.data }], guard := none }) (v := ?vo6) rfl (by kernel_rfl) (by kernel_rfl) (by kernel_rfl) (fun _ _ _ h => h) (Or.inl ⟨by rfl, ?yo6⟩) bu0 ?ro6
  case yo6 => (intro w hSw; go_simp; try with_reducible rfl)
  try simp only [Act.put, List.setIfInBounds_toArray, List.set_cons_zero, List.set_cons_succ]
  refine wpAnyH_take (i := 6) (oi := { dst := some 14, op := Op.fieldAddr 48 (Operand.tmp 13) 0, type := 0, pos := "delta.go:157", after := #[{ on := 5, ground := Ground.data }], guard := none }) (v := ?vo7) rfl (by kernel_rfl) (by kernel_rfl) (by kernel_rfl) (fun _ _ _ h => h) (Or.inl ⟨by rfl, ?yo7⟩) bu0 ?ro7
  case yo7 => (intro w hSw; go_simp; try with_reducible rfl)
  try simp only [Act.put, List.setIfInBounds_toArray, List.set_cons_zero, List.set_cons_succ]
  refine wpAnyH_take (i := 7) (oi := { dst := some 15, op := Op.load 3 (Operand.tmp 14), type := 3, pos := "delta.go:157", after := #[{ on := 6, ground := Ground.data }], guard := none }) (v := ?vo8) rfl (by kernel_rfl) (by kernel_rfl) (by kernel_rfl) (fun _ _ _ h => h) (Or.inl ⟨by rfl, ?yo8⟩) bu0 ?ro8
  case yo8 => (intro w hSw; obtain ⟨t2, t0⟩ := FT.out w hSw; go_simp; try with_reducible rfl)
  try simp only [Act.put, List.setIfInBounds_toArray, List.set_cons_zero, List.set_cons_succ]
  refine wpAnyH_ready (rs := [8, 13]) (by kernel_rfl) (by simp) ?_
  refine AllReadyH.cons (o := { dst := some 16, op := Op.call { callee := Callee.value (Operand.func 35), args := #[Operand.tmp 11, Operand.tmp 15], argTypes := #[26, 3] }, type := 66, pos := "delta.go:157", after := #[{ on := 3, ground := Ground.data }, { on := 7, ground := Ground.data }], guard := none }) rfl (fun KK hKK => ?_) ?_
  · go_simp
    refine (CO.out _ bu0).mono ?_
    rintro e u9' ⟨bu9', hp⟩
    simp only at hp
    obtain ⟨ua, uc, v1, rfl, ow1, sx1, ob1⟩ := hp
    obtain ⟨va, vc, rfl, -⟩ := id sx1.1
    obtain ⟨nv, hnv⟩ : ∃ nv, nv = (b.drop k).length := ⟨_, rfl⟩
    rw [← hnv] at sx1 ob1 ⊢
    clear hnv
    rw [← HND.out] at ow1 ⊢
    (try go_wp2_with fail)
    refine hKK.out _ _ (bu0.trans (Below.mono (bu9') bu0.size)) (fun _ => ?_)
    clear hKK KK
    try simp only [Act.put, List.setIfInBounds_toArray, List.set_cons_zero, List.set_cons_succ]
    refine wpAnyH_name (fun u9 hu9 => ?_)
    have bu9 : Below W0.heap.size W0 u9 := by rw [hu9.out]; exact (bu0.trans (Below.mono (bu9') bu0.size))
    have BN : Hid (Below u0.heap.size u0 u9) := by unfold Hid; rw [hu9.out]; exact bu9'
    have OW1 : Hid (Ow u9 W0.heap.size (.slice ua nd uc) x.d) := by unfold Hid; rw [hu9.out]; exact ow1.mono (Below.size bu0)
    have SX1 : Hid (SlX u9 (.slice va nv vc) (b.drop k)) := by unfold Hid; rw [hu9.out]; exact sx1
    have OB1 : Hid ((Value.slice va nv vc).ownBlock = (Value.slice a L c).ownBlock) := ob1
    clear ow1 sx1 ob1
    refine wpAnyH_take (i := 9) (oi := { dst := some 7, op := Op.move (Operand.tmp 16), type := 66, pos := "delta.go:157", after := #[{ on := 8, ground := Ground.data }], guard := none }) (v := ?vo10) rfl (by kernel_rfl) (by kernel_rfl) (by kernel_rfl) (fun _ _ _ h => h) (Or.inl ⟨by rfl, ?yo10⟩) bu9 ?ro10
    case yo10 => (intro w hSw; go_simp; try with_reducible rfl)
    try simp only [Act.put, List.setIfInBounds_toArray, List.set_cons_zero, List.set_cons_succ]
    refine wpAnyH_take (i := 10) (oi := { dst := some 17, op := Op.extract (Operand.tmp 7) 0, type := 46, pos := "delta.go:157", after := #[{ on := 9, ground := Ground.data }], guard := none }) (v := ?vo11) rfl (by kernel_rfl) (by kernel_rfl) (by kernel_rfl) (fun _ _ _ h => h) (Or.inl ⟨by rfl, ?yo11⟩) bu9 ?ro11
    case yo11 => (intro w hSw; go_simp; try with_reducible rfl)
    try simp only [Act.put, List.setIfInBounds_toArray, List.set_cons_zero, List.set_cons_succ]
    refine wpAnyH_take (i := 11) (oi := { dst := some 18, op := Op.extract (Operand.tmp 7) 1, type := 26, pos := "delta.go:157", after := #[{ on := 9, ground := Ground.data }, { on := 14, ground := Ground.gcOnly Departure.lateStores }], guard := none }) (v := ?vo12) rfl (by kernel_rfl) (by kernel_rfl) (by kernel_rfl) (fun _ _ _ h => h) (Or.inl ⟨by rfl, ?yo12⟩) bu9 ?ro12
    case yo12 => (intro w hSw; go_simp; try with_reducible rfl)
    try simp only [Act.put, List.setIfInBounds_toArray, List.set_cons_zero, List.set_cons_succ]
    refine wpAnyH_take (i := 12) (oi := { dst := some 19, op := Op.extract (Operand.tmp 7) 2, type := 4, pos := "delta.go:157", after := #[{ on := 9, ground := Ground.data }, { on := 15, ground := Ground.gcOnly Departure.lateStores }], guard := none }) (v := ?vo13) rfl (by kernel_rfl) (by kernel_rfl) (by kernel_rfl) (fun _ _ _ h => h) (Or.inl ⟨by rfl, ?yo13⟩) bu9 ?ro13
    case yo13 => (intro w hSw; go_simp; try with_reducible rfl)
    try simp only [Act.put, List.setIfInBounds_toArray, List.set_cons_zero, List.set_cons_succ]
    refine wpAnyH_ready (rs := [13]) (by kernel_rfl) (by simp) ?_
    refine AllReadyH.cons (o := { dst := some 4, op := Op.alloc 46, type := 0, pos := "delta.go:157", after := #[], guard := none }) rfl (fun KK hKK => ?_) ?_
    · go_simp
      refine hKK.out _ _ (bu9.trans (Below.mono (al_below _ _) bu9.size)) (fun _ => ?_)
      clear hKK KK
      try simp only [Act.put, List.setIfInBounds_toArray, List.set_cons_zero, List.set_cons_succ]
      refine wpAnyH_name (fun u14 hu14 => ?_)
      have bu14 : Below W0.heap.size W0 u14 := by rw [hu14.out]; exact (bu9.trans (Below.mono (al_below _ _) bu9.size))
      have GO : Hid (∀ W, Below u14.heap.size u14 W → W.heap[u9.heap.size]? = some (.cells zop 46 (0, 0))) := alo hu14.out
      have LO : Hid (W0.heap.size ≤ u9.heap.size) := Below.size bu9
      have BA : Hid (Below u9.heap.size u9 u14) := by unfold Hid; rw [hu14.out]; exact al_below _ _
      refine wpAnyH_ready (rs := [14]) (by kernel_rfl) (by simp) ?_
      refine AllReadyH.cons (o := { dst := none, op := Op.store 46 (Operand.tmp 4) (Operand.tmp 17), type := 0, pos := "delta.go:157", after := #[{ on := 13, ground := Ground.data }, { on := 10, ground := Ground.data }, { on := 8, ground := Ground.chain }, { on := 0, ground := Ground.phase }, { on := 1, ground := Ground.phase }, { on := 2, ground := Ground.phase }, { on := 3, ground := Ground.phase }, { on := 4, ground := Ground.phase }, { on := 5, ground := Ground.phase }, { on := 6, ground := Ground.phase }, { on := 7, ground := Ground.phase }, { on := 8, ground := Ground.phase }, { on := 9, ground := Ground.phase }, { on := 10, ground := Ground.phase }, { on := 11, ground := Ground.textOnly Departure.lateStores }, { on := 12, ground := Ground.textOnly Departure.lateStores }, { on := 13, ground := Ground.phase }], guard := none }) rfl (fun KK hKK => ?_) ?_
      · have go1 : u14.heap[u9.heap.size]? = some (.cells zop 46 (0, 0)) := by first | exact GO.out u14 (Below.refl _ _) | exact GO.out u14 BN.out
        have f0 : ∀ i, u14.frozen? ⟨u9.heap.size, i, none⟩ = false := fun i => frozen_of_row _ _ _ _ _ go1
        obtain ⟨d0, d1, d2, d3⟩ := cell4 go1
        go_simp
        try rw [st4_eq]
        refine hKK.out _ _ (Below.trans bu14 (st4_below _ _ _ _ _ _ _ LO.out)) (fun _ => ?_)
        clear hKK KK
        try simp only [Act.put]
        refine wpAnyH_name (fun u15 hu15 => ?_)
        have bu15 : Below W0.heap.size W0 u15 := by rw [hu15.out]; exact (Below.trans bu14 (st4_below _ _ _ _ _ _ _ LO.out))
        have go2 : u14.heap[u9.heap.size]? = some (.cells zop 46 (0, 0)) := by first | exact GO.out u14 (Below.refl _ _) | exact GO.out u14 BN.out
        have GX : Hid (u15.heap[u9.heap.size]? = some (.cells #[.bool x.c, .int .i64 x.a, .int .i64 x.n, .slice ua nd uc] 46 (0, 0))) := by unfold Hid; rw [hu15.out]; exact st4_block _ _ _ _ _ _ go2
        have OW2 : Hid (Ow u15 W0.heap.size (.slice ua nd uc) x.d) := by unfold Hid; rw [hu15.out]; exact ow_off (by first | exact OW1.out | exact OW1.out.below BA.out) (fun k hk => st4_other _ _ _ _ _ _ k hk) go2 (by decide)
        have SX2 : Hid (SlX u15 (.slice va nv vc) (b.drop k)) := by unfold Hid; rw [hu15.out]; exact slx_off (by first | exact SX1.out | exact SX1.out.kept BA.out) (fun k hk => st4_other _ _ _ _ _ _ k hk) go2 (op_u8 _ _ _ _ _ _)
        clear go2
        refine wpAnyH_take (i := 15) (oi := { dst := some 5, op := Op.assign (Operand.tmp 18), type := 26, pos := "delta.go:157", after := #[{ on := 11, ground := Ground.data }, { on := 14, ground := Ground.chain }, { on := 0, ground := Ground.phase }, { on := 1, ground := Ground.phase }, { on := 2, ground := Ground.phase }, { on := 3, ground := Ground.phase }, { on := 4, ground := Ground.phase }, { on := 5, ground := Ground.phase }, { on := 6, ground := Ground.phase }, { on := 7, ground := Ground.phase }, { on := 8, ground := Ground.phase }, { on := 9, ground := Ground.phase }, { on := 10, ground := Ground.phase }, { on := 11, ground := Ground.phase }, { on := 12, ground := Ground.textOnly Departure.lateStores }, { on := 13, ground := Ground.phase }, { on := 14, ground := Ground.phase }], guard := none }) (v := ?vo16) rfl (by kernel_rfl) (by kernel_rfl) (by kernel_rfl) (fun _ _ _ h => h) (Or.inl ⟨by rfl, ?yo16⟩) bu15 ?ro16
        case yo16 => (intro w hSw; go_simp; try with_reducible rfl)
        try simp only [Act.put, List.setIfInBounds_toArray, List.set_cons_zero, List.set_cons_succ]
        refine wpAnyH_take (i := 16) (oi := { dst := some 6, op := Op.assign (Operand.tmp 19), type := 4, pos := "delta.go:157", after := #[{ on := 12, ground := Ground.data }, { on := 15, ground := Ground.chain }, { on := 0, ground := Ground.phase }, { on := 1, ground := Ground.phase }, { on := 2, ground := Ground.phase }, { on := 3, ground := Ground.phase }, { on := 4, ground := Ground.phase }, { on := 5, ground := Ground.phase }, { on := 6, ground := Ground.phase }, { on := 7, ground := Ground.phase }, { on := 8, ground := Ground.phase }, { on := 9, ground := Ground.phase }, { on := 10, ground := Ground.phase }, { on := 11, ground := Ground.phase }, { on := 12, ground := Ground.phase }, { on := 13, ground := Ground.phase }, { on := 14, ground := Ground.phase }, { on := 15, ground := Ground.phase }], guard := none }) (v := ?vo17) rfl (by kernel_rfl) (by kernel_rfl) (by kernel_rfl) (fun _ _ _ h => h) (Or.inl ⟨by rfl, ?yo17⟩) bu15 ?ro17
        case yo17 => (intro w hSw; go_simp; try with_reducible rfl)
        try simp only [Act.put, List.setIfInBounds_toArray, List.set_cons_zero, List.set_cons_succ]
        refine wpAnyH_done (by kernel_rfl) ?_ _
        have F2 : Hid (From W0 u15) := bu15
        have LO2 : Hid (W0.heap.size ≤ u9.heap.size) := LO.out
        have GX2 : Hid (u15.heap[u9.heap.size]? = some (.cells #[.bool x.c, .int .i64 x.a, .int .i64 x.n, .slice ua nd uc] 46 (0, 0))) := GX.out
        clear GX LO GO
        try clear BA
        try clear BN
        clear SX1 OW1
        generalize u9.heap.size = ob at *
        obtain ⟨w2, hw2⟩ : ∃ w2, w2 = u15 := ⟨_, rfl⟩
        rw [← hw2] at F2 GX2 OW2 SX2 ⊢
        clear hw2
        have FE : Hid (∀ W, From w2 W → W.cell? ⟨ob, 0, none⟩ = some (.bool x.c) ∧ W.cell? ⟨ob, 1, none⟩ = some (.int .i64 x.a) ∧ W.cell? ⟨ob, 2, none⟩ = some (.int .i64 x.n) ∧ W.cell? ⟨ob, 3, none⟩ = some (.slice ua nd uc)) := fun W hb => cell4 ((Below.block hb _ (Array.getElem?_eq_some_iff.1 GX2.out).1).trans GX2.out)
        have FD : Hid (∀ W, From w2 W → DB W g old made (.slice a L c) er) := fun W hb => HDG.out W (F2.out.trans (Below.mono hb F2.out.size))
        have FX : Hid (∀ W, From w2 W → Below w.heap.size w W ∧ Ow W W0.heap.size (.slice ua nd uc) x.d ∧ SlX W (.slice va nv vc) (b.drop k) ∧ W.heap[w.heap.size]? = some (.cells zop 46 (0, 0)) ∧ W.heap[ob]? = some (.cells #[.bool x.c, .int .i64 x.a, .int .i64 x.n, .slice ua nd uc] 46 (0, 0))) := fun W hb => ⟨FB.out W (F2.out.trans (Below.mono hb F2.out.size)), OW2.out.below hb, SX2.out.kept hb, FG.out W (F2.out.trans (Below.mono hb F2.out.size)), (Below.block hb _ (Array.getElem?_eq_some_iff.1 GX2.out).1).trans GX2.out⟩
        have HYW : Hid (IntKind.i64.wrap (65536 - made) = 65536 - made) := by unfold Hid; rw [IntKind.wrap_i64]; omega
        clear FB FG HDG FT CO OW2 SX2 F2 GX2
        go_wp2_with fail
        refine wp_region_held_drew (S := From w2) (by kernel_rfl) ((Below.refl _ _).drew) (fun _ => ?_)
        refine wpAnyH_on ((Below.refl _ _).drew) (fun u0 hu0 bu0 => ?_)
        replace FE := on FE bu0
        replace FD := on FD bu0
        replace FX := on FX bu0
        refine wpAnyH_take (i := 0) (oi := { dst := some 23, op := Op.load 46 (Operand.tmp 4), type := 46, pos := "delta.go:161", after := #[], guard := none }) (v := ?vq11) rfl (by kernel_rfl) (by kernel_rfl) (by kernel_rfl) (fun _ _ _ h => h) (Or.inl ⟨by rfl, ?yq11⟩) (Below.refl _ _) ?rq11
        case yq11 => (intro w hSw; obtain ⟨t0, t1, t2, t3⟩ := FE.out w hSw; go_simp; try with_reducible rfl)
        try simp only [Act.put, List.setIfInBounds_toArray, List.set_cons_zero, List.set_cons_succ]
        refine wpAnyH_take (i := 2) (oi := { dst := some 25, op := Op.move (Operand.tmp 0), type := 24, pos := "delta.go:161", after := #[], guard := none }) (v := ?vq12) rfl (by kernel_rfl) (by kernel_rfl) (by kernel_rfl) (fun _ _ _ h => h) (Or.inl ⟨by rfl, ?yq12⟩) (Below.refl _ _) ?rq12
        case yq12 => (intro w hSw; go_simp; try with_reducible rfl)
        try simp only [Act.put, List.setIfInBounds_toArray, List.set_cons_zero, List.set_cons_succ]
        refine wpAnyH_take (i := 3) (oi := { dst := some 26, op := Op.nilCheck (Operand.tmp 25), type := 0, pos := "delta.go:161", after := #[{ on := 2, ground := Ground.data }], guard := none }) (v := ?vq13) rfl (by kernel_rfl) (by kernel_rfl) (by kernel_rfl) (fun _ _ _ h => h) (Or.inl ⟨by rfl, ?yq13⟩) (Below.refl _ _) ?rq13
        case yq13 => (intro w hSw; go_simp; try with_reducible rfl)
        try simp only [Act.put, List.setIfInBounds_toArray, List.set_cons_zero, List.set_cons_succ]
        refine wpAnyH_take (i := 4) (oi := { dst := some 27, op := Op.fieldAddr 48 (Operand.tmp 26) 1, type := 0, pos := "delta.go:161", after := #[{ on := 3, ground := Ground.data }], guard := none }) (v := ?vq14) rfl (by kernel_rfl) (by kernel_rfl) (by kernel_rfl) (fun _ _ _ h => h) (Or.inl ⟨by rfl, ?yq14⟩) (Below.refl _ _) ?rq14
        case yq14 => (intro w hSw; go_simp; try with_reducible rfl)
        try simp only [Act.put, List.setIfInBounds_toArray, List.set_cons_zero, List.set_cons_succ]
        refine wpAnyH_take (i := 5) (oi := { dst := some 28, op := Op.load 3 (Operand.tmp 27), type := 3, pos := "delta.go:161", after := #[{ on := 4, ground := Ground.data }], guard := none }) (v := ?vq15) rfl (by kernel_rfl) (by kernel_rfl) (by kernel_rfl) (fun _ _ _ h => h) (Or.inl ⟨by rfl, ?yq15⟩) (Below.refl _ _) ?rq15
        case yq15 => (intro w hSw; have t1 := (FD.out w hSw).cells.2.1; go_simp; try with_reducible rfl)
        try simp only [Act.put, List.setIfInBounds_toArray, List.set_cons_zero, List.set_cons_succ]
        refine wpAnyH_take (i := 6) (oi := { dst := some 29, op := Op.binOp BinOp.sub 3 (Operand.const (Value.int IntKind.i64 65536)) (Operand.tmp 28) 3, type := 3, pos := "delta.go:161", after := #[{ on := 5, ground := Ground.data }], guard := none }) (v := .int .i64 (65536 - made)) rfl (by kernel_rfl) (by kernel_rfl) (by kernel_rfl) (fun _ _ _ h => h) (Or.inl ⟨by rfl, ?yq16⟩) (Below.refl _ _) ?rq16
        case yq16 => (intro w hSw; have yw := HYW.out; go_simp; try with_reducible rfl)
        try simp only [Act.put, List.setIfInBounds_toArray, List.set_cons_zero, List.set_cons_succ]
        refine wpAnyH_ready (rs := [1]) (by kernel_rfl) (by simp) ?_
        refine AllReadyH.cons (o := { dst := some 24, op := Op.call { callee := Callee.value (Operand.func 25), args := #[Operand.tmp 23], argTypes := #[46] }, type := 3, pos := "delta.go:161", after := #[{ on := 0, ground := Ground.data }], guard := none }) rfl (fun KK hKK => ?_) ?_
        · go_simp
          refine (CM.out _ _ _).mono ?_
          rintro e u7' ⟨rfl, bu7'⟩
          (try go_wp2_with fail)
          refine hKK.out _ _ (bu7') (fun _ => ?_)
          clear hKK KK
          try simp only [Act.put, List.setIfInBounds_toArray, List.set_cons_zero, List.set_cons_succ]
          refine wpAnyH_on (bu7') (fun u7 hu7 bu7 => ?_)
          replace FE := on FE bu7
          replace FD := on FD bu7
          replace FX := on FX bu7
          have F3 : Hid (From w2 u7) := by unfold Hid; exact (bu0.trans (Below.mono bu7 bu0.size))
          refine wpAnyH_take (i := 7) (oi := { dst := some 30, op := Op.binOp BinOp.gtr 3 (Operand.tmp 24) (Operand.tmp 29) 3, type := 4, pos := "delta.go:161", after := #[{ on := 1, ground := Ground.data }, { on := 6, ground := Ground.data }], guard := none }) (v := .bool false) rfl (by kernel_rfl) (by kernel_rfl) (by kernel_rfl) (fun _ _ _ h => h) (Or.inl ⟨by rfl, ?yq18⟩) (Below.refl _ _) ?rq18
          case yq18 => (intro w hSw; have yl := HYL.out; go_simp; try with_reducible rfl)
          try simp only [Act.put, List.setIfInBounds_toArray, List.set_cons_zero, List.set_cons_succ]
          refine wpAnyH_done (by kernel_rfl) ?_ _
          have F3 : Hid (From w2 u7) := F3.out
          obtain ⟨k0, k1, k2, k3⟩ := (FD.out u7 (Below.refl _ _)).cells
          have fg := (FD.out u7 (Below.refl _ _)).free
          obtain ⟨e0, e1, e2, e3⟩ := FE.out u7 (Below.refl _ _)
          have HYA : Hid (IntKind.i64.wrap (made + mx) = made + mx) := by unfold Hid; rw [IntKind.wrap_i64]; omega
          have ya := HYA.out
          have yb : wrap64 (made + mx) = made + mx := by unfold wrap64; omega
          go_wp2_with fail
          go_region_with ((go_at_call 25; refine (CM.out _ _ _).mono ?_; rintro e w4 ⟨rfl, b4⟩; have f4 : From u7 w4 := ((Below.refl u7.heap.size u7).drew).trans b4; obtain ⟨k0', k1', k2', k3'⟩ := (FD.out w4 f4).cells; have fg' := (FD.out w4 f4).free; have F4 : Hid (From u7 w4) := f4; clear b4 f4))
          all_goals
            have X4 := FX.out w4 F4.out
            have D4 := FD.out w4 F4.out
            have q1 : ¬ ob = g := by have := LO2.out; have := HL0.out; omega
            have q2 : ¬ w.heap.size = g := by omega
            have g5 : (w4.setCell ⟨g, 1, none⟩ (.int .i64 (made + mx))).heap[g]? = some (.cells #[.int .i64 old, .int .i64 (made + mx), .slice a L c, .int .i64 er] 48 (0, 0)) := by rw [heap_setCell_same _ _ _ _ _ _ D4]; rfl
            have l5 : (w4.setCell ⟨g, 1, none⟩ (.int .i64 (made + mx))).heap[w.heap.size]? = some (.cells zop 46 (0, 0)) := (heap_setCell_other _ _ _ _ q2).trans X4.2.2.2.1
            have o5 : (w4.setCell ⟨g, 1, none⟩ (.int .i64 (made + mx))).heap[ob]? = some (.cells #[.bool x.c, .int .i64 x.a, .int .i64 x.n, .slice ua nd uc] 46 (0, 0)) := (heap_setCell_other _ _ _ _ q1).trans X4.2.2.2.2
            have O5 : Ow (w4.setCell ⟨g, 1, none⟩ (.int .i64 (made + mx))) W0.heap.size (.slice ua nd uc) x.d := ow_off X4.2.1 (fun k hk => heap_setCell_other _ _ _ _ hk) D4 (by decide)
            have S5 : SlX (w4.setCell ⟨g, 1, none⟩ (.int .i64 (made + mx))) (.slice va nv vc) (b.drop k) := slx_off X4.2.2.1 (fun k hk => heap_setCell_other _ _ _ _ hk) D4 (db_u8 _ _ _ _ _ _)
            have K5 : Kp g none w (w4.setCell ⟨g, 1, none⟩ (.int .i64 (made + mx))) := (Kp.of X4.1).trans (Kp.set g 1 none w4 _)
            clear X4 D4 k0 k1 k2 k3 fg e0 e1 e2 e3 k0' k1' k2' k3' fg' FX FD FE F4 F3 ya yb CM HYW HYL HYA
            generalize w4.setCell ⟨g, 1, none⟩ (.int .i64 (made + mx)) = W5 at *
            obtain ⟨m0, m1, m2, m3⟩ := cell4 g5
            have f5 : ∀ i, W5.frozen? ⟨g, i, none⟩ = false := fun _ => frozen_of_row _ _ _ _ _ g5
            obtain ⟨p0, p1, p2, p3⟩ := cell4 o5
            obtain ⟨r0, r1, r2, r3⟩ := cell4 l5
            have f6 : ∀ i, W5.frozen? ⟨w.heap.size, i, none⟩ = false := fun _ => frozen_of_row _ _ _ _ _ l5
            have G5 : Hid (W5.heap[g]? = some (.cells #[.int .i64 old, .int .i64 (made + mx), .slice a L c, .int .i64 er] 48 (0, 0))) := g5
            have L5 : Hid (W5.heap[w.heap.size]? = some (.cells zop 46 (0, 0))) := l5
            have HO5 : Hid (Ow W5 W0.heap.size (.slice ua nd uc) x.d) := O5
            have HS5 : Hid (SlX W5 (.slice va nv vc) (b.drop k)) := S5
            have HK5 : Hid (Kp g none w W5) := K5
            have q3 : ¬ g = w.heap.size := fun e => q2 e.symm
            have HQ2 : Hid (¬ w.heap.size = g) := q2
            clear g5 o5 l5 O5 S5 K5
            go_wp2
            rw [st4_eq]
            have g6 : (W5.setCell ⟨g, 2, none⟩ (.slice va nv vc)).heap[g]? = some (.cells #[.int .i64 old, .int .i64 (made + mx), .slice va nv vc, .int .i64 er] 48 (0, 0)) := by rw [heap_setCell_same _ _ _ _ _ _ G5.out]; rfl
            have l6 : (W5.setCell ⟨g, 2, none⟩ (.slice va nv vc)).heap[w.heap.size]? = some (.cells zop 46 (0, 0)) := (heap_setCell_other _ _ _ _ HQ2.out).trans L5.out
            have O6 : Ow (W5.setCell ⟨g, 2, none⟩ (.slice va nv vc)) W0.heap.size (.slice ua nd uc) x.d := ow_off HO5.out (fun k hk => heap_setCell_other _ _ _ _ hk) G5.out (by decide)
            have S6 : SlX (W5.setCell ⟨g, 2, none⟩ (.slice va nv vc)) (.slice va nv vc) (b.drop k) := slx_off HS5.out (fun k hk => heap_setCell_other _ _ _ _ hk) G5.out (db_u8 _ _ _ _ _ _)
            have K6 : Kp g none w (W5.setCell ⟨g, 2, none⟩ (.slice va nv vc)) := HK5.out.trans (Kp.set g 2 none W5 _)
            generalize W5.setCell ⟨g, 2, none⟩ (.slice va nv vc) = W6 at *
            have g7 := st4_block W6 w.heap.size (.bool x.c) (.int .i64 x.a) (.int .i64 x.n) (.slice ua nd uc) l6
            have d7 : DB (st4 W6 w.heap.size (.bool x.c) (.int .i64 x.a) (.int .i64 x.n) (.slice ua nd uc)) g old (made + mx) (.slice va nv vc) er := (st4_other _ _ _ _ _ _ g q3).trans g6
            have O7 : Ow (st4 W6 w.heap.size (.bool x.c) (.int .i64 x.a) (.int .i64 x.n) (.slice ua nd uc)) W0.heap.size (.slice ua nd uc) x.d := ow_off O6 (fun k hk => st4_other _ _ _ _ _ _ k hk) l6 (by decide)
            have S7 : SlX (st4 W6 w.heap.size (.bool x.c) (.int .i64 x.a) (.int .i64 x.n) (.slice ua nd uc)) (.slice va nv vc) (b.drop k) := slx_off S6 (fun k hk => st4_other _ _ _ _ _ _ k hk) l6 (op_u8 _ _ _ _ _ _)
            have K7 : Kp g none w (st4 W6 w.heap.size (.bool x.c) (.int .i64 x.a) (.int .i64 x.n) (.slice ua nd uc)) := K6.then (Kp.st4 w.heap.size none W6 _ _ _ _) (Or.inr (Nat.le_refl _)) (Or.inl rfl)
            generalize st4 W6 w.heap.size (.bool x.c) (.int .i64 x.a) (.int .i64 x.n) (.slice ua nd uc) = W7 at *
            obtain ⟨z0, z1, z2, z3⟩ := cell4 g7
            refine bodyPost_ret (v := .tuple #[.agg #[.bool x.c, .int .i64 x.a, .int .i64 x.n, .slice ua nd uc], .bool true]) ?h rfl ?_
            case h => simp [results, Tryd.results28, go_sem, z0, z1, z2, z3]
            exact ⟨ua, uc, .slice va nv vc, rfl, O7.mono (Nat.le_of_lt HL0.out), S7, d7, OB1.out, K7⟩
        exact AllReadyH.nil
      exact AllReadyH.nil
    exact AllReadyH.nil
  refine AllReadyH.cons (o := { dst := some 4, op := Op.alloc 46, type := 0, pos := "delta.go:157", after := #[], guard := none }) rfl (fun KK hKK => ?_) ?_
  · go_simp
    refine hKK.out _ _ (bu0.trans (Below.mono (al_below _ _) bu0.size)) (fun _ => ?_)
    clear hKK KK
    try simp only [Act.put, List.setIfInBounds_toArray, List.set_cons_zero, List.set_cons_succ]
    refine wpAnyH_name (fun u18 hu18 => ?_)
    have bu18 : Below W0.heap.size W0 u18 := by rw [hu18.out]; exact (bu0.trans (Below.mono (al_below _ _) bu0.size))
    have GO : Hid (∀ W, Below u18.heap.size u18 W → W.heap[u0.heap.size]? = some (.cells zop 46 (0, 0))) := alo hu18.out
    have LO : Hid (W0.heap.size ≤ u0.heap.size) := Below.size bu0
    have BA : Hid (Below u0.heap.size u0 u18) := by unfold Hid; rw [hu18.out]; exact al_below _ _
    refine wpAnyH_ready (rs := [8]) (by kernel_rfl) (by simp) ?_
    refine AllReadyH.cons (o := { dst := some 16, op := Op.call { callee := Callee.value (Operand.func 35), args := #[Operand.tmp 11, Operand.tmp 15], argTypes := #[26, 3] }, type := 66, pos := "delta.go:157", after := #[{ on := 3, ground := Ground.data }, { on := 7, ground := Ground.data }], guard := none }) rfl (fun KK hKK => ?_) ?_
    · go_simp
      refine (CO.out _ bu18).mono ?_
      rintro e u19' ⟨bu19', hp⟩
      simp only at hp
      obtain ⟨ua, uc, v1, rfl, ow1, sx1, ob1⟩ := hp
      obtain ⟨va, vc, rfl, -⟩ := id sx1.1
      obtain ⟨nv, hnv⟩ : ∃ nv, nv = (b.drop k).length := ⟨_, rfl⟩
      rw [← hnv] at sx1 ob1 ⊢
      clear hnv
      rw [← HND.out] at ow1 ⊢
      (try go_wp2_with fail)
      refine hKK.out _ _ (bu18.trans (Below.mono (bu19') bu18.size)) (fun _ => ?_)
      clear hKK KK
      try simp only [Act.put, List.setIfInBounds_toArray, List.set_cons_zero, List.set_cons_succ]
      refine wpAnyH_name (fun u19 hu19 => ?_)
      have bu19 : Below W0.heap.size W0 u19 := by rw [hu19.out]; exact (bu18.trans (Below.mono (bu19') bu18.size))
      have BN : Hid (Below u18.heap.size u18 u19) := by unfold Hid; rw [hu19.out]; exact bu19'
      have OW1 : Hid (Ow u19 W0.heap.size (.slice ua nd uc) x.d) := by unfold Hid; rw [hu19.out]; exact ow1.mono (Below.size bu18)
      have SX1 : Hid (SlX u19 (.slice va nv vc) (b.drop k)) := by unfold Hid; rw [hu19.out]; exact sx1
      have OB1 : Hid ((Value.slice va nv vc).ownBlock = (Value.slice a L c).ownBlock) := ob1
      clear ow1 sx1 ob1
      refine wpAnyH_take (i := 9) (oi := { dst := some 7, op := Op.move (Operand.tmp 16), type := 66, pos := "delta.go:157", after := #[{ on := 8, ground := Ground.data }], guard := none }) (v := ?vo20) rfl (by kernel_rfl) (by kernel_rfl) (by kernel_rfl) (fun _ _ _ h => h) (Or.inl ⟨by rfl, ?yo20⟩) bu19 ?ro20
      case yo20 => (intro w hSw; go_simp; try with_reducible rfl)
      try simp only [Act.put, List.setIfInBounds_toArray, List.set_cons_zero, List.set_cons_succ]
      refine wpAnyH_take (i := 10) (oi := { dst := some 17, op := Op.extract (Operand.tmp 7) 0, type := 46, pos := "delta.go:157", after := #[{ on := 9, ground := Ground.data }], guard := none }) (v := ?vo21) rfl (by kernel_rfl) (by kernel_rfl) (by kernel_rfl) (fun _ _ _ h => h) (Or.inl ⟨by rfl, ?yo21⟩) bu19 ?ro21
      case yo21 => (intro w hSw; go_simp; try with_reducible rfl)
      try simp only [Act.put, List.setIfInBounds_toArray, List.set_cons_zero, List.set_cons_succ]
      refine wpAnyH_take (i := 11) (oi := { dst := some 18, op := Op.extract (Operand.tmp 7) 1, type := 26, pos := "delta.go:157", after := #[{ on := 9, ground := Ground.data }, { on := 14, ground := Ground.gcOnly Departure.lateStores }], guard := none }) (v := ?vo22) rfl (by kernel_rfl) (by kernel_rfl) (by kernel_rfl) (fun _ _ _ h => h) (Or.inl ⟨by rfl, ?yo22⟩) bu19 ?ro22
      case yo22 => (intro w hSw; go_simp; try with_reducible rfl)
      try simp only [Act.put, List.setIfInBounds_toArray, List.set_cons_zero, List.set_cons_succ]
      refine wpAnyH_take (i := 12) (oi := { dst := some 19, op := Op.extract (Operand.tmp 7) 2, type := 4, pos := "delta.go:157", after := #[{ on := 9, ground := Ground.data }, { on := 15, ground := Ground.gcOnly Departure.lateStores }], guard := none }) (v := ?vo23) rfl (by kernel_rfl) (by kernel_rfl) (by kernel_rfl) (fun _ _ _ h => h) (Or.inl ⟨by rfl, ?yo23⟩) bu19 ?ro23
      case yo23 => (intro w hSw; go_simp; try with_reducible rfl)
      try simp only [Act.put, List.setIfInBounds_toArray, List.set_cons_zero, List.set_cons_succ]
      refine wpAnyH_ready (rs := [14]) (by kernel_rfl) (by simp) ?_
      refine AllReadyH.cons (o := { dst := none, op := Op.store 46 (Operand.tmp 4) (Operand.tmp 17), type := 0, pos := "delta.go:157", after := #[{ on := 13, ground := Ground.data }, { on := 10, ground := Ground.data }, { on := 8, ground := Ground.chain }, { on := 0, ground := Ground.phase }, { on := 1, ground := Ground.phase }, { on := 2, ground := Ground.phase }, { on := 3, ground := Ground.phase }, { on := 4, ground := Ground.phase }, { on := 5, ground := Ground.phase }, { on := 6, ground := Ground.phase }, { on := 7, ground := Ground.phase }, { on := 8, ground := Ground.phase }, { on := 9, ground := Ground.phase }, { on := 10, ground := Ground.phase }, { on := 11, ground := Ground.textOnly Departure.lateStores }, { on := 12, ground := Ground.textOnly Departure.lateStores }, { on := 13, ground := Ground.phase }], guard := none }) rfl (fun KK hKK => ?_) ?_
      · have go1 : u19.heap[u0.heap.size]? = some (.cells zop 46 (0, 0)) := by first | exact GO.out u19 (Below.refl _ _) | exact GO.out u19 BN.out
        have f0 : ∀ i, u19.frozen? ⟨u0.heap.size, i, none⟩ = false := fun i => frozen_of_row _ _ _ _ _ go1
        obtain ⟨d0, d1, d2, d3⟩ := cell4 go1
        go_simp
        try rw [st4_eq]
        refine hKK.out _ _ (Below.trans bu19 (st4_below _ _ _ _ _ _ _ LO.out)) (fun _ => ?_)
        clear hKK KK
        try simp only [Act.put]
        refine wpAnyH_name (fun u24 hu24 => ?_)
        have bu24 : Below W0.heap.size W0 u24 := by rw [hu24.out]; exact (Below.trans bu19 (st4_below _ _ _ _ _ _ _ LO.out))
        have go2 : u19.heap[u0.heap.size]? = some (.cells zop 46 (0, 0)) := by first | exact GO.out u19 (Below.refl _ _) | exact GO.out u19 BN.out
        have GX : Hid (u24.heap[u0.heap.size]? = some (.cells #[.bool x.c, .int .i64 x.a, .int .i64 x.n, .slice ua nd uc] 46 (0, 0))) := by unfold Hid; rw [hu24.out]; exact st4_block _ _ _ _ _ _ go2
        have OW2 : Hid (Ow u24 W0.heap.size (.slice ua nd uc) x.d) := by unfold Hid; rw [hu24.out]; exact ow_off (by first | exact OW1.out | exact OW1.out.below BA.out) (fun k hk => st4_other _ _ _ _ _ _ k hk) go2 (by decide)
        have SX2 : Hid (SlX u24 (.slice va nv vc) (b.drop k)) := by unfold Hid; rw [hu24.out]; exact slx_off (by first | exact SX1.out | exact SX1.out.kept BA.out) (fun k hk => st4_other _ _ _ _ _ _ k hk) go2 (op_u8 _ _ _ _ _ _)
        clear go2
        refine wpAnyH_take (i := 15) (oi := { dst := some 5, op := Op.assign (Operand.tmp 18), type := 26, pos := "delta.go:157", after := #[{ on := 11, ground := Ground.data }, { on := 14, ground := Ground.chain }, { on := 0, ground := Ground.phase }, { on := 1, ground := Ground.phase }, { on := 2, ground := Ground.phase }, { on := 3, ground := Ground.phase }, { on := 4, ground := Ground.phase }, { on := 5, ground := Ground.phase }, { on := 6, ground := Ground.phase }, { on := 7, ground := Ground.phase }, { on := 8, ground := Ground.phase }, { on := 9, ground := Ground.phase }, { on := 10, ground := Ground.phase }, { on := 11, ground := Ground.phase }, { on := 12, ground := Ground.textOnly Departure.lateStores }, { on := 13, ground := Ground.phase }, { on := 14, ground := Ground.phase }], guard := none }) (v := ?vo25) rfl (by kernel_rfl) (by kernel_rfl) (by kernel_rfl) (fun _ _ _ h => h) (Or.inl ⟨by rfl, ?yo25⟩) bu24 ?ro25
        case yo25 => (intro w hSw; go_simp; try with_reducible rfl)
        try simp only [Act.put, List.setIfInBounds_toArray, List.set_cons_zero, List.set_cons_succ]
        refine wpAnyH_take (i := 16) (oi := { dst := some 6, op := Op.assign (Operand.tmp 19), type := 4, pos := "delta.go:157", after := #[{ on := 12, ground := Ground.data }, { on := 15, ground := Ground.chain }, { on := 0, ground := Ground.phase }, { on := 1, ground := Ground.phase }, { on := 2, ground := Ground.phase }, { on := 3, ground := Ground.phase }, { on := 4, ground := Ground.phase }, { on := 5, ground := Ground.phase }, { on := 6, ground := Ground.phase }, { on := 7, ground := Ground.phase }, { on := 8, ground := Ground.phase }, { on := 9, ground := Ground.phase }, { on := 10, ground := Ground.phase }, { on := 11, ground := Ground.phase }, { on := 12, ground := Ground.phase }, { on := 13, ground := Ground.phase }, { on := 14, ground := Ground.phase }, { on := 15, ground := Ground.phase }], guard := none }) (v := ?vo26) rfl (by kernel_rfl) (by kernel_rfl) (by kernel_rfl) (fun _ _ _ h => h) (Or.inl ⟨by rfl, ?yo26⟩) bu24 ?ro26
        case yo26 => (intro w hSw; go_simp; try with_reducible rfl)
        try simp only [Act.put, List.setIfInBounds_toArray, List.set_cons_zero, List.set_cons_succ]
        refine wpAnyH_done (by kernel_rfl) ?_ _
        have F2 : Hid (From W0 u24) := bu24
        have LO2 : Hid (W0.heap.size ≤ u0.heap.size) := LO.out
        have GX2 : Hid (u24.heap[u0.heap.size]? = some (.cells #[.bool x.c, .int .i64 x.a, .int .i64 x.n, .slice ua nd uc] 46 (0, 0))) := GX.out
        clear GX LO GO
        try clear BA
        try clear BN
        clear SX1 OW1
        generalize u0.heap.size = ob at *
        obtain ⟨w2, hw2⟩ : ∃ w2, w2 = u24 := ⟨_, rfl⟩
        rw [← hw2] at F2 GX2 OW2 SX2 ⊢
        clear hw2
        have FE : Hid (∀ W, From w2 W → W.cell? ⟨ob, 0, none⟩ = some (.bool x.c) ∧ W.cell? ⟨ob, 1, none⟩ = some (.int .i64 x.a) ∧ W.cell? ⟨ob, 2, none⟩ = some (.int .i64 x.n) ∧ W.cell? ⟨ob, 3, none⟩ = some (.slice ua nd uc)) := fun W hb => cell4 ((Below.block hb _ (Array.getElem?_eq_some_iff.1 GX2.out).1).trans GX2.out)
        have FD : Hid (∀ W, From w2 W → DB W g old made (.slice a L c) er) := fun W hb => HDG.out W (F2.out.trans (Below.mono hb F2.out.size))
        have FX : Hid (∀ W, From w2 W → Below w.heap.size w W ∧ Ow W W0.heap.size (.slice ua nd uc) x.d ∧ SlX W (.slice va nv vc) (b.drop k) ∧ W.heap[w.heap.size]? = some (.cells zop 46 (0, 0)) ∧ W.heap[ob]? = some (.cells #[.bool x.c, .int .i64 x.a, .int .i64 x.n, .slice ua nd uc] 46 (0, 0))) := fun W hb => ⟨FB.out W (F2.out.trans (Below.mono hb F2.out.size)), OW2.out.below hb, SX2.out.kept hb, FG.out W (F2.out.trans (Below.mono hb F2.out.size)), (Below.block hb _ (Array.getElem?_eq_some_iff.1 GX2.out).1).trans GX2.out⟩
        have HYW : Hid (IntKind.i64.wrap (65536 - made) = 65536 - made) := by unfold Hid; rw [IntKind.wrap_i64]; omega
        clear FB FG HDG FT CO OW2 SX2 F2 GX2
        go_wp2_with fail
        refine wp_region_held_drew (S := From w2) (by kernel_rfl) ((Below.refl _ _).drew) (fun _ => ?_)
        refine wpAnyH_on ((Below.refl _ _).drew) (fun u0 hu0 bu0 => ?_)
        replace FE := on FE bu0
        replace FD := on FD bu0
        replace FX := on FX bu0
        refine wpAnyH_take (i := 0) (oi := { dst := some 23, op := Op.load 46 (Operand.tmp 4), type := 46, pos := "delta.go:161", after := #[], guard := none }) (v := ?vq21) rfl (by kernel_rfl) (by kernel_rfl) (by kernel_rfl) (fun _ _ _ h => h) (Or.inl ⟨by rfl, ?yq21⟩) (Below.refl _ _) ?rq21
        case yq21 => (intro w hSw; obtain ⟨t0, t1, t2, t3⟩ := FE.out w hSw; go_simp; try with_reducible rfl)
        try simp only [Act.put, List.setIfInBounds_toArray, List.set_cons_zero, List.set_cons_succ]
        refine wpAnyH_take (i := 2) (oi := { dst := some 25, op := Op.move (Operand.tmp 0), type := 24, pos := "delta.go:161", after := #[], guard := none }) (v := ?vq22) rfl (by kernel_rfl) (by kernel_rfl) (by kernel_rfl) (fun _ _ _ h => h) (Or.inl ⟨by rfl, ?yq22⟩) (Below.refl _ _) ?rq22
        case yq22 => (intro w hSw; go_simp; try with_reducible rfl)
        try simp only [Act.put, List.setIfInBounds_toArray, List.set_cons_zero, List.set_cons_succ]
        refine wpAnyH_take (i := 3) (oi := { dst := some 26, op := Op.nilCheck (Operand.tmp 25), type := 0, pos := "delta.go:161", after := #[{ on := 2, ground := Ground.data }], guard := none }) (v := ?vq23) rfl (by kernel_rfl) (by kernel_rfl) (by kernel_rfl) (fun _ _ _ h => h) (Or.inl ⟨by rfl, ?yq23⟩) (Below.refl _ _) ?rq23
        case yq23 => (intro w hSw; go_simp; try with_reducible rfl)
        try simp only [Act.put, List.setIfInBounds_toArray, List.set_cons_zero, List.set_cons_succ]
        refine wpAnyH_take (i := 4) (oi := { dst := some 27, op := Op.fieldAddr 48 (Operand.tmp 26) 1, type := 0, pos := "delta.go:161", after := #[{ on := 3, ground := Ground.data }], guard := none }) (v := ?vq24) rfl (by kernel_rfl) (by kernel_rfl) (by kernel_rfl) (fun _ _ _ h => h) (Or.inl ⟨by rfl, ?yq24⟩) (Below.refl _ _) ?rq24
        case yq24 => (intro w hSw; go_simp; try with_reducible rfl)
        try simp only [Act.put, List.setIfInBounds_toArray, List.set_cons_zero, List.set_cons_succ]
        refine wpAnyH_take (i := 5) (oi := { dst := some 28, op := Op.load 3 (Operand.tmp 27), type := 3, pos := "delta.go:161", after := #[{ on := 4, ground := Ground.data }], guard := none }) (v := ?vq25) rfl (by kernel_rfl) (by kernel_rfl) (by kernel_rfl) (fun _ _ _ h => h) (Or.inl ⟨by rfl, ?yq25⟩) (Below.refl _ _) ?rq25
        case yq25 => (intro w hSw; have t1 := (FD.out w hSw).cells.2.1; go_simp; try with_reducible rfl)
        try simp only [Act.put, List.setIfInBounds_toArray, List.set_cons_zero, List.set_cons_succ]
        refine wpAnyH_take (i := 6) (oi := { dst := some 29, op := Op.binOp BinOp.sub 3 (Operand.const (Value.int IntKind.i64 65536)) (Operand.tmp 28) 3, type := 3, pos := "delta.go:161", after := #[{ on := 5, ground := Ground.data }], guard := none }) (v := .int .i64 (65536 - made)) rfl (by kernel_rfl) (by kernel_rfl) (by kernel_rfl) (fun _ _ _ h => h) (Or.inl ⟨by rfl, ?yq26⟩) (Below.refl _ _) ?rq26
        case yq26 => (intro w hSw; have yw := HYW.out; go_simp; try with_reducible rfl)
        try simp only [Act.put, List.setIfInBounds_toArray, List.set_cons_zero, List.set_cons_succ]
        refine wpAnyH_ready (rs := [1]) (by kernel_rfl) (by simp) ?_
        refine AllReadyH.cons (o := { dst := some 24, op := Op.call { callee := Callee.value (Operand.func 25), args := #[Operand.tmp 23], argTypes := #[46] }, type := 3, pos := "delta.go:161", after := #[{ on := 0, ground := Ground.data }], guard := none }) rfl (fun KK hKK => ?_) ?_
        · go_simp
          refine (CM.out _ _ _).mono ?_
          rintro e u7' ⟨rfl, bu7'⟩
          (try go_wp2_with fail)
          refine hKK.out _ _ (bu7') (fun _ => ?_)
          clear hKK KK
          try simp only [Act.put, List.setIfInBounds_toArray, List.set_cons_zero, List.set_cons_succ]
          refine wpAnyH_on (bu7') (fun u7 hu7 bu7 => ?_)
          replace FE := on FE bu7
          replace FD := on FD bu7
          replace FX := on FX bu7
          have F3 : Hid (From w2 u7) := by unfold Hid; exact (bu0.trans (Below.mono bu7 bu0.size))
          refine wpAnyH_take (i := 7) (oi := { dst := some 30, op := Op.binOp BinOp.gtr 3 (Operand.tmp 24) (Operand.tmp 29) 3, type := 4, pos := "delta.go:161", after := #[{ on := 1, ground := Ground.data }, { on := 6, ground := Ground.data }], guard := none }) (v := .bool false) rfl (by kernel_rfl) (by kernel_rfl) (by kernel_rfl) (fun _ _ _ h => h) (Or.inl ⟨by rfl, ?yq28⟩) (Below.refl _ _) ?rq28
          case yq28 => (intro w hSw; have yl := HYL.out; go_simp; try with_reducible rfl)
          try simp only [Act.put, List.setIfInBounds_toArray, List.set_cons_zero, List.set_cons_succ]
          refine wpAnyH_done (by kernel_rfl) ?_ _
          have F3 : Hid (From w2 u7) := F3.out
          obtain ⟨k0, k1, k2, k3⟩ := (FD.out u7 (Below.refl _ _)).cells
          have fg := (FD.out u7 (Below.refl _ _)).free
          obtain ⟨e0, e1, e2, e3⟩ := FE.out u7 (Below.refl _ _)
          have HYA : Hid (IntKind.i64.wrap (made + mx) = made + mx) := by unfold Hid; rw [IntKind.wrap_i64]; omega
          have ya := HYA.out
          have yb : wrap64 (made + mx) = made + mx := by unfold wrap64; omega
          go_wp2_with fail
          go_region_with ((go_at_call 25; refine (CM.out _ _ _).mono ?_; rintro e w4 ⟨rfl, b4⟩; have f4 : From u7 w4 := ((Below.refl u7.heap.size u7).drew).trans b4; obtain ⟨k0', k1', k2', k3'⟩ := (FD.out w4 f4).cells; have fg' := (FD.out w4 f4).free; have F4 : Hid (From u7 w4) := f4; clear b4 f4))
          all_goals
            have X4 := FX.out w4 F4.out
            have D4 := FD.out w4 F4.out
            have q1 : ¬ ob = g := by have := LO2.out; have := HL0.out; omega
            have q2 : ¬ w.heap.size = g := by omega
            have g5 : (w4.setCell ⟨g, 1, none⟩ (.int .i64 (made + mx))).heap[g]? = some (.cells #[.int .i64 old, .int .i64 (made + mx), .slice a L c, .int .i64 er] 48 (0, 0)) := by rw [heap_setCell_same _ _ _ _ _ _ D4]; rfl
            have l5 : (w4.setCell ⟨g, 1, none⟩ (.int .i64 (made + mx))).heap[w.heap.size]? = some (.cells zop 46 (0, 0)) := (heap_setCell_other _ _ _ _ q2).trans X4.2.2.2.1
            have o5 : (w4.setCell ⟨g, 1, none⟩ (.int .i64 (made + mx))).heap[ob]? = some (.cells #[.bool x.c, .int .i64 x.a, .int .i64 x.n, .slice ua nd uc] 46 (0, 0)) := (heap_setCell_other _ _ _ _ q1).trans X4.2.2.2.2
            have O5 : Ow (w4.setCell ⟨g, 1, none⟩ (.int .i64 (made + mx))) W0.heap.size (.slice ua nd uc) x.d := ow_off X4.2.1 (fun k hk => heap_setCell_other _ _ _ _ hk) D4 (by decide)
            have S5 : SlX (w4.setCell ⟨g, 1, none⟩ (.int .i64 (made + mx))) (.slice va nv vc) (b.drop k) := slx_off X4.2.2.1 (fun k hk => heap_setCell_other _ _ _ _ hk) D4 (db_u8 _ _ _ _ _ _)
            have K5 : Kp g none w (w4.setCell ⟨g, 1, none⟩ (.int .i64 (made + mx))) := (Kp.of X4.1).trans (Kp.set g 1 none w4 _)
            clear X4 D4 k0 k1 k2 k3 fg e0 e1 e2 e3 k0' k1' k2' k3' fg' FX FD FE F4 F3 ya yb CM HYW HYL HYA
            generalize w4.setCell ⟨g, 1, none⟩ (.int .i64 (made + mx)) = W5 at *
            obtain ⟨m0, m1, m2, m3⟩ := cell4 g5
            have f5 : ∀ i, W5.frozen? ⟨g, i, none⟩ = false := fun _ => frozen_of_row _ _ _ _ _ g5
            obtain ⟨p0, p1, p2, p3⟩ := cell4 o5
            obtain ⟨r0, r1, r2, r3⟩ := cell4 l5
            have f6 : ∀ i, W5.frozen? ⟨w.heap.size, i, none⟩ = false := fun _ => frozen_of_row _ _ _ _ _ l5
            have G5 : Hid (W5.heap[g]? = some (.cells #[.int .i64 old, .int .i64 (made + mx), .slice a L c, .int .i64 er] 48 (0, 0))) := g5
            have L5 : Hid (W5.heap[w.heap.size]? = some (.cells zop 46 (0, 0))) := l5
            have HO5 : Hid (Ow W5 W0.heap.size (.slice ua nd uc) x.d) := O5
            have HS5 : Hid (SlX W5 (.slice va nv vc) (b.drop k)) := S5
            have HK5 : Hid (Kp g none w W5) := K5
            have q3 : ¬ g = w.heap.size := fun e => q2 e.symm
            have HQ2 : Hid (¬ w.heap.size = g) := q2
            clear g5 o5 l5 O5 S5 K5
            go_wp2
            rw [st4_eq]
            have g6 : (W5.setCell ⟨g, 2, none⟩ (.slice va nv vc)).heap[g]? = some (.cells #[.int .i64 old, .int .i64 (made + mx), .slice va nv vc, .int .i64 er] 48 (0, 0)) := by rw [heap_setCell_same _ _ _ _ _ _ G5.out]; rfl
            have l6 : (W5.setCell ⟨g, 2, none⟩ (.slice va nv vc)).heap[w.heap.size]? = some (.cells zop 46 (0, 0)) := (heap_setCell_other _ _ _ _ HQ2.out).trans L5.out
            have O6 : Ow (W5.setCell ⟨g, 2, none⟩ (.slice va nv vc)) W0.heap.size (.slice ua nd uc) x.d := ow_off HO5.out (fun k hk => heap_setCell_other _ _ _ _ hk) G5.out (by decide)
            have S6 : SlX (W5.setCell ⟨g, 2, none⟩ (.slice va nv vc)) (.slice va nv vc) (b.drop k) := slx_off HS5.out (fun k hk => heap_setCell_other _ _ _ _ hk) G5.out (db_u8 _ _ _ _ _ _)
            have K6 : Kp g none w (W5.setCell ⟨g, 2, none⟩ (.slice va nv vc)) := HK5.out.trans (Kp.set g 2 none W5 _)
            generalize W5.setCell ⟨g, 2, none⟩ (.slice va nv vc) = W6 at *
            have g7 := st4_block W6 w.heap.size (.bool x.c) (.int .i64 x.a) (.int .i64 x.n) (.slice ua nd uc) l6
            have d7 : DB (st4 W6 w.heap.size (.bool x.c) (.int .i64 x.a) (.int .i64 x.n) (.slice ua nd uc)) g old (made + mx) (.slice va nv vc) er := (st4_other _ _ _ _ _ _ g q3).trans g6
            have O7 : Ow (st4 W6 w.heap.size (.bool x.c) (.int .i64 x.a) (.int .i64 x.n) (.slice ua nd uc)) W0.heap.size (.slice ua nd uc) x.d := ow_off O6 (fun k hk => st4_other _ _ _ _ _ _ k hk) l6 (by decide)
            have S7 : SlX (st4 W6 w.heap.size (.bool x.c) (.int .i64 x.a) (.int .i64 x.n) (.slice ua nd uc)) (.slice va nv vc) (b.drop k) := slx_off S6 (fun k hk => st4_other _ _ _ _ _ _ k hk) l6 (op_u8 _ _ _ _ _ _)
            have K7 : Kp g none w (st4 W6 w.heap.size (.bool x.c) (.int .i64 x.a) (.int .i64 x.n) (.slice ua nd uc)) := K6.then (Kp.st4 w.heap.size none W6 _ _ _ _) (Or.inr (Nat.le_refl _)) (Or.inl rfl)
            generalize st4 W6 w.heap.size (.bool x.c) (.int .i64 x.a) (.int .i64 x.n) (.slice ua nd uc) = W7 at *
            obtain ⟨z0, z1, z2, z3⟩ := cell4 g7
            refine bodyPost_ret (v := .tuple #[.agg #[.bool x.c, .int .i64 x.a, .int .i64 x.n, .slice ua nd uc], .bool true]) ?h rfl ?_
            case h => simp [results, Tryd.results28, go_sem, z0, z1, z2, z3]
            exact ⟨ua, uc, .slice va nv vc, rfl, O7.mono (Nat.le_of_lt HL0.out), S7, d7, OB1.out, K7⟩
        exact AllReadyH.nil
      exact AllReadyH.nil
    exact AllReadyH.nil
  exact AllReadyH.nil
end Go.Proofs.YtfccjeepmhgckaaDoor
