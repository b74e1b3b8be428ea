/-
  The document's ledgers in memory.
-/
import Derived.Test.YtamjbmbflllbfaaLf
import Derived.Laws.AppendOwnNone
namespace Go.Proofs.Ytamjbmbflllbfaa
open Go.RowKit
set_option maxRecDepth 100000

theorem infoQ : (Try.prog.info? 29).map (fun i => (i.zero, i.size, i.bytes)) = some (some (.agg #[.int .i64 0, .int .i64 0, .int .i64 0, .bool false]), 4, 32) := by kernel_rfl
theorem sizeD : (Try.prog.info? 31).map (·.size) = some 7 := by kernel_rfl
theorem sizeQ : (Try.prog.info? 29).map (·.size) = some 4 := by kernel_rfl
/-- A ledger's cells: what is open, how many were sent, the last one, the largest. -/
abbrev dc (v : Value) (k : Int) (q : Pk) (g : Int) : Array Value := #[v, .int .i64 k, .int .i64 q.n, .int .i64 q.t, .int .i64 q.z, .bool q.a, .int .i64 g]
theorem dc_one (a : Option Addr) (n c : Nat) (k : Int) (q : Pk) (g : Int) : (dc (.slice a n c) k q g).all (·.oneCell') = true := by simp [Value.oneCell']
/-- A block that is one. -/
def DB (w : World) (h : Nat) (v : Value) (k : Int) (q : Pk) (g : Int) : Prop := w.heap[h]? = some (.cells (dc v k q g) 31 (0, 0))
structure DC (w : World) (h : Nat) (v : Value) (k : Int) (q : Pk) (g : Int) : Prop where
  c0 : w.cell? ⟨h, 0, none⟩ = some v
  c1 : w.cell? ⟨h, 1, none⟩ = some (.int .i64 k)
  c2 : w.cell? ⟨h, 2, none⟩ = some (.int .i64 q.n)
  c3 : w.cell? ⟨h, 3, none⟩ = some (.int .i64 q.t)
  c4 : w.cell? ⟨h, 4, none⟩ = some (.int .i64 q.z)
  c5 : w.cell? ⟨h, 5, none⟩ = some (.bool q.a)
  c6 : w.cell? ⟨h, 6, none⟩ = some (.int .i64 g)
  f0 : w.frozen? ⟨h, 0, none⟩ = false
  f1 : w.frozen? ⟨h, 1, none⟩ = false
  f2 : w.frozen? ⟨h, 2, none⟩ = false
  f3 : w.frozen? ⟨h, 3, none⟩ = false
  f4 : w.frozen? ⟨h, 4, none⟩ = false
  f5 : w.frozen? ⟨h, 5, none⟩ = false
  f6 : w.frozen? ⟨h, 6, none⟩ = false
theorem DB.dc {w : World} {h : Nat} {v : Value} {k : Int} {q : Pk} {g : Int} (e : DB w h v k q g) : DC w h v k q g := by
  unfold DB at e
  refine ⟨?_, ?_, ?_, ?_, ?_, ?_, ?_, ?_, ?_, ?_, ?_, ?_, ?_, ?_⟩ <;> simp [World.cell?, World.frozen?, e]
theorem DB.kept {w w' : World} {h : Nat} {v : Value} {k : Int} {q : Pk} {g : Int} (e : DB w h v k q g) (hb : Below w.heap.size w w') : DB w' h v k q g := blk_kept e hb (blk_lt e)
theorem DB.new (w : World) (v : Value) (k : Int) (q : Pk) (g : Int) : DB (w.alloc (.cells (Go.Proofs.Ytamjbmbflllbfaa.dc v k q g) 31)) w.heap.size v k q g := heap_alloc_new _ _
theorem DB.row {w : World} {h : Nat} {v : Value} {k : Int} {q : Pk} {g : Int} (e : DB w h v k q g) (v' : Value) (k' : Int) (q' : Pk) (g' : Int) : DB (w.setRow h (Go.Proofs.Ytamjbmbflllbfaa.dc v' k' q' g')) h v' k' q' g' := setRow_heap _ _ _ _ _ _ e
theorem DB.set0 {w : World} {h : Nat} {v : Value} {k : Int} {q : Pk} {g : Int} (e : DB w h v k q g) (v' : Value) : DB (w.setCell ⟨h, 0, none⟩ v') h v' k q g := by
  unfold DB at e ⊢
  simp only [World.setCell, Array.getElem?_modify, if_true, e]
  simp
theorem DB.set6 {w : World} {h : Nat} {v : Value} {k : Int} {q : Pk} {g : Int} (e : DB w h v k q g) (x : Int) : DB (w.setCell ⟨h, 6, none⟩ (.int .i64 x)) h v k q x := by
  unfold DB at e ⊢
  simp only [World.setCell, Array.getElem?_modify, if_true, e]
  simp
/-- A ledger's number and last one, against what is so. -/
structure DK (k : Int) (q : Pk) (s : Lg) : Prop where
  k0 : 0 ≤ k
  k1 : k ≤ 1000000
  no : k = 0 → s.n = -1 ∧ s.t = 0
  ye : 0 < k → q.n = s.n ∧ q.t = s.t
/-- A ledger by value. -/
structure DS (w : World) (B : Nat) (v : Value) (k : Int) (q : Pk) (s : Lg) : Prop where
  rs : RP 29 w B v s.o
  dk : DK k q s
theorem DS.below {w w' : World} {B : Nat} {v : Value} {k : Int} {q : Pk} {s : Lg} (h : DS w B v k q s) (hb : Below w.heap.size w w') : DS w' B v k q s := ⟨h.rs.below hb, h.dk⟩
theorem DS.mono {w : World} {B B' : Nat} {v : Value} {k : Int} {q : Pk} {s : Lg} (h : DS w B v k q s) (hb : B' ≤ B) : DS w B' v k q s := ⟨h.rs.mono hb, h.dk⟩
theorem RP.more {t : TypeId} {w : World} {B : Nat} {v : Value} {l m : List Pk} (h : w.ownsRow B t 4 v (l.length + m.length) ((l.map Pk.c).flatten ++ (m.map Pk.c).flatten)) : RP t w B v (l ++ m) := by
  refine RP.of ?_
  rw [List.length_append, List.map_append, List.flatten_append]
  exact h
theorem wp_append_pks {o : Oper} {a : Act} {w : World} {K : Act → World → Prop} {Q : Exit → Act → World → Prop} (s x : Operand) (ho : o.op = .call { callee := .builtin .append, args := #[s, x], argTypes := #[27, 27] })
    (B : Nat) (v : Value) (l : List Pk) (hs : a.eval s = v) (hown : RP 29 w B v l) (u : Value) (m : List Pk) (hx : a.eval x = u) (hm : PS w u m) (hbig : l.length + m.length ≤ 100000) (hbase : B ≤ w.heap.size)
    (h : ∀ v' w', RP 29 w' B v' (l ++ m) → w.grownBy w' v.ownBlock → K (a.put o.dst v') w') : o.wp Try.prog a w K Q := by
  obtain ⟨i0, hi, hz0, hz1, hz2⟩ := info_parts infoQ
  obtain ⟨ad, cap, rfl, h1, h2, h3, hcl, h4⟩ := hm
  rw [List.length_map] at hx h1
  cases ad with
  | none =>
    obtain rfl := h3 rfl
    obtain rfl : m = [] := List.length_eq_zero_iff.1 (by omega)
    have hrun := run_append_owned_none (P := Try.prog) (w := w) B 27 o.type 29 i0 4 Try.underlying27 hi v l.length (l.map Pk.c).flatten hown.own
    have hK := h v w (by rw [List.append_nil]; exact hown) ⟨rfl, rfl, rfl, Nat.le_refl _, fun _ _ _ => rfl⟩
    unfold Oper.wp
    simp [execOp, ho, resolve, invoke, builtin, hs, hx, hrun, Result.andThen]
    exact hK
  | some ad =>
    refine wp_append_own_wide w s x 27 ho B 29 i0 (.agg #[.int .i64 0, .int .i64 0, .int .i64 0, .bool false]) 4 32 Try.underlying27 hi hz0 hz1 hz2 rfl (by decide) v l.length (l.map Pk.c).flatten hs hown.own ad m.length cap (m.map Pk.c).flatten hx (by rw [flatP]) ?_ hcl.ones (by unfold maxLen; omega) (by omega) hbase ?_
    · intro j q hj
      rcases h4 with e | ⟨b, off, e, hr⟩
      · rw [e] at hj; simp at hj
      · cases e
        rw [Addr.add_lit]
        exact flatcellP hr j q hj
    · intro v' w' ho' hg _
      exact h v' w' (RP.more ho') hg
theorem PB.ps {w : World} {g : Nat} {t : TypeId} {p : Pk} (h : PB w g t p) : PS w (.slice (some ⟨g, 0, none⟩) 1 1) [p] := by
  refine ⟨_, 1, rfl, by simp, by unfold maxLen; omega, fun e => (by cases e), pc_cl [p], .inr ⟨g, 0, rfl, fun i hi => ?_⟩⟩
  have : i = 0 := by simp at hi; exact hi
  subst this
  exact h.range
theorem wpList_append_pks {ops : Array Oper} {rest : List Oper} {o : Oper} {a : Act} {w : World} {Q : Exit → Act → World → Prop} (hgd : o.guard = none) (s x : Operand) (ho : o.op = .call { callee := .builtin .append, args := #[s, x], argTypes := #[27, 27] })
    (B : Nat) (v : Value) (l : List Pk) (hs : a.eval s = v) (hown : RP 29 w B v l) (u : Value) (m : List Pk) (hx : a.eval x = u) (hm : PS w u m) (hbig : l.length + m.length ≤ 100000) (hbase : B ≤ w.heap.size)
    (h : ∀ v' w', RP 29 w' B v' (l ++ m) → w.grownBy w' v.ownBlock → wpList Try.prog ops Q rest (a.put o.dst v') w') : wpList Try.prog ops Q (o :: rest) a w :=
  wpList_plain hgd fun _ hK => wp_append_pks s x ho B v l hs hown u m hx hm hbig hbase fun v' w' h1 h2 => hK _ _ (h v' w' h1 h2)
/-- What a row of the call's own leaves where it grows. -/
theorem grown_below {w w1 w2 : World} {B : Nat} {r : Option Nat} (hb : Below B w w1) (hB : B ≤ w1.heap.size) (g : w1.grownBy w2 r) (hr : ∀ i, r = some i → B ≤ i) : Below B w w2 :=
  hb.trans ⟨g.os, g.tape, g.output, g.size, fun k hk => g.block k (Nat.lt_of_lt_of_le hk hB) (fun e => by have := hr k e.symm; omega)⟩
theorem RP.no {t : TypeId} {w : World} {B : Nat} {v : Value} {l : List Pk} (h : RP t w B v l) : ∀ i, v.ownBlock = some i → B ≤ i := fun _ hi => h.base hi
theorem ldD {w : World} {g : Nat} {cs : Array Value} (hg : w.heap[g]? = some (.cells cs 31 (0, 0))) (hl : cs.size = 7) : (loadVar 31 ⟨g, 0, none⟩).run Try.prog w = .ok (.agg cs) w := run_loadVar_row w g _ 31 cs _ _ hg Try.underlying31 rfl (by rw [hl]; exact sizeD)
end Go.Proofs.Ytamjbmbflllbfaa
