/-
  Ledgers in memory.
-/
import Derived.Test.YtamjbmbflllbfaaLp
import Derived.Test.YtamjbmbflllbfaaCs
import Derived.Deep.RegionHeld3
import Derived.Laws.Rows
import Derived.Laws.CopyOwn
namespace Go.Proofs.Ytamjbmbflllbfaa
open Go.RowKit
set_option maxRecDepth 100000

theorem pc_cl (l : List Pk) : CL 4 (l.map Pk.c) := fun c hc => by
  obtain ⟨x, _, rfl⟩ := List.mem_map.1 hc
  exact ⟨rfl, fun v hv => by simp only [Pk.c, List.mem_cons, List.not_mem_nil, or_false] at hv; rcases hv with rfl | rfl | rfl | rfl <;> rfl⟩
theorem pc_one (p : Pk) : ∀ v ∈ p.c, v.oneCell' = true := fun v hv => by
  simp only [Pk.c, List.mem_cons, List.not_mem_nil, or_false] at hv
  rcases hv with rfl | rfl | rfl | rfl <;> rfl
theorem atC_pk (l : List Pk) (i : Nat) (h : i < l.length) : atC (l.map Pk.c) i = (atP l i).c := by
  rw [atC_eq _ _ (by rw [List.length_map]; exact h), atP_eq l i h, List.getElem_map]
/-- A slice of packets, as it is read; a row of the call's own. -/
def PS (w : World) (v : Value) (l : List Pk) : Prop := IS 4 w v (l.map Pk.c)
def RP (t : TypeId) (w : World) (B : Nat) (v : Value) (l : List Pk) : Prop := RI t 4 w B v (l.map Pk.c)
structure PC (w : World) (b o : Nat) (p : Pk) : Prop where
  c0 : w.cell? ⟨b, o, none⟩ = some (.int .i64 p.n)
  c1 : w.cell? ⟨b, o + 1, none⟩ = some (.int .i64 p.t)
  c2 : w.cell? ⟨b, o + 2, none⟩ = some (.int .i64 p.z)
  c3 : w.cell? ⟨b, o + 3, none⟩ = some (.bool p.a)
theorem pC {w : World} {b o : Nat} {p : Pk} (h : w.rangeAt b o p.c) : PC w b o p := ⟨h 0 _ rfl, h 1 _ rfl, h 2 _ rfl, h 3 _ rfl⟩
theorem PS.kept {w w' : World} {v : Value} {l : List Pk} (h : PS w v l) (hb : Below w.heap.size w w') : PS w' v l := IS.kept h hb
theorem PS.shape {w : World} {v : Value} {l : List Pk} (h : PS w v l) : ∃ a c, v = .slice a l.length c ∧ l.length ≤ c ∧ c ≤ maxLen ∧ (a = none → c = 0) := by
  have := IS.shape h
  rwa [List.length_map] at this
theorem PS.nil (w : World) : PS w (.slice none 0 0) [] := IS.nil 4 w
theorem PS.at {w : World} {a : Option Addr} {n c : Nat} {l : List Pk} (h : PS w (.slice a n c) l) (i : Nat) (hi : i < l.length) :
    ∃ b off, a = some ⟨b, off, none⟩ ∧ PC w b (off + i * 4) (atP l i) := by
  obtain ⟨b, off, e, hr⟩ := IS.at h i (by rw [List.length_map]; exact hi)
  rw [atC_pk l i hi] at hr
  exact ⟨b, off, e, pC hr⟩
theorem RP.is {t : TypeId} {w : World} {B : Nat} {v : Value} {l : List Pk} (h : RP t w B v l) : PS w v l := RI.is h
theorem RP.below {t : TypeId} {w w' : World} {B : Nat} {v : Value} {l : List Pk} (h : RP t w B v l) (hb : Below w.heap.size w w') : RP t w' B v l := RI.below h hb
theorem RP.mono {t : TypeId} {w : World} {B B' : Nat} {v : Value} {l : List Pk} (h : RP t w B v l) (hb : B' ≤ B) : RP t w B' v l := RI.mono h hb
theorem RP.nil (t : TypeId) (w : World) (B : Nat) : RP t w B (.slice none 0 0) [] := RI.nil t 4 w B
theorem flatP (l : List Pk) : (l.map Pk.c).flatten.length = l.length * 4 := by rw [(pc_cl l).flat, List.length_map]
theorem RP.own {t : TypeId} {w : World} {B : Nat} {v : Value} {l : List Pk} (h : RP t w B v l) : w.ownsRow B t 4 v l.length (l.map Pk.c).flatten := by
  have := h.1
  rwa [List.length_map] at this
theorem RP.of {t : TypeId} {w : World} {B : Nat} {v : Value} {l : List Pk} (h : w.ownsRow B t 4 v l.length (l.map Pk.c).flatten) : RP t w B v l := ⟨by rw [List.length_map]; exact h, pc_cl l⟩
theorem RP.ty {t : TypeId} {w : World} {B : Nat} {v : Value} {l : List Pk} (h : RP t w B v l) {k : Nat} (hk : v.ownBlock = some k) : ∃ cs, w.heap[k]? = some (.cells cs t (0, 0)) := by
  rcases h.1.2 with ⟨rfl, _⟩ | ⟨g, cap, cur, rfl, _, hh, _⟩
  · cases hk
  · obtain rfl : g = k := by simpa [Value.ownBlock] using hk
    exact ⟨_, hh⟩
theorem RP.lt {t : TypeId} {w : World} {B : Nat} {v : Value} {l : List Pk} (h : RP t w B v l) {k : Nat} (hk : v.ownBlock = some k) : k < w.heap.size := by
  obtain ⟨cs, hh⟩ := h.ty hk
  exact blk_lt hh
theorem RP.base {t : TypeId} {w : World} {B : Nat} {v : Value} {l : List Pk} (h : RP t w B v l) {k : Nat} (hk : v.ownBlock = some k) : B ≤ k := own_base h.1 k hk
theorem RP.keep {t : TypeId} {w w' : World} {B : Nat} {v : Value} {l : List Pk} (h : RP t w B v l) (hk : ∀ k cs, v.ownBlock = some k → w.heap[k]? = some (.cells cs t (0, 0)) → w'.heap[k]? = some (.cells cs t (0, 0))) : RP t w' B v l := by
  obtain ⟨⟨h1, h2⟩, h3⟩ := h
  refine ⟨⟨h1, ?_⟩, h3⟩
  rcases h2 with h2 | ⟨g, cap, cur, rfl, hg, hh, r⟩
  · exact .inl h2
  · exact .inr ⟨g, cap, cur, rfl, hg, hk g cur rfl hh, r⟩
theorem al_b (w : World) (o : Obj) : Below w.heap.size w (w.alloc o) := al_below w o
theorem drw (w : World) (n : Nat) : Below w.heap.size w (w.drewN n) := ⟨rfl, rfl, rfl, Nat.le_refl _, fun _ _ => rfl⟩
/-- A block that is a packet. -/
def PB (w : World) (g : Nat) (t : TypeId) (p : Pk) : Prop := w.heap[g]? = some (.cells #[.int .i64 p.n, .int .i64 p.t, .int .i64 p.z, .bool p.a] t (0, 0))
theorem PB.kept {w w' : World} {g : Nat} {t : TypeId} {p : Pk} (h : PB w g t p) (hb : Below w.heap.size w w') : PB w' g t p := blk_kept h hb (blk_lt h)
theorem PB.pc {w : World} {g : Nat} {t : TypeId} {p : Pk} (h : PB w g t p) : PC w g 0 p := by
  unfold PB at h
  refine ⟨?_, ?_, ?_, ?_⟩ <;> simp [World.cell?, h]
theorem PB.range {w : World} {g : Nat} {t : TypeId} {p : Pk} (h : PB w g t p) : w.rangeAt g 0 p.c := blk_range (cs := p.c) h
theorem PB.new (w : World) (t : TypeId) (p : Pk) : PB (w.alloc (.cells #[.int .i64 p.n, .int .i64 p.t, .int .i64 p.z, .bool p.a] t)) w.heap.size t p := heap_alloc_new _ _
/-- A ledger's variable. -/
def LB (w : World) (g : Nat) (v : Value) (s : Lg) : Prop := w.heap[g]? = some (.cells #[v, .int .i64 s.n, .int .i64 s.t, .int .i64 s.g] 62 (0, 0))
structure LC (w : World) (g : Nat) (v : Value) (s : Lg) : Prop where
  c0 : w.cell? ⟨g, 0, none⟩ = some v
  c1 : w.cell? ⟨g, 1, none⟩ = some (.int .i64 s.n)
  c2 : w.cell? ⟨g, 2, none⟩ = some (.int .i64 s.t)
  c3 : w.cell? ⟨g, 3, none⟩ = some (.int .i64 s.g)
  f0 : w.frozen? ⟨g, 0, none⟩ = false
  f1 : w.frozen? ⟨g, 1, none⟩ = false
  f2 : w.frozen? ⟨g, 2, none⟩ = false
  f3 : w.frozen? ⟨g, 3, none⟩ = false
theorem LB.lc {w : World} {g : Nat} {v : Value} {s : Lg} (h : LB w g v s) : LC w g v s := by
  unfold LB at h
  refine ⟨?_, ?_, ?_, ?_, ?_, ?_, ?_, ?_⟩ <;> simp [World.cell?, World.frozen?, h]
theorem LB.kept {w w' : World} {g : Nat} {v : Value} {s : Lg} (h : LB w g v s) (hb : Below w.heap.size w w') : LB w' g v s := blk_kept h hb (blk_lt h)
theorem LB.set0 {w : World} {g : Nat} {v : Value} {s : Lg} (h : LB w g v s) (v' : Value) (o : List Pk) : LB (w.setCell ⟨g, 0, none⟩ v') g v' ⟨o, s.n, s.t, s.g⟩ := by
  unfold LB at h ⊢
  simp only [World.setCell, Array.getElem?_modify, if_true, h]
  simp
theorem LB.set3 {w : World} {g : Nat} {v : Value} {s : Lg} (h : LB w g v s) (x : Int) : LB (w.setCell ⟨g, 3, none⟩ (.int .i64 x)) g v ⟨s.o, s.n, s.t, x⟩ := by
  unfold LB at h ⊢
  simp only [World.setCell, Array.getElem?_modify, if_true, h]
  simp
theorem LB.set12 {w : World} {g : Nat} {v : Value} {s : Lg} (h : LB w g v s) (x y : Int) : LB ((w.setCell ⟨g, 1, none⟩ (.int .i64 x)).setCell ⟨g, 2, none⟩ (.int .i64 y)) g v ⟨s.o, x, y, s.g⟩ := by
  unfold LB at h ⊢
  simp only [World.setCell, Array.getElem?_modify, if_true, h]
  simp
/-- A ledger: its variable, what is open in a row of the call's own. -/
structure LS (w : World) (B g : Nat) (v : Value) (s : Lg) : Prop where
  bk : LB w g v s
  rs : RP 48 w B v s.o
  ok : s.ok
theorem LS.below {w w' : World} {B g : Nat} {v : Value} {s : Lg} (h : LS w B g v s) (hb : Below w.heap.size w w') : LS w' B g v s := ⟨h.bk.kept hb, h.rs.below hb, h.ok⟩
theorem LS.mono {w : World} {B B' g : Nat} {v : Value} {s : Lg} (h : LS w B g v s) (hb : B' ≤ B) : LS w B' g v s := ⟨h.bk, h.rs.mono hb, h.ok⟩
theorem LS.ne {w : World} {B g : Nat} {v : Value} {s : Lg} (h : LS w B g v s) : v.ownBlock ≠ some g := fun e => by
  obtain ⟨cs, hh⟩ := h.rs.ty e
  have := h.bk
  unfold LB at this
  rw [this] at hh
  simp at hh
/-- What a call that changes a ledger keeps. -/
structure LU (w w' : World) (g : Nat) (v v' : Value) : Prop where
  os : w'.os = w.os
  tape : w'.tape = w.tape
  output : w'.output = w.output
  size : w.heap.size ≤ w'.heap.size
  block : ∀ k, k < w.heap.size → k ≠ g → v.ownBlock ≠ some k → w'.heap[k]? = w.heap[k]?
  own : v'.ownBlock = v.ownBlock ∨ ∃ k, v'.ownBlock = some k ∧ w.heap.size ≤ k
theorem LU.of {w w' : World} {g : Nat} {v : Value} (h : Below w.heap.size w w') : LU w w' g v v := ⟨h.os, h.tape, h.output, h.size, fun k hk _ _ => h.block k hk, .inl rfl⟩
theorem LU.trans {w w1 w2 : World} {g : Nat} {v v1 v2 : Value} (h : LU w w1 g v v1) (k : LU w1 w2 g v1 v2) : LU w w2 g v v2 := by
  refine ⟨k.os.trans h.os, k.tape.trans h.tape, k.output.trans h.output, Nat.le_trans h.size k.size, fun i hi hg hv => ?_, ?_⟩
  · refine (k.block i (Nat.lt_of_lt_of_le hi h.size) hg (fun e => ?_)).trans (h.block i hi hg hv)
    rcases h.own with o | ⟨j, o, hj⟩
    · exact hv (o ▸ e)
    · rw [o] at e
      cases e
      omega
  · rcases k.own with o | ⟨j, o, hj⟩
    · rw [o]; exact h.own
    · exact .inr ⟨j, o, Nat.le_trans h.size hj⟩
theorem LU.before {w w1 w2 : World} {g : Nat} {v v' : Value} (b : Below w.heap.size w w1) (k : LU w1 w2 g v v') : LU w w2 g v v' := by
  refine ⟨k.os.trans b.os, k.tape.trans b.tape, k.output.trans b.output, Nat.le_trans b.size k.size, fun i hi hg hv => (k.block i (Nat.lt_of_lt_of_le hi b.size) hg hv).trans (b.block i hi), ?_⟩
  rcases k.own with o | ⟨j, o, hj⟩
  · exact .inl o
  · exact .inr ⟨j, o, Nat.le_trans b.size hj⟩
theorem LU.behind {w w1 w2 : World} {g : Nat} {v v' : Value} (k : LU w w1 g v v') (b : Below w1.heap.size w1 w2) : LU w w2 g v v' :=
  ⟨b.os.trans k.os, b.tape.trans k.tape, b.output.trans k.output, Nat.le_trans k.size b.size, fun i hi hg hv => (b.block i (Nat.lt_of_lt_of_le hi k.size)).trans (k.block i hi hg hv), k.own⟩
theorem LU.below {n : Nat} {w0 w w' : World} {g : Nat} {v v' : Value} (h : LU w w' g v v') (b : Below n w0 w) (hn : n ≤ w.heap.size) (hg : n ≤ g) (ho : ∀ k, v.ownBlock = some k → n ≤ k) : Below n w0 w' :=
  b.trans ⟨h.os, h.tape, h.output, h.size, fun k hk => h.block k (by omega) (by omega) (fun e => by have := ho k e; omega)⟩
/-- A ledger apart from the one that is changed stays. -/
theorem LS.apart {w w' : World} {B B' g g' : Nat} {v v' u : Value} {s r : Lg} (h : LS w B g v s) (k : LS w B' g' u r) (hne : g ≠ g') (hd : ∀ i, v.ownBlock = some i → u.ownBlock ≠ some i) (q : LU w w' g v v') :
    LS w' B' g' u r ∧ (∀ i, v'.ownBlock = some i → u.ownBlock ≠ some i) := by
  refine ⟨⟨(q.block g' (blk_lt k.bk) (fun e => hne e.symm) (fun e => ?_)).trans k.bk, k.rs.keep (fun i cs hi hh => (q.block i (blk_lt hh) (fun e => ?_) (fun e => hd i e hi)).trans hh), k.ok⟩, fun i hi hu => ?_⟩
  · obtain ⟨cs, e'⟩ := h.rs.ty e
    have := k.bk
    unfold LB at this
    rw [this] at e'
    simp at e'
  · have := h.bk
    unfold LB at this
    rw [← e, hh] at this
    simp at this
  · rcases q.own with e | ⟨j, e, hj⟩
    · exact hd i (by rw [← e]; exact hi) hu
    · rw [e] at hi
      cases hi
      have := k.rs.lt hu
      omega
/-- A row of the document's packets stays. -/
theorem RP.apart {w w' : World} {B B' g : Nat} {v v' u : Value} {s : Lg} {l : List Pk} (h : LS w B g v s) (k : RP 29 w B' u l) (q : LU w w' g v v') : RP 29 w' B' u l := by
  refine k.keep fun i cs hi hh => (q.block i (blk_lt hh) (fun e => ?_) (fun e => ?_)).trans hh
  · have := h.bk
    unfold LB at this
    rw [← e, hh] at this
    simp at this
  · obtain ⟨cs', e'⟩ := h.rs.ty e
    rw [e'] at hh
    simp at hh
/-- Some calls first, then a row that grows, then stores into the variable. -/
theorem lu_grown {w w1 w2 : World} {B g : Nat} {v v' : Value} {s : Lg} (h : LS w B g v s) (b1 : Below w.heap.size w w1) (gr : w1.grownBy w2 v.ownBlock) (ow : v'.ownBlock = v.ownBlock ∨ ∃ k, v'.ownBlock = some k ∧ w.heap.size ≤ k) : LU w w2 g v v' ∧ LB w2 g v s := by
  refine ⟨⟨gr.os.trans b1.os, gr.tape.trans b1.tape, gr.output.trans b1.output, Nat.le_trans b1.size gr.size, fun k hk hg hv => (gr.block k (Nat.lt_of_lt_of_le hk b1.size) (fun e => hv e.symm)).trans (b1.block k hk), ow⟩, ?_⟩
  exact (gr.block g (Nat.lt_of_lt_of_le (blk_lt h.bk) b1.size) (fun e => h.ne e.symm)).trans (h.bk.kept b1)
theorem LU.set {w w' : World} {g : Nat} {v v' : Value} (h : LU w w' g v v') (i : Nat) (x : Value) : LU w (w'.setCell ⟨g, i, none⟩ x) g v v' :=
  ⟨h.os, h.tape, h.output, by simpa [World.setCell] using h.size, fun k hk hg hv => (Below.heap_setCell _ _ _ _ hg).trans (h.block k hk hg hv), h.own⟩
theorem RP.set {t : TypeId} {w : World} {B g i : Nat} {v x : Value} {l : List Pk} (h : RP t w B v l) (hn : v.ownBlock ≠ some g) : RP t (w.setCell ⟨g, i, none⟩ x) B v l :=
  h.keep fun k cs hk hh => (Below.heap_setCell _ _ _ _ (fun e => hn (by rw [hk]; exact congrArg some e))).trans hh
end Go.Proofs.Ytamjbmbflllbfaa
