/-
  Slices of bytes, as the walks read them: rows, rows carried on, slices that a call owns, appends onto them, rows as strings.
  Regions that draw their order of evaluation: the condition on the world may be turned at each new world.
  Bytes besides: rows of the call's own, strings of bytes compared, slices cut.
  Sets of numbers as spans, plainly.
  Slices and rows of structs, each told by its cells.
-/
import Derived.Test.YtmplpdjkhdaniaaGreatDoorRows
import Derived.WalkKit
import Derived.WalkSpells
import Derived.Handy
import Derived.Laws.IdiomStrings
import Derived.Laws.AppendOwnNone
import Derived.Deep.DeepAppendWide
import Derived.Lib.AppendZerosOnto
import Derived.Lib.Walk
import Derived.Deep.RegionHeld3
import Derived.Maps.AppendAt
import Derived.Deep.QuietTactic
import Derived.BigQuiet
import Derived.Deep.RegionWith
import Derived.Deep.MidRow
import Derived.Laws.StructEq
import Derived.Laws.Tables
import Derived.Laws.ResultCell
import Derived.Laws.CopyOwn
namespace Go.Proofs.YtmplpdjkhdaniaaGreatDoor
open Go.RowKit
set_option maxRecDepth 100000

/-- What the walks ask of a slice of bytes: it is empty, or its first 'len' cells hold the numbers zs, each a byte. -/
def Row (w : World) (a : Option Addr) (len cap : Nat) (zs : List Int) : Prop :=
  len = 0 ∨ (0 < len ∧ ∃ b off, a = some ⟨b, off, none⟩ ∧ len ≤ cap ∧ cap ≤ maxLen ∧
    (∀ i, i < len → w.cell? ⟨b, off + i, none⟩ = some (.int .u8 (zs.getD i 0))) ∧ (∀ i, 0 ≤ zs.getD i 0 ∧ zs.getD i 0 < 256))

/-- Bytes, given as numbers, as a string. -/
def strB (l : List Int) : ByteArray := ⟨(l.map fun n => UInt8.ofNat n.toNat).toArray⟩

theorem conv_any (a : Option Addr) (len cap : Nat) (zs : List Int) (w : World) (hz : len ≤ zs.length) (hr : Row w a len cap zs) :
    (convert 34 9 (.slice a len cap)).run Tryz.prog w = .ok (.string (strB (zs.take len))) w := by
  rcases hr with rfl | ⟨hp, b, off, rfl, hlc, hm, hc, hb⟩
  · cases a with
    | none => rw [run_convert_bytes_string w 34 9 5 none 0 cap Tryz.underlying34 Tryz.underlying5 Tryz.underlying9]; rfl
    | some a => exact run_convert_bytes_back (P := Tryz.prog) w 34 9 5 a cap [] Tryz.underlying34 Tryz.underlying5 Tryz.underlying9 (fun j hj => by simp at hj)
  · have hlen : ((zs.take len).map fun n => UInt8.ofNat n.toNat).length = len := by simp; omega
    have h := run_convert_bytes_back (P := Tryz.prog) w 34 9 5 ⟨b, off, none⟩ cap ((zs.take len).map fun n => UInt8.ofNat n.toNat) Tryz.underlying34 Tryz.underlying5 Tryz.underlying9 (fun j hj => by
      rw [hlen] at hj
      rw [Addr.add_lit, hc j hj]
      have hbj := hb j
      have e : zs.getD j 0 = zs[j]'(by omega) := by simp [List.getD, List.getElem?_eq_getElem (show j < zs.length by omega)]
      rw [e] at hbj ⊢
      simp only [List.getElem_map, List.getElem_take]
      congr 2
      simp only [UInt8.toNat_ofNat']
      omega)
    rw [hlen] at h
    exact h

theorem row_new (w : World) (zs : List Int) (hb : ∀ i, 0 ≤ zs.getD i 0 ∧ zs.getD i 0 < 256) (hm : zs.length ≤ maxLen) :
    Row (w.alloc (.cells (zs.map (Value.int .u8)).toArray 5)) (some ⟨w.heap.size, 0, none⟩) zs.length zs.length zs := by
  rcases Nat.eq_zero_or_pos zs.length with h | h
  · exact .inl h
  · refine .inr ⟨h, w.heap.size, 0, rfl, Nat.le_refl _, hm, fun i hi => ?_, hb⟩
    rw [World.cell?_alloc_at _ _ _ _ rfl]
    simp [hi]

theorem Row.below {w w' : World} {B : Nat} {a : Option Addr} {len cap : Nat} {zs : List Int} (h : Row w a len cap zs) (hb : Below B w w') (hB : ∀ b, a = some b → b.block < B) : Row w' a len cap zs := by
  rcases h with h | ⟨hp, b, off, rfl, hlc, hm, hc, hz⟩
  · exact .inl h
  · exact .inr ⟨hp, b, off, rfl, hlc, hm, fun i hi => (hb.cell (p := ⟨b, off + i, none⟩) (show b < B from hB ⟨b, off, none⟩ rfl)).trans (hc i hi), hz⟩

theorem byteList (zs : List Int) (h : zs.all (fun z => 0 ≤ z && z < 256) = true) : ∀ i, 0 ≤ zs.getD i 0 ∧ zs.getD i 0 < 256 := by
  intro i
  by_cases hi : i < zs.length
  · have := List.all_eq_true.1 h zs[i] (List.getElem_mem hi)
    simp at this
    simpa [List.getD, List.getElem?_eq_getElem hi] using this
  · simp [List.getD, List.getElem?_eq_none (show zs.length ≤ i by omega)]
theorem Row.cut {w : World} {a : Option Addr} {len cap : Nat} {zs : List Int} (h : Row w a len cap zs) (m : Nat) (hm : m ≤ len) : Row w a m cap zs := by
  rcases Nat.eq_zero_or_pos m with h0 | h0
  · exact .inl h0
  · rcases h with h | ⟨hp, b, off, rfl, hlc, hx, hc, hz⟩
    · omega
    · exact .inr ⟨h0, b, off, rfl, by omega, hx, fun i hi => hc i (by omega), hz⟩

theorem info5' : (Tryz.prog.info? 5).map (fun i => (i.zero, i.size, i.bytes)) = some (some (.int .u8 0), 1, 1) := by kernel_rfl

/-- A value that is a slice of the bytes xs. -/
def Sl (w : World) (v : Value) (xs : List Int) : Prop :=
  ∃ a cap, v = .slice a xs.length cap ∧ xs.length ≤ cap ∧ cap ≤ maxLen ∧ (a = none → cap = 0) ∧ Row w a xs.length cap xs

theorem Row.kept {w w' : World} {a : Option Addr} {len cap : Nat} {zs : List Int} (h : Row w a len cap zs) (hb : Below w.heap.size w w') : Row w' a len cap zs := by
  rcases h with h | ⟨hp, b, off, rfl, hlc, hm, hc, hz⟩
  · exact .inl h
  · exact .inr ⟨hp, b, off, rfl, hlc, hm, fun i hi => (hb.cell (p := ⟨b, off + i, none⟩) (World.block_lt_of_cell? _ _ (hc i hi))).trans (hc i hi), hz⟩

theorem Sl.kept {w w' : World} {v : Value} {xs : List Int} (h : Sl w v xs) (hb : Below w.heap.size w w') : Sl w' v xs := by
  obtain ⟨a, cap, e, h1, h2, h3, h4⟩ := h
  exact ⟨a, cap, e, h1, h2, h3, h4.kept hb⟩

theorem Row.bytes {w : World} {a : Option Addr} {cap : Nat} {xs : List Int} (h : Row w a xs.length cap xs) : ∀ i, 0 ≤ xs.getD i 0 ∧ xs.getD i 0 < 256 := by
  rcases h with h | ⟨_, _, _, _, _, _, _, hz⟩
  · obtain rfl := List.length_eq_zero_iff.1 h
    intro i
    simp
  · exact hz

theorem Sl.bytes {w : World} {v : Value} {xs : List Int} (h : Sl w v xs) : ∀ i, 0 ≤ xs.getD i 0 ∧ xs.getD i 0 < 256 := by
  obtain ⟨a, cap, e, h1, h2, h3, h4⟩ := h
  exact h4.bytes

theorem Sl.none (w : World) : Sl w (.slice .none 0 0) [] := ⟨.none, 0, rfl, Nat.le_refl _, by simp, fun _ => rfl, .inl rfl⟩

theorem own_base {w : World} {base : Nat} {e : TypeId} {size : Nat} {v : Value} {n : Nat} {xs : List Value} (h : w.ownsRow base e size v n xs) : ∀ k, v.ownBlock = some k → base ≤ k := by
  rcases h.2 with ⟨rfl, _⟩ | ⟨g, cap, cur, rfl, hg, _⟩
  · intro k hk; cases hk
  · intro k hk; cases hk; exact hg

/-- A slice that owns bytes is one. -/
theorem sl_owned {w : World} {base n : Nat} {v : Value} {xs : List Int} (h : w.ownsRow base 5 1 v n (xs.map (Value.int .u8))) (hb : ∀ i, 0 ≤ xs.getD i 0 ∧ xs.getD i 0 < 256) : Sl w v xs := by
  have hl := h.1
  simp at hl
  subst hl
  rcases h.2 with ⟨rfl, h0⟩ | ⟨g, cap, cur, rfl, hg, hh, hc, hm, hs, ht⟩
  · obtain rfl := List.length_eq_zero_iff.1 h0
    exact Sl.none w
  · simp at ht
    refine ⟨_, cap, rfl, hc, hm, fun e => (by cases e), ?_⟩
    rcases Nat.eq_zero_or_pos xs.length with h0 | hp
    · exact .inl h0
    · refine .inr ⟨hp, g, 0, rfl, hc, hm, fun i hi => ?_, hb⟩
      have e : cur[i]? = some (.int .u8 (xs.getD i 0)) := by
        have := congrArg (·[i]?) ht
        simp only [List.getElem?_take, List.getElem?_map] at this
        rw [if_pos hi] at this
        simpa [List.getElem?_eq_getElem hi, List.getD] using this
      unfold World.cell?; rw [hh]; simpa using e

theorem ints_one (xs : List Int) : ∀ u ∈ xs.map (Value.int .u8), u.oneCell' = true := by
  intro u hu
  simp only [List.mem_map] at hu
  obtain ⟨z, _, rfl⟩ := hu
  rfl

/-- The cells of a row, as an append asks for them. -/
theorem news_row {w : World} {x : Addr} {cap : Nat} {xs : List Int} (h : Row w (some x) xs.length cap xs) :
    ∀ j u, (xs.map (Value.int .u8))[j]? = some u → w.cell? (x.add j) = some u := by
  intro j u hj
  rw [List.getElem?_map] at hj
  by_cases hlt : j < xs.length
  · rw [List.getElem?_eq_getElem hlt] at hj
    simp only [Option.map_some, Option.some.injEq] at hj
    rcases h with h | ⟨_, b, off, e, _, _, hc, _⟩
    · omega
    · cases e
      rw [Addr.add_lit, hc j hlt, ← hj]
      simp [List.getD, List.getElem?_eq_getElem hlt]
  · rw [List.getElem?_eq_none (by omega)] at hj
    simp at hj

/-- 'string(b)'. -/
theorem Sl.conv {w : World} {a : Option Addr} {len cap : Nat} {xs : List Int} (h : Sl w (.slice a len cap) xs) : (convert 34 9 (.slice a len cap)).run Tryz.prog w = .ok (.string (strB xs)) w := by
  obtain ⟨a', cap', e, h1, h2, h3, h4⟩ := h
  cases e
  have := conv_any a xs.length cap xs w (Nat.le_refl _) h4
  rwa [List.take_length] at this

theorem own_mono {w : World} {base base' : Nat} {e : TypeId} {size : Nat} {v : Value} {n : Nat} {xs : List Value} (h : w.ownsRow base e size v n xs) (hb : base' ≤ base) : w.ownsRow base' e size v n xs := by
  obtain ⟨h1, h2⟩ := h
  rcases h2 with h2 | ⟨g, cap, cur, hv, hg, r⟩
  · exact ⟨h1, .inl h2⟩
  · exact ⟨h1, .inr ⟨g, cap, cur, hv, Nat.le_trans hb hg, r⟩⟩

theorem bytes_flat (ZZ : List (List Int)) (h : ∀ X ∈ ZZ, ∀ i, 0 ≤ X.getD i 0 ∧ X.getD i 0 < 256) : ∀ i, 0 ≤ ZZ.flatten.getD i 0 ∧ ZZ.flatten.getD i 0 < 256 := by
  refine byteList _ ?_
  rw [List.all_eq_true]
  intro z hz
  obtain ⟨X, hX, hzX⟩ := List.mem_flatten.1 hz
  obtain ⟨i, hi, rfl⟩ := List.getElem_of_mem hzX
  have := h X hX i
  simp [List.getD, List.getElem?_eq_getElem hi] at this
  simpa using this

end Go.Proofs.YtmplpdjkhdaniaaGreatDoor
namespace Go.Proofs.YtmplpdjkhdaniaaGreatDoor
open Go.RowKit
set_option maxRecDepth 100000

section
variable {P : Program} {ops : Array Oper} {Q : Exit → Act → World → Prop} {md : Region.Mode}
/-- From a world on: all that stood there stays. -/
def From (u x : World) : Prop := Below u.heap.size u x
theorem wpAnyH_name {S : World → Prop} {W : World} {fuel : Nat} {listed : Array Bool} {a : Act} (h : ∀ n, Hid (n = W) → wpAnyH P md ops Q S fuel listed a n) : wpAnyH P md ops Q S fuel listed a W := h W rfl
theorem on {p : World → Prop} {u n : World} (f : Hid (∀ x, From u x → p x)) (hb : Below u.heap.size u n) : Hid (∀ x, From n x → p x) := fun x hx => f.out x (hb.trans (Below.mono hx hb.size))
end
theorem al_below (w : World) (o : Obj) : Below w.heap.size w (w.alloc o) := (Below.refl _ _).alloc (Nat.le_refl _) _
end Go.Proofs.YtmplpdjkhdaniaaGreatDoor
namespace Go.Proofs.YtmplpdjkhdaniaaGreatDoor
open Go.RowKit
set_option maxRecDepth 100000

theorem own_shape {w : World} {B n : Nat} {e : TypeId} {s : Nat} {v : Value} {xs : List Value} (h : w.ownsRow B e s v n xs) : ∃ a c, v = .slice a n c := by
  rcases h.2 with ⟨rfl, rfl⟩ | ⟨g, cap, cur, rfl, _⟩
  · exact ⟨_, _, rfl⟩
  · exact ⟨_, _, rfl⟩
theorem own_below {w w' : World} {B n s : Nat} {e : TypeId} {v : Value} {xs : List Value} (h : w.ownsRow B e s v n xs) (hb : Below w.heap.size w w') : w'.ownsRow B e s v n xs := by
  obtain ⟨h1, h2⟩ := h
  refine ⟨h1, ?_⟩
  rcases h2 with h2 | ⟨g, cap, cur, hv, hg, hh, r⟩
  · exact .inl h2
  · exact .inr ⟨g, cap, cur, hv, hg, (hb.block g (Array.getElem?_eq_some_iff.1 hh).1).trans hh, r⟩
/-- A row of another kind stays where a row grows. -/
theorem own_apart {w w' : World} {B C n m s t : Nat} {e f : TypeId} {v u : Value} {xs ys : List Value} (h : w.ownsRow B e s v n xs) (k : w.ownsRow C f t u m ys) (hef : e ≠ f) (hg : w.grownBy w' v.ownBlock) : w'.ownsRow C f t u m ys := by
  obtain ⟨k1, k2⟩ := k
  refine ⟨k1, ?_⟩
  rcases k2 with k2 | ⟨g, cap, cur, hv, hgg, hh, r⟩
  · exact .inl k2
  · refine .inr ⟨g, cap, cur, hv, hgg, ?_, r⟩
    refine (hg.block g (Array.getElem?_eq_some_iff.1 hh).1 ?_).trans hh
    intro e2
    rcases h.2 with ⟨rfl, _⟩ | ⟨g', cap', cur', rfl, _, hh', _⟩
    · cases e2
    · cases e2
      rw [hh] at hh'
      simp at hh'
      exact hef hh'.2.symm
theorem bytes_take (xs : List Int) (m : Nat) (hx : ∀ i, 0 ≤ xs.getD i 0 ∧ xs.getD i 0 < 256) : ∀ i, 0 ≤ (xs.take m).getD i 0 ∧ (xs.take m).getD i 0 < 256 := by
  intro i
  by_cases hi : i < m
  · have := hx i
    simpa [List.getD, List.getElem?_take, hi] using this
  · simp [List.getD, List.getElem?_take, hi]
theorem bytes_drop (xs : List Int) (m : Nat) (hx : ∀ i, 0 ≤ xs.getD i 0 ∧ xs.getD i 0 < 256) : ∀ i, 0 ≤ (xs.drop m).getD i 0 ∧ (xs.drop m).getD i 0 < 256 := by
  intro i
  have := hx (m + i)
  simpa [List.getD, List.getElem?_drop] using this
theorem Sl.take {w : World} {a : Option Addr} {len cap : Nat} {xs : List Int} (h : Sl w (.slice a len cap) xs) (m : Nat) (hm : m ≤ len) : Sl w (.slice a m cap) (xs.take m) := by
  obtain ⟨a', cap', e, h1, h2, h3, h4⟩ := h
  cases e
  have hlen : (xs.take m).length = m := by rw [List.length_take]; omega
  have hr := h4.cut m (by omega)
  refine ⟨a, cap, by rw [hlen], by rw [hlen]; omega, h2, h3, ?_⟩
  rw [hlen]
  rcases hr with h | ⟨hp, b, off, rfl, h1, h2, hc, hz'⟩
  · exact .inl h
  · refine .inr ⟨hp, b, off, rfl, h1, h2, fun i hi => ?_, bytes_take xs m hz'⟩
    rw [hc i hi]; simp [List.getD, hi]
theorem Sl.drop {w : World} {b off len cap : Nat} {xs : List Int} (h : Sl w (.slice (some ⟨b, off, Option.none⟩) len cap) xs) (n : Nat) (hn : n ≤ len) : Sl w (.slice (some ⟨b, off + n, Option.none⟩) (len - n) (cap - n)) (xs.drop n) := by
  obtain ⟨a', cap', e, h1, h2, h3, h4⟩ := h
  cases e
  have hl : (xs.drop n).length = xs.length - n := List.length_drop ..
  refine ⟨_, cap - n, by rw [hl], by rw [hl]; omega, by omega, fun e => (by cases e), ?_⟩
  rw [hl]
  rcases h4 with h | ⟨hp, b', off', e, hlc, hm, hc, hz⟩
  · exact .inl (by omega)
  · cases e
    rcases Nat.eq_zero_or_pos (xs.length - n) with h0 | h0
    · exact .inl h0
    · refine .inr ⟨h0, b, off + n, rfl, by omega, by omega, fun i hi => ?_, bytes_drop xs n hz⟩
      rw [show off + n + i = off + (n + i) by omega, hc (n + i) (by omega)]
      simp [List.getD, List.getElem?_drop]
end Go.Proofs.YtmplpdjkhdaniaaGreatDoor
namespace Go.Proofs.YtmplpdjkhdaniaaGreatDoor
open Go.RowKit
set_option maxRecDepth 100000

abbrev Sp := Int × Int
/-- A set's spans. -/
def Okk (x : Sp) : Prop := 0 ≤ x.1 ∧ x.1 ≤ x.2 ∧ x.2 ≤ 1099511627776
def Canon (l : List Sp) : Prop := (∀ x ∈ l, Okk x) ∧ l.Pairwise (fun x y => x.2 + 2 ≤ y.1)
def Mem (l : List Sp) (n : Int) : Prop := ∃ x ∈ l, x.1 ≤ n ∧ n ≤ x.2
theorem Canon.nil : Canon [] := ⟨fun x h => by simp at h, List.Pairwise.nil⟩
theorem Canon.tail {x : Sp} {l : List Sp} (h : Canon (x :: l)) : Canon l := ⟨fun y hy => h.1 y (List.mem_cons_of_mem _ hy), (List.pairwise_cons.1 h.2).2⟩
theorem Canon.head {x : Sp} {l : List Sp} (h : Canon (x :: l)) : Okk x := h.1 x (List.mem_cons_self ..)
theorem Canon.lt {x : Sp} {l : List Sp} (h : Canon (x :: l)) : ∀ y ∈ l, x.2 + 2 ≤ y.1 := (List.pairwise_cons.1 h.2).1
theorem Canon.one {x : Sp} (h : Okk x) : Canon [x] := ⟨fun y hy => by rw [List.mem_singleton.1 hy]; exact h, List.pairwise_singleton _ _⟩
theorem Canon.sub {l m : List Sp} (h : Canon l) (hs : m.Sublist l) : Canon m := ⟨fun x hx => h.1 x (hs.subset hx), h.2.sublist hs⟩
theorem Canon.app {l m : List Sp} (h1 : Canon l) (h2 : Canon m) (h : ∀ x ∈ l, ∀ y ∈ m, x.2 + 2 ≤ y.1) : Canon (l ++ m) :=
  ⟨fun x hx => (List.mem_append.1 hx).elim (h1.1 x) (h2.1 x), List.pairwise_append.2 ⟨h1.2, h2.2, h⟩⟩
theorem mem_nil (n : Int) : ¬ Mem [] n := fun ⟨x, h, _⟩ => by simp at h
theorem mem_cons (x : Sp) (l : List Sp) (n : Int) : Mem (x :: l) n ↔ (x.1 ≤ n ∧ n ≤ x.2) ∨ Mem l n := by
  unfold Mem
  constructor
  · rintro ⟨y, hy, h⟩
    rcases List.mem_cons.1 hy with rfl | hy
    · exact .inl h
    · exact .inr ⟨y, hy, h⟩
  · rintro (h | ⟨y, hy, h⟩)
    · exact ⟨x, List.mem_cons_self .., h⟩
    · exact ⟨y, List.mem_cons_of_mem _ hy, h⟩
theorem mem_app (l m : List Sp) (n : Int) : Mem (l ++ m) n ↔ Mem l n ∨ Mem m n := by
  induction l with
  | nil => simp [mem_nil]
  | cons x l ih => rw [List.cons_append, mem_cons, mem_cons, ih, or_assoc]
theorem Canon.mem_ge {x : Sp} {l : List Sp} (h : Canon (x :: l)) {n : Int} (hn : Mem (x :: l) n) : x.1 ≤ n := by
  rcases (mem_cons _ _ _).1 hn with h1 | ⟨y, hy, h1, _⟩
  · exact h1.1
  · have := h.lt y hy
    have := h.head.2.1
    omega
theorem Canon.mem_tail {x : Sp} {l : List Sp} (h : Canon (x :: l)) (n : Int) : Mem l n ↔ Mem (x :: l) n ∧ x.2 < n := by
  rw [mem_cons]
  constructor
  · intro hn
    obtain ⟨y, hy, h1, h2⟩ := hn
    exact ⟨.inr ⟨y, hy, h1, h2⟩, by have := h.lt y hy; omega⟩
  · rintro ⟨h1 | h1, h2⟩
    · omega
    · exact h1
theorem Canon.not_next {x : Sp} {l : List Sp} (h : Canon (x :: l)) : ¬ Mem (x :: l) (x.2 + 1) := by
  rw [mem_cons]
  rintro (h1 | ⟨y, hy, h1, h2⟩)
  · omega
  · have := h.lt y hy
    omega
theorem canon_ext : ∀ {l m : List Sp}, Canon l → Canon m → (∀ n, Mem l n ↔ Mem m n) → l = m
  | [], [], _, _, _ => rfl
  | [], y :: m, _, hm, h => absurd ((h y.1).2 ((mem_cons _ _ _).2 (.inl ⟨Int.le_refl _, hm.head.2.1⟩))) (mem_nil _)
  | x :: l, [], hl, _, h => absurd ((h x.1).1 ((mem_cons _ _ _).2 (.inl ⟨Int.le_refl _, hl.head.2.1⟩))) (mem_nil _)
  | x :: l, y :: m, hl, hm, h => by
    have a1 := hm.mem_ge ((h x.1).1 ((mem_cons _ _ _).2 (.inl ⟨Int.le_refl _, hl.head.2.1⟩)))
    have a2 := hl.mem_ge ((h y.1).2 ((mem_cons _ _ _).2 (.inl ⟨Int.le_refl _, hm.head.2.1⟩)))
    have b1 := hl.head.2.1
    have b2 := hm.head.2.1
    have e2 : x.2 = y.2 := by
      have c1 := hl.not_next
      have c2 := hm.not_next
      by_cases h1 : x.2 < y.2
      · exact absurd ((h (x.2 + 1)).2 ((mem_cons _ _ _).2 (.inl (by omega)))) c1
      · by_cases h2 : y.2 < x.2
        · exact absurd ((h (y.2 + 1)).1 ((mem_cons _ _ _).2 (.inl (by omega)))) c2
        · omega
    have e : x = y := Prod.ext (by omega) e2
    subst e
    rw [canon_ext hl.tail hm.tail (fun n => by rw [hl.mem_tail, hm.mem_tail, h])]
/-- How many numbers there are. -/
def cnt : List Sp → Int
  | [] => 0
  | x :: l => (x.2 - x.1 + 1) + cnt l
theorem cnt_app (l m : List Sp) : cnt (l ++ m) = cnt l + cnt m := by
  induction l with
  | nil => simp [cnt]
  | cons x l ih => simp only [List.cons_append, cnt, ih]; omega
/-- How many of the first numbers are told. -/
def kc (p : Nat → Bool) : Nat → Nat
  | 0 => 0
  | n + 1 => kc p n + (if p n = true then 1 else 0)
theorem kc_congr {p q : Nat → Bool} (h : ∀ i, p i = q i) : ∀ n, kc p n = kc q n
  | 0 => rfl
  | n + 1 => by unfold kc; rw [kc_congr h n, h n]
theorem kc_or (p q : Nat → Bool) : ∀ n, kc (fun i => p i || q i) n + kc (fun i => p i && q i) n = kc p n + kc q n
  | 0 => rfl
  | n + 1 => by
    have := kc_or p q n
    simp only [kc]
    by_cases hp : p n = true <;> by_cases hq : q n = true <;> simp [hp, hq] <;> omega
theorem kc_none {p : Nat → Bool} (h : ∀ i, p i = false) : ∀ n, kc p n = 0
  | 0 => rfl
  | n + 1 => by unfold kc; rw [kc_none h n, h n]; rfl
theorem kc_le {p q : Nat → Bool} (h : ∀ i, p i = true → q i = true) : ∀ n, kc p n ≤ kc q n
  | 0 => Nat.le_refl _
  | n + 1 => by
    have := kc_le h n
    have hn := h n
    unfold kc
    cases hp : p n
    · simp; omega
    · rw [hn hp]; simp; omega
theorem kc_all {p q : Nat → Bool} (h : ∀ i, p i = true → q i = true) : ∀ n, kc p n = kc q n → ∀ i, i < n → q i = true → p i = true
  | 0, _, i, hi, _ => by omega
  | n + 1, he, i, hi, hq => by
    have hle := kc_le h n
    unfold kc at he
    by_cases hin : i = n
    · subst hin
      rw [hq] at he
      cases hp : p i with
      | true => rfl
      | false => rw [hp] at he; simp at he; omega
    · refine kc_all h n ?_ i (by omega) hq
      have hn := h n
      cases hp : p n with
      | true => rw [hp, hn hp] at he; omega
      | false =>
        rw [hp] at he
        cases hqn : q n with
        | false => rw [hqn] at he; omega
        | true => rw [hqn] at he; simp at he; omega
def inx (a b : Int) (i : Nat) : Bool := decide (a ≤ (i : Int)) && decide ((i : Int) ≤ b)
theorem kc_inx (a b : Int) (ha : 0 ≤ a) (hab : a ≤ b + 1) : ∀ n : Nat, (kc (inx a b) n : Int) = (if (n : Int) ≤ a then 0 else if (n : Int) ≤ b + 1 then n - a else b + 1 - a)
  | 0 => by simp [kc]; omega
  | n + 1 => by
    have := kc_inx a b ha hab n
    have e : inx a b n = (decide (a ≤ (n : Int)) && decide ((n : Int) ≤ b)) := rfl
    unfold kc
    by_cases h1 : a ≤ (n : Int)
    · by_cases h2 : (n : Int) ≤ b
      · rw [e, decide_eq_true h1, decide_eq_true h2]
        simp only [Bool.and_self, if_true]
        split at this <;> split <;> (try split at this) <;> (try split) <;> omega
      · rw [e, decide_eq_false h2, Bool.and_false]
        simp only [Bool.false_eq_true, if_false]
        split at this <;> split <;> (try split at this) <;> (try split) <;> omega
    · rw [e, decide_eq_false h1, Bool.false_and]
      simp only [Bool.false_eq_true, if_false]
      split at this <;> split <;> (try split at this) <;> (try split) <;> omega
def memb (l : List Sp) (i : Nat) : Bool := l.any fun x => inx x.1 x.2 i
theorem memb_iff (l : List Sp) (i : Nat) : memb l i = true ↔ Mem l i := by
  unfold memb Mem inx
  simp only [List.any_eq_true, Bool.and_eq_true, decide_eq_true_eq]
theorem cnt_kc {N : Nat} (hN : N = 1099511627777) : ∀ l, Canon l → cnt l = (kc (memb l) N : Int)
  | [], _ => by rw [kc_none (p := memb []) (fun i => rfl)]; rfl
  | x :: l, h => by
    have ih := cnt_kc hN l h.tail
    have ho := kc_or (inx x.1 x.2) (memb l) N
    have e1 : kc (memb (x :: l)) N = kc (fun i => inx x.1 x.2 i || memb l i) N := kc_congr (fun i => rfl) N
    have e2 : kc (fun i => inx x.1 x.2 i && memb l i) N = 0 := kc_none (fun i => by
      cases h1 : inx x.1 x.2 i with
      | false => rfl
      | true =>
        cases h2 : memb l i with
        | false => rfl
        | true =>
          obtain ⟨y, hy, h3, _⟩ := (memb_iff _ _).1 h2
          have := h.lt y hy
          unfold inx at h1
          simp only [Bool.and_eq_true, decide_eq_true_eq] at h1
          omega) N
    have hx := h.head
    have e3 := kc_inx x.1 x.2 hx.1 (by have := hx.2.1; omega) N
    have hb := hx.2
    rw [if_neg (by omega)] at e3
    rw [cnt, ih, e1]
    split at e3 <;> omega
theorem cnt_nonneg {l : List Sp} (h : Canon l) : 0 ≤ cnt l := by
  induction l with
  | nil => simp [cnt]
  | cons x l ih =>
    have := ih h.tail
    have := h.head.2.1
    simp only [cnt]
    omega
theorem cnt_le {l : List Sp} (h : Canon l) : cnt l ≤ (1099511627777 : Int) * l.length := by
  induction l with
  | nil => simp [cnt]
  | cons x l ih =>
    have := ih h.tail
    have := h.head
    unfold Okk at this
    simp only [cnt, List.length_cons]
    omega
theorem nat_of {n : Int} (h : 0 ≤ n) : ∃ i : Nat, (i : Int) = n := ⟨n.toNat, by omega⟩
theorem Canon.mem_bd {l : List Sp} (h : Canon l) {n : Int} (hn : Mem l n) : 0 ≤ n ∧ n ≤ 1099511627776 := by
  obtain ⟨x, hx, h1, h2⟩ := hn
  have := h.1 x hx
  unfold Okk at this
  omega
/-- All of a span is there where its count is the span's. -/
theorem full_of {l c : List Sp} {f t : Int} (hc : Canon c) (hf : 0 ≤ f) (hft : f ≤ t) (ht : t ≤ 1099511627776) (h2 : ∀ n, Mem c n ↔ Mem l n ∧ f ≤ n ∧ n ≤ t) (he : cnt c = t - f + 1) : ∀ n, f ≤ n → n ≤ t → Mem l n := by
  obtain ⟨N, hN⟩ : ∃ N : Nat, N = 1099511627777 := ⟨_, rfl⟩
  rw [cnt_kc hN c hc] at he
  have e3 := kc_inx f t hf (by omega) N
  rw [if_neg (by omega)] at e3
  replace e3 : (kc (inx f t) N : Int) = t + 1 - f := by split at e3 <;> omega
  intro n h1 h3
  obtain ⟨i, rfl⟩ := nat_of (show 0 ≤ n by omega)
  have := kc_all (p := memb c) (q := inx f t) (fun i hi => by
    have := ((h2 i).1 ((memb_iff _ _).1 hi)).2
    unfold inx
    simp only [Bool.and_eq_true, decide_eq_true_eq]
    exact this) N (by omega) i (by omega) (by unfold inx; simp only [Bool.and_eq_true, decide_eq_true_eq]; omega)
  exact ((h2 i).1 ((memb_iff _ _).1 this)).1
end Go.Proofs.YtmplpdjkhdaniaaGreatDoor
namespace Go.Proofs.YtmplpdjkhdaniaaGreatDoor
open Go.RowKit
set_option maxRecDepth 100000

/-- Structs of k cells each. -/
def CL (k : Nat) (L : List (List Value)) : Prop := ∀ c ∈ L, c.length = k ∧ ∀ v ∈ c, v.oneCell' = true
def atC (L : List (List Value)) (i : Nat) : List Value := L.getD i []
theorem atC_eq (L : List (List Value)) (i : Nat) (h : i < L.length) : atC L i = L[i] := by simp [atC, List.getD, h]
theorem atC_mem (L : List (List Value)) (i : Nat) (h : i < L.length) : atC L i ∈ L := by rw [atC_eq L i h]; exact List.getElem_mem h
theorem CL.nil (k : Nat) : CL k [] := fun c h => by simp at h
theorem CL.app {k : Nat} {L M : List (List Value)} (h : CL k L) (h' : CL k M) : CL k (L ++ M) := fun c hc => (List.mem_append.1 hc).elim (h c) (h' c)
theorem CL.one {k : Nat} {c : List Value} (h : c.length = k) (h' : ∀ v ∈ c, v.oneCell' = true) : CL k [c] := fun d hd => by simp at hd; subst hd; exact ⟨h, h'⟩
theorem CL.take {k : Nat} {L : List (List Value)} (h : CL k L) (n : Nat) : CL k (L.take n) := fun c hc => h c (List.mem_of_mem_take hc)
theorem CL.drop {k : Nat} {L : List (List Value)} (h : CL k L) (n : Nat) : CL k (L.drop n) := fun c hc => h c (List.mem_of_mem_drop hc)
theorem CL.ones {k : Nat} {L : List (List Value)} (h : CL k L) : ∀ v ∈ L.flatten, v.oneCell' = true := fun v hv => by
  obtain ⟨c, hc, hv⟩ := List.mem_flatten.1 hv
  exact (h c hc).2 v hv
theorem CL.flat {k : Nat} : ∀ {L : List (List Value)}, CL k L → L.flatten.length = L.length * k
  | [], _ => by simp
  | c :: L, h => by
    rw [List.flatten_cons, List.length_append, (h c (by simp)).1, CL.flat (L := L) fun d hd => h d (by simp [hd]), List.length_cons, Nat.succ_mul]
    omega
theorem CL.flat_take {k : Nat} : ∀ {L : List (List Value)} (i : Nat), CL k L → L.flatten.take (i * k) = (L.take i).flatten
  | [], i, _ => by simp
  | c :: L, 0, _ => by simp
  | c :: L, i + 1, h => by
    have hc := (h c (by simp)).1
    rw [List.flatten_cons, List.take_succ_cons, List.flatten_cons, List.take_append, hc, List.take_of_length_le (by rw [hc, Nat.succ_mul]; omega), Nat.succ_mul, Nat.add_sub_cancel, CL.flat_take i fun d hd => h d (by simp [hd])]
theorem CL.flat_drop {k : Nat} : ∀ {L : List (List Value)} (i : Nat), CL k L → L.flatten.drop (i * k) = (L.drop i).flatten
  | [], i, _ => by simp
  | c :: L, 0, _ => by simp
  | c :: L, i + 1, h => by
    have hc := (h c (by simp)).1
    rw [List.flatten_cons, List.drop_succ_cons, List.drop_append, hc, List.drop_of_length_le (by rw [hc, Nat.succ_mul]; omega), Nat.succ_mul, Nat.add_sub_cancel, CL.flat_drop i fun d hd => h d (by simp [hd]), List.nil_append]
theorem CL.get {k : Nat} {L : List (List Value)} (h : CL k L) {i j : Nat} {v : Value} (hi : i < L.length) (hv : (atC L i)[j]? = some v) : L.flatten[i * k + j]? = some v := by
  have hc := h _ (atC_mem L i hi)
  have hj : j < k := by rw [← hc.1]; exact (List.getElem?_eq_some_iff.1 hv).1
  rw [← List.getElem?_drop, h.flat_drop, List.drop_eq_getElem_cons hi, List.flatten_cons, List.getElem?_append_left (by rw [← atC_eq L i hi, hc.1]; exact hj), ← atC_eq L i hi, hv]
/-- A value that is a slice of structs. -/
def IS (k : Nat) (w : World) (v : Value) (L : List (List Value)) : Prop :=
  ∃ a c, v = .slice a L.length c ∧ L.length ≤ c ∧ c ≤ maxLen ∧ (a = none → c = 0) ∧ CL k L ∧ (L = [] ∨ ∃ b off, a = some ⟨b, off, none⟩ ∧ ∀ i, i < L.length → w.rangeAt b (off + i * k) (atC L i))
theorem range_kept {w w' : World} {b o : Nat} {cs : List Value} (h : w.rangeAt b o cs) (hb : Below w.heap.size w w') : w'.rangeAt b o cs := fun j v hv =>
  (hb.cell (World.block_lt_of_cell? _ _ (h j v hv))).trans (h j v hv)
theorem IS.kept {k : Nat} {w w' : World} {v : Value} {L : List (List Value)} (h : IS k w v L) (hb : Below w.heap.size w w') : IS k w' v L := by
  obtain ⟨a, c, h1, h2, h3, h4, h5, h6⟩ := h
  refine ⟨a, c, h1, h2, h3, h4, h5, ?_⟩
  rcases h6 with h6 | ⟨b, off, e, h7⟩
  · exact .inl h6
  · exact .inr ⟨b, off, e, fun i hi => range_kept (h7 i hi) hb⟩
theorem IS.shape {k : Nat} {w : World} {v : Value} {L : List (List Value)} (h : IS k w v L) : ∃ a c, v = .slice a L.length c ∧ L.length ≤ c ∧ c ≤ maxLen ∧ (a = none → c = 0) := by
  obtain ⟨a, c, h1, h2, h3, h4, _⟩ := h
  exact ⟨a, c, h1, h2, h3, h4⟩
theorem IS.cl {k : Nat} {w : World} {v : Value} {L : List (List Value)} (h : IS k w v L) : CL k L := by
  obtain ⟨a, c, h1, h2, h3, h4, h5, _⟩ := h
  exact h5
theorem IS.nil (k : Nat) (w : World) : IS k w (.slice none 0 0) [] := ⟨none, 0, rfl, Nat.le_refl _, by unfold maxLen; omega, fun _ => rfl, CL.nil k, .inl rfl⟩
/-- A struct's cells, in a slice. -/
theorem IS.at {k : Nat} {w : World} {a : Option Addr} {n c : Nat} {L : List (List Value)} (h : IS k w (.slice a n c) L) (i : Nat) (hi : i < L.length) :
    ∃ b off, a = some ⟨b, off, none⟩ ∧ w.rangeAt b (off + i * k) (atC L i) := by
  obtain ⟨a', c', h1, h2, h3, h4, h5, h6⟩ := h
  cases h1
  rcases h6 with h6 | ⟨b, off, e, h7⟩
  · subst h6; simp at hi
  · exact ⟨b, off, e, h7 i hi⟩
theorem IS.take {k : Nat} {w : World} {a : Option Addr} {n c : Nat} {L : List (List Value)} (h : IS k w (.slice a n c) L) (m : Nat) (hm : m ≤ n) : IS k w (.slice a m c) (L.take m) := by
  obtain ⟨a', c', h1, h2, h3, h4, h5, h6⟩ := h
  cases h1
  have hl : (L.take m).length = m := by rw [List.length_take]; omega
  refine ⟨a, c, by rw [hl], by rw [hl]; omega, h3, h4, h5.take m, ?_⟩
  rcases h6 with rfl | ⟨b, off, e, h7⟩
  · exact .inl (by simp)
  · refine .inr ⟨b, off, e, fun i hi => ?_⟩
    rw [hl] at hi
    have := h7 i (by omega)
    simpa [atC, List.getD, List.getElem?_take, hi] using this
/-- Structs in a row of the call's own. -/
def RI (t : TypeId) (k : Nat) (w : World) (B : Nat) (v : Value) (L : List (List Value)) : Prop := w.ownsRow B t k v L.length L.flatten ∧ CL k L
theorem RI.nil (t : TypeId) (k : Nat) (w : World) (B : Nat) : RI t k w B (.slice none 0 0) [] := ⟨⟨by simp, .inl ⟨rfl, rfl⟩⟩, CL.nil k⟩
theorem RI.below {t : TypeId} {k : Nat} {w w' : World} {B : Nat} {v : Value} {L : List (List Value)} (h : RI t k w B v L) (hb : Below w.heap.size w w') : RI t k w' B v L := ⟨own_below h.1 hb, h.2⟩
theorem RI.mono {t : TypeId} {k : Nat} {w : World} {B B' : Nat} {v : Value} {L : List (List Value)} (h : RI t k w B v L) (hb : B' ≤ B) : RI t k w B' v L := ⟨own_mono h.1 hb, h.2⟩
theorem RI.is {t : TypeId} {k : Nat} {w : World} {B : Nat} {v : Value} {L : List (List Value)} (h : RI t k w B v L) : IS k w v L := by
  obtain ⟨h, hok⟩ := h
  have h' := h
  rcases h.2 with ⟨rfl, h2⟩ | ⟨g, cap, cur, rfl, hg, hh, hl, hm, r⟩
  · obtain rfl : L = [] := List.length_eq_zero_iff.1 h2
    exact IS.nil k w
  · refine ⟨_, cap, rfl, hl, hm, (fun e => by cases e), hok, .inr ⟨g, 0, rfl, fun i hi j v hv => ?_⟩⟩
    have := h'.cells (g := g) rfl (i * k + j) v (hok.get hi hv)
    rwa [Addr.add_lit, ← Nat.add_assoc] at this
/-- A block that is a struct. -/
theorem blk_range {w : World} {g : Nat} {t : TypeId} {cs : List Value} (h : w.heap[g]? = some (.cells cs.toArray t (0, 0))) : w.rangeAt g 0 cs := fun j v hv => by
  rw [Nat.zero_add]
  unfold World.cell?
  rw [h]
  simpa using hv
theorem blk_kept {w w' : World} {g B : Nat} {o : Obj} (h : w.heap[g]? = some o) (hb : Below B w w') (hB : g < B) : w'.heap[g]? = some o := (hb.block g hB).trans h
theorem blk_lt {w : World} {g : Nat} {o : Obj} (h : w.heap[g]? = some o) : g < w.heap.size := (Array.getElem?_eq_some_iff.1 h).1
/-- A slice of bytes, in the midst of a struct. -/
theorem sl_range {w : World} {b o : Nat} {A : List Int} {n c : Nat} (h : w.rangeAt b o (A.map (Value.int .u8))) (hb : ∀ k, 0 ≤ A.getD k 0 ∧ A.getD k 0 < 256) (hn : n = A.length) (hc : n ≤ c) (hm : c ≤ maxLen) : Sl w (.slice (some ⟨b, o, none⟩) n c) A := by
  subst hn
  refine ⟨_, c, rfl, hc, hm, fun e => (by cases e), ?_⟩
  rcases Nat.eq_zero_or_pos A.length with h0 | hp
  · exact .inl h0
  · refine .inr ⟨hp, b, o, rfl, hc, hm, fun i hi => ?_, hb⟩
    refine h i _ ?_
    rw [List.getElem?_map, List.getElem?_eq_getElem hi]
    simp [List.getD, List.getElem?_eq_getElem hi]
/-- A struct laid behind. -/
theorem wpList_append_it {w : World} {ops : Array Oper} {rest : List Oper} {o : Oper} {a : Act} {Q : Exit → Act → World → Prop} (hgd : o.guard = none) (s x : Operand) (ts t : TypeId) (k nb : Nat) (z : Value)
    (ho : o.op = .call { callee := .builtin .append, args := #[s, x], argTypes := #[ts, ts] }) (hu : Tryz.prog.underlying ts = some (.slice t)) (hI : (Tryz.prog.info? t).map (fun i => (i.zero, i.size, i.bytes)) = some (some z, k, nb)) (hcl : z.cells.size = k) (hk : 0 < k) (hnb : nb ≤ 1000)
    (B : Nat) (v : Value) (L : List (List Value)) (hs : a.eval s = v) (hown : RI t k w B v L) (g : Nat) (y : List Value) (cap : Nat) (hy : y.length = k) (hy1 : ∀ v ∈ y, v.oneCell' = true)
    (hx : a.eval x = .slice (some ⟨g, 0, none⟩) 1 cap) (hc : w.rangeAt g 0 y) (hbig : L.length ≤ 100000) (hbase : B ≤ w.heap.size)
    (h : ∀ v' w', RI t k w' B v' (L ++ [y]) → w.grownBy w' v.ownBlock → wpList Tryz.prog ops Q rest (a.put o.dst v') w') : wpList Tryz.prog ops Q (o :: rest) a w := by
  obtain ⟨i0, hi, hz0, hz1, hz2⟩ := info_parts hI
  refine wpList_append_own_wide w hgd s x ts ho B t i0 z k nb hu hi hz0 hz1 hz2 hcl hk v L.length L.flatten hs hown.1 ⟨g, 0, none⟩ 1 cap y hx (by rw [hy]; omega) ?_ hy1 (by unfold maxLen; omega) (by
    have := Nat.mul_le_mul (show L.length + 1 + (L.length + 1) / 4 + 192 ≤ 200000 by omega) hnb
    omega) hbase ?_
  · intro j u hj
    rw [Addr.add_lit]
    exact hc j u hj
  · intro v' w' ho' hg _
    refine h v' w' ⟨?_, hown.2.app (CL.one hy hy1)⟩ hg
    rw [List.length_append, List.flatten_append, List.flatten_cons, List.flatten_nil, List.append_nil]
    exact ho'
end Go.Proofs.YtmplpdjkhdaniaaGreatDoor
