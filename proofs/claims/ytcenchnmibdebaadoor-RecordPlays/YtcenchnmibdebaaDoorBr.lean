/-
  The names of the families side by side: what is one is one; the tables; parts joined.
-/
import Derived.Test.YtcenchnmibdebaaDoorCi
import Derived.Test.YtcenchnmibdebaaDoorFiK
import Derived.Test.YtcenchnmibdebaaDoorFiK
import Derived.Test.YtcenchnmibdebaaDoorFiK
import Derived.Test.YtcenchnmibdebaaDoorFiK
import Derived.Test.YtcenchnmibdebaaDoorCrK
namespace Go.Proofs.YtcenchnmibdebaaDoor
open Go.RowKit
set_option maxRecDepth 100000

theorem fsl {w : World} {v : Value} {xs : List Int} (h : Sl w v xs) : Fi.Sl w v xs := h
theorem slf {w : World} {v : Value} {xs : List Int} (h : Fi.Sl w v xs) : Sl w v xs := h
/-- The tables, as the walks read them. -/
def Tb (w : World) : Prop := Cr.Tab w ∧ Fi.Wid w ∧ Mx w
theorem Tb.kept {w w' : World} (h : Tb w) (hb : Below w.heap.size w w') : Tb w' := ⟨h.1.below hb h.1.pos, h.2.1.below hb h.2.1.pos, h.2.2.kept hb⟩
theorem numB_len8 (n : Int) : (Fi.numB n).length ≤ 8 := by
  unfold Fi.numB
  split
  · simp
  · rename_i h0
    obtain ⟨W, hW, _, hI, _, _, hn⟩ := Fi.pos_lim n h0
    rw [hW, Int.toNat_natCast, Fi.pb_len n W hI]
    rcases hI with rfl | rfl | rfl | rfl <;> omega
theorem textB_len9 (s : ByteArray) : (Fi.textB s).length ≤ 8 + s.size := (Fi.textB_len s).1
theorem sl_lit {w : World} (z : Int) (h0 : 0 ≤ z) (h1 : z < 256) : Sl (w.alloc (.cells #[.int .u8 z] 5)) (.slice (some ⟨w.heap.size, 0, none⟩) 1 1) [z] := by
  refine sl_range (A := [z]) (fun j v hv => ?_) (byteList _ (by simp; omega)) rfl (Nat.le_refl _) (by unfold maxLen; omega)
  rw [World.cell?_alloc_at _ _ _ _ rfl]
  simpa using hv
theorem two_get {P : Value → List Int → Prop} {u0 u1 : Value} {X0 X1 : List Int} (h0 : P u0 X0) (h1 : P u1 X1) : ∀ i, i < [X0, X1].length → ∃ u, [u0, u1][i]? = some u ∧ P u ([X0, X1].getD i []) := fun i hi => by
  rcases (show i = 0 ∨ i = 1 by simp at hi; omega) with rfl | rfl
  · exact ⟨u0, rfl, h0⟩
  · exact ⟨u1, rfl, h1⟩
theorem four_get {P : Value → List Int → Prop} {u0 u1 u2 u3 : Value} {X0 X1 X2 X3 : List Int} (h0 : P u0 X0) (h1 : P u1 X1) (h2 : P u2 X2) (h3 : P u3 X3) : ∀ i, i < [X0, X1, X2, X3].length → ∃ u, [u0, u1, u2, u3][i]? = some u ∧ P u ([X0, X1, X2, X3].getD i []) := fun i hi => by
  rcases (show i = 0 ∨ i = 1 ∨ i = 2 ∨ i = 3 by simp at hi; omega) with rfl | rfl | rfl | rfl
  · exact ⟨u0, rfl, h0⟩
  · exact ⟨u1, rfl, h1⟩
  · exact ⟨u2, rfl, h2⟩
  · exact ⟨u3, rfl, h3⟩
/-- Values that are slices, in a row, as parts. -/
theorem partsL {w : World} (us : List Value) (XX : List (List Int)) (hl : XX.length ≤ 100000) (h : ∀ i, i < XX.length → ∃ u, us[i]? = some u ∧ Sl w u (XX.getD i [])) : Fi.Parts (w.alloc (.cells us.toArray 27)) (some ⟨w.heap.size, 0, none⟩) XX := by
  refine ⟨by omega, .inr ⟨w.heap.size, 0, rfl, fun i hi => ?_⟩⟩
  obtain ⟨u, hu, su⟩ := h i hi
  refine ⟨u, ?_, fsl (su.kept (al_below _ _))⟩
  rw [World.cell?_alloc_at _ _ _ _ rfl]
  simpa using hu
theorem fparts_kept {w w' : World} {p : Option Addr} {ZZ : List (List Int)} (h : Fi.Parts w p ZZ) (hb : Below w.heap.size w w') : Fi.Parts w' p ZZ := by
  refine ⟨h.1, ?_⟩
  rcases h.2 with h | ⟨b, off, e, h⟩
  · exact .inl h
  · refine .inr ⟨b, off, e, fun i hi => ?_⟩
    obtain ⟨v, h1, h2⟩ := h i hi
    exact ⟨v, (hb.cell (World.block_lt_of_cell? _ _ h1)).trans h1, h2.kept hb⟩
theorem parts_bytes {w : World} {p : Option Addr} {ZZ : List (List Int)} (h : Fi.Parts w p ZZ) : ∀ i, 0 ≤ ZZ.flatten.getD i 0 ∧ ZZ.flatten.getD i 0 < 256 := by
  refine bytes_flat ZZ fun X hX => ?_
  obtain ⟨i, hi, rfl⟩ := List.getElem_of_mem hX
  rcases h.2 with h | ⟨b, off, e, h⟩
  · subst h; simp at hi
  · obtain ⟨v, _, s⟩ := h i hi
    have := (slf s).bytes
    simpa [List.getD, List.getElem?_eq_getElem hi] using this
theorem fjoin_any (p : Option Addr) (kc : Nat) (ZZ : List (List Int)) (w : World) (hP : Fi.Parts w p ZZ) (hbig : ZZ.flatten.length ≤ 200000000000000) :
    Calls Tryd.prog 31 #[.slice p ZZ.length kc] w fun r w' => ∃ v, r = .returned v ∧ Sl w' v ZZ.flatten ∧ Below w.heap.size w w' :=
  (Fi.join_any p kc ZZ w hP hbig).mono fun _ _ ⟨v, e1, o, b⟩ => ⟨v, e1, sl_owned o (parts_bytes hP), b⟩
/-- A record's bytes: the body, sealed, the whole. -/
def bodyB (r : Rc) : List Int := if r.k = 0 then ([r.k] ++ Fi.numB r.x.i) ++ (Fi.textB r.x.p ++ (r.x.s ++ Fi.numB r.x.n)) else if r.k = 1 then ([r.k] ++ Fi.numB r.x.i) ++ Fi.numB r.x.o else [r.k] ++ Fi.numB r.x.i
end Go.Proofs.YtcenchnmibdebaaDoor
