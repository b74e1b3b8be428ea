/-
  The document's steps in a row of the call's own.
-/
import Derived.Test.YtajcabfeabbknaaGreatDoorRwa
import Derived.Test.YtajcabfeabbknaaGreatDoorCn
namespace Go.Proofs.YtajcabfeabbknaaGreatDoor
open Go.RowKit Go.Deep
set_option maxRecDepth 100000

def RS (w : World) (B : Nat) (v : Value) (l : List St) : Prop := w.ownsRow B 43 3 v l.length (cellsT l)
theorem RS.nil (w : World) (B : Nat) : RS w B (.slice none 0 0) [] := ⟨rfl, .inl ⟨rfl, rfl⟩⟩
theorem RS.below {w w' : World} {B : Nat} {v : Value} {l : List St} (h : RS w B v l) (hb : Below w.heap.size w w') : RS w' B v l := own_below h hb
theorem RS.mono {w : World} {B B' : Nat} {v : Value} {l : List St} (h : RS w B v l) (hb : B' ≤ B) : RS w B' v l := own_mono h hb
theorem infoRS : (Tryz.prog.info? 43).map (fun i => (i.zero, i.size, i.bytes)) = some (some (.agg #[.int .u8 0, .string ByteArray.empty, .string ByteArray.empty]), 3, 40) := by kernel_rfl
theorem wpList_append_rs {w0 wr : World} {ops : Array Oper} {rest : List Oper} {o : Oper} {a : Act} {Q : Exit → Act → World → Prop} (hgd : o.guard = none) (s x : Operand)
    (ho : o.op = .call { callee := .builtin .append, args := #[s, x], argTypes := #[35, 35] })
    (v : Value) (L : List St) (hs : a.eval s = v) (hse : RS wr w0.heap.size v L) (y : St) (hx : a.eval x = .slice (some ⟨wr.heap.size, 0, none⟩) 1 1) (hbig : L.length ≤ 1000) (hB : Below w0.heap.size w0 wr)
    (h : ∀ v' w', RS w' w0.heap.size v' (L ++ [y]) → Below w0.heap.size w0 w' → wpList Tryz.prog ops Q rest (a.put o.dst v') w') :
    wpList Tryz.prog ops Q (o :: rest) a (wr.alloc (.cells #[.int .u8 y.κ, .string y.p, .string y.t] 43)) := by
  obtain ⟨i0, hi, hz0, hz1, hz2⟩ := info_parts infoRS
  have n4 : Below wr.heap.size wr (wr.alloc (.cells #[.int .u8 y.κ, .string y.p, .string y.t] 43)) := (Below.refl _ _).alloc (Nat.le_refl _) _
  have B4 : Below w0.heap.size w0 (wr.alloc (.cells #[.int .u8 y.κ, .string y.p, .string y.t] 43)) := hB.trans (n4.mono hB.size)
  have O4 := own_below hse n4
  refine wpList_append_own_wide _ hgd s x 35 ho w0.heap.size 43 i0 (.agg #[.int .u8 0, .string ByteArray.empty, .string ByteArray.empty]) 3 40 Tryz.underlying35 hi hz0 hz1 hz2 rfl (by decide) v L.length (cellsT L) hs O4 ⟨wr.heap.size, 0, none⟩ 1 1 [.int .u8 y.κ, .string y.p, .string y.t] hx rfl (new3 wr _ _ _ _) (by intro u hu; simp at hu; rcases hu with rfl | rfl | rfl <;> rfl) (by unfold maxLen; omega) (by omega) B4.size ?_
  intro v5 w5 o5 g5 _
  refine h v5 w5 ?_ (B4.grown g5 B4.size (own_base O4))
  unfold RS
  rw [List.length_append, cellsT_app]
  exact o5
end Go.Proofs.YtajcabfeabbknaaGreatDoor
