/-
  What end answers; a slice of one part is built in a region that draws its order.
-/
import Derived.Test.YtcenchnmibdebaaDoorDe
import Derived.Great.BuildSlice
namespace Go.Proofs.YtcenchnmibdebaaDoor
open Go.RowKit
set_option maxRecDepth 100000

/-- The parts are turned. -/
theorem SV.parts {w w' : World} {B g : Nat} {v v' : Value} {s : Ste} {l : List Pa} (h : SV w B g v s) (hg : w.grownBy w' v.ownBlock) (h' : RP w' B v' l) : SV (w'.setCell ⟨g, 0, none⟩ v') B g v' ⟨l, s.n⟩ := by
  have hne : v.ownBlock ≠ some g := own_ne h.2.1.1 h.1 (by decide)
  have h1 : w'.heap[g]? = some (.cells #[v, .int .i64 s.n] 43 (0, 0)) := (hg.block g h.lt (fun e => hne e.symm)).trans h.1
  refine ⟨?_, ⟨own_set h'.1.1 (own_ne h'.1.1 h1 (by decide)), h'.1.2⟩, h'.2⟩
  rw [heap_setCell_same _ _ _ _ _ _ h1]
  rfl
def enO (s : Ste) (i : Int) : Option Ste := if plc s.l i < s.l.length then some ⟨s.l.eraseIdx (plc s.l i), s.n⟩ else none
theorem erase_map (l : List Pa) (i : Nat) (h : ∀ x ∈ l, x.ok) : (l.map Pa.cells).flatten.take (i * 36) ++ (l.map Pa.cells).flatten.drop ((i + 1) * 36) = ((l.eraseIdx i).map Pa.cells).flatten := by
  rw [CL.flat_take i (cl_pa h), CL.flat_drop (i + 1) (cl_pa h), List.eraseIdx_eq_take_drop_succ, List.map_append, List.flatten_append, List.map_take, List.map_drop]
theorem erase_ok {l : List Pa} {i : Nat} (h : ∀ x ∈ l, x.ok) : ∀ x ∈ l.eraseIdx i, x.ok := fun x hx => h x (List.mem_of_mem_eraseIdx hx)
set_option maxHeartbeats 2000000 in
theorem end_any (B g : Nat) (v : Value) (s : Ste) (i : Int) (w : World) (h : SV w B g v s) (hB : B ≤ g) (hBw : B ≤ w.heap.size) (hl : s.l.length ≤ 1000) :
    Calls Tryd.prog 46 #[.pointer (some ⟨g, 0, none⟩), .int .i64 i] w fun e w' => e = .returned (.bool (enO s i).isSome) ∧ SB w' B g ((enO s i).getD s) ∧ Below B w w' := by
  have CP := place_any B g v s i w h (by omega)
  have HM : Hid (enO s i = if plc s.l i < s.l.length then some ⟨s.l.eraseIdx (plc s.l i), s.n⟩ else none) := rfl
  have HP : Hid (plI s.l i = if plc s.l i < s.l.length then (plc s.l i : Int) else -1) := rfl
  by_cases hat : plc s.l i < s.l.length
  · have e1 : plI s.l i = (plc s.l i : Int) := by rw [HP.out, if_pos hat]
    rw [e1] at CP
    have HR : Hid (enO s i = some ⟨s.l.eraseIdx (plc s.l i), s.n⟩) := by unfold Hid; rw [HM.out, if_pos hat]
    have el : (s.l.eraseIdx (plc s.l i)).length = s.l.length - 1 := List.length_eraseIdx_of_lt hat
    have G : Hid (∀ W, Below w.heap.size w W → W.cell? ⟨g, 0, none⟩ = some v ∧ Below B w W ∧ Calls Tryd.prog 63 #[v, .int .i64 (plc s.l i : Int), .int .i64 ((plc s.l i : Int) + 1)] W fun e w' => ∃ v', e = .returned v' ∧ (∃ a c, v' = .slice a (s.l.length - 1) c) ∧ SV (w'.setCell ⟨g, 0, none⟩ v') B g v' ⟨s.l.eraseIdx (plc s.l i), s.n⟩ ∧ Below B W (w'.setCell ⟨g, 0, none⟩ v') ∧ w'.cell? ⟨g, 0, none⟩ = some v ∧ w'.frozen? ⟨g, 0, none⟩ = false) := fun W hb => by
      have hW := h.kept hb
      refine ⟨hW.cells.1, hb.mono hBw, ?_⟩
      have hd := delete_own B v s.l.length (plc s.l i) (s.l.map Pa.cells).flatten W hW.2.own hat (by omega) (cl_pa h.2.2).ones
      refine hd.mono ?_
      rintro e w' ⟨v', rfl, o', g', -⟩
      rw [erase_map s.l _ h.2.2] at o'
      have rp : RP w' B v' (s.l.eraseIdx (plc s.l i)) := by
        refine ⟨⟨?_, cl_pa (erase_ok h.2.2)⟩, erase_ok h.2.2⟩
        rw [List.length_map, el]
        exact o'
      have hne : v.ownBlock ≠ some g := own_ne hW.2.1.1 hW.1 (by decide)
      have h1 : w'.heap[g]? = some (.cells #[v, .int .i64 s.n] 43 (0, 0)) := (g'.block g hW.lt (fun e => hne e.symm)).trans hW.1
      refine ⟨v', rfl, ?_, hW.parts g' rp, ?_, by simp [World.cell?, h1], by simp [World.frozen?, h1]⟩
      · obtain ⟨a, c, e⟩ := own_shape o'
        exact ⟨a, c, e⟩
      · exact ((Below.refl B W).grown g' (Nat.le_trans hBw hb.size) (own_base hW.2.1.1)).trans (set_below hB)
    have yw : wrap64 ((plc s.l i : Int) + 1) = (plc s.l i : Int) + 1 := by unfold wrap64; omega
    have yp : IntKind.i64.wrap ((plc s.l i : Int) + 1) = (plc s.l i : Int) + 1 := by rw [IntKind.wrap_i64]; omega
    obtain ⟨va, vc, rfl, -, -, -⟩ := h.2.is.shape
    clear h hl HP e1 HM hat hBw hB el
    generalize s.l.eraseIdx (plc s.l i) = M at *
    generalize plc s.l i = j at *
    generalize enO s i = R at *
    generalize s.l.length = n at *
    have d0 : decide ((j : Int) < 0) = false := by simp
    go_enter Tryd.func46, Tryd.ntmps46
    go_wp2_with fail
    refine CP.mono ?_
    rintro e w1 ⟨rfl, b1⟩
    obtain ⟨g0, gb, gc⟩ := G.out w1 b1
    have GB : Hid (Below B w w1) := gb
    clear CP b1 G gb
    go_wp2_with fail
    refine gc.mono ?_
    rintro e w2 ⟨v2, rfl, ⟨a2, c2, rfl⟩, s2, b2, k2, f2⟩
    have HZ : Hid (SV (w2.setCell ⟨g, 0, none⟩ (.slice a2 (n - 1) c2)) B g (.slice a2 (n - 1) c2) ⟨M, s.n⟩ ∧ Below B w (w2.setCell ⟨g, 0, none⟩ (.slice a2 (n - 1) c2))) := ⟨s2, GB.out.trans b2⟩
    clear gc s2 b2 GB g0
    go_wp2
    go_ret
    exact ⟨by rw [HR.out]; rfl, by rw [HR.out]; exact ⟨_, HZ.out.1⟩, HZ.out.2⟩
  · have e1 : plI s.l i = -1 := by rw [HP.out, if_neg hat]
    rw [e1] at CP
    have HR : Hid (enO s i = none) := by unfold Hid; rw [HM.out, if_neg hat]
    have G : Hid (∀ W, Below w.heap.size w W → SV W B g v s ∧ Below B w W) := fun W hb => ⟨h.kept hb, hb.mono hBw⟩
    clear h hl HP e1 HM hat hBw hB
    generalize enO s i = R at *
    go_enter Tryd.func46, Tryd.ntmps46
    go_wp2_with fail
    refine CP.mono ?_
    rintro e w1 ⟨rfl, b1⟩
    have HZ : Hid (SV w1 B g v s ∧ Below B w w1) := G.out w1 b1
    clear CP b1 G
    go_wp2
    go_ret
    exact ⟨by rw [HR.out]; rfl, by rw [HR.out]; exact ⟨_, HZ.out.1⟩, HZ.out.2⟩
theorem fillP' (i n o : Int) (p : ByteArray) (f : Nat → Int) : Instr.fill (fun i => some (i * 36, 36)) ((Array.range (1 * 36)).map (pa0.val.cells[· % pa0.val.cells.size]!)) [(0, .agg (Pa.cells ⟨i, p, (List.range 32).map f, n, o⟩).toArray)] = some (Pa.cells ⟨i, p, (List.range 32).map f, n, o⟩).toArray := by kernel_rfl
theorem wp_bsP {o : Oper} {a : Act} {w : World} {K : Act → World → Prop} {Q : Exit → Act → World → Prop} (x : Operand) (ho : o.op = .buildSlice 41 1 #[(0, x)]) (y : Pa) (hy : y.ok) (hx : a.eval x = .agg y.cells.toArray)
    (h : K (a.put o.dst (.slice (some ⟨w.heap.size, 0, none⟩) 1 1)) (w.alloc (.cells y.cells.toArray 58))) : o.wp Tryd.prog a w K Q := by
  obtain ⟨ie, hi, hz0, hz1, hz2⟩ := info_parts infoP
  refine wp_buildSlice 41 58 1 #[(0, x)] ho y.cells.toArray ie pa0.val Tryd.underlying41 hi hz0 (by rw [hz1]; decide) (by rw [hz1]; decide) ?_ h
  have e : ((#[(0, x)] : Array (Nat × Operand)).map fun (i, x) => (i, a.eval x)).toList = [(0, .agg y.cells.toArray)] := by simp [hx]
  rw [e, hz1]
  have := fillP' y.i y.n y.o y.p (fun i => y.s.getD i 0)
  rwa [map_range y.s 32 hy.1] at this
end Go.Proofs.YtcenchnmibdebaaDoor
