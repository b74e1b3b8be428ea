/-
  A sum that came in by value; two sums compared, as one step.
-/
import Derived.Test.YthcpnhafikojnaaDoorFrame
import Derived.Test.YthcpnhafikojnaaDoorRHex
namespace Go.Proofs.YthcpnhafikojnaaDoor
open Go.ChangeShapes Go.WideShapes Go.ChangeAt Go.RowKit Go.Deep

theorem mapM_each {α β : Type} {f : α → Option β} : ∀ (L : List α) (ys : List β), L.mapM f = some ys → ∀ i ∈ L, ∃ y, f i = some y
  | [], _, _ => fun i hi => by cases hi
  | a :: L, ys, h => by
    rw [List.mapM_cons] at h
    simp only [bind, Option.bind_eq_some_iff, pure, Option.some.injEq] at h
    obtain ⟨y, hy, zs, hz, rfl⟩ := h
    intro i hi
    rcases List.mem_cons.1 hi with rfl | hi
    · exact ⟨y, hy⟩
    · exact mapM_each L zs hz i hi
/-- A sum that came in by value. -/
theorem hash_open {H : Type} {enc : TypeId × Value → H} {W : World} {base : Nat} {v : Value} {d : DataW H} {p : List MemPlace}
    (hval : Value.okWide Tryd.prog W .any base 26 v) (h : DataW.Trod enc Tryd.prog W 0 (fun _ => true) true 26 v d p) :
    ∃ A : List Int, v = .agg (u8s A) ∧ A.length = 32 ∧ Pl.Byt A := by
  simp only [Value.okWide, Tryd.underlying26] at hval
  obtain ⟨cs, rfl, hsz, _⟩ := hval
  have hc : Tryd.prog.cellsOf 26 = 32 := by kernel_rfl
  rw [hc] at hsz
  obtain ⟨fuel, hf⟩ := h
  cases fuel with
  | zero => simp [DataW.trod] at hf
  | succ m =>
    rw [DataW.trod_step] at hf
    unfold DataW.trodStep at hf
    simp only [Tryd.underlying26, Value.cells] at hf
    rw [if_pos (by rw [hc]; simpa using hsz)] at hf
    simp only [Option.map_eq_some_iff] at hf
    obtain ⟨ys, hy, _⟩ := hf
    have cell : ∀ i, i < 32 → ∃ a : Int, cs[i]? = some (.int .u8 a) ∧ (Lit.int .u8 a).wf = true := fun i hi => by
      obtain ⟨y, hyi⟩ := mapM_each _ _ hy i (by simpa using hi)
      obtain ⟨a, ea, _, wa⟩ := DataW.trod_int Tryd.underlying5 hyi
      refine ⟨a, ?_, wa⟩
      rw [cells5, Nat.mul_one] at ea
      have h0 := congrArg (·[0]?) ea
      simpa [List.getElem?_take, List.getElem?_drop] using h0
    refine ⟨cs.toList.map intOf, ?_, by simp [hsz], fun i => ?_⟩
    · congr 1
      apply Array.ext'
      unfold u8s
      rw [List.toList_toArray, List.map_map]
      apply List.ext_getElem?
      intro i
      rcases Nat.lt_or_ge i 32 with hi | hi
      · obtain ⟨a, ha, _⟩ := cell i hi
        rw [List.getElem?_map, Array.getElem?_toList, ha]
        simp [intOf]
      · rw [List.getElem?_eq_none (by simpa [hsz] using hi), List.getElem?_eq_none (by simpa [hsz] using hi)]
    · rcases Nat.lt_or_ge i 32 with hi | hi
      · obtain ⟨a, ha, wa⟩ := cell i hi
        have e : (cs.toList.map intOf).getD i 0 = a := by simp [List.getD, ha, intOf]
        rw [e]
        have := bounds_u8 wa
        omega
      · rw [List.getD, List.getElem?_eq_none (by simpa [hsz] using hi)]; simp
theorem eqb_of {U V : Array Value} {b : Bool} {w : World} (h : (Op.equalIn 10000 26 (.agg U) (.agg V)).run Tryd.prog w = .ok b w) : (binOp BinOp.eql 26 (.agg U) (.agg V)).run Tryd.prog w = .ok (.bool b) w := by
  have h' : (Op.equal 26 (.agg U) (.agg V)).run Tryd.prog w = .ok b w := h
  show (do pure (.bool (← Op.equal 26 (.agg U) (.agg V))) : Sem Value).run Tryd.prog w = _
  rw [Sem.run_bind, h']
  rfl
theorem eg26 : Tryd.prog.eqGuardType Tryd.prog.depth 26 = false := by kernel_rfl
theorem eg_run (x y : Operand) (U V : Array Value) (w : World) : (eqGuard BinOp.eql 26 x y (.agg U) (.agg V)).run Tryd.prog w = .ok () w := run_eqGuard_agg _ _ _ _ _ _ _ eg26
/-- '==' of two sums in a region that draws its order. -/
theorem yields_eql {S : World → Prop} {ops : Array Oper} {o : Oper} {a : Act} (hw : Region.wanted o (yielded ops a.tmps) = true) (x y : Operand) (t : TypeId) (ho : o.op = .binOp .eql 26 x y t)
    (U V : Array Value) (b : Bool) (hx : a.eval x = .agg U) (hy : a.eval y = .agg V) (hE : ∀ w, (binOp BinOp.eql 26 (.agg U) (.agg V)).run Tryd.prog w = .ok (.bool b) w) : YieldsIf Tryd.prog ops S o (.bool b) a :=
  .inl ⟨hw, fun w _ => by
    unfold execOp
    simp only [ho, hx, hy, Sem.run_bind, eg_run, hE, Result.andThen_ok, Sem.run_pure]⟩
theorem range_sum {w : World} {g : Nat} {KB : List Int} {t : TypeId} {fr : Nat × Nat} (h : w.heap[g]? = some (.cells (u8s KB) t fr)) : w.rangeAt g 0 (KB.map (Value.int .u8)) := by
  intro j v hv
  rw [Nat.zero_add, cell_of_row _ _ _ _ _ _ h]
  exact (by simpa [u8s] using hv)
theorem pval_len (l : List Int) : (pval l).length = 32 := by
  unfold pval
  split
  · exact pbytes_len l
  · simp
theorem pval_byt (l : List Int) : Pl.Byt (pval l) := by
  unfold pval
  split
  · next h =>
    have hd : ∀ c ∈ l, 0 ≤ dg c := by
      unfold pok at h
      simp only [Bool.and_eq_true, List.all_eq_true, decide_eq_true_eq] at h
      exact h.2
    have hl : l.length = 64 := by
      unfold pok at h
      simp only [Bool.and_eq_true, beq_iff_eq] at h
      exact h.1
    have hg : ∀ i, i < 64 → 0 ≤ dg (l.getD i 0) := fun i hi => by
      have := hd l[i] (List.getElem_mem (by omega))
      simpa [List.getD, List.getElem?_eq_getElem (show i < l.length by omega)] using this
    intro i
    rcases Nat.lt_or_ge i 32 with hi | hi
    · rw [pbytes_get _ _ hi]
      have h1 := hg (2 * i) (by omega)
      have h2 := hg (2 * i + 1) (by omega)
      have h3 := dg_lt (l.getD (2 * i) 0)
      have h4 := dg_lt (l.getD (2 * i + 1) 0)
      omega
    · rw [List.getD, List.getElem?_eq_none (by rw [pbytes_len]; exact hi)]; simp
  · exact byteList _ (by decide)
theorem perr_cases (l : List Int) : perr l = 0 ∨ perr l = 4 := by
  unfold perr
  split
  · exact .inl rfl
  · exact .inr rfl
end Go.Proofs.YthcpnhafikojnaaDoor
