/-
  The reader's calls, at whatever error: plainly, and as contracts.
-/
import Derived.Test.YtjiefndjgkhcjaaDoorBr
import Derived.Test.YtjiefndjgkhcjaaDoorSc
import Derived.Lib.BufferWrite
namespace Go.Proofs.YtjiefndjgkhcjaaDoor
open Go.RowKit
set_option maxRecDepth 100000

/-- What a reader answers: the value, what is left, the error. -/
def rB (xs : List Int) (e : Int) : Int × List Int × Int := if e = 0 then (Fi.byV xs, xs.drop (Fi.raN xs 1), Fi.raE xs 1) else (0, xs, e)
def rN (xs : List Int) (e : Int) (m : Int) : Int × List Int × Int := if e = 0 then (Fi.naN xs m, xs.drop (Fi.naU xs m).toNat, Fi.naE xs m) else (0, xs, e)
def rR (xs : List Int) (e : Int) (n : Int) : List Int × List Int × Int := if e = 0 then (xs.take (Fi.raN xs n), xs.drop (Fi.raN xs n), Fi.raE xs n) else ([], xs, e)
theorem Off.but {g : Nat} {w w' : World} (h : Fi.Off g w w') : Sh.But g w w' := ⟨h.os, h.tape, h.output, Nat.le_of_eq h.size.symm, fun k _ hn => h.block k hn⟩
theorem rdByte (g s : Nat) (xs : List Int) (e : Int) (w : World) (h : Fi.Rd w g s xs e) :
    Calls Tryd.prog 60 #[.pointer (some ⟨g, 0, none⟩)] w fun r w' => r = .returned (.int .u8 (rB xs e).1) ∧ Fi.Rd w' g s (rB xs e).2.1 (rB xs e).2.2 ∧ Fi.Off g w w' := by
  unfold rB
  split
  · rename_i he
    subst he
    exact Fi.byte_any g s xs w h
  · rename_i he
    refine (Fi.byte_stop g s xs e w h he).mono ?_
    rintro r w' ⟨rfl, rfl⟩
    exact ⟨rfl, h, Fi.Off.refl _ _⟩
theorem rdNum (g s : Nat) (xs : List Int) (e m : Int) (w : World) (hw : Fi.Wid w) (h : Fi.Rd w g s xs e) :
    Calls Tryd.prog 38 #[.pointer (some ⟨g, 0, none⟩), .int .i64 m] w fun r w' => r = .returned (.int .i64 (rN xs e m).1) ∧ Fi.Rd w' g s (rN xs e m).2.1 (rN xs e m).2.2 ∧ Fi.Off g w w' := by
  unfold rN
  split
  · rename_i he
    subst he
    exact Fi.num_any g s xs m w hw h
  · rename_i he
    refine (Fi.num_stop g s xs e m w h he).mono ?_
    rintro r w' ⟨rfl, rfl⟩
    exact ⟨rfl, h, Fi.Off.refl _ _⟩
theorem rdRaw (g s : Nat) (xs : List Int) (e n : Int) (w : World) (h : Fi.Rd w g s xs e) :
    Calls Tryd.prog 61 #[.pointer (some ⟨g, 0, none⟩), .int .i64 n] w fun r w' => r = .returned (.string (Fi.strB (rR xs e n).1)) ∧ Fi.Rd w' g s (rR xs e n).2.1 (rR xs e n).2.2 ∧ Fi.Off g w w' := by
  unfold rR
  split
  · rename_i he
    subst he
    exact Fi.raw_any g s xs n w h
  · rename_i he
    refine (Fi.raw_stop g s xs e n w h he).mono ?_
    rintro r w' ⟨rfl, rfl⟩
    exact ⟨rfl, h, Fi.Off.refl _ _⟩
theorem Rd.setRow {w : World} {g s k : Nat} {xs : List Int} {e : Int} (h : Fi.Rd w g s xs e) (hg : k ≠ g) (hs : k ≠ s) (cs : Array Value) : Fi.Rd (w.setRow k cs) g s xs e := by
  have hb : Fi.Off k w (w.setRow k cs) := ⟨rfl, rfl, rfl, by simp, fun j hj => setRow_other w k j cs hj⟩
  exact h.off hb (fun e => hg e.symm) (fun e => hs e.symm)
theorem Rd.lt {w : World} {g s : Nat} {xs : List Int} {e : Int} (h : Fi.Rd w g s xs e) : g < w.heap.size := by
  obtain ⟨a, cap, c0, _⟩ := h
  exact World.block_lt_of_cell? _ _ c0
theorem But.setRow {w w' : World} {g k : Nat} (h : Sh.But g w w') (hk : w.heap.size ≤ k) (cs : Array Value) : Sh.But g w (w'.setRow k cs) :=
  ⟨h.os, h.tape, h.output, by rw [setRow_size]; exact h.size, fun j hj hn => by rw [setRow_other w' k j cs (by omega)]; exact h.block j hj hn⟩
theorem But.keep {w w' u : World} {g : Nat} (h : Sh.But g w w') (hb : Below w'.heap.size w' u) : Sh.But g w u := h.trans (Sh.But.of hb)
theorem wid_but {w w' : World} {g : Nat} (h : Fi.Wid w) (hb : Sh.But g w w') (hg : 3 ≤ g) : Fi.Wid w' := by
  have hs := h.pos
  have : Below (min g w.heap.size) w w' := ⟨hb.os, hb.tape, hb.output, hb.size, fun k hk => hb.block k (by omega) (by omega)⟩
  exact h.below this (by omega)
/-- A sum, of which the first bytes are given. -/
def ov32 (X : List Int) : List Int := X ++ z32.drop X.length
theorem ov32_len (X : List Int) (h : X.length ≤ 32) : (ov32 X).length = 32 := by unfold ov32; rw [List.length_append, List.length_drop, z32_len]; omega
theorem ov32_bytes (X : List Int) (hX : ∀ k, 0 ≤ X.getD k 0 ∧ X.getD k 0 < 256) : ∀ k, 0 ≤ (ov32 X).getD k 0 ∧ (ov32 X).getD k 0 < 256 := by
  intro k
  unfold ov32
  rcases Nat.lt_or_ge k X.length with h | h
  · have : (X ++ z32.drop X.length).getD k 0 = X.getD k 0 := by simp [List.getD, List.getElem?_append_left h]
    rw [this]; exact hX k
  · have : (X ++ z32.drop X.length).getD k 0 = z32.getD (X.length + (k - X.length)) 0 := by
      simp [List.getD, List.getElem?_append_right h, List.getElem?_drop]
    rw [this]; exact z32_bytes _
theorem strB_cells (X : List Int) (hX : ∀ k, 0 ≤ X.getD k 0 ∧ X.getD k 0 < 256) : Lib.byteCells (Fi.strB X).data.toList = X.map (Value.int .u8) := by
  unfold Lib.byteCells Fi.strB
  simp only [List.map_map]
  apply List.ext_getElem?
  intro i
  rw [List.getElem?_map, List.getElem?_map]
  rcases Nat.lt_or_ge i X.length with h | h
  · rw [List.getElem?_eq_getElem h]
    have := hX i
    simp only [List.getD, List.getElem?_eq_getElem h, Option.getD_some] at this
    simp only [Option.map_some, Function.comp_apply]
    congr 2
    rw [UInt8.toNat_ofNat']
    omega
  · rw [List.getElem?_eq_none h]; rfl
/-- The cells of sums whose strong one is laid over. -/
theorem over_cells (k : Int) (X : List Int) (hX : ∀ k, 0 ≤ X.getD k 0 ∧ X.getD k 0 < 256) :
    ((Sg.cells ⟨k, z32⟩).toArray.toList.take 1 ++ Lib.byteCells (Fi.strB X).data.toList ++ (Sg.cells ⟨k, z32⟩).toArray.toList.drop (1 + X.length)) = Sg.cells ⟨k, ov32 X⟩ := by
  rw [strB_cells X hX]
  unfold Sg.cells ov32
  rw [show 1 + X.length = X.length + 1 by omega]
  simp [List.drop_succ_cons]
def Bt (xs : List Int) : Prop := ∀ i, 0 ≤ xs.getD i 0 ∧ xs.getD i 0 < 256
theorem rB_bt (xs : List Int) (e : Int) (hb : Bt xs) : Bt (rB xs e).2.1 := by
  unfold rB
  split
  · exact Fi.bytes_drop _ _ hb
  · exact hb
theorem rN_bt (xs : List Int) (e m : Int) (hb : Bt xs) : Bt (rN xs e m).2.1 := by
  unfold rN
  split
  · exact Fi.bytes_drop _ _ hb
  · exact hb
theorem rR_bt (xs : List Int) (e m : Int) (hb : Bt xs) : Bt (rR xs e m).2.1 := by
  unfold rR
  split
  · exact Fi.bytes_drop _ _ hb
  · exact hb
theorem rB_bd (xs : List Int) (e : Int) (hb : Bt xs) : 0 ≤ (rB xs e).1 ∧ (rB xs e).1 < 256 := by
  unfold rB
  split
  · show 0 ≤ Fi.byV xs ∧ Fi.byV xs < 256
    exact hb 0
  · show (0 : Int) ≤ 0 ∧ (0 : Int) < 256
    omega
theorem wp_copy_str {P : Program} {w : World} {o : Oper} {a : Act} {K : Act → World → Prop} {Q : Exit → Act → World → Prop} (d s : Operand) (dT sT : TypeId)
    (ho : o.op = .call { callee := .builtin .copy, args := #[d, s], argTypes := #[dT, sT] }) (elem : TypeId) (hu : P.underlying dT = some (.slice elem)) (hsz : (P.info? elem).map (·.size) = some 1)
    (g off dLen dCap : Nat) (S : ByteArray) (hd : a.eval d = .slice (some ⟨g, off, none⟩) dLen dCap) (hs : a.eval s = .string S) (cur : Array Value) (t : TypeId) (hg : w.heap[g]? = some (.cells cur t (0, 0))) (hle : S.size ≤ dLen) (hfit : off + S.size ≤ cur.size)
    (h : K (a.put o.dst (goInt S.size)) (w.setRow g (cur.toList.take off ++ Lib.byteCells S.data.toList ++ cur.toList.drop (off + S.size)).toArray)) : o.wp P a w K Q := by
  have hrun := Lib.run_copy_row_string (P := P) w dT sT o.type elem g off dLen dCap S cur t hu hsz hg hle hfit
  unfold Oper.wp
  simp only [execOp, ho, resolve, invoke, builtin, Sem.run_bind, Sem.run_pure, List.map_toArray, List.map_cons, List.map_nil, hd, hs, hrun, Result.andThen_ok]
  exact h
theorem rN_bd (xs : List Int) (e m : Int) (hb : ∀ i, 0 ≤ xs.getD i 0 ∧ xs.getD i 0 < 256) : 0 ≤ (rN xs e m).1 ∧ (rN xs e m).1 < 4611686018427387904 := by
  unfold rN
  split
  · have := Fi.na_bd xs m hb
    exact ⟨this.1, this.2.1⟩
  · exact ⟨by show (0 : Int) ≤ 0; omega, by show (0 : Int) < 4611686018427387904; omega⟩
theorem rR_len (xs : List Int) (e : Int) (n : Nat) : (rR xs e n).1.length ≤ n := by
  unfold rR
  split
  · show (xs.take (Fi.raN xs n)).length ≤ n
    rw [List.length_take]
    unfold Fi.raN
    split <;> omega
  · simp
theorem take_bytes (xs : List Int) (m : Nat) (hx : ∀ i, 0 ≤ xs.getD i 0 ∧ xs.getD i 0 < 256) : ∀ i, 0 ≤ (xs.take m).getD i 0 ∧ (xs.take m).getD i 0 < 256 := by
  intro i
  rcases Nat.lt_or_ge i m with h | h
  · have : (xs.take m).getD i 0 = xs.getD i 0 := by simp [List.getD, h]
    rw [this]; exact hx i
  · have : (xs.take m).getD i 0 = 0 := by simp [List.getD, List.getElem?_take, show ¬ i < m by omega]
    rw [this]; omega
theorem rR_bytes (xs : List Int) (e n : Int) (hb : ∀ i, 0 ≤ xs.getD i 0 ∧ xs.getD i 0 < 256) : ∀ k, 0 ≤ (rR xs e n).1.getD k 0 ∧ (rR xs e n).1.getD k 0 < 256 := by
  unfold rR
  split
  · exact take_bytes xs _ hb
  · intro k; simp
theorem size5 : (Tryd.prog.info? 5).map (·.size) = some 1 := by kernel_rfl
end Go.Proofs.YtjiefndjgkhcjaaDoor
