/-
  Texts on Tr, Tk, Lp, Ly, Pt, Ge, Bk, in one.
-/
import Derived.Test.YtjiefndjgkhcjaaDoorBr
import Derived.Test.YtjiefndjgkhcjaaDoorSc
import Derived.Lib.BufferWrite
import Derived.Test.YtjiefndjgkhcjaaDoorBz
import Derived.Test.YtjiefndjgkhcjaaDoorFiNums
namespace Go.Proofs.YtjiefndjgkhcjaaDoor
open Go.RowKit
set_option maxRecDepth 100000

/-- What a reader answers: the value, what is left, the error. -/
def rB (xs : List Int) (e : Int) : Int × List Int × Int := if e = 0 then (Fi.byV xs, xs.drop (Fi.raN xs 1), Fi.raE xs 1) else (0, xs, e)
def rN (xs : List Int) (e : Int) (m : Int) : Int × List Int × Int := if e = 0 then (Fi.naN xs m, xs.drop (Fi.naU xs m).toNat, Fi.naE xs m) else (0, xs, e)
def rR (xs : List Int) (e : Int) (n : Int) : List Int × List Int × Int := if e = 0 then (xs.take (Fi.raN xs n), xs.drop (Fi.raN xs n), Fi.raE xs n) else ([], xs, e)
theorem Off.but {g : Nat} {w w' : World} (h : Fi.Off g w w') : Sh.But g w w' := ⟨h.os, h.tape, h.output, Nat.le_of_eq h.size.symm, fun k _ hn => h.block k hn⟩
theorem rdByte (g s : Nat) (xs : List Int) (e : Int) (w : World) (h : Fi.Rd w g s xs e) :
    Calls Tryd.prog 60 #[.pointer (some ⟨g, 0, none⟩)] w fun r w' => r = .returned (.int .u8 (rB xs e).1) ∧ Fi.Rd w' g s (rB xs e).2.1 (rB xs e).2.2 ∧ Fi.Off g w w' := by
  unfold rB
  split
  · rename_i he
    subst he
    exact Fi.byte_any g s xs w h
  · rename_i he
    refine (Fi.byte_stop g s xs e w h he).mono ?_
    rintro r w' ⟨rfl, rfl⟩
    exact ⟨rfl, h, Fi.Off.refl _ _⟩
theorem rdNum (g s : Nat) (xs : List Int) (e m : Int) (w : World) (hw : Fi.Wid w) (h : Fi.Rd w g s xs e) :
    Calls Tryd.prog 38 #[.pointer (some ⟨g, 0, none⟩), .int .i64 m] w fun r w' => r = .returned (.int .i64 (rN xs e m).1) ∧ Fi.Rd w' g s (rN xs e m).2.1 (rN xs e m).2.2 ∧ Fi.Off g w w' := by
  unfold rN
  split
  · rename_i he
    subst he
    exact Fi.num_any g s xs m w hw h
  · rename_i he
    refine (Fi.num_stop g s xs e m w h he).mono ?_
    rintro r w' ⟨rfl, rfl⟩
    exact ⟨rfl, h, Fi.Off.refl _ _⟩
theorem rdRaw (g s : Nat) (xs : List Int) (e n : Int) (w : World) (h : Fi.Rd w g s xs e) :
    Calls Tryd.prog 61 #[.pointer (some ⟨g, 0, none⟩), .int .i64 n] w fun r w' => r = .returned (.string (Fi.strB (rR xs e n).1)) ∧ Fi.Rd w' g s (rR xs e n).2.1 (rR xs e n).2.2 ∧ Fi.Off g w w' := by
  unfold rR
  split
  · rename_i he
    subst he
    exact Fi.raw_any g s xs n w h
  · rename_i he
    refine (Fi.raw_stop g s xs e n w h he).mono ?_
    rintro r w' ⟨rfl, rfl⟩
    exact ⟨rfl, h, Fi.Off.refl _ _⟩
theorem Rd.setRow {w : World} {g s k : Nat} {xs : List Int} {e : Int} (h : Fi.Rd w g s xs e) (hg : k ≠ g) (hs : k ≠ s) (cs : Array Value) : Fi.Rd (w.setRow k cs) g s xs e := by
  have hb : Fi.Off k w (w.setRow k cs) := ⟨rfl, rfl, rfl, by simp, fun j hj => setRow_other w k j cs hj⟩
  exact h.off hb (fun e => hg e.symm) (fun e => hs e.symm)
theorem Rd.lt {w : World} {g s : Nat} {xs : List Int} {e : Int} (h : Fi.Rd w g s xs e) : g < w.heap.size := by
  obtain ⟨a, cap, c0, _⟩ := h
  exact World.block_lt_of_cell? _ _ c0
theorem But.setRow {w w' : World} {g k : Nat} (h : Sh.But g w w') (hk : w.heap.size ≤ k) (cs : Array Value) : Sh.But g w (w'.setRow k cs) :=
  ⟨h.os, h.tape, h.output, by rw [setRow_size]; exact h.size, fun j hj hn => by rw [setRow_other w' k j cs (by omega)]; exact h.block j hj hn⟩
theorem But.keep {w w' u : World} {g : Nat} (h : Sh.But g w w') (hb : Below w'.heap.size w' u) : Sh.But g w u := h.trans (Sh.But.of hb)
theorem wid_but {w w' : World} {g : Nat} (h : Fi.Wid w) (hb : Sh.But g w w') (hg : 3 ≤ g) : Fi.Wid w' := by
  have hs := h.pos
  have : Below (min g w.heap.size) w w' := ⟨hb.os, hb.tape, hb.output, hb.size, fun k hk => hb.block k (by omega) (by omega)⟩
  exact h.below this (by omega)
/-- A sum, of which the first bytes are given. -/
def ov32 (X : List Int) : List Int := X ++ z32.drop X.length
theorem ov32_len (X : List Int) (h : X.length ≤ 32) : (ov32 X).length = 32 := by unfold ov32; rw [List.length_append, List.length_drop, z32_len]; omega
theorem ov32_bytes (X : List Int) (hX : ∀ k, 0 ≤ X.getD k 0 ∧ X.getD k 0 < 256) : ∀ k, 0 ≤ (ov32 X).getD k 0 ∧ (ov32 X).getD k 0 < 256 := by
  intro k
  unfold ov32
  rcases Nat.lt_or_ge k X.length with h | h
  · have : (X ++ z32.drop X.length).getD k 0 = X.getD k 0 := by simp [List.getD, List.getElem?_append_left h]
    rw [this]; exact hX k
  · have : (X ++ z32.drop X.length).getD k 0 = z32.getD (X.length + (k - X.length)) 0 := by
      simp [List.getD, List.getElem?_append_right h, List.getElem?_drop]
    rw [this]; exact z32_bytes _
theorem strB_cells (X : List Int) (hX : ∀ k, 0 ≤ X.getD k 0 ∧ X.getD k 0 < 256) : Lib.byteCells (Fi.strB X).data.toList = X.map (Value.int .u8) := by
  unfold Lib.byteCells Fi.strB
  simp only [List.map_map]
  apply List.ext_getElem?
  intro i
  rw [List.getElem?_map, List.getElem?_map]
  rcases Nat.lt_or_ge i X.length with h | h
  · rw [List.getElem?_eq_getElem h]
    have := hX i
    simp only [List.getD, List.getElem?_eq_getElem h, Option.getD_some] at this
    simp only [Option.map_some, Function.comp_apply]
    congr 2
    rw [UInt8.toNat_ofNat']
    omega
  · rw [List.getElem?_eq_none h]; rfl
/-- The cells of sums whose strong one is laid over. -/
theorem over_cells (k : Int) (X : List Int) (hX : ∀ k, 0 ≤ X.getD k 0 ∧ X.getD k 0 < 256) :
    ((Sg.cells ⟨k, z32⟩).toArray.toList.take 1 ++ Lib.byteCells (Fi.strB X).data.toList ++ (Sg.cells ⟨k, z32⟩).toArray.toList.drop (1 + X.length)) = Sg.cells ⟨k, ov32 X⟩ := by
  rw [strB_cells X hX]
  unfold Sg.cells ov32
  rw [show 1 + X.length = X.length + 1 by omega]
  simp [List.drop_succ_cons]
def Bt (xs : List Int) : Prop := ∀ i, 0 ≤ xs.getD i 0 ∧ xs.getD i 0 < 256
theorem rB_bt (xs : List Int) (e : Int) (hb : Bt xs) : Bt (rB xs e).2.1 := by
  unfold rB
  split
  · exact Fi.bytes_drop _ _ hb
  · exact hb
theorem rN_bt (xs : List Int) (e m : Int) (hb : Bt xs) : Bt (rN xs e m).2.1 := by
  unfold rN
  split
  · exact Fi.bytes_drop _ _ hb
  · exact hb
theorem rR_bt (xs : List Int) (e m : Int) (hb : Bt xs) : Bt (rR xs e m).2.1 := by
  unfold rR
  split
  · exact Fi.bytes_drop _ _ hb
  · exact hb
theorem rB_bd (xs : List Int) (e : Int) (hb : Bt xs) : 0 ≤ (rB xs e).1 ∧ (rB xs e).1 < 256 := by
  unfold rB
  split
  · show 0 ≤ Fi.byV xs ∧ Fi.byV xs < 256
    exact hb 0
  · show (0 : Int) ≤ 0 ∧ (0 : Int) < 256
    omega
theorem wp_copy_str {P : Program} {w : World} {o : Oper} {a : Act} {K : Act → World → Prop} {Q : Exit → Act → World → Prop} (d s : Operand) (dT sT : TypeId)
    (ho : o.op = .call { callee := .builtin .copy, args := #[d, s], argTypes := #[dT, sT] }) (elem : TypeId) (hu : P.underlying dT = some (.slice elem)) (hsz : (P.info? elem).map (·.size) = some 1)
    (g off dLen dCap : Nat) (S : ByteArray) (hd : a.eval d = .slice (some ⟨g, off, none⟩) dLen dCap) (hs : a.eval s = .string S) (cur : Array Value) (t : TypeId) (hg : w.heap[g]? = some (.cells cur t (0, 0))) (hle : S.size ≤ dLen) (hfit : off + S.size ≤ cur.size)
    (h : K (a.put o.dst (goInt S.size)) (w.setRow g (cur.toList.take off ++ Lib.byteCells S.data.toList ++ cur.toList.drop (off + S.size)).toArray)) : o.wp P a w K Q := by
  have hrun := Lib.run_copy_row_string (P := P) w dT sT o.type elem g off dLen dCap S cur t hu hsz hg hle hfit
  unfold Oper.wp
  simp only [execOp, ho, resolve, invoke, builtin, Sem.run_bind, Sem.run_pure, List.map_toArray, List.map_cons, List.map_nil, hd, hs, hrun, Result.andThen_ok]
  exact h
theorem rN_bd (xs : List Int) (e m : Int) (hb : ∀ i, 0 ≤ xs.getD i 0 ∧ xs.getD i 0 < 256) : 0 ≤ (rN xs e m).1 ∧ (rN xs e m).1 < 4611686018427387904 := by
  unfold rN
  split
  · have := Fi.na_bd xs m hb
    exact ⟨this.1, this.2.1⟩
  · exact ⟨by show (0 : Int) ≤ 0; omega, by show (0 : Int) < 4611686018427387904; omega⟩
theorem rR_len (xs : List Int) (e : Int) (n : Nat) : (rR xs e n).1.length ≤ n := by
  unfold rR
  split
  · show (xs.take (Fi.raN xs n)).length ≤ n
    rw [List.length_take]
    unfold Fi.raN
    split <;> omega
  · simp
theorem take_bytes (xs : List Int) (m : Nat) (hx : ∀ i, 0 ≤ xs.getD i 0 ∧ xs.getD i 0 < 256) : ∀ i, 0 ≤ (xs.take m).getD i 0 ∧ (xs.take m).getD i 0 < 256 := by
  intro i
  rcases Nat.lt_or_ge i m with h | h
  · have : (xs.take m).getD i 0 = xs.getD i 0 := by simp [List.getD, h]
    rw [this]; exact hx i
  · have : (xs.take m).getD i 0 = 0 := by simp [List.getD, List.getElem?_take, show ¬ i < m by omega]
    rw [this]; omega
theorem rR_bytes (xs : List Int) (e n : Int) (hb : ∀ i, 0 ≤ xs.getD i 0 ∧ xs.getD i 0 < 256) : ∀ k, 0 ≤ (rR xs e n).1.getD k 0 ∧ (rR xs e n).1.getD k 0 < 256 := by
  unfold rR
  split
  · exact take_bytes xs _ hb
  · intro k; simp
theorem size5 : (Tryd.prog.info? 5).map (·.size) = some 1 := by kernel_rfl
end Go.Proofs.YtjiefndjgkhcjaaDoor

namespace Go.Proofs.YtjiefndjgkhcjaaDoor
open Go.RowKit
set_option maxRecDepth 100000

/-- So many bytes of a number are read, the highest first. -/
def rW : Nat → List Int → Int → Int × List Int × Int
  | 0, xs, e => (0, xs, e)
  | j + 1, xs, e => ((rW j xs e).1 * 256 + (rB (rW j xs e).2.1 (rW j xs e).2.2).1, (rB (rW j xs e).2.1 (rW j xs e).2.2).2.1, (rB (rW j xs e).2.1 (rW j xs e).2.2).2.2)
theorem rW_bd : ∀ (j : Nat) (xs : List Int) (e : Int), Bt xs → 0 ≤ (rW j xs e).1 ∧ (rW j xs e).1 < 256 ^ j ∧ Bt (rW j xs e).2.1
  | 0, xs, e, h => ⟨by simp [rW], by simp [rW], h⟩
  | j + 1, xs, e, h => by
    obtain ⟨h1, h2, h3⟩ := rW_bd j xs e h
    have h4 := rB_bd (rW j xs e).2.1 (rW j xs e).2.2 h3
    rw [rW]
    refine ⟨?_, ?_, rB_bt _ _ h3⟩
    · show 0 ≤ (rW j xs e).1 * 256 + _
      omega
    · show (rW j xs e).1 * 256 + _ < 256 ^ (j + 1)
      rw [Int.pow_succ]
      omega
/-- Two sums are read. -/
def tkG (xs : List Int) (e : Int) : Sg × List Int × Int :=
  let q := rW 4 xs e
  let r := rR q.2.1 q.2.2 32
  (⟨q.1, ov32 r.1⟩, r.2.1, r.2.2)
theorem tkG_ok (xs : List Int) (e : Int) (hb : Bt xs) : (tkG xs e).1.ok := by
  obtain ⟨h1, h2, h3⟩ := rW_bd 4 xs e hb
  exact ⟨ov32_len _ (rR_len _ _ 32), ov32_bytes _ (rR_bytes _ _ 32 h3), h1, h2⟩
theorem or_join32 (x y : Int) (h0 : 0 ≤ x) (h1 : x < 16777216) (h2 : 0 ≤ y) (h3 : y < 256) : bits .or .u32 (x * 256) y = x * 256 + y :=
  bits_join .u32 32 (by decide) (fun n h₀ h₁ => by rw [IntKind.wrap_u32]; omega) 8 _ _ (by omega) (by omega) (by omega) h2 (by omega) (by omega)
/-- What stands while sums are read: the reader, the result's variable, the sums' variable, all else as it was. -/
def TS (w W : World) (g s : Nat) (xs : List Int) (e : Int) (y : Sg) : Prop :=
  Fi.Rd W g s xs e ∧ W.heap[w.heap.size]? = some (.cells izc 57 (0, 0)) ∧ W.heap[w.heap.size + 1]? = some (.cells y.cells.toArray 57 (0, 0)) ∧ Sh.But g w W ∧ g < w.heap.size ∧ s < w.heap.size
theorem TS.off {w W W' : World} {g s : Nat} {xs xs' : List Int} {e e' : Int} {y : Sg} (h : TS w W g s xs e y) (hr : Fi.Rd W' g s xs' e') (ho : Fi.Off g W W') : TS w W' g s xs' e' y :=
  ⟨hr, (ho.block _ (by have := h.2.2.2.2.1; omega)).trans h.2.1, (ho.block _ (by have := h.2.2.2.2.1; omega)).trans h.2.2.1, h.2.2.2.1.trans (Off.but ho), h.2.2.2.2⟩
theorem TS.drew {w W : World} {g s : Nat} {xs : List Int} {e : Int} {y : Sg} (h : TS w W g s xs e y) : TS w W.drew g s xs e y := ⟨h.1, h.2.1, h.2.2.1, h.2.2.2.1.drew, h.2.2.2.2⟩
theorem TS.cell {w W : World} {g s : Nat} {xs : List Int} {e : Int} {y : Sg} (h : TS w W g s xs e y) : W.cell? ⟨w.heap.size + 1, 0, none⟩ = some (.int .u32 y.k) ∧ W.frozen? ⟨w.heap.size + 1, 0, none⟩ = false :=
  ⟨by rw [cell_of_row _ _ _ _ _ _ h.2.2.1]; rfl, frozen_of_row _ _ _ _ _ h.2.2.1⟩
theorem TS.setC {w W : World} {g s : Nat} {xs : List Int} {e k k' : Int} {S : List Int} (h : TS w W g s xs e ⟨k, S⟩) : TS w (W.setCell ⟨w.heap.size + 1, 0, none⟩ (.int .u32 k')) g s xs e ⟨k', S⟩ := by
  obtain ⟨h1, h2, h3, h4, h5, h6⟩ := h
  have hO : Fi.Off (w.heap.size + 1) W (W.setCell ⟨w.heap.size + 1, 0, none⟩ (.int .u32 k')) := ⟨rfl, rfl, rfl, by simp [World.setCell], fun j hj => heap_setCell_other _ _ _ _ hj⟩
  refine ⟨h1.off hO (by omega) (by omega), ?_, ?_, ?_, h5, h6⟩
  · rw [heap_setCell_other _ _ _ _ (by show w.heap.size ≠ w.heap.size + 1; omega)]; exact h2
  · rw [heap_setCell_same _ _ _ _ _ _ h3]; simp [Sg.cells]
  · obtain ⟨b1, b2, b3, b4, b5⟩ := h4
    exact ⟨b1, b2, b3, by simpa [World.setCell] using b4, fun j hj hn => by rw [heap_setCell_other _ _ _ _ (by show j ≠ w.heap.size + 1; omega)]; exact b5 j hj hn⟩
theorem TS.setR {w W : World} {g s : Nat} {xs : List Int} {e : Int} {y y' : Sg} (h : TS w W g s xs e y) : TS w (W.setRow (w.heap.size + 1) y'.cells.toArray) g s xs e y' := by
  obtain ⟨h1, h2, h3, h4, h5, h6⟩ := h
  refine ⟨Rd.setRow h1 (by omega) (by omega) _, ?_, setRow_heap _ _ _ _ _ _ h3, But.setRow h4 (by omega) _, h5, h6⟩
  rw [setRow_other _ _ _ _ (by omega)]; exact h2
set_option maxHeartbeats 4000000 in
theorem take_any (g s : Nat) (xs : List Int) (e : Int) (w : World) (h : Fi.Rd w g s xs e) (hs : s < w.heap.size) :
    Calls Tryd.prog 40 #[.pointer (some ⟨g, 0, none⟩)] w fun r w' => r = .returned (tkG xs e).1.val ∧ Fi.Rd w' g s (tkG xs e).2.1 (tkG xs e).2.2 ∧ Sh.But g w w' := by
  have hgl := Rd.lt h
  have hbt : Bt xs := h.bytes
  obtain ⟨W1, hW1⟩ : ∃ W1, W1 = w.alloc (.cells izc 57) := ⟨_, rfl⟩
  obtain ⟨W2, hW2⟩ : ∃ W2, W2 = W1.alloc (.cells izc 57) := ⟨_, rfl⟩
  have hwz : (w.alloc (.cells #[.int .u32 0, .int .u8 0, .int .u8 0, .int .u8 0, .int .u8 0, .int .u8 0, .int .u8 0, .int .u8 0, .int .u8 0, .int .u8 0, .int .u8 0, .int .u8 0, .int .u8 0, .int .u8 0, .int .u8 0, .int .u8 0, .int .u8 0, .int .u8 0, .int .u8 0, .int .u8 0, .int .u8 0, .int .u8 0, .int .u8 0, .int .u8 0, .int .u8 0, .int .u8 0, .int .u8 0, .int .u8 0, .int .u8 0, .int .u8 0, .int .u8 0, .int .u8 0, .int .u8 0] 57)).alloc (.cells #[.int .u32 0, .int .u8 0, .int .u8 0, .int .u8 0, .int .u8 0, .int .u8 0, .int .u8 0, .int .u8 0, .int .u8 0, .int .u8 0, .int .u8 0, .int .u8 0, .int .u8 0, .int .u8 0, .int .u8 0, .int .u8 0, .int .u8 0, .int .u8 0, .int .u8 0, .int .u8 0, .int .u8 0, .int .u8 0, .int .u8 0, .int .u8 0, .int .u8 0, .int .u8 0, .int .u8 0, .int .u8 0, .int .u8 0, .int .u8 0, .int .u8 0, .int .u8 0, .int .u8 0] 57) = W2 := by rw [hW2, hW1]; rfl
  have b1 : Below w.heap.size w W1 := by rw [hW1]; exact al_below _ _
  have s1 : W1.heap.size = w.heap.size + 1 := by rw [hW1]; simp
  have b2 : Below W1.heap.size W1 W2 := by rw [hW2]; exact al_below _ _
  have g1 : W1.heap[w.heap.size]? = some (.cells izc 57 (0, 0)) := by rw [hW1]; exact heap_alloc_new _ _
  have g2 : W2.heap[w.heap.size + 1]? = some (.cells izc 57 (0, 0)) := by rw [← s1, hW2]; exact heap_alloc_new _ _
  have T2 : Hid (TS w W2 g s xs e ⟨0, z32⟩) := ⟨(h.kept b1).kept b2, (b2.block _ (by omega)).trans g1, g2, Sh.But.of (b1.trans (b2.mono b1.size)), hgl, hs⟩
  have HT : Hid (tkG xs e = (⟨(rW 4 xs e).1, ov32 (rR (rW 4 xs e).2.1 (rW 4 xs e).2.2 32).1⟩, (rR (rW 4 xs e).2.1 (rW 4 xs e).2.2 32).2.1, (rR (rW 4 xs e).2.1 (rW 4 xs e).2.2 32).2.2)) := rfl
  have HBD : Hid (∀ j, 0 ≤ (rW j xs e).1 ∧ (rW j xs e).1 < 256 ^ j ∧ Bt (rW j xs e).2.1) := fun j => rW_bd j xs e hbt
  have HOK : Hid ((tkG xs e).1.ok) := tkG_ok xs e hbt
  clear hW1 hW2 b1 s1 b2 g1 g2 h hs hgl hbt
  generalize tkG xs e = R at *
  go_enter Tryd.func40, Tryd.ntmps40
  go_wp2_with fail
  try rw [hwz]
  clear hwz
  go_loopw [4] (fun q wr => ∃ j : Nat, j ≤ 4 ∧ q = .int .i64 j ∧ TS w wr g s (rW j xs e).2.1 (rW j xs e).2.2 ⟨(rW j xs e).1, z32⟩) (fun q _ => 4 - (intOf q).toNat)
  case atStart => exact ⟨0, by omega, rfl, T2.out⟩
  case round =>
    clear T2
    obtain ⟨j, hj, rfl, ts⟩ := hrel
    by_cases h4 : j < 4
    · have lt2 : (j : Int) < 4 := by omega
      obtain ⟨d1, d2, d3⟩ := HBD.out j
      have d4 := rB_bd (rW j xs e).2.1 (rW j xs e).2.2 d3
      have HN : Hid ((rW (j + 1) xs e) = ((rW j xs e).1 * 256 + (rB (rW j xs e).2.1 (rW j xs e).2.2).1, (rB (rW j xs e).2.1 (rW j xs e).2.2).2.1, (rB (rW j xs e).2.1 (rW j xs e).2.2).2.2)) := rfl
      have d5 : (rW j xs e).1 < 16777216 := by
        rcases (show j = 0 ∨ j = 1 ∨ j = 2 ∨ j = 3 by omega) with rfl | rfl | rfl | rfl <;> simp at d2 <;> omega
      have CB : Hid (∀ W, Fi.Rd W g s (rW j xs e).2.1 (rW j xs e).2.2 → Calls Tryd.prog 60 #[.pointer (some ⟨g, 0, none⟩)] W fun r w' => r = .returned (.int .u8 (rB (rW j xs e).2.1 (rW j xs e).2.2).1) ∧ Fi.Rd w' g s (rB (rW j xs e).2.1 (rW j xs e).2.2).2.1 (rB (rW j xs e).2.1 (rW j xs e).2.2).2.2 ∧ Fi.Off g W w') := fun W hr => rdByte g s _ _ W hr
      have T0 : Hid (TS w wr g s (rW j xs e).2.1 (rW j xs e).2.2 ⟨(rW j xs e).1, z32⟩) := ts
      clear ts d2 d3
      generalize rB (rW j xs e).2.1 (rW j xs e).2.2 = b at *
      obtain ⟨bb, bx, be⟩ := b
      simp only at d4 HN CB
      generalize rW j xs e = q at *
      obtain ⟨kk, qx, qe⟩ := q
      simp only at d1 d5 HN CB T0
      have o1 := or_join32 kk bb d1 d5 d4.1 d4.2
      have o2 : IntKind.u32.wrap (kk * 256) = kk * 256 := by rw [IntKind.wrap_u32]; omega
      have o3 : IntKind.u32.wrap bb = bb := by rw [IntKind.wrap_u32]; omega
      obtain ⟨d6, d7⟩ := d4
      go_wp2_with fail
      refine wp_region_held_drew (S := fun _ => True) (by kernel_rfl) trivial (fun _ => ?_)
      refine wpAnyH_name (fun u0 hu0 => ?_)
      have bu0 : Below wr.heap.size wr u0 := by rw [hu0.out]; exact (Below.refl _ _).drew
      have Tu0 : TS w u0 g s qx qe ⟨kk, z32⟩ := by rw [hu0.out]; exact TS.drew T0.out
      have Ku0 := (TS.cell Tu0).1
      refine wpAnyH_take (i := 0) (oi := { dst := some 6, op := Op.fieldAddr 57 (Operand.tmp 3) 0, type := 0, pos := "block.go:184", after := #[], guard := none }) (v := ?vb1) rfl (by kernel_rfl) (by kernel_rfl) (by kernel_rfl) (fun _ _ _ h => h) (Or.inl ⟨by rfl, ?yb1⟩) trivial ?rb1
      case yb1 => (intro w hSw; go_simp; try with_reducible rfl)
      try simp only [Act.put, List.setIfInBounds_toArray, List.set_cons_zero, List.set_cons_succ]
      refine wpAnyH_take (i := 3) (oi := { dst := some 9, op := Op.move (Operand.tmp 0), type := 72, pos := "block.go:184", after := #[], guard := none }) (v := ?vb2) rfl (by kernel_rfl) (by kernel_rfl) (by kernel_rfl) (fun _ _ _ h => h) (Or.inl ⟨by rfl, ?yb2⟩) trivial ?rb2
      case yb2 => (intro w hSw; go_simp; try with_reducible rfl)
      try simp only [Act.put, List.setIfInBounds_toArray, List.set_cons_zero, List.set_cons_succ]
      refine wpAnyH_ready (rs := [1, 4]) (by kernel_rfl) (by simp) ?_
      refine AllReadyH.cons (o := { dst := some 7, op := Op.load 44 (Operand.tmp 6), type := 44, pos := "block.go:184", after := #[{ on := 0, ground := Ground.data }], guard := none }) rfl (fun KK hKK => ?_) ?_
      · go_simp
        refine hKK.out _ _ trivial (fun _ => ?_)
        clear hKK KK
        try simp only [Act.put, List.setIfInBounds_toArray, List.set_cons_zero, List.set_cons_succ]
        refine wpAnyH_name (fun u3 hu3 => ?_)
        have Tu3 := Tu0
        rw [← hu3.out] at Tu3
        have Ku3 := (TS.cell Tu3).1
        refine wpAnyH_take (i := 2) (oi := { dst := some 8, op := Op.binOp BinOp.shl 44 (Operand.tmp 7) (Operand.const (Value.int IntKind.u64 8)) 71, type := 44, pos := "block.go:184", after := #[{ on := 1, ground := Ground.data }], guard := none }) (v := ?vb4) rfl (by kernel_rfl) (by kernel_rfl) (by kernel_rfl) (fun _ _ _ h => h) (Or.inl ⟨by rfl, ?yb4⟩) trivial ?rb4
        case yb4 => (intro w hSw; go_simp; try with_reducible rfl)
        try simp only [Act.put, List.setIfInBounds_toArray, List.set_cons_zero, List.set_cons_succ]
        refine wpAnyH_ready (rs := [4]) (by kernel_rfl) (by simp) ?_
        refine AllReadyH.cons (o := { dst := some 10, op := Op.call { callee := Callee.value (Operand.func 60), args := #[Operand.tmp 9], argTypes := #[72] }, type := 5, pos := "block.go:184", after := #[{ on := 3, ground := Ground.data }], guard := none }) rfl (fun KK hKK => ?_) ?_
        · go_simp
          refine (CB.out _ Tu3.1).mono ?_
          rintro r u5' ⟨rfl, rdu5, ofu5⟩
          (try go_wp2_with fail)
          refine hKK.out _ _ trivial (fun _ => ?_)
          clear hKK KK
          try simp only [Act.put, List.setIfInBounds_toArray, List.set_cons_zero, List.set_cons_succ]
          refine wpAnyH_name (fun u5 hu5 => ?_)
          rw [← hu5.out] at rdu5 ofu5
          have Tu5 := TS.off Tu3 rdu5 ofu5
          have Ku5 := (TS.cell Tu5).1
          clear rdu5 ofu5
          refine wpAnyH_take (i := 5) (oi := { dst := some 11, op := Op.convert 5 44 (Operand.tmp 10), type := 44, pos := "block.go:184", after := #[{ on := 4, ground := Ground.data }], guard := none }) (v := ?vb6) rfl (by kernel_rfl) (by kernel_rfl) (by kernel_rfl) (fun _ _ _ h => h) (Or.inl ⟨by rfl, ?yb6⟩) trivial ?rb6
          case yb6 => (intro w hSw; go_simp; try with_reducible rfl)
          try simp only [Act.put, List.setIfInBounds_toArray, List.set_cons_zero, List.set_cons_succ]
          refine wpAnyH_take (i := 6) (oi := { dst := some 12, op := Op.binOp BinOp.or 44 (Operand.tmp 8) (Operand.tmp 11) 44, type := 44, pos := "block.go:184", after := #[{ on := 2, ground := Ground.data }, { on := 5, ground := Ground.data }], guard := none }) (v := ?vb7) rfl (by kernel_rfl) (by kernel_rfl) (by kernel_rfl) (fun _ _ _ h => h) (Or.inl ⟨by rfl, ?yb7⟩) trivial ?rb7
          case yb7 => (intro w hSw; go_simp; try with_reducible rfl)
          try simp only [Act.put, List.setIfInBounds_toArray, List.set_cons_zero, List.set_cons_succ]
          refine wpAnyH_take (i := 7) (oi := { dst := some 13, op := Op.fieldAddr 57 (Operand.tmp 3) 0, type := 0, pos := "block.go:184", after := #[{ on := 0, ground := Ground.phase }, { on := 1, ground := Ground.phase }, { on := 2, ground := Ground.phase }, { on := 3, ground := Ground.phase }, { on := 4, ground := Ground.phase }, { on := 5, ground := Ground.phase }, { on := 6, ground := Ground.phase }], guard := none }) (v := ?vb8) rfl (by kernel_rfl) (by kernel_rfl) (by kernel_rfl) (fun _ _ _ h => h) (Or.inl ⟨by rfl, ?yb8⟩) trivial ?rb8
          case yb8 => (intro w hSw; go_simp; try with_reducible rfl)
          try simp only [Act.put, List.setIfInBounds_toArray, List.set_cons_zero, List.set_cons_succ]
          refine wpAnyH_ready (rs := [8]) (by kernel_rfl) (by simp) ?_
          refine AllReadyH.cons (o := { dst := none, op := Op.store 44 (Operand.tmp 13) (Operand.tmp 12), type := 0, pos := "block.go:184", after := #[{ on := 7, ground := Ground.data }, { on := 6, ground := Ground.data }, { on := 4, ground := Ground.chain }, { on := 0, ground := Ground.phase }, { on := 1, ground := Ground.phase }, { on := 2, ground := Ground.phase }, { on := 3, ground := Ground.phase }, { on := 4, ground := Ground.phase }, { on := 5, ground := Ground.phase }, { on := 6, ground := Ground.phase }], guard := none }) rfl (fun KK hKK => ?_) ?_
          · have Fu9 := (TS.cell Tu5).2
            go_simp
            refine hKK.out _ _ trivial (fun _ => ?_)
            clear hKK KK
            try simp only [Act.put]
            refine wpAnyH_name (fun u9 hu9 => ?_)
            have Tu9 := TS.setC (k' := kk * 256 + bb) Tu5
            rw [← hu9.out] at Tu9
            refine wpAnyH_done (by kernel_rfl) ?_ _
            have TZ : Hid (TS w u9 g s (rW (j + 1) xs e).2.1 (rW (j + 1) xs e).2.2 ⟨(rW (j + 1) xs e).1, z32⟩) := by unfold Hid; rw [HN.out]; exact Tu9
            clear Tu9 HN
            go_wp2
            go_roundw
            case rel => exact ⟨j + 1, by omega, by go_num, TZ.out⟩
            case measure => simp [intOf]; omega
          exact AllReadyH.nil
        exact AllReadyH.nil
      refine AllReadyH.cons (o := { dst := some 10, op := Op.call { callee := Callee.value (Operand.func 60), args := #[Operand.tmp 9], argTypes := #[72] }, type := 5, pos := "block.go:184", after := #[{ on := 3, ground := Ground.data }], guard := none }) rfl (fun KK hKK => ?_) ?_
      · go_simp
        refine (CB.out _ Tu0.1).mono ?_
        rintro r u10' ⟨rfl, rdu10, ofu10⟩
        (try go_wp2_with fail)
        refine hKK.out _ _ trivial (fun _ => ?_)
        clear hKK KK
        try simp only [Act.put, List.setIfInBounds_toArray, List.set_cons_zero, List.set_cons_succ]
        refine wpAnyH_name (fun u10 hu10 => ?_)
        rw [← hu10.out] at rdu10 ofu10
        have Tu10 := TS.off Tu0 rdu10 ofu10
        have Ku10 := (TS.cell Tu10).1
        clear rdu10 ofu10
        refine wpAnyH_take (i := 5) (oi := { dst := some 11, op := Op.convert 5 44 (Operand.tmp 10), type := 44, pos := "block.go:184", after := #[{ on := 4, ground := Ground.data }], guard := none }) (v := ?vb11) rfl (by kernel_rfl) (by kernel_rfl) (by kernel_rfl) (fun _ _ _ h => h) (Or.inl ⟨by rfl, ?yb11⟩) trivial ?rb11
        case yb11 => (intro w hSw; go_simp; try with_reducible rfl)
        try simp only [Act.put, List.setIfInBounds_toArray, List.set_cons_zero, List.set_cons_succ]
        refine wpAnyH_ready (rs := [1]) (by kernel_rfl) (by simp) ?_
        refine AllReadyH.cons (o := { dst := some 7, op := Op.load 44 (Operand.tmp 6), type := 44, pos := "block.go:184", after := #[{ on := 0, ground := Ground.data }], guard := none }) rfl (fun KK hKK => ?_) ?_
        · go_simp
          refine hKK.out _ _ trivial (fun _ => ?_)
          clear hKK KK
          try simp only [Act.put, List.setIfInBounds_toArray, List.set_cons_zero, List.set_cons_succ]
          refine wpAnyH_name (fun u12 hu12 => ?_)
          have Tu12 := Tu10
          rw [← hu12.out] at Tu12
          have Ku12 := (TS.cell Tu12).1
          refine wpAnyH_take (i := 2) (oi := { dst := some 8, op := Op.binOp BinOp.shl 44 (Operand.tmp 7) (Operand.const (Value.int IntKind.u64 8)) 71, type := 44, pos := "block.go:184", after := #[{ on := 1, ground := Ground.data }], guard := none }) (v := ?vb13) rfl (by kernel_rfl) (by kernel_rfl) (by kernel_rfl) (fun _ _ _ h => h) (Or.inl ⟨by rfl, ?yb13⟩) trivial ?rb13
          case yb13 => (intro w hSw; go_simp; try with_reducible rfl)
          try simp only [Act.put, List.setIfInBounds_toArray, List.set_cons_zero, List.set_cons_succ]
          refine wpAnyH_take (i := 6) (oi := { dst := some 12, op := Op.binOp BinOp.or 44 (Operand.tmp 8) (Operand.tmp 11) 44, type := 44, pos := "block.go:184", after := #[{ on := 2, ground := Ground.data }, { on := 5, ground := Ground.data }], guard := none }) (v := ?vb14) rfl (by kernel_rfl) (by kernel_rfl) (by kernel_rfl) (fun _ _ _ h => h) (Or.inl ⟨by rfl, ?yb14⟩) trivial ?rb14
          case yb14 => (intro w hSw; go_simp; try with_reducible rfl)
          try simp only [Act.put, List.setIfInBounds_toArray, List.set_cons_zero, List.set_cons_succ]
          refine wpAnyH_take (i := 7) (oi := { dst := some 13, op := Op.fieldAddr 57 (Operand.tmp 3) 0, type := 0, pos := "block.go:184", after := #[{ on := 0, ground := Ground.phase }, { on := 1, ground := Ground.phase }, { on := 2, ground := Ground.phase }, { on := 3, ground := Ground.phase }, { on := 4, ground := Ground.phase }, { on := 5, ground := Ground.phase }, { on := 6, ground := Ground.phase }], guard := none }) (v := ?vb15) rfl (by kernel_rfl) (by kernel_rfl) (by kernel_rfl) (fun _ _ _ h => h) (Or.inl ⟨by rfl, ?yb15⟩) trivial ?rb15
          case yb15 => (intro w hSw; go_simp; try with_reducible rfl)
          try simp only [Act.put, List.setIfInBounds_toArray, List.set_cons_zero, List.set_cons_succ]
          refine wpAnyH_ready (rs := [8]) (by kernel_rfl) (by simp) ?_
          refine AllReadyH.cons (o := { dst := none, op := Op.store 44 (Operand.tmp 13) (Operand.tmp 12), type := 0, pos := "block.go:184", after := #[{ on := 7, ground := Ground.data }, { on := 6, ground := Ground.data }, { on := 4, ground := Ground.chain }, { on := 0, ground := Ground.phase }, { on := 1, ground := Ground.phase }, { on := 2, ground := Ground.phase }, { on := 3, ground := Ground.phase }, { on := 4, ground := Ground.phase }, { on := 5, ground := Ground.phase }, { on := 6, ground := Ground.phase }], guard := none }) rfl (fun KK hKK => ?_) ?_
          · have Fu16 := (TS.cell Tu12).2
            go_simp
            refine hKK.out _ _ trivial (fun _ => ?_)
            clear hKK KK
            try simp only [Act.put]
            refine wpAnyH_name (fun u16 hu16 => ?_)
            have Tu16 := TS.setC (k' := kk * 256 + bb) Tu12
            rw [← hu16.out] at Tu16
            refine wpAnyH_done (by kernel_rfl) ?_ _
            have TZ : Hid (TS w u16 g s (rW (j + 1) xs e).2.1 (rW (j + 1) xs e).2.2 ⟨(rW (j + 1) xs e).1, z32⟩) := by unfold Hid; rw [HN.out]; exact Tu16
            clear Tu16 HN
            go_wp2
            go_roundw
            case rel => exact ⟨j + 1, by omega, by go_num, TZ.out⟩
            case measure => simp [intOf]; omega
          exact AllReadyH.nil
        exact AllReadyH.nil
      exact AllReadyH.nil
    · obtain rfl : j = 4 := by omega
      have hc := HBD.out 4
      clear HBD
      generalize rW 4 xs e = q at *
      obtain ⟨kk, qx, qe⟩ := q
      simp only at HT hc ts
      have HSB : Hid (∀ k, 0 ≤ (rR qx qe 32).1.getD k 0 ∧ (rR qx qe 32).1.getD k 0 < 256) := rR_bytes qx qe 32 hc.2.2
      have RL4 : Hid ((rR qx qe 32).1.length ≤ 32) := rR_len qx qe 32
      have CR : Hid (∀ W, Fi.Rd W g s qx qe → Calls Tryd.prog 61 #[.pointer (some ⟨g, 0, none⟩), .int .i64 32] W fun r w' => r = .returned (.string (Fi.strB (rR qx qe 32).1)) ∧ Fi.Rd w' g s (rR qx qe 32).2.1 (rR qx qe 32).2.2 ∧ Fi.Off g W w') := fun W hr => rdRaw g s _ _ 32 W hr
      have HOC : Hid ((Sg.cells ⟨kk, z32⟩).toArray.toList.take 1 ++ Lib.byteCells (Fi.strB (rR qx qe 32).1).data.toList ++ (Sg.cells ⟨kk, z32⟩).toArray.toList.drop (1 + (rR qx qe 32).1.length) = Sg.cells ⟨kk, ov32 (rR qx qe 32).1⟩) := over_cells kk _ HSB.out
      have HSZ : Hid ((Fi.strB (rR qx qe 32).1).size = (rR qx qe 32).1.length) := Fi.strB_size _
      have HYS : Hid ((Sg.cells ⟨kk, z32⟩).toArray.size = 33) := Sg.size ⟨kk, z32⟩ ⟨z32_len, z32_bytes, hc.1, hc.2.1⟩
      have T0 : Hid (TS w wr g s qx qe ⟨kk, z32⟩) := ts
      clear hc ts
      generalize rR qx qe 32 = r at *
      obtain ⟨rr, rx, re⟩ := r
      simp only at HT HSB RL4 CR HOC HSZ
      obtain ⟨y, hy⟩ : ∃ y : Sg, y = ⟨kk, z32⟩ := ⟨_, rfl⟩
      rw [← hy] at HOC HYS T0
      clear hy
      have HT1 := HT.out
      have HR1 : Hid (R.1 = ⟨kk, ov32 rr⟩) := by unfold Hid; rw [HT1]
      have HR2 : Hid (R.2 = (rx, re)) := by unfold Hid; rw [HT1]
      rw [← HR1.out] at HOC
      clear HT HT1 HR1
      obtain ⟨z, Rx⟩ := R
      have HR3 : Hid (Rx = (rx, re)) := HR2.out
      clear HR2
      simp only at HOK HOC
      generalize Fi.strB rr = SS at *
      have nl : ¬ ((4 : Nat) : Int) < 4 := by omega
      go_wp2_with fail
      refine wp_region_held_drew (S := fun _ => True) (by kernel_rfl) trivial (fun _ => ?_)
      refine wpAnyH_name (fun u0 hu0 => ?_)
      have bu0 : Below wr.heap.size wr u0 := by rw [hu0.out]; exact (Below.refl _ _).drew
      have Tu0 : TS w u0 g s qx qe y := by rw [hu0.out]; exact TS.drew T0.out
      refine wpAnyH_take (i := 0) (oi := { dst := some 15, op := Op.fieldAddr 57 (Operand.tmp 3) 1, type := 0, pos := "block.go:186", after := #[], guard := none }) (v := ?vc1) rfl (by kernel_rfl) (by kernel_rfl) (by kernel_rfl) (fun _ _ _ h => h) (Or.inl ⟨by rfl, ?yc1⟩) trivial ?rc1
      case yc1 => (intro w hSw; go_simp; try with_reducible rfl)
      try simp only [Act.put, List.setIfInBounds_toArray, List.set_cons_zero, List.set_cons_succ]
      refine wpAnyH_take (i := 1) (oi := { dst := some 16, op := Op.slice 55 (Operand.tmp 15) none none none, type := 22, pos := "block.go:186", after := #[{ on := 0, ground := Ground.data }], guard := none }) (v := ?vc2) rfl (by kernel_rfl) (by kernel_rfl) (by kernel_rfl) (fun _ _ _ h => h) (Or.inl ⟨by rfl, ?yc2⟩) trivial ?rc2
      case yc2 => (intro w hSw; go_simp; try with_reducible rfl)
      try simp only [Act.put, List.setIfInBounds_toArray, List.set_cons_zero, List.set_cons_succ]
      refine wpAnyH_take (i := 2) (oi := { dst := some 17, op := Op.move (Operand.tmp 0), type := 72, pos := "block.go:186", after := #[], guard := none }) (v := ?vc3) rfl (by kernel_rfl) (by kernel_rfl) (by kernel_rfl) (fun _ _ _ h => h) (Or.inl ⟨by rfl, ?yc3⟩) trivial ?rc3
      case yc3 => (intro w hSw; go_simp; try with_reducible rfl)
      try simp only [Act.put, List.setIfInBounds_toArray, List.set_cons_zero, List.set_cons_succ]
      refine wpAnyH_ready (rs := [3]) (by kernel_rfl) (by simp) ?_
      refine AllReadyH.cons (o := { dst := some 18, op := Op.call { callee := Callee.value (Operand.func 61), args := #[Operand.tmp 17, Operand.const (Value.int IntKind.i64 32)], argTypes := #[72, 3] }, type := 9, pos := "block.go:186", after := #[{ on := 2, ground := Ground.data }], guard := none }) rfl (fun KK hKK => ?_) ?_
      · go_simp
        refine (CR.out _ Tu0.1).mono ?_
        rintro r u4' ⟨rfl, rdu4, ofu4⟩
        (try go_wp2_with fail)
        refine hKK.out _ _ trivial (fun _ => ?_)
        clear hKK KK
        try simp only [Act.put, List.setIfInBounds_toArray, List.set_cons_zero, List.set_cons_succ]
        refine wpAnyH_name (fun u4 hu4 => ?_)
        rw [← hu4.out] at rdu4 ofu4
        have Tu4 := TS.off Tu0 rdu4 ofu4
        clear rdu4 ofu4
        refine wpAnyH_ready (rs := [4]) (by kernel_rfl) (by simp) ?_
        refine AllReadyH.cons (o := { dst := some 19, op := Op.call { callee := Callee.builtin Builtin.copy, args := #[Operand.tmp 16, Operand.tmp 18], argTypes := #[22, 9] }, type := 3, pos := "block.go:186", after := #[{ on := 1, ground := Ground.data }, { on := 3, ground := Ground.data }, { on := 3, ground := Ground.chain }], guard := none }) rfl (fun KK hKK => ?_) ?_
        · refine wp_copy_str _ _ 22 9 rfl 5 Tryd.underlying22 size5 (w.heap.size + 1) 1 32 32 SS rfl rfl y.cells.toArray 57 Tu4.2.2.1 (by have := HSZ.out; have := RL4.out; omega) (by have := HSZ.out; have := RL4.out; have := HYS.out; omega) ?_
          rw [HSZ.out, HOC.out]
          refine hKK.out _ _ trivial (fun _ => ?_)
          clear hKK KK
          try simp only [Act.put, List.setIfInBounds_toArray, List.set_cons_zero, List.set_cons_succ]
          refine wpAnyH_name (fun u5 hu5 => ?_)
          have Tu5 := TS.setR (y' := z) Tu4
          rw [← hu5.out] at Tu5
          refine wpAnyH_done (by kernel_rfl) ?_ _
          have ZR : Hid (u5.rangeAt (w.heap.size + 1) 0 z.cells) := IB.range Tu5.2.2.1
          have ZD : Hid (Fi.Rd u5 g s rx re) := Tu5.1
          have ZG : Hid (u5.heap[w.heap.size]? = some (.cells izc 57 (0, 0))) := Tu5.2.1
          have ZB : Hid (Sh.But g w u5) := Tu5.2.2.2.1
          have ZN : Hid (w.heap.size ≠ g ∧ w.heap.size ≠ s) := ⟨by have := Tu5.2.2.2.2; omega, by have := Tu5.2.2.2.2; omega⟩
          have ZZ : Hid ((Tryd.prog.info? 57).map (·.size) = some z.cells.length) := sizeI.trans (by rw [Sg.len HOK.out])
          go_wp2_with (first | refine wpList_load_mid rfl 57 _ rfl (w.heap.size + 1) 0 rfl z.cells _ ZR.out Tryd.underlying57 rfl ZZ.out ?_ | refine wpList_store_row rfl 57 _ _ rfl w.heap.size z.cells.toArray rfl rfl 57 izc ZG.out (Sg.info _ HOK.out) (izc_size.trans (Sg.size _ HOK.out).symm) (Sg.ones _) ?_)
          exact bodyPost_ret (v := z.val) (results_cell_row rfl _ _ w.heap.size 57 z.cells.toArray (0, 0) _ rfl (setRow_heap _ _ _ _ _ _ ZG.out) Tryd.underlying57 rfl (Sg.info _ HOK.out)) rfl ⟨rfl, by rw [HR3.out]; exact Rd.setRow ZD.out ZN.out.1 ZN.out.2 _, But.setRow ZB.out (Nat.le_refl _) _⟩
        exact AllReadyH.nil
      exact AllReadyH.nil
end Go.Proofs.YtjiefndjgkhcjaaDoor

namespace Go.Proofs.YtjiefndjgkhcjaaDoor
open Go.RowKit
set_option maxRecDepth 100000

/-- Bytes in a row of the call's own. -/
def Ow (w : World) (B : Nat) (v : Value) (X : List Int) : Prop := w.ownsRow B 5 1 v X.length (X.map (Value.int .u8)) ∧ ∀ k, 0 ≤ X.getD k 0 ∧ X.getD k 0 < 256
theorem Ow.sl {w : World} {B : Nat} {v : Value} {X : List Int} (h : Ow w B v X) : Sl w v X := sl_owned h.1 h.2
theorem Ow.below {w w' : World} {B : Nat} {v : Value} {X : List Int} (h : Ow w B v X) (hb : Below w.heap.size w w') : Ow w' B v X := ⟨own_below h.1 hb, h.2⟩
theorem Ow.mono {w : World} {B B' : Nat} {v : Value} {X : List Int} (h : Ow w B v X) (hb : B' ≤ B) : Ow w B' v X := ⟨own_mono h.1 hb, h.2⟩
theorem Ow.shape {w : World} {B : Nat} {v : Value} {X : List Int} (h : Ow w B v X) : ∃ a c, v = .slice a X.length c := own_shape h.1
/-- A list of texts. -/
def LP (w : World) (B : Nat) (v : Value) (ZZ : List (List Int)) : Prop :=
  ∃ V : List Value, w.ownsRow B 22 1 v ZZ.length V ∧ ∀ i, i < ZZ.length → ∃ u, V[i]? = some u ∧ Ow w B u (ZZ.getD i [])
theorem LP.below {w w' : World} {B : Nat} {v : Value} {ZZ : List (List Int)} (h : LP w B v ZZ) (hb : Below w.heap.size w w') : LP w' B v ZZ := by
  obtain ⟨V, h1, h2⟩ := h
  refine ⟨V, own_below h1 hb, fun i hi => ?_⟩
  obtain ⟨u, h3, h4⟩ := h2 i hi
  exact ⟨u, h3, h4.below hb⟩
theorem LP.parts {w : World} {B : Nat} {v : Value} {ZZ : List (List Int)} (h : LP w B v ZZ) (hm : ZZ.length ≤ 100000) : ∃ p c, v = .slice p ZZ.length c ∧ Fi.Parts w p ZZ := by
  obtain ⟨V, ho, h⟩ := h
  have ho' := ho
  rcases ho.2 with ⟨rfl, h0⟩ | ⟨g, cap, cur, rfl, _⟩
  · exact ⟨none, 0, by rw [h0], by omega, .inl (List.length_eq_zero_iff.1 h0)⟩
  · refine ⟨_, cap, rfl, by omega, .inr ⟨g, 0, rfl, fun i hi => ?_⟩⟩
    obtain ⟨u, hu, sl⟩ := h i hi
    refine ⟨u, ?_, fsl sl.sl⟩
    have := ho'.cells (g := g) rfl i u hu
    rwa [Addr.add_lit] at this
theorem LP.one {w : World} {B : Nat} {u : Value} {X : List Int} (h : Ow w B u X) (hB : B ≤ w.heap.size) : LP (w.alloc (.cells #[u] 22)) B (.slice (some ⟨w.heap.size, 0, none⟩) 1 1) [X] := by
  refine ⟨[u], ⟨rfl, .inr ⟨w.heap.size, 1, #[u], rfl, hB, heap_alloc_new _ _, Nat.le_refl _, by unfold maxLen; omega, rfl, rfl⟩⟩, fun i hi => ?_⟩
  obtain rfl : i = 0 := by simpa using hi
  exact ⟨u, rfl, h.below (al_below _ _)⟩
theorem infoB : (Tryd.prog.info? 22).map (fun i => (i.zero, i.size, i.bytes)) = some (some (.slice none 0 0), 1, 24) := by kernel_rfl
/-- A text laid behind. -/
theorem wpList_append_lp {w : World} {ops : Array Oper} {rest : List Oper} {o : Oper} {a : Act} {Q : Exit → Act → World → Prop} (hgd : o.guard = none) (s x : Operand)
    (ho : o.op = .call { callee := .builtin .append, args := #[s, x], argTypes := #[68, 68] })
    (B : Nat) (v : Value) (ZZ : List (List Int)) (hs : a.eval s = v) (hown : LP w B v ZZ) (g : Nat) (u : Value) (X : List Int) (cap : Nat) (hX : Ow w B u X)
    (hx : a.eval x = .slice (some ⟨g, 0, none⟩) 1 cap) (hc : w.cell? ⟨g, 0, none⟩ = some u) (hbig : ZZ.length ≤ 100000) (hbase : B ≤ w.heap.size)
    (h : ∀ v' w', LP w' B v' (ZZ ++ [X]) → Below B w w' → wpList Tryd.prog ops Q rest (a.put o.dst v') w') : wpList Tryd.prog ops Q (o :: rest) a w := by
  obtain ⟨i0, hi, hz0, hz1, hz2⟩ := info_parts infoB
  obtain ⟨V, hV, hall⟩ := hown
  refine wpList_append_own_wide w hgd s x 68 ho B 22 i0 (.slice none 0 0) 1 24 Tryd.underlying68 hi hz0 hz1 hz2 rfl (by decide) v ZZ.length V hs hV ⟨g, 0, none⟩ 1 cap [u] hx rfl ?_ ?_ (by unfold maxLen; omega) (by omega) hbase ?_
  · intro j z hj
    rw [Addr.add_lit]
    cases j with
    | zero => simp at hj; subst hj; exact hc
    | succ j => simp at hj
  · intro z hz
    simp at hz
    subst hz
    obtain ⟨_, _, rfl⟩ := hX.shape
    rfl
  · intro v' w' ho' hg _
    have ap : ∀ {y : Value} {Y : List Int}, Ow w B y Y → Ow w' B y Y := fun hy => ⟨own_apart hV hy.1 (by decide) hg, hy.2⟩
    have hVl : V.length = ZZ.length := by have := hV.1; simpa using this
    refine h v' w' ⟨V ++ [u], by rw [List.length_append]; exact ho', fun i hi => ?_⟩ ((Below.refl B w).grown hg hbase (own_base hV))
    rw [List.length_append, List.length_singleton] at hi
    rcases Nat.lt_or_ge i ZZ.length with h' | h'
    · obtain ⟨z, hz, oz⟩ := hall i h'
      refine ⟨z, by rw [List.getElem?_append_left (by omega)]; exact hz, ?_⟩
      have e : (ZZ ++ [X]).getD i [] = ZZ.getD i [] := by simp [List.getD, List.getElem?_append_left h']
      rw [e]
      exact ap oz
    · obtain rfl : i = ZZ.length := by omega
      refine ⟨u, by rw [List.getElem?_append_right (by omega), hVl]; simp, ?_⟩
      have e : (ZZ ++ [X]).getD ZZ.length [] = X := by simp [List.getD]
      rw [e]
      exact ap hX
/-- Values that are slices, in a row, as parts. -/
theorem partsL {w : World} (us : List Value) (XX : List (List Int)) (hl : XX.length ≤ 100000) (h : ∀ i, i < XX.length → ∃ u, us[i]? = some u ∧ Sl w u (XX.getD i [])) : Fi.Parts (w.alloc (.cells us.toArray 22)) (some ⟨w.heap.size, 0, none⟩) XX := by
  refine ⟨by omega, .inr ⟨w.heap.size, 0, rfl, fun i hi => ?_⟩⟩
  obtain ⟨u, hu, su⟩ := h i hi
  refine ⟨u, ?_, fsl (su.kept (al_below _ _))⟩
  rw [World.cell?_alloc_at _ _ _ _ rfl]
  simpa using hu
theorem fparts_kept {w w' : World} {p : Option Addr} {ZZ : List (List Int)} (h : Fi.Parts w p ZZ) (hb : Below w.heap.size w w') : Fi.Parts w' p ZZ := by
  refine ⟨h.1, ?_⟩
  rcases h.2 with h | ⟨b, off, e, h⟩
  · exact .inl h
  · refine .inr ⟨b, off, e, fun i hi => ?_⟩
    obtain ⟨v, h1, h2⟩ := h i hi
    exact ⟨v, (hb.cell (World.block_lt_of_cell? _ _ h1)).trans h1, h2.kept hb⟩
theorem parts_bytes {w : World} {p : Option Addr} {ZZ : List (List Int)} (h : Fi.Parts w p ZZ) : ∀ i, 0 ≤ ZZ.flatten.getD i 0 ∧ ZZ.flatten.getD i 0 < 256 := by
  refine bytes_flat ZZ fun X hX => ?_
  obtain ⟨i, hi, rfl⟩ := List.getElem_of_mem hX
  rcases h.2 with h | ⟨b, off, e, h⟩
  · subst h; simp at hi
  · obtain ⟨v, _, s⟩ := h i hi
    have := (slf s).bytes
    simpa [List.getD, List.getElem?_eq_getElem hi] using this
theorem fjoin_any (p : Option Addr) (kc : Nat) (ZZ : List (List Int)) (w : World) (hP : Fi.Parts w p ZZ) (hbig : ZZ.flatten.length ≤ 200000000000000) :
    Calls Tryd.prog 35 #[.slice p ZZ.length kc] w fun r w' => ∃ v, r = .returned v ∧ Ow w' w.heap.size v ZZ.flatten ∧ Below w.heap.size w w' :=
  (Fi.join_any p kc ZZ w hP hbig).mono fun _ _ ⟨v, e1, o, b⟩ => ⟨v, e1, ⟨o, parts_bytes hP⟩, b⟩
end Go.Proofs.YtjiefndjgkhcjaaDoor

namespace Go.Proofs.YtjiefndjgkhcjaaDoor
open Go.RowKit
set_option maxRecDepth 100000

/-- The four bytes of a weak sum, the highest first. -/
def be4 (k : Int) : List Int := [k / 16777216 % 256, k / 65536 % 256, k / 256 % 256, k % 256]
theorem be4_bytes (k : Int) : ∀ i, 0 ≤ (be4 k).getD i 0 ∧ (be4 k).getD i 0 < 256 := by
  refine byteList _ ?_
  have h : ∀ x : Int, (decide (0 ≤ x % 256) && decide (x % 256 < 256)) = true := fun x => by
    rw [Bool.and_eq_true, decide_eq_true_eq, decide_eq_true_eq]; omega
  simp only [be4, List.all_cons, List.all_nil, h, Bool.and_true]
/-- The bytes of two sums. -/
def layG (x : Sg) : List Int := be4 x.k ++ x.s
theorem layG_len (x : Sg) (h : x.ok) : (layG x).length = 36 := by simp [layG, be4, h.1]
theorem wp_append_owx {w : World} {o : Oper} {a : Act} {KK : Act → World → Prop} {Q : Exit → Act → World → Prop} (s x : Operand)
    (ho : o.op = .call { callee := .builtin .append, args := #[s, x], argTypes := #[22, 22] })
    (B : Nat) (v : Value) (X : List Int) (hs : a.eval s = v) (hown : Ow w B v X)
    (src : Value) (Z : List Int) (hx : a.eval x = src) (hsl : Sl w src Z) (hbig : X.length + Z.length ≤ 200000000000000) (hbase : B ≤ w.heap.size)
    (h : ∀ v' w', Ow w' B v' (X ++ Z) → Below B w w' → (∀ (i : Nat) (cs : Array Value) (t : TypeId) (fr : Nat × Nat), t ≠ 5 → w.heap[i]? = some (Obj.cells cs t fr) → w'.heap[i]? = some (Obj.cells cs t fr)) → KK (a.put o.dst v') w') : o.wp Tryd.prog a w KK Q := by
  have hzb := hsl.bytes
  have hXZ : ∀ k, 0 ≤ (X ++ Z).getD k 0 ∧ (X ++ Z).getD k 0 < 256 := fun k => by
    rcases Nat.lt_or_ge k X.length with h | h
    · have : (X ++ Z).getD k 0 = X.getD k 0 := by simp [List.getD, List.getElem?_append_left h]
      rw [this]; exact hown.2 k
    · have : (X ++ Z).getD k 0 = Z.getD (k - X.length) 0 := by simp [List.getD, List.getElem?_append_right h]
      rw [this]; exact hzb _
  obtain ⟨i0, hi, hz0, hz1, hz2⟩ := info_parts info5'
  obtain ⟨ad, cap, rfl, h1, h2, h3, h4⟩ := hsl
  cases ad with
  | none =>
    obtain rfl := h3 rfl
    obtain rfl : Z = [] := List.length_eq_zero_iff.1 (by omega)
    have hrun := run_append_owned_none (P := Tryd.prog) (w := w) B 22 o.type 5 i0 1 Tryd.underlying22 hi v X.length _ hown.1
    have hx' : a.eval x = .slice none 0 0 := hx
    unfold Oper.wp
    simp [execOp, ho, resolve, invoke, builtin, hs, hx', hrun, Result.andThen]
    exact h v w (by rw [List.append_nil]; exact hown) (Below.refl _ _) (fun _ _ _ _ _ hh => hh)
  | some y =>
    refine wp_append_own_wide w s x 22 ho B 5 i0 (.int .u8 0) 1 1 Tryd.underlying22 hi hz0 hz1 hz2 rfl (by decide) v X.length _ hs hown.1 y Z.length cap (Z.map (Value.int .u8)) hx (by rw [List.length_map, Nat.mul_one]) (news_row h4) (ints_one Z) (by unfold maxLen; omega) (by omega) hbase
      (fun v' w' ho' hg _ => h v' w' ⟨by rw [List.length_append, List.map_append]; exact ho', hXZ⟩ ((Below.refl B w).grown hg hbase (own_base hown.1)) (fun i cs t fr ht hh => (hg.block i (Array.getElem?_eq_some_iff.1 hh).1 (fun e => by
        rcases hown.1.2 with ⟨rfl, _⟩ | ⟨g, cap', cur, rfl, _, hg', _⟩
        · cases e
        · cases e
          rw [hh] at hg'
          simp at hg'
          exact ht hg'.2.1)).trans hh))
theorem wp_append_ow {w : World} {o : Oper} {a : Act} {KK : Act → World → Prop} {Q : Exit → Act → World → Prop} (s x : Operand)
    (ho : o.op = .call { callee := .builtin .append, args := #[s, x], argTypes := #[22, 22] })
    (B : Nat) (v : Value) (X : List Int) (hs : a.eval s = v) (hown : Ow w B v X)
    (src : Value) (Z : List Int) (hx : a.eval x = src) (hsl : Sl w src Z) (hbig : X.length + Z.length ≤ 200000000000000) (hbase : B ≤ w.heap.size)
    (h : ∀ v' w', Ow w' B v' (X ++ Z) → Below B w w' → KK (a.put o.dst v') w') : o.wp Tryd.prog a w KK Q :=
  wp_append_owx s x ho B v X hs hown src Z hx hsl hbig hbase fun v' w' h1 h2 _ => h v' w' h1 h2
/-- The same, with what stays: blocks of another kind. -/
theorem wpList_append_owx {w : World} {ops : Array Oper} {rest : List Oper} {o : Oper} {a : Act} {Q : Exit → Act → World → Prop} (hgd : o.guard = none) (s x : Operand)
    (ho : o.op = .call { callee := .builtin .append, args := #[s, x], argTypes := #[22, 22] })
    (B : Nat) (v : Value) (X : List Int) (hs : a.eval s = v) (hown : Ow w B v X)
    (src : Value) (Z : List Int) (hx : a.eval x = src) (hsl : Sl w src Z) (hbig : X.length + Z.length ≤ 200000000000000) (hbase : B ≤ w.heap.size)
    (h : ∀ v' w', Ow w' B v' (X ++ Z) → Below B w w' → (∀ (i : Nat) (cs : Array Value) (t : TypeId) (fr : Nat × Nat), t ≠ 5 → w.heap[i]? = some (Obj.cells cs t fr) → w'.heap[i]? = some (Obj.cells cs t fr)) → wpList Tryd.prog ops Q rest (a.put o.dst v') w') : wpList Tryd.prog ops Q (o :: rest) a w :=
  wpList_plain hgd fun _ hK => wp_append_owx s x ho B v X hs hown src Z hx hsl hbig hbase fun v' w' h1 h2 h3 => hK _ _ (h v' w' h1 h2 h3)
theorem wpList_append_ow {w : World} {ops : Array Oper} {rest : List Oper} {o : Oper} {a : Act} {Q : Exit → Act → World → Prop} (hgd : o.guard = none) (s x : Operand)
    (ho : o.op = .call { callee := .builtin .append, args := #[s, x], argTypes := #[22, 22] })
    (B : Nat) (v : Value) (X : List Int) (hs : a.eval s = v) (hown : Ow w B v X)
    (src : Value) (Z : List Int) (hx : a.eval x = src) (hsl : Sl w src Z) (hbig : X.length + Z.length ≤ 200000000000000) (hbase : B ≤ w.heap.size)
    (h : ∀ v' w', Ow w' B v' (X ++ Z) → Below B w w' → wpList Tryd.prog ops Q rest (a.put o.dst v') w') : wpList Tryd.prog ops Q (o :: rest) a w :=
  wpList_plain hgd fun _ hK => wp_append_ow s x ho B v X hs hown src Z hx hsl hbig hbase fun v' w' h1 h2 => hK _ _ (h v' w' h1 h2)
theorem sl_lit {w : World} (z : Int) (h0 : 0 ≤ z) (h1 : z < 256) : Sl (w.alloc (.cells #[.int .u8 z] 5)) (.slice (some ⟨w.heap.size, 0, none⟩) 1 1) [z] := by
  refine sl_range (A := [z]) (fun j v hv => ?_) (byteList _ (by simp; omega)) rfl (Nat.le_refl _) (by unfold maxLen; omega)
  rw [World.cell?_alloc_at _ _ _ _ rfl]
  simpa using hv
theorem two_get {P : Value → List Int → Prop} {u0 u1 : Value} {X0 X1 : List Int} (h0 : P u0 X0) (h1 : P u1 X1) : ∀ i, i < [X0, X1].length → ∃ u, [u0, u1][i]? = some u ∧ P u ([X0, X1].getD i []) := fun i hi => by
  rcases (show i = 0 ∨ i = 1 by simp at hi; omega) with rfl | rfl
  · exact ⟨u0, rfl, h0⟩
  · exact ⟨u1, rfl, h1⟩
set_option maxHeartbeats 2000000 in
theorem lay_any (x : Sg) (w : World) (hx : x.ok) :
    Calls Tryd.prog 34 #[x.val] w fun e w' => ∃ u, e = .returned u ∧ Ow w' w.heap.size u (layG x) ∧ Below w.heap.size w w' := by
  obtain ⟨W1, hW1⟩ : ∃ W1, W1 = w.alloc (.cells x.cells.toArray 57) := ⟨_, rfl⟩
  have b1 : Below w.heap.size w W1 := by rw [hW1]; exact al_below _ _
  have g1 : IB W1 w.heap.size x := by rw [hW1]; exact IB.new w x
  have B1 : Hid (Below w.heap.size w W1) := b1
  have FT : Hid (∀ W, Below W1.heap.size W1 W → W.cell? ⟨w.heap.size, 0, none⟩ = some (.int .u32 x.k)) := fun W hb => range_head (g1.kept hb).range
  have FS : Hid (∀ W, Below W1.heap.size W1 W → Sl W (.slice (some ⟨w.heap.size, 1, none⟩) 32 32) x.s) := fun W hb => sl_range (by simpa using range_sum (g1.kept hb).range) hx.2.1 hx.1.symm (Nat.le_refl _) (by unfold maxLen; omega)
  have hkr := hx.2.2
  have HY : Hid (layG x = be4 x.k ++ x.s) := rfl
  have HSL : Hid (x.s.length = 32) := hx.1
  clear b1 g1 hx
  unfold Sg.val
  generalize layG x = Y at *
  generalize x.s = S at *
  generalize x.cells.toArray = cs at *
  generalize x.k = kk at *
  have HBB : Hid (∀ i, 0 ≤ (be4 kk).getD i 0 ∧ (be4 kk).getD i 0 < 256) := be4_bytes kk
  go_enter Tryd.func34, Tryd.ntmps34
  go_wp2_with fail
  rw [← hW1]
  clear hW1
  go_loopw [3, 5] (fun s q wr => ∃ j : Nat, j ≤ 4 ∧ q = .int .i64 j ∧ Ow wr W1.heap.size s ((be4 kk).take j) ∧ Below W1.heap.size W1 wr) (fun _ q _ => 4 - (intOf q).toNat)
  case atStart => exact ⟨0, by omega, rfl, ⟨World.ownsRow_nil _ _ _ _, fun k => by simp⟩, Below.refl _ _⟩
  case round =>
    obtain ⟨j, hj, rfl, ow, bel⟩ := hrel
    have HB : Hid (Below W1.heap.size W1 wr) := bel
    have HO : Hid (Ow wr W1.heap.size u3 ((be4 kk).take j)) := ow
    obtain ⟨va, vc, rfl⟩ := ow.shape
    have hlj : ((be4 kk).take j).length = j := by rw [List.length_take]; simp [be4]; omega
    rw [hlj] at HO ⊢
    have k0 := FT.out wr bel
    clear bel ow hlj
    by_cases h4 : j < 4
    · have HT : Hid (∀ z : Int, z = (be4 kk).getD j 0 → (be4 kk).take (j + 1) = (be4 kk).take j ++ [z]) := fun z hz => by
        rw [List.take_add_one, hz]
        have : j < (be4 kk).length := h4
        simp [List.getD, List.getElem?_eq_getElem this]
      have B3 : Hid (∀ o, Below W1.heap.size W1 (wr.alloc o)) := fun o => HB.out.trans ((al_below _ _).mono HB.out.size)
      rcases (show j = 0 ∨ j = 1 ∨ j = 2 ∨ j = 3 by omega) with rfl | rfl | rfl | rfl
      · have O3 : Hid (∀ o, Ow (wr.alloc o) W1.heap.size (.slice va 0 vc) ((be4 kk).take 0)) := fun o => HO.out.below (al_below _ _)
        clear HO
        go_wp2_with (at_builtin; refine wpList_append_ow rfl _ _ rfl W1.heap.size _ ((be4 kk).take 0) rfl (O3.out _) _ [_] rfl (sl_lit _ (by omega) (by omega)) (by simp [be4]) (B3.out _).size (Hid.out ?_))
        unfold Hid
        intro v4 w4 o4 b4
        have B4 : Hid (Below W1.heap.size W1 w4) := (B3.out _).trans b4
        have O4 : Hid (Ow w4 W1.heap.size v4 ((be4 kk).take (0 + 1))) := by
          unfold Hid
          rw [HT.out _ ?_]
          · exact o4
          · simp [be4, List.getD]
            try omega
        clear o4 b4 O3 k0
        go_wp2
        go_roundw
        case rel => exact ⟨0 + 1, by omega, by go_num, O4.out, B4.out⟩
        case measure => simp [intOf]
      · have O3 : Hid (∀ o, Ow (wr.alloc o) W1.heap.size (.slice va 1 vc) ((be4 kk).take 1)) := fun o => HO.out.below (al_below _ _)
        clear HO
        go_wp2_with (at_builtin; refine wpList_append_ow rfl _ _ rfl W1.heap.size _ ((be4 kk).take 1) rfl (O3.out _) _ [_] rfl (sl_lit _ (by omega) (by omega)) (by simp [be4]) (B3.out _).size (Hid.out ?_))
        unfold Hid
        intro v4 w4 o4 b4
        have B4 : Hid (Below W1.heap.size W1 w4) := (B3.out _).trans b4
        have O4 : Hid (Ow w4 W1.heap.size v4 ((be4 kk).take (1 + 1))) := by
          unfold Hid
          rw [HT.out _ ?_]
          · exact o4
          · simp [be4, List.getD]
            try omega
        clear o4 b4 O3 k0
        go_wp2
        go_roundw
        case rel => exact ⟨1 + 1, by omega, by go_num, O4.out, B4.out⟩
        case measure => simp [intOf]
      · have O3 : Hid (∀ o, Ow (wr.alloc o) W1.heap.size (.slice va 2 vc) ((be4 kk).take 2)) := fun o => HO.out.below (al_below _ _)
        clear HO
        go_wp2_with (at_builtin; refine wpList_append_ow rfl _ _ rfl W1.heap.size _ ((be4 kk).take 2) rfl (O3.out _) _ [_] rfl (sl_lit _ (by omega) (by omega)) (by simp [be4]) (B3.out _).size (Hid.out ?_))
        unfold Hid
        intro v4 w4 o4 b4
        have B4 : Hid (Below W1.heap.size W1 w4) := (B3.out _).trans b4
        have O4 : Hid (Ow w4 W1.heap.size v4 ((be4 kk).take (2 + 1))) := by
          unfold Hid
          rw [HT.out _ ?_]
          · exact o4
          · simp [be4, List.getD]
            try omega
        clear o4 b4 O3 k0
        go_wp2
        go_roundw
        case rel => exact ⟨2 + 1, by omega, by go_num, O4.out, B4.out⟩
        case measure => simp [intOf]
      · have O3 : Hid (∀ o, Ow (wr.alloc o) W1.heap.size (.slice va 3 vc) ((be4 kk).take 3)) := fun o => HO.out.below (al_below _ _)
        clear HO
        go_wp2_with (at_builtin; refine wpList_append_ow rfl _ _ rfl W1.heap.size _ ((be4 kk).take 3) rfl (O3.out _) _ [_] rfl (sl_lit _ (by omega) (by omega)) (by simp [be4]) (B3.out _).size (Hid.out ?_))
        unfold Hid
        intro v4 w4 o4 b4
        have B4 : Hid (Below W1.heap.size W1 w4) := (B3.out _).trans b4
        have O4 : Hid (Ow w4 W1.heap.size v4 ((be4 kk).take (3 + 1))) := by
          unfold Hid
          rw [HT.out _ ?_]
          · exact o4
          · simp [be4, List.getD]
            try omega
        clear o4 b4 O3 k0
        go_wp2
        go_roundw
        case rel => exact ⟨3 + 1, by omega, by go_num, O4.out, B4.out⟩
        case measure => simp [intOf]
    · obtain rfl : j = 4 := by omega
      have HO4 : Hid (Ow wr W1.heap.size (.slice va 4 vc) (be4 kk)) := HO.out
      have hs := FS.out wr HB.out
      have P4 := partsL (w := wr) [.slice va 4 vc, .slice (some ⟨w.heap.size, 1, none⟩) 32 32] [be4 kk, S] (by simp) (two_get (P := fun u X => Sl wr u X) HO4.out.sl hs)
      obtain ⟨W4, hW4⟩ : ∃ W4, W4 = wr.alloc (.cells #[.slice va 4 vc, .slice (some ⟨w.heap.size, 1, none⟩) 32 32] 22) := ⟨_, rfl⟩
      have b4 : Below wr.heap.size wr W4 := by rw [hW4]; exact al_below _ _
      have B4 : Hid (Below w.heap.size w W4) := B1.out.trans ((HB.out.trans (b4.mono HB.out.size)).mono B1.out.size)
      have cj := fjoin_any (some ⟨wr.heap.size, 0, none⟩) 2 [be4 kk, S] W4 (by rw [hW4]; exact P4) (by rw [List.flatten_cons, List.length_append]; simp [be4, HSL.out])
      rw [show [be4 kk, S].flatten = Y by rw [HY.out]; simp] at cj
      have hw4 : wr.alloc (.cells #[.slice va 4 vc, .slice (some ⟨w.heap.size, 1, none⟩) 32 32] 22) = W4 := hW4.symm
      clear hs P4 hW4 b4 k0 FT FS HO HO4 h4
      simp only [List.length_cons, List.length_nil] at cj
      go_wp2_with fail
      try rw [hw4]
      clear hw4
      refine cj.mono ?_
      rintro e w5 ⟨v5, rfl, o5, b5⟩
      clear cj
      have OZ : Hid (Ow w5 w.heap.size v5 Y) := o5.mono B4.out.size
      have BZ : Hid (Below w.heap.size w w5) := B4.out.trans (b5.mono B4.out.size)
      obtain ⟨ja, jc, rfl⟩ := o5.shape
      clear o5 b5
      go_wp2
      go_ret
      exact ⟨_, rfl, OZ.out, BZ.out⟩
end Go.Proofs.YtjiefndjgkhcjaaDoor

namespace Go.Proofs.YtjiefndjgkhcjaaDoor
open Go.RowKit
set_option maxRecDepth 100000

set_option maxHeartbeats 1000000 in
theorem fnum_own (n : Int) (w : World) (hw : Fi.Wid w) :
    Calls Tryd.prog 33 #[.int .i64 n] w fun r w' => ∃ v, r = .returned v ∧ Ow w' w.heap.size v (Fi.numB n) ∧ Below w.heap.size w w' := by
  by_cases h0 : Fi.lenOf n = 0
  · have hn : Fi.numB n = [] := by unfold Fi.numB; rw [if_pos h0]
    rw [hn]
    have c := Fi.put_no n w hw h0
    clear hn h0
    go_enter Tryd.func33, Tryd.ntmps33
    go_wp2_with (go_at_call 53; refine c.mono ?_; rintro e w' ⟨rfl, rfl⟩)
    go_ret
    exact ⟨_, rfl, ⟨World.ownsRow_nil _ _ _ _, fun k => by simp⟩, Below.refl _ _⟩
  · obtain ⟨W, hW, hW0, hI, h1, h2, hn⟩ := Fi.pos_lim n h0
    have c := Fi.put_ok n W w hw hW hW0
    have hl := Fi.pb_len n W hI
    have hW8 : W ≤ 8 := by rcases hI with rfl | rfl | rfl | rfl <;> omega
    have HS : Hid (Ow (w.alloc (.cells (Fi.pbA n W) 5)) w.heap.size (.slice (some ⟨w.heap.size, 0, none⟩) W W) (Fi.numB n)) := by
      unfold Hid
      rw [hn]
      refine ⟨?_, Fi.pb_bytes n W hI h1 h2⟩
      rw [hl]
      refine ⟨by simp [hl], .inr ⟨w.heap.size, W, Fi.pbA n W, rfl, Nat.le_refl _, heap_alloc_new _ _, Nat.le_refl _, by unfold maxLen; omega, by unfold Fi.pbA; simp [hl], by unfold Fi.pbA; simp; exact List.take_of_length_le (by simp [hl])⟩⟩
    clear hn hl h0 hW hW0
    go_enter Tryd.func33, Tryd.ntmps33
    go_wp2_with (go_at_call 53; refine c.mono ?_; rintro e w' ⟨rfl, rfl⟩)
    go_ret
    exact ⟨_, rfl, HS.out, (Below.refl _ _).alloc (Nat.le_refl _) _⟩
theorem numB_len8 (n : Int) : (Fi.numB n).length ≤ 8 := by
  unfold Fi.numB
  split
  · simp
  · rename_i h0
    obtain ⟨W, hW, _, hI, _, _, hn⟩ := Fi.pos_lim n h0
    rw [hW, Int.toNat_natCast, Fi.pb_len n W hI]
    rcases hI with rfl | rfl | rfl | rfl <;> omega
/-- The bytes of sums, one behind the other. -/
def layL (z n : Int) (l : List Sg) : List Int := Fi.numB z ++ (Fi.numB n ++ (l.map layG).flatten)
def bput (z n : Int) (l : List Sg) : List Int × Int := if chk z n l.length ≠ 0 then ([], chk z n l.length) else (layL z n l, 0)
theorem lays_len : ∀ (l : List Sg), (∀ x ∈ l, x.ok) → (l.map layG).flatten.length = l.length * 36
  | [], _ => by simp
  | x :: l, h => by
    have ih := lays_len l (fun y hy => h y (by simp [hy]))
    rw [List.map_cons, List.flatten_cons, List.length_append, List.length_cons, layG_len x (h x (by simp)), ih]
    omega
theorem LP.two {w : World} {B : Nat} {u v : Value} {X Y : List Int} (h : Ow w B u X) (k : Ow w B v Y) (hB : B ≤ w.heap.size) : LP (w.alloc (.cells #[u, v] 22)) B (.slice (some ⟨w.heap.size, 0, none⟩) 2 2) [X, Y] := by
  refine ⟨[u, v], ⟨rfl, .inr ⟨w.heap.size, 2, #[u, v], rfl, hB, heap_alloc_new _ _, Nat.le_refl _, by unfold maxLen; omega, rfl, rfl⟩⟩, fun i hi => ?_⟩
  rcases (show i = 0 ∨ i = 1 by simp at hi; omega) with rfl | rfl
  · exact ⟨u, rfl, h.below (al_below _ _)⟩
  · exact ⟨v, rfl, k.below (al_below _ _)⟩
set_option maxHeartbeats 2000000 in
theorem put_any (z n : Int) (v : Value) (l : List Sg) (w : World) (h : GS w v l) (hl : l.length ≤ 90000) (hw : Fi.Wid w) :
    Calls Tryd.prog 15 #[.int .i64 z, .int .i64 n, v] w fun e w' => ∃ v', e = .returned (.tuple #[v', .int .i64 (bput z n l).2]) ∧ Ow w' w.heap.size v' (bput z n l).1 ∧ Below w.heap.size w w' := by
  obtain ⟨a, c, rfl, h2, h3, h4⟩ := h.shape
  have CK := check_any z n a l.length c w (by omega)
  have HS : Hid (GS w (.slice a l.length c) l) := h
  have HOK : Hid (∀ x ∈ l, x.ok) := h.ok
  have HBIG : Hid ((Fi.numB z :: Fi.numB n :: l.map layG).flatten.length ≤ 200000000000000) := by
    unfold Hid
    have h1 := lays_len l h.ok
    have h2 := numB_len8 z
    have h5 := numB_len8 n
    rw [List.flatten_cons, List.flatten_cons, List.length_append, List.length_append]
    omega
  have HW : Hid (Fi.Wid w) := hw
  have HM : Hid (bput z n l = if chk z n l.length ≠ 0 then ([], chk z n l.length) else (layL z n l, 0)) := rfl
  have HY : Hid (layL z n l = (Fi.numB z :: Fi.numB n :: l.map layG).flatten) := by unfold Hid layL; simp
  obtain ⟨L, hn'⟩ : ∃ L, L = l.length := ⟨_, rfl⟩
  have HN : Hid (L = l.length) := hn'
  have CNN : Hid (∀ W k, Below w.heap.size w W → Calls Tryd.prog 33 #[.int .i64 k] W fun r w' => ∃ v, r = .returned v ∧ Ow w' W.heap.size v (Fi.numB k) ∧ Below W.heap.size W w') := fun W k hb => fnum_own k W (hw.below hb hw.pos)
  rw [← hn'] at HS h2 hl CK HM ⊢
  clear h h3 h4 hn' hw
  generalize bput z n l = R at *
  generalize chk z n L = k at *
  generalize layL z n l = Y at *
  go_enter Tryd.func15, Tryd.ntmps15
  go_wp2_with fail
  refine CK.mono ?_
  rintro e w1 ⟨rfl, hq⟩
  replace hq := hq.symm
  subst hq
  clear CK
  by_cases hk : k = 0
  · subst hk
    obtain rfl : R = (Y, 0) := by have := HM.out; simpa using this
    clear HM
    have cn := CNN.out w z (Below.refl _ _)
    go_wp2_with fail
    refine cn.mono ?_
    rintro e w1 ⟨v1, rfl, o1, b1⟩
    clear cn
    have B1 : Hid (Below w.heap.size w w1) := b1
    have O1 : Hid (Ow w1 w.heap.size v1 (Fi.numB z)) := o1
    obtain ⟨za, zc, rfl⟩ := o1.shape
    have cn := CNN.out w1 n b1
    clear o1 b1 CNN
    obtain ⟨nz, hnz⟩ : ∃ nz, nz = (Fi.numB z).length := ⟨_, rfl⟩
    rw [← hnz] at O1 ⊢
    clear hnz
    go_wp2_with fail
    refine cn.mono ?_
    rintro e w2 ⟨v2, rfl, o2, b2⟩
    clear cn
    have B2 : Hid (Below w.heap.size w w2) := B1.out.trans (b2.mono B1.out.size)
    have L3 := LP.two (O1.out.below b2) (o2.mono B1.out.size) B2.out.size
    obtain ⟨W3, hW3⟩ : ∃ W3, W3 = w2.alloc (.cells #[.slice za nz zc, v2] 22) := ⟨_, rfl⟩
    rw [← hW3] at L3
    have B3 : Hid (Below w.heap.size w W3) := by unfold Hid; rw [hW3]; exact B2.out.trans ((al_below _ _).mono B2.out.size)
    obtain ⟨na, nc, rfl⟩ := o2.shape
    have HL3 : Hid (LP W3 w.heap.size (.slice (some ⟨w2.heap.size, 0, none⟩) 2 2) (Fi.numB z :: Fi.numB n :: (l.take 0).map layG)) := L3
    have hw3 : w2.alloc (.cells #[.slice za nz zc, .slice na (Fi.numB n).length nc] 22) = W3 := hW3.symm
    clear o2 b2 L3 hW3 B1 B2 O1
    go_wp2_with fail
    try rw [hw3]
    clear hw3
    go_loopw [9, 26] (fun s q wr => ∃ j : Nat, j ≤ L ∧ q = .int .i64 j ∧ LP wr w.heap.size s (Fi.numB z :: Fi.numB n :: (l.take j).map layG) ∧ Below w.heap.size w wr) (fun _ q _ => L - (intOf q).toNat)
    case atStart => exact ⟨0, by omega, rfl, HL3.out, B3.out⟩
    case round =>
      clear HL3 B3
      obtain ⟨j, hj, rfl, oe, bel⟩ := hrel
      have HB : Hid (Below w.heap.size w wr) := bel
      have HO : Hid (LP wr w.heap.size u9 (Fi.numB z :: Fi.numB n :: (l.take j).map layG)) := oe
      have hlj : (Fi.numB z :: Fi.numB n :: (l.take j).map layG).length = j + 2 := by rw [List.length_cons, List.length_cons, List.length_map, List.length_take, ← HN.out]; omega
      obtain ⟨va, vc, rfl, -⟩ := oe.parts (by rw [hlj]; omega)
      rw [hlj] at HO ⊢
      clear bel oe
      by_cases hlt : j < L
      · have lt2 : (j : Int) < (L : Int) := by omega
        obtain ⟨b, off, rfl, hr⟩ := (HS.out.kept HB.out).at j (by rw [← HN.out]; exact hlt)
        have hx : (atI l j).ok := Sg.at l HOK.out j
        have HT : Hid (Fi.numB z :: Fi.numB n :: (l.take (j + 1)).map layG = (Fi.numB z :: Fi.numB n :: (l.take j).map layG) ++ [layG (atI l j)]) := by unfold Hid; rw [takeI_at l j (by rw [← HN.out]; exact hlt)]; simp
        generalize atI l j = x at *
        have RN : Hid (wr.rangeAt b (off + j * 33) x.cells) := hr
        have HZ : Hid ((Tryd.prog.info? 57).map (·.size) = some x.cells.length) := sizeI.trans (by rw [Sg.len hx])
        have HI : Hid ((Tryd.prog.info? 57).map (·.size) = some x.cells.toArray.size) := Sg.info x hx
        have HE : Hid (izc.size = x.cells.toArray.size) := izc_size.trans (Sg.size x hx).symm
        obtain ⟨W1, hW1⟩ : ∃ W1, W1 = wr.alloc (.cells x.cells.toArray 57) := ⟨_, rfl⟩
        have b1 : Below wr.heap.size wr W1 := by rw [hW1]; exact al_below _ _
        have R1 : Hid (W1.rangeAt wr.heap.size 0 x.cells) := by unfold Hid; rw [hW1]; exact (IB.new wr x).range
        have B1 : Hid (Below w.heap.size w W1) := HB.out.trans (b1.mono HB.out.size)
        have CO := lay_any x W1 hx
        have O1 : Hid (LP W1 w.heap.size (.slice va (j + 2) vc) (Fi.numB z :: Fi.numB n :: (l.take j).map layG)) := HO.out.below b1
        have e1 := alloc_it wr x
        rw [← hW1] at e1
        have HE1 : Hid ((wr.alloc (.cells #[.int .u32 0, .int .u8 0, .int .u8 0, .int .u8 0, .int .u8 0, .int .u8 0, .int .u8 0, .int .u8 0, .int .u8 0, .int .u8 0, .int .u8 0, .int .u8 0, .int .u8 0, .int .u8 0, .int .u8 0, .int .u8 0, .int .u8 0, .int .u8 0, .int .u8 0, .int .u8 0, .int .u8 0, .int .u8 0, .int .u8 0, .int .u8 0, .int .u8 0, .int .u8 0, .int .u8 0, .int .u8 0, .int .u8 0, .int .u8 0, .int .u8 0, .int .u8 0, .int .u8 0] 57)).setRow wr.heap.size x.cells.toArray = W1) := e1
        have H1 : Hid (∀ v ∈ x.cells, v.oneCell' = true) := Sg.one x
        clear b1 HO hr hx e1 hW1
        generalize Fi.numB z :: Fi.numB n :: (l.take j).map layG = LL at *
        have HJ : Hid (LL.length = j + 2) := hlj
        clear hlj
        unfold Sg.val at CO
        generalize layG x = X at *
        generalize x.cells = cs at *
        go_wp2_with (refine wpList_load_mid rfl 57 _ rfl b (off + j * 33) rfl cs _ RN.out Tryd.underlying57 rfl HZ.out (Hid.out ?_))
        unfold Hid
        go_wp2_with (refine wpList_store_row rfl 57 _ _ rfl wr.heap.size cs.toArray rfl rfl 57 izc (new_it wr) HI.out HE.out (all_oneCell_toArray H1.out) (Hid.out ?_))
        unfold Hid
        rw [HE1.out]
        go_wp2_with (refine wpList_load_mid rfl 57 _ rfl wr.heap.size 0 rfl cs _ R1.out Tryd.underlying57 rfl HZ.out (Hid.out ?_))
        unfold Hid
        go_wp2_with fail
        refine CO.mono ?_
        rintro e w2 ⟨u, rfl, o2, b2⟩
        clear CO
        obtain ⟨W3, hW3⟩ : ∃ W3, W3 = w2.alloc (.cells #[u] 22) := ⟨_, rfl⟩
        have b3 : Below w2.heap.size w2 W3 := by rw [hW3]; exact al_below _ _
        have b13 : Below W1.heap.size W1 W3 := b2.trans (b3.mono b2.size)
        have B3 : Hid (Below w.heap.size w W3) := B1.out.trans (b13.mono B1.out.size)
        have L3 : Hid (LP W3 w.heap.size (.slice va (j + 2) vc) LL) := O1.out.below b13
        have O3 : Hid (Ow W3 w.heap.size u X) := (o2.mono B1.out.size).below b3
        have K3 : Hid (W3.cell? ⟨w2.heap.size, 0, none⟩ = some u) := by unfold Hid; rw [hW3, World.cell?_alloc_at _ _ _ _ rfl]; rfl
        obtain ⟨ua, uc, rfl⟩ := o2.shape
        have HW3 : Hid (w2.alloc (.cells #[.slice ua X.length uc] 22) = W3) := hW3.symm
        clear o2 b2 b3 b13 O1 hW3
        generalize X.length = nx at *
        go_wp2_with (at_builtin; rw [HW3.out]; refine wpList_append_lp rfl _ _ rfl w.heap.size _ LL rfl L3.out w2.heap.size (.slice ua nx uc) X 1 O3.out rfl K3.out (by rw [HJ.out]; omega) B3.out.size (Hid.out ?_))
        unfold Hid
        intro v4 w4 r4 g4
        have B4 : Hid (Below w.heap.size w w4) := B3.out.trans g4
        have O4 : Hid (LP w4 w.heap.size v4 (Fi.numB z :: Fi.numB n :: (l.take (j + 1)).map layG)) := by
          unfold Hid
          rw [HT.out]
          exact r4
        clear r4 g4 L3 O3 K3
        go_wp2
        go_roundw
        case rel => exact ⟨j + 1, by omega, by go_num, O4.out, B4.out⟩
        case measure => simp [intOf]; omega
      · obtain rfl : j = L := by omega
        have h1 := HO.out
        have h2 : l.take j = l := by rw [HN.out, List.take_length]
        rw [h2] at h1
        obtain ⟨p, c', e, hP⟩ := h1.parts (by rw [List.length_cons, List.length_cons, List.length_map, ← HN.out]; omega)
        have cj := fjoin_any p c' _ wr hP HBIG.out
        rw [← HY.out] at cj
        have e2 : (Fi.numB z :: Fi.numB n :: l.map layG).length = j + 2 := by rw [List.length_cons, List.length_cons, List.length_map, ← HN.out]
        rw [e2] at cj e
        cases e
        clear h1 h2 hP e2 hlj
        go_wp2_with fail
        refine cj.mono ?_
        rintro e w5 ⟨v5, rfl, o5, b5⟩
        clear cj
        have OZ : Hid (Ow w5 w.heap.size v5 Y) := o5.mono HB.out.size
        have BZ : Hid (Below w.heap.size w w5) := HB.out.trans (b5.mono HB.out.size)
        obtain ⟨ja, jc, rfl⟩ := o5.shape
        clear o5 b5
        go_wp2
        go_ret2
        exact ⟨_, rfl, OZ.out, BZ.out⟩
  · obtain rfl : R = ([], k) := by have := HM.out; rwa [if_pos hk] at this
    have hk2 : (k != 0) = true := by simpa using hk
    go_wp2
    go_ret2
    exact ⟨_, rfl, ⟨World.ownsRow_nil _ _ _ _, fun k => by simp⟩, Below.refl _ _⟩
end Go.Proofs.YtjiefndjgkhcjaaDoor

namespace Go.Proofs.YtjiefndjgkhcjaaDoor
open Go.RowKit
set_option maxRecDepth 100000

/-- Four results. -/
theorem results_tmp4 {fn : Func} {t u v x : Tmp} (h : fn.results = #[.tmp t, .tmp u, .tmp v, .tmp x]) (tmps : Array Value) (P : Program) (w : World) :
    (results fn tmps).run P w = .ok (.tuple #[tmps.getD t undef, tmps.getD u undef, tmps.getD v undef, tmps.getD x undef]) w := by
  simp [results, h]
/-- So many sums are read, up to the first error. -/
def rds : Nat → List Int → Int → List Sg × List Int × Int
  | 0, xs, e => ([], xs, e)
  | j + 1, xs, e => if (rds j xs e).2.2 = 0 then ((rds j xs e).1 ++ [(tkG (rds j xs e).2.1 (rds j xs e).2.2).1], (tkG (rds j xs e).2.1 (rds j xs e).2.2).2.1, (tkG (rds j xs e).2.1 (rds j xs e).2.2).2.2) else rds j xs e
theorem rds_stay (xs : List Int) (e : Int) (j : Nat) (h : (rds j xs e).2.2 ≠ 0) : ∀ m, rds (j + m) xs e = rds j xs e
  | 0 => rfl
  | m + 1 => by
    have ih := rds_stay xs e j h m
    rw [← Nat.add_assoc, rds, ih, if_neg h]
theorem rds_len : ∀ (j : Nat) (xs : List Int) (e : Int), (rds j xs e).1.length ≤ j
  | 0, _, _ => Nat.le_refl _
  | j + 1, xs, e => by
    have ih := rds_len j xs e
    rw [rds]
    split
    · rw [List.length_append, List.length_singleton]; omega
    · omega
/-- The two numbers ahead. -/
def gz (b : List Int) : Int × List Int × Int := rN b 0 4096
def gn (b : List Int) : Int × List Int × Int := rN (gz b).2.1 (gz b).2.2 65536
def rdN (b : List Int) : Nat := (gn b).1.toNat / (gz b).1.toNat
def rdA (b : List Int) : List Sg := (rds (rdN b) (gn b).2.1 (gn b).2.2).1
/-- What is told of a file, read. -/
def bget (b : List Int) : Int × Int × List Sg × Int := if (bput (gz b).1 (gn b).1 (rdA b)).2 = 0 ∧ (bput (gz b).1 (gn b).1 (rdA b)).1 = b then ((gz b).1, (gn b).1, rdA b, 0) else (0, 0, [], 4)
theorem naN_le (xs : List Int) (m : Int) (hm : 0 ≤ m) : Fi.naN xs m ≤ m := by
  unfold Fi.naN
  split
  · rename_i h
    unfold Fi.naE at h
    split at h
    · split at h
      · assumption
      · omega
    · rename_i h2; exact absurd h h2
  · exact hm
theorem Rd.below {w w' : World} {g s B : Nat} {xs : List Int} {e : Int} (h : Fi.Rd w g s xs e) (hb : Below B w w') (hg : g < B) (hs : s < B) : Fi.Rd w' g s xs e := by
  obtain ⟨a, cap, c0, c1, f0, f1, l1, l2, r, n, k, b⟩ := h
  have fz : ∀ {p : Addr}, p.block < B → w'.frozen? p = w.frozen? p := fun hp => World.frozen?_of_block (hb.block _ hp)
  refine ⟨a, cap, (hb.cell (p := ⟨g, 0, none⟩) hg).trans c0, (hb.cell (p := ⟨g, 1, none⟩) hg).trans c1, (fz (p := ⟨g, 0, none⟩) hg).trans f0, (fz (p := ⟨g, 1, none⟩) hg).trans f1, l1, l2, ?_, n, k, b⟩
  rcases r with h | ⟨hp, b', off, rfl, hlc, hm, hc, hz⟩
  · exact .inl h
  · have := (b ⟨b', off, none⟩ rfl).2
    simp only at this
    exact .inr ⟨hp, b', off, rfl, hlc, hm, fun i hi => (hb.cell (p := ⟨b', off + i, none⟩) (by show b' < B; omega)).trans (hc i hi), hz⟩
theorem RI.but {w w' : World} {g B : Nat} {v : Value} {l : List Sg} (h : RI w B v l) (hb : Sh.But g w w') (hg : g < B) : RI w' B v l := by
  obtain ⟨⟨h1, h2⟩, hok⟩ := h
  refine ⟨⟨h1, ?_⟩, hok⟩
  rcases h2 with h2 | ⟨k, cap, cur, hv, hk, hh, r⟩
  · exact .inl h2
  · exact .inr ⟨k, cap, cur, hv, hk, (hb.block k (Array.getElem?_eq_some_iff.1 hh).1 (by omega)).trans hh, r⟩
theorem But.low {w w' : World} {g B : Nat} (h : Sh.But g w w') (hB : B ≤ g) (hw : B ≤ w.heap.size) : Below B w w' := Sh.But.below h hB hw
theorem But.of2 {w0 w w' : World} {g : Nat} (h : Sh.But g w0 w) (hb : Below w0.heap.size w w') : Sh.But g w0 w' := ⟨hb.os.trans h.os, hb.tape.trans h.tape, hb.output.trans h.output, Nat.le_trans h.size hb.size, fun k hk hn => (hb.block k hk).trans (h.block k hk hn)⟩
theorem rN_lt (xs : List Int) (e : Int) (m : Nat) (hb : Bt xs) : 0 ≤ (rN xs e m).1 ∧ (rN xs e m).1 ≤ m := by
  refine ⟨(rN_bd xs e m hb).1, ?_⟩
  unfold rN
  split
  · exact naN_le xs m (by omega)
  · show (0 : Int) ≤ m
    omega
set_option maxHeartbeats 8000000 in
theorem get_any (v : Value) (b : List Int) (w : World) (h : Sl w v b) (hl : b.length ≤ 1000000) (hw : Fi.Wid w) :
    Calls Tryd.prog 17 #[v] w fun e w' => ∃ v', e = .returned (.tuple #[.int .i64 (bget b).1, .int .i64 (bget b).2.1, v', .int .i64 (bget b).2.2.2]) ∧ RI w' w.heap.size v' (bget b).2.2.1 ∧ Below w.heap.size w w' := by
  have C1 := Fi.new_any v b w hw (fsl h) (by omega)
  have HW : Hid (Fi.Wid w) := hw
  have HS : Hid (Sl w v b) := h
  have H3 : Hid (1 < w.heap.size) := hw.pos
  have HG : Hid (bget b = if (bput (gz b).1 (gn b).1 (rdA b)).2 = 0 ∧ (bput (gz b).1 (gn b).1 (rdA b)).1 = b then ((gz b).1, (gn b).1, rdA b, 0) else (0, 0, [], 4)) := rfl
  have HA : Hid (rdA b = (rds ((gn b).1.toNat / (gz b).1.toNat) (gn b).2.1 (gn b).2.2).1) := rfl
  have HB0 : Bt b := h.bytes
  have z1 := rN_lt b 0 4096 HB0
  have HB1 : Bt (gz b).2.1 := rN_bt b 0 4096 HB0
  have n1 := rN_lt (gz b).2.1 (gz b).2.2 65536 HB1
  have HB2 : Hid (Bt (gn b).2.1) := rN_bt (gz b).2.1 (gz b).2.2 65536 HB1
  have HZQ : Hid (rN b 0 4096 = gz b) := rfl
  have HNQ : Hid (rN (gz b).2.1 (gz b).2.2 65536 = gn b) := rfl
  have z2 : 0 ≤ (gz b).1 ∧ (gz b).1 ≤ 4096 := z1
  have n2 : 0 ≤ (gn b).1 ∧ (gn b).1 ≤ 65536 := n1
  obtain ⟨va, vc, rfl, -⟩ := id h
  clear h hw HB0 HB1 z1 n1
  generalize bget b = R at *
  obtain ⟨nb, hnb⟩ : ∃ nb, nb = b.length := ⟨_, rfl⟩
  rw [← hnb] at HS C1 hl ⊢
  clear hnb
  go_enter Tryd.func17, Tryd.ntmps17
  go_wp2_with fail
  refine C1.mono ?_
  rintro e w1 ⟨g, s, rfl, hg1, hg2, hs, rd1, b1⟩
  clear C1
  have C2 := rdNum g s b 0 4096 w1 (HW.out.below b1 HW.out.pos) rd1
  rw [HZQ.out] at C2
  have HB1 : Hid (Below w.heap.size w w1) := b1
  have HGS : Hid (1 < g ∧ g < w1.heap.size ∧ s < w1.heap.size ∧ w.heap.size ≤ g) := ⟨by have := H3.out; omega, hg2, by rcases hs with h | h <;> omega, hg1⟩
  clear rd1 b1 hg1 hg2 hs HZQ
  generalize gz b = qz at *
  obtain ⟨zz, zx, ze⟩ := qz
  simp only at C2 HA HG z2 HNQ
  go_wp2_with fail
  refine C2.mono ?_
  rintro e w2 ⟨rfl, rd2, of2⟩
  clear C2
  have HB2' : Hid (Below w.heap.size w w2) := HB1.out.trans (of2.below HGS.out.2.2.2)
  have HGT : Hid (1 < g ∧ g < w2.heap.size ∧ s < w2.heap.size ∧ w.heap.size ≤ g) := by unfold Hid; rw [of2.size]; exact HGS.out
  have C3 := rdNum g s zx ze 65536 w2 (HW.out.below HB2'.out HW.out.pos) rd2
  rw [HNQ.out] at C3
  clear rd2 of2 HB1 HGS HNQ
  generalize gn b = qn at *
  obtain ⟨nn, nx, ne⟩ := qn
  simp only at C3 HA HG n2 HB2
  go_wp2_with fail
  refine C3.mono ?_
  rintro e w3 ⟨rfl, rd3, of3⟩
  clear C3
  have HB3 : Hid (Below w.heap.size w w3) := HB2'.out.trans (of3.below HGT.out.2.2.2)
  have HG3 : Hid (1 < g ∧ g < w3.heap.size ∧ s < w3.heap.size ∧ w.heap.size ≤ g) := by unfold Hid; rw [of3.size]; exact HGT.out
  have RD3 : Hid (Fi.Rd w3 g s nx ne) := rd3
  obtain ⟨zn, rfl⟩ : ∃ k : Nat, zz = k := ⟨zz.toNat, by omega⟩
  obtain ⟨nk, rfl⟩ : ∃ k : Nat, nn = k := ⟨nn.toNat, by omega⟩
  have CC := count_any zn nk w3 (by omega) (by omega)
  rw [Int.toNat_natCast, Int.toNat_natCast] at HA
  have hNk : nk / zn ≤ nk := Nat.div_le_self nk zn
  clear rd3 of3 HB2' HGT
  generalize nk / zn = N at *
  have hN : N ≤ 65536 := by omega
  go_wp2_with fail
  refine CC.mono ?_
  rintro e w5 ⟨rfl, hq5⟩
  replace hq5 := hq5.symm
  subst hq5
  clear CC
  go_wp2
  go_loopw [4, 17] (fun s' q wr => ∃ j : Nat, j ≤ N ∧ q = .int .i64 j ∧ RI wr w3.heap.size s' (rds j nx ne).1 ∧ Fi.Rd wr g s (rds j nx ne).2.1 (rds j nx ne).2.2 ∧ Sh.But g w3 wr) (fun _ q _ => N - (intOf q).toNat)
  case atStart => exact ⟨0, by omega, rfl, RI.nil _ _, RD3.out, Sh.But.refl _ _⟩
  case round =>
    clear RD3
    obtain ⟨j, hj, rfl, ri, rd, bt⟩ := hrel
    have HO : Hid (RI wr w3.heap.size u4 (rds j nx ne).1) := ri
    have BT : Hid (Sh.But g w3 wr) := bt
    have hlj := rds_len j nx ne
    obtain ⟨ia, ic, rfl, _, _, _⟩ := ri.is.shape
    have hbw : Below w.heap.size w wr := HB3.out.trans (But.low bt HG3.out.2.2.2 HB3.out.size)
    have HBW : Hid (Below w.heap.size w wr) := hbw
    clear ri bt
    by_cases hlt : j < N
    · have lt2 : (j : Int) < (N : Int) := by omega
      have CE := Fi.err_any g s _ _ wr rd
      by_cases hpe : (rds j nx ne).2.2 = 0
      · have CT := take_any g s _ _ wr rd (Nat.lt_of_lt_of_le HG3.out.2.2.1 BT.out.size)
        have HR : Hid (rds (j + 1) nx ne = ((rds j nx ne).1 ++ [(tkG (rds j nx ne).2.1 (rds j nx ne).2.2).1], (tkG (rds j nx ne).2.1 (rds j nx ne).2.2).2.1, (tkG (rds j nx ne).2.1 (rds j nx ne).2.2).2.2)) := by unfold Hid; rw [rds, if_pos hpe]
        have HYO : Hid (Sg.ok (tkG (rds j nx ne).2.1 (rds j nx ne).2.2).1) := tkG_ok _ _ rd.bytes
        have HLJ : Hid ((rds j nx ne).1.length ≤ j) := hlj
        rw [hpe] at CE
        clear rd hbw hpe hlj
        generalize tkG (rds j nx ne).2.1 (rds j nx ne).2.2 = T at *
        obtain ⟨y, ty, te⟩ := T
        simp only at CT HR HYO
        generalize (rds j nx ne).1 = LL at *
        obtain ⟨nl, hnl⟩ : ∃ nl, nl = LL.length := ⟨_, rfl⟩
        rw [← hnl] at HO HLJ ⊢
        have HNL : Hid (nl = LL.length) := hnl
        clear hnl
        unfold Sg.val at CT
        go_wp2_with fail
        refine CE.mono ?_
        rintro e w6 ⟨rfl, hq6⟩
        replace hq6 := hq6.symm
        subst hq6
        clear CE
        go_wp2_with fail
        refine CT.mono ?_
        rintro e w4 ⟨rfl, rd4, bt4⟩
        clear CT
        obtain ⟨W5, hW5⟩ : ∃ W5, W5 = w4.alloc (.cells y.cells.toArray 57) := ⟨_, rfl⟩
        have b5 : Below w4.heap.size w4 W5 := by rw [hW5]; exact al_below _ _
        have R5 : Hid (RI W5 w3.heap.size (.slice ia nl ic) LL) := (HO.out.but bt4 HG3.out.2.1).below b5
        have K5 : Hid (W5.rangeAt w4.heap.size 0 y.cells) := by unfold Hid; rw [hW5]; exact (IB.new w4 y).range
        have D5 : Hid (Fi.Rd W5 g s ty te) := rd4.kept b5
        have B5 : Hid (Sh.But g w3 W5) := But.keep (BT.out.trans bt4) b5
        clear rd4 bt4 b5 HO BT
        go_wp2_with (refine wpList_bsI rfl _ rfl y HYO.out rfl (Hid.out ?_))
        unfold Hid
        rw [← hW5]
        clear hW5
        go_wp2_with (at_builtin; refine wpList_append_it rfl _ _ rfl w3.heap.size _ LL rfl R5.out w4.heap.size y 1 HYO.out rfl K5.out (by rw [← HNL.out]; have := HLJ.out; omega) B5.out.size (Hid.out ?_))
        unfold Hid
        intro v6 w6 r6 g6
        have b6 : Below w3.heap.size W5 w6 := (Below.refl w3.heap.size W5).grown g6 B5.out.size (own_base R5.out.1)
        have O6 : Hid (RI w6 w3.heap.size v6 (rds (j + 1) nx ne).1) := by unfold Hid; rw [HR.out]; exact r6
        have D6 : Hid (Fi.Rd w6 g s (rds (j + 1) nx ne).2.1 (rds (j + 1) nx ne).2.2) := by unfold Hid; rw [HR.out]; exact Rd.below D5.out b6 HG3.out.2.1 HG3.out.2.2.1
        have B6 : Hid (Sh.But g w3 w6) := But.of2 B5.out b6
        clear r6 g6 b6 R5 K5 D5 B5 HR
        go_wp2
        go_roundw
        case rel => exact ⟨j + 1, by omega, by go_num, O6.out, D6.out, B6.out⟩
        case measure => simp [intOf]; omega
      · have hst : rds N nx ne = rds j nx ne := by
          have := rds_stay nx ne j hpe (N - j)
          rwa [show j + (N - j) = N by omega] at this
        rw [hst] at HA
        have hp2 : ((rds j nx ne).2.2 != 0) = true := by simpa using hpe
        clear hst rd hpe
        generalize (rds j nx ne).2.2 = ee at *
        go_wp2_with fail
        refine CE.mono ?_
        rintro e w6 ⟨rfl, hq6⟩
        replace hq6 := hq6.symm
        subst hq6
        clear CE
        rw [← HA.out] at HO hlj ⊢
        have CP := put_any (zn : Int) (nk : Int) (.slice ia (rdA b).length ic) (rdA b) wr HO.out.is (by omega) (HW.out.below HBW.out HW.out.pos)
        have HOW : Hid (RI wr w.heap.size (.slice ia (rdA b).length ic) (rdA b)) := HO.out.mono HB3.out.size
        clear hlj HA HO BT
        generalize rdA b = LL at *
        generalize bput (zn : Int) (nk : Int) LL = P at *
        obtain ⟨pb, pe⟩ := P
        simp only at CP HG
        obtain ⟨nl, hnl⟩ : ∃ nl, nl = LL.length := ⟨_, rfl⟩
        rw [← hnl] at CP HOW ⊢
        clear hnl
        go_wp2_with fail
        refine CP.mono ?_
        rintro e w7 ⟨v7, rfl, o7, b7⟩
        clear CP
        have B7 : Hid (Below w.heap.size w w7) := HBW.out.trans (b7.mono HBW.out.size)
        have R7 : Hid (RI w7 w.heap.size (.slice ia nl ic) LL) := HOW.out.below b7
        have CQ := equal_any v7 (.slice va nb vc) pb b w7 o7.sl (HS.out.kept B7.out)
        obtain ⟨pa, pc, rfl⟩ := o7.shape
        generalize pb.length = np at *
        clear o7 b7 HOW HBW hbw
        by_cases hpe0 : pe = 0
        · subst hpe0
          have HG2 : Hid (R = if pb = b then ((zn : Int), (nk : Int), LL, 0) else (0, 0, [], 4)) := by unfold Hid; have := HG.out; simpa using this
          clear HG
          go_wp2_with fail
          refine CQ.mono ?_
          rintro e w8 ⟨rfl, hq⟩
          replace hq := hq.symm
          subst hq
          clear CQ
          by_cases hq : pb = b
          · have HRE : Hid (R = ((zn : Int), (nk : Int), LL, 0)) := by unfold Hid; have := HG2.out; rwa [if_pos hq] at this
            have t1 : decide (pb = b) = true := by simp [hq]
            rw [t1]
            clear HG2 hq t1
            go_wp2
            ((try simp only [Exit.inBlock, Exit.then]); refine bodyPost_ret (results_tmp4 rfl _ _ _) rfl ?_)
            exact ⟨.slice ia nl ic, by rw [HRE.out]; rfl, by rw [HRE.out]; exact R7.out, B7.out⟩
          · have HRE : Hid (R = (0, 0, [], 4)) := by unfold Hid; have := HG2.out; rwa [if_neg hq] at this
            have t1 : decide (pb = b) = false := by simp [hq]
            rw [t1]
            clear HG2 hq t1
            go_wp2
            ((try simp only [Exit.inBlock, Exit.then]); refine bodyPost_ret (results_tmp4 rfl _ _ _) rfl ?_)
            exact ⟨.slice none 0 0, by rw [HRE.out]; rfl, by rw [HRE.out]; exact RI.nil _ _, B7.out⟩
        · have HRE : Hid (R = (0, 0, [], 4)) := by unfold Hid; have := HG.out; rwa [if_neg (fun h => hpe0 h.1)] at this
          have t0 : (pe != 0) = true := by simpa using hpe0
          clear HG CQ
          go_wp2
          ((try simp only [Exit.inBlock, Exit.then]); refine bodyPost_ret (results_tmp4 rfl _ _ _) rfl ?_)
          exact ⟨.slice none 0 0, by rw [HRE.out]; rfl, by rw [HRE.out]; exact RI.nil _ _, B7.out⟩
    · obtain rfl : j = N := by omega
      clear rd
      rw [← HA.out] at HO hlj ⊢
      have CP := put_any (zn : Int) (nk : Int) (.slice ia (rdA b).length ic) (rdA b) wr HO.out.is (by omega) (HW.out.below HBW.out HW.out.pos)
      have HOW : Hid (RI wr w.heap.size (.slice ia (rdA b).length ic) (rdA b)) := HO.out.mono HB3.out.size
      clear hlj HA HO BT
      generalize rdA b = LL at *
      generalize bput (zn : Int) (nk : Int) LL = P at *
      obtain ⟨pb, pe⟩ := P
      simp only at CP HG
      obtain ⟨nl, hnl⟩ : ∃ nl, nl = LL.length := ⟨_, rfl⟩
      rw [← hnl] at CP HOW ⊢
      clear hnl
      go_wp2_with fail
      refine CP.mono ?_
      rintro e w7 ⟨v7, rfl, o7, b7⟩
      clear CP
      have B7 : Hid (Below w.heap.size w w7) := HBW.out.trans (b7.mono HBW.out.size)
      have R7 : Hid (RI w7 w.heap.size (.slice ia nl ic) LL) := HOW.out.below b7
      have CQ := equal_any v7 (.slice va nb vc) pb b w7 o7.sl (HS.out.kept B7.out)
      obtain ⟨pa, pc, rfl⟩ := o7.shape
      generalize pb.length = np at *
      clear o7 b7 HOW HBW hbw
      by_cases hpe0 : pe = 0
      · subst hpe0
        have HG2 : Hid (R = if pb = b then ((zn : Int), (nk : Int), LL, 0) else (0, 0, [], 4)) := by unfold Hid; have := HG.out; simpa using this
        clear HG
        go_wp2_with fail
        refine CQ.mono ?_
        rintro e w8 ⟨rfl, hq⟩
        replace hq := hq.symm
        subst hq
        clear CQ
        by_cases hq : pb = b
        · have HRE : Hid (R = ((zn : Int), (nk : Int), LL, 0)) := by unfold Hid; have := HG2.out; rwa [if_pos hq] at this
          have t1 : decide (pb = b) = true := by simp [hq]
          rw [t1]
          clear HG2 hq t1
          go_wp2
          ((try simp only [Exit.inBlock, Exit.then]); refine bodyPost_ret (results_tmp4 rfl _ _ _) rfl ?_)
          exact ⟨.slice ia nl ic, by rw [HRE.out]; rfl, by rw [HRE.out]; exact R7.out, B7.out⟩
        · have HRE : Hid (R = (0, 0, [], 4)) := by unfold Hid; have := HG2.out; rwa [if_neg hq] at this
          have t1 : decide (pb = b) = false := by simp [hq]
          rw [t1]
          clear HG2 hq t1
          go_wp2
          ((try simp only [Exit.inBlock, Exit.then]); refine bodyPost_ret (results_tmp4 rfl _ _ _) rfl ?_)
          exact ⟨.slice none 0 0, by rw [HRE.out]; rfl, by rw [HRE.out]; exact RI.nil _ _, B7.out⟩
      · have HRE : Hid (R = (0, 0, [], 4)) := by unfold Hid; have := HG.out; rwa [if_neg (fun h => hpe0 h.1)] at this
        have t0 : (pe != 0) = true := by simpa using hpe0
        clear HG CQ
        go_wp2
        ((try simp only [Exit.inBlock, Exit.then]); refine bodyPost_ret (results_tmp4 rfl _ _ _) rfl ?_)
        exact ⟨.slice none 0 0, by rw [HRE.out]; rfl, by rw [HRE.out]; exact RI.nil _ _, B7.out⟩
end Go.Proofs.YtjiefndjgkhcjaaDoor

namespace Go.Proofs.YtjiefndjgkhcjaaDoor
open Go.RowKit
set_option maxRecDepth 100000

theorem lenOf_ne (n : Int) (h0 : 0 ≤ n) (h1 : n < 4611686018427387904) : Fi.lenOf n ≠ 0 := by
  have := Fi.size_len0 ⟨(List.replicate n.toNat (0 : UInt8)).toArray⟩ (by simp [ByteArray.size]; omega)
  have e : ((⟨(List.replicate n.toNat (0 : UInt8)).toArray⟩ : ByteArray).size : Int) = n := by simp [ByteArray.size]; omega
  rwa [e] at this
theorem rN_num (n m : Int) (ys : List Int) (h0 : 0 ≤ n) (h1 : n < 4611686018427387904) (hm : n ≤ m) : rN (Fi.numB n ++ ys) 0 m = (n, ys, 0) := by
  have hl := lenOf_ne n h0 h1
  obtain ⟨a, b, c⟩ := Fi.na_num n m ys hl hm
  unfold rN
  rw [if_pos rfl, a, b, c]
  have e : (Fi.lenOf n).toNat = (Fi.numB n).length := by have := Fi.numB_len n; omega
  rw [e, List.drop_left]
theorem rB_one (z : Int) (ys : List Int) : rB (z :: ys) 0 = (z, ys, 0) := by
  have h : (1 : Int) ≤ (ys.length : Int) + 1 := by omega
  unfold rB Fi.byV Fi.raN Fi.raE
  simp [h]
theorem rR_app (X ys : List Int) (n : Nat) (h : X.length = n) : rR (X ++ ys) 0 n = (X, ys, 0) := by
  have e1 : Fi.raE (X ++ ys) n = 0 := by unfold Fi.raE; rw [if_neg (by omega), if_neg (by rw [List.length_append]; omega)]
  have e2 : Fi.raN (X ++ ys) n = X.length := by unfold Fi.raN; rw [if_pos e1]; omega
  unfold rR
  rw [if_pos rfl, e1, e2, List.take_left, List.drop_left]
theorem ov32_self (X : List Int) (h : X.length = 32) : ov32 X = X := by
  unfold ov32
  rw [List.drop_of_length_le (by rw [z32_len]; omega), List.append_nil]
theorem rW_four (a b c d : Int) (ys : List Int) : rW 4 (a :: b :: c :: d :: ys) 0 = (((a * 256 + b) * 256 + c) * 256 + d, ys, 0) := by
  have h1 : rW 1 (a :: b :: c :: d :: ys) 0 = (a, b :: c :: d :: ys, 0) := by
    rw [rW, rW]; simp only [rB_one]; simp
  have h2 : rW 2 (a :: b :: c :: d :: ys) 0 = (a * 256 + b, c :: d :: ys, 0) := by
    rw [rW, h1]; simp only [rB_one]
  have h3 : rW 3 (a :: b :: c :: d :: ys) 0 = ((a * 256 + b) * 256 + c, d :: ys, 0) := by
    rw [rW, h2]; simp only [rB_one]
  rw [rW, h3]
  simp only [rB_one]
theorem be4_k (k : Int) (h0 : 0 ≤ k) (h1 : k < 4294967296) : ((k / 16777216 % 256 * 256 + k / 65536 % 256) * 256 + k / 256 % 256) * 256 + k % 256 = k := by omega
theorem tkG_lay (x : Sg) (h : x.ok) (ys : List Int) : tkG (layG x ++ ys) 0 = (x, ys, 0) := by
  have e : layG x ++ ys = (x.k / 16777216 % 256) :: (x.k / 65536 % 256) :: (x.k / 256 % 256) :: (x.k % 256) :: (x.s ++ ys) := by simp [layG, be4]
  have q := rR_app x.s ys 32 h.1
  unfold tkG
  rw [e, rW_four, be4_k x.k h.2.2.1 h.2.2.2]
  simp only
  rw [show (32 : Int) = ((32 : Nat) : Int) from rfl, q]
  simp only
  rw [ov32_self x.s h.1]
theorem drop_at (l : List Sg) (j : Nat) (hj : j < l.length) : l.drop j = atI l j :: l.drop (j + 1) := by
  rw [List.drop_eq_getElem_cons hj, atI_eq l j hj]
theorem rds_lay (l : List Sg) (ys : List Int) (hok : ∀ x ∈ l, x.ok) : ∀ j, j ≤ l.length → rds j ((l.map layG).flatten ++ ys) 0 = (l.take j, ((l.drop j).map layG).flatten ++ ys, 0)
  | 0, _ => by simp [rds]
  | j + 1, hj => by
    have ih := rds_lay l ys hok j (by omega)
    rw [rds, ih]
    simp only [if_true]
    rw [drop_at l j hj, List.map_cons, List.flatten_cons, List.append_assoc, tkG_lay _ (Sg.at l hok j)]
    simp only
    rw [takeI_at l j hj]
theorem chk_zero (z n : Int) (L : Nat) (h : chk z n L = 0) : 1 ≤ z ∧ z ≤ 4096 ∧ 0 ≤ n ∧ n ≤ 65536 ∧ L = n.toNat / z.toNat ∧ L ≤ 4096 := by
  unfold chk at h
  split at h
  · cases h
  · split at h
    · cases h
    · split at h
      · cases h
      · omega
theorem gz_lay (z n : Int) (l : List Sg) (ys : List Int) (h : chk z n l.length = 0) : gz (layL z n l ++ ys) = (z, Fi.numB n ++ ((l.map layG).flatten ++ ys), 0) := by
  obtain ⟨h1, h2, h3, h4, h5, h6⟩ := chk_zero z n _ h
  unfold gz layL
  rw [List.append_assoc, rN_num z 4096 _ (by omega) (by omega) (by omega), List.append_assoc]
theorem gn_lay (z n : Int) (l : List Sg) (ys : List Int) (h : chk z n l.length = 0) : gn (layL z n l ++ ys) = (n, (l.map layG).flatten ++ ys, 0) := by
  obtain ⟨h1, h2, h3, h4, h5, h6⟩ := chk_zero z n _ h
  unfold gn
  rw [gz_lay z n l ys h]
  exact rN_num n 65536 _ (by omega) (by omega) (by omega)
/-- What is laid is read as it was, whatever stands behind. -/
theorem rdA_lay (z n : Int) (l : List Sg) (ys : List Int) (hok : ∀ x ∈ l, x.ok) (h : chk z n l.length = 0) : rdA (layL z n l ++ ys) = l := by
  obtain ⟨h1, h2, h3, h4, h5, h6⟩ := chk_zero z n _ h
  unfold rdA rdN
  rw [gz_lay z n l ys h, gn_lay z n l ys h]
  simp only
  rw [← h5, rds_lay l ys hok _ (Nat.le_refl _), List.take_length]
theorem bput_ok (z n : Int) (l : List Sg) (h : chk z n l.length = 0) : bput z n l = (layL z n l, 0) := by unfold bput; rw [if_neg (by simpa using h)]
theorem bput_zero (z n : Int) (l : List Sg) (h : (bput z n l).2 = 0) : chk z n l.length = 0 := by
  unfold bput at h
  by_cases h1 : chk z n l.length = 0
  · exact h1
  · rw [if_pos h1] at h; exact h
theorem bget_lay (z n : Int) (l : List Sg) (hok : ∀ x ∈ l, x.ok) (h : chk z n l.length = 0) : bget (layL z n l) = (z, n, l, 0) := by
  have h1 := rdA_lay z n l [] hok h
  have h2 := gz_lay z n l [] h
  have h3 := gn_lay z n l [] h
  rw [List.append_nil] at h1 h2 h3
  unfold bget
  rw [h1, h2, h3]
  simp only
  rw [bput_ok z n l h, if_pos ⟨rfl, rfl⟩]
theorem bget_more (z n : Int) (l : List Sg) (c : Int) (hok : ∀ x ∈ l, x.ok) (h : chk z n l.length = 0) : bget (layL z n l ++ [c]) = (0, 0, [], 4) := by
  unfold bget
  rw [rdA_lay z n l [c] hok h, gz_lay z n l [c] h, gn_lay z n l [c] h]
  simp only
  rw [bput_ok z n l h, if_neg]
  rintro ⟨_, e⟩
  have := congrArg List.length e
  simp at this
theorem tkG_bt (xs : List Int) (e : Int) (h : Bt xs) : Bt (tkG xs e).2.1 := by
  unfold tkG
  exact rR_bt _ _ _ (rW_bd 4 xs e h).2.2
theorem rds_ok : ∀ (j : Nat) (xs : List Int) (e : Int), Bt xs → (∀ x ∈ (rds j xs e).1, x.ok) ∧ Bt (rds j xs e).2.1
  | 0, xs, e, h => ⟨fun x hx => by simp [rds] at hx, h⟩
  | j + 1, xs, e, h => by
    obtain ⟨h1, h2⟩ := rds_ok j xs e h
    rw [rds]
    split
    · refine ⟨fun x hx => ?_, tkG_bt _ _ h2⟩
      rcases List.mem_append.1 hx with h' | h'
      · exact h1 x h'
      · simp at h'; subst h'; exact tkG_ok _ _ h2
    · exact ⟨h1, h2⟩
theorem rdA_ok (b : List Int) (h : Bt b) : ∀ x ∈ rdA b, x.ok := (rds_ok _ _ _ (rN_bt _ _ 65536 (rN_bt b 0 4096 h))).1
theorem bget_cases (b : List Int) : (bget b = ((gz b).1, (gn b).1, rdA b, 0) ∧ bput (gz b).1 (gn b).1 (rdA b) = (b, 0)) ∨ bget b = (0, 0, [], 4) := by
  unfold bget
  by_cases h : (bput (gz b).1 (gn b).1 (rdA b)).2 = 0 ∧ (bput (gz b).1 (gn b).1 (rdA b)).1 = b
  · rw [if_pos h]
    left
    refine ⟨rfl, ?_⟩
    obtain ⟨h1, h2⟩ := h
    generalize bput (gz b).1 (gn b).1 (rdA b) = P at *
    obtain ⟨x, y⟩ := P
    simp only at h1 h2
    rw [h1, h2]
  · rw [if_neg h]; exact .inr rfl
/-- What is laid is told by the beginning of whatever it begins. -/
theorem lay_inj (z n z' n' : Int) (l l' : List Sg) (ys : List Int) (hok : ∀ x ∈ l, x.ok) (hok' : ∀ x ∈ l', x.ok) (h : chk z n l.length = 0) (h' : chk z' n' l'.length = 0) (e : layL z n l = layL z' n' l' ++ ys) : ys = [] := by
  have a1 := rdA_lay z n l [] hok h
  have a2 := gz_lay z n l [] h
  have a3 := gn_lay z n l [] h
  rw [List.append_nil, e, rdA_lay z' n' l' ys hok' h'] at a1
  rw [List.append_nil, e, gz_lay z' n' l' ys h'] at a2
  rw [List.append_nil, e, gn_lay z' n' l' ys h'] at a3
  obtain rfl : z' = z := congrArg Prod.fst a2
  obtain rfl : n' = n := congrArg Prod.fst a3
  subst a1
  have := congrArg List.length e
  rw [List.length_append] at this
  exact List.length_eq_zero_iff.1 (by omega)
theorem bget_less (z n : Int) (l : List Sg) (hok : ∀ x ∈ l, x.ok) (h : chk z n l.length = 0) (hb : Bt (layL z n l)) (hp : 0 < (layL z n l).length) : bget ((layL z n l).take ((layL z n l).length - 1)) = (0, 0, [], 4) := by
  have hbt : Bt ((layL z n l).take ((layL z n l).length - 1)) := bytes_take _ _ hb
  rcases bget_cases ((layL z n l).take ((layL z n l).length - 1)) with ⟨_, h2⟩ | h2
  · exfalso
    have hm := bput_zero _ _ _ (by rw [h2])
    rw [bput_ok _ _ _ hm] at h2
    have h3 := congrArg Prod.fst h2
    simp only at h3
    have e : layL z n l = layL (gz ((layL z n l).take ((layL z n l).length - 1))).1 (gn ((layL z n l).take ((layL z n l).length - 1))).1 (rdA ((layL z n l).take ((layL z n l).length - 1))) ++ (layL z n l).drop ((layL z n l).length - 1) := by
      rw [h3, List.take_append_drop]
    have h4 := lay_inj z n _ _ l _ _ hok (rdA_ok _ hbt) h hm e
    have := congrArg List.length h4
    rw [List.length_drop] at this
    simp at this
    omega
  · exact h2
theorem layL_two (z n : Int) (l : List Sg) (h : chk z n l.length = 0) : 2 ≤ (layL z n l).length := by
  obtain ⟨h1, h2, h3, h4, h5, h6⟩ := chk_zero z n _ h
  have a1 := Fi.numB_len z
  have a2 := lenOf_ne z (by omega) (by omega)
  have a3 := Fi.numB_len n
  have a4 := lenOf_ne n (by omega) (by omega)
  have b1 : (Fi.numB z).length ≠ 0 := fun e => a2 (by omega)
  have b2 : (Fi.numB n).length ≠ 0 := fun e => a4 (by omega)
  unfold layL
  rw [List.length_append, List.length_append]
  omega
theorem layL_len (z n : Int) (l : List Sg) (hok : ∀ x ∈ l, x.ok) : (layL z n l).length ≤ 16 + l.length * 36 := by
  have h1 := numB_len8 z
  have h2 := numB_len8 n
  have h3 := lays_len l hok
  unfold layL
  rw [List.length_append, List.length_append]
  omega
end Go.Proofs.YtjiefndjgkhcjaaDoor
