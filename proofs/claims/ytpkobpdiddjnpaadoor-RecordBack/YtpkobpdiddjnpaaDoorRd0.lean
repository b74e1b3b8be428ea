/-
  The reader's calls, at whatever error; what read makes of bytes.
-/
import Derived.Test.YtpkobpdiddjnpaaDoorLa
import Derived.Lib.BufferWrite
namespace Go.Proofs.YtpkobpdiddjnpaaDoor
open Go.RowKit
set_option maxRecDepth 100000

/-- What a reader answers: the value, what is left, the error. -/
def rT (xs : List Int) (e : Int) (m : Int) : List Int × List Int × Int := if e = 0 then (Fi.txS xs m, Fi.txR xs m, Fi.txE xs m) else ([], xs, e)
def rB (xs : List Int) (e : Int) : Int × List Int × Int := if e = 0 then (Fi.byV xs, xs.drop (Fi.raN xs 1), Fi.raE xs 1) else (0, xs, e)
def rN (xs : List Int) (e : Int) (m : Int) : Int × List Int × Int := if e = 0 then (Fi.naN xs m, xs.drop (Fi.naU xs m).toNat, Fi.naE xs m) else (0, xs, e)
def rR (xs : List Int) (e : Int) (n : Int) : List Int × List Int × Int := if e = 0 then (xs.take (Fi.raN xs n), xs.drop (Fi.raN xs n), Fi.raE xs n) else ([], xs, e)
theorem rdText (g s : Nat) (xs : List Int) (e m : Int) (w : World) (hw : Fi.Wid w) (h : Fi.Rd w g s xs e) :
    Calls Tryd.prog 76 #[.pointer (some ⟨g, 0, none⟩), .int .i64 m] w fun r w' => r = .returned (.string (Fi.strB (rT xs e m).1)) ∧ Fi.Rd w' g s (rT xs e m).2.1 (rT xs e m).2.2 ∧ Fi.Off g w w' := by
  unfold rT
  split
  · rename_i he
    subst he
    exact Fi.text_any g s xs m w hw h
  · rename_i he
    refine (Fi.text_stop g s xs e m w h he).mono ?_
    rintro r w' ⟨rfl, rfl⟩
    exact ⟨rfl, h, Fi.Off.refl _ _⟩
theorem rdByte (g s : Nat) (xs : List Int) (e : Int) (w : World) (h : Fi.Rd w g s xs e) :
    Calls Tryd.prog 74 #[.pointer (some ⟨g, 0, none⟩)] w fun r w' => r = .returned (.int .u8 (rB xs e).1) ∧ Fi.Rd w' g s (rB xs e).2.1 (rB xs e).2.2 ∧ Fi.Off g w w' := by
  unfold rB
  split
  · rename_i he
    subst he
    exact Fi.byte_any g s xs w h
  · rename_i he
    refine (Fi.byte_stop g s xs e w h he).mono ?_
    rintro r w' ⟨rfl, rfl⟩
    exact ⟨rfl, h, Fi.Off.refl _ _⟩
theorem rdNum (g s : Nat) (xs : List Int) (e m : Int) (w : World) (hw : Fi.Wid w) (h : Fi.Rd w g s xs e) :
    Calls Tryd.prog 75 #[.pointer (some ⟨g, 0, none⟩), .int .i64 m] w fun r w' => r = .returned (.int .i64 (rN xs e m).1) ∧ Fi.Rd w' g s (rN xs e m).2.1 (rN xs e m).2.2 ∧ Fi.Off g w w' := by
  unfold rN
  split
  · rename_i he
    subst he
    exact Fi.num_any g s xs m w hw h
  · rename_i he
    refine (Fi.num_stop g s xs e m w h he).mono ?_
    rintro r w' ⟨rfl, rfl⟩
    exact ⟨rfl, h, Fi.Off.refl _ _⟩
theorem rdRaw (g s : Nat) (xs : List Int) (e n : Int) (w : World) (h : Fi.Rd w g s xs e) :
    Calls Tryd.prog 77 #[.pointer (some ⟨g, 0, none⟩), .int .i64 n] w fun r w' => r = .returned (.string (Fi.strB (rR xs e n).1)) ∧ Fi.Rd w' g s (rR xs e n).2.1 (rR xs e n).2.2 ∧ Fi.Off g w w' := by
  unfold rR
  split
  · rename_i he
    subst he
    exact Fi.raw_any g s xs n w h
  · rename_i he
    refine (Fi.raw_stop g s xs e n w h he).mono ?_
    rintro r w' ⟨rfl, rfl⟩
    exact ⟨rfl, h, Fi.Off.refl _ _⟩
/-- A sum, of which the first bytes are given. -/
def ov32 (X : List Int) : List Int := X ++ z32.drop X.length
theorem ov32_len (X : List Int) (h : X.length ≤ 32) : (ov32 X).length = 32 := by unfold ov32; rw [List.length_append, List.length_drop, z32_len]; omega
theorem ov32_bytes (X : List Int) (hX : ∀ k, 0 ≤ X.getD k 0 ∧ X.getD k 0 < 256) : ∀ k, 0 ≤ (ov32 X).getD k 0 ∧ (ov32 X).getD k 0 < 256 := by
  intro k
  unfold ov32
  rcases Nat.lt_or_ge k X.length with h | h
  · have : (X ++ z32.drop X.length).getD k 0 = X.getD k 0 := by simp [List.getD, List.getElem?_append_left h]
    rw [this]; exact hX k
  · have : (X ++ z32.drop X.length).getD k 0 = z32.getD (X.length + (k - X.length)) 0 := by
      simp [List.getD, List.getElem?_append_right h, List.getElem?_drop]
    rw [this]; exact z32_bytes _
theorem strB_cells (X : List Int) (hX : ∀ k, 0 ≤ X.getD k 0 ∧ X.getD k 0 < 256) : Lib.byteCells (Fi.strB X).data.toList = X.map (Value.int .u8) := by
  unfold Lib.byteCells Fi.strB
  simp only [List.map_map]
  apply List.ext_getElem?
  intro i
  rw [List.getElem?_map, List.getElem?_map]
  rcases Nat.lt_or_ge i X.length with h | h
  · rw [List.getElem?_eq_getElem h]
    have := hX i
    simp only [List.getD, List.getElem?_eq_getElem h, Option.getD_some] at this
    simp only [Option.map_some, Function.comp_apply]
    congr 2
    rw [UInt8.toNat_ofNat']
    omega
  · rw [List.getElem?_eq_none h]; rfl
theorem wp_copy_str {P : Program} {w : World} {o : Oper} {a : Act} {K : Act → World → Prop} {Q : Exit → Act → World → Prop} (d s : Operand) (dT sT : TypeId)
    (ho : o.op = .call { callee := .builtin .copy, args := #[d, s], argTypes := #[dT, sT] }) (elem : TypeId) (hu : P.underlying dT = some (.slice elem)) (hsz : (P.info? elem).map (·.size) = some 1)
    (g off dLen dCap : Nat) (S : ByteArray) (hd : a.eval d = .slice (some ⟨g, off, none⟩) dLen dCap) (hs : a.eval s = .string S) (cur : Array Value) (t : TypeId) (hg : w.heap[g]? = some (.cells cur t (0, 0))) (hle : S.size ≤ dLen) (hfit : off + S.size ≤ cur.size)
    (h : K (a.put o.dst (goInt S.size)) (w.setRow g (cur.toList.take off ++ Lib.byteCells S.data.toList ++ cur.toList.drop (off + S.size)).toArray)) : o.wp P a w K Q := by
  have hrun := Lib.run_copy_row_string (P := P) w dT sT o.type elem g off dLen dCap S cur t hu hsz hg hle hfit
  unfold Oper.wp
  simp only [execOp, ho, resolve, invoke, builtin, Sem.run_bind, Sem.run_pure, List.map_toArray, List.map_cons, List.map_nil, hd, hs, hrun, Result.andThen_ok]
  exact h
theorem rN_bd (xs : List Int) (e m : Int) (hb : ∀ i, 0 ≤ xs.getD i 0 ∧ xs.getD i 0 < 256) : 0 ≤ (rN xs e m).1 ∧ (rN xs e m).1 < 4611686018427387904 := by
  unfold rN
  split
  · have := Fi.na_bd xs m hb
    exact ⟨this.1, this.2.1⟩
  · exact ⟨by show (0 : Int) ≤ 0; omega, by show (0 : Int) < 4611686018427387904; omega⟩
theorem rR_len (xs : List Int) (e : Int) (n : Nat) : (rR xs e n).1.length ≤ n := by
  unfold rR
  split
  · show (xs.take (Fi.raN xs n)).length ≤ n
    rw [List.length_take]
    unfold Fi.raN
    split <;> omega
  · simp
theorem take_bytes (xs : List Int) (m : Nat) (hx : ∀ i, 0 ≤ xs.getD i 0 ∧ xs.getD i 0 < 256) : ∀ i, 0 ≤ (xs.take m).getD i 0 ∧ (xs.take m).getD i 0 < 256 := by
  intro i
  rcases Nat.lt_or_ge i m with h | h
  · have : (xs.take m).getD i 0 = xs.getD i 0 := by simp [List.getD, h]
    rw [this]; exact hx i
  · have : (xs.take m).getD i 0 = 0 := by simp [List.getD, List.getElem?_take, show ¬ i < m by omega]
    rw [this]; omega
theorem rR_bytes (xs : List Int) (e n : Int) (hb : ∀ i, 0 ≤ xs.getD i 0 ∧ xs.getD i 0 < 256) : ∀ k, 0 ≤ (rR xs e n).1.getD k 0 ∧ (rR xs e n).1.getD k 0 < 256 := by
  unfold rR
  split
  · exact take_bytes xs _ hb
  · intro k; simp
/-- A record is read. -/
def rdR (X : List Int) : Rc :=
  let b := rB X 0
  let n := rN b.2.1 b.2.2 1099511627776
  if b.1 = 0 then
    let t := rT n.2.1 n.2.2 128
    let q := rR t.2.1 t.2.2 32
    let z := rN q.2.1 q.2.2 65536
    ⟨b.1, ⟨n.1, Fi.strB t.1, ov32 q.1, z.1, 0⟩⟩
  else if b.1 = 1 then
    let o := rN n.2.1 n.2.2 65536
    ⟨b.1, ⟨n.1, ⟨#[]⟩, z32, 0, o.1⟩⟩
  else ⟨b.1, ⟨n.1, ⟨#[]⟩, z32, 0, 0⟩⟩
/-- A reader of the call's own, beside the cell of the result. -/
structure RX (w0 : World) (g s : Nat) (X : List Int) (e : Int) (w : World) : Prop where
  rd : Fi.Rd w g s X e
  res : w.heap[w0.heap.size]? = some (.cells rzc 33 (0, 0))
  bel : Below w0.heap.size w0 w
  gt : w0.heap.size < g
  st : s ≠ w0.heap.size
  lt : g < w.heap.size
  sl : s < w.heap.size
  wid : Fi.Wid w
theorem RX.off {w0 w w' : World} {g s : Nat} {X Y : List Int} {e f : Int} (h : RX w0 g s X e w) (r : Fi.Rd w' g s Y f) (o : Fi.Off g w w') : RX w0 g s Y f w' :=
  ⟨r, (o.block _ (Nat.ne_of_lt h.gt)).trans h.res, h.bel.trans (o.below (B := w0.heap.size) (Nat.le_of_lt h.gt)), h.gt, h.st, by rw [o.size]; exact h.lt, by rw [o.size]; exact h.sl, h.wid.off o (by have := h.gt; omega)⟩
/-- And a record that is a variable. -/
structure RY (w0 : World) (g s : Nat) (X : List Int) (e : Int) (R : Nat) (x : Rc) (w : World) : Prop where
  rx : RX w0 g s X e w
  rcd : w.heap[R]? = some (.cells x.cells.toArray 33 (0, 0))
  gr : g < R
  sr : s ≠ R
theorem RY.off {w0 w w' : World} {g s R : Nat} {X Y : List Int} {e f : Int} {x : Rc} (h : RY w0 g s X e R x w) (r : Fi.Rd w' g s Y f) (o : Fi.Off g w w') : RY w0 g s Y f R x w' :=
  ⟨h.rx.off r o, (o.block _ (Nat.ne_of_gt h.gr)).trans h.rcd, h.gr, h.sr⟩
theorem RY.upd {w0 w w' : World} {g s R : Nat} {X : List Int} {e : Int} {x y : Rc} (h : RY w0 g s X e R x w) (hb : Fi.Off R w w') (hr : w'.heap[R]? = some (.cells y.cells.toArray 33 (0, 0))) : RY w0 g s X e R y w' := by
  have h1 := h.gr
  have h2 := h.rx.gt
  exact ⟨⟨h.rx.rd.off hb (by omega) h.sr, (hb.block _ (by omega)).trans h.rx.res, h.rx.bel.trans (hb.below (B := w0.heap.size) (by omega)), h2, h.rx.st, by rw [hb.size]; exact h.rx.lt, by rw [hb.size]; exact h.rx.sl, h.rx.wid.off hb (by omega)⟩, hr, h1, h.sr⟩
theorem RX.alloc {w0 w : World} {g s : Nat} {X : List Int} {e : Int} (h : RX w0 g s X e w) (x : Rc) : RY w0 g s X e w.heap.size x (w.alloc (.cells x.cells.toArray 33)) := by
  have b := al_below w (.cells x.cells.toArray 33)
  exact ⟨⟨h.rd.kept b, blk_kept h.res b (blk_lt h.res), h.bel.trans (b.mono (Nat.le_of_lt (Nat.lt_trans h.gt h.lt))), h.gt, h.st, Nat.lt_of_lt_of_le h.lt b.size, Nat.lt_of_lt_of_le h.sl b.size, h.wid.below b h.wid.pos⟩, heap_alloc_new _ _, h.lt, Nat.ne_of_lt h.sl⟩
theorem off_setCell (w : World) (g i : Nat) (v : Value) : Fi.Off g w (w.setCell ⟨g, i, none⟩ v) := Fi.Off.setCell g i w v
theorem off_setRow (w : World) (g : Nat) (cs : Array Value) : Fi.Off g w (w.setRow g cs) := ⟨rfl, rfl, rfl, by simp, fun j hj => setRow_other w g j cs hj⟩
theorem arr_set {cs ds : List Value} {i : Nat} {v : Value} (h : cs.set i v = ds) : cs.toArray.setIfInBounds i v = ds.toArray := by rw [← h]; simp
theorem rc_setP (x : Rc) (p : ByteArray) : x.cells.set 2 (.string p) = Rc.cells { x with x := { x.x with p := p } } := rfl
theorem rc_setN (x : Rc) (hl : x.x.s.length = 32) (n : Int) : x.cells.set 35 (.int .i64 n) = Rc.cells { x with x := { x.x with n := n } } := by
  unfold Rc.cells Pa.cells
  rw [List.set_cons_succ, List.set_cons_succ, List.set_cons_succ, List.set_append_right _ _ (by simp [hl])]
  simp [hl]
theorem rc_setO (x : Rc) (hl : x.x.s.length = 32) (n : Int) : x.cells.set 36 (.int .i64 n) = Rc.cells { x with x := { x.x with o := n } } := by
  unfold Rc.cells Pa.cells
  rw [List.set_cons_succ, List.set_cons_succ, List.set_cons_succ, List.set_append_right _ _ (by simp [hl])]
  simp [hl]
theorem RY.set {w0 w : World} {g s R : Nat} {X : List Int} {e : Int} {x y : Rc} (h : RY w0 g s X e R x w) (i : Nat) (v : Value) (hs : x.cells.set i v = y.cells) : RY w0 g s X e R y (w.setCell ⟨R, i, none⟩ v) := by
  refine h.upd (off_setCell _ _ _ _) ?_
  have h1 := h.rcd
  rw [heap_setCell_same _ _ _ _ _ _ h1, arr_set hs]
/-- The cells of a record whose sum is laid over. -/
theorem over_rc (x : Rc) (hz : x.x.s = z32) (S : List Int) (hX : ∀ k, 0 ≤ S.getD k 0 ∧ S.getD k 0 < 256) (hl : S.length ≤ 32) :
    (x.cells.toArray.toList.take 3 ++ Lib.byteCells (Fi.strB S).data.toList ++ x.cells.toArray.toList.drop (3 + S.length)) = Rc.cells { x with x := { x.x with s := ov32 S } } := by
  rw [strB_cells S hX]
  unfold Rc.cells Pa.cells ov32
  rw [hz, show 3 + S.length = S.length + 3 by omega]
  have e : (z32.map (Value.int .u8) ++ [Value.int .i64 x.x.n, .int .i64 x.x.o]).drop S.length = (z32.drop S.length).map (Value.int .u8) ++ [Value.int .i64 x.x.n, .int .i64 x.x.o] := by
    rw [List.drop_append_of_le_length (by rw [List.length_map, z32_len]; exact hl), List.map_drop]
  simp [List.drop_succ_cons, e]
end Go.Proofs.YtpkobpdiddjnpaaDoor
