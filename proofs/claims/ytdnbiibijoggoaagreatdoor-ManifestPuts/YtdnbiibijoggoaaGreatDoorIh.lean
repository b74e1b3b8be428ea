/-
  Texts on Tr, Tk, Ge, Bk, in one.
-/
import Derived.Test.YtdnbiibijoggoaaGreatDoorIc
import Derived.Test.YtdnbiibijoggoaaGreatDoorIa
import Derived.Lib.BufferWrite
import Derived.Test.YtdnbiibijoggoaaGreatDoorIg
import Derived.Test.YtdnbiibijoggoaaGreatDoorTe
import Derived.Test.YtdnbiibijoggoaaGreatDoorIe
namespace Go.Proofs.YtdnbiibijoggoaaGreatDoor
open Go.RowKit
set_option maxRecDepth 100000

/-- What a reader answers: the value, what is left, the error. -/
def rT (xs : List Int) (e : Int) (m : Int) : List Int × List Int × Int := if e = 0 then (Fi.txS xs m, Fi.txR xs m, Fi.txE xs m) else ([], xs, e)
def rB (xs : List Int) (e : Int) : Int × List Int × Int := if e = 0 then (Fi.byV xs, xs.drop (Fi.raN xs 1), Fi.raE xs 1) else (0, xs, e)
def rN (xs : List Int) (e : Int) (m : Int) : Int × List Int × Int := if e = 0 then (Fi.naN xs m, xs.drop (Fi.naU xs m).toNat, Fi.naE xs m) else (0, xs, e)
def rR (xs : List Int) (e : Int) (n : Int) : List Int × List Int × Int := if e = 0 then (xs.take (Fi.raN xs n), xs.drop (Fi.raN xs n), Fi.raE xs n) else ([], xs, e)
theorem Off.but {g : Nat} {w w' : World} (h : Fi.Off g w w') : Sh.But g w w' := ⟨h.os, h.tape, h.output, Nat.le_of_eq h.size.symm, fun k _ hn => h.block k hn⟩
theorem rdText (g s : Nat) (xs : List Int) (e m : Int) (w : World) (hw : Fi.Wid w) (h : Fi.Rd w g s xs e) :
    Calls Tryz.prog 65 #[.pointer (some ⟨g, 0, none⟩), .int .i64 m] w fun r w' => r = .returned (.string (Fi.strB (rT xs e m).1)) ∧ Fi.Rd w' g s (rT xs e m).2.1 (rT xs e m).2.2 ∧ Fi.Off g w w' := by
  unfold rT
  split
  · rename_i he
    subst he
    exact Fi.text_any g s xs m w hw h
  · rename_i he
    refine (Fi.text_stop g s xs e m w h he).mono ?_
    rintro r w' ⟨rfl, rfl⟩
    exact ⟨rfl, h, Fi.Off.refl _ _⟩
theorem rdByte (g s : Nat) (xs : List Int) (e : Int) (w : World) (h : Fi.Rd w g s xs e) :
    Calls Tryz.prog 66 #[.pointer (some ⟨g, 0, none⟩)] w fun r w' => r = .returned (.int .u8 (rB xs e).1) ∧ Fi.Rd w' g s (rB xs e).2.1 (rB xs e).2.2 ∧ Fi.Off g w w' := by
  unfold rB
  split
  · rename_i he
    subst he
    exact Fi.byte_any g s xs w h
  · rename_i he
    refine (Fi.byte_stop g s xs e w h he).mono ?_
    rintro r w' ⟨rfl, rfl⟩
    exact ⟨rfl, h, Fi.Off.refl _ _⟩
theorem rdNum (g s : Nat) (xs : List Int) (e m : Int) (w : World) (hw : Fi.Wid w) (h : Fi.Rd w g s xs e) :
    Calls Tryz.prog 42 #[.pointer (some ⟨g, 0, none⟩), .int .i64 m] w fun r w' => r = .returned (.int .i64 (rN xs e m).1) ∧ Fi.Rd w' g s (rN xs e m).2.1 (rN xs e m).2.2 ∧ Fi.Off g w w' := by
  unfold rN
  split
  · rename_i he
    subst he
    exact Fi.num_any g s xs m w hw h
  · rename_i he
    refine (Fi.num_stop g s xs e m w h he).mono ?_
    rintro r w' ⟨rfl, rfl⟩
    exact ⟨rfl, h, Fi.Off.refl _ _⟩
theorem rdRaw (g s : Nat) (xs : List Int) (e n : Int) (w : World) (h : Fi.Rd w g s xs e) :
    Calls Tryz.prog 67 #[.pointer (some ⟨g, 0, none⟩), .int .i64 n] w fun r w' => r = .returned (.string (Fi.strB (rR xs e n).1)) ∧ Fi.Rd w' g s (rR xs e n).2.1 (rR xs e n).2.2 ∧ Fi.Off g w w' := by
  unfold rR
  split
  · rename_i he
    subst he
    exact Fi.raw_any g s xs n w h
  · rename_i he
    refine (Fi.raw_stop g s xs e n w h he).mono ?_
    rintro r w' ⟨rfl, rfl⟩
    exact ⟨rfl, h, Fi.Off.refl _ _⟩
theorem Rd.setRow {w : World} {g s k : Nat} {xs : List Int} {e : Int} (h : Fi.Rd w g s xs e) (hg : k ≠ g) (hs : k ≠ s) (cs : Array Value) : Fi.Rd (w.setRow k cs) g s xs e := by
  have hb : Fi.Off k w (w.setRow k cs) := ⟨rfl, rfl, rfl, by simp, fun j hj => setRow_other w k j cs hj⟩
  exact h.off hb (fun e => hg e.symm) (fun e => hs e.symm)
theorem Rd.lt {w : World} {g s : Nat} {xs : List Int} {e : Int} (h : Fi.Rd w g s xs e) : g < w.heap.size := by
  obtain ⟨a, cap, c0, _⟩ := h
  exact World.block_lt_of_cell? _ _ c0
theorem But.setRow {w w' : World} {g k : Nat} (h : Sh.But g w w') (hk : w.heap.size ≤ k) (cs : Array Value) : Sh.But g w (w'.setRow k cs) :=
  ⟨h.os, h.tape, h.output, by rw [setRow_size]; exact h.size, fun j hj hn => by rw [setRow_other w' k j cs (by omega)]; exact h.block j hj hn⟩
theorem But.keep {w w' u : World} {g : Nat} (h : Sh.But g w w') (hb : Below w'.heap.size w' u) : Sh.But g w u := h.trans (Sh.But.of hb)
theorem wid_but {w w' : World} {g : Nat} (h : Fi.Wid w) (hb : Sh.But g w w') (hg : 3 ≤ g) : Fi.Wid w' := by
  have hs := h.pos
  have : Below (min g w.heap.size) w w' := ⟨hb.os, hb.tape, hb.output, hb.size, fun k hk => hb.block k (by omega) (by omega)⟩
  exact h.below this (by omega)
/-- A sum, of which the first bytes are given. -/
def ov32 (X : List Int) : List Int := X ++ z32.drop X.length
theorem ov32_len (X : List Int) (h : X.length ≤ 32) : (ov32 X).length = 32 := by unfold ov32; rw [List.length_append, List.length_drop, z32_len]; omega
theorem ov32_bytes (X : List Int) (hX : ∀ k, 0 ≤ X.getD k 0 ∧ X.getD k 0 < 256) : ∀ k, 0 ≤ (ov32 X).getD k 0 ∧ (ov32 X).getD k 0 < 256 := by
  intro k
  unfold ov32
  rcases Nat.lt_or_ge k X.length with h | h
  · have : (X ++ z32.drop X.length).getD k 0 = X.getD k 0 := by simp [List.getD, List.getElem?_append_left h]
    rw [this]; exact hX k
  · have : (X ++ z32.drop X.length).getD k 0 = z32.getD (X.length + (k - X.length)) 0 := by
      simp [List.getD, List.getElem?_append_right h, List.getElem?_drop]
    rw [this]; exact z32_bytes _
theorem strB_cells (X : List Int) (hX : ∀ k, 0 ≤ X.getD k 0 ∧ X.getD k 0 < 256) : Lib.byteCells (Fi.strB X).data.toList = X.map (Value.int .u8) := by
  unfold Lib.byteCells Fi.strB
  simp only [List.map_map]
  apply List.ext_getElem?
  intro i
  rw [List.getElem?_map, List.getElem?_map]
  rcases Nat.lt_or_ge i X.length with h | h
  · rw [List.getElem?_eq_getElem h]
    have := hX i
    simp only [List.getD, List.getElem?_eq_getElem h, Option.getD_some] at this
    simp only [Option.map_some, Function.comp_apply]
    congr 2
    rw [UInt8.toNat_ofNat']
    omega
  · rw [List.getElem?_eq_none h]; rfl
/-- The cells of an item whose sum is laid over. -/
theorem over_cells (p : ByteArray) (n : Int) (X : List Int) (hX : ∀ k, 0 ≤ X.getD k 0 ∧ X.getD k 0 < 256) :
    ((It.cells ⟨p, false, n, z32⟩).toArray.toList.take 3 ++ Lib.byteCells (Fi.strB X).data.toList ++ (It.cells ⟨p, false, n, z32⟩).toArray.toList.drop (3 + X.length)) = It.cells ⟨p, false, n, ov32 X⟩ := by
  rw [strB_cells X hX]
  unfold It.cells ov32
  rw [show 3 + X.length = X.length + 3 by omega]
  simp [List.drop_succ_cons]
end Go.Proofs.YtdnbiibijoggoaaGreatDoor

namespace Go.Proofs.YtdnbiibijoggoaaGreatDoor
open Go.RowKit
set_option maxRecDepth 100000

/-- An item is read. -/
def tkI (xs : List Int) (e : Int) : It × List Int × Int :=
  let t := rT xs e 128
  let b := rB t.2.1 t.2.2
  if b.1 = 1 then (bare (Fi.strB t.1), b.2.1, b.2.2) else
  let n := rN b.2.1 b.2.2 65536
  let q := rR n.2.1 n.2.2 32
  (⟨Fi.strB t.1, false, n.1, ov32 q.1⟩, q.2.1, q.2.2)
theorem wp_copy_str {P : Program} {w : World} {o : Oper} {a : Act} {K : Act → World → Prop} {Q : Exit → Act → World → Prop} (d s : Operand) (dT sT : TypeId)
    (ho : o.op = .call { callee := .builtin .copy, args := #[d, s], argTypes := #[dT, sT] }) (elem : TypeId) (hu : P.underlying dT = some (.slice elem)) (hsz : (P.info? elem).map (·.size) = some 1)
    (g off dLen dCap : Nat) (S : ByteArray) (hd : a.eval d = .slice (some ⟨g, off, none⟩) dLen dCap) (hs : a.eval s = .string S) (cur : Array Value) (t : TypeId) (hg : w.heap[g]? = some (.cells cur t (0, 0))) (hle : S.size ≤ dLen) (hfit : off + S.size ≤ cur.size)
    (h : K (a.put o.dst (goInt S.size)) (w.setRow g (cur.toList.take off ++ Lib.byteCells S.data.toList ++ cur.toList.drop (off + S.size)).toArray)) : o.wp P a w K Q := by
  have hrun := Lib.run_copy_row_string (P := P) w dT sT o.type elem g off dLen dCap S cur t hu hsz hg hle hfit
  unfold Oper.wp
  simp only [execOp, ho, resolve, invoke, builtin, Sem.run_bind, Sem.run_pure, List.map_toArray, List.map_cons, List.map_nil, hd, hs, hrun, Result.andThen_ok]
  exact h
theorem rN_bd (xs : List Int) (e m : Int) (hb : ∀ i, 0 ≤ xs.getD i 0 ∧ xs.getD i 0 < 256) : 0 ≤ (rN xs e m).1 ∧ (rN xs e m).1 < 4611686018427387904 := by
  unfold rN
  split
  · have := Fi.na_bd xs m hb
    exact ⟨this.1, this.2.1⟩
  · exact ⟨by show (0 : Int) ≤ 0; omega, by show (0 : Int) < 4611686018427387904; omega⟩
theorem rR_len (xs : List Int) (e : Int) (n : Nat) : (rR xs e n).1.length ≤ n := by
  unfold rR
  split
  · show (xs.take (Fi.raN xs n)).length ≤ n
    rw [List.length_take]
    unfold Fi.raN
    split <;> omega
  · simp
theorem take_bytes (xs : List Int) (m : Nat) (hx : ∀ i, 0 ≤ xs.getD i 0 ∧ xs.getD i 0 < 256) : ∀ i, 0 ≤ (xs.take m).getD i 0 ∧ (xs.take m).getD i 0 < 256 := by
  intro i
  rcases Nat.lt_or_ge i m with h | h
  · have : (xs.take m).getD i 0 = xs.getD i 0 := by simp [List.getD, h]
    rw [this]; exact hx i
  · have : (xs.take m).getD i 0 = 0 := by simp [List.getD, List.getElem?_take, show ¬ i < m by omega]
    rw [this]; omega
theorem rR_bytes (xs : List Int) (e n : Int) (hb : ∀ i, 0 ≤ xs.getD i 0 ∧ xs.getD i 0 < 256) : ∀ k, 0 ≤ (rR xs e n).1.getD k 0 ∧ (rR xs e n).1.getD k 0 < 256 := by
  unfold rR
  split
  · exact take_bytes xs _ hb
  · intro k; simp
theorem size5 : (Tryz.prog.info? 5).map (·.size) = some 1 := by kernel_rfl
set_option maxHeartbeats 4000000 in
theorem take_any (g s : Nat) (xs : List Int) (e : Int) (w : World) (h : Fi.Rd w g s xs e) (hw : Fi.Wid w) (hg : 3 ≤ g) (hs : s < w.heap.size) :
    Calls Tryz.prog 43 #[.pointer (some ⟨g, 0, none⟩)] w fun r w' => r = .returned (tkI xs e).1.val ∧ Fi.Rd w' g s (tkI xs e).2.1 (tkI xs e).2.2 ∧ Sh.But g w w' := by
  obtain ⟨W1, hW1⟩ : ∃ W1, W1 = w.alloc (.cells izc 42) := ⟨_, rfl⟩
  have hwz : w.alloc (.cells #[.string ⟨#[]⟩, .bool false, .int .i64 0, .int .u8 0, .int .u8 0, .int .u8 0, .int .u8 0, .int .u8 0, .int .u8 0, .int .u8 0, .int .u8 0, .int .u8 0, .int .u8 0, .int .u8 0, .int .u8 0, .int .u8 0, .int .u8 0, .int .u8 0, .int .u8 0, .int .u8 0, .int .u8 0, .int .u8 0, .int .u8 0, .int .u8 0, .int .u8 0, .int .u8 0, .int .u8 0, .int .u8 0, .int .u8 0, .int .u8 0, .int .u8 0, .int .u8 0, .int .u8 0, .int .u8 0, .int .u8 0] 42) = W1 := hW1.symm
  have b1 : Below w.heap.size w W1 := by rw [hW1]; exact al_below _ _
  have s1 : W1.heap.size = w.heap.size + 1 := by rw [hW1]; simp
  have hgl := Rd.lt h
  have g1 : W1.heap[w.heap.size]? = some (.cells izc 42 (0, 0)) := by rw [hW1]; exact heap_alloc_new _ _
  have B1 : Hid (Sh.But g w W1) := Sh.But.of b1
  have HG : Hid (w.heap.size ≠ g ∧ w.heap.size ≠ s ∧ w.heap.size < W1.heap.size ∧ 3 ≤ g) := ⟨by omega, by omega, by omega, hg⟩
  have C1 := rdText g s xs e 128 W1 (hw.below b1 (by omega)) (h.kept b1)
  have HT : Hid (tkI xs e = (let t := rT xs e 128; let b := rB t.2.1 t.2.2; if b.1 = 1 then (bare (Fi.strB t.1), b.2.1, b.2.2) else let n := rN b.2.1 b.2.2 65536; let q := rR n.2.1 n.2.2 32; (⟨Fi.strB t.1, false, n.1, ov32 q.1⟩, q.2.1, q.2.2))) := rfl
  have W1W : Hid (Fi.Wid W1) := hw.below b1 (by omega)
  have G1 : Hid (W1.heap[w.heap.size]? = some (.cells izc 42 (0, 0))) := g1
  have HSS : Hid (s < w.heap.size ∧ g < w.heap.size) := ⟨hs, hgl⟩
  clear hW1 b1 s1 hgl g1 h hw hg hs
  generalize tkI xs e = R at *
  generalize rT xs e 128 = T at *
  obtain ⟨tt, ty, te⟩ := T
  simp only at C1 HT
  go_enter Tryz.func43, Tryz.ntmps43
  go_wp2_with fail
  try rw [hwz]
  clear hwz
  refine C1.mono ?_
  rintro r w2 ⟨rfl, rd2, of2⟩
  clear C1
  have G2 : Hid (w2.heap[w.heap.size]? = some (.cells izc 42 (0, 0))) := (of2.block _ HG.out.1).trans G1.out
  have B2 : Hid (Sh.But g w w2) := B1.out.trans (Off.but of2)
  have W2W : Hid (Fi.Wid w2) := wid_but W1W.out (Off.but of2) HG.out.2.2.2
  have C2 := rdByte g s ty te w2 rd2
  have L2 : Hid (w.heap.size < w2.heap.size) := by unfold Hid; rw [of2.size]; exact HG.out.2.2.1
  clear rd2 of2 G1 B1 W1W
  generalize rB ty te = b at *
  obtain ⟨bb, by', be⟩ := b
  simp only at C2 HT
  generalize Fi.strB tt = PP at *
  go_wp2_with fail
  refine C2.mono ?_
  rintro r w3 ⟨rfl, rd3, of3⟩
  clear C2
  have G3 : Hid (w3.heap[w.heap.size]? = some (.cells izc 42 (0, 0))) := (of3.block _ HG.out.1).trans G2.out
  have B3 : Hid (Sh.But g w w3) := B2.out.trans (Off.but of3)
  have W3W : Hid (Fi.Wid w3) := wid_but W2W.out (Off.but of3) HG.out.2.2.2
  have L3 : Hid (w.heap.size < w3.heap.size) := by unfold Hid; rw [of3.size]; exact L2.out
  clear of3 G2 B2 W2W L2
  by_cases hb : bb = 1
  · have hb2 : (bb == 1) = true := by simpa using hb
    obtain rfl : R = (bare PP, by', be) := by have := HT.out; rwa [if_pos hb] at this
    clear HT hb
    have C4 := bare_any PP w3
    have RD3 : Hid (Fi.Rd w3 g s by' be) := rd3
    clear rd3
    go_wp2_with fail
    refine C4.mono ?_
    rintro r w4 ⟨rfl, b4⟩
    clear C4
    have G4 : Hid (w4.heap[w.heap.size]? = some (.cells izc 42 (0, 0))) := (b4.block _ L3.out).trans G3.out
    have B4 : Hid (Sh.But g w w4) := But.keep B3.out b4
    have RD4 : Hid (Fi.Rd w4 g s by' be) := RD3.out.kept b4
    clear b4 G3 B3 RD3
    unfold It.val
    go_wp2_with (refine wpList_store_row rfl 42 _ _ rfl w.heap.size (bare PP).cells.toArray rfl rfl 42 _ G4.out (It.info _ (bare_ok PP)) (izc_size.trans (It.size _ (bare_ok PP)).symm) (It.ones _) ?_)
    exact bodyPost_ret (v := (bare PP).val) (results_cell_row rfl _ _ w.heap.size 42 (bare PP).cells.toArray (0, 0) _ rfl (setRow_heap _ _ _ _ _ _ G4.out) Tryz.underlying42 rfl (It.info _ (bare_ok PP))) rfl ⟨rfl, Rd.setRow RD4.out HG.out.1 HG.out.2.1 _, But.setRow B4.out (Nat.le_refl _) _⟩
  · have hb2 : (bb == 1) = false := by simpa using hb
    have HT2 := HT.out
    rw [if_neg hb] at HT2
    have C4 := rdNum g s by' be 65536 w3 W3W.out rd3
    have bd3 := rN_bd by' be 65536 rd3.bytes
    clear HT rd3 hb
    have HNB : Hid (-9223372036854775808 ≤ (rN by' be 65536).1 ∧ (rN by' be 65536).1 ≤ 9223372036854775807) := ⟨by omega, by omega⟩
    clear bd3
    generalize rN by' be 65536 = n at *
    obtain ⟨nn, ny, ne⟩ := n
    simp only at C4 HT2 HNB
    go_wp2_with fail
    refine C4.mono ?_
    rintro r w4 ⟨rfl, rd4, of4⟩
    clear C4
    have G4 : Hid (w4.heap[w.heap.size]? = some (.cells izc 42 (0, 0))) := (of4.block _ HG.out.1).trans G3.out
    have B4 : Hid (Sh.But g w w4) := B3.out.trans (Off.but of4)
    have L4 : Hid (w.heap.size < w4.heap.size) := by unfold Hid; rw [of4.size]; exact L3.out
    have RB4 : Hid (∀ k, 0 ≤ (rR ny ne 32).1.getD k 0 ∧ (rR ny ne 32).1.getD k 0 < 256) := rR_bytes ny ne 32 rd4.bytes
    have RL4 : Hid ((rR ny ne 32).1.length ≤ 32) := rR_len ny ne 32
    obtain ⟨y, hy⟩ : ∃ y : It, y = ⟨PP, false, nn, z32⟩ := ⟨_, rfl⟩
    have hyk : y.ok := by rw [hy]; exact ⟨z32_len, z32_bytes, HNB.out⟩
    have BN : Hid (Tryz.prog.built 42 [(0, .string PP), (2, .int .i64 nn)] = some y.cells.toArray) := by unfold Hid; rw [hy]; exact builtN PP nn
    obtain ⟨W5, hW5⟩ : ∃ W5, W5 = w4.alloc (.cells y.cells.toArray 42) := ⟨_, rfl⟩
    have b5 : Below w4.heap.size w4 W5 := by rw [hW5]; exact al_below _ _
    have e5 := alloc_it w4 y
    rw [← hW5] at e5
    have HE5 : Hid ((w4.alloc (.cells #[.string ⟨#[]⟩, .bool false, .int .i64 0, .int .u8 0, .int .u8 0, .int .u8 0, .int .u8 0, .int .u8 0, .int .u8 0, .int .u8 0, .int .u8 0, .int .u8 0, .int .u8 0, .int .u8 0, .int .u8 0, .int .u8 0, .int .u8 0, .int .u8 0, .int .u8 0, .int .u8 0, .int .u8 0, .int .u8 0, .int .u8 0, .int .u8 0, .int .u8 0, .int .u8 0, .int .u8 0, .int .u8 0, .int .u8 0, .int .u8 0, .int .u8 0, .int .u8 0, .int .u8 0, .int .u8 0, .int .u8 0] 42)).setRow w4.heap.size y.cells.toArray = W5) := e5
    have HI : Hid ((Tryz.prog.info? 42).map (·.size) = some y.cells.toArray.size) := It.info y hyk
    have HE : Hid (izc.size = y.cells.toArray.size) := izc_size.trans (It.size y hyk).symm
    have HO : Hid (y.cells.toArray.all (·.oneCell') = true) := It.ones y
    have T5 : Hid (W5.heap[w4.heap.size]? = some (.cells y.cells.toArray 42 (0, 0))) := by unfold Hid; rw [hW5]; exact heap_alloc_new _ _
    have G5 : Hid (W5.heap[w.heap.size]? = some (.cells izc 42 (0, 0))) := (b5.block _ L4.out).trans G4.out
    have B5 : Hid (Sh.But g w W5) := But.keep B4.out b5
    have CR : Hid (∀ W, Fi.Rd W g s ny ne → Calls Tryz.prog 67 #[.pointer (some ⟨g, 0, none⟩), .int .i64 32] W fun r w' => r = .returned (.string (Fi.strB (rR ny ne 32).1)) ∧ Fi.Rd w' g s (rR ny ne 32).2.1 (rR ny ne 32).2.2 ∧ Fi.Off g W w') := fun W hr => rdRaw g s ny ne 32 W hr
    have RD5 : Hid (Fi.Rd W5 g s ny ne) := rd4.kept b5
    have HL5 : Hid (w.heap.size < w4.heap.size ∧ w4.heap.size ≠ g ∧ w4.heap.size ≠ s) := ⟨L4.out, by have := HSS.out; have := L4.out; omega, by have := HSS.out; have := L4.out; omega⟩
    have OC := over_cells PP nn (rR ny ne 32).1 RB4.out
    rw [← hy] at OC
    have HOC : Hid (y.cells.toArray.toList.take 3 ++ Lib.byteCells (Fi.strB (rR ny ne 32).1).data.toList ++ y.cells.toArray.toList.drop (3 + (rR ny ne 32).1.length) = It.cells ⟨PP, false, nn, ov32 (rR ny ne 32).1⟩) := OC
    have HYS : Hid (y.cells.toArray.size = 35) := It.size y hyk
    have OKF : Hid (It.ok ⟨PP, false, nn, ov32 (rR ny ne 32).1⟩) := ⟨ov32_len _ RL4.out, ov32_bytes _ RB4.out, HNB.out⟩
    have HSB : Hid ((Fi.strB (rR ny ne 32).1).size = (rR ny ne 32).1.length) := Fi.strB_size _
    have HT3 : Hid (R = (⟨PP, false, nn, ov32 (rR ny ne 32).1⟩, (rR ny ne 32).2.1, (rR ny ne 32).2.2)) := HT2
    clear HT2 OC hy hyk hW5 b5 e5 rd4 of4 G3 B3 W3W L3 G4 B4 L4 RB4
    generalize rR ny ne 32 = q at *
    obtain ⟨qq, qy, qe⟩ := q
    simp only at CR HOC OKF HSB HT3 RL4
    obtain ⟨z, hz⟩ : ∃ z : It, z = ⟨PP, false, nn, ov32 qq⟩ := ⟨_, rfl⟩
    rw [← hz] at HOC OKF HT3
    obtain rfl := HT3.out
    clear HT3 hz
    generalize Fi.strB qq = SS at *
    generalize qq.length = ql at *
    go_wp2_with (refine wpList_built rfl 42 _ rfl [(0, .string PP), (2, .int .i64 nn)] rfl y.cells.toArray BN.out (Hid.out ?_))
    unfold Hid
    go_wp2_with (refine wpList_store_row rfl 42 _ _ rfl w4.heap.size y.cells.toArray rfl rfl 42 izc (new_it w4) HI.out HE.out HO.out (Hid.out ?_))
    unfold Hid
    rw [HE5.out]
    go_wp2_with fail
    refine wp_region_held_drew (S := fun _ => True) (by kernel_rfl) trivial (fun _ => ?_)
    refine wpAnyH_name (fun u0 hu0 => ?_)
    have bu0 : Below W5.heap.size W5 u0 := by rw [hu0.out]; exact (Below.refl _ _).drew
    have RDu0 : Fi.Rd u0 g s ny ne := by rw [hu0.out]; exact RD5.out
    have Tu0 : u0.heap[w4.heap.size]? = some (.cells y.cells.toArray 42 (0, 0)) := by rw [hu0.out]; exact T5.out
    have Gu0 : u0.heap[w.heap.size]? = some (.cells izc 42 (0, 0)) := by rw [hu0.out]; exact G5.out
    have Bu0 : Sh.But g w u0 := by rw [hu0.out]; exact Sh.But.drew B5.out
    refine wpAnyH_take (i := 0) (oi := { dst := some 16, op := Op.fieldAddr 42 (Operand.tmp 4) 3, type := 0, pos := "manifest.go:153", after := #[], guard := none }) (v := ?vr1) rfl (by kernel_rfl) (by kernel_rfl) (by kernel_rfl) (fun _ _ _ h => h) (Or.inl ⟨by rfl, ?yr1⟩) trivial ?rr1
    case yr1 => (intro w hSw; go_simp; try with_reducible rfl)
    try simp only [Act.put, List.setIfInBounds_toArray, List.set_cons_zero, List.set_cons_succ]
    refine wpAnyH_take (i := 1) (oi := { dst := some 17, op := Op.slice 40 (Operand.tmp 16) none none none, type := 34, pos := "manifest.go:153", after := #[{ on := 0, ground := Ground.data }], guard := none }) (v := ?vr2) rfl (by kernel_rfl) (by kernel_rfl) (by kernel_rfl) (fun _ _ _ h => h) (Or.inl ⟨by rfl, ?yr2⟩) trivial ?rr2
    case yr2 => (intro w hSw; go_simp; try with_reducible rfl)
    try simp only [Act.put, List.setIfInBounds_toArray, List.set_cons_zero, List.set_cons_succ]
    refine wpAnyH_take (i := 2) (oi := { dst := some 18, op := Op.move (Operand.tmp 0), type := 68, pos := "manifest.go:153", after := #[], guard := none }) (v := ?vr3) rfl (by kernel_rfl) (by kernel_rfl) (by kernel_rfl) (fun _ _ _ h => h) (Or.inl ⟨by rfl, ?yr3⟩) trivial ?rr3
    case yr3 => (intro w hSw; go_simp; try with_reducible rfl)
    try simp only [Act.put, List.setIfInBounds_toArray, List.set_cons_zero, List.set_cons_succ]
    refine wpAnyH_ready (rs := [3]) (by kernel_rfl) (by simp) ?_
    refine AllReadyH.cons (o := { dst := some 19, op := Op.call { callee := Callee.value (Operand.func 67), args := #[Operand.tmp 18, Operand.const (Value.int IntKind.i64 32)], argTypes := #[68, 3] }, type := 9, pos := "manifest.go:153", after := #[{ on := 2, ground := Ground.data }], guard := none }) rfl (fun KK hKK => ?_) ?_
    · go_simp
      refine (CR.out _ RDu0).mono ?_
      rintro r u4' ⟨rfl, rdu4, ofu4⟩
      (try go_wp2_with fail)
      refine hKK.out _ _ trivial (fun _ => ?_)
      clear hKK KK
      try simp only [Act.put, List.setIfInBounds_toArray, List.set_cons_zero, List.set_cons_succ]
      refine wpAnyH_name (fun u4 hu4 => ?_)
      rw [← hu4.out] at rdu4 ofu4
      have Tu4 := (ofu4.block _ HL5.out.2.1).trans Tu0
      have Gu4 := (ofu4.block _ HG.out.1).trans Gu0
      have Bu4 := Bu0.trans (Off.but ofu4)
      clear ofu4
      refine wpAnyH_ready (rs := [4]) (by kernel_rfl) (by simp) ?_
      refine AllReadyH.cons (o := { dst := some 20, op := Op.call { callee := Callee.builtin Builtin.copy, args := #[Operand.tmp 17, Operand.tmp 19], argTypes := #[34, 9] }, type := 3, pos := "manifest.go:153", after := #[{ on := 1, ground := Ground.data }, { on := 3, ground := Ground.data }, { on := 3, ground := Ground.chain }], guard := none }) rfl (fun KK hKK => ?_) ?_
      · refine wp_copy_str _ _ 34 9 rfl 5 Tryz.underlying34 size5 w4.heap.size 3 32 32 SS rfl rfl y.cells.toArray 42 Tu4 (by have := HSB.out; have := RL4.out; omega) (by have := HSB.out; have := RL4.out; have := HYS.out; omega) ?_
        rw [HSB.out, HOC.out]
        refine hKK.out _ _ trivial (fun _ => ?_)
        clear hKK KK
        try simp only [Act.put, List.setIfInBounds_toArray, List.set_cons_zero, List.set_cons_succ]
        refine wpAnyH_name (fun u5 hu5 => ?_)
        have Zu5 := setRow_heap _ _ _ z.cells.toArray _ _ Tu4
        rw [← hu5.out] at Zu5
        have Du5 := Rd.setRow rdu4 HL5.out.2.1 HL5.out.2.2 z.cells.toArray
        rw [← hu5.out] at Du5
        have Gu5 : u5.heap[w.heap.size]? = some (.cells izc 42 (0, 0)) := by rw [hu5.out, setRow_other _ _ _ _ (by have := HL5.out; omega)]; exact Gu4
        have Bu5 := But.setRow Bu4 (Nat.le_of_lt HL5.out.1) z.cells.toArray
        rw [← hu5.out] at Bu5
        refine wpAnyH_done (by kernel_rfl) ?_ _
        have ZR : Hid (u5.rangeAt w4.heap.size 0 z.cells) := IB.range Zu5
        have ZD : Hid (Fi.Rd u5 g s qy qe) := Du5
        have ZG : Hid (u5.heap[w.heap.size]? = some (.cells izc 42 (0, 0))) := Gu5
        have ZB : Hid (Sh.But g w u5) := Bu5
        have ZZ : Hid ((Tryz.prog.info? 42).map (·.size) = some z.cells.length) := sizeI.trans (by rw [It.len OKF.out])
        go_wp2_with (first | refine wpList_load_mid rfl 42 _ rfl w4.heap.size 0 rfl z.cells _ ZR.out Tryz.underlying42 rfl ZZ.out ?_ | refine wpList_store_row rfl 42 _ _ rfl w.heap.size z.cells.toArray rfl rfl 42 izc ZG.out (It.info _ OKF.out) (izc_size.trans (It.size _ OKF.out).symm) (It.ones _) ?_)
        exact bodyPost_ret (v := z.val) (results_cell_row rfl _ _ w.heap.size 42 z.cells.toArray (0, 0) _ rfl (setRow_heap _ _ _ _ _ _ ZG.out) Tryz.underlying42 rfl (It.info _ OKF.out)) rfl ⟨rfl, Rd.setRow ZD.out HG.out.1 HG.out.2.1 _, But.setRow ZB.out (Nat.le_refl _) _⟩
      exact AllReadyH.nil
    exact AllReadyH.nil
end Go.Proofs.YtdnbiibijoggoaaGreatDoor

namespace Go.Proofs.YtdnbiibijoggoaaGreatDoor
open Go.RowKit
set_option maxRecDepth 100000

/-- So many items are read. -/
def rds : Nat → List Int → Int → List It × List Int × Int
  | 0, xs, e => ([], xs, e)
  | j + 1, xs, e => ((rds j xs e).1 ++ [(tkI (rds j xs e).2.1 (rds j xs e).2.2).1], (tkI (rds j xs e).2.1 (rds j xs e).2.2).2.1, (tkI (rds j xs e).2.1 (rds j xs e).2.2).2.2)
def rdA (b : List Int) : List It := (rds (rN b 0 64).1.toNat (rN b 0 64).2.1 (rN b 0 64).2.2).1
def mget (b : List Int) : List It × Int := if (mput (rdA b)).2 = 0 ∧ (mput (rdA b)).1 = b then (rdA b, 0) else ([], 4)
theorem naN_le (xs : List Int) (m : Int) (hm : 0 ≤ m) : Fi.naN xs m ≤ m := by
  unfold Fi.naN
  split
  · rename_i h
    unfold Fi.naE at h
    split at h
    · split at h
      · assumption
      · omega
    · rename_i h2; exact absurd h h2
  · exact hm
theorem txS_len (xs : List Int) (m : Nat) : (Fi.txS xs m).length ≤ m := by
  unfold Fi.txS
  split
  · rw [List.length_take]
    have := naN_le xs m (by omega)
    omega
  · simp
theorem rT_len (xs : List Int) (e : Int) (m : Nat) : (rT xs e m).1.length ≤ m := by
  unfold rT
  split
  · exact txS_len xs m
  · simp
theorem tkI_path (xs : List Int) (e : Int) : (tkI xs e).1.p.size ≤ 1000 := by
  have h := rT_len xs e 128
  have h2 : (Fi.strB (rT xs e 128).1).size ≤ 1000 := by rw [Fi.strB_size]; exact Nat.le_trans h (by omega)
  unfold tkI
  simp only
  split
  · exact h2
  · exact h2
def Bt (xs : List Int) : Prop := ∀ i, 0 ≤ xs.getD i 0 ∧ xs.getD i 0 < 256
theorem rT_bt (xs : List Int) (e m : Int) (hb : Bt xs) : Bt (rT xs e m).2.1 := by
  unfold rT
  split
  · show Bt (Fi.txR xs m)
    unfold Fi.txR
    split
    · exact Fi.bytes_drop _ _ hb
    · exact hb
  · exact hb
theorem rB_bt (xs : List Int) (e : Int) (hb : Bt xs) : Bt (rB xs e).2.1 := by
  unfold rB
  split
  · exact Fi.bytes_drop _ _ hb
  · exact hb
theorem rN_bt (xs : List Int) (e m : Int) (hb : Bt xs) : Bt (rN xs e m).2.1 := by
  unfold rN
  split
  · exact Fi.bytes_drop _ _ hb
  · exact hb
theorem tkI_ok (xs : List Int) (e : Int) (hb : ∀ i, 0 ≤ xs.getD i 0 ∧ xs.getD i 0 < 256) : (tkI xs e).1.ok := by
  have h1 := rB_bt _ (rT xs e 128).2.2 (rT_bt xs e 128 hb)
  unfold tkI
  simp only
  split
  · exact bare_ok _
  · have h2 := rN_bd _ (rB (rT xs e 128).2.1 (rT xs e 128).2.2).2.2 65536 h1
    exact ⟨ov32_len _ (rR_len _ _ 32), ov32_bytes _ (rR_bytes _ _ 32 (rN_bt _ _ 65536 h1)), by simp only; omega, by simp only; omega⟩
theorem rds_path : ∀ (j : Nat) (xs : List Int) (e : Int), ∀ x ∈ (rds j xs e).1, x.p.size ≤ 1000
  | 0, _, _ => fun x hx => by simp [rds] at hx
  | j + 1, xs, e => fun x hx => by
    rw [rds] at hx
    rcases List.mem_append.1 hx with h | h
    · exact rds_path j xs e x h
    · simp at h; subst h; exact tkI_path _ _
theorem rds_len : ∀ (j : Nat) (xs : List Int) (e : Int), (rds j xs e).1.length = j
  | 0, _, _ => rfl
  | j + 1, xs, e => by rw [rds, List.length_append, rds_len j xs e]; rfl
theorem Rd.below {w w' : World} {g s B : Nat} {xs : List Int} {e : Int} (h : Fi.Rd w g s xs e) (hb : Below B w w') (hg : g < B) (hs : s < B) : Fi.Rd w' g s xs e := by
  obtain ⟨a, cap, c0, c1, f0, f1, l1, l2, r, n, k, b⟩ := h
  have fz : ∀ {p : Addr}, p.block < B → w'.frozen? p = w.frozen? p := fun hp => World.frozen?_of_block (hb.block _ hp)
  refine ⟨a, cap, (hb.cell (p := ⟨g, 0, none⟩) hg).trans c0, (hb.cell (p := ⟨g, 1, none⟩) hg).trans c1, (fz (p := ⟨g, 0, none⟩) hg).trans f0, (fz (p := ⟨g, 1, none⟩) hg).trans f1, l1, l2, ?_, n, k, b⟩
  rcases r with h | ⟨hp, b', off, rfl, hlc, hm, hc, hz⟩
  · exact .inl h
  · have := (b ⟨b', off, none⟩ rfl).2
    simp only at this
    exact .inr ⟨hp, b', off, rfl, hlc, hm, fun i hi => (hb.cell (p := ⟨b', off + i, none⟩) (by show b' < B; omega)).trans (hc i hi), hz⟩
theorem RI.but {w w' : World} {g B : Nat} {v : Value} {l : List It} (h : RI w B v l) (hb : Sh.But g w w') (hg : g < B) : RI w' B v l := by
  obtain ⟨⟨h1, h2⟩, hok⟩ := h
  refine ⟨⟨h1, ?_⟩, hok⟩
  rcases h2 with h2 | ⟨k, cap, cur, hv, hk, hh, r⟩
  · exact .inl h2
  · exact .inr ⟨k, cap, cur, hv, hk, (hb.block k (Array.getElem?_eq_some_iff.1 hh).1 (by omega)).trans hh, r⟩
theorem But.low {w w' : World} {g B : Nat} (h : Sh.But g w w') (hB : B ≤ g) (hw : B ≤ w.heap.size) : Below B w w' := Sh.But.below h hB hw
theorem But.of2 {w0 w w' : World} {g : Nat} (h : Sh.But g w0 w) (hb : Below w0.heap.size w w') : Sh.But g w0 w' := ⟨hb.os.trans h.os, hb.tape.trans h.tape, hb.output.trans h.output, Nat.le_trans h.size hb.size, fun k hk hn => (hb.block k hk).trans (h.block k hk hn)⟩
set_option maxHeartbeats 4000000 in
theorem get_any (v : Value) (b : List Int) (w : World) (h : Sl w v b) (hl : b.length ≤ 1000000) (hw : Wd w) :
    Calls Tryz.prog 23 #[v] w fun e w' => ∃ v', e = .returned (.tuple #[v', .int .i64 (mget b).2]) ∧ RI w' w.heap.size v' (mget b).1 ∧ Below w.heap.size w w' := by
  have C1 := Fi.new_any v b w hw.1.2 (fsl h) (by omega)
  have HW : Hid (Wd w) := hw
  have HS : Hid (Sl w v b) := h
  have H3 : Hid (3 ≤ w.heap.size) := hw.1.size
  have HG : Hid (mget b = if (mput (rdA b)).2 = 0 ∧ (mput (rdA b)).1 = b then (rdA b, 0) else ([], 4)) := rfl
  have HA : Hid (rdA b = (rds (rN b 0 64).1.toNat (rN b 0 64).2.1 (rN b 0 64).2.2).1) := rfl
  have HN0 : Hid (∃ N : Nat, (rN b 0 64).1 = (N : Int) ∧ N ≤ 64) := by
    have h1 := rN_bd b 0 64 h.bytes
    have h2 : (rN b 0 64).1 ≤ 64 := by unfold rN; rw [if_pos rfl]; exact naN_le b 64 (by omega)
    exact ⟨(rN b 0 64).1.toNat, by omega, by omega⟩
  obtain ⟨va, vc, rfl, -⟩ := id h
  clear h hw
  generalize mget b = R at *
  obtain ⟨nb, hnb⟩ : ∃ nb, nb = b.length := ⟨_, rfl⟩
  rw [← hnb] at HS C1 hl ⊢
  clear hnb
  go_enter Tryz.func23, Tryz.ntmps23
  go_wp2_with fail
  refine C1.mono ?_
  rintro e w1 ⟨g, s, rfl, hg1, hg2, hs, rd1, b1⟩
  clear C1
  have C2 := rdNum g s b 0 64 w1 (HW.out.kept b1).1.2 rd1
  have HB1 : Hid (Below w.heap.size w w1) := b1
  have HGS : Hid (3 ≤ g ∧ g < w1.heap.size ∧ s < w1.heap.size ∧ w.heap.size ≤ g) := ⟨by have := H3.out; omega, hg2, by rcases hs with h | h <;> omega, hg1⟩
  clear rd1 b1 hg1 hg2 hs
  obtain ⟨N, hN, hN64⟩ := HN0.out
  have HNN : Hid ((rN b 0 64).1.toNat = N) := by unfold Hid; omega
  rw [HNN.out] at HA
  clear HNN HN0
  generalize rN b 0 64 = q at *
  obtain ⟨qn, qx, qe⟩ := q
  simp only at C2 HA hN
  subst hN
  go_wp2_with fail
  refine C2.mono ?_
  rintro e w2 ⟨rfl, rd2, of2⟩
  clear C2
  have HB2 : Hid (Below w.heap.size w w2) := HB1.out.trans (of2.below HGS.out.2.2.2)
  have HGT : Hid (3 ≤ g ∧ g < w2.heap.size ∧ s < w2.heap.size ∧ w.heap.size ≤ g) := by unfold Hid; rw [of2.size]; exact HGS.out
  have RD2 : Hid (Fi.Rd w2 g s qx qe) := rd2
  clear rd2 of2 HB1 HGS
  go_wp2
  go_loopw [5, 12] (fun s' q wr => ∃ j : Nat, j ≤ N ∧ q = .int .i64 j ∧ RI wr w2.heap.size s' (rds j qx qe).1 ∧ Fi.Rd wr g s (rds j qx qe).2.1 (rds j qx qe).2.2 ∧ Sh.But g w2 wr) (fun _ q _ => N - (intOf q).toNat)
  case atStart => exact ⟨0, by omega, rfl, RI.nil _ _, RD2.out, Sh.But.refl _ _⟩
  case round =>
    clear RD2
    obtain ⟨j, hj, rfl, ri, rd, bt⟩ := hrel
    have HO : Hid (RI wr w2.heap.size u5 (rds j qx qe).1) := ri
    have BT : Hid (Sh.But g w2 wr) := bt
    obtain ⟨ia, ic, rfl, _, _, _⟩ := ri.is.shape
    rw [rds_len] at HO ⊢
    by_cases hlt : j < N
    · have lt2 : (j : Int) < (N : Int) := by omega
      have hbw : Below w.heap.size w wr := HB2.out.trans (But.low bt HGT.out.2.2.2 HB2.out.size)
      have CT := take_any g s _ _ wr rd (HW.out.kept hbw).1.2 HGT.out.1 (Nat.lt_of_lt_of_le HGT.out.2.2.1 bt.size)
      have HR : Hid ((rds (j + 1) qx qe).1 = (rds j qx qe).1 ++ [(tkI (rds j qx qe).2.1 (rds j qx qe).2.2).1] ∧ (rds (j + 1) qx qe).2 = (tkI (rds j qx qe).2.1 (rds j qx qe).2.2).2) := ⟨rfl, rfl⟩
      have HYO : Hid (It.ok (tkI (rds j qx qe).2.1 (rds j qx qe).2.2).1) := tkI_ok _ _ rd.bytes
      have HLJ : Hid ((rds j qx qe).1.length = j) := rds_len j qx qe
      clear ri rd bt hbw
      generalize tkI (rds j qx qe).2.1 (rds j qx qe).2.2 = T at *
      obtain ⟨y, ty, te⟩ := T
      simp only at CT HR HYO
      generalize (rds j qx qe).1 = L at *
      unfold It.val at CT
      go_wp2_with fail
      refine CT.mono ?_
      rintro e w3 ⟨rfl, rd3, bt3⟩
      clear CT
      obtain ⟨W4, hW4⟩ : ∃ W4, W4 = w3.alloc (.cells y.cells.toArray 42) := ⟨_, rfl⟩
      have b4 : Below w3.heap.size w3 W4 := by rw [hW4]; exact al_below _ _
      have R4 : Hid (RI W4 w2.heap.size (.slice ia j ic) L) := (HO.out.but bt3 HGT.out.2.1).below b4
      have K4 : Hid (W4.rangeAt w3.heap.size 0 y.cells) := by unfold Hid; rw [hW4]; exact (IB.new w3 y).range
      have D4 : Hid (Fi.Rd W4 g s ty te) := rd3.kept b4
      have B4 : Hid (Sh.But g w2 W4) := But.keep (BT.out.trans bt3) b4
      clear rd3 bt3 b4 HO BT
      go_wp2_with (refine wpList_bsI rfl _ rfl y HYO.out rfl (Hid.out ?_))
      unfold Hid
      rw [← hW4]
      clear hW4
      go_wp2_with (at_builtin; refine wpList_append_it rfl _ _ rfl w2.heap.size _ L rfl R4.out w3.heap.size y 1 HYO.out rfl K4.out (by rw [HLJ.out]; omega) B4.out.size (Hid.out ?_))
      unfold Hid
      intro v5 w5 r5 g5
      have b5 : Below w2.heap.size W4 w5 := (Below.refl w2.heap.size W4).grown g5 B4.out.size (own_base R4.out.1)
      have O5 : Hid (RI w5 w2.heap.size v5 (rds (j + 1) qx qe).1) := by unfold Hid; rw [HR.out.1]; exact r5
      have D5 : Hid (Fi.Rd w5 g s (rds (j + 1) qx qe).2.1 (rds (j + 1) qx qe).2.2) := by unfold Hid; rw [HR.out.2]; exact Rd.below D4.out b5 HGT.out.2.1 HGT.out.2.2.1
      have B5 : Hid (Sh.But g w2 w5) := But.of2 B4.out b5
      clear r5 g5 b5 R4 K4 D4 B4 HR
      go_wp2
      go_roundw
      case rel => exact ⟨j + 1, by omega, by go_num, O5.out, D5.out, B5.out⟩
      case measure => simp [intOf]; omega
    · obtain rfl : j = N := by omega
      have hbw : Below w.heap.size w wr := HB2.out.trans (But.low bt HGT.out.2.2.2 HB2.out.size)
      have HBW : Hid (Below w.heap.size w wr) := hbw
      rw [← HA.out] at ri HO
      have hlen : (rdA b).length = j := by rw [HA.out]; exact rds_len _ _ _
      have HPA : Hid (∀ x ∈ rdA b, x.p.size ≤ 1000) := by unfold Hid; rw [HA.out]; exact rds_path _ _ _
      have CP := put_any (.slice ia j ic) (rdA b) wr HO.out.is (by omega) HPA.out (HW.out.kept hbw)
      have HOW : Hid (RI wr w.heap.size (.slice ia j ic) (rdA b)) := HO.out.mono HB2.out.size
      clear ri rd bt hbw hlen HA HPA HO BT
      generalize rdA b = L at *
      generalize mput L = P at *
      obtain ⟨pb, pe⟩ := P
      simp only at CP HG
      go_wp2_with fail
      refine CP.mono ?_
      rintro e w6 ⟨v6, rfl, o6, b6⟩
      clear CP
      have B6 : Hid (Below w.heap.size w w6) := HBW.out.trans (b6.mono HBW.out.size)
      have R6 : Hid (RI w6 w.heap.size (.slice ia j ic) L) := HOW.out.below b6
      have CE := equal_any v6 (.slice va nb vc) pb b w6 o6.sl (HS.out.kept B6.out)
      obtain ⟨pa, pc, rfl⟩ := o6.shape
      generalize pb.length = np at *
      clear o6 b6 HOW HBW
      by_cases hpe : pe = 0
      · subst hpe
        have HG2 : Hid (R = if pb = b then (L, 0) else ([], 4)) := by unfold Hid; have := HG.out; simpa using this
        clear HG
        go_wp2_with fail
        refine CE.mono ?_
        rintro e w7 ⟨rfl, hq⟩
        replace hq := hq.symm
        subst hq
        clear CE
        by_cases hq : pb = b
        · obtain rfl : R = (L, 0) := by have := HG2.out; rwa [if_pos hq] at this
          have t1 : decide (pb = b) = true := by simp [hq]
          rw [t1]
          clear HG2 hq t1
          go_wp2
          go_ret2
          exact ⟨_, rfl, R6.out, B6.out⟩
        · obtain rfl : R = ([], 4) := by have := HG2.out; rwa [if_neg hq] at this
          have t1 : decide (pb = b) = false := by simp [hq]
          rw [t1]
          clear HG2 hq t1
          go_wp2
          go_ret2
          exact ⟨_, rfl, RI.nil _ _, B6.out⟩
      · obtain rfl : R = ([], 4) := by have := HG.out; rwa [if_neg (fun h => hpe h.1)] at this
        have t0 : (pe != 0) = true := by simpa using hpe
        clear HG CE
        go_wp2
        go_ret2
        exact ⟨_, rfl, RI.nil _ _, B6.out⟩
end Go.Proofs.YtdnbiibijoggoaaGreatDoor

namespace Go.Proofs.YtdnbiibijoggoaaGreatDoor
open Go.RowKit
set_option maxRecDepth 100000

/-- An item that may be read back. -/
def It.good (x : It) : Prop := x.ok ∧ x.p.size ≤ 128 ∧ 0 ≤ x.n ∧ x.n ≤ 65536 ∧ (x.d = true → x = bare x.p)
theorem mck_good (l : List It) (hok : ∀ x ∈ l, x.ok) (h : mck l = 0) : l.length ≤ 64 ∧ ∀ x ∈ l, x.good := by
  unfold mck at h
  by_cases h1 : ckT (l.map std) = 0
  · rw [if_neg (by simpa using h1)] at h
    by_cases h2 : l.any outI = true
    · rw [if_pos h2] at h; cases h
    · rw [if_neg h2] at h
      by_cases h3 : l.any dirI = true
      · rw [if_pos h3] at h; cases h
      · obtain ⟨ha, hb⟩ := ckT_all _ h1
        rw [List.length_map] at ha hb
        refine ⟨ha, fun x hx => ⟨hok x hx, ?_, ?_⟩⟩
        · obtain ⟨i, hi, rfl⟩ := List.getElem_of_mem hx
          have hc := hb i hi
          have e : atE (l.map std) i = std l[i] := by rw [atE_eq _ i (by simpa using hi)]; simp
          unfold ckI at hc
          rw [e] at hc
          by_cases hk : chk (std l[i]).k = 0
          · unfold chk at hk
            by_cases hq : 128 < ((std l[i]).k).length
            · rw [if_pos hq] at hk; cases hk
            · have : ((std l[i]).k).length = l[i].p.size := dl_len _
              omega
          · rw [if_pos hk] at hc; exact absurd hc hk
        · have ho : outI x = false := by
            have := (List.any_eq_false.1 (by simpa using h2)) x hx
            simpa using this
          have hd : dirI x = false := by
            have := (List.any_eq_false.1 (by simpa using h3)) x hx
            simpa using this
          unfold outI at ho
          simp only [Bool.or_eq_false_iff, decide_eq_false_iff_not] at ho
          refine ⟨by omega, by omega, fun e => ?_⟩
          unfold dirI at hd
          rw [e] at hd
          simp only [Bool.true_and, Bool.not_eq_false'] at hd
          exact (sIt_iff _ _).1 hd
  · rw [if_pos h1] at h; exact absurd h h1
theorem lenOf_ne (n : Int) (h0 : 0 ≤ n) (h1 : n < 4611686018427387904) : Fi.lenOf n ≠ 0 := by
  have := Fi.size_len0 ⟨(List.replicate n.toNat (0 : UInt8)).toArray⟩ (by simp [ByteArray.size]; omega)
  have e : ((⟨(List.replicate n.toNat (0 : UInt8)).toArray⟩ : ByteArray).size : Int) = n := by simp [ByteArray.size]; omega
  rwa [e] at this
theorem rN_num (n m : Int) (ys : List Int) (h0 : 0 ≤ n) (h1 : n < 4611686018427387904) (hm : n ≤ m) : rN (Fi.numB n ++ ys) 0 m = (n, ys, 0) := by
  have hl := lenOf_ne n h0 h1
  obtain ⟨a, b, c⟩ := Fi.na_num n m ys hl hm
  unfold rN
  rw [if_pos rfl, a, b, c]
  have e : (Fi.lenOf n).toNat = (Fi.numB n).length := by have := Fi.numB_len n; omega
  rw [e, List.drop_left]
theorem rT_text (s : ByteArray) (m : Int) (ys : List Int) (h1 : s.size < 4611686018427387904) (hm : (s.size : Int) ≤ m) : rT (Fi.textB s ++ ys) 0 m = (Fi.sb s, ys, 0) := by
  obtain ⟨a, b, c⟩ := Fi.tx_text s m ys h1 hm
  unfold rT
  rw [if_pos rfl, a, b, c]
theorem rB_one (z : Int) (ys : List Int) : rB (z :: ys) 0 = (z, ys, 0) := by
  have h : (1 : Int) ≤ (ys.length : Int) + 1 := by omega
  unfold rB Fi.byV Fi.raN Fi.raE
  simp [h]
theorem rR_app (X ys : List Int) (n : Nat) (h : X.length = n) : rR (X ++ ys) 0 n = (X, ys, 0) := by
  have e1 : Fi.raE (X ++ ys) n = 0 := by unfold Fi.raE; rw [if_neg (by omega), if_neg (by rw [List.length_append]; omega)]
  have e2 : Fi.raN (X ++ ys) n = X.length := by unfold Fi.raN; rw [if_pos e1]; omega
  unfold rR
  rw [if_pos rfl, e1, e2, List.take_left, List.drop_left]
theorem ov32_self (X : List Int) (h : X.length = 32) : ov32 X = X := by
  unfold ov32
  rw [List.drop_of_length_le (by rw [z32_len]; omega), List.append_nil]
theorem tkI_lay (x : It) (h : x.good) (ys : List Int) : tkI (layI x ++ ys) 0 = (x, ys, 0) := by
  obtain ⟨hok, hp, h0, h1, hd⟩ := h
  unfold layI
  by_cases hdd : x.d = true
  · rw [if_pos hdd]
    have e : Fi.textB x.p ++ [1] ++ ys = Fi.textB x.p ++ (1 :: ys) := by simp
    rw [e]
    unfold tkI
    simp only [rT_text x.p 128 (1 :: ys) (by omega) (by omega), rB_one, if_true]
    rw [Fi.strB_sb, ← hd hdd]
  · rw [if_neg hdd]
    have e : Fi.textB x.p ++ ([0] ++ (Fi.numB x.n ++ x.s)) ++ ys = Fi.textB x.p ++ (0 :: (Fi.numB x.n ++ (x.s ++ ys))) := by simp
    rw [e]
    unfold tkI
    have q := rR_app x.s ys 32 hok.1
    simp only [rT_text x.p 128 _ (by omega : x.p.size < 4611686018427387904) (by omega), rB_one, rN_num x.n 65536 (x.s ++ ys) h0 (by omega) h1]
    rw [if_neg (by omega), show (32 : Int) = ((32 : Nat) : Int) from rfl, q, Fi.strB_sb]
    simp only
    rw [ov32_self x.s hok.1]
    have hf : x.d = false := by simpa using hdd
    obtain ⟨p, d, n, s⟩ := x
    simp only at hf
    subst hf
    rfl
theorem rds_first : ∀ (j : Nat) (xs : List Int) (e : Int), rds (j + 1) xs e = ((tkI xs e).1 :: (rds j (tkI xs e).2.1 (tkI xs e).2.2).1, (rds j (tkI xs e).2.1 (tkI xs e).2.2).2)
  | 0, xs, e => rfl
  | j + 1, xs, e => by
    rw [rds, rds_first j xs e]
    rfl
theorem rds_lay : ∀ (l : List It) (ys : List Int), (∀ x ∈ l, x.good) → rds l.length ((l.map layI).flatten ++ ys) 0 = (l, ys, 0)
  | [], ys, _ => rfl
  | x :: l, ys, h => by
    have ih := rds_lay l ys fun y hy => h y (by simp [hy])
    rw [List.length_cons, rds_first, List.map_cons, List.flatten_cons, List.append_assoc, tkI_lay x (h x (by simp))]
    simp only
    rw [ih]
/-- What is laid is read as it was, whatever stands behind. -/
theorem rdA_lay (l : List It) (ys : List Int) (hok : ∀ x ∈ l, x.ok) (h : mck l = 0) : rdA (layL l ++ ys) = l := by
  obtain ⟨hl, hg⟩ := mck_good l hok h
  unfold rdA layL
  rw [List.append_assoc, rN_num l.length 64 _ (by omega) (by omega) (by omega)]
  simp only [Int.toNat_natCast]
  rw [rds_lay l ys hg]
theorem mput_ok (l : List It) (h : mck l = 0) : mput l = (layL l, 0) := by unfold mput; rw [if_neg (by simpa using h)]
theorem mput_zero (l : List It) (h : (mput l).2 = 0) : mck l = 0 := by
  unfold mput at h
  by_cases h1 : mck l = 0
  · exact h1
  · rw [if_pos h1] at h; exact h
theorem mget_lay (l : List It) (hok : ∀ x ∈ l, x.ok) (h : mck l = 0) : mget (layL l) = (l, 0) := by
  have h1 := rdA_lay l [] hok h
  rw [List.append_nil] at h1
  unfold mget
  rw [h1, mput_ok l h, if_pos ⟨rfl, rfl⟩]
theorem mget_more (l : List It) (z : Int) (hok : ∀ x ∈ l, x.ok) (h : mck l = 0) : mget (layL l ++ [z]) = ([], 4) := by
  unfold mget
  rw [rdA_lay l [z] hok h, mput_ok l h, if_neg]
  rintro ⟨_, e⟩
  have := congrArg List.length e
  simp at this
theorem rds_ok : ∀ (j : Nat) (xs : List Int) (e : Int), Bt xs → (∀ x ∈ (rds j xs e).1, x.ok) ∧ Bt (rds j xs e).2.1
  | 0, xs, e, h => ⟨fun x hx => by simp [rds] at hx, h⟩
  | j + 1, xs, e, h => by
    obtain ⟨h1, h2⟩ := rds_ok j xs e h
    rw [rds]
    refine ⟨fun x hx => ?_, ?_⟩
    · rcases List.mem_append.1 hx with h' | h'
      · exact h1 x h'
      · simp at h'; subst h'; exact tkI_ok _ _ h2
    · show Bt (tkI (rds j xs e).2.1 (rds j xs e).2.2).2.1
      have a1 := rT_bt _ (rds j xs e).2.2 128 h2
      have a2 := rB_bt _ (rT (rds j xs e).2.1 (rds j xs e).2.2 128).2.2 a1
      unfold tkI
      simp only
      split
      · exact a2
      · have a3 := rN_bt _ (rB (rT (rds j xs e).2.1 (rds j xs e).2.2 128).2.1 (rT (rds j xs e).2.1 (rds j xs e).2.2 128).2.2).2.2 65536 a2
        unfold rR
        split
        · exact Fi.bytes_drop _ _ a3
        · exact a3
theorem rdA_ok (b : List Int) (h : Bt b) : ∀ x ∈ rdA b, x.ok := (rds_ok _ _ _ (rN_bt b 0 64 h)).1
theorem mget_less (l : List It) (hok : ∀ x ∈ l, x.ok) (h : mck l = 0) (hb : Bt ((layL l).take ((layL l).length - 1))) (hp : 0 < (layL l).length) : mget ((layL l).take ((layL l).length - 1)) = ([], 4) := by
  unfold mget
  rw [if_neg]
  rintro ⟨h1, h2⟩
  have hm := mput_zero _ h1
  rw [mput_ok _ hm] at h2
  have hk := rdA_ok _ hb
  have e : layL l = layL (rdA ((layL l).take ((layL l).length - 1))) ++ (layL l).drop ((layL l).length - 1) := by
    rw [show layL (rdA ((layL l).take ((layL l).length - 1))) = (layL l).take ((layL l).length - 1) from h2, List.take_append_drop]
  have e1 := rdA_lay l [] hok h
  rw [List.append_nil, e, rdA_lay _ _ hk hm] at e1
  have h3 : layL l = (layL l).take ((layL l).length - 1) := by rw [e1] at h2; exact h2
  have := congrArg List.length h3
  rw [List.length_take] at this
  omega
theorem layL_pos (l : List It) (h : mck l = 0) (hok : ∀ x ∈ l, x.ok) : 0 < (layL l).length := by
  obtain ⟨hl, _⟩ := mck_good l hok h
  unfold layL
  have h1 := Fi.numB_len (l.length : Int)
  have h2 := lenOf_ne (l.length : Int) (by omega) (by omega)
  rw [List.length_append]
  have : (Fi.numB (l.length : Int)).length ≠ 0 := fun e => h2 (by omega)
  omega
end Go.Proofs.YtdnbiibijoggoaaGreatDoor
