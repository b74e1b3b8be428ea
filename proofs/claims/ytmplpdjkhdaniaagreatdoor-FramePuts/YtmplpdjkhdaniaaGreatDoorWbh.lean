/-
  What flatten tells of a frame.
  What a reader answers, at whatever error; a plain form whose parts are written.
  What plainAhead answers, plainly; its three results.
  What plainAhead answers, kind by kind.
  A nonce copied into a plain form.
-/
import Derived.Test.YtmplpdjkhdaniaaGreatDoorWbc
import Derived.Test.YtmplpdjkhdaniaaGreatDoorWbe
import Derived.Test.YtmplpdjkhdaniaaGreatDoorWbd
import Derived.Test.YtmplpdjkhdaniaaGreatDoorWbg
import Derived.Test.YtmplpdjkhdaniaaGreatDoorWav
import Derived.Deep.WholeRow
import Derived.Lib.BufferWrite
namespace Go.Proofs.YtmplpdjkhdaniaaGreatDoor
open Go.RowKit
set_option maxRecDepth 100000

theorem flatF_any (p : Fm) (sv : Value) (w : World) (hK : isK p.k = true) (hb : ¬ badF p) (hn : p.nc.length = 16) (hs : hS p.k = true → SSp w sv p.sp) (hl : p.sp.length ≤ 100000) :
    Calls Tryz.prog 32 #[frV p sv] w fun e w' => ∃ sv', e = .returned (.agg (plA p sv')) ∧ RSp w' w.heap.size sv' p.sp ∧ Below w.heap.size w w' := by
  have hnil : ∀ x, RSp x w.heap.size (.slice none 0 0) [] := fun x => RI.nil _ _ _ _
  obtain ⟨k, id, n, cd, fin, tx, nc, sp⟩ := p
  simp only at hK hb hn hs hl
  unfold badF at hb
  simp only [not_or, not_and] at hb
  obtain ⟨b1, b2, b3, b4, b5, b6, b7⟩ := hb
  have hk : k = 1 ∨ k = 2 ∨ k = 3 ∨ k = 4 ∨ k = 5 ∨ k = 6 ∨ k = 7 ∨ k = 8 ∨ k = 9 ∨ k = 10 := by unfold isK at hK; simp at hK; omega
  have d1 : hI k = false → id = 0 := fun q => Classical.not_not.1 fun r => b1 r q
  have d2 : hN k = false → n = 0 := fun q => Classical.not_not.1 fun r => b2 r q
  have d3 : hF k = false → fin = false := fun q => by cases fin; rfl; exact absurd q (b3 rfl)
  have d4 : hC k = false → cd = 0 := fun q => Classical.not_not.1 fun r => b4 r q
  have d5 : hO k = false → nc = zn := fun q => Classical.not_not.1 fun r => b5 r q
  have d6 : hT k = false → tx = ⟨#[]⟩ := fun q => Classical.not_not.1 fun r => b6 r q
  have d7 : hS k = false → sp = [] := fun q => Classical.not_not.1 fun r => b7 r q
  clear b1 b2 b3 b4 b5 b6 b7 hK
  rcases hk with rfl | rfl | rfl | rfl | rfl | rfl | rfl | rfl | rfl | rfl
  · obtain rfl := d1 rfl
    obtain rfl := d2 rfl
    obtain rfl := d3 rfl
    obtain rfl := d4 rfl
    obtain rfl := d5 rfl
    obtain rfl := d6 rfl
    obtain rfl := d7 rfl
    exact (flat1  w).mono fun _ w' ⟨e, b⟩ => ⟨_, e, hnil w', b⟩
  · obtain rfl := d1 rfl
    obtain rfl := d3 rfl
    obtain rfl := d4 rfl
    obtain rfl := d5 rfl
    obtain rfl := d6 rfl
    exact flat2 n sv sp w (hs rfl) hl
  · obtain rfl := d4 rfl
    obtain rfl := d5 rfl
    obtain rfl := d7 rfl
    exact (flat3 id n fin tx w).mono fun _ w' ⟨e, b⟩ => ⟨_, e, hnil w', b⟩
  · obtain rfl := d3 rfl
    obtain rfl := d5 rfl
    obtain rfl := d6 rfl
    obtain rfl := d7 rfl
    exact (flat4 id n cd w).mono fun _ w' ⟨e, b⟩ => ⟨_, e, hnil w', b⟩
  · obtain rfl := d2 rfl
    obtain rfl := d3 rfl
    obtain rfl := d5 rfl
    obtain rfl := d6 rfl
    obtain rfl := d7 rfl
    exact (flat5 id cd w).mono fun _ w' ⟨e, b⟩ => ⟨_, e, hnil w', b⟩
  · obtain rfl := d1 rfl
    obtain rfl := d3 rfl
    obtain rfl := d4 rfl
    obtain rfl := d5 rfl
    obtain rfl := d6 rfl
    obtain rfl := d7 rfl
    exact (flat6 n w).mono fun _ w' ⟨e, b⟩ => ⟨_, e, hnil w', b⟩
  · obtain rfl := d3 rfl
    obtain rfl := d4 rfl
    obtain rfl := d5 rfl
    obtain rfl := d6 rfl
    obtain rfl := d7 rfl
    exact (flat7 id n w).mono fun _ w' ⟨e, b⟩ => ⟨_, e, hnil w', b⟩
  · obtain rfl := d1 rfl
    obtain rfl := d3 rfl
    obtain rfl := d4 rfl
    obtain rfl := d5 rfl
    obtain rfl := d6 rfl
    obtain rfl := d7 rfl
    exact (flat8 n w).mono fun _ w' ⟨e, b⟩ => ⟨_, e, hnil w', b⟩
  · obtain rfl := d1 rfl
    obtain rfl := d2 rfl
    obtain rfl := d3 rfl
    obtain rfl := d4 rfl
    obtain rfl := d7 rfl
    obtain ⟨x0, x1, x2, x3, x4, x5, x6, x7, x8, x9, xa, xb, xc, xd, xe, xf, rfl⟩ := nc16 hn
    exact (flat9 x0 x1 x2 x3 x4 x5 x6 x7 x8 x9 xa xb xc xd xe xf tx w).mono fun _ w' ⟨e, b⟩ => ⟨_, e, hnil w', b⟩
  · obtain rfl := d1 rfl
    obtain rfl := d2 rfl
    obtain rfl := d3 rfl
    obtain rfl := d5 rfl
    obtain rfl := d7 rfl
    exact (flat10 cd tx w).mono fun _ w' ⟨e, b⟩ => ⟨_, e, hnil w', b⟩
end Go.Proofs.YtmplpdjkhdaniaaGreatDoor
namespace Go.Proofs.YtmplpdjkhdaniaaGreatDoor
open Go.RowKit Go.Shelf
set_option maxRecDepth 100000

theorem PF.set {w : World} {g : Nat} {t : TypeId} {p q : Fm} {sv sv' : Value} (h : PF w g t p sv) (j : Nat) (v : Value) (e : (plA p sv).setIfInBounds j v = plA q sv') : PF (w.setCell ⟨g, j, none⟩ v) g t q sv' := by
  unfold PF at *
  rw [← e]
  simp [World.setCell, Array.getElem?_modify, h]
theorem PF.frz {w : World} {g : Nat} {t : TypeId} {p : Fm} {sv : Value} (h : PF w g t p sv) (j : Nat) : w.frozen? ⟨g, j, none⟩ = false := by
  unfold PF at h
  simp [World.frozen?, h]
theorem PF.bt {w w' : World} {g g' : Nat} {t : TypeId} {p : Fm} {sv : Value} (h : PF w g t p sv) (hb : Bt g' w w') (hg : g ≠ g') : PF w' g t p sv := (hb.block g (blk_lt h) hg).trans h
def rBt : Rr Int := fun xs e => if e = 0 then (Fi.byV xs, xs.drop (Fi.raN xs 1), Fi.raE xs 1) else (0, xs, e)
def rRw : Rr (List Int) := fun xs e => if e = 0 then (xs.take (Fi.raN xs 16), xs.drop (Fi.raN xs 16), Fi.raE xs 16) else ([], xs, e)
theorem rdByte (g s : Nat) (xs : List Int) (e : Int) (w : World) (h : Fi.Rd w g s xs e) :
    Calls Tryz.prog 51 #[.pointer (some ⟨g, 0, none⟩)] w fun r w' => r = .returned (.int .u8 (rBt xs e).1) ∧ Fi.Rd w' g s (rBt xs e).2.1 (rBt xs e).2.2 ∧ Bt g w w' := by
  unfold rBt
  by_cases he : e = 0
  · subst he
    rw [if_pos rfl]
    exact (Fi.byte_any g s xs w h).mono fun _ _ ⟨a, b, c⟩ => ⟨a, b, Bt.off c⟩
  · rw [if_neg he]
    exact (Fi.byte_stop g s xs e w h he).mono fun _ w' ⟨a, b⟩ => by subst b; exact ⟨a, h, Bt.refl _ _⟩
theorem rdRaw (g s : Nat) (xs : List Int) (e : Int) (w : World) (h : Fi.Rd w g s xs e) :
    Calls Tryz.prog 54 #[.pointer (some ⟨g, 0, none⟩), .int .i64 16] w fun r w' => r = .returned (.string (Fi.strB (rRw xs e).1)) ∧ Fi.Rd w' g s (rRw xs e).2.1 (rRw xs e).2.2 ∧ Bt g w w' := by
  unfold rRw
  by_cases he : e = 0
  · subst he
    rw [if_pos rfl]
    exact (Fi.raw_any g s xs 16 w h).mono fun _ _ ⟨a, b, c⟩ => ⟨a, b, Bt.off c⟩
  · rw [if_neg he]
    exact (Fi.raw_stop g s xs e 16 w h he).mono fun _ w' ⟨a, b⟩ => by subst b; exact ⟨a, h, Bt.refl _ _⟩
theorem rdText (g s : Nat) (xs : List Int) (e m : Int) (w : World) (hw : Fi.Wid w) (h : Fi.Rd w g s xs e) :
    Calls Tryz.prog 55 #[.pointer (some ⟨g, 0, none⟩), .int .i64 m] w fun r w' => r = .returned (.string (Fi.strB (rTx m xs e).1)) ∧ Fi.Rd w' g s (rTx m xs e).2.1 (rTx m xs e).2.2 ∧ Bt g w w' := by
  unfold rTx
  by_cases he : e = 0
  · subst he
    rw [if_pos rfl]
    exact (Fi.text_any g s xs m w hw h).mono fun _ _ ⟨a, b, c⟩ => ⟨a, b, Bt.off c⟩
  · rw [if_neg he]
    exact (Fi.text_stop g s xs e m w h he).mono fun _ w' ⟨a, b⟩ => by subst b; exact ⟨a, h, Bt.refl _ _⟩
theorem rdNm (g s : Nat) (xs : List Int) (e m : Int) (w : World) (hw : Fi.Wid w) (h : Fi.Rd w g s xs e) :
    Calls Tryz.prog 53 #[.pointer (some ⟨g, 0, none⟩), .int .i64 m] w fun r w' => r = .returned (.int .i64 (rNm m xs e).1) ∧ Fi.Rd w' g s (rNm m xs e).2.1 (rNm m xs e).2.2 ∧ Bt g w w' :=
  (rdNum g s xs e m w hw h).mono fun _ _ ⟨a, b, c⟩ => ⟨a, b, Bt.off c⟩
theorem rBt_cons (x : Int) (ys : List Int) : rBt (x :: ys) 0 = (x, ys, 0) := by
  have e2 : Fi.raE (x :: ys) 1 = 0 := by unfold Fi.raE; rw [if_neg (by decide), if_neg (by simp; omega)]
  have e1 : Fi.raN (x :: ys) 1 = 1 := by unfold Fi.raN; rw [if_pos e2]; rfl
  unfold rBt
  rw [if_pos rfl, e1, e2]
  rfl
theorem rBt_nil : rBt [] 0 = (0, [], 3) := by decide
/-- The byte of Fin, read. -/
theorem rFn_bt (xs : List Int) (e : Int) : ((rBt xs e).1 ≤ 1 → rFn xs e = rBt xs e) ∧ (1 < (rBt xs e).1 → (rFn xs e).2.2 = 4) := by
  unfold rFn
  by_cases he : e = 0
  · subst he
    rw [if_pos rfl]
    cases xs with
    | nil => rw [rBt_nil, if_pos rfl]; exact ⟨fun _ => rfl, fun h => by simp at h⟩
    | cons x ys =>
      rw [rBt_cons, if_neg (by simp)]
      simp only [List.getD_cons_zero, List.drop_one, List.tail_cons]
      refine ⟨fun h => by rw [if_neg (by omega)], fun h => by rw [if_pos h]⟩
  · unfold rBt
    rw [if_neg he, if_neg he]
    exact ⟨fun _ => rfl, fun h => by simp at h⟩
/-- The nonce, read. -/
theorem rOn_rw (xs : List Int) (e : Int) (hb : ∀ i, 0 ≤ xs.getD i 0 ∧ xs.getD i 0 < 256) : (rOn xs e).2 = (rRw xs e).2 ∧ (((rRw xs e).1 = [] ∧ (rOn xs e).1 = zn) ∨ ((rRw xs e).1.length = 16 ∧ (rOn xs e).1 = (rRw xs e).1 ∧ ∀ i, 0 ≤ (rRw xs e).1.getD i 0 ∧ (rRw xs e).1.getD i 0 < 256)) := by
  unfold rOn rRw
  by_cases he : e = 0
  · subst he
    rw [if_pos rfl, if_pos rfl]
    by_cases h : xs.length < 16
    · have e2 : Fi.raE xs 16 = 3 := by unfold Fi.raE; rw [if_neg (by decide), if_pos (by omega)]
      have e1 : Fi.raN xs 16 = 0 := by unfold Fi.raN; rw [e2]; rfl
      rw [if_pos h, e1, e2]
      exact ⟨rfl, .inl ⟨rfl, rfl⟩⟩
    · have e2 : Fi.raE xs 16 = 0 := by unfold Fi.raE; rw [if_neg (by decide), if_neg (by omega)]
      have e1 : Fi.raN xs 16 = 16 := by unfold Fi.raN; rw [if_pos e2]; rfl
      rw [if_neg h, e1, e2]
      refine ⟨rfl, .inr ⟨by simp only [List.length_take]; omega, rfl, fun i => ?_⟩⟩
      simp only
      have := hb i
      rw [List.getD_eq_getElem?_getD, List.getElem?_take]
      split
      · rwa [List.getD_eq_getElem?_getD] at this
      · simp
  · rw [if_neg he, if_neg he]
    exact ⟨rfl, .inl ⟨rfl, rfl⟩⟩
theorem opt_t {α : Type} (A : Rr α) (d : α) : opt true A d = A := rfl
theorem opt_f {α : Type} (A : Rr α) (d : α) : opt false A d = fun xs e => (d, xs, e) := rfl
theorem ahM_cons (k : Int) (ys : List Int) (hk : isK k = true) : ahM (k :: ys) = if (ahR k ys 0).2.2 ≠ 0 then errM (fltE (ahR k ys 0).2.2) else if hS k = true then (if (getP (ahR k ys 0).2.1).2.2 ≠ 0 then errM (getP (ahR k ys 0).2.1).2.2 else (mkF k (ahR k ys 0).1 (getP (ahR k ys 0).2.1).1, ((k :: ys).length : Int) - ((ahR k ys 0).2.1.length : Int) + (getP (ahR k ys 0).2.1).2.1, 0)) else (mkF k (ahR k ys 0).1 [], ((k :: ys).length : Int) - ((ahR k ys 0).2.1.length : Int), 0) := by
  unfold ahM
  rw [if_neg (by simp)]
  simp only [List.getD_cons_zero, List.drop_one, List.tail_cons]
  rw [if_neg (by rw [hk]; decide)]
  rfl
theorem ahM_bad (k : Int) (ys : List Int) (hk : isK k = false) : ahM (k :: ys) = errM 9 := by
  unfold ahM
  rw [if_neg (by simp)]
  simp only [List.getD_cons_zero]
  rw [if_pos hk]
theorem ahM_nil : ahM [] = errM 3 := by unfold ahM; rw [if_pos rfl]
end Go.Proofs.YtmplpdjkhdaniaaGreatDoor
namespace Go.Proofs.YtmplpdjkhdaniaaGreatDoor
open Go.RowKit Go.Shelf
set_option maxRecDepth 100000

theorem ahM_err {k : Int} {ys : List Int} (hk : isK k = true) {e : Int} (h : (ahR k ys 0).2.2 = e) (he : e ≠ 0) : ahM (k :: ys) = errM (fltE e) := by
  rw [ahM_cons k ys hk, h, if_pos he]
theorem ahM_fin {k : Int} {ys : List Int} (hk : isK k = true) (hs : hS k = false) {H : Hd} {zs : List Int} {e : Int} (h : ahR k ys 0 = (H, zs, e)) (he : e = 0) : ahM (k :: ys) = (mkF k H [], ((k :: ys).length : Int) - (zs.length : Int), 0) := by
  subst he
  rw [ahM_cons k ys hk, h]
  simp only
  rw [if_neg (by decide), if_neg (by rw [hs]; decide)]
theorem ahM_sp {k : Int} {ys : List Int} (hk : isK k = true) (hs : hS k = true) {H : Hd} {zs : List Int} {e : Int} (h : ahR k ys 0 = (H, zs, e)) (he : e = 0) : ahM (k :: ys) = if (getP zs).2.2 ≠ 0 then errM (getP zs).2.2 else (mkF k H (getP zs).1, ((k :: ys).length : Int) - (zs.length : Int) + (getP zs).2.1, 0) := by
  subst he
  rw [ahM_cons k ys hk, h]
  simp only
  rw [if_neg (by decide), if_pos hs]
theorem ret_ctt {tmps : Array Value} {w : World} {g : Nat} {cs : Array Value} {t : TypeId} {fr : Nat × Nat} (hp : tmps.getD 2 undef = .pointer (some ⟨g, 0, none⟩))
    (hg : w.heap[g]? = some (.cells cs t fr)) (hl : (Tryz.prog.info? 33).map (·.size) = some cs.size) : (results Tryz.f36 tmps).run Tryz.prog w = .ok (.tuple #[.agg cs, tmps.getD 3 undef, tmps.getD 4 undef]) w := by
  have hld : (loadVar 33 ⟨g, 0, none⟩).run Tryz.prog w = .ok (.agg cs) w := run_loadVar_row w g t 33 cs fr _ hg Tryz.underlying33 rfl hl
  have hr : Tryz.f36.results = #[.cell 2 33, .tmp 3, .tmp 4] := rfl
  have hp' : tmps[2]?.getD undef = .pointer (some ⟨g, 0, none⟩) := by simpa using hp
  simp [results, hp', asAddr, hld]
theorem bt_set {g n : Nat} {w a : World} {j : Nat} {v : Value} (h : Below n w a) (hg : n ≤ g) : Below n w (a.setCell ⟨g, j, none⟩ v) := h.setCell hg _
theorem other_set {w : World} {g k j : Nat} {v : Value} {o : Obj} (h : w.heap[k]? = some o) (hk : k ≠ g) : (w.setCell ⟨g, j, none⟩ v).heap[k]? = some o := by
  rw [Below.heap_setCell _ _ _ _ (show k ≠ (⟨g, j, none⟩ : Addr).block from hk)]
  exact h
theorem rd_set {w : World} {g s b j : Nat} {v : Value} {xs : List Int} {e : Int} (h : Fi.Rd w g s xs e) (h1 : g ≠ b) (h2 : s ≠ b) : Fi.Rd (w.setCell ⟨b, j, none⟩ v) g s xs e :=
  rd_blk h (Below.heap_setCell _ _ _ _ (show g ≠ (⟨b, j, none⟩ : Addr).block from h1)) (Below.heap_setCell _ _ _ _ (show s ≠ (⟨b, j, none⟩ : Addr).block from h2))
end Go.Proofs.YtmplpdjkhdaniaaGreatDoor
namespace Go.Proofs.YtmplpdjkhdaniaaGreatDoor
open Go.RowKit Go.Shelf
set_option maxRecDepth 100000

theorem Rd_len {w : World} {g s : Nat} {xs : List Int} {e : Int} (h : Fi.Rd w g s xs e) : (xs.length : Int) ≤ 9223372036854775807 := by
  obtain ⟨a, cap, -, -, -, -, l1, l2, -⟩ := h
  unfold maxLen at l2
  omega
theorem ahR_fin4 {ys yI yN : List Int} {iv eI nv eN : Int} (h1 : rNm 1048576 ys 0 = (iv, yI, eI)) (h2 : rNm 1099511627776 yI eI = (nv, yN, eN)) (h3 : (rFn yN eN).2.2 = 4) : (ahR 3 ys 0).2.2 = 4 := by
  have e1 : hI 3 = true := by decide
  have e2 : hN 3 = true := by decide
  have e3 : hF 3 = true := by decide
  have e4 : hC 3 = false := by decide
  have e5 : hO 3 = false := by decide
  have e6 : hT 3 = true := by decide
  unfold ahR thn
  rw [e1, e2, e3, e4, e5, e6]
  simp only [opt_t, opt_f, h1, h2]
  rw [rTx_stp _ _ _ (by rw [h3]; decide), h3]
end Go.Proofs.YtmplpdjkhdaniaaGreatDoor
namespace Go.Proofs.YtmplpdjkhdaniaaGreatDoor
open Go.RowKit Go.Shelf
set_option maxRecDepth 100000

theorem wp_copy_str {P : Program} {w : World} {o : Oper} {a : Act} {K : Act → World → Prop} {Q : Exit → Act → World → Prop} (d s : Operand) (dT sT : TypeId)
    (ho : o.op = .call { callee := .builtin .copy, args := #[d, s], argTypes := #[dT, sT] }) (elem : TypeId) (hu : P.underlying dT = some (.slice elem)) (hsz : (P.info? elem).map (·.size) = some 1)
    (g off dLen dCap : Nat) (S : ByteArray) (hd : a.eval d = .slice (some ⟨g, off, none⟩) dLen dCap) (hs : a.eval s = .string S) (cur : Array Value) (t : TypeId) (hg : w.heap[g]? = some (.cells cur t (0, 0))) (hle : S.size ≤ dLen) (hfit : off + S.size ≤ cur.size)
    (h : K (a.put o.dst (goInt S.size)) (w.setRow g (cur.toList.take off ++ Lib.byteCells S.data.toList ++ cur.toList.drop (off + S.size)).toArray)) : o.wp P a w K Q := by
  have hrun := Lib.run_copy_row_string (P := P) w dT sT o.type elem g off dLen dCap S cur t hu hsz hg hle hfit
  unfold Oper.wp
  simp only [execOp, ho, resolve, invoke, builtin, Sem.run_bind, Sem.run_pure, List.map_toArray, List.map_cons, List.map_nil, hd, hs, hrun, Result.andThen_ok]
  exact h
theorem hid_intro {p : Prop} (h : p) : Hid p := h
theorem size5n : (Tryz.prog.info? 5).map (·.size) = some 1 := by kernel_rfl
theorem cells_bytes : ∀ {xs : List Int}, (∀ i, 0 ≤ xs.getD i 0 ∧ xs.getD i 0 < 256) → Lib.byteCells (Fi.strB xs).data.toList = xs.map (Value.int .u8) := fun {xs} h => by
  unfold Lib.byteCells Fi.strB
  rw [List.map_map]
  refine List.map_congr_left fun x hx => ?_
  obtain ⟨i, hi, rfl⟩ := List.getElem_of_mem hx
  have := h i
  simp only [List.getD, List.getElem?_eq_getElem hi, Option.getD_some] at this
  simp only [Function.comp]
  congr 1
  simp only [UInt8.toNat_ofNat']
  omega
theorem nonce_copy (k id n cd : Int) (fin : Bool) (tx : ByteArray) (sp : List Sp) (sv : Value) (ov NO : List Int) (h : (ov = [] ∧ NO = zn) ∨ (ov.length = 16 ∧ NO = ov ∧ ∀ i, 0 ≤ ov.getD i 0 ∧ ov.getD i 0 < 256)) :
    ((plA ⟨k, id, n, cd, fin, tx, zn, sp⟩ sv).toList.take 6 ++ Lib.byteCells (Fi.strB ov).data.toList ++ (plA ⟨k, id, n, cd, fin, tx, zn, sp⟩ sv).toList.drop (6 + (Fi.strB ov).size)).toArray = plA ⟨k, id, n, cd, fin, tx, NO, sp⟩ sv ∧ NO.length = 16 ∧ (Fi.strB ov).size ≤ 16 := by
  rcases h with ⟨rfl, rfl⟩ | ⟨h1, rfl, h2⟩
  · exact ⟨rfl, rfl, Nat.zero_le _⟩
  · have hs : (Fi.strB NO).size = 16 := by rw [Fi.strB_size]; exact h1
    refine ⟨?_, h1, by rw [hs]; exact Nat.le_refl _⟩
    rw [cells_bytes h2, hs]
    rfl
end Go.Proofs.YtmplpdjkhdaniaaGreatDoor
