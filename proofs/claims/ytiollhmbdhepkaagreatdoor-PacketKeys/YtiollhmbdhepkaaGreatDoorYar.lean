/-
  Frames as plain data: what Put lays and Get reads, plainly.
  What a nil Reader answers; two parts joined; bytes as a string.
  A plain form in memory; the table of shapes; the small functions.
  Bytes laid behind a row of the call's own.
  What the document's Num, Text and Join answer: just the bytes that field's do; nothing that was there is changed.
-/
import Derived.Test.YtiollhmbdhepkaaGreatDoorYap
import Derived.Test.YtiollhmbdhepkaaGreatDoorYag
import Derived.Test.YtiollhmbdhepkaaGreatDoorYaa
import Derived.Lib.AppendStr
import Derived.Test.YtiollhmbdhepkaaGreatDoorYaq
namespace Go.Proofs.YtiollhmbdhepkaaGreatDoor
open Go.RowKit
set_option maxRecDepth 100000

/-- A frame as plain data. -/
structure Fm where
  k : Int
  id : Int
  n : Int
  cd : Int
  fin : Bool
  tx : ByteArray
  nc : List Int
  sp : List Sp
abbrev zn : List Int := List.replicate 16 0
def Fm.zero : Fm := ⟨0, 0, 0, 0, false, ⟨#[]⟩, zn, []⟩
def isK (k : Int) : Bool := decide (1 ≤ k) && decide (k ≤ 10)
def hI (k : Int) : Bool := k == 3 || k == 4 || k == 5 || k == 7
def hN (k : Int) : Bool := k == 2 || k == 3 || k == 4 || k == 6 || k == 7 || k == 8
def hF (k : Int) : Bool := k == 3
def hC (k : Int) : Bool := k == 4 || k == 5 || k == 10
def hO (k : Int) : Bool := k == 9
def hT (k : Int) : Bool := k == 3 || k == 9 || k == 10
def hS (k : Int) : Bool := k == 2
def mT (k : Int) : Int := if k = 3 then 1100 else if k = 9 then 256 else if k = 10 then 64 else 0
def finB (b : Bool) : Int := if b then 1 else 0
/-- What its types say of a plain form. -/
structure FK (p : Fm) : Prop where
  k0 : 0 ≤ p.k
  k1 : p.k < 256
  i0 : -9223372036854775808 ≤ p.id
  i1 : p.id ≤ 9223372036854775807
  n0 : -9223372036854775808 ≤ p.n
  n1 : p.n ≤ 9223372036854775807
  c0 : -9223372036854775808 ≤ p.cd
  c1 : p.cd ≤ 9223372036854775807
  nl : p.nc.length = 16
  nb : ∀ i, 0 ≤ p.nc.getD i 0 ∧ p.nc.getD i 0 < 256
/-- The parts that it may not have. -/
def badF (p : Fm) : Prop := (p.id ≠ 0 ∧ hI p.k = false) ∨ (p.n ≠ 0 ∧ hN p.k = false) ∨ (p.fin = true ∧ hF p.k = false) ∨ (p.cd ≠ 0 ∧ hC p.k = false) ∨ (p.nc ≠ zn ∧ hO p.k = false) ∨ (p.tx ≠ ⟨#[]⟩ ∧ hT p.k = false) ∨ (p.sp ≠ [] ∧ hS p.k = false)
def outF (p : Fm) : Prop := p.id < 0 ∨ 1048576 < p.id ∨ p.cd < 0 ∨ 65536 < p.cd ∨ p.n < 0 ∨ 1099511627776 < p.n
instance (p : Fm) : Decidable (badF p) := by unfold badF; infer_instance
instance (p : Fm) : Decidable (outF p) := by unfold outF; infer_instance
/-- What Check answers. -/
def chkM (p : Fm) : Int :=
  if isK p.k = false then 9
  else if badF p then 4
  else if outF p then 13
  else if hS p.k = true ∧ chkL p.sp ≠ 0 then chkL p.sp
  else if mT p.k < (p.tx.size : Int) then 5
  else if p.k = 3 ∧ 1099511627776 < p.n + (p.tx.size : Int) then 13
  else 0
/-- What Put lays. -/
def prtM (p : Fm) : List (List Int) :=
  [[p.k], (if hI p.k then nB p.id else []), (if hN p.k then nB p.n else []), (if hF p.k then [finB p.fin] else []), (if hC p.k then nB p.cd else []), (if hO p.k then p.nc else []), (if hT p.k then Fi.textB p.tx else []), (if hS p.k then putB p.sp else [])]
def putM (p : Fm) : List Int := (prtM p).flatten
/-- What may be has just its kind's parts, and numbers within bounds. -/
structure Ok (p : Fm) : Prop where
  kk : isK p.k = true
  nb : ¬ badF p
  no : ¬ outF p
  sp : hS p.k = true → Canon p.sp ∧ p.sp ≠ [] ∧ p.sp.length ≤ 64
  tx : (p.tx.size : Int) ≤ mT p.k
  st : p.k = 3 → p.n + (p.tx.size : Int) ≤ 1099511627776
theorem chkL_ok {l : List Sp} (h : chkL l = 0) : Canon l ∧ l ≠ [] ∧ l.length ≤ 64 := by
  unfold chkL at h
  by_cases h1 : 64 < l.length
  · rw [if_pos h1] at h; omega
  · rw [if_neg h1] at h
    by_cases h2 : l = [] ∨ setL l ≠ l
    · rw [if_pos h2] at h; omega
    · have h3 : l ≠ [] := fun e => h2 (.inl e)
      have h4 : setL l = l := Classical.not_not.1 fun e => h2 (.inr e)
      exact ⟨h4 ▸ (setL_spec l).1, h3, by omega⟩
theorem chkM_ok {p : Fm} (h : chkM p = 0) : Ok p := by
  unfold chkM at h
  by_cases h1 : isK p.k = false
  · rw [if_pos h1] at h; omega
  rw [if_neg h1] at h
  by_cases h2 : badF p
  · rw [if_pos h2] at h; omega
  rw [if_neg h2] at h
  by_cases h3 : outF p
  · rw [if_pos h3] at h; omega
  rw [if_neg h3] at h
  by_cases h4 : hS p.k = true ∧ chkL p.sp ≠ 0
  · rw [if_pos h4] at h; exact absurd h h4.2
  rw [if_neg h4] at h
  by_cases h5 : mT p.k < (p.tx.size : Int)
  · rw [if_pos h5] at h; omega
  rw [if_neg h5] at h
  by_cases h6 : p.k = 3 ∧ 1099511627776 < p.n + (p.tx.size : Int)
  · rw [if_pos h6] at h; omega
  exact ⟨by simpa using h1, h2, h3, fun e => chkL_ok (Classical.not_not.1 fun e' => h4 ⟨e, e'⟩), by omega, fun e => by have : ¬ (1099511627776 < p.n + (p.tx.size : Int)) := fun q => h6 ⟨e, q⟩; omega⟩
theorem chkM_of {p : Fm} (h : Ok p) : chkM p = 0 := by
  unfold chkM
  rw [if_neg (by rw [h.kk]; decide), if_neg h.nb, if_neg h.no, if_neg, if_neg (by have := h.tx; omega), if_neg (fun q => by have := h.st q.1; omega)]
  rintro ⟨a, b⟩
  obtain ⟨c1, c2, c3⟩ := h.sp a
  apply b
  unfold chkL
  rw [if_neg (by omega), if_neg (fun q => q.elim c2 (fun q => q (setL_canon c1)))]
/-- What a part that is not there has. -/
theorem Ok.d {p : Fm} (h : Ok p) : (hI p.k = false → p.id = 0) ∧ (hN p.k = false → p.n = 0) ∧ (hF p.k = false → p.fin = false) ∧ (hC p.k = false → p.cd = 0) ∧ (hO p.k = false → p.nc = zn) ∧ (hT p.k = false → p.tx = ⟨#[]⟩) ∧ (hS p.k = false → p.sp = []) := by
  have := h.nb
  unfold badF at this
  simp only [not_or, not_and] at this
  obtain ⟨a, b, c, d, e, f, g⟩ := this
  refine ⟨fun q => ?_, fun q => ?_, fun q => ?_, fun q => ?_, fun q => ?_, fun q => ?_, fun q => ?_⟩
  · exact Classical.not_not.1 fun r => a r q
  · exact Classical.not_not.1 fun r => b r q
  · cases hh : p.fin
    · rfl
    · exact absurd q (c hh)
  · exact Classical.not_not.1 fun r => d r q
  · exact Classical.not_not.1 fun r => e r q
  · exact Classical.not_not.1 fun r => f r q
  · exact Classical.not_not.1 fun r => g r q
theorem Ok.b {p : Fm} (h : Ok p) : (0 ≤ p.id ∧ p.id ≤ 1048576) ∧ (0 ≤ p.cd ∧ p.cd ≤ 65536) ∧ 0 ≤ p.n ∧ p.n ≤ 1099511627776 := by
  have := h.no
  unfold outF at this
  omega
/-! What is read one behind the other. -/
abbrev Rr (α : Type) := List Int → Int → α × List Int × Int
structure Good {α : Type} (A : Rr α) (v : α) (bs : List Int) : Prop where
  ok : ∀ ys, A (bs ++ ys) 0 = (v, ys, 0)
  cut : ∀ k, k < bs.length → (A (bs.take k) 0).2.2 = 3
def Stp {α : Type} (A : Rr α) : Prop := ∀ xs e, e ≠ 0 → (A xs e).2.2 = e
def opt {α : Type} (b : Bool) (A : Rr α) (d : α) : Rr α := if b then A else fun xs e => (d, xs, e)
theorem opt_good {α : Type} {A : Rr α} {v d : α} {bs : List Int} (b : Bool) (h : b = true → Good A v bs) (hd : b = false → v = d) : Good (opt b A d) v (if b then bs else []) := by
  cases b with
  | true => exact h rfl
  | false => rw [hd rfl]; exact ⟨fun ys => rfl, fun k hk => by simp at hk⟩
theorem opt_stp {α : Type} {A : Rr α} {d : α} (b : Bool) (h : Stp A) : Stp (opt b A d) := by
  cases b with
  | true => exact h
  | false => exact fun xs e he => rfl
def rNm (m : Int) : Rr Int := fun xs e => rN xs e m
theorem rNm_good {n m : Int} (h0 : 0 ≤ n) (h1 : n < 4611686018427387904) (hm : n ≤ m) : Good (rNm m) n (nB n) :=
  ⟨fun ys => rN_num h0 h1 hm ys, fun k hk => by have := rN_cut (m := m) h0 h1 k hk []; rw [List.append_nil] at this; exact this.2⟩
theorem rNm_stp (m : Int) : Stp (rNm m) := fun xs e he => by unfold rNm; rw [rN_stop he]
def rFn : Rr Int := fun xs e => if e = 0 then (if xs = [] then (0, xs, 3) else if 1 < xs.getD 0 0 then (0, xs.drop 1, 4) else (xs.getD 0 0, xs.drop 1, 0)) else (0, xs, e)
theorem rFn_good (b : Bool) : Good rFn (finB b) [finB b] := by
  refine ⟨fun ys => ?_, fun k hk => ?_⟩
  · unfold rFn
    rw [if_pos rfl, if_neg (by simp), if_neg (by cases b <;> simp [finB])]
    simp
  · have : k = 0 := by simp at hk; omega
    subst this
    rfl
theorem rFn_stp : Stp rFn := fun xs e he => by unfold rFn; rw [if_neg he]
def rOn : Rr (List Int) := fun xs e => if e = 0 then (if xs.length < 16 then (zn, xs, 3) else (xs.take 16, xs.drop 16, 0)) else (zn, xs, e)
theorem rOn_good {l : List Int} (h : l.length = 16) : Good rOn l l := by
  refine ⟨fun ys => ?_, fun k hk => ?_⟩
  · unfold rOn
    rw [if_pos rfl, if_neg (by rw [List.length_append]; omega), ← h]
    simp
  · unfold rOn
    rw [if_pos rfl, if_pos (by rw [List.length_take]; omega)]
theorem rOn_stp : Stp rOn := fun xs e he => by unfold rOn; rw [if_neg he]
def rTx (m : Int) : Rr (List Int) := fun xs e => if e = 0 then (Fi.txS xs m, Fi.txR xs m, Fi.txE xs m) else ([], xs, e)
theorem rTx_good {s : ByteArray} {m : Int} (h : (s.size : Int) ≤ m) (h1 : s.size < 4611686018427387904) : Good (rTx m) (Fi.sb s) (Fi.textB s) := by
  refine ⟨fun ys => ?_, fun k hk => ?_⟩
  · unfold rTx
    obtain ⟨e1, e2, e3⟩ := Fi.tx_text s m ys h1 h
    rw [if_pos rfl, e1, e2, e3]
  · unfold rTx
    rw [if_pos rfl]
    exact (Fi.tx_cut s m k h1 h hk).1
theorem rTx_stp (m : Int) : Stp (rTx m) := fun xs e he => by unfold rTx; rw [if_neg he]
/-- One behind the other. -/
def thn {α β : Type} (A : Rr α) (B : Rr β) : Rr (α × β) := fun xs e => (((A xs e).1, (B (A xs e).2.1 (A xs e).2.2).1), (B (A xs e).2.1 (A xs e).2.2).2)
theorem thn_stp {α β : Type} {A : Rr α} {B : Rr β} (ha : Stp A) (hb : Stp B) : Stp (thn A B) := fun xs e he => by
  unfold thn
  simp only
  rw [hb _ _ (by rw [ha xs e he]; exact he), ha xs e he]
theorem thn_good {α β : Type} {A : Rr α} {B : Rr β} {v : α} {u : β} {bs cs : List Int} (ha : Good A v bs) (hb : Good B u cs) (sb : Stp B) : Good (thn A B) (v, u) (bs ++ cs) := by
  refine ⟨fun ys => ?_, fun k hk => ?_⟩
  · unfold thn
    rw [List.append_assoc, ha.ok]
    simp only
    rw [hb.ok]
  · unfold thn
    simp only
    by_cases h : k < bs.length
    · rw [List.take_append_of_le_length (by omega), sb _ _ (by rw [ha.cut k h]; decide), ha.cut k h]
    · rw [List.take_append, List.take_of_length_le (by omega), ha.ok]
      simp only
      exact hb.cut _ (by rw [List.length_append] at hk; omega)
/-- All but Spans. -/
abbrev Hd := Int × Int × Int × Int × List Int × List Int
def ahR (k : Int) : Rr Hd := thn (opt (hI k) (rNm 1048576) 0) (thn (opt (hN k) (rNm 1099511627776) 0) (thn (opt (hF k) rFn 0) (thn (opt (hC k) (rNm 65536) 0) (thn (opt (hO k) rOn zn) (opt (hT k) (rTx (mT k)) [])))))
def hdB (p : Fm) : List Int := (if hI p.k then nB p.id else []) ++ ((if hN p.k then nB p.n else []) ++ ((if hF p.k then [finB p.fin] else []) ++ ((if hC p.k then nB p.cd else []) ++ ((if hO p.k then p.nc else []) ++ (if hT p.k then Fi.textB p.tx else [])))))
def hdV (p : Fm) : Hd := (p.id, p.n, finB p.fin, p.cd, p.nc, Fi.sb p.tx)
theorem putM_eq (p : Fm) : putM p = p.k :: (hdB p ++ (if hS p.k then putB p.sp else [])) := by
  unfold putM prtM hdB
  simp
theorem mT_le (k : Int) : 0 ≤ mT k ∧ mT k ≤ 1100 := by unfold mT; split <;> (try split) <;> (try split) <;> omega
theorem Ok.head {p : Fm} (h : Ok p) (hn : p.nc.length = 16) : Good (ahR p.k) (hdV p) (hdB p) := by
  obtain ⟨d1, d2, d3, d4, d5, d6, d7⟩ := h.d
  obtain ⟨b1, b2, b3⟩ := h.b
  have ht := h.tx
  have hm := mT_le p.k
  unfold ahR hdV hdB
  refine thn_good (opt_good _ (fun _ => rNm_good b1.1 (by omega) b1.2) d1) (thn_good (opt_good _ (fun _ => rNm_good b3.1 (by omega) b3.2) d2) (thn_good (opt_good _ (fun _ => rFn_good _) (fun q => by rw [d3 q]; rfl)) (thn_good (opt_good _ (fun _ => rNm_good b2.1 (by omega) b2.2) d4) (thn_good (opt_good _ (fun _ => rOn_good hn) d5) (opt_good _ (fun _ => rTx_good ht (by omega)) (fun q => by rw [d6 q]; rfl)) ?_) ?_) ?_) ?_) ?_
  · exact opt_stp _ (rTx_stp _)
  · exact thn_stp (opt_stp _ rOn_stp) (opt_stp _ (rTx_stp _))
  · exact thn_stp (opt_stp _ (rNm_stp _)) (thn_stp (opt_stp _ rOn_stp) (opt_stp _ (rTx_stp _)))
  · exact thn_stp (opt_stp _ rFn_stp) (thn_stp (opt_stp _ (rNm_stp _)) (thn_stp (opt_stp _ rOn_stp) (opt_stp _ (rTx_stp _))))
  · exact thn_stp (opt_stp _ (rNm_stp _)) (thn_stp (opt_stp _ rFn_stp) (thn_stp (opt_stp _ (rNm_stp _)) (thn_stp (opt_stp _ rOn_stp) (opt_stp _ (rTx_stp _)))))
/-- The plain form that was read. -/
def mkF (k : Int) (h : Hd) (l : List Sp) : Fm := ⟨k, h.1, h.2.1, h.2.2.2.1, h.2.2.1 == 1, Fi.strB h.2.2.2.2.2, h.2.2.2.2.1, l⟩
theorem mkF_hdV (p : Fm) : mkF p.k (hdV p) p.sp = p := by
  unfold mkF hdV
  simp only
  rw [Fi.strB_sb]
  cases p
  simp only [Fm.mk.injEq, true_and, and_true]
  rename_i fin _ _ _
  cases fin <;> rfl
def errM (e : Int) : Fm × Int × Int := (Fm.zero, 0, e)
def endM (p : Fm) (u : Int) : Fm × Int × Int := if chkM p = 0 then (p, u, 0) else errM (chkM p)
/-- What plainAhead answers. -/
def ahM (ys : List Int) : Fm × Int × Int :=
  if ys = [] then errM 3
  else if isK (ys.getD 0 0) = false then errM 9
  else
    let k := ys.getD 0 0
    let r := ahR k (ys.drop 1) 0
    if r.2.2 ≠ 0 then errM (if r.2.2 = 5 then 4 else r.2.2)
    else if hS k = true then
      (if (getP r.2.1).2.2 ≠ 0 then errM (getP r.2.1).2.2 else (mkF k r.1 (getP r.2.1).1, (ys.length : Int) - (r.2.1.length : Int) + (getP r.2.1).2.1, 0))
    else (mkF k r.1 [], (ys.length : Int) - (r.2.1.length : Int), 0)
/-- What Get answers. -/
def getM (xs : List Int) : Fm × Int × Int :=
  let r := ahM (xs.take 1150)
  if r.2.2 ≠ 0 then errM r.2.2 else endM r.1 r.2.1
theorem hdB_len {p : Fm} (h : Ok p) (hn : p.nc.length = 16) : 1 + (hdB p).length + (if hS p.k then putB p.sp else []).length ≤ 1150 := by
  have ht := h.tx
  have hm := mT_le p.k
  have l4 := (Fi.textB_len p.tx).1
  have q1 : (if hI p.k then nB p.id else []).length ≤ 8 := by split; exact numB_len8 _; simp
  have q2 : (if hN p.k then nB p.n else []).length ≤ 8 := by split; exact numB_len8 _; simp
  have q3 : (if hF p.k then [finB p.fin] else []).length ≤ 1 := by split <;> simp
  have q4 : (if hC p.k then nB p.cd else []).length ≤ 8 := by split; exact numB_len8 _; simp
  have q5 : (if hO p.k then p.nc else []).length ≤ 16 := by split; omega; simp
  have q6 : (if hT p.k then Fi.textB p.tx else []).length ≤ 1108 := by split; omega; simp
  by_cases hs : hS p.k = true
  · have l5 := putB_len (h.sp hs).2.2
    have e : p.k = 2 := by simpa [hS] using hs
    have e5 : hO p.k = false := by rw [e]; rfl
    have e6 : hT p.k = false := by rw [e]; rfl
    rw [if_pos hs]
    unfold hdB
    rw [if_neg (show ¬ hO p.k = true by rw [e5]; decide), if_neg (show ¬ hT p.k = true by rw [e6]; decide)]
    simp only [List.length_append, List.length_nil]
    omega
  · rw [if_neg hs]
    unfold hdB
    simp only [List.length_append, List.length_nil]
    omega
theorem getM_put {p : Fm} (h : Ok p) (hn : p.nc.length = 16) (ys : List Int) : getM (putM p ++ ys) = (p, (((putM p).length : Nat) : Int), 0) := by
  have hl := hdB_len h hn
  have hg := h.head hn
  have hsp := h.sp
  have e0 : (putM p ++ ys).take 1150 = p.k :: (hdB p ++ ((if hS p.k then putB p.sp else []) ++ ys.take (1150 - (putM p).length))) := by
    rw [List.take_append, putM_eq, List.take_of_length_le (by rw [List.length_cons, List.length_append]; omega)]
    simp
  generalize ys.take (1150 - (putM p).length) = zs at e0
  unfold getM
  rw [e0]
  have e1 : ahM (p.k :: (hdB p ++ ((if hS p.k then putB p.sp else []) ++ zs))) = (p, (((putM p).length : Nat) : Int), 0) := by
    unfold ahM
    rw [if_neg (by simp)]
    simp only [List.getD_cons_zero, List.drop_one, List.tail_cons]
    rw [if_neg (by rw [h.kk]; decide), hg.ok]
    simp only
    rw [if_neg (by decide), putM_eq]
    by_cases hs : hS p.k = true
    · obtain ⟨c1, c2, c3⟩ := hsp hs
      rw [if_pos hs, if_pos hs, getP_put c1 c2 c3]
      simp only
      rw [if_neg (by decide), mkF_hdV]
      simp only [List.length_cons, List.length_append]
      refine Prod.ext rfl (Prod.ext ?_ rfl)
      simp only
      omega
    · have hs' : hS p.k = false := by simpa using hs
      have e2 : p.sp = [] := h.d.2.2.2.2.2.2 hs'
      rw [if_neg hs, if_neg hs]
      have e3 := mkF_hdV p
      rw [e2] at e3
      rw [e3]
      simp only [List.length_cons, List.length_append, List.nil_append, List.append_nil]
      refine Prod.ext rfl (Prod.ext ?_ rfl)
      simp only
      omega
  simp only
  rw [e1]
  simp only
  rw [if_neg (by decide)]
  unfold endM
  rw [if_pos (chkM_of h)]
theorem putM_pos (p : Fm) : 0 < (putM p).length := by rw [putM_eq]; simp
/-- How many bytes it used. -/
theorem Stp.ok {α : Type} {A : Rr α} (h : Stp A) {xs : List Int} {e : Int} (he : (A xs e).2.2 = 0) : e = 0 := by
  apply Classical.not_not.1
  intro q
  rw [h xs e q] at he
  exact q he
/-- All frames. -/
def allA : Nat → List Fm → List Int → List Fm × Int
  | 0, acc, _ => (acc, 0)
  | f + 1, acc, xs => if xs = [] then (acc, 0) else if (getM xs).2.2 ≠ 0 then ([], (getM xs).2.2) else allA f (acc ++ [(getM xs).1]) (xs.drop (getM xs).2.1.toNat)
def allM (xs : List Int) : List Fm × Int := allA xs.length [] xs
theorem allA_succ (f : Nat) (acc : List Fm) (xs : List Int) : allA (f + 1) acc xs = if xs = [] then (acc, 0) else if (getM xs).2.2 ≠ 0 then ([], (getM xs).2.2) else allA f (acc ++ [(getM xs).1]) (xs.drop (getM xs).2.1.toNat) := rfl
theorem allA_put : ∀ (l : List Fm) (f : Nat) (acc : List Fm) (zs : List Int), (∀ p ∈ l, Ok p ∧ p.nc.length = 16) → (l.map putM).flatten.length + zs.length ≤ f → allA f acc ((l.map putM).flatten ++ zs) = allA (f - l.length) (acc ++ l) zs
  | [], f, acc, zs, _, _ => by simp
  | p :: l, f, acc, zs, h, hf => by
    obtain ⟨h1, h2⟩ := h p (List.mem_cons_self ..)
    have hp := putM_pos p
    simp only [List.map_cons, List.flatten_cons, List.length_append] at hf
    obtain ⟨f', rfl⟩ : ∃ f', f = f' + 1 := ⟨f - 1, by omega⟩
    have e := getM_put h1 h2 ((l.map putM).flatten ++ zs)
    simp only [List.map_cons, List.flatten_cons, List.append_assoc]
    rw [allA_succ]
    rw [if_neg (by intro q; rw [List.append_eq_nil_iff] at q; rw [q.1] at hp; simp at hp), e]
    simp only
    rw [if_neg (by decide), Int.toNat_natCast, List.drop_left]
    rw [allA_put l f' (acc ++ [p]) zs (fun q hq => h q (List.mem_cons_of_mem _ hq)) (by omega)]
    rw [List.length_cons, Nat.add_sub_add_right, List.append_assoc, List.singleton_append]
theorem allA_nil (f : Nat) (acc : List Fm) : allA f acc [] = (acc, 0) := by cases f <;> simp [allA]
theorem allM_put (l : List Fm) (h : ∀ p ∈ l, Ok p ∧ p.nc.length = 16) : allM (l.map putM).flatten = (l, 0) := by
  have := allA_put l (l.map putM).flatten.length [] [] h (by simp)
  rw [List.append_nil] at this
  unfold allM
  rw [this, allA_nil, List.nil_append]
end Go.Proofs.YtiollhmbdhepkaaGreatDoor
namespace Go.Proofs.YtiollhmbdhepkaaGreatDoor.Fi
open Go.RowKit
set_option maxRecDepth 100000

theorem parts2 (w : World) (u1 u2 : Value) (X Y : List Int) (s1 : Sl w u1 X) (s2 : Sl w u2 Y) : Parts (w.alloc (.cells #[u1, u2] 34)) (some ⟨w.heap.size, 0, none⟩) [X, Y] := by
  have hb : Below w.heap.size w (w.alloc (.cells #[u1, u2] 34)) := (Below.refl _ _).alloc (Nat.le_refl _) _
  refine ⟨by simp, .inr ⟨_, 0, rfl, fun i hi => ?_⟩⟩
  have hi2 : i = 0 ∨ i = 1 := by simp at hi; omega
  rcases hi2 with rfl | rfl
  · exact ⟨u1, by rw [World.cell?_alloc_at _ _ _ _ rfl]; rfl, s1.kept hb⟩
  · exact ⟨u2, by rw [World.cell?_alloc_at _ _ _ _ rfl]; rfl, s2.kept hb⟩

/-- 'string(b)'. -/
theorem Sl.conv {w : World} {a : Option Addr} {len cap : Nat} {xs : List Int} (h : Sl w (.slice a len cap) xs) : (convert 34 9 (.slice a len cap)).run Tryz.prog w = .ok (.string (strB xs)) w := by
  obtain ⟨a', cap', e, h1, h2, h3, h4⟩ := h
  cases e
  have := conv_any a xs.length cap xs w (Nat.le_refl _) h4
  rwa [List.take_length] at this

end Go.Proofs.YtiollhmbdhepkaaGreatDoor.Fi
namespace Go.Proofs.YtiollhmbdhepkaaGreatDoor
open Go.RowKit
set_option maxRecDepth 100000

/-- The cells of a plain form, its Spans being some slice. -/
def plL (p : Fm) (sv : Value) : List Value := [.int .u8 p.k, .int .i64 p.id, .int .i64 p.n, .int .i64 p.cd, .bool p.fin, .string p.tx] ++ (p.nc.map (Value.int .u8) ++ [sv])
def plA (p : Fm) (sv : Value) : Array Value := (plL p sv).toArray
theorem plL_len {p : Fm} (h : p.nc.length = 16) (sv : Value) : (plL p sv).length = 23 := by simp [plL, h]
theorem plA_size {p : Fm} (h : p.nc.length = 16) (sv : Value) : (plA p sv).size = 23 := by unfold plA; rw [List.size_toArray]; exact plL_len h sv
theorem plL_one {p : Fm} {sv : Value} (hs : sv.oneCell' = true) : ∀ v ∈ plL p sv, v.oneCell' = true := fun v hv => by
  unfold plL at hv
  rcases List.mem_append.1 hv with h | h
  · simp only [List.mem_cons, List.not_mem_nil, or_false] at h
    rcases h with rfl | rfl | rfl | rfl | rfl | rfl <;> rfl
  · rcases List.mem_append.1 h with h | h
    · obtain ⟨x, _, rfl⟩ := List.mem_map.1 h
      rfl
    · rw [List.mem_singleton.1 h]
      exact hs
theorem infoP : (Tryz.prog.info? 33).map (·.size) = some 23 := by kernel_rfl
theorem infoNc : (Tryz.prog.info? 22).map (·.size) = some 16 := by kernel_rfl
/-- A block that is a plain form. -/
def PF (w : World) (g : Nat) (t : TypeId) (p : Fm) (sv : Value) : Prop := w.heap[g]? = some (.cells (plA p sv) t (0, 0))
theorem PF.new (w : World) (t : TypeId) (p : Fm) (sv : Value) : PF (w.alloc (.cells (plA p sv) t)) w.heap.size t p sv := heap_alloc_new _ _
theorem PF.kept {w w' : World} {g : Nat} {t : TypeId} {p : Fm} {sv : Value} (h : PF w g t p sv) (hb : Below w.heap.size w w') : PF w' g t p sv := blk_kept h hb (blk_lt h)
theorem PF.range {w : World} {g : Nat} {t : TypeId} {p : Fm} {sv : Value} (h : PF w g t p sv) : w.rangeAt g 0 (plL p sv) := blk_range h
/-- What a plain form's cells hold. -/
structure PC (w : World) (g : Nat) (p : Fm) (sv : Value) : Prop where
  c0 : w.cell? ⟨g, 0, none⟩ = some (.int .u8 p.k)
  c1 : w.cell? ⟨g, 1, none⟩ = some (.int .i64 p.id)
  c2 : w.cell? ⟨g, 2, none⟩ = some (.int .i64 p.n)
  c3 : w.cell? ⟨g, 3, none⟩ = some (.int .i64 p.cd)
  c4 : w.cell? ⟨g, 4, none⟩ = some (.bool p.fin)
  c5 : w.cell? ⟨g, 5, none⟩ = some (.string p.tx)
  c22 : w.cell? ⟨g, 22, none⟩ = some sv
  nc : w.rangeAt g 6 (p.nc.map (Value.int .u8))
theorem range_pc {w : World} {g : Nat} {p : Fm} {sv : Value} (h : w.rangeAt g 0 (plL p sv)) (hn : p.nc.length = 16) : PC w g p sv := by
  have hh : ∀ j v, (plL p sv)[j]? = some v → w.cell? ⟨g, j, none⟩ = some v := fun j v hv => by have := h j v hv; rwa [Nat.zero_add] at this
  refine ⟨hh 0 _ rfl, hh 1 _ rfl, hh 2 _ rfl, hh 3 _ rfl, hh 4 _ rfl, hh 5 _ rfl, hh 22 _ ?_, fun j v hv => ?_⟩
  · unfold plL
    rw [List.getElem?_append_right (by simp), List.getElem?_append_right (by simp [hn])]
    simp [hn]
  · have hj : j < 16 := by have := (List.getElem?_eq_some_iff.1 hv).1; rw [List.length_map, hn] at this; exact this
    refine hh (6 + j) v ?_
    unfold plL
    rw [List.getElem?_append_right (by simp), List.getElem?_append_left (by simp [hn]; omega)]
    simpa using hv
theorem PF.pc {w : World} {g : Nat} {t : TypeId} {p : Fm} {sv : Value} (h : PF w g t p sv) (hn : p.nc.length = 16) : PC w g p sv := range_pc h.range hn
/-- The numbers of the kinds' parts. -/
def pkN (k : Int) : Int := if k = 2 then 66 else if k = 3 then 39 else if k = 4 then 11 else if k = 5 then 9 else if k = 6 then 2 else if k = 7 then 3 else if k = 8 then 2 else if k = 9 then 48 else if k = 10 then 40 else 0
/-- The table of shapes, as it is laid. -/
def Shp (w : World) : Prop := ∀ k : Nat, k ≤ 10 → w.cell? ⟨0, k * 2, none⟩ = some (.int .i64 (pkN k)) ∧ w.cell? ⟨0, k * 2 + 1, none⟩ = some (.int .i64 (mT k))
theorem Shp.below {w w' : World} {B : Nat} (h : Shp w) (hb : Below B w w') (hB : 0 < B) : Shp w' := fun k hk => ⟨(hb.cell (p := ⟨0, k * 2, none⟩) hB).trans (h k hk).1, (hb.cell (p := ⟨0, k * 2 + 1, none⟩) hB).trans (h k hk).2⟩
theorem Shp.pos {w : World} (h : Shp w) : 0 < w.heap.size := World.block_lt_of_cell? w _ (h 0 (by omega)).1
/-- Both tables. -/
structure Tb (w : World) : Prop where
  s : Shp w
  v : Fi.Wid w
theorem Tb.below {w w' : World} {B : Nat} (h : Tb w) (hb : Below B w w') (hB : 2 ≤ B) : Tb w' := ⟨h.s.below hb (by omega), h.v.below hb (by omega)⟩
theorem Tb.pos {w : World} (h : Tb w) : 2 ≤ w.heap.size := by have := h.v.pos; omega
theorem Tb.next {w w' : World} (h : Tb w) (hb : Below w.heap.size w w') : Tb w' := h.below hb h.pos
def bandN (x y : Int) : Int := bits .and .i64 x y
set_option maxHeartbeats 1000000 in
theorem has_any (x y q : Int) (w : World) :
    Calls Tryz.prog 47 #[.agg #[.int .i64 x, .int .i64 y], .int .i64 q] w fun e w' => e = .returned (.bool (bandN x q != 0)) ∧ Below w.heap.size w w' := by
  have b1 := al_below w (.cells #[.int .i64 x, .int .i64 y] 83)
  have HB : Hid (Below w.heap.size w (w.alloc (.cells #[.int .i64 x, .int .i64 y] 83))) := b1
  clear b1
  unfold bandN
  go_enter Tryz.func47, Tryz.ntmps47
  go_wp2
  go_ret
  exact ⟨rfl, HB.out⟩
theorem band_tab : ∀ k : Fin 11, (bandN (pkN (k.val : Int)) 1 != 0) = hI k.val ∧ (bandN (pkN (k.val : Int)) 2 != 0) = hN k.val ∧ (bandN (pkN (k.val : Int)) 4 != 0) = hF k.val ∧ (bandN (pkN (k.val : Int)) 8 != 0) = hC k.val ∧ (bandN (pkN (k.val : Int)) 16 != 0) = hO k.val ∧ (bandN (pkN (k.val : Int)) 32 != 0) = hT k.val ∧ (bandN (pkN (k.val : Int)) 64 != 0) = hS k.val := by decide +kernel
/-- Whether a kind has a part: by its number. -/
theorem has_k (k : Int) (h0 : 0 ≤ k) (h1 : k ≤ 10) (w : World) (q : Int) (b : Bool)
    (hq : (q = 1 ∧ b = hI k) ∨ (q = 2 ∧ b = hN k) ∨ (q = 4 ∧ b = hF k) ∨ (q = 8 ∧ b = hC k) ∨ (q = 16 ∧ b = hO k) ∨ (q = 32 ∧ b = hT k) ∨ (q = 64 ∧ b = hS k)) :
    Calls Tryz.prog 47 #[.agg #[.int .i64 (pkN k), .int .i64 (mT k)], .int .i64 q] w fun e w' => e = .returned (.bool b) ∧ Below w.heap.size w w' := by
  have c := has_any (pkN k) (mT k) q w
  have t := band_tab ⟨k.toNat, by omega⟩
  simp only [Int.toNat_of_nonneg h0] at t
  obtain ⟨t1, t2, t3, t4, t5, t6, t7⟩ := t
  have e : (bandN (pkN k) q != 0) = b := by
    rcases hq with ⟨rfl, rfl⟩ | ⟨rfl, rfl⟩ | ⟨rfl, rfl⟩ | ⟨rfl, rfl⟩ | ⟨rfl, rfl⟩ | ⟨rfl, rfl⟩ | ⟨rfl, rfl⟩ <;> assumption
  rw [e] at c
  exact c
set_option maxHeartbeats 1000000 in
theorem isK_any (k : Int) (w : World) :
    Calls Tryz.prog 44 #[.int .u8 k] w fun e w' => e = .returned (.bool (isK k)) ∧ w' = w := by
  unfold isK
  by_cases h1 : 1 ≤ k
  · by_cases h2 : k ≤ 10
    · have t1 : decide ((1 : Int) ≤ k) = true := by simp [h1]
      have t2 : decide (k ≤ (10 : Int)) = true := by simp [h2]
      go_enter Tryz.func44, Tryz.ntmps44
      go_wp2
      go_ret
      exact ⟨by simp [h1, h2], rfl⟩
    · have t1 : decide ((1 : Int) ≤ k) = true := by simp [h1]
      have t2 : decide (k ≤ (10 : Int)) = false := by simp; omega
      go_enter Tryz.func44, Tryz.ntmps44
      go_wp2
      go_ret
      exact ⟨by simp, rfl⟩
  · have t1 : decide ((1 : Int) ≤ k) = false := by simp; omega
    go_enter Tryz.func44, Tryz.ntmps44
    go_wp2
    go_ret
    exact ⟨by simp, rfl⟩
set_option maxHeartbeats 1000000 in
theorem upTo_any (n m : Int) (w : World) :
    Calls Tryz.prog 46 #[.int .i64 n, .int .i64 m] w fun e w' => e = .returned (.bool (decide (0 ≤ n) && decide (n ≤ m))) ∧ w' = w := by
  by_cases h1 : 0 ≤ n
  · by_cases h2 : n ≤ m
    · have t1 : decide ((0 : Int) ≤ n) = true := by simp [h1]
      have t2 : decide (n ≤ m) = true := by simp [h2]
      go_enter Tryz.func46, Tryz.ntmps46
      go_wp2
      go_ret
      exact ⟨by simp [h1, h2], rfl⟩
    · have t1 : decide ((0 : Int) ≤ n) = true := by simp [h1]
      have t2 : decide (n ≤ m) = false := by simp; omega
      go_enter Tryz.func46, Tryz.ntmps46
      go_wp2
      go_ret
      exact ⟨by simp, rfl⟩
  · have t1 : decide ((0 : Int) ≤ n) = false := by simp; omega
    go_enter Tryz.func46, Tryz.ntmps46
    go_wp2
    go_ret
    exact ⟨by simp, rfl⟩
def fltE (e : Int) : Int := if e = 5 then 4 else e
set_option maxHeartbeats 1000000 in
theorem fault_any (g s : Nat) (xs : List Int) (e : Int) (w : World) (h : Fi.Rd w g s xs e) :
    Calls Tryz.prog 98 #[.pointer (some ⟨g, 0, none⟩)] w fun r w' => r = .returned (.int .i64 (fltE e)) ∧ w' = w := by
  have c := Fi.err_any g s xs e w h
  unfold fltE
  clear h
  by_cases h5 : e = 5
  · subst h5
    go_enter Tryz.func98, Tryz.ntmps98
    go_wp2_with fail
    refine c.mono ?_
    rintro e w1 ⟨rfl, e1⟩
    rw [e1]
    clear c e1
    go_wp2
    go_ret
    exact ⟨rfl, rfl⟩
  · have t1 : (e != 5) = true := by simpa using h5
    rw [if_neg h5]
    go_enter Tryz.func98, Tryz.ntmps98
    go_wp2_with fail
    refine c.mono ?_
    rintro e w1 ⟨rfl, e1⟩
    rw [e1]
    clear c e1
    go_wp2
    go_ret
    exact ⟨rfl, rfl⟩
end Go.Proofs.YtiollhmbdhepkaaGreatDoor
namespace Go.Proofs.YtiollhmbdhepkaaGreatDoor.Fi
open Go.RowKit
set_option maxRecDepth 100000

theorem wpList_append_sl {w : World} {ops : Array Oper} {rest : List Oper} {o : Oper} {a : Act} {Q : Exit → Act → World → Prop} (hgd : o.guard = none) (s x : Operand)
    (ho : o.op = .call { callee := .builtin .append, args := #[s, x], argTypes := #[34, 34] })
    (base : Nat) (v : Value) (n : Nat) (xs : List Value) (hs : a.eval s = v) (hown : w.ownsRow base 5 1 v n xs)
    (src : Value) (Z : List Int) (hx : a.eval x = src) (hsl : Sl w src Z) (hbig : n + Z.length ≤ 200000000000000) (hbase : base ≤ w.heap.size)
    (h : ∀ v' w', w'.ownsRow base 5 1 v' (n + Z.length) (xs ++ Z.map (Value.int .u8)) → w.grownBy w' v.ownBlock → wpList Tryz.prog ops Q rest (a.put o.dst v') w') : wpList Tryz.prog ops Q (o :: rest) a w := by
  obtain ⟨i0, hi, hz0, hz1, hz2⟩ := info_parts info5'
  obtain ⟨ad, cap, rfl, h1, h2, h3, h4⟩ := hsl
  cases ad with
  | none =>
    obtain rfl := h3 rfl
    obtain rfl : Z = [] := List.length_eq_zero_iff.1 (by omega)
    refine wpList_append_own_none hgd s x 34 ho base 5 i0 1 Tryz.underlying34 hi v n xs hs hown hx ?_
    exact h v w (by simpa using hown) ⟨rfl, rfl, rfl, Nat.le_refl _, fun _ _ _ => rfl⟩
  | some y =>
    refine wpList_append_own_wide w hgd s x 34 ho base 5 i0 (.int .u8 0) 1 1 Tryz.underlying34 hi hz0 hz1 hz2 rfl (by decide) v n xs hs hown y Z.length cap (Z.map (Value.int .u8)) hx (by rw [List.length_map, Nat.mul_one]) (news_row h4) (ints_one Z) (by unfold maxLen; omega) (by omega) hbase ?_
    intro v' w' ho' hg _
    exact h v' w' ho' hg

end Go.Proofs.YtiollhmbdhepkaaGreatDoor.Fi
namespace Go.Proofs.YtiollhmbdhepkaaGreatDoor.Fi
open Go.RowKit
set_option maxRecDepth 100000

theorem own_mono {w : World} {base base' : Nat} {e : TypeId} {size : Nat} {v : Value} {n : Nat} {xs : List Value} (h : w.ownsRow base e size v n xs) (hb : base' ≤ base) : w.ownsRow base' e size v n xs := by
  obtain ⟨h1, h2⟩ := h
  rcases h2 with h2 | ⟨g, cap, cur, hv, hg, r⟩
  · exact ⟨h1, .inl h2⟩
  · exact ⟨h1, .inr ⟨g, cap, cur, hv, Nat.le_trans hb hg, r⟩⟩

set_option maxHeartbeats 2000000 in
theorem ftext_own (s : ByteArray) (w : World) (hw : Wid w) (hs : s.size ≤ 140737488355328) :
    Calls Tryz.prog 79 #[.string s] w fun r w' => ∃ v, r = .returned v ∧ w'.ownsRow w.heap.size 5 1 v (textB s).length ((textB s).map (Value.int .u8)) ∧ Below w.heap.size w w' := by
  have c1 := fnum_any s.size w hw
  have hlen : (textB s).length ≤ 200000000000000 := by
    unfold textB
    rw [List.length_append, sb_len]
    have : (numB (s.size : Int)).length ≤ 8 := by
      unfold numB
      split
      · simp
      · next h =>
        obtain ⟨W, hW, hW0, hI, h1, h2, hn⟩ := pos_lim _ h
        rw [hW]
        show (pb _ W).length ≤ 8
        rw [pb_len _ W hI]
        rcases hI with rfl | rfl | rfl | rfl <;> omega
    omega
  go_enter Tryz.func79, Tryz.ntmps79
  go_wp2_with fail
  refine c1.mono ?_
  rintro e w1 ⟨v1, rfl, sl1, bel1⟩
  obtain ⟨a2, cap2, w2, cv, sl2, bel2⟩ := conv_str s w1 (by omega)
  have hP : ∀ u1 u2, Sl w2 u1 (numB s.size) → Sl w2 u2 (sb s) → Parts (w2.alloc (.cells #[u1, u2] 34)) (some ⟨w2.heap.size, 0, none⟩) [numB s.size, sb s] := fun u1 u2 s1 s2 => by
    have hb : Below w2.heap.size w2 (w2.alloc (.cells #[u1, u2] 34)) := (Below.refl _ _).alloc (Nat.le_refl _) _
    refine ⟨by simp, .inr ⟨_, 0, rfl, fun i hi => ?_⟩⟩
    have hi2 : i = 0 ∨ i = 1 := by simp at hi; omega
    rcases hi2 with rfl | rfl
    · exact ⟨u1, by rw [World.cell?_alloc_at _ _ _ _ rfl]; rfl, s1.kept hb⟩
    · exact ⟨u2, by rw [World.cell?_alloc_at _ _ _ _ rfl]; rfl, s2.kept hb⟩
  have sl1' := sl1.kept bel2
  obtain ⟨a1, cap1, rfl, _⟩ := sl1
  have cj := join_any _ 2 _ _ (hP _ _ sl1' sl2) (by simpa [textB] using hlen)
  have hfl : [numB s.size, sb s].flatten = textB s := by simp [textB]
  rw [hfl] at cj
  have hb12 := bel1.trans (bel2.mono bel1.size)
  have hb3 : Below w.heap.size w (w2.alloc (.cells #[.slice a1 (numB s.size).length cap1, .slice (some a2) s.size cap2] 34)) := hb12.alloc hb12.size _
  clear hP sl1' sl2 c1 hfl hlen
  simp only [List.length_cons, List.length_nil] at cj
  generalize (numB s.size).length = L1 at *
  obtain ⟨LT, hLT⟩ : ∃ LT, LT = (textB s).length := ⟨_, rfl⟩
  have HLT : Hid (LT = (textB s).length) := hLT
  rw [← hLT] at cj
  clear hLT
  clear bel1 bel2 hb12
  go_wp2_with (go_at_call 58; refine cj.mono ?_; rintro e w3 ⟨v3, rfl, own3, bel3⟩)
  go_ret
  exact ⟨v3, rfl, by have h := own_mono own3 hb3.size; rw [HLT.out] at h; exact h, hb3.trans (bel3.mono hb3.size)⟩

set_option maxHeartbeats 1000000 in
theorem rnumB_any (n : Int) (w : World) :
    Calls Tryz.prog 38 #[.int .i64 n] w fun r w' => ∃ v, r = .returned v ∧ w'.ownsRow w.heap.size 5 1 v (numB n).length ((numB n).map (Value.int .u8)) ∧ Below w.heap.size w w' := by
  by_cases h0 : lenOf n = 0
  · have hn : numB n = [] := by unfold numB; rw [if_pos h0]
    rw [hn]
    have c := rput_no n w h0
    clear hn h0
    go_enter Tryz.func38, Tryz.ntmps38
    go_wp2_with (go_at_call 72; refine c.mono ?_; rintro e w' ⟨rfl, rfl⟩)
    go_ret
    exact ⟨_, rfl, World.ownsRow_nil _ _ _ _, Below.refl _ _⟩
  · obtain ⟨W, hW, hW0, hI, h1, h2, hn⟩ := pos_lim n h0
    have c := rput_own n W w hW hW0
    have hl := pb_len n W hI
    rw [hn, hl]
    clear hn h0 hW hW0 hl
    go_enter Tryz.func38, Tryz.ntmps38
    go_wp2_with (go_at_call 72; refine c.mono ?_; rintro e w' ⟨g, cap, rfl, ho, hb⟩)
    go_ret
    exact ⟨_, rfl, by assumption, by assumption⟩

theorem strCells_sb (s : ByteArray) : Lib.strCells s = (sb s).map (Value.int .u8) := by
  unfold Lib.strCells sb
  rw [List.map_map]
  rfl

set_option maxHeartbeats 1000000 in
theorem rtextB_any (s : ByteArray) (w : World) (hs : s.size ≤ 140737488351232) :
    Calls Tryz.prog 42 #[.string s] w fun r w' => ∃ v, r = .returned v ∧ w'.ownsRow w.heap.size 5 1 v (textB s).length ((textB s).map (Value.int .u8)) ∧ Below w.heap.size w w' := by
  obtain ⟨i0, hi, hz0, hz1, hz2⟩ := info_parts info5'
  have c1 := rnumB_any s.size w
  have hnl : (numB (s.size : Int)).length ≤ 8 := by have nl := numB_len (s.size : Int); rcases lenOf_cases (s.size : Int) with h | h | h | h | h | h <;> omega
  have HT : Hid (∀ (w' : World) v, w'.ownsRow w.heap.size 5 1 v ((numB (s.size : Int)).length + s.size) ((numB (s.size : Int)).map (Value.int .u8) ++ Lib.strCells s) → w'.ownsRow w.heap.size 5 1 v (textB s).length ((textB s).map (Value.int .u8))) := fun w' v h => by
    unfold textB
    rw [List.length_append, sb_len, List.map_append, ← strCells_sb]
    exact h
  generalize (numB (s.size : Int)).length = L at *
  generalize (numB (s.size : Int)).map (Value.int .u8) = X at *
  go_enter Tryz.func42, Tryz.ntmps42
  go_wp2_with fail
  refine c1.mono ?_
  rintro e w1 ⟨v1, rfl, own1, bel1⟩
  clear c1
  have hob := own_base own1
  have hsz := bel1.size
  go_wp2_with (at_builtin; refine Lib.wpList_append_own_string _ rfl _ _ 34 9 rfl w.heap.size 5 i0 Tryz.underlying34 Tryz.underlying9 hi hz0 hz1 hz2 _ _ _ rfl own1 s rfl (by unfold maxLen; omega) (by omega) hsz ?_)
  intro v2 w2 own2 hgrow _
  have B2 : Below w.heap.size w w2 := bel1.grown hgrow hsz hob
  have HO : Hid (w2.ownsRow w.heap.size 5 1 v2 (textB s).length ((textB s).map (Value.int .u8))) := HT.out _ _ own2
  clear own1 own2 hgrow bel1 hob hsz HT
  go_wp2
  go_ret
  exact ⟨_, rfl, HO.out, B2⟩
end Go.Proofs.YtiollhmbdhepkaaGreatDoor.Fi
