/-
  Frames as plain data: what Put lays and Get reads, plainly.
-/
import Derived.Test.YthhghehnaopmhaaDoorGq
namespace Go.Proofs.YthhghehnaopmhaaDoor
open Go.RowKit
set_option maxRecDepth 100000

/-- A frame as plain data. -/
structure Fm where
  k : Int
  id : Int
  n : Int
  cd : Int
  fin : Bool
  tx : ByteArray
  nc : List Int
  sp : List Sp
abbrev zn : List Int := List.replicate 16 0
def Fm.zero : Fm := ⟨0, 0, 0, 0, false, ⟨#[]⟩, zn, []⟩
def isK (k : Int) : Bool := decide (1 ≤ k) && decide (k ≤ 10)
def hI (k : Int) : Bool := k == 3 || k == 4 || k == 5 || k == 7
def hN (k : Int) : Bool := k == 2 || k == 3 || k == 4 || k == 6 || k == 7 || k == 8
def hF (k : Int) : Bool := k == 3
def hC (k : Int) : Bool := k == 4 || k == 5 || k == 10
def hO (k : Int) : Bool := k == 9
def hT (k : Int) : Bool := k == 3 || k == 9 || k == 10
def hS (k : Int) : Bool := k == 2
def mT (k : Int) : Int := if k = 3 then 1100 else if k = 9 then 256 else if k = 10 then 64 else 0
def finB (b : Bool) : Int := if b then 1 else 0
/-- What its types say of a plain form. -/
structure FK (p : Fm) : Prop where
  k0 : 0 ≤ p.k
  k1 : p.k < 256
  i0 : -9223372036854775808 ≤ p.id
  i1 : p.id ≤ 9223372036854775807
  n0 : -9223372036854775808 ≤ p.n
  n1 : p.n ≤ 9223372036854775807
  c0 : -9223372036854775808 ≤ p.cd
  c1 : p.cd ≤ 9223372036854775807
  nl : p.nc.length = 16
  nb : ∀ i, 0 ≤ p.nc.getD i 0 ∧ p.nc.getD i 0 < 256
/-- The parts that it may not have. -/
def badF (p : Fm) : Prop := (p.id ≠ 0 ∧ hI p.k = false) ∨ (p.n ≠ 0 ∧ hN p.k = false) ∨ (p.fin = true ∧ hF p.k = false) ∨ (p.cd ≠ 0 ∧ hC p.k = false) ∨ (p.nc ≠ zn ∧ hO p.k = false) ∨ (p.tx ≠ ⟨#[]⟩ ∧ hT p.k = false) ∨ (p.sp ≠ [] ∧ hS p.k = false)
def outF (p : Fm) : Prop := p.id < 0 ∨ 1048576 < p.id ∨ p.cd < 0 ∨ 65536 < p.cd ∨ p.n < 0 ∨ 1099511627776 < p.n
instance (p : Fm) : Decidable (badF p) := by unfold badF; infer_instance
instance (p : Fm) : Decidable (outF p) := by unfold outF; infer_instance
/-- What Check answers. -/
def chkM (p : Fm) : Int :=
  if isK p.k = false then 9
  else if badF p then 4
  else if outF p then 13
  else if hS p.k = true ∧ chkL p.sp ≠ 0 then chkL p.sp
  else if mT p.k < (p.tx.size : Int) then 5
  else if p.k = 3 ∧ 1099511627776 < p.n + (p.tx.size : Int) then 13
  else 0
/-- What Put lays. -/
def prtM (p : Fm) : List (List Int) :=
  [[p.k], (if hI p.k then nB p.id else []), (if hN p.k then nB p.n else []), (if hF p.k then [finB p.fin] else []), (if hC p.k then nB p.cd else []), (if hO p.k then p.nc else []), (if hT p.k then Fi.textB p.tx else []), (if hS p.k then putB p.sp else [])]
def putM (p : Fm) : List Int := (prtM p).flatten
/-- What may be has just its kind's parts, and numbers within bounds. -/
structure Ok (p : Fm) : Prop where
  kk : isK p.k = true
  nb : ¬ badF p
  no : ¬ outF p
  sp : hS p.k = true → Canon p.sp ∧ p.sp ≠ [] ∧ p.sp.length ≤ 64
  tx : (p.tx.size : Int) ≤ mT p.k
  st : p.k = 3 → p.n + (p.tx.size : Int) ≤ 1099511627776
theorem chkL_ok {l : List Sp} (h : chkL l = 0) : Canon l ∧ l ≠ [] ∧ l.length ≤ 64 := by
  unfold chkL at h
  by_cases h1 : 64 < l.length
  · rw [if_pos h1] at h; omega
  · rw [if_neg h1] at h
    by_cases h2 : l = [] ∨ setL l ≠ l
    · rw [if_pos h2] at h; omega
    · have h3 : l ≠ [] := fun e => h2 (.inl e)
      have h4 : setL l = l := Classical.not_not.1 fun e => h2 (.inr e)
      exact ⟨h4 ▸ (setL_spec l).1, h3, by omega⟩
theorem chkL_val (l : List Sp) : chkL l = 0 ∨ chkL l = 4 ∨ chkL l = 5 := by unfold chkL; split <;> (try split) <;> simp
theorem chkM_ok {p : Fm} (h : chkM p = 0) : Ok p := by
  unfold chkM at h
  by_cases h1 : isK p.k = false
  · rw [if_pos h1] at h; omega
  rw [if_neg h1] at h
  by_cases h2 : badF p
  · rw [if_pos h2] at h; omega
  rw [if_neg h2] at h
  by_cases h3 : outF p
  · rw [if_pos h3] at h; omega
  rw [if_neg h3] at h
  by_cases h4 : hS p.k = true ∧ chkL p.sp ≠ 0
  · rw [if_pos h4] at h; exact absurd h h4.2
  rw [if_neg h4] at h
  by_cases h5 : mT p.k < (p.tx.size : Int)
  · rw [if_pos h5] at h; omega
  rw [if_neg h5] at h
  by_cases h6 : p.k = 3 ∧ 1099511627776 < p.n + (p.tx.size : Int)
  · rw [if_pos h6] at h; omega
  exact ⟨by simpa using h1, h2, h3, fun e => chkL_ok (Classical.not_not.1 fun e' => h4 ⟨e, e'⟩), by omega, fun e => by have : ¬ (1099511627776 < p.n + (p.tx.size : Int)) := fun q => h6 ⟨e, q⟩; omega⟩
theorem chkM_of {p : Fm} (h : Ok p) : chkM p = 0 := by
  unfold chkM
  rw [if_neg (by rw [h.kk]; decide), if_neg h.nb, if_neg h.no, if_neg, if_neg (by have := h.tx; omega), if_neg (fun q => by have := h.st q.1; omega)]
  rintro ⟨a, b⟩
  obtain ⟨c1, c2, c3⟩ := h.sp a
  apply b
  unfold chkL
  rw [if_neg (by omega), if_neg (fun q => q.elim c2 (fun q => q (setL_canon c1)))]
/-- What a part that is not there has. -/
theorem Ok.d {p : Fm} (h : Ok p) : (hI p.k = false → p.id = 0) ∧ (hN p.k = false → p.n = 0) ∧ (hF p.k = false → p.fin = false) ∧ (hC p.k = false → p.cd = 0) ∧ (hO p.k = false → p.nc = zn) ∧ (hT p.k = false → p.tx = ⟨#[]⟩) ∧ (hS p.k = false → p.sp = []) := by
  have := h.nb
  unfold badF at this
  simp only [not_or, not_and] at this
  obtain ⟨a, b, c, d, e, f, g⟩ := this
  refine ⟨fun q => ?_, fun q => ?_, fun q => ?_, fun q => ?_, fun q => ?_, fun q => ?_, fun q => ?_⟩
  · exact Classical.not_not.1 fun r => a r q
  · exact Classical.not_not.1 fun r => b r q
  · cases hh : p.fin
    · rfl
    · exact absurd q (c hh)
  · exact Classical.not_not.1 fun r => d r q
  · exact Classical.not_not.1 fun r => e r q
  · exact Classical.not_not.1 fun r => f r q
  · exact Classical.not_not.1 fun r => g r q
theorem Ok.b {p : Fm} (h : Ok p) : (0 ≤ p.id ∧ p.id ≤ 1048576) ∧ (0 ≤ p.cd ∧ p.cd ≤ 65536) ∧ 0 ≤ p.n ∧ p.n ≤ 1099511627776 := by
  have := h.no
  unfold outF at this
  omega
/-! What is read one behind the other. -/
abbrev Rr (α : Type) := List Int → Int → α × List Int × Int
structure Good {α : Type} (A : Rr α) (v : α) (bs : List Int) : Prop where
  ok : ∀ ys, A (bs ++ ys) 0 = (v, ys, 0)
  cut : ∀ k, k < bs.length → (A (bs.take k) 0).2.2 = 3
def Stp {α : Type} (A : Rr α) : Prop := ∀ xs e, e ≠ 0 → (A xs e).2.2 = e
def opt {α : Type} (b : Bool) (A : Rr α) (d : α) : Rr α := if b then A else fun xs e => (d, xs, e)
theorem opt_good {α : Type} {A : Rr α} {v d : α} {bs : List Int} (b : Bool) (h : b = true → Good A v bs) (hd : b = false → v = d) : Good (opt b A d) v (if b then bs else []) := by
  cases b with
  | true => exact h rfl
  | false => rw [hd rfl]; exact ⟨fun ys => rfl, fun k hk => by simp at hk⟩
theorem opt_stp {α : Type} {A : Rr α} {d : α} (b : Bool) (h : Stp A) : Stp (opt b A d) := by
  cases b with
  | true => exact h
  | false => exact fun xs e he => rfl
def rNm (m : Int) : Rr Int := fun xs e => rN xs e m
theorem rNm_good {n m : Int} (h0 : 0 ≤ n) (h1 : n < 4611686018427387904) (hm : n ≤ m) : Good (rNm m) n (nB n) :=
  ⟨fun ys => rN_num h0 h1 hm ys, fun k hk => by have := rN_cut (m := m) h0 h1 k hk []; rw [List.append_nil] at this; exact this.2⟩
theorem rNm_stp (m : Int) : Stp (rNm m) := fun xs e he => by unfold rNm; rw [rN_stop he]
def rFn : Rr Int := fun xs e => if e = 0 then (if xs = [] then (0, xs, 3) else if 1 < xs.getD 0 0 then (0, xs.drop 1, 4) else (xs.getD 0 0, xs.drop 1, 0)) else (0, xs, e)
theorem rFn_good (b : Bool) : Good rFn (finB b) [finB b] := by
  refine ⟨fun ys => ?_, fun k hk => ?_⟩
  · unfold rFn
    rw [if_pos rfl, if_neg (by simp), if_neg (by cases b <;> simp [finB])]
    simp
  · have : k = 0 := by simp at hk; omega
    subst this
    rfl
theorem rFn_stp : Stp rFn := fun xs e he => by unfold rFn; rw [if_neg he]
def rOn : Rr (List Int) := fun xs e => if e = 0 then (if xs.length < 16 then (zn, xs, 3) else (xs.take 16, xs.drop 16, 0)) else (zn, xs, e)
theorem rOn_good {l : List Int} (h : l.length = 16) : Good rOn l l := by
  refine ⟨fun ys => ?_, fun k hk => ?_⟩
  · unfold rOn
    rw [if_pos rfl, if_neg (by rw [List.length_append]; omega), ← h]
    simp
  · unfold rOn
    rw [if_pos rfl, if_pos (by rw [List.length_take]; omega)]
theorem rOn_stp : Stp rOn := fun xs e he => by unfold rOn; rw [if_neg he]
def rTx (m : Int) : Rr (List Int) := fun xs e => if e = 0 then (Fi.txS xs m, Fi.txR xs m, Fi.txE xs m) else ([], xs, e)
theorem rTx_good {s : ByteArray} {m : Int} (h : (s.size : Int) ≤ m) (h1 : s.size < 4611686018427387904) : Good (rTx m) (Fi.sb s) (Fi.textB s) := by
  refine ⟨fun ys => ?_, fun k hk => ?_⟩
  · unfold rTx
    obtain ⟨e1, e2, e3⟩ := Fi.tx_text s m ys h1 h
    rw [if_pos rfl, e1, e2, e3]
  · unfold rTx
    rw [if_pos rfl]
    exact (Fi.tx_cut s m k h1 h hk).1
theorem rTx_stp (m : Int) : Stp (rTx m) := fun xs e he => by unfold rTx; rw [if_neg he]
/-- One behind the other. -/
def thn {α β : Type} (A : Rr α) (B : Rr β) : Rr (α × β) := fun xs e => (((A xs e).1, (B (A xs e).2.1 (A xs e).2.2).1), (B (A xs e).2.1 (A xs e).2.2).2)
theorem thn_stp {α β : Type} {A : Rr α} {B : Rr β} (ha : Stp A) (hb : Stp B) : Stp (thn A B) := fun xs e he => by
  unfold thn
  simp only
  rw [hb _ _ (by rw [ha xs e he]; exact he), ha xs e he]
theorem thn_good {α β : Type} {A : Rr α} {B : Rr β} {v : α} {u : β} {bs cs : List Int} (ha : Good A v bs) (hb : Good B u cs) (sb : Stp B) : Good (thn A B) (v, u) (bs ++ cs) := by
  refine ⟨fun ys => ?_, fun k hk => ?_⟩
  · unfold thn
    rw [List.append_assoc, ha.ok]
    simp only
    rw [hb.ok]
  · unfold thn
    simp only
    by_cases h : k < bs.length
    · rw [List.take_append_of_le_length (by omega), sb _ _ (by rw [ha.cut k h]; decide), ha.cut k h]
    · rw [List.take_append, List.take_of_length_le (by omega), ha.ok]
      simp only
      exact hb.cut _ (by rw [List.length_append] at hk; omega)
/-- All but Spans. -/
abbrev Hd := Int × Int × Int × Int × List Int × List Int
def ahR (k : Int) : Rr Hd := thn (opt (hI k) (rNm 1048576) 0) (thn (opt (hN k) (rNm 1099511627776) 0) (thn (opt (hF k) rFn 0) (thn (opt (hC k) (rNm 65536) 0) (thn (opt (hO k) rOn zn) (opt (hT k) (rTx (mT k)) [])))))
def hdB (p : Fm) : List Int := (if hI p.k then nB p.id else []) ++ ((if hN p.k then nB p.n else []) ++ ((if hF p.k then [finB p.fin] else []) ++ ((if hC p.k then nB p.cd else []) ++ ((if hO p.k then p.nc else []) ++ (if hT p.k then Fi.textB p.tx else [])))))
def hdV (p : Fm) : Hd := (p.id, p.n, finB p.fin, p.cd, p.nc, Fi.sb p.tx)
theorem putM_eq (p : Fm) : putM p = p.k :: (hdB p ++ (if hS p.k then putB p.sp else [])) := by
  unfold putM prtM hdB
  simp
theorem mT_le (k : Int) : 0 ≤ mT k ∧ mT k ≤ 1100 := by unfold mT; split <;> (try split) <;> (try split) <;> omega
theorem Ok.head {p : Fm} (h : Ok p) (hn : p.nc.length = 16) : Good (ahR p.k) (hdV p) (hdB p) := by
  obtain ⟨d1, d2, d3, d4, d5, d6, d7⟩ := h.d
  obtain ⟨b1, b2, b3⟩ := h.b
  have ht := h.tx
  have hm := mT_le p.k
  unfold ahR hdV hdB
  refine thn_good (opt_good _ (fun _ => rNm_good b1.1 (by omega) b1.2) d1) (thn_good (opt_good _ (fun _ => rNm_good b3.1 (by omega) b3.2) d2) (thn_good (opt_good _ (fun _ => rFn_good _) (fun q => by rw [d3 q]; rfl)) (thn_good (opt_good _ (fun _ => rNm_good b2.1 (by omega) b2.2) d4) (thn_good (opt_good _ (fun _ => rOn_good hn) d5) (opt_good _ (fun _ => rTx_good ht (by omega)) (fun q => by rw [d6 q]; rfl)) ?_) ?_) ?_) ?_) ?_
  · exact opt_stp _ (rTx_stp _)
  · exact thn_stp (opt_stp _ rOn_stp) (opt_stp _ (rTx_stp _))
  · exact thn_stp (opt_stp _ (rNm_stp _)) (thn_stp (opt_stp _ rOn_stp) (opt_stp _ (rTx_stp _)))
  · exact thn_stp (opt_stp _ rFn_stp) (thn_stp (opt_stp _ (rNm_stp _)) (thn_stp (opt_stp _ rOn_stp) (opt_stp _ (rTx_stp _))))
  · exact thn_stp (opt_stp _ (rNm_stp _)) (thn_stp (opt_stp _ rFn_stp) (thn_stp (opt_stp _ (rNm_stp _)) (thn_stp (opt_stp _ rOn_stp) (opt_stp _ (rTx_stp _)))))
/-- The plain form that was read. -/
def mkF (k : Int) (h : Hd) (l : List Sp) : Fm := ⟨k, h.1, h.2.1, h.2.2.2.1, h.2.2.1 == 1, Fi.strB h.2.2.2.2.2, h.2.2.2.2.1, l⟩
theorem mkF_hdV (p : Fm) : mkF p.k (hdV p) p.sp = p := by
  unfold mkF hdV
  simp only
  rw [Fi.strB_sb]
  cases p
  simp only [Fm.mk.injEq, true_and, and_true]
  rename_i fin _ _ _
  cases fin <;> rfl
def errM (e : Int) : Fm × Int × Int := (Fm.zero, 0, e)
def endM (p : Fm) (u : Int) : Fm × Int × Int := if chkM p = 0 then (p, u, 0) else errM (chkM p)
/-- What plainAhead answers. -/
def ahM (ys : List Int) : Fm × Int × Int :=
  if ys = [] then errM 3
  else if isK (ys.getD 0 0) = false then errM 9
  else
    let k := ys.getD 0 0
    let r := ahR k (ys.drop 1) 0
    if r.2.2 ≠ 0 then errM (if r.2.2 = 5 then 4 else r.2.2)
    else if hS k = true then
      (if (getP r.2.1).2.2 ≠ 0 then errM (getP r.2.1).2.2 else (mkF k r.1 (getP r.2.1).1, (ys.length : Int) - (r.2.1.length : Int) + (getP r.2.1).2.1, 0))
    else (mkF k r.1 [], (ys.length : Int) - (r.2.1.length : Int), 0)
/-- What Get answers. -/
def getM (xs : List Int) : Fm × Int × Int :=
  let r := ahM (xs.take 1150)
  if r.2.2 ≠ 0 then errM r.2.2 else endM r.1 r.2.1
theorem hdB_len {p : Fm} (h : Ok p) (hn : p.nc.length = 16) : 1 + (hdB p).length + (if hS p.k then putB p.sp else []).length ≤ 1150 := by
  have ht := h.tx
  have hm := mT_le p.k
  have l4 := (Fi.textB_len p.tx).1
  have q1 : (if hI p.k then nB p.id else []).length ≤ 8 := by split; exact numB_len8 _; simp
  have q2 : (if hN p.k then nB p.n else []).length ≤ 8 := by split; exact numB_len8 _; simp
  have q3 : (if hF p.k then [finB p.fin] else []).length ≤ 1 := by split <;> simp
  have q4 : (if hC p.k then nB p.cd else []).length ≤ 8 := by split; exact numB_len8 _; simp
  have q5 : (if hO p.k then p.nc else []).length ≤ 16 := by split; omega; simp
  have q6 : (if hT p.k then Fi.textB p.tx else []).length ≤ 1108 := by split; omega; simp
  by_cases hs : hS p.k = true
  · have l5 := putB_len (h.sp hs).2.2
    have e : p.k = 2 := by simpa [hS] using hs
    have e5 : hO p.k = false := by rw [e]; rfl
    have e6 : hT p.k = false := by rw [e]; rfl
    rw [if_pos hs]
    unfold hdB
    rw [if_neg (show ¬ hO p.k = true by rw [e5]; decide), if_neg (show ¬ hT p.k = true by rw [e6]; decide)]
    simp only [List.length_append, List.length_nil]
    omega
  · rw [if_neg hs]
    unfold hdB
    simp only [List.length_append, List.length_nil]
    omega
theorem getM_put {p : Fm} (h : Ok p) (hn : p.nc.length = 16) (ys : List Int) : getM (putM p ++ ys) = (p, (((putM p).length : Nat) : Int), 0) := by
  have hl := hdB_len h hn
  have hg := h.head hn
  have hsp := h.sp
  have e0 : (putM p ++ ys).take 1150 = p.k :: (hdB p ++ ((if hS p.k then putB p.sp else []) ++ ys.take (1150 - (putM p).length))) := by
    rw [List.take_append, putM_eq, List.take_of_length_le (by rw [List.length_cons, List.length_append]; omega)]
    simp
  generalize ys.take (1150 - (putM p).length) = zs at e0
  unfold getM
  rw [e0]
  have e1 : ahM (p.k :: (hdB p ++ ((if hS p.k then putB p.sp else []) ++ zs))) = (p, (((putM p).length : Nat) : Int), 0) := by
    unfold ahM
    rw [if_neg (by simp)]
    simp only [List.getD_cons_zero, List.drop_one, List.tail_cons]
    rw [if_neg (by rw [h.kk]; decide), hg.ok]
    simp only
    rw [if_neg (by decide), putM_eq]
    by_cases hs : hS p.k = true
    · obtain ⟨c1, c2, c3⟩ := hsp hs
      rw [if_pos hs, if_pos hs, getP_put c1 c2 c3]
      simp only
      rw [if_neg (by decide), mkF_hdV]
      simp only [List.length_cons, List.length_append]
      refine Prod.ext rfl (Prod.ext ?_ rfl)
      simp only
      omega
    · have hs' : hS p.k = false := by simpa using hs
      have e2 : p.sp = [] := h.d.2.2.2.2.2.2 hs'
      rw [if_neg hs, if_neg hs]
      have e3 := mkF_hdV p
      rw [e2] at e3
      rw [e3]
      simp only [List.length_cons, List.length_append, List.nil_append, List.append_nil]
      refine Prod.ext rfl (Prod.ext ?_ rfl)
      simp only
      omega
  simp only
  rw [e1]
  simp only
  rw [if_neg (by decide)]
  unfold endM
  rw [if_pos (chkM_of h)]
theorem getM_cut {p : Fm} (h : Ok p) (hn : p.nc.length = 16) (k : Nat) (h0 : 0 < k) (hk : k < (putM p).length) : getM ((putM p).take k) = errM 3 := by
  have hl := hdB_len h hn
  have hg := h.head hn
  have hsp := h.sp
  have hpl : (putM p).length = 1 + (hdB p).length + (if hS p.k then putB p.sp else []).length := by rw [putM_eq, List.length_cons, List.length_append]; omega
  obtain ⟨j, rfl⟩ : ∃ j, k = j + 1 := ⟨k - 1, by omega⟩
  have e0 : ((putM p).take (j + 1)).take 1150 = p.k :: (hdB p ++ (if hS p.k then putB p.sp else [])).take j := by
    rw [List.take_take, Nat.min_eq_right (by omega), putM_eq, List.take_succ_cons]
  unfold getM
  rw [e0]
  have e1 : ahM (p.k :: (hdB p ++ (if hS p.k then putB p.sp else [])).take j) = errM 3 := by
    unfold ahM
    rw [if_neg (by simp)]
    simp only [List.getD_cons_zero, List.drop_one, List.tail_cons]
    rw [if_neg (by rw [h.kk]; decide)]
    by_cases hj : j < (hdB p).length
    · rw [List.take_append_of_le_length (by omega)]
      have c := hg.cut j hj
      rw [if_pos (by rw [c]; decide), c]
      rfl
    · rw [List.take_append, List.take_of_length_le (by omega), hg.ok]
      simp only
      rw [if_neg (by decide)]
      by_cases hs : hS p.k = true
      · obtain ⟨c1, c2, c3⟩ := hsp hs
        rw [if_pos hs] at hpl
        rw [if_pos hs, if_pos hs, getP_cut c1 c2 c3 _ (by omega)]
        simp
      · rw [if_neg hs] at hpl
        simp at hpl
        omega
  simp only
  rw [e1]
  unfold errM
  simp
theorem getM_nil : getM [] = errM 3 := by unfold getM ahM errM; simp
theorem putM_pos (p : Fm) : 0 < (putM p).length := by rw [putM_eq]; simp
/-- How many bytes it used. -/
theorem Stp.ok {α : Type} {A : Rr α} (h : Stp A) {xs : List Int} {e : Int} (he : (A xs e).2.2 = 0) : e = 0 := by
  apply Classical.not_not.1
  intro q
  rw [h xs e q] at he
  exact q he
/-- All frames. -/
def allA : Nat → List Fm → List Int → List Fm × Int
  | 0, acc, _ => (acc, 0)
  | f + 1, acc, xs => if xs = [] then (acc, 0) else if (getM xs).2.2 ≠ 0 then ([], (getM xs).2.2) else allA f (acc ++ [(getM xs).1]) (xs.drop (getM xs).2.1.toNat)
def allM (xs : List Int) : List Fm × Int := allA xs.length [] xs
theorem allA_succ (f : Nat) (acc : List Fm) (xs : List Int) : allA (f + 1) acc xs = if xs = [] then (acc, 0) else if (getM xs).2.2 ≠ 0 then ([], (getM xs).2.2) else allA f (acc ++ [(getM xs).1]) (xs.drop (getM xs).2.1.toNat) := rfl
theorem allA_put : ∀ (l : List Fm) (f : Nat) (acc : List Fm) (zs : List Int), (∀ p ∈ l, Ok p ∧ p.nc.length = 16) → (l.map putM).flatten.length + zs.length ≤ f → allA f acc ((l.map putM).flatten ++ zs) = allA (f - l.length) (acc ++ l) zs
  | [], f, acc, zs, _, _ => by simp
  | p :: l, f, acc, zs, h, hf => by
    obtain ⟨h1, h2⟩ := h p (List.mem_cons_self ..)
    have hp := putM_pos p
    simp only [List.map_cons, List.flatten_cons, List.length_append] at hf
    obtain ⟨f', rfl⟩ : ∃ f', f = f' + 1 := ⟨f - 1, by omega⟩
    have e := getM_put h1 h2 ((l.map putM).flatten ++ zs)
    simp only [List.map_cons, List.flatten_cons, List.append_assoc]
    rw [allA_succ]
    rw [if_neg (by intro q; rw [List.append_eq_nil_iff] at q; rw [q.1] at hp; simp at hp), e]
    simp only
    rw [if_neg (by decide), Int.toNat_natCast, List.drop_left]
    rw [allA_put l f' (acc ++ [p]) zs (fun q hq => h q (List.mem_cons_of_mem _ hq)) (by omega)]
    rw [List.length_cons, Nat.add_sub_add_right, List.append_assoc, List.singleton_append]
theorem allA_nil (f : Nat) (acc : List Fm) : allA f acc [] = (acc, 0) := by cases f <;> simp [allA]
theorem allM_put (l : List Fm) (h : ∀ p ∈ l, Ok p ∧ p.nc.length = 16) : allM (l.map putM).flatten = (l, 0) := by
  have := allA_put l (l.map putM).flatten.length [] [] h (by simp)
  rw [List.append_nil] at this
  unfold allM
  rw [this, allA_nil, List.nil_append]
theorem allM_cut (l : List Fm) (p : Fm) (k : Nat) (h : ∀ p ∈ l, Ok p ∧ p.nc.length = 16) (hp : Ok p) (hn : p.nc.length = 16) (h0 : 0 < k) (hk : k < (putM p).length) : allM ((l.map putM).flatten ++ (putM p).take k) = ([], 3) := by
  have hl : l.length ≤ (l.map putM).flatten.length := by
    clear h
    induction l with
    | nil => simp
    | cons q l ih => have := putM_pos q; simp only [List.map_cons, List.flatten_cons, List.length_append, List.length_cons]; omega
  have htk : ((putM p).take k).length = k := by rw [List.length_take]; omega
  have := allA_put l ((l.map putM).flatten ++ (putM p).take k).length [] ((putM p).take k) h (by rw [List.length_append]; exact Nat.le_refl _)
  unfold allM
  rw [this]
  obtain ⟨f, hf⟩ : ∃ f, ((l.map putM).flatten ++ (putM p).take k).length - l.length = f + 1 := ⟨((l.map putM).flatten ++ (putM p).take k).length - l.length - 1, by rw [List.length_append, htk]; omega⟩
  rw [hf, allA_succ]
  rw [if_neg (by intro q; rw [q] at htk; simp at htk; omega), getM_cut hp hn k h0 hk]
  simp [errM]
end Go.Proofs.YthhghehnaopmhaaDoor
