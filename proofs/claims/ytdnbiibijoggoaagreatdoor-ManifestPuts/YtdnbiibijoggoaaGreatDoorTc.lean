/-
  Texts on Tp, Fd, Ce, Ct, in one.
-/
import Derived.Test.YtdnbiibijoggoaaGreatDoorPa
import Derived.Test.YtdnbiibijoggoaaGreatDoorTe
import Derived.Deep.QuietTactic
import Derived.BigQuiet
import Derived.Deep.RegionHeld3
namespace Go.Proofs.YtdnbiibijoggoaaGreatDoor
open Go.RowKit

/-- An entry's path, as bytes. -/
abbrev En.k (x : En) : List UInt8 := dl x.p
/-- What is wrong with a path as a directory behind entries. -/
def ckP (A : List En) (q : List UInt8) : Int := if q = [] then 0 else if A.findIdx (fun y => decide (y.k = q)) = A.length then 8 else if (atE A (A.findIdx (fun y => decide (y.k = q)))).d then 0 else 9
/-- What is wrong with the entry at a place. -/
def ckI (l : List En) (i : Nat) : Int :=
  if chk (atE l i).k ≠ 0 then chk (atE l i).k else if res (atE l i).k = true then 6 else if 65536 < (atE l i).z.length then 5 else if (atE l i).d = true ∧ 0 < (atE l i).z.length then 9
  else if 0 < i ∧ les (atE l (i - 1)).k (atE l i).k = false then 7 else ckP (l.take i) (par (atE l i).k)
/-- What is wrong with an entry behind others. -/
def ckE (A : List En) (x : En) : Int :=
  if chk x.k ≠ 0 then chk x.k else if res x.k = true then 6 else if 65536 < x.z.length then 5 else if x.d = true ∧ 0 < x.z.length then 9
  else if 0 < A.length ∧ les (atE A (A.length - 1)).k x.k = false then 7 else ckP A (par x.k)
theorem ckI_E (l : List En) (i : Nat) (h : i < l.length) : ckI l i = ckE (l.take i) (atE l i) := by
  have hl : (l.take i).length = i := by rw [List.length_take]; omega
  unfold ckI ckE
  rw [hl]
  by_cases h0 : 0 < i
  · rw [atE_take l i (i - 1) (by omega)]
  · have h1 : ¬ (0 < i ∧ les (atE l (i - 1)).k (atE l i).k = false) := fun e => h0 e.1
    have h2 : ¬ (0 < i ∧ les (atE (l.take i) (i - 1)).k (atE l i).k = false) := fun e => h0 e.1
    rw [if_neg h1, if_neg h2]
/-- What is wrong with the first of the entries from a place on that is not right. -/
def ckF (l : List En) : Nat → Nat → Int
  | _, 0 => 0
  | i, n + 1 => if ckI l i ≠ 0 then ckI l i else ckF l (i + 1) n
/-- What is wrong with a list. -/
def ckT (l : List En) : Int := if 64 < l.length then 5 else ckF l 0 l.length
theorem ckT_long (l : List En) (h : 64 < l.length) : ckT l = 5 := by unfold ckT; rw [if_pos h]
theorem ckF_hit (l : List En) : ∀ n i j, i ≤ j → j < i + n → (∀ k, i ≤ k → k < j → ckI l k = 0) → ckI l j ≠ 0 → ckF l i n = ckI l j
  | 0, i, j, h1, h2, _, _ => by omega
  | n + 1, i, j, h1, h2, h3, h4 => by
    unfold ckF
    by_cases h : i = j
    · subst h; rw [if_pos h4]
    · rw [if_neg (by rw [h3 i (Nat.le_refl _) (by omega)]; simp)]
      exact ckF_hit l n (i + 1) j (by omega) (by omega) (fun k a b => h3 k (by omega) b) h4
theorem ckF_ok (l : List En) : ∀ n i, (∀ k, i ≤ k → k < i + n → ckI l k = 0) → ckF l i n = 0
  | 0, _, _ => rfl
  | n + 1, i, h => by
    unfold ckF
    rw [if_neg (by rw [h i (Nat.le_refl _) (by omega)]; simp)]
    exact ckF_ok l n (i + 1) (fun k a b => h k (by omega) (by omega))
theorem ckT_hit (l : List En) (h : ¬ 64 < l.length) (j : Nat) (hj : j < l.length) (h3 : ∀ k, k < j → ckI l k = 0) (h4 : ckI l j ≠ 0) : ckT l = ckI l j := by
  unfold ckT
  rw [if_neg h]
  exact ckF_hit l _ 0 j (by omega) (by omega) (fun k _ b => h3 k b) h4
theorem ckT_ok (l : List En) (h : ¬ 64 < l.length) (h3 : ∀ k, k < l.length → ckI l k = 0) : ckT l = 0 := by
  unfold ckT
  rw [if_neg h]
  exact ckF_ok l _ 0 (fun k _ b => h3 k (by omega))
theorem ckT_all (l : List En) (h : ckT l = 0) : l.length ≤ 64 ∧ ∀ k, k < l.length → ckI l k = 0 := by
  rcases Nat.lt_or_ge 64 l.length with h1 | h1
  · rw [ckT_long l h1] at h; cases h
  · refine ⟨h1, fun k hk => ?_⟩
    have all : ∀ j, (∀ i, i < j → ckI l i = 0) ∨ ∃ i, i < j ∧ (∀ m, m < i → ckI l m = 0) ∧ ckI l i ≠ 0 := by
      intro j
      induction j with
      | zero => exact .inl (fun i hi => by omega)
      | succ j ih =>
        rcases ih with ih | ⟨i, h1, h2, h3⟩
        · by_cases hz : ckI l j = 0
          · refine .inl (fun i hi => ?_)
            rcases Nat.lt_or_ge i j with h | h
            · exact ih i h
            · rw [show i = j by omega]; exact hz
          · exact .inr ⟨j, by omega, ih, hz⟩
        · exact .inr ⟨i, by omega, h2, h3⟩
    rcases all l.length with h2 | ⟨i, h2, h3, h4⟩
    · exact h2 k hk
    · rw [ckT_hit l (by omega) i h2 h3 h4] at h
      exact absurd h h4
/-- Where an entry of a path stands, or would. -/
def plc (l : List En) (q : List UInt8) : Nat := if chk q ≠ 0 then l.length else l.findIdx (fun y => !les y.k q)
/-- The place of a path's entry, and whether there is one; of the first entry in it. -/
def fnd (l : List En) (q : List UInt8) : Nat := l.findIdx (fun y => decide (y.k = q))
def fnc (l : List En) (q : List UInt8) : Nat := l.findIdx (fun y => decide (par y.k = q))
/-- Whether the place of an entry is taken by one of its path. -/
def has (l : List En) (x : En) : Bool := decide (plc l x.k < l.length) && decide ((atE l (plc l x.k)).k = x.k)
/-- The list with an entry in its place. -/
def mad (l : List En) (x : En) : List En := l.take (plc l x.k) ++ [x] ++ l.drop (if has l x then plc l x.k + 1 else plc l x.k)
/-- What Put answers. -/
def put (l : List En) (x : En) : List En × Int := if ckT l ≠ 0 then ([], ckT l) else if has l x = true ∧ (atE l (plc l x.k)).d ≠ x.d then ([], 9) else if ckT (mad l x) ≠ 0 then ([], ckT (mad l x)) else (mad l x, 0)
/-- What Remove answers. -/
def rem (l : List En) (q : List UInt8) : List En × Int := if ckT l ≠ 0 then ([], ckT l) else if fnd l q = l.length then ([], 8) else if fnc l q < l.length then ([], 10) else (l.take (fnd l q) ++ l.drop (fnd l q + 1), 0)
/-- What Get answers. -/
def got (l : List En) (q : List UInt8) : En := if fnd l q = l.length then e0 else atE l (fnd l q)
def gotB (l : List En) (q : List UInt8) : Bool := decide (fnd l q ≠ l.length)
/-- What is in a directory. -/
def chi (l : List En) (q : List UInt8) : List ByteArray := (l.filter fun y => decide (par y.k = q)).map En.p
/-- What is not reserved. -/
def vis (l : List En) : List En := l.filter fun y => !res y.k
end Go.Proofs.YtdnbiibijoggoaaGreatDoor

namespace Go.Proofs.YtdnbiibijoggoaaGreatDoor
open Go.RowKit

set_option maxHeartbeats 1000000 in
theorem hasPath_any (q : ByteArray) (w : World) :
    Calls Tryz.prog 97 #[.string q] w fun e w' => ∃ g, e = .returned (.func (.func 115) #[] #[.pointer (some ⟨g, 0, none⟩)]) ∧ w'.cell? ⟨g, 0, none⟩ = some (.string q) ∧ Below w.heap.size w w' := by
  have hmf : ∀ (fn : Fn) (first cap : Array Value) (w : World), (Instr.makeFunc fn first cap).run Tryz.prog w = .ok (.func fn first cap) w := fun _ _ _ _ => rfl
  have B : Hid (Below w.heap.size w (w.alloc (.cells #[.string q] 9))) := (Below.refl _ _).alloc (Nat.le_refl _) _
  go_enter Tryz.func97, Tryz.ntmps97
  go_wp2
  go_ret
  exact ⟨_, rfl, by rw [World.cell?_alloc_at _ _ _ _ rfl]; rfl, B.out⟩
set_option maxHeartbeats 1000000 in
theorem has1_any (v : Value) (x : En) (q : ByteArray) (g : Nat) (w : World) (h : EV w v x) (hc : w.cell? ⟨g, 0, none⟩ = some (.string q)) :
    Calls Tryz.prog 115 #[v, .pointer (some ⟨g, 0, none⟩)] w fun e w' => e = .returned (.bool (decide (x.p = q))) ∧ Below w.heap.size w w' := by
  obtain ⟨ua, un, uc, rfl, _⟩ := h
  have HR : Hid ((x.p.toList == q.toList) = decide (x.p = q)) := tl_beq _ _
  have hc2 : (w.alloc (.cells #[.string x.p, .bool x.d, .slice ua un uc] 54)).cell? ⟨g, 0, none⟩ = some (.string q) := by rw [World.cell?_alloc_past _ _ _ (World.block_lt_of_cell? _ _ hc)]; exact hc
  have B : Hid (Below w.heap.size w (w.alloc (.cells #[.string x.p, .bool x.d, .slice ua un uc] 54))) := (Below.refl _ _).alloc (Nat.le_refl _) _
  generalize decide (x.p = q) = r at *
  generalize x.p = xp at *
  generalize x.d = xd at *
  go_enter Tryz.func115, Tryz.ntmps115
  go_wp2
  go_ret
  exact ⟨by rw [← HR.out]; rfl, B.out⟩
set_option maxHeartbeats 1000000 in
theorem findH (v : Value) (l : List En) (f : En → Bool) (g : Nat) (w : World) (h : ES w v l) (hl : Lt l)
    (hf : ∀ (W : World) (u : Value) (x : En), Below w.heap.size w W → EV W u x → x.p.size ≤ 1000 → Calls Tryz.prog 115 #[u, .pointer (some ⟨g, 0, none⟩)] W fun e w' => e = .returned (.bool (f x)) ∧ Below W.heap.size W w') :
    Calls Tryz.prog 96 #[v, .func (.func 115) #[] #[.pointer (some ⟨g, 0, none⟩)]] w fun e w' => e = .returned (.int .i64 (l.findIdx f)) ∧ Below w.heap.size w w' := by
  obtain ⟨a, c, rfl, g2, _, _⟩ := h.shape
  have HS : Hid (ES w (.slice a l.length c) l) := h
  have HL : Hid (Lt l) := hl
  have HF : Hid (∀ (W : World) (u : Value) (x : En), Below w.heap.size w W → EV W u x → x.p.size ≤ 1000 → Calls Tryz.prog 115 #[u, .pointer (some ⟨g, 0, none⟩)] W fun e w' => e = .returned (.bool (f x)) ∧ Below W.heap.size W w') := hf
  have hn := hl.1
  have HHIT : Hid (∀ j, j < l.length → (∀ k, k < j → f (atE l k) = false) → f (atE l j) = true → l.findIdx f = j) := findIdx_of l f
  have HNO : Hid ((∀ k, k < l.length → f (atE l k) = false) → l.findIdx f = l.length) := findIdx_none l f
  obtain ⟨n, hn'⟩ : ∃ n, n = l.length := ⟨_, rfl⟩
  have HN : Hid (n = l.length) := hn'
  rw [← hn'] at HS HHIT HNO g2 hn ⊢
  clear h hl hf hn'
  generalize l.findIdx f = r at *
  go_enter Tryz.func96, Tryz.ntmps96
  go_wp2
  go_loopw [9] (fun q wr => ∃ j : Nat, j ≤ n ∧ q = .int .i64 j ∧ (∀ k, k < j → f (atE l k) = false) ∧ Below w.heap.size w wr) (fun q _ => n - (intOf q).toNat)
  case atStart => exact ⟨0, by omega, rfl, fun k hk => by omega, Below.refl _ _⟩
  case round =>
    obtain ⟨j, hj, rfl, ok, bel⟩ := hrel
    have HB : Hid (Below w.heap.size w wr) := bel
    have OK : Hid (∀ k, k < j → f (atE l k) = false) := ok
    clear bel ok
    by_cases hlt : j < n
    · have lt2 : (j : Int) < (n : Int) := by omega
      obtain ⟨b, off, ua, un, uc, rfl, c1, c2, c3, hun, s1⟩ := (HS.out.kept HB.out).at j (by rw [← HN.out]; exact hlt)
      have q1 : IntKind.i64.wrap ((j : Int) + 1) = ((j + 1 : Nat) : Int) := by simp [IntKind.wrap, IntKind.bits, IntKind.signed]; omega
      obtain ⟨W2, hW2⟩ : ∃ W2, W2 = wr.alloc (.cells #[.string (atE l j).p, .bool (atE l j).d, .slice ua un uc] 54) := ⟨_, rfl⟩
      have b2 : Below wr.heap.size wr W2 := by rw [hW2]; exact (Below.refl _ _).alloc (Nat.le_refl _) _
      have B2 : Hid (Below w.heap.size w W2) := HB.out.trans (b2.mono HB.out.size)
      have CS := HF.out W2 (.agg #[.string (atE l j).p, .bool (atE l j).d, .slice ua un uc]) (atE l j) B2.out ⟨ua, un, uc, rfl, s1.kept b2⟩ (HL.out.at j).1
      have HT : Hid (f (atE l j) = true → r = j) := HHIT.out j hlt OK.out
      have NX : Hid (f (atE l j) = false → ∀ k, k < j + 1 → f (atE l k) = false) := fun h k hk => by
        rcases Nat.lt_or_ge k j with h' | h'
        · exact OK.out k h'
        · rw [show k = j by omega]; exact h
      clear b2 s1 OK HHIT HNO hun
      generalize atE l j = x at *
      generalize hsb : f x = sb at *
      clear hsb
      go_wp2_with fail
      rw [← hW2]
      clear hW2
      refine CS.mono ?_
      rintro e w3 ⟨rfl, b3⟩
      have B3 : Hid (Below w.heap.size w w3) := B2.out.trans (b3.mono B2.out.size)
      clear b3 CS
      cases sb with
      | false =>
        have NX2 : Hid (∀ k, k < j + 1 → f (atE l k) = false) := NX.out rfl
        clear NX HT
        go_wp2
        go_roundw
        case rel => exact ⟨j + 1, by omega, by go_num, NX2.out, B3.out⟩
        case measure => simp [intOf]; omega
      | true =>
        have HT2 : Hid (r = j) := HT.out rfl
        clear NX HT
        go_wp2
        go_ret
        exact ⟨by rw [HT2.out]; rfl, B3.out⟩
    · obtain rfl : j = n := by omega
      have hr := HNO.out OK.out
      have HR : Hid (r = j) := hr
      clear hr HNO HHIT OK
      go_wp2
      go_ret
      exact ⟨by rw [HR.out]; rfl, HB.out⟩

end Go.Proofs.YtdnbiibijoggoaaGreatDoor

namespace Go.Proofs.YtdnbiibijoggoaaGreatDoor
open Go.RowKit

theorem fp_eq (q : ByteArray) : (fun y : En => decide (y.p = q)) = fun y => decide (y.k = dl q) := by
  funext y
  by_cases h : y.p = q
  · rw [decide_eq_true h]
    exact (decide_eq_true (show dl y.p = dl q by rw [h])).symm
  · rw [decide_eq_false h, decide_eq_false (fun e => h (dl_inj e))]
/-- The search for a path. -/
theorem findPath_any (v : Value) (l : List En) (q : ByteArray) (g : Nat) (w : World) (h : ES w v l) (hl : Lt l) (hc : w.cell? ⟨g, 0, none⟩ = some (.string q)) :
    Calls Tryz.prog 96 #[v, .func (.func 115) #[] #[.pointer (some ⟨g, 0, none⟩)]] w fun e w' => e = .returned (.int .i64 (fnd l (dl q))) ∧ Below w.heap.size w w' := by
  have := findH v l (fun y => decide (y.p = q)) g w h hl (fun W u x hb hev _ => has1_any u x q g W hev ((hb.cell (World.block_lt_of_cell? _ _ hc)).trans hc))
  rwa [fp_eq] at this
theorem fnd_le (l : List En) (q : List UInt8) : fnd l q ≤ l.length := List.findIdx_le_length
set_option maxHeartbeats 1000000 in
theorem checkParent_any (v : Value) (l : List En) (q : ByteArray) (w : World) (h : ES w v l) (hl : Lt l) :
    Calls Tryz.prog 73 #[v, .string q] w fun e w' => e = .returned (.int .i64 (ckP l (dl q))) ∧ Below w.heap.size w w' := by
  by_cases h0 : q.toList = []
  · have HR : Hid (ckP l (dl q) = 0) := by unfold Hid ckP; rw [if_pos (by rw [← tol]; exact h0)]
    generalize ckP l (dl q) = r at *
    go_enter Tryz.func73, Tryz.ntmps73
    go_wp2
    go_ret
    exact ⟨by rw [HR.out]; rfl, Below.refl _ _⟩
  have t0 : q.toList.isEmpty = false := by simp [h0]
  have HR : Hid (ckP l (dl q) = if fnd l (dl q) = l.length then 8 else if (atE l (fnd l (dl q))).d then 0 else 9) := by
    unfold Hid ckP
    rw [if_neg (by rw [← tol]; exact h0)]
    rfl
  obtain ⟨a, c, rfl, g2, _, _⟩ := h.shape
  have HS : Hid (ES w (.slice a l.length c) l) := h
  have HL : Hid (Lt l) := hl
  have hn := hl.1
  have CH := hasPath_any q w
  have CF : Hid (∀ g W, Below w.heap.size w W → W.cell? ⟨g, 0, none⟩ = some (.string q) → Calls Tryz.prog 96 #[.slice a l.length c, .func (.func 115) #[] #[.pointer (some ⟨g, 0, none⟩)]] W fun e w' => e = .returned (.int .i64 (fnd l (dl q))) ∧ Below W.heap.size W w') := fun g W hb hc => findPath_any _ l q g W (HS.out.kept hb) hl hc
  have hfl := fnd_le l (dl q)
  generalize ckP l (dl q) = r at *
  generalize fnd l (dl q) = k at *
  obtain ⟨n, hn'⟩ : ∃ n, n = l.length := ⟨_, rfl⟩
  have HN : Hid (n = l.length) := hn'
  rw [← hn'] at HS CF HR g2 hn hfl ⊢
  clear h hl hn' h0
  go_enter Tryz.func73, Tryz.ntmps73
  go_wp2_with fail
  refine CH.mono ?_
  rintro e w1 ⟨g, rfl, hg, b1⟩
  have B1 : Hid (Below w.heap.size w w1) := b1
  have C1 := CF.out g w1 b1 hg
  clear b1 hg CF CH
  go_wp2_with fail
  refine C1.mono ?_
  rintro e w2 ⟨rfl, b2⟩
  have B2 : Hid (Below w.heap.size w w2) := B1.out.trans (b2.mono B1.out.size)
  clear b2 C1 B1
  by_cases hk : k = n
  · have HR2 : Hid (r = 8) := by unfold Hid; rw [HR.out, if_pos hk]
    subst hk
    clear HR
    go_wp2
    go_ret
    exact ⟨by rw [HR2.out]; rfl, B2.out⟩
  · have hlt : k < n := by omega
    have t1 : ((k : Int) == (n : Int)) = false := by simp; omega
    obtain ⟨b, off, ua, un, uc, rfl, c1, c2, c3, hun, s1⟩ := (HS.out.kept B2.out).at k (by rw [← HN.out]; exact hlt)
    have HR2 : Hid (r = if (atE l k).d then 0 else 9) := by unfold Hid; rw [HR.out, if_neg hk]
    clear HR hun s1 c1 c3
    generalize atE l k = x at *
    generalize hd : x.d = d at *
    clear hd
    cases d with
    | true =>
      have HR3 : Hid (r = 0) := HR2.out
      clear HR2
      go_wp2
      go_ret
      exact ⟨by rw [HR3.out]; rfl, B2.out⟩
    | false =>
      have HR3 : Hid (r = 9) := HR2.out
      clear HR2
      go_wp2
      go_ret
      exact ⟨by rw [HR3.out]; rfl, B2.out⟩

set_option maxHeartbeats 2000000 in
theorem checkEntry_any (v u : Value) (A : List En) (x : En) (w : World) (h : ES w v A) (hl : Lt A) (hx : EV w u x) (hs : x.p.size ≤ 1000) (hz : x.z.length ≤ 100000) (hm : Mx w) :
    Calls Tryz.prog 49 #[v, u] w fun e w' => e = .returned (.int .i64 (ckE A x)) ∧ Below w.heap.size w w' := by
  obtain ⟨a, c, rfl, g2, _, _⟩ := h.shape
  obtain ⟨ua, un, uc, rfl, sl⟩ := hx
  have hun : un = x.z.length := by
    obtain ⟨_, _, e, _⟩ := sl
    cases e
    rfl
  have HS : Hid (ES w (.slice a A.length c) A) := h
  have HL : Hid (Lt A) := hl
  have hn := hl.1
  obtain ⟨W1, hW1⟩ : ∃ W1, W1 = w.alloc (.cells #[.string x.p, .bool x.d, .slice ua un uc] 54) := ⟨_, rfl⟩
  have b1 : Below w.heap.size w W1 := by rw [hW1]; exact (Below.refl _ _).alloc (Nat.le_refl _) _
  have B1 : Hid (Below w.heap.size w W1) := b1
  have K1 : Hid (W1.heap[w.heap.size]? = some (.cells #[.string x.p, .bool x.d, .slice ua un uc] 54 (0, 0))) := by unfold Hid; rw [hW1]; exact heap_alloc_new _ _
  have HT : Hid (∀ W, Below W1.heap.size W1 W → W.heap[w.heap.size]? = some (.cells #[.string x.p, .bool x.d, .slice ua un uc] 54 (0, 0))) := fun W hb => (hb.block _ (lt_of_block K1.out)).trans K1.out
  have CC := check_any x.p W1 (hm.kept b1) (by unfold maxLen; omega)
  have CR : Hid (∀ w, Calls Tryz.prog 71 #[.string x.p] w fun e w' => e = .returned (.bool (res (dl x.p))) ∧ w' = w) := fun w => reserved_any x.p w
  have CPa : Hid (∀ w, Calls Tryz.prog 74 #[.string x.p] w fun e w' => e = .returned (.string (mk (par (dl x.p)))) ∧ w' = w) := fun w => parent_any x.p w (by omega)
  have CL : Hid (∀ W, Below w.heap.size w W → Calls Tryz.prog 72 #[.string (atE A (A.length - 1)).p, .string x.p] W fun e w' => e = .returned (.bool (les (atE A (A.length - 1)).k x.k)) ∧ Below W.heap.size W w') := fun W hb => less_any _ _ W (hm.kept hb) (by have := (hl.at (A.length - 1)).1; omega) (by omega)
  have CQ : Hid (∀ W, Below w.heap.size w W → Calls Tryz.prog 73 #[.slice a A.length c, .string (mk (par (dl x.p)))] W fun e w' => e = .returned (.int .i64 (ckP A (par x.k))) ∧ Below W.heap.size W w') := fun W hb => by
    have := checkParent_any _ A (mk (par (dl x.p))) W (HS.out.kept hb) hl
    rwa [dl_mk] at this
  have HR : Hid (ckE A x = if chk x.k ≠ 0 then chk x.k else if res x.k = true then 6 else if 65536 < un then 5 else if x.d = true ∧ 0 < un then 9 else if 0 < A.length ∧ les (atE A (A.length - 1)).k x.k = false then 7 else ckP A (par x.k)) := by
    unfold Hid
    rw [hun]
    rfl
  have HAT : Hid (∀ W, Below w.heap.size w W → 0 < A.length → ∃ b off, a = some ⟨b, off, none⟩ ∧ W.cell? ⟨b, off + (A.length - 1) * 3, none⟩ = some (.string (atE A (A.length - 1)).p)) := fun W hb h0 => by
    obtain ⟨b, off, ua, un, uc, e, c1, _⟩ := (HS.out.kept hb).at (A.length - 1) (by omega)
    exact ⟨b, off, e, c1⟩
  rw [← hun] at hz
  have hz2 : (un : Int) ≤ 100000 := by omega
  generalize ckE A x = r at *
  generalize ckP A (par x.k) = r1 at *
  generalize les (atE A (A.length - 1)).k x.k = r2 at *
  generalize (atE A (A.length - 1)).p = lp at *
  generalize hpp : mk (par (dl x.p)) = pp at *
  obtain ⟨n, hn'⟩ : ∃ n, n = A.length := ⟨_, rfl⟩
  rw [← hn'] at HS CQ HR HAT g2 hn ⊢
  generalize chk (dl x.p) = k0 at *
  generalize res (dl x.p) = k1 at *
  generalize x.p = xp at *
  generalize x.d = xd at *
  clear h hl sl hun hn' hm hpp HL b1
  go_enter Tryz.func49, Tryz.ntmps49
  go_wp2_with fail
  rw [← hW1]
  refine CC.mono ?_
  rintro e w2 ⟨rfl, b2⟩
  have B2 : Hid (Below w.heap.size w w2) := B1.out.trans (b2.mono B1.out.size)
  obtain ⟨p0, p1, p2, -, -, -⟩ := trio (HT.out w2 b2)
  have D2 : Hid (Below W1.heap.size W1 w2) := b2
  clear CC b2 hW1
  by_cases h0 : k0 = 0
  · subst h0
    have HR2 : Hid (r = if k1 = true then 6 else if 65536 < un then 5 else if xd = true ∧ 0 < un then 9 else if 0 < n ∧ r2 = false then 7 else r1) := by unfold Hid; rw [HR.out, if_neg (by simp)]
    clear HR
    cases k1 with
    | true =>
      have HR3 : Hid (r = 6) := HR2.out
      clear HR2
      go_wp2_with (go_at_call 71; refine (CR.out _).mono ?_; rintro e wq ⟨rfl, hq⟩; replace hq := hq.symm; subst hq)
      go_ret
      exact ⟨by rw [HR3.out]; rfl, B2.out⟩
    | false =>
      have HR3 : Hid (r = if 65536 < un then 5 else if xd = true ∧ 0 < un then 9 else if 0 < n ∧ r2 = false then 7 else r1) := HR2.out
      clear HR2
      by_cases h5 : 65536 < un
      · have HR4 : Hid (r = 5) := by unfold Hid; rw [HR3.out, if_pos h5]
        have h5' : 65536 < (un : Int) := by omega
        clear HR3
        go_wp2_with (go_at_call 71; refine (CR.out _).mono ?_; rintro e wq ⟨rfl, hq⟩; replace hq := hq.symm; subst hq)
        go_ret
        exact ⟨by rw [HR4.out]; rfl, B2.out⟩
      have h5' : ¬ 65536 < (un : Int) := by omega
      have HR4 : Hid (r = if xd = true ∧ 0 < un then 9 else if 0 < n ∧ r2 = false then 7 else r1) := by unfold Hid; rw [HR3.out, if_neg h5]
      clear HR3
      by_cases h9 : xd = true ∧ 0 < un
      · obtain ⟨rfl, h9⟩ := h9
        have h9' : 0 < (un : Int) := by omega
        have HR5 : Hid (r = 9) := by unfold Hid; rw [HR4.out, if_pos ⟨rfl, h9⟩]
        clear HR4
        go_wp2_with (go_at_call 71; refine (CR.out _).mono ?_; rintro e wq ⟨rfl, hq⟩; replace hq := hq.symm; subst hq)
        go_ret
        exact ⟨by rw [HR5.out]; rfl, B2.out⟩
      have HR5 : Hid (r = if 0 < n ∧ r2 = false then 7 else r1) := by unfold Hid; rw [HR4.out, if_neg h9]
      clear HR4
      rcases (show xd = false ∨ (xd = true ∧ un = 0) by cases xd <;> simp at h9 ⊢; omega) with rfl | ⟨rfl, rfl⟩
      · clear h9
        by_cases hn0 : 0 < n
        · have hn1 : 0 < (n : Int) := by omega
          obtain ⟨b, off, rfl, hcl⟩ := HAT.out w2 B2.out hn0
          have HCL : Hid (∀ W, Below w2.heap.size w2 W → W.cell? ⟨b, off + (n - 1) * 3, none⟩ = some (.string lp)) := fun W hb => (hb.cell (World.block_lt_of_cell? _ _ hcl)).trans hcl
          have HP0 : Hid (∀ W, Below w2.heap.size w2 W → W.cell? ⟨w.heap.size, 0, none⟩ = some (.string xp)) := fun W hb => (hb.cell (World.block_lt_of_cell? _ _ p0)).trans p0
          obtain ⟨m, hm⟩ : ∃ m, m = n - 1 := ⟨_, rfl⟩
          rw [← hm] at hcl HCL
          have q1 : IntKind.i64.wrap ((n : Int) - 1) = (m : Int) := by simp [IntKind.wrap, IntKind.bits, IntKind.signed]; omega
          have hmn : m < n := by omega
          have g0 : (0 : Int) ≤ (m : Int) := by omega
          have g1 : (m : Int) < (n : Int) := by omega
          clear hm
          have kd := HCL.out w2.drew (Below.refl _ _).drew
          have p0d := HP0.out w2.drew (Below.refl _ _).drew
          have cl := CL.out w2.drew B2.out.drew
          go_wp2_with (go_at_call 71; refine (CR.out _).mono ?_; rintro e wq ⟨rfl, hq⟩; replace hq := hq.symm; subst hq)
          go_region_held3 (fun W => W.cell? ⟨b, off + m * 3, none⟩ = some (.string lp) ∧ W.cell? ⟨w.heap.size, 0, none⟩ = some (.string xp)) (first | exact ⟨hcl, p0⟩ | exact ⟨kd, p0d⟩ | exact ⟨k3, p3⟩) (first
            | (go_at_call 72; refine cl.mono ?_; rintro e w3 ⟨rfl, b3⟩; have d3 : Below w2.heap.size w2 w3 := (Below.refl w2.heap.size w2).drew.trans b3; have k3 := HCL.out w3 d3; have p3 := HP0.out w3 d3))
          have B3 : Hid (Below w.heap.size w w3) := B2.out.trans (d3.mono B2.out.size)
          cases r2 with
          | false =>
            have HR6 : Hid (r = 7) := by unfold Hid; rw [HR5.out, if_pos ⟨hn0, rfl⟩]
            clear HR5
            go_wp2
            go_ret
            exact ⟨by rw [HR6.out]; rfl, B3.out⟩
          | true =>
            have HR6 : Hid (r = r1) := by unfold Hid; rw [HR5.out, if_neg (by simp)]
            have cq := CQ.out w3 B3.out
            clear HR5 cl b3 d3 kd p0d hcl
            go_wp2_with (first | (go_at_call 74; refine (CPa.out _).mono ?_; rintro e wq ⟨rfl, hq⟩; replace hq := hq.symm; subst hq) | (go_at_call 73; refine cq.mono ?_; rintro e w4 ⟨rfl, b4⟩))
            go_ret
            exact ⟨by rw [HR6.out]; rfl, B3.out.trans (b4.mono B3.out.size)⟩
        · obtain rfl : n = 0 := by omega
          have HR6 : Hid (r = r1) := by unfold Hid; rw [HR5.out, if_neg (by simp)]
          clear HR5 HAT
          go_wp2_with (go_at_call 71; refine (CR.out _).mono ?_; rintro e wq ⟨rfl, hq⟩; replace hq := hq.symm; subst hq)
          go_quiet (fail)
          have bq : Below w2.heap.size w2 (w2.drewN nq) := ⟨rfl, rfl, rfl, Nat.le_refl _, fun _ _ => rfl⟩
          have Bq : Below w.heap.size w (w2.drewN nq) := B2.out.trans (bq.mono B2.out.size)
          have cq := CQ.out (w2.drewN nq) Bq
          have p0d : (w2.drewN nq).cell? ⟨w.heap.size, 0, none⟩ = some (.string xp) := p0
          go_wp2_with (first | (go_at_call 74; refine (CPa.out _).mono ?_; rintro e wq ⟨rfl, hq⟩; replace hq := hq.symm; subst hq) | (go_at_call 73; refine cq.mono ?_; rintro e w4 ⟨rfl, b4⟩))
          go_ret
          exact ⟨by rw [HR6.out]; rfl, Bq.trans (b4.mono Bq.size)⟩
      · clear h9
        by_cases hn0 : 0 < n
        · have hn1 : 0 < (n : Int) := by omega
          obtain ⟨b, off, rfl, hcl⟩ := HAT.out w2 B2.out hn0
          have HCL : Hid (∀ W, Below w2.heap.size w2 W → W.cell? ⟨b, off + (n - 1) * 3, none⟩ = some (.string lp)) := fun W hb => (hb.cell (World.block_lt_of_cell? _ _ hcl)).trans hcl
          have HP0 : Hid (∀ W, Below w2.heap.size w2 W → W.cell? ⟨w.heap.size, 0, none⟩ = some (.string xp)) := fun W hb => (hb.cell (World.block_lt_of_cell? _ _ p0)).trans p0
          obtain ⟨m, hm⟩ : ∃ m, m = n - 1 := ⟨_, rfl⟩
          rw [← hm] at hcl HCL
          have q1 : IntKind.i64.wrap ((n : Int) - 1) = (m : Int) := by simp [IntKind.wrap, IntKind.bits, IntKind.signed]; omega
          have hmn : m < n := by omega
          have g0 : (0 : Int) ≤ (m : Int) := by omega
          have g1 : (m : Int) < (n : Int) := by omega
          clear hm
          have kd := HCL.out w2.drew (Below.refl _ _).drew
          have p0d := HP0.out w2.drew (Below.refl _ _).drew
          have cl := CL.out w2.drew B2.out.drew
          go_wp2_with (go_at_call 71; refine (CR.out _).mono ?_; rintro e wq ⟨rfl, hq⟩; replace hq := hq.symm; subst hq)
          go_region_held3 (fun W => W.cell? ⟨b, off + m * 3, none⟩ = some (.string lp) ∧ W.cell? ⟨w.heap.size, 0, none⟩ = some (.string xp)) (first | exact ⟨hcl, p0⟩ | exact ⟨kd, p0d⟩ | exact ⟨k3, p3⟩) (first
            | (go_at_call 72; refine cl.mono ?_; rintro e w3 ⟨rfl, b3⟩; have d3 : Below w2.heap.size w2 w3 := (Below.refl w2.heap.size w2).drew.trans b3; have k3 := HCL.out w3 d3; have p3 := HP0.out w3 d3))
          have B3 : Hid (Below w.heap.size w w3) := B2.out.trans (d3.mono B2.out.size)
          cases r2 with
          | false =>
            have HR6 : Hid (r = 7) := by unfold Hid; rw [HR5.out, if_pos ⟨hn0, rfl⟩]
            clear HR5
            go_wp2
            go_ret
            exact ⟨by rw [HR6.out]; rfl, B3.out⟩
          | true =>
            have HR6 : Hid (r = r1) := by unfold Hid; rw [HR5.out, if_neg (by simp)]
            have cq := CQ.out w3 B3.out
            clear HR5 cl b3 d3 kd p0d hcl
            go_wp2_with (first | (go_at_call 74; refine (CPa.out _).mono ?_; rintro e wq ⟨rfl, hq⟩; replace hq := hq.symm; subst hq) | (go_at_call 73; refine cq.mono ?_; rintro e w4 ⟨rfl, b4⟩))
            go_ret
            exact ⟨by rw [HR6.out]; rfl, B3.out.trans (b4.mono B3.out.size)⟩
        · obtain rfl : n = 0 := by omega
          have HR6 : Hid (r = r1) := by unfold Hid; rw [HR5.out, if_neg (by simp)]
          clear HR5 HAT
          go_wp2_with (go_at_call 71; refine (CR.out _).mono ?_; rintro e wq ⟨rfl, hq⟩; replace hq := hq.symm; subst hq)
          go_quiet (fail)
          have bq : Below w2.heap.size w2 (w2.drewN nq) := ⟨rfl, rfl, rfl, Nat.le_refl _, fun _ _ => rfl⟩
          have Bq : Below w.heap.size w (w2.drewN nq) := B2.out.trans (bq.mono B2.out.size)
          have cq := CQ.out (w2.drewN nq) Bq
          have p0d : (w2.drewN nq).cell? ⟨w.heap.size, 0, none⟩ = some (.string xp) := p0
          go_wp2_with (first | (go_at_call 74; refine (CPa.out _).mono ?_; rintro e wq ⟨rfl, hq⟩; replace hq := hq.symm; subst hq) | (go_at_call 73; refine cq.mono ?_; rintro e w4 ⟨rfl, b4⟩))
          go_ret
          exact ⟨by rw [HR6.out]; rfl, Bq.trans (b4.mono Bq.size)⟩
  · have HR2 : Hid (r = k0) := by unfold Hid; rw [HR.out, if_pos h0]
    have t0 : (k0 != 0) = true := by simp [h0]
    clear HR
    go_wp2
    go_ret
    exact ⟨by rw [HR2.out]; rfl, B2.out⟩
end Go.Proofs.YtdnbiibijoggoaaGreatDoor

namespace Go.Proofs.YtdnbiibijoggoaaGreatDoor
open Go.RowKit

set_option maxHeartbeats 2000000 in
theorem checkT_any (v : Value) (l : List En) (w : World) (h : ES w v l) (hl : Lt l) (hm : Mx w) :
    Calls Tryz.prog 25 #[v] w fun e w' => e = .returned (.int .i64 (ckT l)) ∧ Below w.heap.size w w' := by
  obtain ⟨a, c, rfl, g2, _, _⟩ := h.shape
  have HS : Hid (ES w (.slice a l.length c) l) := h
  have HL : Hid (Lt l) := hl
  have HM : Hid (Mx w) := hm
  have hn := hl.1
  have HLONG : Hid (64 < l.length → ckT l = 5) := ckT_long l
  have HHIT : Hid (¬ 64 < l.length → ∀ j, j < l.length → (∀ k, k < j → ckI l k = 0) → ckI l j ≠ 0 → ckT l = ckI l j) := ckT_hit l
  have HOK : Hid (¬ 64 < l.length → (∀ k, k < l.length → ckI l k = 0) → ckT l = 0) := ckT_ok l
  have HIE : Hid (∀ i, i < l.length → ckI l i = ckE (l.take i) (atE l i)) := ckI_E l
  obtain ⟨n, hn'⟩ : ∃ n, n = l.length := ⟨_, rfl⟩
  have HN : Hid (n = l.length) := hn'
  rw [← hn'] at HS HLONG HHIT HOK HIE g2 hn ⊢
  clear h hl hm hn'
  generalize ckT l = r at *
  by_cases h6 : 64 < n
  · have HR : Hid (r = 5) := HLONG.out h6
    have h6' : 64 < (n : Int) := by omega
    clear HLONG HHIT HOK
    go_enter Tryz.func25, Tryz.ntmps25
    go_wp2
    go_ret
    exact ⟨by rw [HR.out]; rfl, Below.refl _ _⟩
  have h6' : ¬ 64 < (n : Int) := by omega
  have HHIT2 : Hid (∀ j, j < n → (∀ k, k < j → ckI l k = 0) → ckI l j ≠ 0 → r = ckI l j) := HHIT.out h6
  have HOK2 : Hid ((∀ k, k < n → ckI l k = 0) → r = 0) := HOK.out h6
  clear HLONG HHIT HOK
  go_enter Tryz.func25, Tryz.ntmps25
  go_wp2
  go_loopw [11] (fun q wr => ∃ j : Nat, j ≤ n ∧ q = .int .i64 j ∧ (∀ k, k < j → ckI l k = 0) ∧ Below w.heap.size w wr) (fun q _ => n - (intOf q).toNat)
  case atStart => exact ⟨0, by omega, rfl, fun k hk => by omega, Below.refl _ _⟩
  case round =>
    obtain ⟨j, hj, rfl, ok, bel⟩ := hrel
    have HB : Hid (Below w.heap.size w wr) := bel
    have OK : Hid (∀ k, k < j → ckI l k = 0) := ok
    clear bel ok
    by_cases hlt : j < n
    · have lt2 : (j : Int) < (n : Int) := by omega
      have lt3 : (j : Int) ≤ (c : Int) := by omega
      have g0 : (0 : Int) ≤ (j : Int) := by omega
      obtain ⟨b, off, ua, un, uc, rfl, c1, c2, c3, hun, s1⟩ := (HS.out.kept HB.out).at j (by rw [← HN.out]; exact hlt)
      have q1 : IntKind.i64.wrap ((j : Int) + 1) = ((j + 1 : Nat) : Int) := by simp [IntKind.wrap, IntKind.bits, IntKind.signed]; omega
      have HT : Hid (ckI l j ≠ 0 → r = ckI l j) := HHIT2.out j hlt OK.out
      have NX : Hid (ckI l j = 0 → ∀ k, k < j + 1 → ckI l k = 0) := fun h k hk => by
        rcases Nat.lt_or_ge k j with h' | h'
        · exact OK.out k h'
        · rw [show k = j by omega]; exact h
      have CE : Hid (∀ W, Below wr.heap.size wr W → Calls Tryz.prog 49 #[.slice (some ⟨b, off, none⟩) j c, .agg #[.string (atE l j).p, .bool (atE l j).d, .slice ua un uc]] W fun e w' => e = .returned (.int .i64 (ckI l j)) ∧ Below W.heap.size W w') := fun W hb => by
        have hbw : Below w.heap.size w W := HB.out.trans (hb.mono HB.out.size)
        rw [HIE.out j hlt]
        exact checkEntry_any _ _ _ _ W ((HS.out.kept hbw).take j (by omega)) (HL.out.take j) ⟨ua, un, uc, rfl, s1.kept hb⟩ (HL.out.at j).1 (HL.out.at j).2 (HM.out.kept hbw)
      clear hun s1 OK
      generalize ckI l j = e at *
      generalize atE l j = x at *
      generalize x.p = xp at *
      generalize x.d = xd at *
      obtain ⟨W1, hW1⟩ : ∃ W1, W1 = wr.alloc (.cells #[.string xp, .bool xd, .slice ua un uc] 54) := ⟨_, rfl⟩
      have b1 : Below wr.heap.size wr W1 := by rw [hW1]; exact (Below.refl _ _).alloc (Nat.le_refl _) _
      have K1 : Hid (W1.heap[wr.heap.size]? = some (.cells #[.string xp, .bool xd, .slice ua un uc] 54 (0, 0))) := by unfold Hid; rw [hW1]; exact heap_alloc_new _ _
      have B1 : Hid (Below w.heap.size w W1) := HB.out.trans (b1.mono HB.out.size)
      obtain ⟨p0, p1, p2, -, -, -⟩ := trio K1.out
      have HP : Hid (∀ W, Below W1.heap.size W1 W → W.cell? ⟨wr.heap.size, 0, none⟩ = some (.string xp) ∧ W.cell? ⟨wr.heap.size, 1, none⟩ = some (.bool xd) ∧ W.cell? ⟨wr.heap.size, 2, none⟩ = some (.slice ua un uc)) := fun W hb => by
        obtain ⟨p0, p1, p2, -, -, -⟩ := trio ((hb.block _ (lt_of_block K1.out)).trans K1.out)
        exact ⟨p0, p1, p2⟩
      have pd := HP.out W1.drew (Below.refl _ _).drew
      have p00 := HP.out W1 (Below.refl _ _)
      have ce := CE.out W1.drew b1.drew
      clear CE b1 HHIT2
      go_wp2_with fail
      rw [← hW1]
      clear hW1
      go_region_held3 (fun W => W.cell? ⟨wr.heap.size, 0, none⟩ = some (.string xp) ∧ W.cell? ⟨wr.heap.size, 1, none⟩ = some (.bool xd) ∧ W.cell? ⟨wr.heap.size, 2, none⟩ = some (.slice ua un uc)) (first | exact p00 | exact pd | exact p3) (first
        | (go_at_call 49; refine ce.mono ?_; rintro e' w3 ⟨rfl, b3⟩; have d3 : Below W1.heap.size W1 w3 := (Below.refl W1.heap.size W1).drew.trans b3; have p3 := HP.out w3 d3))
      have B3 : Hid (Below w.heap.size w w3) := B1.out.trans (d3.mono B1.out.size)
      clear ce b3 d3 pd p00 p3
      by_cases he : e = 0
      · subst he
        have NX2 : Hid (∀ k, k < j + 1 → ckI l k = 0) := NX.out rfl
        clear NX HT
        go_wp2
        go_roundw
        case rel => exact ⟨j + 1, by omega, by go_num, NX2.out, B3.out⟩
        case measure => simp [intOf]; omega
      · have HT2 : Hid (r = e) := HT.out he
        have te : (e != 0) = true := by simp [he]
        clear NX HT
        go_wp2
        go_ret
        exact ⟨by rw [HT2.out]; rfl, B3.out⟩
    · obtain rfl : j = n := by omega
      have HR : Hid (r = 0) := HOK2.out OK.out
      clear HOK2 HHIT2 OK
      go_wp2
      go_ret
      exact ⟨by rw [HR.out]; rfl, HB.out⟩
end Go.Proofs.YtdnbiibijoggoaaGreatDoor
