/-
  An index, as the walks read it; what Weak, Size, Len and Find tell.
  What add does: sums are put into an index, behind those that are there.
  What New answers.
  What Find answers.
-/
import Derived.Test.YtgnampbbkaolmaaDoorPkA
namespace Go.Proofs.YtgnampbbkaolmaaDoor
open Go.RowKit Go.Maps
set_option maxRecDepth 100000

/-- Whether some sums have this weak one. -/
def wk (l : List Sg) (k : Int) : Bool := l.any fun x => decide (x.k = k)
/-- Where two sums stand first. -/
def fi (l : List Sg) (k : Int) (A : List Int) : Nat := l.findIdx fun x => decide (x.k = k) && decide (x.s = A)
/-- What an index has of two sums. -/
def inn (l : List Sg) (z : Int) (k : Int) (A : List Int) : Option Value := if fi l k A < l.length then some (.int .i64 ((fi l k A : Int) * z)) else none
theorem wk_app (l : List Sg) (y : Sg) (k : Int) : wk (l ++ [y]) k = (wk l k || decide (y.k = k)) := by simp [wk]
theorem fi_app (l : List Sg) (y : Sg) (k : Int) (A : List Int) : fi (l ++ [y]) k A = if fi l k A < l.length then fi l k A else if y.k = k ∧ y.s = A then l.length else l.length + 1 := by
  unfold fi
  rw [List.findIdx_append]
  split
  · rfl
  · by_cases h : y.k = k ∧ y.s = A
    · rw [if_pos h]
      obtain ⟨h1, h2⟩ := h
      simp [List.findIdx_cons, h1, h2]
    · rw [if_neg h]
      have e : (decide (y.k = k) && decide (y.s = A)) = false := by
        rw [Bool.and_eq_false_iff, decide_eq_false_iff_not, decide_eq_false_iff_not]
        by_cases h1 : y.k = k
        · exact .inr fun h2 => h ⟨h1, h2⟩
        · exact .inl h1
      simp [List.findIdx_cons, e]
      omega
theorem inn_app (l : List Sg) (y : Sg) (z k : Int) (A : List Int) : inn (l ++ [y]) z k A = if fi l k A < l.length then inn l z k A else if y.k = k ∧ y.s = A then some (.int .i64 ((l.length : Int) * z)) else none := by
  unfold inn
  rw [fi_app, List.length_append, List.length_singleton]
  by_cases h : fi l k A < l.length
  · rw [if_pos h, if_pos h, if_pos h, if_pos (by omega)]
  · rw [if_neg h, if_neg h]
    by_cases h2 : y.k = k ∧ y.s = A
    · rw [if_pos h2, if_pos h2, if_pos (by omega)]
    · rw [if_neg h2, if_neg h2, if_neg (by omega)]
theorem fi_wk (l : List Sg) (k : Int) (A : List Int) (h : fi l k A < l.length) : wk l k = true := by
  have := List.findIdx_getElem (w := h)
  unfold wk
  rw [List.any_eq_true]
  refine ⟨_, List.getElem_mem h, ?_⟩
  simp only [Bool.and_eq_true] at this
  exact this.1
theorem inn_no (l : List Sg) (z k : Int) (A : List Int) (h : wk l k = false) : inn l z k A = none := by
  unfold inn
  rw [if_neg]
  intro h2
  rw [fi_wk l k A h2] at h
  cases h
theorem u8c_inj {A B : List Int} (h : Value.agg (u8c A) = .agg (u8c B)) : A = B := by
  simp only [u8c, Value.agg.injEq] at h
  have h2 := congrArg Array.toList h
  simp only at h2
  exact List.map_inj_right (f := Value.int .u8) (fun a b e => by cases e; rfl) |>.1 h2
/-- An index: its three cells; its map, which has each weak sum of q; each of its maps, which has what I tells. -/
def IG (w : World) (B g m : Nat) (z N : Int) (n : Nat) (q : Int → Bool) (I : Int → List Int → Option Value) : Prop :=
  w.heap[g]? = some (.cells #[.int .i64 z, .int .i64 N, .map (some m)] 88 (0, 0)) ∧ B ≤ g ∧ B ≤ m ∧
  ∃ (f : Value → Option Value) (F : Int → Nat), MP Tryd.prog 81 w m n f ∧ (∀ k, f (.int .u32 k) = if q k = true then some (.map (some (F k))) else none) ∧
    ∀ k, q k = true → B ≤ F k ∧ F k ≠ m ∧ (∀ k', q k' = true → F k' = F k → k' = k) ∧ ∃ h, MP Tryd.prog 59 w (F k) n h ∧ ∀ A, A.length = 32 → h (.agg (u8c A)) = I k A
/-- The index of sums. -/
def IX (w : World) (B g m : Nat) (z N : Int) (l : List Sg) : Prop := ∃ n, IG w B g m z N n (wk l) (inn l z)
theorem IG.kept {w w' : World} {B g m : Nat} {z N : Int} {n : Nat} {q : Int → Bool} {I : Int → List Int → Option Value} (h : IG w B g m z N n q I) (hb : Below w.heap.size w w') : IG w' B g m z N n q I := by
  obtain ⟨h1, h2, h3, f, F, h4, h5, h6⟩ := h
  refine ⟨(hb.block g (Array.getElem?_eq_some_iff.1 h1).1).trans h1, h2, h3, f, F, h4.kept hb, h5, fun k hk => ?_⟩
  obtain ⟨a1, a2, a3, u, a4, a5⟩ := h6 k hk
  exact ⟨a1, a2, a3, u, a4.kept hb, a5⟩
theorem IX.kept {w w' : World} {B g m : Nat} {z N : Int} {l : List Sg} (h : IX w B g m z N l) (hb : Below w.heap.size w w') : IX w' B g m z N l := by
  obtain ⟨n, h⟩ := h
  exact ⟨n, IG.kept h hb⟩
theorem IG.base {w : World} {B C g m : Nat} {z N : Int} {n : Nat} {q : Int → Bool} {I : Int → List Int → Option Value} (h : IG w B g m z N n q I) (hC : C ≤ B) : IG w C g m z N n q I := by
  obtain ⟨h1, h2, h3, f, F, h4, h5, h6⟩ := h
  refine ⟨h1, Nat.le_trans hC h2, Nat.le_trans hC h3, f, F, h4, h5, fun k hk => ?_⟩
  obtain ⟨a1, a2⟩ := h6 k hk
  exact ⟨Nat.le_trans hC a1, a2⟩
theorem IG.cells {w : World} {B g m : Nat} {z N : Int} {n : Nat} {q : Int → Bool} {I : Int → List Int → Option Value} (h : IG w B g m z N n q I) :
    w.cell? ⟨g, 0, none⟩ = some (.int .i64 z) ∧ w.cell? ⟨g, 1, none⟩ = some (.int .i64 N) ∧ w.cell? ⟨g, 2, none⟩ = some (.map (some m)) :=
  ⟨by rw [cell_of_row _ _ _ _ _ _ h.1]; rfl, by rw [cell_of_row _ _ _ _ _ _ h.1]; rfl, by rw [cell_of_row _ _ _ _ _ _ h.1]; rfl⟩
/-- The map of a weak sum, and the way back behind a store into it. -/
theorem IG.inner {w : World} {B g m : Nat} {z N : Int} {n : Nat} {q : Int → Bool} {I : Int → List Int → Option Value} (h : IG w B g m z N n q I) (k : Int) (hk : q k = true) :
    ∃ f b u, MP Tryd.prog 81 w m n f ∧ f (.int .u32 k) = some (.map (some b)) ∧ MP Tryd.prog 59 w b n u ∧ (∀ A, A.length = 32 → u (.agg (u8c A)) = I k A) ∧ B ≤ b ∧
      ∀ x, Below w.heap.size w x → ∀ ob u' S v, u' (.agg (u8c S)) = some v → (∀ y, y ≠ .agg (u8c S) → u' y = u y) → MP Tryd.prog 59 (ChangeMaps.setBlock x b ob) b (n + 1) u' →
        IG (ChangeMaps.setBlock x b ob) B g m z N (n + 1) q (fun k' A => if k' = k ∧ A = S then some v else I k' A) := by
  obtain ⟨h1, h2, h3, f, F, h4, h5, h6⟩ := h
  obtain ⟨a1, a2, a3, u, a4, a5⟩ := h6 k hk
  have hgb : g ≠ F k := fun e => by
    obtain ⟨es, clock, hh, _⟩ := a4
    rw [← e, h1] at hh
    cases hh
  refine ⟨f, F k, u, h4, by rw [h5, if_pos hk], a4, a5, a1, fun x hx ob u' S v c1 c2 c3 => ⟨(setBlock_other ob hgb).trans ((hx.block g (Array.getElem?_eq_some_iff.1 h1).1).trans h1), h2, h3, f, F, ((h4.kept hx).block (setBlock_other ob (fun e => a2 e.symm))).mono (Nat.le_succ _), h5, fun k' hk' => ?_⟩⟩
  obtain ⟨b1, b2, b3, u2, b4, b5⟩ := h6 k' hk'
  refine ⟨b1, b2, b3, ?_⟩
  by_cases e : k' = k
  · subst e
    refine ⟨u', c3, fun A hA => ?_⟩
    by_cases e2 : A = S
    · subst e2; simp [c1]
    · rw [c2 _ (fun e3 => e2 (u8c_inj e3)), a5 A hA]
      simp [e2]
  · refine ⟨u2, ((b4.kept hx).block (setBlock_other ob (fun e2 => e (a3 k' hk' e2)))).mono (Nat.le_succ _), fun A hA => ?_⟩
    rw [b5 A hA]
    simp [e]
/-- The map of all, and the way on behind a new map stored into it. -/
theorem IG.outer {w : World} {B g m : Nat} {z N : Int} {n : Nat} {q : Int → Bool} {I : Int → List Int → Option Value} (h : IG w B g m z N n q I) :
    ∃ f, MP Tryd.prog 81 w m n f ∧ (∀ k, (q k = false → f (.int .u32 k) = none) ∧ (q k = true → ∃ b, f (.int .u32 k) = some (.map (some b)))) ∧
      ∀ (w' : World) (nb : Nat) (ob : Obj) (f' : Value → Option Value) (k : Int), Below w.heap.size w w' → w.heap.size ≤ nb → MP Tryd.prog 59 w' nb 0 (fun _ => none) → q k = false → (∀ A, I k A = none) →
        f' (.int .u32 k) = some (.map (some nb)) → (∀ x, x ≠ .int .u32 k → f' x = f x) → MP Tryd.prog 81 (ChangeMaps.setBlock w' m ob) m (n + 1) f' → B ≤ w.heap.size →
        IG (ChangeMaps.setBlock w' m ob) B g m z N (n + 1) (fun k' => q k' || decide (k' = k)) I := by
  obtain ⟨h1, h2, h3, f, F, h4, h5, h6⟩ := h
  refine ⟨f, h4, fun k => ⟨fun hk => by rw [h5, if_neg (by rw [hk]; simp)], fun hk => ⟨F k, by rw [h5, if_pos hk]⟩⟩, fun w' nb ob f' k hb hnb hmp hq hI c1 c2 c3 hB => ?_⟩
  have hmlt := h4.lt
  have hglt := (Array.getElem?_eq_some_iff.1 h1).1
  have hgm : g ≠ m := fun e => by
    obtain ⟨es, clock, hh, _⟩ := h4
    rw [← e, h1] at hh
    cases hh
  refine ⟨(setBlock_other ob hgm).trans ((hb.block g hglt).trans h1), h2, h3, f', fun k' => if k' = k then nb else F k', c3, fun k' => ?_, fun k' hk' => ?_⟩
  · by_cases e : k' = k
    · subst e; simp [c1]
    · rw [c2 _ (fun e2 => e (by cases e2; rfl)), h5]
      simp [e]
  · by_cases e : k' = k
    · subst e
      simp only [if_true]
      refine ⟨by omega, by omega, fun k2 hk2 e2 => ?_, _, (hmp.block (setBlock_other ob (by omega))).mono (Nat.zero_le _), fun A _ => (hI A).symm⟩
      by_cases e3 : k2 = k'
      · exact e3
      · rw [if_neg e3] at e2
        simp only [e3, decide_false, Bool.or_false] at hk2
        obtain ⟨_, _, _, u, b4, _⟩ := h6 k2 hk2
        have := b4.lt
        omega
    · simp only [e, decide_false, Bool.or_false] at hk'
      obtain ⟨b1, b2, b3, u, b4, b5⟩ := h6 k' hk'
      have hlt := b4.lt
      simp only [if_neg e]
      refine ⟨b1, b2, fun k2 hk2 e2 => ?_, u, ((b4.kept hb).block (setBlock_other ob b2)).mono (Nat.le_succ _), b5⟩
      by_cases e3 : k2 = k
      · rw [if_pos e3] at e2; omega
      · rw [if_neg e3] at e2
        simp only [e3, decide_false, Bool.or_false] at hk2
        exact b3 k2 hk2 e2
theorem IG.congr {w : World} {B g m : Nat} {z N : Int} {n : Nat} {q q' : Int → Bool} {I I' : Int → List Int → Option Value} (h : IG w B g m z N n q I) (hq : ∀ k, q k = q' k) (hI : ∀ k A, I k A = I' k A) : IG w B g m z N n q' I' := by
  obtain rfl : q = q' := funext hq
  obtain rfl : I = I' := funext fun k => funext fun A => hI k A
  exact h
set_option maxHeartbeats 2000000 in
theorem weak_any (w : World) (B g m : Nat) (z N : Int) (n : Nat) (q : Int → Bool) (I : Int → List Int → Option Value) (h : IG w B g m z N n q I) (k : Int) (hk : 0 ≤ k ∧ k < 4294967296) :
    Calls Tryd.prog 65 #[.pointer (some ⟨g, 0, none⟩), .int .u32 k] w fun e w' => e = .returned (.bool (q k)) ∧ w' = w := by
  obtain ⟨-, -, c2⟩ := h.cells
  obtain ⟨f, hm, hf, -⟩ := h.outer
  have HM : Hid (MP Tryd.prog 81 w m n f) := hm
  have HK : Hid (∃ l, keyOf Tryd.prog 81 (.int .u32 k) = some l) := keyU k hk
  have HL := (HM.out).look (t := 86) lawU Tryd.underlying86 (zeroM w) HK.out true
  have HR : ∃ v, (Instr.lookup 86 (.map (some m)) (.int .u32 k) true).run Tryd.prog w = .ok (.tuple #[v, .bool (q k)]) w := by
    cases hq : q k with
    | false => rw [(hf k).1 hq] at HL; exact ⟨_, HL⟩
    | true =>
      obtain ⟨b, hb⟩ := (hf k).2 hq
      rw [hb] at HL; exact ⟨_, HL⟩
  obtain ⟨v, hr⟩ := HR
  clear HL hf hm h HM HK hk
  generalize q k = r at *
  go_enter Tryd.func65, Tryd.ntmps65
  go_wp2
  go_ret
  exact ⟨rfl, rfl⟩
set_option maxHeartbeats 1000000 in
theorem weak_nil (w : World) (k : Int) : Calls Tryd.prog 65 #[.pointer none, .int .u32 k] w fun e w' => e = .returned (.bool false) ∧ w' = w := by
  go_enter Tryd.func65, Tryd.ntmps65
  go_wp2
  go_ret
  exact ⟨rfl, rfl⟩
set_option maxHeartbeats 1000000 in
theorem isize_any (w : World) (B g m : Nat) (z N : Int) (n : Nat) (q : Int → Bool) (I : Int → List Int → Option Value) (h : IG w B g m z N n q I) :
    Calls Tryd.prog 48 #[.pointer (some ⟨g, 0, none⟩)] w fun e w' => e = .returned (.int .i64 z) ∧ w' = w := by
  obtain ⟨c0, c1, c2⟩ := h.cells
  clear h
  go_enter Tryd.func48, Tryd.ntmps48
  go_wp2
  go_ret
  exact ⟨rfl, rfl⟩
set_option maxHeartbeats 1000000 in
theorem isize_nil (w : World) : Calls Tryd.prog 48 #[.pointer none] w fun e w' => e = .returned (.int .i64 0) ∧ w' = w := by
  go_enter Tryd.func48, Tryd.ntmps48
  go_wp2
  go_ret
  exact ⟨rfl, rfl⟩
end Go.Proofs.YtgnampbbkaolmaaDoor
namespace Go.Proofs.YtgnampbbkaolmaaDoor
open Go.RowKit Go.Maps
set_option maxRecDepth 100000

/-- 'm[x] = v' behind a draw: the world is named. -/
theorem range_at {w : World} {g : Nat} {x : Sg} (h : IB w g x) : w.rangeAt g 1 (x.s.map (Value.int .u8)) := by
  have := range_sum h.range
  rwa [Nat.zero_add] at this
/-- What stands when a weak sum's map is there: the index, and the sums that are to be put. -/
def AS (w x : World) (B g m : Nat) (z N : Int) (n : Nat) (q : Int → Bool) (l : List Sg) (y : Sg) : Prop := IG x B g m z N n q (inn l z) ∧ IB x w.heap.size y ∧ Below B w x ∧ w.heap.size < x.heap.size
theorem AS.kept {w x x' : World} {B g m : Nat} {z N : Int} {n : Nat} {q : Int → Bool} {l : List Sg} {y : Sg} (h : AS w x B g m z N n q l y) (hb : Below x.heap.size x x') (hB : B ≤ x.heap.size) : AS w x' B g m z N n q l y :=
  ⟨h.1.kept hb, h.2.1.kept hb, h.2.2.1.trans (hb.mono hB), Nat.lt_of_lt_of_le h.2.2.2 hb.size⟩
/-- What the region that makes a map reads. -/
def CS (g m sz : Nat) (k : Int) (x : World) : Prop := x.cell? ⟨g, 2, none⟩ = some (.map (some m)) ∧ x.cell? ⟨sz, 0, none⟩ = some (.int .u32 k)
theorem AS.cs {w x : World} {B g m : Nat} {z N : Int} {n : Nat} {q : Int → Bool} {l : List Sg} {y : Sg} (h : AS w x B g m z N n q l y) : CS g m w.heap.size y.k x := ⟨(IG.cells h.1).2.2, range_head h.2.1.range⟩
set_option maxHeartbeats 8000000 in
theorem add_any (w : World) (B g m : Nat) (z N : Int) (l : List Sg) (hi : IX w B g m z N l) (y : Sg) (hy : y.ok) (hB : B ≤ w.heap.size) :
    Calls Tryd.prog 46 #[.pointer (some ⟨g, 0, none⟩), y.val, .int .i64 ((l.length : Int) * z)] w fun e w' => e = .returned (.tuple #[]) ∧ IX w' B g m z N (l ++ [y]) ∧ Below B w w' := by
  obtain ⟨n, h⟩ := hi
  obtain ⟨W1, hW1⟩ : ∃ W1, W1 = w.alloc (.cells y.cells.toArray 83) := ⟨_, rfl⟩
  have b1 : Below w.heap.size w W1 := by rw [hW1]; exact al_below _ _
  have g1 : IB W1 w.heap.size y := by rw [hW1]; exact IB.new w y
  have A1 : Hid (AS w W1 B g m z N n (wk l) l y) := ⟨h.kept b1, g1, b1.mono hB, g1.lt⟩
  have CW := weak_any W1 B g m z N n _ _ (h.kept b1) y.k hy.2.2
  have HKR : Hid (0 ≤ y.k ∧ y.k < 4294967296) := hy.2.2
  have HSL : Hid (y.s.length = 32) := hy.1
  have HSB : Hid (∀ k, 0 ≤ y.s.getD k 0 ∧ y.s.getD k 0 < 256) := hy.2.1
  have HBB : Hid (B ≤ w.heap.size) := hB
  have HWA : Hid (∀ k, wk (l ++ [y]) k = (wk l k || decide (k = y.k))) := fun k => by rw [wk_app]; congr 1; exact decide_eq_decide.2 ⟨fun e => e.symm, fun e => e.symm⟩
  have HIA : Hid (∀ k A, inn (l ++ [y]) z k A = if fi l k A < l.length then inn l z k A else if y.k = k ∧ y.s = A then some (.int .i64 ((l.length : Int) * z)) else none) := fun k A => inn_app l y z k A
  have HNO : Hid (wk l y.k = false → ∀ A, inn l z y.k A = none) := fun hw A => inn_no l z y.k A hw
  have k3 : y.cells.toArray[0]? = some (.int .u32 y.k) := rfl
  have HQ : Hid (∀ x n', AS w x B g m z N n' (wk l) l y → wk l y.k = true → fi l y.k y.s < l.length → IX x B g m z N (l ++ [y])) := fun x n' hx hw hf => ⟨n', hx.1.congr (fun k => by
      rw [HWA.out]
      by_cases e : k = y.k
      · subst e; simp [hw]
      · simp [e]) (fun k A => by
      rw [HIA.out]
      by_cases e : fi l k A < l.length
      · rw [if_pos e]
      · rw [if_neg e]
        by_cases e2 : y.k = k ∧ y.s = A
        · obtain ⟨rfl, rfl⟩ := e2; exact absurd hf e
        · rw [if_neg e2]; unfold inn; rw [if_neg e])⟩
  have HST : Hid (∀ x n' q, (∀ k, q k = wk (l ++ [y]) k) → ¬ fi l y.k y.s < l.length → IG x B g m z N n' q (fun k' A => if k' = y.k ∧ A = y.s then some (.int .i64 ((l.length : Int) * z)) else inn l z k' A) → IX x B g m z N (l ++ [y])) := fun x n' q hq hf hx => ⟨n', hx.congr hq (fun k A => by
      rw [HIA.out]
      by_cases e2 : k = y.k ∧ A = y.s
      · obtain ⟨rfl, rfl⟩ := e2
        rw [if_pos ⟨rfl, rfl⟩, if_neg hf, if_pos ⟨rfl, rfl⟩]
      · rw [if_neg e2]
        by_cases e : fi l k A < l.length
        · rw [if_pos e]
        · rw [if_neg e, if_neg (fun e3 => e2 ⟨e3.1.symm, e3.2.symm⟩)]
          unfold inn; rw [if_neg e])⟩
  have HIN : Hid (inn l z y.k y.s = if fi l y.k y.s < l.length then some (.int .i64 ((fi l y.k y.s : Int) * z)) else none) := rfl
  clear b1 g1 h hy hB HIA
  unfold Sg.val
  generalize (l.length : Int) * z = at' at *
  generalize y.cells.toArray = cs at *
  go_enter Tryd.func46, Tryd.ntmps46
  go_wp2_with fail
  rw [← hW1]
  clear hW1 k3
  refine CW.mono ?_
  rintro e w2 ⟨rfl, hq⟩
  replace hq := hq.symm
  subst hq
  clear CW
  cases hw : wk l y.k with
  | true =>
    have HW : Hid (wk l y.k = true) := hw
    by_cases hf : fi l y.k y.s < l.length
    · have hf0 := hf
      clear hf0
      have FT : Hid (∀ x, From W1 x → x.cell? ⟨g, 2, none⟩ = some (.map (some m)) ∧ x.cell? ⟨w.heap.size, 0, none⟩ = some (.int .u32 y.k)) := fun x hx => ⟨(IG.cells (A1.out.1.kept hx)).2.2, range_head (A1.out.2.1.kept hx).range⟩
      have FR : Hid (∀ x, From W1 x → x.rangeAt w.heap.size 1 (y.s.map (Value.int .u8))) := fun x hx => range_at (A1.out.2.1.kept hx)
      have FA : Hid (∀ x, From W1 x → AS w x B g m z N n (wk l) l y) := fun x hx => A1.out.kept hx (Nat.le_trans HBB.out (Nat.le_of_lt A1.out.2.2.2))
      obtain ⟨f, ib, u, hm, hf2, hu, hA, hbi, hback⟩ := IG.inner A1.out.1 y.k HW.out
      have FL : Hid (∀ x, From W1 x → (Instr.lookup 86 (.map (some m)) (.int .u32 y.k) false).run Tryd.prog x = .ok (.map (some ib)) x) := fun x hx => by
        have := (hm.kept hx).look (t := 86) lawU Tryd.underlying86 (zeroM x) (keyU y.k HKR.out) false
        rwa [hf2] at this
      have HUE : Hid (u (.agg (u8c y.s)) = inn l z y.k y.s) := hA _ HSL.out
      have FI : Hid (∀ x, From W1 x → (Instr.lookup 110 (.map (some ib)) (.agg (y.s.map (Value.int .u8)).toArray) true).run Tryd.prog x = .ok (.tuple #[.int .i64 ((fi l y.k y.s : Int) * z), .bool true]) x) := fun x hx => by
        have := (hu.kept hx).look (t := 110) lawH Tryd.underlying110 (zeroN x) (keyH y.s HSL.out HSB.out) true
        have e : u (.agg (y.s.map (Value.int .u8)).toArray) = some (.int .i64 ((fi l y.k y.s : Int) * z)) := by
          have := HUE.out
          rw [HIN.out, if_pos hf] at this
          exact this
        rwa [e] at this
      have FQ : Hid (∀ x, From W1 x → IX x B g m z N (l ++ [y]) ∧ Below B w x) := fun x hx => ⟨HQ.out x _ (FA.out x hx) HW.out hf, (FA.out x hx).2.2.1⟩
      clear hm hf2 hu hA hbi hback HUE
      clear HWA HST HQ HIN HNO hf
      go_wp2_with fail
      refine wp_region_held_drew (S := From W1) (by kernel_rfl) ((Below.refl _ _).drew) (fun _ => ?_)
      refine wpAnyH_on ((Below.refl _ _).drew) (fun u0 hu0 bu0 => ?_)
      replace FT := on FT bu0
      replace FL := on FL bu0
      replace FI := on FI bu0
      replace FR := on FR bu0
      replace FA := on FA bu0
      replace FQ := on FQ bu0
      refine wpAnyH_take (i := 0) (oi := { dst := some 21, op := Op.move (Operand.tmp 0), type := 54, pos := "block.go:134", after := #[], guard := none }) (v := ?vr1) rfl (by kernel_rfl) (by kernel_rfl) (by kernel_rfl) (fun _ _ _ h => h) (Or.inl ⟨by rfl, ?yr1⟩) (Below.refl _ _) ?rr1
      case yr1 => (intro w hSw; go_simp; try with_reducible rfl)
      try simp only [Act.put, List.setIfInBounds_toArray, List.set_cons_zero, List.set_cons_succ]
      refine wpAnyH_take (i := 1) (oi := { dst := some 22, op := Op.nilCheck (Operand.tmp 21), type := 0, pos := "block.go:134", after := #[{ on := 0, ground := Ground.data }], guard := none }) (v := ?vr2) rfl (by kernel_rfl) (by kernel_rfl) (by kernel_rfl) (fun _ _ _ h => h) (Or.inl ⟨by rfl, ?yr2⟩) (Below.refl _ _) ?rr2
      case yr2 => (intro w hSw; go_simp; try with_reducible rfl)
      try simp only [Act.put, List.setIfInBounds_toArray, List.set_cons_zero, List.set_cons_succ]
      refine wpAnyH_take (i := 2) (oi := { dst := some 23, op := Op.fieldAddr 88 (Operand.tmp 22) 2, type := 0, pos := "block.go:134", after := #[{ on := 1, ground := Ground.data }], guard := none }) (v := ?vr3) rfl (by kernel_rfl) (by kernel_rfl) (by kernel_rfl) (fun _ _ _ h => h) (Or.inl ⟨by rfl, ?yr3⟩) (Below.refl _ _) ?rr3
      case yr3 => (intro w hSw; go_simp; try with_reducible rfl)
      try simp only [Act.put, List.setIfInBounds_toArray, List.set_cons_zero, List.set_cons_succ]
      refine wpAnyH_take (i := 3) (oi := { dst := some 24, op := Op.load 86 (Operand.tmp 23), type := 86, pos := "block.go:134", after := #[{ on := 2, ground := Ground.data }], guard := none }) (v := ?vr4) rfl (by kernel_rfl) (by kernel_rfl) (by kernel_rfl) (fun _ _ _ h => h) (Or.inl ⟨by rfl, ?yr4⟩) (Below.refl _ _) ?rr4
      case yr4 => (intro w hSw; obtain ⟨t0, t1⟩ := FT.out w hSw; go_simp; try with_reducible rfl)
      try simp only [Act.put, List.setIfInBounds_toArray, List.set_cons_zero, List.set_cons_succ]
      refine wpAnyH_take (i := 4) (oi := { dst := some 25, op := Op.fieldAddr 83 (Operand.tmp 4) 0, type := 0, pos := "block.go:134", after := #[], guard := none }) (v := ?vr5) rfl (by kernel_rfl) (by kernel_rfl) (by kernel_rfl) (fun _ _ _ h => h) (Or.inl ⟨by rfl, ?yr5⟩) (Below.refl _ _) ?rr5
      case yr5 => (intro w hSw; go_simp; try with_reducible rfl)
      try simp only [Act.put, List.setIfInBounds_toArray, List.set_cons_zero, List.set_cons_succ]
      refine wpAnyH_take (i := 5) (oi := { dst := some 26, op := Op.load 81 (Operand.tmp 25), type := 81, pos := "block.go:134", after := #[{ on := 4, ground := Ground.data }], guard := none }) (v := ?vr6) rfl (by kernel_rfl) (by kernel_rfl) (by kernel_rfl) (fun _ _ _ h => h) (Or.inl ⟨by rfl, ?yr6⟩) (Below.refl _ _) ?rr6
      case yr6 => (intro w hSw; obtain ⟨t0, t1⟩ := FT.out w hSw; go_simp; try with_reducible rfl)
      try simp only [Act.put, List.setIfInBounds_toArray, List.set_cons_zero, List.set_cons_succ]
      refine wpAnyH_take (i := 6) (oi := { dst := some 27, op := Op.lookup 86 (Operand.tmp 24) (Operand.tmp 26) false, type := 110, pos := "block.go:134", after := #[{ on := 3, ground := Ground.data }, { on := 5, ground := Ground.data }], guard := none }) (v := .map (some ib)) rfl (by kernel_rfl) (by kernel_rfl) (by kernel_rfl) (fun _ _ _ h => h) (yields_look (by rfl) (.tmp 24) (.tmp 26) false rfl (.map (some m)) (.int .u32 y.k) (.map (some ib)) rfl rfl FL.out) (Below.refl _ _) ?_
      try simp only [Act.put, List.setIfInBounds_toArray, List.set_cons_zero, List.set_cons_succ]
      refine wpAnyH_take (i := 7) (oi := { dst := some 6, op := Op.assign (Operand.tmp 27), type := 110, pos := "block.go:134", after := #[{ on := 6, ground := Ground.data }, { on := 0, ground := Ground.phase }, { on := 1, ground := Ground.phase }, { on := 2, ground := Ground.phase }, { on := 3, ground := Ground.phase }, { on := 4, ground := Ground.phase }, { on := 5, ground := Ground.phase }, { on := 6, ground := Ground.phase }], guard := none }) (v := ?vr8) rfl (by kernel_rfl) (by kernel_rfl) (by kernel_rfl) (fun _ _ _ h => h) (Or.inl ⟨by rfl, ?yr8⟩) (Below.refl _ _) ?rr8
      case yr8 => (intro w hSw; go_simp; try with_reducible rfl)
      try simp only [Act.put, List.setIfInBounds_toArray, List.set_cons_zero, List.set_cons_succ]
      refine wpAnyH_done (by kernel_rfl) ?_ _
      have RN : Hid (u0.rangeAt w.heap.size 1 (y.s.map (Value.int .u8))) := FR.out _ (Below.refl _ _)
      have hI := FI.out _ (Below.refl _ _)
      have Z : Hid (IX u0 B g m z N (l ++ [y]) ∧ Below B w u0) := FQ.out _ (Below.refl _ _)
      clear FT FL FI FR FA
      go_wp2_with (refine wpList_load_mid rfl 59 _ rfl w.heap.size 1 rfl (y.s.map (Value.int .u8)) _ RN.out Tryd.underlying59 rfl (infoHl _ HSL.out) (Hid.out ?_))
      unfold Hid
      clear FQ
      go_wp2
      go_end0
      exact ⟨rfl, Z.out⟩
    · have hf0 := hf
      clear hf0
      have FT : Hid (∀ x, From W1 x → x.cell? ⟨g, 2, none⟩ = some (.map (some m)) ∧ x.cell? ⟨w.heap.size, 0, none⟩ = some (.int .u32 y.k)) := fun x hx => ⟨(IG.cells (A1.out.1.kept hx)).2.2, range_head (A1.out.2.1.kept hx).range⟩
      have FR : Hid (∀ x, From W1 x → x.rangeAt w.heap.size 1 (y.s.map (Value.int .u8))) := fun x hx => range_at (A1.out.2.1.kept hx)
      have FA : Hid (∀ x, From W1 x → AS w x B g m z N n (wk l) l y) := fun x hx => A1.out.kept hx (Nat.le_trans HBB.out (Nat.le_of_lt A1.out.2.2.2))
      obtain ⟨f, ib, u, hm, hf2, hu, hA, hbi, hback⟩ := IG.inner A1.out.1 y.k HW.out
      have FL : Hid (∀ x, From W1 x → (Instr.lookup 86 (.map (some m)) (.int .u32 y.k) false).run Tryd.prog x = .ok (.map (some ib)) x) := fun x hx => by
        have := (hm.kept hx).look (t := 86) lawU Tryd.underlying86 (zeroM x) (keyU y.k HKR.out) false
        rwa [hf2] at this
      have HUE : Hid (u (.agg (u8c y.s)) = inn l z y.k y.s) := hA _ HSL.out
      have FI : Hid (∀ x, From W1 x → (Instr.lookup 110 (.map (some ib)) (.agg (y.s.map (Value.int .u8)).toArray) true).run Tryd.prog x = .ok (.tuple #[.int .i64 0, .bool false]) x) := fun x hx => by
        have := (hu.kept hx).look (t := 110) lawH Tryd.underlying110 (zeroN x) (keyH y.s HSL.out HSB.out) true
        have e : u (.agg (y.s.map (Value.int .u8)).toArray) = none := by
          have := HUE.out
          rw [HIN.out, if_neg hf] at this
          exact this
        rwa [e] at this
      have FM : Hid (∀ x, From W1 x → MP Tryd.prog 59 x ib n u) := fun x hx => hu.kept hx
      have HUN : Hid (u (.agg (y.s.map (Value.int .u8)).toArray) = none) := by
        have := HUE.out
        rw [HIN.out, if_neg hf] at this
        exact this
      have FK : Hid (∀ x, From W1 x → ∀ ob u', u' (.agg (y.s.map (Value.int .u8)).toArray) = some (.int .i64 at') → (∀ r, r ≠ .agg (y.s.map (Value.int .u8)).toArray → u' r = u r) → MP Tryd.prog 59 (ChangeMaps.setBlock x ib ob) ib (n + 1) u' → IX (ChangeMaps.setBlock x ib ob) B g m z N (l ++ [y]) ∧ Below B w (ChangeMaps.setBlock x ib ob)) := fun x hx ob u' c1 c2 c3 => by
        have h1 := hback x hx ob u' y.s (.int .i64 at') c1 c2 c3
        refine ⟨HST.out _ _ _ (fun k => by
            rw [HWA.out]
            by_cases e : k = y.k
            · subst e; simp [HW.out]
            · simp [e]) hf h1, ((FA.out x hx).2.2.1).trans (setBlock_below ob hbi)⟩
      clear hm hf2 hu hA hbi hback HUE
      clear HWA HST HQ HIN HNO hf
      go_wp2_with fail
      refine wp_region_held_drew (S := From W1) (by kernel_rfl) ((Below.refl _ _).drew) (fun _ => ?_)
      refine wpAnyH_on ((Below.refl _ _).drew) (fun u0 hu0 bu0 => ?_)
      replace FT := on FT bu0
      replace FL := on FL bu0
      replace FI := on FI bu0
      replace FR := on FR bu0
      replace FA := on FA bu0
      replace FK := on FK bu0
      replace FM := on FM bu0
      refine wpAnyH_take (i := 0) (oi := { dst := some 21, op := Op.move (Operand.tmp 0), type := 54, pos := "block.go:134", after := #[], guard := none }) (v := ?vs1) rfl (by kernel_rfl) (by kernel_rfl) (by kernel_rfl) (fun _ _ _ h => h) (Or.inl ⟨by rfl, ?ys1⟩) (Below.refl _ _) ?rs1
      case ys1 => (intro w hSw; go_simp; try with_reducible rfl)
      try simp only [Act.put, List.setIfInBounds_toArray, List.set_cons_zero, List.set_cons_succ]
      refine wpAnyH_take (i := 1) (oi := { dst := some 22, op := Op.nilCheck (Operand.tmp 21), type := 0, pos := "block.go:134", after := #[{ on := 0, ground := Ground.data }], guard := none }) (v := ?vs2) rfl (by kernel_rfl) (by kernel_rfl) (by kernel_rfl) (fun _ _ _ h => h) (Or.inl ⟨by rfl, ?ys2⟩) (Below.refl _ _) ?rs2
      case ys2 => (intro w hSw; go_simp; try with_reducible rfl)
      try simp only [Act.put, List.setIfInBounds_toArray, List.set_cons_zero, List.set_cons_succ]
      refine wpAnyH_take (i := 2) (oi := { dst := some 23, op := Op.fieldAddr 88 (Operand.tmp 22) 2, type := 0, pos := "block.go:134", after := #[{ on := 1, ground := Ground.data }], guard := none }) (v := ?vs3) rfl (by kernel_rfl) (by kernel_rfl) (by kernel_rfl) (fun _ _ _ h => h) (Or.inl ⟨by rfl, ?ys3⟩) (Below.refl _ _) ?rs3
      case ys3 => (intro w hSw; go_simp; try with_reducible rfl)
      try simp only [Act.put, List.setIfInBounds_toArray, List.set_cons_zero, List.set_cons_succ]
      refine wpAnyH_take (i := 3) (oi := { dst := some 24, op := Op.load 86 (Operand.tmp 23), type := 86, pos := "block.go:134", after := #[{ on := 2, ground := Ground.data }], guard := none }) (v := ?vs4) rfl (by kernel_rfl) (by kernel_rfl) (by kernel_rfl) (fun _ _ _ h => h) (Or.inl ⟨by rfl, ?ys4⟩) (Below.refl _ _) ?rs4
      case ys4 => (intro w hSw; obtain ⟨t0, t1⟩ := FT.out w hSw; go_simp; try with_reducible rfl)
      try simp only [Act.put, List.setIfInBounds_toArray, List.set_cons_zero, List.set_cons_succ]
      refine wpAnyH_take (i := 4) (oi := { dst := some 25, op := Op.fieldAddr 83 (Operand.tmp 4) 0, type := 0, pos := "block.go:134", after := #[], guard := none }) (v := ?vs5) rfl (by kernel_rfl) (by kernel_rfl) (by kernel_rfl) (fun _ _ _ h => h) (Or.inl ⟨by rfl, ?ys5⟩) (Below.refl _ _) ?rs5
      case ys5 => (intro w hSw; go_simp; try with_reducible rfl)
      try simp only [Act.put, List.setIfInBounds_toArray, List.set_cons_zero, List.set_cons_succ]
      refine wpAnyH_take (i := 5) (oi := { dst := some 26, op := Op.load 81 (Operand.tmp 25), type := 81, pos := "block.go:134", after := #[{ on := 4, ground := Ground.data }], guard := none }) (v := ?vs6) rfl (by kernel_rfl) (by kernel_rfl) (by kernel_rfl) (fun _ _ _ h => h) (Or.inl ⟨by rfl, ?ys6⟩) (Below.refl _ _) ?rs6
      case ys6 => (intro w hSw; obtain ⟨t0, t1⟩ := FT.out w hSw; go_simp; try with_reducible rfl)
      try simp only [Act.put, List.setIfInBounds_toArray, List.set_cons_zero, List.set_cons_succ]
      refine wpAnyH_take (i := 6) (oi := { dst := some 27, op := Op.lookup 86 (Operand.tmp 24) (Operand.tmp 26) false, type := 110, pos := "block.go:134", after := #[{ on := 3, ground := Ground.data }, { on := 5, ground := Ground.data }], guard := none }) (v := .map (some ib)) rfl (by kernel_rfl) (by kernel_rfl) (by kernel_rfl) (fun _ _ _ h => h) (yields_look (by rfl) (.tmp 24) (.tmp 26) false rfl (.map (some m)) (.int .u32 y.k) (.map (some ib)) rfl rfl FL.out) (Below.refl _ _) ?_
      try simp only [Act.put, List.setIfInBounds_toArray, List.set_cons_zero, List.set_cons_succ]
      refine wpAnyH_take (i := 7) (oi := { dst := some 6, op := Op.assign (Operand.tmp 27), type := 110, pos := "block.go:134", after := #[{ on := 6, ground := Ground.data }, { on := 0, ground := Ground.phase }, { on := 1, ground := Ground.phase }, { on := 2, ground := Ground.phase }, { on := 3, ground := Ground.phase }, { on := 4, ground := Ground.phase }, { on := 5, ground := Ground.phase }, { on := 6, ground := Ground.phase }], guard := none }) (v := ?vs8) rfl (by kernel_rfl) (by kernel_rfl) (by kernel_rfl) (fun _ _ _ h => h) (Or.inl ⟨by rfl, ?ys8⟩) (Below.refl _ _) ?rs8
      case ys8 => (intro w hSw; go_simp; try with_reducible rfl)
      try simp only [Act.put, List.setIfInBounds_toArray, List.set_cons_zero, List.set_cons_succ]
      refine wpAnyH_done (by kernel_rfl) ?_ _
      have RN : Hid (u0.rangeAt w.heap.size 1 (y.s.map (Value.int .u8))) := FR.out _ (Below.refl _ _)
      have hI := FI.out _ (Below.refl _ _)
      have Z : Hid (∀ ob u', u' (.agg (y.s.map (Value.int .u8)).toArray) = some (.int .i64 at') → (∀ r, r ≠ .agg (y.s.map (Value.int .u8)).toArray → u' r = u r) → MP Tryd.prog 59 (ChangeMaps.setBlock u0 ib ob) ib (n + 1) u' → IX (ChangeMaps.setBlock u0 ib ob) B g m z N (l ++ [y]) ∧ Below B w (ChangeMaps.setBlock u0 ib ob)) := FK.out _ (Below.refl _ _)
      clear FT FL FI FR FA
      go_wp2_with (refine wpList_load_mid rfl 59 _ rfl w.heap.size 1 rfl (y.s.map (Value.int .u8)) _ RN.out Tryd.underlying59 rfl (infoHl _ HSL.out) (Hid.out ?_))
      unfold Hid
      have M : Hid (MP Tryd.prog 59 u0 ib n u) := FM.out _ (Below.refl _ _)
      clear FM FK
      go_wp2_with (refine wpList_load_mid rfl 59 _ rfl w.heap.size 1 rfl (y.s.map (Value.int .u8)) _ RN.out Tryd.underlying59 rfl (infoHl _ HSL.out) (Hid.out ?_))
      unfold Hid
      go_wp2_with (at_mapUpdate; refine wpList_mput rfl _ _ _ rfl lawH Tryd.underlying110 rfl M.out (.agg (y.s.map (Value.int .u8)).toArray) (.int .i64 at') rfl rfl (keyH y.s HSL.out HSB.out) HUN.out (Hid.out ?_))
      unfold Hid
      intro ob u' c1 c2 c3
      have ZZ := Z.out ob u' c1 c2 c3
      have HZZ : Hid (IX (ChangeMaps.setBlock u0 ib ob) B g m z N (l ++ [y]) ∧ Below B w (ChangeMaps.setBlock u0 ib ob)) := ZZ
      clear ZZ c1 c2 c3 M
      go_wp2
      go_end0
      exact ⟨rfl, HZZ.out⟩
  | false =>
    have hw0 := hw
    obtain ⟨f0, hm0, hf0, hc0⟩ := A1.out.1.outer
    have FM0 : Hid (∀ x, From W1 x → MP Tryd.prog 81 x m n f0) := fun x hx => hm0.kept hx
    have HF0 : Hid (f0 (.int .u32 y.k) = none) := (hf0 y.k).1 hw
    have hml := hm0.lt
    have HML : Hid (m ≠ w.heap.size) := fun e => by
      obtain ⟨es, clock, hh, _⟩ := hm0
      have := A1.out.2.1
      unfold IB at this
      rw [e, this] at hh
      cases hh
    have FA0 : Hid (∀ x, From W1 x → AS w x B g m z N n (wk l) l y) := fun x hx => A1.out.kept hx (Nat.le_trans HBB.out (Nat.le_of_lt A1.out.2.2.2))
    have HCT : Hid (∀ x nb ob f', From W1 x → W1.heap.size ≤ nb → MP Tryd.prog 59 x nb 0 (fun _ => none) → f' (.int .u32 y.k) = some (.map (some nb)) → (∀ r, r ≠ .int .u32 y.k → f' r = f0 r) → MP Tryd.prog 81 (ChangeMaps.setBlock x m ob) m (n + 1) f' → AS w (ChangeMaps.setBlock x m ob) B g m z N (n + 1) (wk (l ++ [y])) l y) := fun x nb ob f' hx hnb c0 c1 c2 c3 => by
      have h1 := hc0 x nb ob f' y.k hx hnb c0 hw (HNO.out hw) c1 c2 c3 (Nat.le_trans HBB.out (Nat.le_of_lt A1.out.2.2.2))
      have h2 := FA0.out x hx
      refine ⟨h1.congr (fun k => (HWA.out k).symm) (fun _ _ => rfl), (setBlock_other ob (fun e => HML.out e.symm)).trans h2.2.1, h2.2.2.1.trans (setBlock_below ob h1.2.2.1), by rw [setBlock_size]; exact h2.2.2.2⟩
    have HWT : Hid (wk (l ++ [y]) y.k = true) := by unfold Hid; rw [HWA.out]; simp
    have HNF : Hid (¬ fi l y.k y.s < l.length) := fun hq => by rw [fi_wk l _ _ hq] at hw; cases hw
    have HC1 : Hid (CS g m w.heap.size y.k W1) := A1.out.cs
    clear hm0 hf0 hc0 hw hw0 hml
    go_wp2_with fail
    refine wp_region_held_drew (S := CS g m w.heap.size y.k) (by kernel_rfl) (HC1.out) (fun _ => ?_)
    refine wpAnyH_name (fun u0 hu0 => ?_)
    have su0 : (CS g m w.heap.size y.k) u0 := by rw [hu0.out]; exact (HC1.out)
    refine wpAnyH_take (i := 0) (oi := { dst := some 14, op := Op.move (Operand.tmp 0), type := 54, pos := "block.go:132", after := #[], guard := none }) (v := ?vq1) rfl (by kernel_rfl) (by kernel_rfl) (by kernel_rfl) (fun _ _ _ h => h) (Or.inl ⟨by rfl, ?yq1⟩) su0 ?rq1
    case yq1 => (intro w hSw; go_simp; try with_reducible rfl)
    try simp only [Act.put, List.setIfInBounds_toArray, List.set_cons_zero, List.set_cons_succ]
    refine wpAnyH_take (i := 1) (oi := { dst := some 15, op := Op.nilCheck (Operand.tmp 14), type := 0, pos := "block.go:132", after := #[{ on := 0, ground := Ground.data }], guard := none }) (v := ?vq2) rfl (by kernel_rfl) (by kernel_rfl) (by kernel_rfl) (fun _ _ _ h => h) (Or.inl ⟨by rfl, ?yq2⟩) su0 ?rq2
    case yq2 => (intro w hSw; go_simp; try with_reducible rfl)
    try simp only [Act.put, List.setIfInBounds_toArray, List.set_cons_zero, List.set_cons_succ]
    refine wpAnyH_take (i := 2) (oi := { dst := some 16, op := Op.fieldAddr 88 (Operand.tmp 15) 2, type := 0, pos := "block.go:132", after := #[{ on := 1, ground := Ground.data }], guard := none }) (v := ?vq3) rfl (by kernel_rfl) (by kernel_rfl) (by kernel_rfl) (fun _ _ _ h => h) (Or.inl ⟨by rfl, ?yq3⟩) su0 ?rq3
    case yq3 => (intro w hSw; go_simp; try with_reducible rfl)
    try simp only [Act.put, List.setIfInBounds_toArray, List.set_cons_zero, List.set_cons_succ]
    refine wpAnyH_take (i := 3) (oi := { dst := some 17, op := Op.load 86 (Operand.tmp 16), type := 86, pos := "block.go:132", after := #[{ on := 2, ground := Ground.data }], guard := none }) (v := ?vq4) rfl (by kernel_rfl) (by kernel_rfl) (by kernel_rfl) (fun _ _ _ h => h) (Or.inl ⟨by rfl, ?yq4⟩) su0 ?rq4
    case yq4 => (intro w hSw; obtain ⟨t0, t1⟩ := hSw; go_simp; try with_reducible rfl)
    try simp only [Act.put, List.setIfInBounds_toArray, List.set_cons_zero, List.set_cons_succ]
    refine wpAnyH_take (i := 4) (oi := { dst := some 18, op := Op.fieldAddr 83 (Operand.tmp 4) 0, type := 0, pos := "block.go:132", after := #[], guard := none }) (v := ?vq5) rfl (by kernel_rfl) (by kernel_rfl) (by kernel_rfl) (fun _ _ _ h => h) (Or.inl ⟨by rfl, ?yq5⟩) su0 ?rq5
    case yq5 => (intro w hSw; go_simp; try with_reducible rfl)
    try simp only [Act.put, List.setIfInBounds_toArray, List.set_cons_zero, List.set_cons_succ]
    refine wpAnyH_take (i := 5) (oi := { dst := some 19, op := Op.load 81 (Operand.tmp 18), type := 81, pos := "block.go:132", after := #[{ on := 4, ground := Ground.data }], guard := none }) (v := ?vq6) rfl (by kernel_rfl) (by kernel_rfl) (by kernel_rfl) (fun _ _ _ h => h) (Or.inl ⟨by rfl, ?yq6⟩) su0 ?rq6
    case yq6 => (intro w hSw; obtain ⟨t0, t1⟩ := hSw; go_simp; try with_reducible rfl)
    try simp only [Act.put, List.setIfInBounds_toArray, List.set_cons_zero, List.set_cons_succ]
    refine wpAnyH_ready (rs := [6]) (by kernel_rfl) (by simp) ?_
    refine AllReadyH.cons (o := { dst := some 20, op := Op.makeMap 110 none, type := 110, pos := "block.go:132", after := #[], guard := none }) rfl (fun KK hKK => ?_) ?_
    · have tu7 := run_makeMap (P := Tryd.prog) 110 u0
      go_simp
      refine hKK.out _ _ (⟨(Below.cell (al_below u0 _) (World.block_lt_of_cell? _ _ su0.1)).trans su0.1, (Below.cell (al_below u0 _) (World.block_lt_of_cell? _ _ su0.2)).trans su0.2⟩) (fun _ => ?_)
      clear hKK KK
      try simp only [Act.put, List.setIfInBounds_toArray, List.set_cons_zero, List.set_cons_succ]
      refine wpAnyH_name (fun u7 hu7 => ?_)
      have su7 : (CS g m w.heap.size y.k) u7 := by rw [hu7.out]; exact (⟨(Below.cell (al_below u0 _) (World.block_lt_of_cell? _ _ su0.1)).trans su0.1, (Below.cell (al_below u0 _) (World.block_lt_of_cell? _ _ su0.2)).trans su0.2⟩)
      have fu0 : From W1 u0 := by rw [hu0.out]; exact (Below.refl _ _).drew
      have fu7 : From W1 u7 := by rw [hu7.out]; exact Below.trans fu0 ((al_below _ _).mono (Below.size fu0))
      have Mu7 : MP Tryd.prog 59 u7 u0.heap.size 0 (fun _ => none) := by rw [hu7.out]; exact MP.made _ _ _
      refine wpAnyH_ready (rs := [7]) (by kernel_rfl) (by simp) ?_
      refine AllReadyH.cons (o := { dst := none, op := Op.mapUpdate 86 (Operand.tmp 17) (Operand.tmp 19) (Operand.tmp 20), type := 0, pos := "block.go:132", after := #[{ on := 3, ground := Ground.data }, { on := 5, ground := Ground.data }, { on := 6, ground := Ground.data }, { on := 0, ground := Ground.phase }, { on := 1, ground := Ground.phase }, { on := 2, ground := Ground.phase }, { on := 3, ground := Ground.phase }, { on := 4, ground := Ground.phase }, { on := 5, ground := Ground.phase }, { on := 6, ground := Ground.phase }], guard := none }) rfl (fun KK hKK => ?_) ?_
      · refine wp_mput _ _ _ rfl lawU Tryd.underlying86 rfl (FM0.out _ fu7) (.int .u32 y.k) (.map (some u0.heap.size)) rfl rfl (keyU _ HKR.out) HF0.out (fun ob f' r1 r2 r3 => ?_)
        have Au8 := HCT.out _ u0.heap.size ob f' fu7 (Below.size fu0) Mu7 r1 r2 r3
        refine hKK.out _ _ (Au8.cs) (fun _ => ?_)
        clear hKK KK
        try simp only [Act.put]
        refine wpAnyH_name (fun u8 hu8 => ?_)
        have su8 : (CS g m w.heap.size y.k) u8 := by rw [hu8.out]; exact (Au8.cs)
        rw [← hu8.out] at Au8
        refine wpAnyH_done (by kernel_rfl) ?_ _
        have A7' : Hid (AS w u8 B g m z N (n + 1) (wk (l ++ [y])) l y) := Au8
        clear Au8
        obtain ⟨W7, hW7⟩ : ∃ W7, W7 = u8 := ⟨_, rfl⟩
        rw [← hW7] at A7' ⊢
        clear hW7
        have A7 : Hid (AS w W7 B g m z N (n + 1) (wk (l ++ [y])) l y) := A7'
        have hf := HNF.out
        clear FM0 FA0 HCT HC1 HF0 A7'
        have FT : Hid (∀ x, From W7 x → x.cell? ⟨g, 2, none⟩ = some (.map (some m)) ∧ x.cell? ⟨w.heap.size, 0, none⟩ = some (.int .u32 y.k)) := fun x hx => ⟨(IG.cells (A7.out.1.kept hx)).2.2, range_head (A7.out.2.1.kept hx).range⟩
        have FR : Hid (∀ x, From W7 x → x.rangeAt w.heap.size 1 (y.s.map (Value.int .u8))) := fun x hx => range_at (A7.out.2.1.kept hx)
        have FA : Hid (∀ x, From W7 x → AS w x B g m z N (n + 1) (wk (l ++ [y])) l y) := fun x hx => A7.out.kept hx (Nat.le_trans HBB.out (Nat.le_of_lt A7.out.2.2.2))
        obtain ⟨f, ib, u, hm, hf2, hu, hA, hbi, hback⟩ := IG.inner A7.out.1 y.k HWT.out
        have FL : Hid (∀ x, From W7 x → (Instr.lookup 86 (.map (some m)) (.int .u32 y.k) false).run Tryd.prog x = .ok (.map (some ib)) x) := fun x hx => by
          have := (hm.kept hx).look (t := 86) lawU Tryd.underlying86 (zeroM x) (keyU y.k HKR.out) false
          rwa [hf2] at this
        have HUE : Hid (u (.agg (u8c y.s)) = inn l z y.k y.s) := hA _ HSL.out
        have FI : Hid (∀ x, From W7 x → (Instr.lookup 110 (.map (some ib)) (.agg (y.s.map (Value.int .u8)).toArray) true).run Tryd.prog x = .ok (.tuple #[.int .i64 0, .bool false]) x) := fun x hx => by
          have := (hu.kept hx).look (t := 110) lawH Tryd.underlying110 (zeroN x) (keyH y.s HSL.out HSB.out) true
          have e : u (.agg (y.s.map (Value.int .u8)).toArray) = none := by
            have := HUE.out
            rw [HIN.out, if_neg hf] at this
            exact this
          rwa [e] at this
        have FM : Hid (∀ x, From W7 x → MP Tryd.prog 59 x ib (n + 1) u) := fun x hx => hu.kept hx
        have HUN : Hid (u (.agg (y.s.map (Value.int .u8)).toArray) = none) := by
          have := HUE.out
          rw [HIN.out, if_neg hf] at this
          exact this
        have FK : Hid (∀ x, From W7 x → ∀ ob u', u' (.agg (y.s.map (Value.int .u8)).toArray) = some (.int .i64 at') → (∀ r, r ≠ .agg (y.s.map (Value.int .u8)).toArray → u' r = u r) → MP Tryd.prog 59 (ChangeMaps.setBlock x ib ob) ib ((n + 1) + 1) u' → IX (ChangeMaps.setBlock x ib ob) B g m z N (l ++ [y]) ∧ Below B w (ChangeMaps.setBlock x ib ob)) := fun x hx ob u' c1 c2 c3 => by
          have h1 := hback x hx ob u' y.s (.int .i64 at') c1 c2 c3
          refine ⟨HST.out _ _ _ (fun k => rfl) hf h1, ((FA.out x hx).2.2.1).trans (setBlock_below ob hbi)⟩
        clear hm hf2 hu hA hbi hback HUE
        clear HWA HST HQ HIN HNO hf
        go_wp2_with fail
        refine wp_region_held_drew (S := From W7) (by kernel_rfl) ((Below.refl _ _).drew) (fun _ => ?_)
        refine wpAnyH_on ((Below.refl _ _).drew) (fun u0 hu0 bu0 => ?_)
        replace FT := on FT bu0
        replace FL := on FL bu0
        replace FI := on FI bu0
        replace FR := on FR bu0
        replace FA := on FA bu0
        replace FK := on FK bu0
        replace FM := on FM bu0
        refine wpAnyH_take (i := 0) (oi := { dst := some 21, op := Op.move (Operand.tmp 0), type := 54, pos := "block.go:134", after := #[], guard := none }) (v := ?vv1) rfl (by kernel_rfl) (by kernel_rfl) (by kernel_rfl) (fun _ _ _ h => h) (Or.inl ⟨by rfl, ?yv1⟩) (Below.refl _ _) ?rv1
        case yv1 => (intro w hSw; go_simp; try with_reducible rfl)
        try simp only [Act.put, List.setIfInBounds_toArray, List.set_cons_zero, List.set_cons_succ]
        refine wpAnyH_take (i := 1) (oi := { dst := some 22, op := Op.nilCheck (Operand.tmp 21), type := 0, pos := "block.go:134", after := #[{ on := 0, ground := Ground.data }], guard := none }) (v := ?vv2) rfl (by kernel_rfl) (by kernel_rfl) (by kernel_rfl) (fun _ _ _ h => h) (Or.inl ⟨by rfl, ?yv2⟩) (Below.refl _ _) ?rv2
        case yv2 => (intro w hSw; go_simp; try with_reducible rfl)
        try simp only [Act.put, List.setIfInBounds_toArray, List.set_cons_zero, List.set_cons_succ]
        refine wpAnyH_take (i := 2) (oi := { dst := some 23, op := Op.fieldAddr 88 (Operand.tmp 22) 2, type := 0, pos := "block.go:134", after := #[{ on := 1, ground := Ground.data }], guard := none }) (v := ?vv3) rfl (by kernel_rfl) (by kernel_rfl) (by kernel_rfl) (fun _ _ _ h => h) (Or.inl ⟨by rfl, ?yv3⟩) (Below.refl _ _) ?rv3
        case yv3 => (intro w hSw; go_simp; try with_reducible rfl)
        try simp only [Act.put, List.setIfInBounds_toArray, List.set_cons_zero, List.set_cons_succ]
        refine wpAnyH_take (i := 3) (oi := { dst := some 24, op := Op.load 86 (Operand.tmp 23), type := 86, pos := "block.go:134", after := #[{ on := 2, ground := Ground.data }], guard := none }) (v := ?vv4) rfl (by kernel_rfl) (by kernel_rfl) (by kernel_rfl) (fun _ _ _ h => h) (Or.inl ⟨by rfl, ?yv4⟩) (Below.refl _ _) ?rv4
        case yv4 => (intro w hSw; obtain ⟨t0, t1⟩ := FT.out w hSw; go_simp; try with_reducible rfl)
        try simp only [Act.put, List.setIfInBounds_toArray, List.set_cons_zero, List.set_cons_succ]
        refine wpAnyH_take (i := 4) (oi := { dst := some 25, op := Op.fieldAddr 83 (Operand.tmp 4) 0, type := 0, pos := "block.go:134", after := #[], guard := none }) (v := ?vv5) rfl (by kernel_rfl) (by kernel_rfl) (by kernel_rfl) (fun _ _ _ h => h) (Or.inl ⟨by rfl, ?yv5⟩) (Below.refl _ _) ?rv5
        case yv5 => (intro w hSw; go_simp; try with_reducible rfl)
        try simp only [Act.put, List.setIfInBounds_toArray, List.set_cons_zero, List.set_cons_succ]
        refine wpAnyH_take (i := 5) (oi := { dst := some 26, op := Op.load 81 (Operand.tmp 25), type := 81, pos := "block.go:134", after := #[{ on := 4, ground := Ground.data }], guard := none }) (v := ?vv6) rfl (by kernel_rfl) (by kernel_rfl) (by kernel_rfl) (fun _ _ _ h => h) (Or.inl ⟨by rfl, ?yv6⟩) (Below.refl _ _) ?rv6
        case yv6 => (intro w hSw; obtain ⟨t0, t1⟩ := FT.out w hSw; go_simp; try with_reducible rfl)
        try simp only [Act.put, List.setIfInBounds_toArray, List.set_cons_zero, List.set_cons_succ]
        refine wpAnyH_take (i := 6) (oi := { dst := some 27, op := Op.lookup 86 (Operand.tmp 24) (Operand.tmp 26) false, type := 110, pos := "block.go:134", after := #[{ on := 3, ground := Ground.data }, { on := 5, ground := Ground.data }], guard := none }) (v := .map (some ib)) rfl (by kernel_rfl) (by kernel_rfl) (by kernel_rfl) (fun _ _ _ h => h) (yields_look (by rfl) (.tmp 24) (.tmp 26) false rfl (.map (some m)) (.int .u32 y.k) (.map (some ib)) rfl rfl FL.out) (Below.refl _ _) ?_
        try simp only [Act.put, List.setIfInBounds_toArray, List.set_cons_zero, List.set_cons_succ]
        refine wpAnyH_take (i := 7) (oi := { dst := some 6, op := Op.assign (Operand.tmp 27), type := 110, pos := "block.go:134", after := #[{ on := 6, ground := Ground.data }, { on := 0, ground := Ground.phase }, { on := 1, ground := Ground.phase }, { on := 2, ground := Ground.phase }, { on := 3, ground := Ground.phase }, { on := 4, ground := Ground.phase }, { on := 5, ground := Ground.phase }, { on := 6, ground := Ground.phase }], guard := none }) (v := ?vv8) rfl (by kernel_rfl) (by kernel_rfl) (by kernel_rfl) (fun _ _ _ h => h) (Or.inl ⟨by rfl, ?yv8⟩) (Below.refl _ _) ?rv8
        case yv8 => (intro w hSw; go_simp; try with_reducible rfl)
        try simp only [Act.put, List.setIfInBounds_toArray, List.set_cons_zero, List.set_cons_succ]
        refine wpAnyH_done (by kernel_rfl) ?_ _
        have RN : Hid (u0.rangeAt w.heap.size 1 (y.s.map (Value.int .u8))) := FR.out _ (Below.refl _ _)
        have hI := FI.out _ (Below.refl _ _)
        have Z : Hid (∀ ob u', u' (.agg (y.s.map (Value.int .u8)).toArray) = some (.int .i64 at') → (∀ r, r ≠ .agg (y.s.map (Value.int .u8)).toArray → u' r = u r) → MP Tryd.prog 59 (ChangeMaps.setBlock u0 ib ob) ib ((n + 1) + 1) u' → IX (ChangeMaps.setBlock u0 ib ob) B g m z N (l ++ [y]) ∧ Below B w (ChangeMaps.setBlock u0 ib ob)) := FK.out _ (Below.refl _ _)
        clear FT FL FI FR FA
        go_wp2_with (refine wpList_load_mid rfl 59 _ rfl w.heap.size 1 rfl (y.s.map (Value.int .u8)) _ RN.out Tryd.underlying59 rfl (infoHl _ HSL.out) (Hid.out ?_))
        unfold Hid
        have M : Hid (MP Tryd.prog 59 u0 ib (n + 1) u) := FM.out _ (Below.refl _ _)
        clear FM FK
        go_wp2_with (refine wpList_load_mid rfl 59 _ rfl w.heap.size 1 rfl (y.s.map (Value.int .u8)) _ RN.out Tryd.underlying59 rfl (infoHl _ HSL.out) (Hid.out ?_))
        unfold Hid
        go_wp2_with (at_mapUpdate; refine wpList_mput rfl _ _ _ rfl lawH Tryd.underlying110 rfl M.out (.agg (y.s.map (Value.int .u8)).toArray) (.int .i64 at') rfl rfl (keyH y.s HSL.out HSB.out) HUN.out (Hid.out ?_))
        unfold Hid
        intro ob u' c1 c2 c3
        have ZZ := Z.out ob u' c1 c2 c3
        have HZZ : Hid (IX (ChangeMaps.setBlock u0 ib ob) B g m z N (l ++ [y]) ∧ Below B w (ChangeMaps.setBlock u0 ib ob)) := ZZ
        clear ZZ c1 c2 c3 M
        go_wp2
        go_end0
        exact ⟨rfl, HZZ.out⟩
      exact AllReadyH.nil
    exact AllReadyH.nil
end Go.Proofs.YtgnampbbkaolmaaDoor
namespace Go.Proofs.YtgnampbbkaolmaaDoor
open Go.RowKit Go.Maps
set_option maxRecDepth 100000

/-- The empty index. -/
theorem IX.new (w : World) (z N : Int) : IX ((w.alloc (.map #[] 0)).alloc (.cells #[.int .i64 z, .int .i64 N, .map (some w.heap.size)] 88)) w.heap.size (w.heap.size + 1) w.heap.size z N [] := by
  refine ⟨0, ?_, by omega, Nat.le_refl _, fun _ => none, fun _ => 0, (MP.made _ _ _).kept (al_below _ _), fun k => rfl, fun k hk => by simp [wk] at hk⟩
  have := heap_alloc_new (w.alloc (.map #[] 0)) (.cells #[.int .i64 z, .int .i64 N, .map (some w.heap.size)] 88)
  rwa [show (w.alloc (.map #[] 0)).heap.size = w.heap.size + 1 by simp] at this
/-- What New hands back. -/
def NX (w w' : World) (v : Value) (z n : Int) (l : List Sg) : Prop := if chk z n l.length = 0 then ∃ g m, v = .pointer (some ⟨g, 0, none⟩) ∧ IX w' w.heap.size g m z l.length l else v = .pointer none
set_option maxHeartbeats 4000000 in
theorem new_any (z n : Int) (v : Value) (l : List Sg) (w : World) (h : GS w v l) (hl : l.length ≤ 100000) :
    Calls Tryd.prog 25 #[.int .i64 z, .int .i64 n, v] w fun e w' => ∃ v', e = .returned (.tuple #[v', .int .i64 (chk z n l.length)]) ∧ NX w w' v' z n l ∧ Below w.heap.size w w' := by
  obtain ⟨a, c, rfl, h2, h3, h4⟩ := h.shape
  have CK := bcheck_any z n a l.length c w (by omega)
  have HS : Hid (GS w (.slice a l.length c) l) := h
  have HOK : Hid (∀ x ∈ l, x.ok) := h.ok
  have HX : Hid (∀ w' v', NX w w' v' z n l = if chk z n l.length = 0 then ∃ g m, v' = .pointer (some ⟨g, 0, none⟩) ∧ IX w' w.heap.size g m z l.length l else v' = .pointer none) := fun _ _ => rfl
  have HZ : Hid (chk z n l.length = 0 → 1 ≤ z ∧ z ≤ 4096 ∧ l.length ≤ 4096) := fun hc => by
    unfold chk at hc
    split at hc
    · cases hc
    · split at hc
      · cases hc
      · split at hc
        · cases hc
        · omega
  obtain ⟨L, hL⟩ : ∃ L, L = l.length := ⟨_, rfl⟩
  have HL : Hid (L = l.length) := hL
  rw [← hL] at CK HS HX HZ hl h2 ⊢
  clear h hL h3 h4
  generalize NX w = Nx at *
  generalize chk z n L = k at *
  by_cases hk : k = 0
  · subst hk
    obtain ⟨z1, z2, l1⟩ := HZ.out rfl
    obtain ⟨zn, rfl⟩ : ∃ zn : Nat, z = zn := ⟨z.toNat, by omega⟩
    have HXX : Hid (∀ w' g m, IX w' w.heap.size g m zn L l → Nx w' (.pointer (some ⟨g, 0, none⟩)) zn n l) := fun w' g m hi => by
      rw [HX.out, if_pos rfl]
      exact ⟨g, m, rfl, hi⟩
    have hmm := @run_makeMap Tryd.prog
    obtain ⟨W2, hW2⟩ : ∃ W2, W2 = (w.alloc (.map #[] 0)).alloc (.cells #[.int .i64 (zn : Int), .int .i64 (L : Int), .map (some w.heap.size)] 88) := ⟨_, rfl⟩
    have I2 : Hid (IX W2 w.heap.size (w.heap.size + 1) w.heap.size zn L (l.take 0)) := by unfold Hid; rw [hW2]; exact IX.new w zn L
    have B2 : Hid (Below w.heap.size w W2) := by unfold Hid; rw [hW2]; exact (al_below _ _).trans ((al_below _ _).mono (al_below _ _).size)
    clear HX HZ
    go_enter Tryd.func25, Tryd.ntmps25
    go_wp2_with fail
    refine CK.mono ?_
    rintro e w1 ⟨rfl, hq⟩
    replace hq := hq.symm
    subst hq
    clear CK
    go_wp2_with fail
    try rw [← hW2]
    clear hW2 hmm
    go_loopw [27] (fun q wr => ∃ j : Nat, j ≤ L ∧ q = .int .i64 j ∧ IX wr w.heap.size (w.heap.size + 1) w.heap.size zn L (l.take j) ∧ Below w.heap.size w wr) (fun q _ => L - (intOf q).toNat)
    case atStart => exact ⟨0, by omega, rfl, I2.out, B2.out⟩
    case round =>
      clear I2 B2
      obtain ⟨j, hj, rfl, ix, bel⟩ := hrel
      have HB : Hid (Below w.heap.size w wr) := bel
      have HI : Hid (IX wr w.heap.size (w.heap.size + 1) w.heap.size zn L (l.take j)) := ix
      clear bel ix
      by_cases hlt : j < L
      · have lt2 : (j : Int) < (L : Int) := by omega
        obtain ⟨b, off, rfl, hr⟩ := (HS.out.kept HB.out).at j (by rw [← HL.out]; exact hlt)
        have hx : (atI l j).ok := Sg.at l HOK.out j
        have HT : Hid (l.take (j + 1) = l.take j ++ [atI l j]) := takeI_at l j (by rw [← HL.out]; exact hlt)
        have HTL : Hid (((l.take j).length : Int) = (j : Int)) := by unfold Hid; rw [List.length_take, ← HL.out]; omega
        generalize atI l j = x at *
        have RN : Hid (wr.rangeAt b (off + j * 33) x.cells) := hr
        have HZ : Hid ((Tryd.prog.info? 83).map (·.size) = some x.cells.length) := sizeI.trans (by rw [Sg.len hx])
        have HI2 : Hid ((Tryd.prog.info? 83).map (·.size) = some x.cells.toArray.size) := Sg.info x hx
        have HE : Hid (izc.size = x.cells.toArray.size) := izc_size.trans (Sg.size x hx).symm
        obtain ⟨W1, hW1⟩ : ∃ W1, W1 = wr.alloc (.cells x.cells.toArray 83) := ⟨_, rfl⟩
        have b1 : Below wr.heap.size wr W1 := by rw [hW1]; exact al_below _ _
        have R1 : Hid (W1.rangeAt wr.heap.size 0 x.cells) := by unfold Hid; rw [hW1]; exact (IB.new wr x).range
        have B1 : Hid (Below w.heap.size w W1) := HB.out.trans (b1.mono HB.out.size)
        have CO := add_any W1 w.heap.size (w.heap.size + 1) w.heap.size zn L (l.take j) (IX.kept HI.out b1) x hx B1.out.size
        rw [HTL.out, ← HT.out] at CO
        have e1 := alloc_it wr x
        rw [← hW1] at e1
        have HE1 : Hid ((wr.alloc (.cells #[.int .u32 0, .int .u8 0, .int .u8 0, .int .u8 0, .int .u8 0, .int .u8 0, .int .u8 0, .int .u8 0, .int .u8 0, .int .u8 0, .int .u8 0, .int .u8 0, .int .u8 0, .int .u8 0, .int .u8 0, .int .u8 0, .int .u8 0, .int .u8 0, .int .u8 0, .int .u8 0, .int .u8 0, .int .u8 0, .int .u8 0, .int .u8 0, .int .u8 0, .int .u8 0, .int .u8 0, .int .u8 0, .int .u8 0, .int .u8 0, .int .u8 0, .int .u8 0, .int .u8 0] 83)).setRow wr.heap.size x.cells.toArray = W1) := e1
        have H1 : Hid (∀ v ∈ x.cells, v.oneCell' = true) := Sg.one x
        clear b1 hr hx e1 hW1 HI
        have m0 : (j : Int) * (zn : Int) ≤ 100000 * 4096 := Int.mul_le_mul (by omega) z2 (by omega) (by omega)
        have m1 : 0 ≤ (j : Int) * (zn : Int) := Int.mul_nonneg (by omega) (by omega)
        unfold Sg.val at CO
        generalize hat : (j : Int) * (zn : Int) = at' at *
        generalize x.cells = cs at *
        go_wp2_with (refine wpList_load_mid rfl 83 _ rfl b (off + j * 33) rfl cs _ RN.out Tryd.underlying83 rfl HZ.out (Hid.out ?_))
        unfold Hid
        go_wp2_with (refine wpList_store_row rfl 83 _ _ rfl wr.heap.size cs.toArray rfl rfl 83 izc (new_it wr) HI2.out HE.out (all_oneCell_toArray H1.out) (Hid.out ?_))
        unfold Hid
        rw [HE1.out]
        go_wp2_with (refine wpList_load_mid rfl 83 _ rfl wr.heap.size 0 rfl cs _ R1.out Tryd.underlying83 rfl HZ.out (Hid.out ?_))
        unfold Hid
        go_wp2_with fail
        refine CO.mono ?_
        rintro e w3 ⟨rfl, ix3, b3⟩
        clear CO
        have I3 : Hid (IX w3 w.heap.size (w.heap.size + 1) w.heap.size zn L (l.take (j + 1))) := ix3
        have B3 : Hid (Below w.heap.size w w3) := B1.out.trans b3
        clear ix3 b3 B1 R1 RN HE1
        go_wp2
        go_roundw
        case rel => exact ⟨j + 1, by omega, by go_num, I3.out, B3.out⟩
        case measure => simp [intOf]; omega
      · obtain rfl : j = L := by omega
        have HZ : Hid (Nx wr (.pointer (some ⟨w.heap.size + 1, 0, none⟩)) zn n l) := HXX.out _ _ _ (by have := HI.out; rwa [HL.out, List.take_length, ← HL.out] at this)
        clear HI
        go_wp2
        go_ret2
        exact ⟨_, rfl, HZ.out, HB.out⟩
  · have hk2 : (k != 0) = true := by simpa using hk
    have HZZ : Hid (Nx w (.pointer none) z n l) := by unfold Hid; rw [HX.out, if_neg hk]
    clear HX HZ hk
    go_enter Tryd.func25, Tryd.ntmps25
    go_wp2_with fail
    refine CK.mono ?_
    rintro e w1 ⟨rfl, hq⟩
    replace hq := hq.symm
    subst hq
    clear CK
    go_wp2
    go_ret2
    exact ⟨_, rfl, HZZ.out, Below.refl _ _⟩
end Go.Proofs.YtgnampbbkaolmaaDoor
namespace Go.Proofs.YtgnampbbkaolmaaDoor
open Go.RowKit Go.Maps
set_option maxRecDepth 100000

/-- Where a block is. -/
def bfnd (l : List Sg) (z : Int) (b : List Int) : Int × Bool := if (b.length : Int) = z ∧ fi l (Ro.rs b) (Sh.Pl.sha b) < l.length then ((fi l (Ro.rs b) (Sh.Pl.sha b) : Int) * z, true) else (0, false)
set_option maxHeartbeats 4000000 in
theorem find_any (w : World) (B g m : Nat) (z N : Int) (l : List Sg) (hi : IX w B g m z N l) (v : Value) (b : List Int) (s : Sl w v b) (ht : Ta w) (hb : b.length ≤ 100000000000000000) :
    Calls Tryd.prog 68 #[.pointer (some ⟨g, 0, none⟩), v] w fun e w' => e = .returned (.tuple #[.int .i64 (bfnd l z b).1, .bool (bfnd l z b).2]) ∧ Below w.heap.size w w' := by
  obtain ⟨ni, h⟩ := hi
  obtain ⟨c0, -, -⟩ := IG.cells h
  obtain ⟨va, vc, rfl, -⟩ := id s
  have HR : Hid (bfnd l z b = if (b.length : Int) = z ∧ fi l (Ro.rs b) (Sh.Pl.sha b) < l.length then ((fi l (Ro.rs b) (Sh.Pl.sha b) : Int) * z, true) else (0, false)) := rfl
  have HS : Hid (Sl w (.slice va b.length vc) b) := s
  obtain ⟨L, hL⟩ : ∃ L, L = b.length := ⟨_, rfl⟩
  have HT : Hid (Ta w) := ht
  have HX : Hid (IG w B g m z N ni (wk l) (inn l z)) := h
  have HBG : Hid (b.length ≤ 100000000000000000) := hb
  have FC : Hid (∀ x, From w x → Calls Tryd.prog 64 #[.slice va b.length vc] x fun e w' => e = .returned (.int .u32 (Ro.rs b)) ∧ w' = x) := fun x hx => Ro.sum_any _ b x (s.kept hx)
  have FT : Hid (∀ x, From w x → x.cell? ⟨g, 2, none⟩ = some (.map (some m))) := fun x hx => (IG.cells (IG.kept h hx)).2.2
  have FB : Hid (∀ x, From w x → Below w.heap.size w x) := fun x hx => hx
  rw [← hL] at HR HS FC ⊢
  clear s ht h hb hL
  generalize bfnd l z b = R at *
  by_cases hz : (L : Int) = z
  · subst hz
    have HR2 : Hid (R = if fi l (Ro.rs b) (Sh.Pl.sha b) < l.length then ((fi l (Ro.rs b) (Sh.Pl.sha b) : Int) * (L : Int), true) else (0, false)) := by
      unfold Hid
      have := HR.out
      simpa using this
    clear HR
    have hkr := Ro.rs_range b
    have HK : Hid (∃ lt, keyOf Tryd.prog 81 (.int .u32 (Ro.rs b)) = some lt) := keyU _ hkr
    cases hw : wk l (Ro.rs b) with
    | false =>
      have FL : Hid (∀ x, From w x → (Instr.lookup 86 (.map (some m)) (.int .u32 (Ro.rs b)) true).run Tryd.prog x = .ok (.tuple #[.map none, .bool false]) x) := fun x hx => by
        obtain ⟨f, hm, hf, -⟩ := (IG.kept HX.out hx).outer
        have := hm.look (t := 86) lawU Tryd.underlying86 (zeroM x) HK.out true
        rwa [(hf _).1 hw] at this
      obtain rfl : R = (0, false) := by
        have := HR2.out
        rwa [if_neg (fun hq => by rw [fi_wk l _ _ hq] at hw; cases hw)] at this
      clear HR2 HX HK hw HS HT HBG hkr
      generalize Ro.rs b = k at *
      go_enter Tryd.func68, Tryd.ntmps68
      go_wp2_with fail
      clear c0
      refine wp_region_held_drew (S := From w) (by kernel_rfl) ((Below.refl _ _).drew) (fun _ => ?_)
      refine wpAnyH_on ((Below.refl _ _).drew) (fun u0 hu0 bu0 => ?_)
      replace FT := on FT bu0
      replace FL := on FL bu0
      replace FC := on FC bu0
      replace FB := on FB bu0
      refine wpAnyH_take (i := 0) (oi := { dst := some 21, op := Op.move (Operand.tmp 0), type := 54, pos := "block.go:105", after := #[], guard := none }) (v := ?vr1) rfl (by kernel_rfl) (by kernel_rfl) (by kernel_rfl) (fun _ _ _ h => h) (Or.inl ⟨by rfl, ?yr1⟩) (Below.refl _ _) ?rr1
      case yr1 => (intro w hSw; go_simp; try with_reducible rfl)
      try simp only [Act.put, List.setIfInBounds_toArray, List.set_cons_zero, List.set_cons_succ]
      refine wpAnyH_take (i := 1) (oi := { dst := some 22, op := Op.nilCheck (Operand.tmp 21), type := 0, pos := "block.go:105", after := #[{ on := 0, ground := Ground.data }], guard := none }) (v := ?vr2) rfl (by kernel_rfl) (by kernel_rfl) (by kernel_rfl) (fun _ _ _ h => h) (Or.inl ⟨by rfl, ?yr2⟩) (Below.refl _ _) ?rr2
      case yr2 => (intro w hSw; go_simp; try with_reducible rfl)
      try simp only [Act.put, List.setIfInBounds_toArray, List.set_cons_zero, List.set_cons_succ]
      refine wpAnyH_take (i := 2) (oi := { dst := some 23, op := Op.fieldAddr 88 (Operand.tmp 22) 2, type := 0, pos := "block.go:105", after := #[{ on := 1, ground := Ground.data }], guard := none }) (v := ?vr3) rfl (by kernel_rfl) (by kernel_rfl) (by kernel_rfl) (fun _ _ _ h => h) (Or.inl ⟨by rfl, ?yr3⟩) (Below.refl _ _) ?rr3
      case yr3 => (intro w hSw; go_simp; try with_reducible rfl)
      try simp only [Act.put, List.setIfInBounds_toArray, List.set_cons_zero, List.set_cons_succ]
      refine wpAnyH_take (i := 3) (oi := { dst := some 24, op := Op.load 86 (Operand.tmp 23), type := 86, pos := "block.go:105", after := #[{ on := 2, ground := Ground.data }], guard := none }) (v := ?vr4) rfl (by kernel_rfl) (by kernel_rfl) (by kernel_rfl) (fun _ _ _ h => h) (Or.inl ⟨by rfl, ?yr4⟩) (Below.refl _ _) ?rr4
      case yr4 => (intro w hSw; have t0 := FT.out w hSw; go_simp; try with_reducible rfl)
      try simp only [Act.put, List.setIfInBounds_toArray, List.set_cons_zero, List.set_cons_succ]
      refine wpAnyH_take (i := 4) (oi := { dst := some 25, op := Op.move (Operand.tmp 1), type := 22, pos := "block.go:105", after := #[], guard := none }) (v := ?vr5) rfl (by kernel_rfl) (by kernel_rfl) (by kernel_rfl) (fun _ _ _ h => h) (Or.inl ⟨by rfl, ?yr5⟩) (Below.refl _ _) ?rr5
      case yr5 => (intro w hSw; go_simp; try with_reducible rfl)
      try simp only [Act.put, List.setIfInBounds_toArray, List.set_cons_zero, List.set_cons_succ]
      refine wpAnyH_ready (rs := [5]) (by kernel_rfl) (by simp) ?_
      refine AllReadyH.cons (o := { dst := some 26, op := Op.call { callee := Callee.value (Operand.func 64), args := #[Operand.tmp 25], argTypes := #[22] }, type := 81, pos := "block.go:105", after := #[{ on := 4, ground := Ground.data }], guard := none }) rfl (fun KK hKK => ?_) ?_
      · go_simp
        refine (FC.out _ (Below.refl _ _)).mono ?_
        rintro e u6' ⟨rfl, hqu6⟩
        replace hqu6 := hqu6.symm
        subst hqu6
        (try go_wp2_with fail)
        refine hKK.out _ _ (Below.refl _ _) (fun _ => ?_)
        clear hKK KK
        try simp only [Act.put, List.setIfInBounds_toArray, List.set_cons_zero, List.set_cons_succ]
        refine wpAnyH_on (Below.refl _ _) (fun u6 hu6 bu6 => ?_)
        replace FT := on FT bu6
        replace FL := on FL bu6
        replace FC := on FC bu6
        replace FB := on FB bu6
        refine wpAnyH_take (i := 6) (oi := { dst := some 27, op := Op.lookup 86 (Operand.tmp 24) (Operand.tmp 26) true, type := 130, pos := "block.go:105", after := #[{ on := 3, ground := Ground.data }, { on := 5, ground := Ground.data }], guard := none }) (v := .tuple #[.map none, .bool false]) rfl (by kernel_rfl) (by kernel_rfl) (by kernel_rfl) (fun _ _ _ h => h) (yields_look (by rfl) (.tmp 24) (.tmp 26) true rfl (.map (some m)) (.int .u32 k) (.tuple #[.map none, .bool false]) rfl rfl FL.out) (Below.refl _ _) ?_
        try simp only [Act.put, List.setIfInBounds_toArray, List.set_cons_zero, List.set_cons_succ]
        refine wpAnyH_take (i := 7) (oi := { dst := some 20, op := Op.move (Operand.tmp 27), type := 130, pos := "block.go:105", after := #[{ on := 6, ground := Ground.data }], guard := none }) (v := ?vr8) rfl (by kernel_rfl) (by kernel_rfl) (by kernel_rfl) (fun _ _ _ h => h) (Or.inl ⟨by rfl, ?yr8⟩) (Below.refl _ _) ?rr8
        case yr8 => (intro w hSw; go_simp; try with_reducible rfl)
        try simp only [Act.put, List.setIfInBounds_toArray, List.set_cons_zero, List.set_cons_succ]
        refine wpAnyH_take (i := 8) (oi := { dst := some 28, op := Op.extract (Operand.tmp 20) 0, type := 110, pos := "block.go:105", after := #[{ on := 7, ground := Ground.data }], guard := none }) (v := ?vr9) rfl (by kernel_rfl) (by kernel_rfl) (by kernel_rfl) (fun _ _ _ h => h) (Or.inl ⟨by rfl, ?yr9⟩) (Below.refl _ _) ?rr9
        case yr9 => (intro w hSw; go_simp; try with_reducible rfl)
        try simp only [Act.put, List.setIfInBounds_toArray, List.set_cons_zero, List.set_cons_succ]
        refine wpAnyH_take (i := 9) (oi := { dst := some 29, op := Op.extract (Operand.tmp 20) 1, type := 4, pos := "block.go:105", after := #[{ on := 7, ground := Ground.data }, { on := 10, ground := Ground.gcOnly Departure.lateStores }], guard := none }) (v := ?vr10) rfl (by kernel_rfl) (by kernel_rfl) (by kernel_rfl) (fun _ _ _ h => h) (Or.inl ⟨by rfl, ?yr10⟩) (Below.refl _ _) ?rr10
        case yr10 => (intro w hSw; go_simp; try with_reducible rfl)
        try simp only [Act.put, List.setIfInBounds_toArray, List.set_cons_zero, List.set_cons_succ]
        refine wpAnyH_take (i := 10) (oi := { dst := some 6, op := Op.assign (Operand.tmp 28), type := 110, pos := "block.go:105", after := #[{ on := 8, ground := Ground.data }, { on := 5, ground := Ground.chain }, { on := 0, ground := Ground.phase }, { on := 1, ground := Ground.phase }, { on := 2, ground := Ground.phase }, { on := 3, ground := Ground.phase }, { on := 4, ground := Ground.phase }, { on := 5, ground := Ground.phase }, { on := 6, ground := Ground.phase }, { on := 7, ground := Ground.phase }, { on := 8, ground := Ground.phase }, { on := 9, ground := Ground.textOnly Departure.lateStores }], guard := none }) (v := ?vr11) rfl (by kernel_rfl) (by kernel_rfl) (by kernel_rfl) (fun _ _ _ h => h) (Or.inl ⟨by rfl, ?yr11⟩) (Below.refl _ _) ?rr11
        case yr11 => (intro w hSw; go_simp; try with_reducible rfl)
        try simp only [Act.put, List.setIfInBounds_toArray, List.set_cons_zero, List.set_cons_succ]
        refine wpAnyH_take (i := 11) (oi := { dst := some 7, op := Op.assign (Operand.tmp 29), type := 4, pos := "block.go:105", after := #[{ on := 9, ground := Ground.data }, { on := 10, ground := Ground.chain }, { on := 0, ground := Ground.phase }, { on := 1, ground := Ground.phase }, { on := 2, ground := Ground.phase }, { on := 3, ground := Ground.phase }, { on := 4, ground := Ground.phase }, { on := 5, ground := Ground.phase }, { on := 6, ground := Ground.phase }, { on := 7, ground := Ground.phase }, { on := 8, ground := Ground.phase }, { on := 9, ground := Ground.phase }, { on := 10, ground := Ground.phase }], guard := none }) (v := ?vr12) rfl (by kernel_rfl) (by kernel_rfl) (by kernel_rfl) (fun _ _ _ h => h) (Or.inl ⟨by rfl, ?yr12⟩) (Below.refl _ _) ?rr12
        case yr12 => (intro w hSw; go_simp; try with_reducible rfl)
        try simp only [Act.put, List.setIfInBounds_toArray, List.set_cons_zero, List.set_cons_succ]
        refine wpAnyH_done (by kernel_rfl) ?_ _
        have BZ : Hid (Below w.heap.size w u6) := FB.out _ (Below.refl _ _)
        clear FT FL FC FB
        go_wp2
        go_ret2
        exact ⟨rfl, BZ.out⟩
      exact AllReadyH.nil
    | true =>
      obtain ⟨f, ib, u, hm, hf, hu, hA, -, -⟩ := IG.inner HX.out (Ro.rs b) hw
      have FL : Hid (∀ x, From w x → (Instr.lookup 86 (.map (some m)) (.int .u32 (Ro.rs b)) true).run Tryd.prog x = .ok (.tuple #[.map (some ib), .bool true]) x) := fun x hx => by
        have := (hm.kept hx).look (t := 86) lawU Tryd.underlying86 (zeroM x) HK.out true
        rwa [hf] at this
      have FI : Hid (∀ x, From w x → (Instr.lookup 110 (.map (some ib)) (.agg (u8c (Sh.Pl.sha b))) true).run Tryd.prog x = .ok (.tuple #[.int .i64 R.1, .bool R.2]) x) := fun x hx => by
        have := (hu.kept hx).look (t := 110) lawH Tryd.underlying110 (zeroN x) (keyH (Sh.Pl.sha b) (Sh.sha_len b) (Sh.sha_byt b)) true
        have e : u (.agg (u8c (Sh.Pl.sha b))) = inn l L (Ro.rs b) (Sh.Pl.sha b) := hA _ (Sh.sha_len b)
        have e2 : u (.agg ((Sh.Pl.sha b).map (Value.int .u8)).toArray) = inn l L (Ro.rs b) (Sh.Pl.sha b) := e
        rw [e2] at this
        refine this.trans ?_
        rw [HR2.out]
        unfold inn
        by_cases hq : fi l (Ro.rs b) (Sh.Pl.sha b) < l.length
        · simp only [if_pos hq]; rfl
        · simp only [if_neg hq]; rfl
      have FO : Hid (∀ (x : World), From w x → Calls Tryd.prog 27 #[.slice (some ⟨x.heap.size, 0, none⟩) 1 1] (x.alloc (.cells #[.slice va L vc] 22)) fun e w' => e = .returned (.agg (u8c (Sh.Pl.sha b))) ∧ Below (x.alloc (.cells #[.slice va L vc] 22)).heap.size (x.alloc (.cells #[.slice va L vc] 22)) w') := fun x hx =>
        of1 b _ x.heap.size ((HT.out.kept hx).kept (al_below _ _)) (parts1 (HS.out.kept hx)) HBG.out
      clear HR2 HX HK hw HS HT HBG hkr hm hf hu hA
      generalize Ro.rs b = k at *
      generalize Sh.Pl.sha b = A at *
      obtain ⟨r1, r2⟩ := R
      simp only at FI ⊢
      go_enter Tryd.func68, Tryd.ntmps68
      go_wp2_with fail
      clear c0
      refine wp_region_held_drew (S := From w) (by kernel_rfl) ((Below.refl _ _).drew) (fun _ => ?_)
      refine wpAnyH_on ((Below.refl _ _).drew) (fun u0 hu0 bu0 => ?_)
      replace FT := on FT bu0
      replace FL := on FL bu0
      replace FC := on FC bu0
      replace FB := on FB bu0
      replace FI := on FI bu0
      replace FO := on FO bu0
      refine wpAnyH_take (i := 0) (oi := { dst := some 21, op := Op.move (Operand.tmp 0), type := 54, pos := "block.go:105", after := #[], guard := none }) (v := ?vs1) rfl (by kernel_rfl) (by kernel_rfl) (by kernel_rfl) (fun _ _ _ h => h) (Or.inl ⟨by rfl, ?ys1⟩) (Below.refl _ _) ?rs1
      case ys1 => (intro w hSw; go_simp; try with_reducible rfl)
      try simp only [Act.put, List.setIfInBounds_toArray, List.set_cons_zero, List.set_cons_succ]
      refine wpAnyH_take (i := 1) (oi := { dst := some 22, op := Op.nilCheck (Operand.tmp 21), type := 0, pos := "block.go:105", after := #[{ on := 0, ground := Ground.data }], guard := none }) (v := ?vs2) rfl (by kernel_rfl) (by kernel_rfl) (by kernel_rfl) (fun _ _ _ h => h) (Or.inl ⟨by rfl, ?ys2⟩) (Below.refl _ _) ?rs2
      case ys2 => (intro w hSw; go_simp; try with_reducible rfl)
      try simp only [Act.put, List.setIfInBounds_toArray, List.set_cons_zero, List.set_cons_succ]
      refine wpAnyH_take (i := 2) (oi := { dst := some 23, op := Op.fieldAddr 88 (Operand.tmp 22) 2, type := 0, pos := "block.go:105", after := #[{ on := 1, ground := Ground.data }], guard := none }) (v := ?vs3) rfl (by kernel_rfl) (by kernel_rfl) (by kernel_rfl) (fun _ _ _ h => h) (Or.inl ⟨by rfl, ?ys3⟩) (Below.refl _ _) ?rs3
      case ys3 => (intro w hSw; go_simp; try with_reducible rfl)
      try simp only [Act.put, List.setIfInBounds_toArray, List.set_cons_zero, List.set_cons_succ]
      refine wpAnyH_take (i := 3) (oi := { dst := some 24, op := Op.load 86 (Operand.tmp 23), type := 86, pos := "block.go:105", after := #[{ on := 2, ground := Ground.data }], guard := none }) (v := ?vs4) rfl (by kernel_rfl) (by kernel_rfl) (by kernel_rfl) (fun _ _ _ h => h) (Or.inl ⟨by rfl, ?ys4⟩) (Below.refl _ _) ?rs4
      case ys4 => (intro w hSw; have t0 := FT.out w hSw; go_simp; try with_reducible rfl)
      try simp only [Act.put, List.setIfInBounds_toArray, List.set_cons_zero, List.set_cons_succ]
      refine wpAnyH_take (i := 4) (oi := { dst := some 25, op := Op.move (Operand.tmp 1), type := 22, pos := "block.go:105", after := #[], guard := none }) (v := ?vs5) rfl (by kernel_rfl) (by kernel_rfl) (by kernel_rfl) (fun _ _ _ h => h) (Or.inl ⟨by rfl, ?ys5⟩) (Below.refl _ _) ?rs5
      case ys5 => (intro w hSw; go_simp; try with_reducible rfl)
      try simp only [Act.put, List.setIfInBounds_toArray, List.set_cons_zero, List.set_cons_succ]
      refine wpAnyH_ready (rs := [5]) (by kernel_rfl) (by simp) ?_
      refine AllReadyH.cons (o := { dst := some 26, op := Op.call { callee := Callee.value (Operand.func 64), args := #[Operand.tmp 25], argTypes := #[22] }, type := 81, pos := "block.go:105", after := #[{ on := 4, ground := Ground.data }], guard := none }) rfl (fun KK hKK => ?_) ?_
      · go_simp
        refine (FC.out _ (Below.refl _ _)).mono ?_
        rintro e u6' ⟨rfl, hqu6⟩
        replace hqu6 := hqu6.symm
        subst hqu6
        (try go_wp2_with fail)
        refine hKK.out _ _ (Below.refl _ _) (fun _ => ?_)
        clear hKK KK
        try simp only [Act.put, List.setIfInBounds_toArray, List.set_cons_zero, List.set_cons_succ]
        refine wpAnyH_on (Below.refl _ _) (fun u6 hu6 bu6 => ?_)
        replace FT := on FT bu6
        replace FL := on FL bu6
        replace FC := on FC bu6
        replace FB := on FB bu6
        replace FI := on FI bu6
        replace FO := on FO bu6
        refine wpAnyH_take (i := 6) (oi := { dst := some 27, op := Op.lookup 86 (Operand.tmp 24) (Operand.tmp 26) true, type := 130, pos := "block.go:105", after := #[{ on := 3, ground := Ground.data }, { on := 5, ground := Ground.data }], guard := none }) (v := .tuple #[.map (some ib), .bool true]) rfl (by kernel_rfl) (by kernel_rfl) (by kernel_rfl) (fun _ _ _ h => h) (yields_look (by rfl) (.tmp 24) (.tmp 26) true rfl (.map (some m)) (.int .u32 k) (.tuple #[.map (some ib), .bool true]) rfl rfl FL.out) (Below.refl _ _) ?_
        try simp only [Act.put, List.setIfInBounds_toArray, List.set_cons_zero, List.set_cons_succ]
        refine wpAnyH_take (i := 7) (oi := { dst := some 20, op := Op.move (Operand.tmp 27), type := 130, pos := "block.go:105", after := #[{ on := 6, ground := Ground.data }], guard := none }) (v := ?vs8) rfl (by kernel_rfl) (by kernel_rfl) (by kernel_rfl) (fun _ _ _ h => h) (Or.inl ⟨by rfl, ?ys8⟩) (Below.refl _ _) ?rs8
        case ys8 => (intro w hSw; go_simp; try with_reducible rfl)
        try simp only [Act.put, List.setIfInBounds_toArray, List.set_cons_zero, List.set_cons_succ]
        refine wpAnyH_take (i := 8) (oi := { dst := some 28, op := Op.extract (Operand.tmp 20) 0, type := 110, pos := "block.go:105", after := #[{ on := 7, ground := Ground.data }], guard := none }) (v := ?vs9) rfl (by kernel_rfl) (by kernel_rfl) (by kernel_rfl) (fun _ _ _ h => h) (Or.inl ⟨by rfl, ?ys9⟩) (Below.refl _ _) ?rs9
        case ys9 => (intro w hSw; go_simp; try with_reducible rfl)
        try simp only [Act.put, List.setIfInBounds_toArray, List.set_cons_zero, List.set_cons_succ]
        refine wpAnyH_take (i := 9) (oi := { dst := some 29, op := Op.extract (Operand.tmp 20) 1, type := 4, pos := "block.go:105", after := #[{ on := 7, ground := Ground.data }, { on := 10, ground := Ground.gcOnly Departure.lateStores }], guard := none }) (v := ?vs10) rfl (by kernel_rfl) (by kernel_rfl) (by kernel_rfl) (fun _ _ _ h => h) (Or.inl ⟨by rfl, ?ys10⟩) (Below.refl _ _) ?rs10
        case ys10 => (intro w hSw; go_simp; try with_reducible rfl)
        try simp only [Act.put, List.setIfInBounds_toArray, List.set_cons_zero, List.set_cons_succ]
        refine wpAnyH_take (i := 10) (oi := { dst := some 6, op := Op.assign (Operand.tmp 28), type := 110, pos := "block.go:105", after := #[{ on := 8, ground := Ground.data }, { on := 5, ground := Ground.chain }, { on := 0, ground := Ground.phase }, { on := 1, ground := Ground.phase }, { on := 2, ground := Ground.phase }, { on := 3, ground := Ground.phase }, { on := 4, ground := Ground.phase }, { on := 5, ground := Ground.phase }, { on := 6, ground := Ground.phase }, { on := 7, ground := Ground.phase }, { on := 8, ground := Ground.phase }, { on := 9, ground := Ground.textOnly Departure.lateStores }], guard := none }) (v := ?vs11) rfl (by kernel_rfl) (by kernel_rfl) (by kernel_rfl) (fun _ _ _ h => h) (Or.inl ⟨by rfl, ?ys11⟩) (Below.refl _ _) ?rs11
        case ys11 => (intro w hSw; go_simp; try with_reducible rfl)
        try simp only [Act.put, List.setIfInBounds_toArray, List.set_cons_zero, List.set_cons_succ]
        refine wpAnyH_take (i := 11) (oi := { dst := some 7, op := Op.assign (Operand.tmp 29), type := 4, pos := "block.go:105", after := #[{ on := 9, ground := Ground.data }, { on := 10, ground := Ground.chain }, { on := 0, ground := Ground.phase }, { on := 1, ground := Ground.phase }, { on := 2, ground := Ground.phase }, { on := 3, ground := Ground.phase }, { on := 4, ground := Ground.phase }, { on := 5, ground := Ground.phase }, { on := 6, ground := Ground.phase }, { on := 7, ground := Ground.phase }, { on := 8, ground := Ground.phase }, { on := 9, ground := Ground.phase }, { on := 10, ground := Ground.phase }], guard := none }) (v := ?vs12) rfl (by kernel_rfl) (by kernel_rfl) (by kernel_rfl) (fun _ _ _ h => h) (Or.inl ⟨by rfl, ?ys12⟩) (Below.refl _ _) ?rs12
        case ys12 => (intro w hSw; go_simp; try with_reducible rfl)
        try simp only [Act.put, List.setIfInBounds_toArray, List.set_cons_zero, List.set_cons_succ]
        refine wpAnyH_done (by kernel_rfl) ?_ _
        have BZ : Hid (Below w.heap.size w u6) := FB.out _ (Below.refl _ _)
        have CO := FO.out _ (Below.refl _ _)
        clear FT FL FC FO
        go_wp2_with fail
        refine CO.mono ?_
        rintro e w9 ⟨rfl, b9⟩
        clear CO
        have q9 : Below u6.heap.size u6 w9 := (al_below _ _).trans (b9.mono (al_below _ _).size)
        have hi := FI.out w9 q9
        have B9 : Hid (Below w.heap.size w w9) := BZ.out.trans (q9.mono BZ.out.size)
        clear FI FB BZ b9 q9
        go_wp2
        go_ret2
        exact ⟨rfl, B9.out⟩
      exact AllReadyH.nil
  · obtain rfl : R = (0, false) := by have := HR.out; rwa [if_neg (fun hq => hz hq.1)] at this
    have hz2 : ((L : Int) != z) = true := by simpa using hz
    clear HR FC FT FB hz
    go_enter Tryd.func68, Tryd.ntmps68
    go_wp2
    go_ret2
    exact ⟨rfl, Below.refl _ _⟩
set_option maxHeartbeats 1000000 in
theorem find_nil (w : World) (v : Value) : Calls Tryd.prog 68 #[.pointer none, v] w fun e w' => e = .returned (.tuple #[.int .i64 0, .bool false]) ∧ w' = w := by
  go_enter Tryd.func68, Tryd.ntmps68
  go_wp2
  go_ret2
  exact ⟨rfl, rfl⟩
end Go.Proofs.YtgnampbbkaolmaaDoor
