/-
  What hasKind, having and blocked answer.
  What staying and keeping answer, and the functions that they make.
  What the function that keeping made answers: where an entry is kept.
-/
import Derived.Test.YtajcabfeabbknaaGreatDoorGt
import Derived.Test.YtajcabfeabbknaaGreatDoorSm
import Derived.Test.YtajcabfeabbknaaGreatDoorLe
import Derived.Test.YtajcabfeabbknaaGreatDoorLa
namespace Go.Proofs.YtajcabfeabbknaaGreatDoor
open Go.RowKit

/-- A slice of one entry that was built. -/
theorem es_one {w : World} {g : Nat} {x : En} {ua : Option Addr} {un uc : Nat} (h : w.heap[g]? = some (.cells #[.string x.p, .bool x.d, .slice ua un uc] 46 (0, 0))) (hs : Sl w (.slice ua un uc) x.z) :
    ES w (.slice (some ⟨g, 0, none⟩) 1 1) [x] := by
  obtain ⟨p0, p1, p2, _⟩ := trio h
  refine ⟨fun _ => .slice ua un uc, _, 1, rfl, Nat.le_refl _, by unfold maxLen; omega, (fun e => by cases e), .inr ⟨g, 0, rfl, fun i hi => ?_⟩⟩
  obtain rfl : i = 0 := by simpa using hi
  exact ⟨p0, p1, p2, hs⟩
theorem heap_new (w : World) (o : Obj) (n : Nat) (h : n = w.heap.size) : (w.alloc o).heap[n]? = some o := by rw [h]; exact heap_alloc_new _ _

set_option maxHeartbeats 1000000 in
theorem hasKind_any (v u : Value) (l : List En) (x : En) (w : World) (h : ES w v l) (hl : Lt l) (hu : EV w u x) :
    Calls Tryz.prog 36 #[v, u] w fun e w' => e = .returned (.bool (hK l x.k x.d)) ∧ Below w.heap.size w w' := by
  obtain ⟨xa, xn, xc, rfl, _⟩ := hu
  obtain ⟨W1, hW1⟩ : ∃ W1, W1 = w.alloc (.cells #[.string x.p, .bool x.d, .slice xa xn xc] 46) := ⟨_, rfl⟩
  have b1 : Below w.heap.size w W1 := by rw [hW1]; exact (Below.refl _ _).alloc (Nat.le_refl _) _
  have K1 : W1.heap[w.heap.size]? = some (.cells #[.string x.p, .bool x.d, .slice xa xn xc] 46 (0, 0)) := by rw [hW1]; exact heap_alloc_new _ _
  have HK : Hid (∀ W, Below W1.heap.size W1 W → W.heap[w.heap.size]? = some (.cells #[.string x.p, .bool x.d, .slice xa xn xc] 46 (0, 0))) := fun W hb => (hb.block _ (lt_of_block K1)).trans K1
  have B1 : Hid (Below w.heap.size w W1) := b1
  have CG := get_any v l x.p W1 (h.kept b1) hl
  have HR : Hid (hK l (dl x.p) x.d = (gotB l (dl x.p) && decide ((got l (dl x.p)).d = x.d))) := rfl
  obtain ⟨a, c, rfl, _, _, _⟩ := h.shape
  generalize hK l (dl x.p) x.d = r at *
  generalize gotB l (dl x.p) = gb at *
  generalize got l (dl x.p) = gx at *
  generalize x.p = xp at *
  generalize x.d = xd at *
  generalize l.length = n at *
  clear h hl K1 b1
  go_enter Tryz.func36, Tryz.ntmps36
  go_wp2_with fail
  rw [← hW1]
  clear hW1
  refine CG.mono ?_
  rintro e w2 ⟨u2, rfl, ev, b2⟩
  obtain ⟨ya, yn, yc, rfl, _⟩ := ev
  have b3 : Below w2.heap.size w2 (w2.alloc (.cells #[.string gx.p, .bool gx.d, .slice ya yn yc] 46)) := (Below.refl _ _).alloc (Nat.le_refl _) _
  have B3 : Hid (Below w.heap.size w (w2.alloc (.cells #[.string gx.p, .bool gx.d, .slice ya yn yc] 46))) := B1.out.trans ((b2.trans (b3.mono b2.size)).mono B1.out.size)
  obtain ⟨p0, p1, p2, f0, f1, f2⟩ := trio (HK.out _ (b2.trans (b3.mono b2.size)))
  generalize gx.p = yp at *
  generalize gx.d = yd at *
  clear CG b2 b3 HK B1
  cases gb with
  | false =>
    go_wp2
    go_ret
    exact ⟨by rw [HR.out]; rfl, B3.out⟩
  | true =>
    go_wp2
    go_ret
    exact ⟨by rw [HR.out]; cases yd <;> cases xd <;> rfl, B3.out⟩

set_option maxHeartbeats 1000000 in
theorem having_any (v : Value) (l : List En) (w : World) (h : ES w v l) :
    Calls Tryz.prog 31 #[v] w fun e w' => ∃ g, e = .returned (.func (.func 64) #[] #[.pointer (some ⟨g, 0, none⟩)]) ∧ w'.cell? ⟨g, 0, none⟩ = some v ∧ Below w.heap.size w w' := by
  obtain ⟨a, c, rfl, _, _, _⟩ := h.shape
  generalize l.length = n at *
  clear h
  have hmf : ∀ (fn : Fn) (first cap : Array Value) (w : World), (Instr.makeFunc fn first cap).run Tryz.prog w = .ok (.func fn first cap) w := fun _ _ _ _ => rfl
  have B : Hid (Below w.heap.size w (w.alloc (.cells #[.slice a n c] 22))) := (Below.refl _ _).alloc (Nat.le_refl _) _
  go_enter Tryz.func31, Tryz.ntmps31
  go_wp2
  go_ret
  exact ⟨_, rfl, by rw [World.cell?_alloc_at _ _ _ _ rfl]; rfl, B.out⟩
set_option maxHeartbeats 1000000 in
theorem having1_any (v u : Value) (l : List En) (x : En) (g : Nat) (w : World) (h : ES w v l) (hl : Lt l) (hu : EV w u x) (hc : w.cell? ⟨g, 0, none⟩ = some v) :
    Calls Tryz.prog 64 #[u, .pointer (some ⟨g, 0, none⟩)] w fun e w' => e = .returned (.bool (hav l x)) ∧ Below w.heap.size w w' := by
  obtain ⟨xa, xn, xc, rfl, sx⟩ := hu
  obtain ⟨a, c, rfl, _, _, _⟩ := h.shape
  obtain ⟨W1, hW1⟩ : ∃ W1, W1 = w.alloc (.cells #[.string x.p, .bool x.d, .slice xa xn xc] 46) := ⟨_, rfl⟩
  have b1 : Below w.heap.size w W1 := by rw [hW1]; exact (Below.refl _ _).alloc (Nat.le_refl _) _
  have K1 : W1.heap[w.heap.size]? = some (.cells #[.string x.p, .bool x.d, .slice xa xn xc] 46 (0, 0)) := by rw [hW1]; exact heap_alloc_new _ _
  have HK : Hid (∀ W, Below W1.heap.size W1 W → W.heap[w.heap.size]? = some (.cells #[.string x.p, .bool x.d, .slice xa xn xc] 46 (0, 0))) := fun W hb => (hb.block _ (lt_of_block K1)).trans K1
  have B1 : Hid (Below w.heap.size w W1) := b1
  have hc2 : (w.alloc (.cells #[.string x.p, .bool x.d, .slice xa xn xc] 46)).cell? ⟨g, 0, none⟩ = some (.slice a l.length c) := by rw [World.cell?_alloc_past _ _ _ (World.block_lt_of_cell? _ _ hc)]; exact hc
  have CG := get_any (.slice a l.length c) l x.p W1 (h.kept b1) hl
  have SX : Hid (Sl w (.slice xa xn xc) x.z) := sx
  have HR : Hid (hav l x = (gotB l (dl x.p) && samE (got l (dl x.p)) x)) := rfl
  have HS : Hid (∀ y, sam [y] [x] = samE y x) := fun y => by simp [sam, atE]
  generalize hav l x = r at *
  generalize gotB l (dl x.p) = gb at *
  generalize got l (dl x.p) = gx at *
  generalize l.length = n at *
  clear h hl K1 b1 hc sx
  go_enter Tryz.func64, Tryz.ntmps64
  go_wp2_with fail
  rw [← hW1]
  clear hW1 hc2
  refine CG.mono ?_
  rintro e w2 ⟨u2, rfl, ev, b2⟩
  obtain ⟨ya, yn, yc, rfl, sy⟩ := ev
  have b3 : Below w2.heap.size w2 (w2.alloc (.cells #[.string gx.p, .bool gx.d, .slice ya yn yc] 46)) := (Below.refl _ _).alloc (Nat.le_refl _) _
  have D3 : Below W1.heap.size W1 (w2.alloc (.cells #[.string gx.p, .bool gx.d, .slice ya yn yc] 46)) := b2.trans (b3.mono b2.size)
  have B3 : Hid (Below w.heap.size w (w2.alloc (.cells #[.string gx.p, .bool gx.d, .slice ya yn yc] 46))) := B1.out.trans (D3.mono B1.out.size)
  clear CG
  cases gb with
  | false =>
    clear b2 b3 D3
    go_wp2
    go_ret
    exact ⟨by rw [HR.out]; rfl, B3.out⟩
  | true =>
    obtain ⟨W4, hW4⟩ : ∃ W4, W4 = (w2.alloc (.cells #[.string gx.p, .bool gx.d, .slice ya yn yc] 46)).alloc (.cells #[.string gx.p, .bool gx.d, .slice ya yn yc] 46) := ⟨_, rfl⟩
    obtain ⟨W5, hW5⟩ : ∃ W5, W5 = W4.alloc (.cells #[.string x.p, .bool x.d, .slice xa xn xc] 46) := ⟨_, rfl⟩
    have s4 : W4.heap.size = w2.heap.size + 1 + 1 := by rw [hW4]; simp
    have b4 : Below w2.heap.size w2 W4 := by rw [hW4]; exact b3.alloc (by simp) _
    have b5 : Below w2.heap.size w2 W5 := by rw [hW5]; exact b4.alloc b4.size _
    have D4 : Below W1.heap.size W1 W4 := b2.trans (b4.mono b2.size)
    have D5 : Below W1.heap.size W1 W5 := b2.trans (b5.mono b2.size)
    have k4 : W4.heap[w2.heap.size + 1]? = some (.cells #[.string gx.p, .bool gx.d, .slice ya yn yc] 46 (0, 0)) := by rw [hW4]; exact heap_new _ _ _ (by simp)
    have k5 : W5.heap[w2.heap.size + 1]? = some (.cells #[.string gx.p, .bool gx.d, .slice ya yn yc] 46 (0, 0)) := by rw [hW5, heap_alloc_old _ _ (by omega)]; exact k4
    have k6 : W5.heap[w2.heap.size + 1 + 1]? = some (.cells #[.string x.p, .bool x.d, .slice xa xn xc] 46 (0, 0)) := by rw [hW5]; exact heap_new _ _ _ s4.symm
    have B5 : Hid (Below w.heap.size w W5) := B1.out.trans (D5.mono B1.out.size)
    have CS := same_any _ _ [gx] [x] W5 (es_one k5 (sy.kept b5)) (es_one k6 (SX.out.kept B5.out)) (by simp) (by simp)
    rw [HS.out gx] at CS
    obtain ⟨p0, p1, p2, f0, f1, f2⟩ := trio (HK.out _ D3)
    obtain ⟨q0, q1, q2, g0, g1, g2⟩ := trio (HK.out _ D4)
    rw [hW4] at q0 q1 q2 g0 g1 g2
    have HR2 : Hid (r = samE gx x) := HR.out
    clear HR HS HK SX sy b2 b3 b4 b5 D3 D4 D5 k4 k5 k6
    generalize samE gx x = sb at *
    generalize gx.p = yp at *
    generalize gx.d = yd at *
    generalize x.p = xp at *
    generalize x.d = xd at *
    go_wp2_with fail
    rw [← hW4, ← hW5]
    clear hW5 hW4
    refine CS.mono ?_
    rintro e w6 ⟨rfl, b6⟩
    have B6 : Hid (Below w.heap.size w w6) := B5.out.trans (b6.mono B5.out.size)
    clear CS b6
    go_wp2
    go_ret
    exact ⟨by rw [HR2.out]; rfl, B6.out⟩
theorem blk_step (s : List En) (q : List UInt8) : blk s q = if par q = [] then false else (hK s (par q) false || blk s (par q)) := by
  rw [Bool.eq_iff_iff, blk_iff]
  by_cases hp : par q = []
  · rw [if_pos hp]
    exact ⟨fun e => absurd e (blk_none hp), (fun e => by cases e)⟩
  · rw [if_neg hp, Bool.or_eq_true, blk_iff]
    constructor
    · rintro ⟨r, h1, h2⟩
      cases h1 with
      | one _ _ => exact .inl h2
      | up _ _ h3 => exact .inr ⟨r, h3, h2⟩
    · rintro (e | ⟨r, h1, h2⟩)
      · exact ⟨_, .one q hp, e⟩
      · exact ⟨r, .up q hp h1, h2⟩
theorem par_le (q : List UInt8) : (par q).length ≤ q.length := by
  by_cases h : q = []
  · rw [h, par_nil]; exact Nat.le_refl _
  · exact Nat.le_of_lt (par_less h)
set_option maxHeartbeats 1000000 in
theorem blocked_any (v : Value) (s : List En) (p : ByteArray) (w : World) (h : ES w v s) (hl : Lt s) (hp : p.size ≤ 1000) :
    Calls Tryz.prog 51 #[v, .string p] w fun e w' => e = .returned (.bool (blk s (dl p))) ∧ Below w.heap.size w w' := by
  have HP : Hid (∀ (r : List UInt8) (W : World), r.length ≤ 1000 → Calls Tryz.prog 57 #[.string (mk r)] W fun e w' => e = .returned (.string (mk (par r))) ∧ w' = W) := fun r W hr => by
    have := parent_any (mk r) W (by rw [mk_size]; omega)
    rwa [dl_mk] at this
  have HH : Hid (∀ (r : List UInt8) (W : World), Below w.heap.size w W → Calls Tryz.prog 36 #[v, .agg #[.string (mk r), .bool false, .slice none 0 0]] W fun e w' => e = .returned (.bool (hK s r false)) ∧ Below W.heap.size W w') := fun r W hb => by
    have := hasKind_any v (.agg #[.string (mk r), .bool false, .slice none 0 0]) s ⟨mk r, false, []⟩ W (h.kept hb) hl ⟨none, 0, 0, rfl, Sl.none _⟩
    simpa only [En.k, dl_mk] using this
  have HS : Hid (∀ q, blk s q = if par q = [] then false else (hK s (par q) false || blk s (par q))) := blk_step s
  have CP := parent_any p w (by omega)
  have hpl : (par (dl p)).length ≤ 1000 := Nat.le_trans (par_le _) (by rw [dl_len]; exact hp)
  have H0 : Hid (blk s (dl p) = if par (dl p) = [] then false else (hK s (par (dl p)) false || blk s (par (dl p)))) := HS.out _
  obtain ⟨a, c, rfl, _, _, _⟩ := h.shape
  generalize s.length = n at *
  generalize blk s (dl p) = r at *
  generalize par (dl p) = q0 at *
  have HPL : Hid (q0.length ≤ 1000) := hpl
  clear h hl hp hpl
  go_enter Tryz.func51, Tryz.ntmps51
  go_wp2_with fail
  refine CP.mono ?_
  rintro e w1 ⟨rfl, hw1⟩
  replace hw1 := hw1.symm
  subst hw1
  clear CP
  go_wp2
  go_loopw [5] (fun d wr => ∃ q : List UInt8, d = .string (mk q) ∧ q.length ≤ 1000 ∧ (r = if q = [] then false else (hK s q false || blk s q)) ∧ Below w.heap.size w wr) (fun d _ => match d with | .string y => y.size | _ => 0)
  case atStart => exact ⟨q0, rfl, HPL.out, H0.out, Below.refl _ _⟩
  case round =>
    obtain ⟨q, rfl, hq, hr, bel⟩ := hrel
    have HB : Hid (Below w.heap.size w wr) := bel
    have HR : Hid (r = if q = [] then false else (hK s q false || blk s q)) := hr
    have HQ : Hid (q.length ≤ 1000) := hq
    clear bel hr hq H0 HPL
    by_cases h0 : q = []
    · subst h0
      have HR2 : Hid (r = false) := HR.out
      rw [mk_nil]
      clear HR
      go_wp2
      go_ret
      exact ⟨by rw [HR2.out]; rfl, HB.out⟩
    · have t0 := mk_ne h0
      have HR2 : Hid (r = (hK s q false || blk s q)) := by unfold Hid; rw [HR.out, if_neg h0]
      have CH := HH.out q wr HB.out
      have HBS : Hid (blk s q = if par q = [] then false else (hK s (par q) false || blk s (par q))) := HS.out q
      have CP2 : Hid (∀ W, Calls Tryz.prog 57 #[.string (mk q)] W fun e w' => e = .returned (.string (mk (par q))) ∧ w' = W) := fun W => HP.out q W HQ.out
      have HL : Hid ((mk (par q)).size < (mk q).size ∧ (par q).length ≤ 1000) := by
        have h1 := par_less h0
        have h2 := HQ.out
        refine ⟨by rw [mk_size, mk_size]; exact h1, by omega⟩
      clear HR
      generalize hK s q false = kb at *
      go_wp2_with fail
      refine CH.mono ?_
      rintro e w2 ⟨rfl, b2⟩
      have B2 : Hid (Below w.heap.size w w2) := HB.out.trans (b2.mono HB.out.size)
      clear CH b2
      cases kb with
      | true =>
        have HR3 : Hid (r = true) := HR2.out
        clear HR2
        go_wp2
        go_ret
        exact ⟨by rw [HR3.out]; rfl, B2.out⟩
      | false =>
        have HR3 : Hid (r = if par q = [] then false else (hK s (par q) false || blk s (par q))) := by unfold Hid; rw [HR2.out, HBS.out]; simp
        clear HR2 HBS
        generalize par q = q' at *
        have CP3 := CP2.out w2
        clear CP2
        go_wp2_with fail
        refine CP3.mono ?_
        rintro e w3 ⟨rfl, hw3⟩
        replace hw3 := hw3.symm
        subst hw3
        clear CP3
        go_wp2
        go_roundw
        case rel => exact ⟨q', rfl, HL.out.2, HR3.out, B2.out⟩
        case measure => exact HL.out.1
end Go.Proofs.YtajcabfeabbknaaGreatDoor
namespace Go.Proofs.YtajcabfeabbknaaGreatDoor
open Go.RowKit

theorem st_func (a : Addr) (f : Fn) (x y : Array Value) : ∀ (W : World) (m : Mode), (store a (.func f x y) m).run Tryz.prog W = stored Tryz.prog W a (.func f x y) m := fun W m => run_store Tryz.prog W a _ m rfl
/-- What the function that staying made has captured. -/
def StC (w : World) (gs gh gp g : Nat) (v : Value) (pd : Bool) : Prop := w.cell? ⟨gs, 0, none⟩ = some v ∧ w.cell? ⟨gh, 0, none⟩ = some (.func (.func 64) #[] #[.pointer (some ⟨g, 0, none⟩)]) ∧
  w.cell? ⟨g, 0, none⟩ = some v ∧ w.cell? ⟨gp, 0, none⟩ = some (.bool pd)
theorem StC.kept {w w' : World} {gs gh gp g : Nat} {v : Value} {pd : Bool} (h : StC w gs gh gp g v pd) (hb : Below w.heap.size w w') : StC w' gs gh gp g v pd := by
  obtain ⟨h1, h2, h3, h4⟩ := h
  exact ⟨(hb.cell (World.block_lt_of_cell? _ _ h1)).trans h1, (hb.cell (World.block_lt_of_cell? _ _ h2)).trans h2, (hb.cell (World.block_lt_of_cell? _ _ h3)).trans h3, (hb.cell (World.block_lt_of_cell? _ _ h4)).trans h4⟩
set_option maxHeartbeats 1000000 in
theorem staying_any (v : Value) (s : List En) (P : Pol) (w : World) (h : ES w v s) :
    Calls Tryz.prog 20 #[v, .agg #[.bool P.del, .bool P.bak]] w fun e w' => ∃ gs gh gp g, e = .returned (.func (.func 50) #[] #[.pointer (some ⟨gs, 0, none⟩), .pointer (some ⟨gh, 0, none⟩), .pointer (some ⟨gp, 0, none⟩)]) ∧
      StC w' gs gh gp g v P.del ∧ Below w.heap.size w w' := by
  have hmf : ∀ (fn : Fn) (first cap : Array Value) (w : World), (Instr.makeFunc fn first cap).run Tryz.prog w = .ok (.func fn first cap) w := fun _ _ _ _ => rfl
  obtain ⟨W2, hW2⟩ : ∃ W2, W2 = (w.alloc (.cells #[v] 22)).alloc (.cells #[.bool P.del, .bool P.bak] 24) := ⟨_, rfl⟩
  have b2 : Below w.heap.size w W2 := by rw [hW2]; exact ((Below.refl _ _).alloc (Nat.le_refl _) _).alloc (by simp) _
  have k1 : W2.cell? ⟨w.heap.size, 0, none⟩ = some v := by
    rw [hW2, World.cell?_alloc_past _ _ _ (by simp), World.cell?_alloc_at _ _ _ _ rfl]; rfl
  have k2 : W2.cell? ⟨w.heap.size + 1, 0, none⟩ = some (.bool P.del) := by rw [hW2, World.cell?_alloc_at _ _ _ _ (by simp)]; rfl
  have CH := having_any v s W2 (h.kept b2)
  have B2 : Hid (Below w.heap.size w W2) := b2
  have HC : Hid (∀ W, Below W2.heap.size W2 W → W.cell? ⟨w.heap.size, 0, none⟩ = some v ∧ W.cell? ⟨w.heap.size + 1, 0, none⟩ = some (.bool P.del)) := fun W hb => ⟨(hb.cell (World.block_lt_of_cell? _ _ k1)).trans k1, (hb.cell (World.block_lt_of_cell? _ _ k2)).trans k2⟩
  obtain ⟨a, c, rfl, _, _, _⟩ := h.shape
  generalize s.length = n at *
  generalize P.del = pd at *
  generalize P.bak = pb at *
  clear h b2
  rw [hW2] at k1
  clear k2
  go_enter Tryz.func20, Tryz.ntmps20
  go_wp2_with fail
  rw [← hW2]
  clear hW2 k1
  refine CH.mono ?_
  rintro e w3 ⟨g, rfl, hg, b3⟩
  have B3 : Hid (Below w.heap.size w w3) := B2.out.trans (b3.mono B2.out.size)
  obtain ⟨c1, c2⟩ := HC.out w3 b3
  have C1 : Hid (w3.cell? ⟨w.heap.size, 0, none⟩ = some (.slice a n c)) := c1
  have C2 : Hid (w3.cell? ⟨w.heap.size + 1, 0, none⟩ = some (.bool pd)) := c2
  have C3 : Hid (w3.cell? ⟨g, 0, none⟩ = some (.slice a n c)) := hg
  clear CH b3 c1 c2 hg HC
  have hst := st_func ⟨w3.heap.size, 0, none⟩ (.func 64) #[] #[.pointer (some ⟨g, 0, none⟩)]
  go_wp2
  go_ret
  have b4 : Below w3.heap.size w3 (w3.alloc (.cells #[.func (.func 64) #[] #[.pointer (some ⟨g, 0, none⟩)]] 57)) := (Below.refl _ _).alloc (Nat.le_refl _) _
  refine ⟨w.heap.size, w3.heap.size, w.heap.size + 1, g, rfl, ⟨?_, ?_, ?_, ?_⟩, B3.out.trans (b4.mono B3.out.size)⟩
  · exact (b4.cell (World.block_lt_of_cell? _ _ C1.out)).trans C1.out
  · rw [World.cell?_alloc_at _ _ _ _ rfl]; rfl
  · exact (b4.cell (World.block_lt_of_cell? _ _ C3.out)).trans C3.out
  · exact (b4.cell (World.block_lt_of_cell? _ _ C2.out)).trans C2.out
set_option maxHeartbeats 2000000 in
theorem stay1_any (v u : Value) (s : List En) (x : En) (pd : Bool) (gs gh gp g : Nat) (w : World) (h : ES w v s) (hl : Lt s) (hu : EV w u x) (hp : x.p.size ≤ 1000) (hc : StC w gs gh gp g v pd) :
    Calls Tryz.prog 50 #[u, .pointer (some ⟨gs, 0, none⟩), .pointer (some ⟨gh, 0, none⟩), .pointer (some ⟨gp, 0, none⟩)] w fun e w' => e = .returned (.bool (sty s pd x)) ∧ Below w.heap.size w w' := by
  have hev := hu
  obtain ⟨xa, xn, xc, rfl, _⟩ := hu
  obtain ⟨W1, hW1⟩ : ∃ W1, W1 = w.alloc (.cells #[.string x.p, .bool x.d, .slice xa xn xc] 46) := ⟨_, rfl⟩
  have b1 : Below w.heap.size w W1 := by rw [hW1]; exact (Below.refl _ _).alloc (Nat.le_refl _) _
  have K1 : W1.heap[w.heap.size]? = some (.cells #[.string x.p, .bool x.d, .slice xa xn xc] 46 (0, 0)) := by rw [hW1]; exact heap_alloc_new _ _
  have HK : Hid (∀ W, Below W1.heap.size W1 W → W.heap[w.heap.size]? = some (.cells #[.string x.p, .bool x.d, .slice xa xn xc] 46 (0, 0))) := fun W hb => (hb.block _ (lt_of_block K1)).trans K1
  have B1 : Hid (Below w.heap.size w W1) := b1
  have HC : Hid (∀ W, Below w.heap.size w W → StC W gs gh gp g v pd) := fun W hb => hc.kept hb
  have hc2 := (HC.out W1 b1).1
  rw [hW1] at hc2
  have CG := get_any v s x.p W1 (h.kept b1) hl
  have CV : Hid (∀ W, Below w.heap.size w W → Calls Tryz.prog 64 #[.agg #[.string x.p, .bool x.d, .slice xa xn xc], .pointer (some ⟨g, 0, none⟩)] W fun e w' => e = .returned (.bool (hav s x)) ∧ Below W.heap.size W w') := fun W hb => having1_any v _ s x g W (h.kept hb) hl (hev.kept hb) (hc.kept hb).2.2.1
  have CB : Hid (∀ W, Below w.heap.size w W → Calls Tryz.prog 51 #[v, .string x.p] W fun e w' => e = .returned (.bool (blk s (dl x.p))) ∧ Below W.heap.size W w') := fun W hb => blocked_any v s x.p W (h.kept hb) hl hp
  have HR : Hid (sty s pd x = if gotB s (dl x.p) then hav s x else !pd && !blk s (dl x.p)) := rfl
  obtain ⟨a, c, rfl, _, _, _⟩ := h.shape
  generalize sty s pd x = r at *
  generalize hav s x = hb at *
  generalize blk s (dl x.p) = bb at *
  generalize gotB s (dl x.p) = gb at *
  generalize got s (dl x.p) = gx at *
  generalize s.length = n at *
  generalize x.p = xp at *
  generalize x.d = xd at *
  clear h hl K1 b1 hc hev hp
  go_enter Tryz.func50, Tryz.ntmps50
  go_wp2_with fail
  rw [← hW1]
  clear hW1 hc2
  refine CG.mono ?_
  rintro e w2 ⟨u2, rfl, ev, b2⟩
  obtain ⟨ya, yn, yc, rfl, _⟩ := ev
  generalize gx.p = yp at *
  generalize gx.d = yd at *
  obtain ⟨W3, hW3⟩ : ∃ W3, W3 = w2.alloc (.cells #[.string yp, .bool yd, .slice ya yn yc] 46) := ⟨_, rfl⟩
  have b3 : Below w2.heap.size w2 W3 := by rw [hW3]; exact (Below.refl _ _).alloc (Nat.le_refl _) _
  have D3 : Below W1.heap.size W1 W3 := b2.trans (b3.mono b2.size)
  have B3 : Hid (Below w.heap.size w W3) := B1.out.trans (D3.mono B1.out.size)
  obtain ⟨p0, p1, p2, f0, f1, f2⟩ := trio (HK.out _ D3)
  obtain ⟨c1, c2, c3, c4⟩ := HC.out _ B3.out
  have cv := CV.out _ B3.out
  have cb := CB.out _ B3.out
  rw [hW3] at p0 p1 p2 f0 f1 f2 c1 c2 c3 c4
  clear CG b2 b3 D3 HK HC CV CB
  cases gb with
  | true =>
    have HR2 : Hid (r = hb) := HR.out
    clear HR cb
    go_wp2_with fail
    rw [← hW3]
    clear hW3
    refine cv.mono ?_
    rintro e w4 ⟨rfl, b4⟩
    have B4 : Hid (Below w.heap.size w w4) := B3.out.trans (b4.mono B3.out.size)
    clear cv b4 p0 p1 p2 f0 f1 f2 c1 c2 c3 c4
    go_wp2
    go_ret
    exact ⟨by rw [HR2.out]; rfl, B4.out⟩
  | false =>
    clear cv
    cases pd with
    | true =>
      have HR2 : Hid (r = false) := HR.out
      have B3' : Hid (Below w.heap.size w (w2.alloc (.cells #[.string yp, .bool yd, .slice ya yn yc] 46))) := by rw [← hW3]; exact B3.out
      clear HR cb B3 hW3
      go_wp2
      go_ret
      exact ⟨by rw [HR2.out]; rfl, B3'.out⟩
    | false =>
      have HR2 : Hid (r = !bb) := HR.out
      clear HR
      go_wp2_with fail
      rw [← hW3]
      clear hW3
      refine cb.mono ?_
      rintro e w4 ⟨rfl, b4⟩
      have B4 : Hid (Below w.heap.size w w4) := B3.out.trans (b4.mono B3.out.size)
      clear cb b4 p0 p1 p2 f0 f1 f2 c1 c2 c3 c4
      go_wp2
      go_ret
      exact ⟨by rw [HR2.out]; cases bb <;> rfl, B4.out⟩

/-- What the function that keeping made has captured. -/
def KpC (w : World) (kp kt ks kd gs gh gp g : Nat) (vs vd : Value) (P : Pol) : Prop := StC w gs gh gp g vs P.del ∧ w.cell? ⟨kp, 1, none⟩ = some (.bool P.bak) ∧
  w.cell? ⟨kt, 0, none⟩ = some (.func (.func 50) #[] #[.pointer (some ⟨gs, 0, none⟩), .pointer (some ⟨gh, 0, none⟩), .pointer (some ⟨gp, 0, none⟩)]) ∧ w.cell? ⟨ks, 0, none⟩ = some vs ∧ w.cell? ⟨kd, 0, none⟩ = some vd
theorem KpC.kept {w w' : World} {kp kt ks kd gs gh gp g : Nat} {vs vd : Value} {P : Pol} (h : KpC w kp kt ks kd gs gh gp g vs vd P) (hb : Below w.heap.size w w') : KpC w' kp kt ks kd gs gh gp g vs vd P := by
  obtain ⟨h0, h1, h2, h3, h4⟩ := h
  exact ⟨h0.kept hb, (hb.cell (World.block_lt_of_cell? _ _ h1)).trans h1, (hb.cell (World.block_lt_of_cell? _ _ h2)).trans h2, (hb.cell (World.block_lt_of_cell? _ _ h3)).trans h3, (hb.cell (World.block_lt_of_cell? _ _ h4)).trans h4⟩
set_option maxHeartbeats 1000000 in
theorem keeping_any (vs vd : Value) (P : Pol) (gs gh gp g : Nat) (w : World) (hs : ∃ s, ES w vs s) (hd : ∃ d, ES w vd d) (hc : StC w gs gh gp g vs P.del) :
    Calls Tryz.prog 24 #[vs, vd, .agg #[.bool P.del, .bool P.bak], .func (.func 50) #[] #[.pointer (some ⟨gs, 0, none⟩), .pointer (some ⟨gh, 0, none⟩), .pointer (some ⟨gp, 0, none⟩)]] w fun e w' =>
      ∃ kp kt ks kd, e = .returned (.func (.func 55) #[] #[.pointer (some ⟨kp, 0, none⟩), .pointer (some ⟨kt, 0, none⟩), .pointer (some ⟨ks, 0, none⟩), .pointer (some ⟨kd, 0, none⟩)]) ∧ KpC w' kp kt ks kd gs gh gp g vs vd P ∧ Below w.heap.size w w' := by
  have hmf : ∀ (fn : Fn) (first cap : Array Value) (w : World), (Instr.makeFunc fn first cap).run Tryz.prog w = .ok (.func fn first cap) w := fun _ _ _ _ => rfl
  obtain ⟨s, hs⟩ := hs
  obtain ⟨d, hd⟩ := hd
  obtain ⟨a, c, rfl, _, _, _⟩ := hs.shape
  obtain ⟨a2, c2, rfl, _, _, _⟩ := hd.shape
  generalize s.length = n at *
  generalize d.length = n2 at *
  have HC : Hid (StC w gs gh gp g (.slice a n c) P.del) := hc
  clear hs hd hc
  generalize hpd : P.del = pd at *
  generalize hpb : P.bak = pb at *
  have HPB : Hid (P.bak = pb) := hpb
  have HPD : Hid (P.del = pd) := hpd
  obtain ⟨W4, hW4⟩ : ∃ W4, W4 = (((w.alloc (.cells #[.slice a n c] 22)).alloc (.cells #[.slice a2 n2 c2] 22)).alloc (.cells #[.bool pd, .bool pb] 24)).alloc (.cells #[.func (.func 50) #[] #[.pointer (some ⟨gs, 0, none⟩), .pointer (some ⟨gh, 0, none⟩), .pointer (some ⟨gp, 0, none⟩)]] 57) := ⟨_, rfl⟩
  have HW : Hid (W4 = (((w.alloc (.cells #[.slice a n c] 22)).alloc (.cells #[.slice a2 n2 c2] 22)).alloc (.cells #[.bool pd, .bool pb] 24)).alloc (.cells #[.func (.func 50) #[] #[.pointer (some ⟨gs, 0, none⟩), .pointer (some ⟨gh, 0, none⟩), .pointer (some ⟨gp, 0, none⟩)]] 57)) := hW4
  clear hpb hpd hW4
  go_enter Tryz.func24, Tryz.ntmps24
  go_wp2
  go_ret
  rw [← HW.out]
  have b : Below w.heap.size w W4 := by rw [HW.out]; exact ((((Below.refl _ _).alloc (Nat.le_refl _) _).alloc (by simp) _).alloc (by simp; omega) _).alloc (by simp; omega) _
  refine ⟨w.heap.size + 1 + 1, w.heap.size + 1 + 1 + 1, w.heap.size, w.heap.size + 1, rfl, ⟨by rw [HPD.out]; exact HC.out.kept b, ?_, ?_, ?_, ?_⟩, b⟩
  · rw [HW.out, World.cell?_alloc_past _ _ _ (by simp), World.cell?_alloc_at _ _ _ _ (by simp), HPB.out]; rfl
  · rw [HW.out, World.cell?_alloc_at _ _ _ _ (by simp)]; rfl
  · rw [HW.out, World.cell?_alloc_past _ _ _ (by simp; omega), World.cell?_alloc_past _ _ _ (by simp; omega), World.cell?_alloc_past _ _ _ (by simp), World.cell?_alloc_at _ _ _ _ rfl]; rfl
  · rw [HW.out, World.cell?_alloc_past _ _ _ (by simp), World.cell?_alloc_past _ _ _ (by simp), World.cell?_alloc_at _ _ _ _ (by simp)]; rfl
end Go.Proofs.YtajcabfeabbknaaGreatDoor
namespace Go.Proofs.YtajcabfeabbknaaGreatDoor
open Go.RowKit

theorem kep_small (q : List UInt8) : (kep q).length ≤ 128 := by
  rcases kep_cases q with h | ⟨h, h2, _⟩
  · rw [h]; simp
  · rw [h]; exact chk_small h2
set_option maxHeartbeats 4000000 in
theorem keep1_any (vs vd u : Value) (s d : List En) (x : En) (P : Pol) (kp kt ks kd gs gh gp g : Nat) (w : World) (hs : ES w vs s) (hls : Lt s) (hd : ES w vd d) (hld : Lt d) (hu : EV w u x) (hp : x.p.size ≤ 1000) (hm : Mx w) (hc : KpC w kp kt ks kd gs gh gp g vs vd P) :
    Calls Tryz.prog 55 #[u, .pointer (some ⟨kp, 0, none⟩), .pointer (some ⟨kt, 0, none⟩), .pointer (some ⟨ks, 0, none⟩), .pointer (some ⟨kd, 0, none⟩)] w fun e w' => e = .returned (.string (mk (kpt s d P x))) ∧ Below w.heap.size w w' := by
  have hk := kep_small (dl x.p)
  have hpk : (par (kep (dl x.p))).length ≤ 128 := Nat.le_trans (par_le _) hk
  have HT1 : Hid (∀ W, Below w.heap.size w W → Calls Tryz.prog 50 #[u, .pointer (some ⟨gs, 0, none⟩), .pointer (some ⟨gh, 0, none⟩), .pointer (some ⟨gp, 0, none⟩)] W fun e w' => e = .returned (.bool (sty s P.del x)) ∧ Below W.heap.size W w') :=
    fun W hb => stay1_any vs u s x P.del gs gh gp g W (hs.kept hb) hls (hu.kept hb) hp (hc.kept hb).1
  have HT2 : Hid (∀ W, Below w.heap.size w W → Calls Tryz.prog 50 #[.agg #[.string (mk (par (kep (dl x.p)))), .bool true, .slice none 0 0], .pointer (some ⟨gs, 0, none⟩), .pointer (some ⟨gh, 0, none⟩), .pointer (some ⟨gp, 0, none⟩)] W fun e w' => e = .returned (.bool (sty s P.del ⟨mk (par (kep (dl x.p))), true, []⟩)) ∧ Below W.heap.size W w') :=
    fun W hb => stay1_any vs _ s ⟨mk (par (kep (dl x.p))), true, []⟩ P.del gs gh gp g W (hs.kept hb) hls ⟨none, 0, 0, rfl, Sl.none _⟩ (by simp only [mk_size]; omega) (hc.kept hb).1
  have HKE : Hid (∀ W, Below w.heap.size w W → Calls Tryz.prog 56 #[.string x.p] W fun e w' => e = .returned (.string (mk (kep (dl x.p)))) ∧ Below W.heap.size W w') := fun W hb => kept_any x.p W (hm.kept hb) (by omega)
  have HG : Hid (∀ W, Below w.heap.size w W → Calls Tryz.prog 48 #[vs, .string (mk (kep (dl x.p)))] W fun e w' => ∃ u, e = .returned (.tuple #[u, .bool (gotB s (kep (dl x.p)))]) ∧ EV w' u (got s (kep (dl x.p))) ∧ Below W.heap.size W w') := fun W hb => by
    have := get_any vs s (mk (kep (dl x.p))) W (hs.kept hb) hls
    rwa [dl_mk] at this
  have HH : Hid (∀ W, Below w.heap.size w W → Calls Tryz.prog 36 #[vd, .agg #[.string (mk (kep (dl x.p))), .bool true, .slice none 0 0]] W fun e w' => e = .returned (.bool (hK d (kep (dl x.p)) true)) ∧ Below W.heap.size W w') := fun W hb => by
    have := hasKind_any vd (.agg #[.string (mk (kep (dl x.p))), .bool true, .slice none 0 0]) d ⟨mk (kep (dl x.p)), true, []⟩ W (hd.kept hb) hld ⟨none, 0, 0, rfl, Sl.none _⟩
    simpa only [En.k, dl_mk] using this
  have HPA : Hid (∀ W, Calls Tryz.prog 57 #[.string (mk (kep (dl x.p)))] W fun e w' => e = .returned (.string (mk (par (kep (dl x.p))))) ∧ w' = W) := fun W => by
    have := parent_any (mk (kep (dl x.p))) W (by rw [mk_size]; omega)
    rwa [dl_mk] at this
  have HC : Hid (∀ W, Below w.heap.size w W → KpC W kp kt ks kd gs gh gp g vs vd P) := fun W hb => hc.kept hb
  have HR : Hid (kpt s d P x = if P.bak = false ∨ x.d = true ∨ sty s P.del x = true then [] else if gotB s (kep (dl x.p)) = true ∨ hK d (kep (dl x.p)) true = true then [] else if par (kep (dl x.p)) ≠ [] ∧ sty s P.del ⟨mk (par (kep (dl x.p))), true, []⟩ = false then [] else kep (dl x.p)) := rfl
  obtain ⟨xa, xn, xc, rfl, _⟩ := hu
  obtain ⟨a, c, rfl, _, _, _⟩ := hs.shape
  obtain ⟨a2, c2, rfl, _, _, _⟩ := hd.shape
  obtain ⟨W1, hW1⟩ : ∃ W1, W1 = w.alloc (.cells #[.string x.p, .bool x.d, .slice xa xn xc] 46) := ⟨_, rfl⟩
  have b1 : Below w.heap.size w W1 := by rw [hW1]; exact (Below.refl _ _).alloc (Nat.le_refl _) _
  have K1 : W1.heap[w.heap.size]? = some (.cells #[.string x.p, .bool x.d, .slice xa xn xc] 46 (0, 0)) := by rw [hW1]; exact heap_alloc_new _ _
  have HK : Hid (∀ W, Below W1.heap.size W1 W → W.heap[w.heap.size]? = some (.cells #[.string x.p, .bool x.d, .slice xa xn xc] 46 (0, 0))) := fun W hb => (hb.block _ (lt_of_block K1)).trans K1
  have B1 : Hid (Below w.heap.size w W1) := b1
  generalize kpt s d P x = r at *
  generalize sty s P.del x = sb at *
  generalize sty s P.del ⟨mk (par (kep (dl x.p))), true, []⟩ = sb2 at *
  generalize gotB s (kep (dl x.p)) = gb at *
  generalize got s (kep (dl x.p)) = gx at *
  generalize hK d (kep (dl x.p)) true = hb at *
  generalize par (kep (dl x.p)) = pk at *
  generalize kep (dl x.p) = kk at *
  generalize s.length = n at *
  generalize d.length = n2 at *
  generalize x.p = xp at *
  generalize x.d = xd at *
  clear hs hls hd hld hm hc hp hk hpk K1 b1
  obtain ⟨⟨_, _, _, _⟩, k1, k2, _, _⟩ := HC.out W1 B1.out
  rw [hW1] at k1 k2
  have B1' : Hid (Below w.heap.size w (w.alloc (.cells #[.string xp, .bool xd, .slice xa xn xc] 46))) := by rw [← hW1]; exact B1.out
  generalize hpb : P.bak = pb at *
  clear hpb
  go_enter Tryz.func55, Tryz.ntmps55
  cases pb with
  | false =>
    have HR2 : Hid (r = []) := by unfold Hid; rw [HR.out, if_pos (.inl rfl)]
    clear HR hW1
    go_wp2
    go_ret
    exact ⟨by rw [HR2.out]; rfl, B1'.out⟩
  | true =>
  cases xd with
  | true =>
    have HR2 : Hid (r = []) := by unfold Hid; rw [HR.out, if_pos (.inr (.inl rfl))]
    clear HR hW1
    go_wp2
    go_ret
    exact ⟨by rw [HR2.out]; rfl, B1'.out⟩
  | false =>
  have C1 := HT1.out W1 B1.out
  clear B1'
  go_wp2_with fail
  rw [← hW1]
  clear hW1 k1 k2
  refine C1.mono ?_
  rintro e w2 ⟨rfl, b2⟩
  have B2 : Hid (Below w.heap.size w w2) := B1.out.trans (b2.mono B1.out.size)
  have D2 : Hid (Below W1.heap.size W1 w2) := b2
  clear C1 b2
  cases sb with
  | true =>
    have HR2 : Hid (r = []) := by unfold Hid; rw [HR.out, if_pos (.inr (.inr rfl))]
    clear HR
    go_wp2
    go_ret
    exact ⟨by rw [HR2.out]; rfl, B2.out⟩
  | false =>
  have HR1 : Hid (r = if gb = true ∨ hb = true then [] else if pk ≠ [] ∧ sb2 = false then [] else kk) := by unfold Hid; rw [HR.out, if_neg (by simp)]
  clear HR
  obtain ⟨p0, p1, p2, f0, f1, f2⟩ := trio (HK.out w2 D2.out)
  have C2 := HKE.out w2 B2.out
  clear HKE HT1
  go_wp2_with fail
  refine C2.mono ?_
  rintro e w3 ⟨rfl, b3⟩
  have B3 : Hid (Below w.heap.size w w3) := B2.out.trans (b3.mono B2.out.size)
  clear C2 b3 p0 p1 p2 f0 f1 f2 D2
  obtain ⟨_, _, _, q3, _⟩ := HC.out w3 B3.out
  have C3 := HG.out w3 B3.out
  clear HG
  go_wp2_with fail
  refine C3.mono ?_
  rintro e w4 ⟨u4, rfl, ev, b4⟩
  obtain ⟨ya, yn, yc, rfl, _⟩ := ev
  generalize gx.p = yp at *
  generalize gx.d = yd at *
  obtain ⟨W5, hW5⟩ : ∃ W5, W5 = w4.alloc (.cells #[.string yp, .bool yd, .slice ya yn yc] 46) := ⟨_, rfl⟩
  have b5 : Below w4.heap.size w4 W5 := by rw [hW5]; exact (Below.refl _ _).alloc (Nat.le_refl _) _
  have B5 : Hid (Below w.heap.size w W5) := B3.out.trans ((b4.trans (b5.mono b4.size)).mono B3.out.size)
  obtain ⟨_, _, _, _, q5⟩ := HC.out W5 B5.out
  rw [hW5] at q5
  clear C3 b4 b5 q3
  cases gb with
  | true =>
    have HR2 : Hid (r = []) := by unfold Hid; rw [HR1.out, if_pos (.inl rfl)]
    have B5' : Hid (Below w.heap.size w (w4.alloc (.cells #[.string yp, .bool yd, .slice ya yn yc] 46))) := by rw [← hW5]; exact B5.out
    clear HR1 hW5
    go_wp2
    go_ret
    exact ⟨by rw [HR2.out]; rfl, B5'.out⟩
  | false =>
  have C5 := HH.out W5 B5.out
  clear HH
  go_wp2_with fail
  rw [← hW5]
  clear hW5 q5
  refine C5.mono ?_
  rintro e w6 ⟨rfl, b6⟩
  have B6 : Hid (Below w.heap.size w w6) := B5.out.trans (b6.mono B5.out.size)
  clear C5 b6
  cases hb with
  | true =>
    have HR2 : Hid (r = []) := by unfold Hid; rw [HR1.out, if_pos (.inr rfl)]
    clear HR1
    go_wp2
    go_ret
    exact ⟨by rw [HR2.out]; rfl, B6.out⟩
  | false =>
  have HR2 : Hid (r = if pk ≠ [] ∧ sb2 = false then [] else kk) := by unfold Hid; rw [HR1.out, if_neg (by simp)]
  clear HR1
  have C6 := HPA.out w6
  clear HPA
  go_wp2_with fail
  refine C6.mono ?_
  rintro e w7 ⟨rfl, hw7⟩
  replace hw7 := hw7.symm
  subst hw7
  clear C6
  by_cases h0 : pk = []
  · subst h0
    have HR3 : Hid (r = kk) := by unfold Hid; rw [HR2.out, if_neg (by simp)]
    rw [mk_nil]
    clear HR2 HT2
    go_wp2
    go_ret
    exact ⟨by rw [HR3.out]; rfl, B6.out⟩
  · have t0 := mk_ne h0
    obtain ⟨_, _, q7, _, _⟩ := HC.out w6 B6.out
    have C7 := HT2.out w6 B6.out
    clear HT2 HC
    go_wp2_with fail
    refine C7.mono ?_
    rintro e w8 ⟨rfl, b8⟩
    have B8 : Hid (Below w.heap.size w w8) := B6.out.trans (b8.mono B6.out.size)
    clear C7 b8 q7
    cases sb2 with
    | false =>
      have HR3 : Hid (r = []) := by unfold Hid; rw [HR2.out, if_pos ⟨h0, rfl⟩]
      clear HR2
      go_wp2
      go_ret
      exact ⟨by rw [HR3.out]; rfl, B8.out⟩
    | true =>
      have HR3 : Hid (r = kk) := by unfold Hid; rw [HR2.out, if_neg (by simp)]
      clear HR2
      go_wp2
      go_ret
      exact ⟨by rw [HR3.out]; rfl, B8.out⟩
end Go.Proofs.YtajcabfeabbknaaGreatDoor
