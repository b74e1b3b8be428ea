/-
  What plainAhead answers; what its parts may be.
  What may be read.
  What lay lays; what Put answers.
  What Get answers.
  Put of nothing, Of, StreamOf, Asks, Size.
  StreamOf, Size; what every right program does.
  What the statements of layer 18 share: the listed tables give the walks what they read; what came in.
-/
import Derived.Test.YthhghehnaopmhaaDoorNa
import Derived.Test.YthhghehnaopmhaaDoorNb
import Derived.Test.YthhghehnaopmhaaDoorPkN
import Derived.Test.YthhghehnaopmhaaDoorNf
import Derived.Test.YthhghehnaopmhaaDoorPkM
import Derived.Test.YthhghehnaopmhaaDoorPkL
import Derived.Test.YthhghehnaopmhaaDoorPkF
import Derived.Deep.WholeRow
import Derived.Defers
import Derived.Recover
import Derived.Deep.RegionWith
import Derived.Stop.IfaceNil
import Derived.WideLaws
import Derived.Test.YthhghehnaopmhaaDoorFa
import Derived.Test.YthhghehnaopmhaaDoorTie
import Derived.Test.YthhghehnaopmhaaDoorCards
import Derived.Carry
import Derived.ChangeMaps5
import Derived.ChangeOld
import Derived.ChangeSame
import Derived.Deep.DeepHandedRow
import Derived.Deep.SlicePairs
import Derived.Deep.Slices
import Derived.Deep.Strs
import Derived.LaidLaws
import Derived.Lib.LaidTab
import Derived.Lib.SmallJoins
import Derived.OpenShut
import Derived.ProofKit
import Derived.Shelf.Vars
import Derived.SizedLaws
import Derived.Stop.LaidErr
namespace Go.Proofs.YthhghehnaopmhaaDoor
open Go.RowKit Go.Shelf
set_option maxRecDepth 100000

theorem aheadF_any (v : Value) (xs : List Int) (w : World) (ht : Tb w) (h : Sl w v xs) (hl : xs.length ≤ 100000) :
    Calls Tryd.prog 21 #[v] w fun e w' => ∃ sv, e = .returned (.tuple #[.agg (plA (ahM xs).1 sv), .int .i64 (ahM xs).2.1, .int .i64 (ahM xs).2.2]) ∧ RSp w' w.heap.size sv (ahM xs).1.sp ∧ Below w.heap.size w w' := by
  cases xs with
  | nil => exact ahd0 v w ht h hl
  | cons x ys =>
    by_cases hx : isK x = false
    · exact ahdB v x ys hx w ht h hl
    · have hk : isK x = true := by simpa using hx
      unfold isK at hk
      simp at hk
      rcases (by omega : x = 1 ∨ x = 2 ∨ x = 3 ∨ x = 4 ∨ x = 5 ∨ x = 6 ∨ x = 7 ∨ x = 8 ∨ x = 9 ∨ x = 10) with e | e | e | e | e | e | e | e | e | e
      · subst e; exact ahd1 v ys w ht h hl
      · subst e; exact ahd2 v ys w ht h hl
      · subst e; exact ahd3 v ys w ht h hl
      · subst e; exact ahd4 v ys w ht h hl
      · subst e; exact ahd5 v ys w ht h hl
      · subst e; exact ahd6 v ys w ht h hl
      · subst e; exact ahd7 v ys w ht h hl
      · subst e; exact ahd8 v ys w ht h hl
      · subst e; exact ahd9 v ys w ht h hl
      · subst e; exact ahd10 v ys w ht h hl
end Go.Proofs.YthhghehnaopmhaaDoor
namespace Go.Proofs.YthhghehnaopmhaaDoor
open Go.RowKit Go.Shelf
set_option maxRecDepth 100000

def BB (xs : List Int) : Prop := ∀ i, 0 ≤ xs.getD i 0 ∧ xs.getD i 0 < 256
theorem BB.drop {xs : List Int} (h : BB xs) (n : Nat) : BB (xs.drop n) := Fi.bytes_drop xs n h
theorem BB.take {xs : List Int} (h : BB xs) (n : Nat) : BB (xs.take n) := fun i => by
  have := h i
  rw [List.getD_eq_getElem?_getD, List.getElem?_take]
  split
  · rwa [List.getD_eq_getElem?_getD] at this
  · simp
/-- A reader leaves bytes, no more than there were. -/
def Rl {α : Type} (A : Rr α) (P : α → Prop) : Prop := ∀ xs e, BB xs → BB (A xs e).2.1 ∧ (A xs e).2.1.length ≤ xs.length ∧ (xs.length ≤ 100000 → P (A xs e).1)
theorem Rl.opt {α : Type} {A : Rr α} {P : α → Prop} (h : Rl A P) (b : Bool) {d : α} (hd : P d) : Rl (opt b A d) P := by
  cases b with
  | true => exact h
  | false => exact fun xs e hb => ⟨hb, Nat.le_refl _, fun _ => hd⟩
theorem Rl.thn {α β : Type} {A : Rr α} {B : Rr β} {P : α → Prop} {Q : β → Prop} (ha : Rl A P) (hb : Rl B Q) : Rl (thn A B) (fun x => P x.1 ∧ Q x.2) := fun xs e h => by
  obtain ⟨a1, a2, a3⟩ := ha xs e h
  obtain ⟨b1, b2, b3⟩ := hb (A xs e).2.1 (A xs e).2.2 a1
  exact ⟨b1, Nat.le_trans b2 a2, fun hl => ⟨a3 hl, b3 (Nat.le_trans a2 hl)⟩⟩
theorem rNm_rl (m : Int) (hm : 0 ≤ m) : Rl (rNm m) (fun n => 0 ≤ n ∧ n ≤ m) := fun xs e h => by
  obtain ⟨h1, h2, h3, h4⟩ := rN_bd xs e m hm h
  exact ⟨h4, h3, fun _ => ⟨h1, h2⟩⟩
theorem rFn_rl : Rl rFn (fun _ => True) := fun xs e h => by
  unfold rFn
  split
  · split
    · exact ⟨h, Nat.le_refl _, fun _ => trivial⟩
    · split
      · exact ⟨h.drop 1, by simp only [List.length_drop]; omega, fun _ => trivial⟩
      · exact ⟨h.drop 1, by simp only [List.length_drop]; omega, fun _ => trivial⟩
  · exact ⟨h, Nat.le_refl _, fun _ => trivial⟩
theorem zn_bb : BB zn := fun i => by
  unfold zn
  rw [List.getD_eq_getElem?_getD, List.getElem?_replicate]
  split <;> simp
theorem rOn_rl : Rl rOn (fun l => l.length = 16 ∧ BB l) := fun xs e h => by
  unfold rOn
  split
  · split
    · exact ⟨h, Nat.le_refl _, fun _ => ⟨rfl, zn_bb⟩⟩
    · exact ⟨h.drop 16, by simp only [List.length_drop]; omega, fun _ => ⟨by simp only [List.length_take]; omega, h.take 16⟩⟩
  · exact ⟨h, Nat.le_refl _, fun _ => ⟨rfl, zn_bb⟩⟩
theorem rTx_rl (m : Int) : Rl (rTx m) (fun l => l.length ≤ 100000) := fun xs e h => by
  unfold rTx
  split
  · simp only
    unfold Fi.txR Fi.txS
    split
    · exact ⟨h.drop _, by simp only [List.length_drop]; omega, fun hl => by rw [List.length_take, List.length_drop]; omega⟩
    · exact ⟨h, Nat.le_refl _, fun _ => by simp⟩
  · exact ⟨h, Nat.le_refl _, fun _ => by simp⟩
theorem ahR_rl (k : Int) : Rl (ahR k) (fun x => (0 ≤ x.1 ∧ x.1 ≤ 1048576) ∧ (0 ≤ x.2.1 ∧ x.2.1 ≤ 1099511627776) ∧ True ∧ (0 ≤ x.2.2.2.1 ∧ x.2.2.2.1 ≤ 65536) ∧ (x.2.2.2.2.1.length = 16 ∧ BB x.2.2.2.2.1) ∧ x.2.2.2.2.2.length ≤ 100000) := by
  unfold ahR
  exact ((rNm_rl _ (by omega)).opt _ (by omega)).thn (((rNm_rl _ (by omega)).opt _ (by omega)).thn ((rFn_rl.opt _ trivial).thn (((rNm_rl _ (by omega)).opt _ (by omega)).thn ((rOn_rl.opt _ ⟨rfl, zn_bb⟩).thn ((rTx_rl _).opt _ (by simp))))))
theorem glp_num : ∀ (k : Nat) (l : List Sp) (p : Sp) (xs : List Int) (e : Int), (glp k l p xs e).1.length = l.length + k + 1
  | 0, l, p, _, _ => by simp [glp]
  | k + 1, l, p, xs, e => by
    unfold glp
    simp only
    rw [glp_num k, List.length_append, List.length_singleton]
    omega
theorem getP_num (xs : List Int) (h : BB xs) : (getP xs).1.length ≤ 100000 := by
  unfold getP
  simp only
  have h1 : BB (xs.take 1032) := h.take _
  split
  · rw [List.length_reverse]
    unfold getA
    simp only
    rw [glp_num]
    obtain ⟨a1, a2, a3, a4⟩ := rN_bd (xs.take 1032) 0 1099511627776 (by omega) h1
    obtain ⟨b1, b2, -, -⟩ := rN_bd (rN (xs.take 1032) 0 1099511627776).2.1 (rN (xs.take 1032) 0 1099511627776).2.2 (min 63 ((rN (xs.take 1032) 0 1099511627776).1 / 2)) (by omega) a4
    simp only [List.length_nil]
    omega
  · split <;> simp
theorem fk_zero : FK Fm.zero := ⟨by decide, by decide, by decide, by decide, by decide, by decide, by decide, by decide, rfl, zn_bb⟩
theorem ahM_fk (xs : List Int) (h : BB xs) (hl : xs.length ≤ 100000) : FK (ahM xs).1 ∧ (ahM xs).1.sp.length ≤ 100000 ∧ (ahM xs).1.tx.size ≤ 140737488355328 := by
  have hz : FK Fm.zero ∧ Fm.zero.sp.length ≤ 100000 ∧ Fm.zero.tx.size ≤ 140737488355328 := ⟨fk_zero, by simp [Fm.zero], by decide⟩
  have hE : ∀ e, FK (errM e).1 ∧ (errM e).1.sp.length ≤ 100000 ∧ (errM e).1.tx.size ≤ 140737488355328 := fun _ => hz
  unfold ahM
  simp only
  split
  · exact hE _
  split
  · exact hE _
  rename_i hk
  have hk0 := h 0
  generalize xs.getD 0 0 = k at *
  obtain ⟨q1, q2, q3⟩ := ahR_rl k (xs.drop 1) 0 (h.drop 1)
  obtain ⟨c1, c2, -, c4, c5, c6⟩ := q3 (by rw [List.length_drop]; omega)
  have hF : ∀ l, l.length ≤ 100000 → FK (mkF k (ahR k (xs.drop 1) 0).1 l) ∧ (mkF k (ahR k (xs.drop 1) 0).1 l).sp.length ≤ 100000 ∧ (mkF k (ahR k (xs.drop 1) 0).1 l).tx.size ≤ 140737488355328 := fun l hl => by
    refine ⟨⟨hk0.1, hk0.2, ?_, ?_, ?_, ?_, ?_, ?_, c5.1, c5.2⟩, hl, ?_⟩
    · show -9223372036854775808 ≤ (ahR k (xs.drop 1) 0).1.1; omega
    · show (ahR k (xs.drop 1) 0).1.1 ≤ 9223372036854775807; omega
    · show -9223372036854775808 ≤ (ahR k (xs.drop 1) 0).1.2.1; omega
    · show (ahR k (xs.drop 1) 0).1.2.1 ≤ 9223372036854775807; omega
    · show -9223372036854775808 ≤ (ahR k (xs.drop 1) 0).1.2.2.2.1; omega
    · show (ahR k (xs.drop 1) 0).1.2.2.2.1 ≤ 9223372036854775807; omega
    · show (Fi.strB (ahR k (xs.drop 1) 0).1.2.2.2.2.2).size ≤ _
      rw [Fi.strB_size]
      omega
  split
  · exact hE _
  split
  · split
    · exact hE _
    · exact hF _ (getP_num _ q1)
  · exact hF _ (by simp)
end Go.Proofs.YthhghehnaopmhaaDoor
namespace Go.Proofs.YthhghehnaopmhaaDoor
open Go.RowKit Go.Shelf
set_option maxRecDepth 100000

theorem layF_any (p : Fm) (sv : Value) (w : World) (ht : Tb w) (hi : FI w p sv) (hok : Ok p) :
    Calls Tryd.prog 18 #[.agg (plA p sv)] w fun e w' => ∃ v, e = .returned v ∧ Ow w' w.heap.size v (putM p) ∧ Below w.heap.size w w' := by
  have hk := hok.kk
  unfold isK at hk
  simp at hk
  rcases (by omega : p.k = 1 ∨ p.k = 2 ∨ p.k = 3 ∨ p.k = 4 ∨ p.k = 5 ∨ p.k = 6 ∨ p.k = 7 ∨ p.k = 8 ∨ p.k = 9 ∨ p.k = 10) with e | e | e | e | e | e | e | e | e | e
  · exact lay1 p sv w ht hi hok e
  · exact lay2 p sv w ht hi hok e
  · exact lay3 p sv w ht hi hok e
  · exact lay4 p sv w ht hi hok e
  · exact lay5 p sv w ht hi hok e
  · exact lay6 p sv w ht hi hok e
  · exact lay7 p sv w ht hi hok e
  · exact lay8 p sv w ht hi hok e
  · exact lay9 p sv w ht hi hok e
  · exact lay10 p sv w ht hi hok e
theorem alloc_pl {w : World} {n : Nat} (p : Fm) (sv : Value) (t : TypeId) (old : Array Value) (hn : n = w.heap.size) : (w.alloc (.cells old t)).setRow n (plA p sv) = w.alloc (.cells (plA p sv) t) := by subst hn; exact World.setRow_alloc_new _ _ _ _
/-- What Put lays. -/
def putR (p : Fm) : List Int := if chkM p = 0 then putM p else []
/-- What is handed to Put. -/
structure FP (w : World) (p : Fm) (sv : Value) : Prop where
  k : FK p
  kk : isK p.k = true
  nb : ¬ badF p
  s : hS p.k = true → SSp w sv p.sp
  l : p.sp.length ≤ 100000
  t : p.tx.size ≤ 140737488355328
set_option maxHeartbeats 8000000 in
theorem putF_any (p : Fm) (sv : Value) (w : World) (ht : Tb w) (hp : FP w p sv) (hv : ∃ t y, frV p sv = .iface t y) :
    Calls Tryd.prog 8 #[frV p sv] w fun e w' => ∃ v, e = .returned (.tuple #[v, .int .i64 (chkM p)]) ∧ Ow w' w.heap.size v (putR p) ∧ Below w.heap.size w w' := by
  have cf := flatF_any p sv w hp.kk hp.nb hp.k.nl hp.s hp.l
  obtain ⟨ty, y, hy⟩ := hv
  rw [hy] at cf ⊢
  have HP : Hid (FP w p sv) := hp
  have HT : Hid (Tb w) := ht
  have HSZ : Hid (∀ v, (Tryd.prog.info? 36).map (·.size) = some (plA p v).size) := fun v => by rw [plA_size hp.k.nl]; exact infoP
  have HSL : Hid (∀ v, (Tryd.prog.info? 36).map (·.size) = some (plL p v).length) := fun v => by rw [plL_len hp.k.nl]; exact infoP
  have HON : Hid (∀ (a : Option Addr) (m c : Nat), (plA p (.slice a m c)).all (·.oneCell') = true) := fun a m c => all_oneCell_toArray (plL_one rfl)
  have HO23 : Hid (∀ v, (plA Fm.zero (.slice none 0 0)).size = (plA p v).size) := fun v => by rw [plA_size hp.k.nl]; rfl
  clear hp ht
  go_enter Tryd.func8, Tryd.ntmps8
  go_wp2_with fail
  refine cf.mono ?_
  rintro e w1 ⟨s1, rfl, r1, b1⟩
  obtain ⟨sa, sc, rfl, -, -, -⟩ := r1.is.shape
  obtain ⟨W2, hW2⟩ : ∃ W2, W2 = w1.alloc (.cells (plA p (.slice sa p.sp.length sc)) 36) := ⟨_, rfl⟩
  have b2 : Below w1.heap.size w1 W2 := by rw [hW2]; exact al_below _ _
  have HB2 : Hid (Below w.heap.size w W2) := b1.trans (b2.mono b1.size)
  have hal := alloc_pl (w := w1) p (.slice sa p.sp.length sc) 36 #[.int .u8 0, .int .i64 0, .int .i64 0, .int .i64 0, .bool false, .string ⟨#[]⟩, .int .u8 0, .int .u8 0, .int .u8 0, .int .u8 0, .int .u8 0, .int .u8 0, .int .u8 0, .int .u8 0, .int .u8 0, .int .u8 0, .int .u8 0, .int .u8 0, .int .u8 0, .int .u8 0, .int .u8 0, .int .u8 0, .slice none 0 0] rfl
  rw [← hW2] at hal
  have HAL : Hid ((w1.alloc (.cells #[.int .u8 0, .int .i64 0, .int .i64 0, .int .i64 0, .bool false, .string ⟨#[]⟩, .int .u8 0, .int .u8 0, .int .u8 0, .int .u8 0, .int .u8 0, .int .u8 0, .int .u8 0, .int .u8 0, .int .u8 0, .int .u8 0, .int .u8 0, .int .u8 0, .int .u8 0, .int .u8 0, .int .u8 0, .int .u8 0, .slice none 0 0] 36)).setRow w1.heap.size (plA p (.slice sa p.sp.length sc)) = W2) := hal
  have HNEW : Hid ((w1.alloc (.cells #[.int .u8 0, .int .i64 0, .int .i64 0, .int .i64 0, .bool false, .string ⟨#[]⟩, .int .u8 0, .int .u8 0, .int .u8 0, .int .u8 0, .int .u8 0, .int .u8 0, .int .u8 0, .int .u8 0, .int .u8 0, .int .u8 0, .int .u8 0, .int .u8 0, .int .u8 0, .int .u8 0, .int .u8 0, .int .u8 0, .slice none 0 0] 36)).heap[w1.heap.size]? = some (.cells #[.int .u8 0, .int .i64 0, .int .i64 0, .int .i64 0, .bool false, .string ⟨#[]⟩, .int .u8 0, .int .u8 0, .int .u8 0, .int .u8 0, .int .u8 0, .int .u8 0, .int .u8 0, .int .u8 0, .int .u8 0, .int .u8 0, .int .u8 0, .int .u8 0, .int .u8 0, .int .u8 0, .int .u8 0, .int .u8 0, .slice none 0 0] 36 (0, 0))) := heap_alloc_new _ _
  have g2 : PF W2 w1.heap.size 36 p (.slice sa p.sp.length sc) := by rw [hW2]; exact PF.new w1 _ p _
  have HG2 : Hid (PF W2 w1.heap.size 36 p (.slice sa p.sp.length sc)) := g2
  have HI2 : Hid (FI W2 p (.slice sa p.sp.length sc)) := ⟨HP.out.k, (r1.is).kept b2, HP.out.l, HP.out.t⟩
  have cc := checkF_any p _ W2 (HT.out.next HB2.out) HI2.out
  have HR2 : Hid (W2.rangeAt w1.heap.size 0 (plL p (.slice sa p.sp.length sc))) := g2.range
  clear cf b1 r1 b2 hW2 hal g2
  go_wp2_with (refine wpList_store_row rfl 36 _ _ rfl w1.heap.size (plA p (.slice sa p.sp.length sc)) rfl rfl 36 _ HNEW.out (HSZ.out _) (HO23.out _) (HON.out _ _ _) (Hid.out ?_))
  unfold Hid
  rw [HAL.out]
  go_wp2_with (refine wpList_load_mid rfl 36 _ rfl w1.heap.size 0 rfl (plL p (.slice sa p.sp.length sc)) _ HR2.out Tryd.underlying36 rfl (HSL.out _) (Hid.out ?_))
  unfold Hid
  go_wp2_with fail
  refine cc.mono ?_
  rintro e w3 ⟨rfl, b3⟩
  have HB3 : Hid (Below w.heap.size w w3) := HB2.out.trans (b3.mono HB2.out.size)
  have HR3 : Hid (w3.rangeAt w1.heap.size 0 (plL p (.slice sa p.sp.length sc))) := (HG2.out.kept b3).range
  have HI3 : Hid (FI w3 p (.slice sa p.sp.length sc)) := HI2.out.kept b3
  clear cc b3 HR2 HI2 HG2 HNEW HAL
  by_cases h0 : chkM p = 0
  · have cl := layF_any p _ w3 (HT.out.next HB3.out) HI3.out (chkM_ok h0)
    have t0 : (chkM p != 0) = false := by rw [h0]; rfl
    have HC0 : Hid (chkM p = 0) := h0
    clear h0
    go_wp2_with (refine wpList_load_mid rfl 36 _ rfl w1.heap.size 0 rfl (plL p (.slice sa p.sp.length sc)) _ HR3.out Tryd.underlying36 rfl (HSL.out _) (Hid.out ?_))
    unfold Hid
    go_wp2_with fail
    refine cl.mono ?_
    rintro e w4 ⟨v4, rfl, o4, b4⟩
    have HB4 : Hid (Below w.heap.size w w4) := HB3.out.trans (b4.mono HB3.out.size)
    have HO4 : Hid (Ow w4 w.heap.size v4 (putM p)) := o4.mono HB3.out.size
    clear cl b4 o4 HR3
    go_wp2
    go_ret2
    have HE : putR p = putM p := by unfold putR; rw [if_pos HC0.out]
    exact ⟨_, (by first | rfl | (rw [HC0.out]; rfl)), by rw [HE]; exact HO4.out, HB4.out⟩
  · have t0 : (chkM p != 0) = true := by simpa using h0
    have HC0 : Hid (¬ chkM p = 0) := h0
    have HNIL : Hid (Ow w3 w.heap.size (.slice none 0 0) []) := ⟨World.ownsRow_nil _ _ _ _, fun k => by simp⟩
    clear h0
    go_wp2
    go_ret2
    have HE : putR p = [] := by unfold putR; rw [if_neg HC0.out]
    exact ⟨_, rfl, by rw [HE]; exact HNIL.out, HB3.out⟩
end Go.Proofs.YthhghehnaopmhaaDoor
namespace Go.Proofs.YthhghehnaopmhaaDoor
open Go.RowKit Go.Shelf
set_option maxRecDepth 100000

set_option maxHeartbeats 8000000 in
theorem getF_any (v : Value) (xs : List Int) (w : World) (ht : Tb w) (h : Sl w v xs) (hl : xs.length ≤ 9000000000000000000) :
    Calls Tryd.prog 12 #[v] w fun e w' => ∃ sv, e = .returned (.tuple #[frV (getM xs).1 sv, .int .i64 (getM xs).2.1, .int .i64 (getM xs).2.2]) ∧ RSp w' w.heap.size sv (spO (getM xs).1) ∧ Below w.heap.size w w' := by
  obtain ⟨a, c, rfl, hlc, hcm, hnn, -⟩ := id h
  obtain ⟨m, hm⟩ : ∃ m, m = min xs.length 1150 := ⟨_, rfl⟩
  have hxl : (xs.take 1150).length = m := by rw [List.length_take, hm, Nat.min_comm]
  have hta := h.take m (by omega)
  rw [show xs.take m = xs.take 1150 by rcases Nat.le_total xs.length 1150 with q | q
                                       · rw [hm, Nat.min_eq_left q, List.take_length, List.take_of_length_le q]
                                       · rw [hm, Nat.min_eq_right q]] at hta
  have ca := aheadF_any (.slice a m c) (xs.take 1150) w ht hta (by omega)
  have HK : Hid (FK (ahM (xs.take 1150)).1 ∧ (ahM (xs.take 1150)).1.sp.length ≤ 100000 ∧ (ahM (xs.take 1150)).1.tx.size ≤ 140737488355328) := ahM_fk _ hta.bytes (by omega)
  have HGM : Hid (getM xs = if (ahM (xs.take 1150)).2.2 ≠ 0 then errM (ahM (xs.take 1150)).2.2 else endM (ahM (xs.take 1150)).1 (ahM (xs.take 1150)).2.1) := rfl
  have emin : min (xs.length : Int) 1150 = (m : Int) := by omega
  have e1 : (m : Int) ≤ (c : Int) := by omega
  have e2 : 0 ≤ (m : Int) := by omega
  have hmx : c ≤ 9223372036854775807 := by unfold maxLen at hcm; omega
  have hna : a = none → m = 0 ∧ c = 0 := fun e => by have := hnn e; omega
  have HT : Hid (Tb w) := ht
  clear h hta ht hnn hm hxl hcm
  generalize ahM (xs.take 1150) = GA at *
  obtain ⟨p, gu, ge⟩ := GA
  simp only at ca HK HGM
  have HSZ : Hid (∀ v, (Tryd.prog.info? 36).map (·.size) = some (plA p v).size) := fun v => by rw [plA_size HK.out.1.nl]; exact infoP
  have HSL : Hid (∀ v, (Tryd.prog.info? 36).map (·.size) = some (plL p v).length) := fun v => by rw [plL_len HK.out.1.nl]; exact infoP
  have HON : Hid (∀ (a : Option Addr) (m c : Nat), (plA p (.slice a m c)).all (·.oneCell') = true) := fun a m c => all_oneCell_toArray (plL_one rfl)
  have HO23 : Hid (∀ v, (plA Fm.zero (.slice none 0 0)).size = (plA p v).size) := fun v => by rw [plA_size HK.out.1.nl]; rfl
  generalize xs.length = n9 at *
  cases a with
  | none =>
    obtain ⟨rfl, rfl⟩ := hna rfl
    clear hna
    go_enter Tryd.func12, Tryd.ntmps12
    go_wp2_with fail
    refine ca.mono ?_
    rintro e w1 ⟨s1, rfl, r1, b1⟩
    obtain ⟨sa, sc, rfl, -, -, -⟩ := r1.is.shape
    obtain ⟨W2, hW2⟩ : ∃ W2, W2 = w1.alloc (.cells (plA p (.slice sa p.sp.length sc)) 36) := ⟨_, rfl⟩
    have b2 : Below w1.heap.size w1 W2 := by rw [hW2]; exact al_below _ _
    have HB2 : Hid (Below w.heap.size w W2) := b1.trans (b2.mono b1.size)
    have hal := alloc_pl (w := w1) p (.slice sa p.sp.length sc) 36 #[.int .u8 0, .int .i64 0, .int .i64 0, .int .i64 0, .bool false, .string ⟨#[]⟩, .int .u8 0, .int .u8 0, .int .u8 0, .int .u8 0, .int .u8 0, .int .u8 0, .int .u8 0, .int .u8 0, .int .u8 0, .int .u8 0, .int .u8 0, .int .u8 0, .int .u8 0, .int .u8 0, .int .u8 0, .int .u8 0, .slice none 0 0] rfl
    rw [← hW2] at hal
    have HAL : Hid ((w1.alloc (.cells #[.int .u8 0, .int .i64 0, .int .i64 0, .int .i64 0, .bool false, .string ⟨#[]⟩, .int .u8 0, .int .u8 0, .int .u8 0, .int .u8 0, .int .u8 0, .int .u8 0, .int .u8 0, .int .u8 0, .int .u8 0, .int .u8 0, .int .u8 0, .int .u8 0, .int .u8 0, .int .u8 0, .int .u8 0, .int .u8 0, .slice none 0 0] 36)).setRow w1.heap.size (plA p (.slice sa p.sp.length sc)) = W2) := hal
    have HNEW : Hid ((w1.alloc (.cells #[.int .u8 0, .int .i64 0, .int .i64 0, .int .i64 0, .bool false, .string ⟨#[]⟩, .int .u8 0, .int .u8 0, .int .u8 0, .int .u8 0, .int .u8 0, .int .u8 0, .int .u8 0, .int .u8 0, .int .u8 0, .int .u8 0, .int .u8 0, .int .u8 0, .int .u8 0, .int .u8 0, .int .u8 0, .int .u8 0, .slice none 0 0] 36)).heap[w1.heap.size]? = some (.cells #[.int .u8 0, .int .i64 0, .int .i64 0, .int .i64 0, .bool false, .string ⟨#[]⟩, .int .u8 0, .int .u8 0, .int .u8 0, .int .u8 0, .int .u8 0, .int .u8 0, .int .u8 0, .int .u8 0, .int .u8 0, .int .u8 0, .int .u8 0, .int .u8 0, .int .u8 0, .int .u8 0, .int .u8 0, .int .u8 0, .slice none 0 0] 36 (0, 0))) := heap_alloc_new _ _
    have g2 : PF W2 w1.heap.size 36 p (.slice sa p.sp.length sc) := by rw [hW2]; exact PF.new w1 _ p _
    have HG2 : Hid (PF W2 w1.heap.size 36 p (.slice sa p.sp.length sc)) := g2
    have HI2 : Hid (FI W2 p (.slice sa p.sp.length sc)) := ⟨HK.out.1, (r1.is).kept b2, HK.out.2.1, HK.out.2.2⟩
    have HR2 : Hid (W2.rangeAt w1.heap.size 0 (plL p (.slice sa p.sp.length sc))) := g2.range
    clear ca b1 r1 b2 hW2 hal g2
    go_wp2_with (refine wpList_store_row rfl 36 _ _ rfl w1.heap.size (plA p (.slice sa p.sp.length sc)) rfl rfl 36 _ HNEW.out (HSZ.out _) (HO23.out _) (HON.out _ _ _) (Hid.out ?_))
    unfold Hid
    rw [HAL.out]
    by_cases h0 : ge = 0
    · have cc := checkF_any p _ W2 (HT.out.next HB2.out) HI2.out
      have tg : (ge == 0) = true := by rw [h0]; rfl
      have HG0 : Hid (getM xs = endM p gu) := by unfold Hid; rw [HGM.out, h0]; rfl
      clear h0 HGM HAL HNEW
      go_wp2_with (refine wpList_load_mid rfl 36 _ rfl w1.heap.size 0 rfl (plL p (.slice sa p.sp.length sc)) _ HR2.out Tryd.underlying36 rfl (HSL.out _) (Hid.out ?_))
      unfold Hid
      go_wp2_with fail
      refine cc.mono ?_
      rintro e w3 ⟨rfl, b3⟩
      have HB3 : Hid (Below w.heap.size w w3) := HB2.out.trans (b3.mono HB2.out.size)
      have HR3 : Hid (w3.rangeAt w1.heap.size 0 (plL p (.slice sa p.sp.length sc))) := (HG2.out.kept b3).range
      have HI3 : Hid (FI w3 p (.slice sa p.sp.length sc)) := HI2.out.kept b3
      clear cc b3 HR2 HI2 HG2
      by_cases hc : chkM p = 0
      · have cb := buildF_any p _ w3 HI3.out
        have tc : (chkM p != 0) = false := by rw [hc]; rfl
        have HGG : Hid (getM xs = (p, gu, 0)) := by unfold Hid; rw [HG0.out]; unfold endM; rw [if_pos hc]
        clear hc HG0
        go_wp2_with (refine wpList_load_mid rfl 36 _ rfl w1.heap.size 0 rfl (plL p (.slice sa p.sp.length sc)) _ HR3.out Tryd.underlying36 rfl (HSL.out _) (Hid.out ?_))
        unfold Hid
        go_wp2_with fail
        refine cb.mono ?_
        rintro e w4 ⟨s4, rfl, r4, b4⟩
        have HB4 : Hid (Below w.heap.size w w4) := HB3.out.trans (b4.mono HB3.out.size)
        have HR4 : Hid (RSp w4 w.heap.size s4 (spO p)) := RSp.mono r4 HB3.out.size
        clear cb r4 b4 HR3
        go_wp2
        go_ret3
        exact ⟨s4, by rw [HGG.out]; rfl, by rw [HGG.out]; exact HR4.out, HB4.out⟩
      · have tc : (chkM p != 0) = true := by simpa using hc
        have HGG : Hid (getM xs = errM (chkM p)) := by unfold Hid; rw [HG0.out]; unfold endM; rw [if_neg hc]
        have HNIL : Hid (RSp w3 w.heap.size (.slice none 0 0) (spO (errM (chkM p)).1)) := RI.nil _ _ _ _
        clear hc HG0
        go_wp2
        go_ret3
        exact ⟨_, by rw [HGG.out]; rfl, by rw [HGG.out]; exact HNIL.out, HB3.out⟩
    · have tg : (ge == 0) = false := by simpa using h0
      have tg2 : (ge != 0) = true := by simpa using h0
      have HGG : Hid (getM xs = errM ge) := by unfold Hid; rw [HGM.out, if_pos h0]
      have HNIL : Hid (RSp W2 w.heap.size (.slice none 0 0) (spO (errM ge).1)) := RI.nil _ _ _ _
      clear h0 HGM HAL HNEW
      go_wp2
      go_ret3
      exact ⟨_, by rw [HGG.out]; rfl, by rw [HGG.out]; exact HNIL.out, HB2.out⟩
  | some x =>
    clear hna
    go_enter Tryd.func12, Tryd.ntmps12
    go_wp2_with fail
    refine ca.mono ?_
    rintro e w1 ⟨s1, rfl, r1, b1⟩
    obtain ⟨sa, sc, rfl, -, -, -⟩ := r1.is.shape
    obtain ⟨W2, hW2⟩ : ∃ W2, W2 = w1.alloc (.cells (plA p (.slice sa p.sp.length sc)) 36) := ⟨_, rfl⟩
    have b2 : Below w1.heap.size w1 W2 := by rw [hW2]; exact al_below _ _
    have HB2 : Hid (Below w.heap.size w W2) := b1.trans (b2.mono b1.size)
    have hal := alloc_pl (w := w1) p (.slice sa p.sp.length sc) 36 #[.int .u8 0, .int .i64 0, .int .i64 0, .int .i64 0, .bool false, .string ⟨#[]⟩, .int .u8 0, .int .u8 0, .int .u8 0, .int .u8 0, .int .u8 0, .int .u8 0, .int .u8 0, .int .u8 0, .int .u8 0, .int .u8 0, .int .u8 0, .int .u8 0, .int .u8 0, .int .u8 0, .int .u8 0, .int .u8 0, .slice none 0 0] rfl
    rw [← hW2] at hal
    have HAL : Hid ((w1.alloc (.cells #[.int .u8 0, .int .i64 0, .int .i64 0, .int .i64 0, .bool false, .string ⟨#[]⟩, .int .u8 0, .int .u8 0, .int .u8 0, .int .u8 0, .int .u8 0, .int .u8 0, .int .u8 0, .int .u8 0, .int .u8 0, .int .u8 0, .int .u8 0, .int .u8 0, .int .u8 0, .int .u8 0, .int .u8 0, .int .u8 0, .slice none 0 0] 36)).setRow w1.heap.size (plA p (.slice sa p.sp.length sc)) = W2) := hal
    have HNEW : Hid ((w1.alloc (.cells #[.int .u8 0, .int .i64 0, .int .i64 0, .int .i64 0, .bool false, .string ⟨#[]⟩, .int .u8 0, .int .u8 0, .int .u8 0, .int .u8 0, .int .u8 0, .int .u8 0, .int .u8 0, .int .u8 0, .int .u8 0, .int .u8 0, .int .u8 0, .int .u8 0, .int .u8 0, .int .u8 0, .int .u8 0, .int .u8 0, .slice none 0 0] 36)).heap[w1.heap.size]? = some (.cells #[.int .u8 0, .int .i64 0, .int .i64 0, .int .i64 0, .bool false, .string ⟨#[]⟩, .int .u8 0, .int .u8 0, .int .u8 0, .int .u8 0, .int .u8 0, .int .u8 0, .int .u8 0, .int .u8 0, .int .u8 0, .int .u8 0, .int .u8 0, .int .u8 0, .int .u8 0, .int .u8 0, .int .u8 0, .int .u8 0, .slice none 0 0] 36 (0, 0))) := heap_alloc_new _ _
    have g2 : PF W2 w1.heap.size 36 p (.slice sa p.sp.length sc) := by rw [hW2]; exact PF.new w1 _ p _
    have HG2 : Hid (PF W2 w1.heap.size 36 p (.slice sa p.sp.length sc)) := g2
    have HI2 : Hid (FI W2 p (.slice sa p.sp.length sc)) := ⟨HK.out.1, (r1.is).kept b2, HK.out.2.1, HK.out.2.2⟩
    have HR2 : Hid (W2.rangeAt w1.heap.size 0 (plL p (.slice sa p.sp.length sc))) := g2.range
    clear ca b1 r1 b2 hW2 hal g2
    go_wp2_with (refine wpList_store_row rfl 36 _ _ rfl w1.heap.size (plA p (.slice sa p.sp.length sc)) rfl rfl 36 _ HNEW.out (HSZ.out _) (HO23.out _) (HON.out _ _ _) (Hid.out ?_))
    unfold Hid
    rw [HAL.out]
    by_cases h0 : ge = 0
    · have cc := checkF_any p _ W2 (HT.out.next HB2.out) HI2.out
      have tg : (ge == 0) = true := by rw [h0]; rfl
      have HG0 : Hid (getM xs = endM p gu) := by unfold Hid; rw [HGM.out, h0]; rfl
      clear h0 HGM HAL HNEW
      go_wp2_with (refine wpList_load_mid rfl 36 _ rfl w1.heap.size 0 rfl (plL p (.slice sa p.sp.length sc)) _ HR2.out Tryd.underlying36 rfl (HSL.out _) (Hid.out ?_))
      unfold Hid
      go_wp2_with fail
      refine cc.mono ?_
      rintro e w3 ⟨rfl, b3⟩
      have HB3 : Hid (Below w.heap.size w w3) := HB2.out.trans (b3.mono HB2.out.size)
      have HR3 : Hid (w3.rangeAt w1.heap.size 0 (plL p (.slice sa p.sp.length sc))) := (HG2.out.kept b3).range
      have HI3 : Hid (FI w3 p (.slice sa p.sp.length sc)) := HI2.out.kept b3
      clear cc b3 HR2 HI2 HG2
      by_cases hc : chkM p = 0
      · have cb := buildF_any p _ w3 HI3.out
        have tc : (chkM p != 0) = false := by rw [hc]; rfl
        have HGG : Hid (getM xs = (p, gu, 0)) := by unfold Hid; rw [HG0.out]; unfold endM; rw [if_pos hc]
        clear hc HG0
        go_wp2_with (refine wpList_load_mid rfl 36 _ rfl w1.heap.size 0 rfl (plL p (.slice sa p.sp.length sc)) _ HR3.out Tryd.underlying36 rfl (HSL.out _) (Hid.out ?_))
        unfold Hid
        go_wp2_with fail
        refine cb.mono ?_
        rintro e w4 ⟨s4, rfl, r4, b4⟩
        have HB4 : Hid (Below w.heap.size w w4) := HB3.out.trans (b4.mono HB3.out.size)
        have HR4 : Hid (RSp w4 w.heap.size s4 (spO p)) := RSp.mono r4 HB3.out.size
        clear cb r4 b4 HR3
        go_wp2
        go_ret3
        exact ⟨s4, by rw [HGG.out]; rfl, by rw [HGG.out]; exact HR4.out, HB4.out⟩
      · have tc : (chkM p != 0) = true := by simpa using hc
        have HGG : Hid (getM xs = errM (chkM p)) := by unfold Hid; rw [HG0.out]; unfold endM; rw [if_neg hc]
        have HNIL : Hid (RSp w3 w.heap.size (.slice none 0 0) (spO (errM (chkM p)).1)) := RI.nil _ _ _ _
        clear hc HG0
        go_wp2
        go_ret3
        exact ⟨_, by rw [HGG.out]; rfl, by rw [HGG.out]; exact HNIL.out, HB3.out⟩
    · have tg : (ge == 0) = false := by simpa using h0
      have tg2 : (ge != 0) = true := by simpa using h0
      have HGG : Hid (getM xs = errM ge) := by unfold Hid; rw [HGM.out, if_pos h0]
      have HNIL : Hid (RSp W2 w.heap.size (.slice none 0 0) (spO (errM ge).1)) := RI.nil _ _ _ _
      clear h0 HGM HAL HNEW
      go_wp2
      go_ret3
      exact ⟨_, by rw [HGG.out]; rfl, by rw [HGG.out]; exact HNIL.out, HB2.out⟩
end Go.Proofs.YthhghehnaopmhaaDoor
namespace Go.Proofs.YthhghehnaopmhaaDoor
open Go.RowKit Go.Shelf
set_option maxRecDepth 100000

set_option maxHeartbeats 1000000 in
theorem putF_nil (w : World) : Calls Tryd.prog 8 #[.nilIface] w fun e w' => e = .returned (.tuple #[.slice none 0 0, .int .i64 1]) ∧ w' = w := by
  go_enter Tryd.func8, Tryd.ntmps8
  go_wp2
  go_ret2
  exact ⟨rfl, rfl⟩
/-- What Of makes. -/
def ofP (p : Fm) : Fm := if chkM p = 0 then p else Fm.zero
set_option maxHeartbeats 4000000 in
theorem ofF_any (p : Fm) (sv : Value) (w : World) (ht : Tb w) (hi : FI w p sv) :
    Calls Tryd.prog 7 #[.agg (plA p sv)] w fun e w' => ∃ sv', e = .returned (.tuple #[frV (ofP p) sv', .int .i64 (chkM p)]) ∧ RSp w' w.heap.size sv' (spO (ofP p)) ∧ Below w.heap.size w w' := by
  obtain ⟨W1, hW1⟩ : ∃ W1, W1 = w.alloc (.cells (plA p sv) 36) := ⟨_, rfl⟩
  have b1 : Below w.heap.size w W1 := by rw [hW1]; exact al_below _ _
  have g1 : PF W1 w.heap.size 36 p sv := by rw [hW1]; exact PF.new w _ p sv
  have HG1 : Hid (PF W1 w.heap.size 36 p sv) := g1
  have HB1 : Hid (Below w.heap.size w W1) := b1
  have HI1 : Hid (FI W1 p sv) := hi.kept b1
  have HT : Hid (Tb w) := ht
  have HR1 : Hid (W1.rangeAt w.heap.size 0 (plL p sv)) := g1.range
  have HSL : Hid ((Tryd.prog.info? 36).map (·.size) = some (plL p sv).length) := by unfold Hid; rw [plL_len hi.k.nl]; exact infoP
  have cc := checkF_any p sv W1 (ht.next b1) HI1.out
  clear ht hi b1 g1
  go_enter Tryd.func7, Tryd.ntmps7
  go_upto_region 1 with fail
  rw [← hW1]
  clear hW1
  go_wp2_with (refine wpList_load_mid rfl 36 _ rfl w.heap.size 0 rfl (plL p sv) _ HR1.out Tryd.underlying36 rfl HSL.out (Hid.out ?_))
  unfold Hid
  go_wp2_with fail
  refine cc.mono ?_
  rintro e w3 ⟨rfl, b3⟩
  have HB3 : Hid (Below w.heap.size w w3) := HB1.out.trans (b3.mono HB1.out.size)
  have HR3 : Hid (w3.rangeAt w.heap.size 0 (plL p sv)) := (HG1.out.kept b3).range
  have HI3 : Hid (FI w3 p sv) := HI1.out.kept b3
  clear cc b3 HR1 HI1 HG1
  by_cases hc : chkM p = 0
  · have cb := buildF_any p _ w3 HI3.out
    have tc : (chkM p != 0) = false := by rw [hc]; rfl
    have HO : Hid (ofP p = p) := by unfold Hid ofP; rw [if_pos hc]
    have HC : Hid (chkM p = 0) := hc
    clear hc
    go_wp2_with (refine wpList_load_mid rfl 36 _ rfl w.heap.size 0 rfl (plL p sv) _ HR3.out Tryd.underlying36 rfl HSL.out (Hid.out ?_))
    unfold Hid
    go_wp2_with fail
    refine cb.mono ?_
    rintro e w4 ⟨s4, rfl, r4, b4⟩
    have HB4 : Hid (Below w.heap.size w w4) := HB3.out.trans (b4.mono HB3.out.size)
    have HR4 : Hid (RSp w4 w.heap.size s4 (spO p)) := RSp.mono r4 HB3.out.size
    clear cb r4 b4 HR3
    go_wp2
    go_ret2
    exact ⟨s4, by rw [HO.out]; first | rfl | (rw [HC.out]; rfl), by rw [HO.out]; exact HR4.out, HB4.out⟩
  · have tc : (chkM p != 0) = true := by simpa using hc
    have HO : Hid (ofP p = Fm.zero) := by unfold Hid ofP; rw [if_neg hc]
    have HNIL : Hid (RSp w3 w.heap.size (.slice none 0 0) (spO Fm.zero)) := RI.nil _ _ _ _
    clear hc
    go_wp2
    go_ret2
    exact ⟨_, by rw [HO.out]; rfl, by rw [HO.out]; exact HNIL.out, HB3.out⟩
theorem as_ack (v : Value) (w : World) : (Instr.typeAssert (.iface 46 v) 32 73 true).run Tryd.prog w = .ok (.tuple #[.agg #[.int .i64 0, .slice none 0 0], .bool false]) w := by kernel_rfl
theorem as_close (v : Value) (w : World) : (Instr.typeAssert (.iface 46 v) 32 86 true).run Tryd.prog w = .ok (.tuple #[.agg #[.int .i64 0, .string ⟨#[]⟩], .bool false]) w := by kernel_rfl
set_option maxHeartbeats 2000000 in
theorem quiet_stream (v : Value) (w : World) : Calls Tryd.prog 23 #[.iface 46 v] w fun e w' => e = .returned (.bool false) ∧ Below w.heap.size w w' := by
  have h1 := as_ack v
  have h2 := as_close v
  have HB : Hid (Below w.heap.size w ((w.alloc (.cells #[.int .i64 0, .slice none 0 0] 73)).alloc (.cells #[.int .i64 0, .string ⟨#[]⟩] 86))) := (al_below _ _).alloc (al_below _ _).size _
  go_enter Tryd.func23, Tryd.ntmps23
  go_wp2
  go_ret
  exact ⟨rfl, HB.out⟩
set_option maxHeartbeats 2000000 in
theorem asks_stream (v : Value) (w : World) : Calls Tryd.prog 14 #[.iface 46 v] w fun e w' => e = .returned (.bool true) ∧ Below w.heap.size w w' := by
  have c := quiet_stream v w
  go_enter Tryd.func14, Tryd.ntmps14
  go_wp2_with fail
  refine c.mono ?_
  rintro e w1 ⟨rfl, b1⟩
  clear c
  go_wp2
  go_ret
  exact ⟨rfl, b1⟩
theorem neq_nilE (w : World) : (binOp BinOp.neq 20 Value.nilIface Value.nilIface).run Tryd.prog w = .ok (.bool false) w := by kernel_rfl
theorem as_str (v : Value) (w : World) : (Instr.typeAssert (.iface 46 v) 32 46 false).run Tryd.prog w = .ok v w := by kernel_rfl
set_option maxHeartbeats 1000000 in
theorem as_idle (q : Addr) (w : World) :
    CallsD Tryd.prog 45 #[.pointer (some q)] .returning w fun e u' w' => e = .returned (.tuple #[]) ∧ u' = .returning ∧ w' = w := by
  have hnn := neq_nilE
  refine callsD_of_wpS Tryd.func45 rfl fun c₀ cs hu => ?_
  apply wpS_seq
  apply wpS_region
  simp [wpOpsS, go_sem, recoverD, hu, Tryd.ntmps45, hnn, Exit.thenS]
  refine wpS_cond (t := false) (by simp [Act.eval, Array.replicate]) ?_
  simp only [Bool.false_eq_true, if_false]
  refine wpS_of_wp (wp_skip ?_)
  cases c₀
  simp_all [bodyPostS, results, Tryd.results45]
set_option maxHeartbeats 2000000 in
theorem asStream_yes (id n : Int) (fin : Bool) (tx : ByteArray) (w : World) :
    Calls Tryd.prog 22 #[.iface 46 (.agg #[.int .i64 id, .int .i64 n, .bool fin, .string tx])] w fun e w' => e = .returned (.tuple #[.agg #[.int .i64 id, .int .i64 n, .bool fin, .string tx], .int .i64 0]) ∧ Below w.heap.size w w' := by
  have h1 := as_str (.agg #[.int .i64 id, .int .i64 n, .bool fin, .string tx])
  go_enter_defers Tryd.func22, Tryd.ntmps22
  go_wp2
  have HB : Hid (Below w.heap.size w ((w.alloc (.cells #[.int .i64 id, .int .i64 n, .bool fin, .string tx] 46)).alloc (.cells #[.int .i64 0] 33))) := (al_below _ _).alloc (al_below _ _).size _
  have g1 : ((w.alloc (.cells #[.int .i64 id, .int .i64 n, .bool fin, .string tx] 46)).alloc (.cells #[.int .i64 0] 33)).heap[w.heap.size]? = some (.cells #[.int .i64 id, .int .i64 n, .bool fin, .string tx] 46 (0, 0)) := blk_kept (heap_alloc_new w _) (al_below _ _) (blk_lt (heap_alloc_new w _))
  have g2 : ((w.alloc (.cells #[.int .i64 id, .int .i64 n, .bool fin, .string tx] 46)).alloc (.cells #[.int .i64 0] 33)).heap[w.heap.size + 1]? = some (.cells #[.int .i64 0] 33 (0, 0)) := by
    have := heap_alloc_new (w.alloc (.cells #[.int .i64 id, .int .i64 n, .bool fin, .string tx] 46)) (.cells #[.int .i64 0] 33)
    simpa using this
  refine leaves_cons (f := 45) (args := #[.pointer (some ⟨w.heap.size + 1, 0, none⟩)]) (by simp) (by simp [go_sem]) ?_
  refine (as_idle _ _).mono ?_
  rintro e u' w2 ⟨rfl, rfl, rfl⟩
  obtain ⟨WZ, hWZ⟩ : ∃ WZ, WZ = ((w.alloc (.cells #[.int .i64 id, .int .i64 n, .bool fin, .string tx] 46)).alloc (.cells #[.int .i64 0] 33)) := ⟨_, rfl⟩
  rw [← hWZ] at g1 g2 HB ⊢
  have k0 : WZ.cell? ⟨w.heap.size, 0, none⟩ = some (.int .i64 id) := by simp [World.cell?, g1]
  have k1 : WZ.cell? ⟨w.heap.size, 1, none⟩ = some (.int .i64 n) := by simp [World.cell?, g1]
  have k2 : WZ.cell? ⟨w.heap.size, 2, none⟩ = some (.bool fin) := by simp [World.cell?, g1]
  have k3 : WZ.cell? ⟨w.heap.size, 3, none⟩ = some (.string tx) := by simp [World.cell?, g1]
  have q0 : WZ.cell? ⟨w.heap.size + 1, 0, none⟩ = some (.int .i64 0) := by simp [World.cell?, g2]
  refine ⟨_, ?_, rfl, HB.out⟩
  simp [results, Tryd.results22, go_sem, k0, k1, k2, k3, q0]
end Go.Proofs.YthhghehnaopmhaaDoor
namespace Go.Proofs.YthhghehnaopmhaaDoor
open Go.RowKit Go.Shelf
set_option maxRecDepth 100000

theorem frV_stream (id n : Int) (fin : Bool) (tx : ByteArray) (sv : Value) : frV ⟨3, id, n, 0, fin, tx, zn, []⟩ sv = .iface 46 (.agg #[.int .i64 id, .int .i64 n, .bool fin, .string tx]) := rfl
set_option maxHeartbeats 2000000 in
theorem streamOf_yes (id n : Int) (fin : Bool) (tx : ByteArray) (w : World) :
    Calls Tryd.prog 13 #[.iface 46 (.agg #[.int .i64 id, .int .i64 n, .bool fin, .string tx])] w fun e w' => e = .returned (.tuple #[.agg #[.int .i64 id, .int .i64 n, .bool fin, .string tx], .int .i64 0]) ∧ Below w.heap.size w w' := by
  obtain ⟨W1, hW1⟩ : ∃ W1, W1 = w.alloc (.cells #[.int .i64 0, .int .i64 0, .bool false, .string ⟨#[]⟩] 46) := ⟨_, rfl⟩
  have b1 : Below w.heap.size w W1 := by rw [hW1]; exact al_below _ _
  have g1 : W1.heap[w.heap.size]? = some (.cells #[.int .i64 0, .int .i64 0, .bool false, .string ⟨#[]⟩] 46 (0, 0)) := by rw [hW1]; exact heap_alloc_new _ _
  have c := asStream_yes id n fin tx W1
  go_enter Tryd.func13, Tryd.ntmps13
  go_upto_region 1 with fail
  rw [← hW1]
  clear hW1
  go_wp2_with fail
  refine c.mono ?_
  rintro e w2 ⟨rfl, b2⟩
  have g2 := blk_kept g1 b2 (blk_lt g1)
  have HB2 : Hid (Below w.heap.size w w2) := b1.trans (b2.mono b1.size)
  clear c b1 b2 g1
  have HG2 : Hid (w2.heap[w.heap.size]? = some (.cells #[.int .i64 0, .int .i64 0, .bool false, .string ⟨#[]⟩] 46 (0, 0))) := g2
  clear g2
  have hinf : Hid ((Tryd.prog.info? 46).map (·.size) = some 4) := by unfold Hid; kernel_rfl
  have HONE : Hid (#[Value.int .i64 id, .int .i64 n, .bool fin, .string tx].all (·.oneCell') = true) := all_oneCell_toArray (cs := [Value.int .i64 id, .int .i64 n, .bool fin, .string tx]) fun v hv => by
    simp only [List.mem_cons, List.not_mem_nil, or_false] at hv
    rcases hv with rfl | rfl | rfl | rfl <;> rfl
  go_wp2_with (refine wpList_store_row rfl 46 _ _ rfl w.heap.size #[.int .i64 id, .int .i64 n, .bool fin, .string tx] rfl rfl 46 _ HG2.out hinf.out rfl HONE.out (Hid.out ?_))
  unfold Hid
  go_wp2
  have hg3 := setRow_heap _ _ _ #[.int .i64 id, .int .i64 n, .bool fin, .string tx] _ _ HG2.out
  have HB3 : Hid (Below w.heap.size w (w2.setRow w.heap.size #[.int .i64 id, .int .i64 n, .bool fin, .string tx])) := below_setRow HB2.out (Nat.le_refl _) _
  generalize w2.setRow w.heap.size #[.int .i64 id, .int .i64 n, .bool fin, .string tx] = WZ at *
  have k0 : WZ.cell? ⟨w.heap.size, 0, none⟩ = some (.int .i64 id) := by simp [World.cell?, hg3]
  have k1 : WZ.cell? ⟨w.heap.size, 1, none⟩ = some (.int .i64 n) := by simp [World.cell?, hg3]
  have k2 : WZ.cell? ⟨w.heap.size, 2, none⟩ = some (.bool fin) := by simp [World.cell?, hg3]
  have k3 : WZ.cell? ⟨w.heap.size, 3, none⟩ = some (.string tx) := by simp [World.cell?, hg3]
  refine bodyPost_ret (v := .tuple #[.agg #[.int .i64 id, .int .i64 n, .bool fin, .string tx], .int .i64 0]) ?h rfl ?_
  case h => simp [results, Tryd.results13, go_sem, k0, k1, k2, k3]
  exact ⟨rfl, HB3.out⟩
def strP (id n : Int) (fin : Bool) (tx : ByteArray) : Fm := ⟨3, id, n, 0, fin, tx, zn, []⟩
def i64B (n : Int) : Prop := -9223372036854775808 ≤ n ∧ n ≤ 9223372036854775807
theorem strP_fk {id n : Int} {fin : Bool} {tx : ByteArray} (h1 : i64B id) (h2 : i64B n) : FK (strP id n fin tx) := ⟨show (0 : Int) ≤ 3 by decide, show (3 : Int) < 256 by decide, h1.1, h1.2, h2.1, h2.2, show (-9223372036854775808 : Int) ≤ 0 by decide, show (0 : Int) ≤ 9223372036854775807 by decide, rfl, zn_bb⟩
theorem strP_nb (id n : Int) (fin : Bool) (tx : ByteArray) : ¬ badF (strP id n fin tx) := by
  unfold badF strP
  simp only
  have e1 : hI 3 = true := by decide
  have e2 : hN 3 = true := by decide
  have e3 : hF 3 = true := by decide
  have e6 : hT 3 = true := by decide
  rw [e1, e2, e3, e6]
  simp
theorem strP_fp {id n : Int} {fin : Bool} {tx : ByteArray} (w : World) (sv : Value) (h1 : i64B id) (h2 : i64B n) (ht : tx.size ≤ 140737488355328) : FP w (strP id n fin tx) sv :=
  ⟨strP_fk h1 h2, show isK 3 = true by decide, strP_nb id n fin tx, fun h => absurd (show hS 3 = true from h) (by decide), by simp [strP], ht⟩
theorem putS_any (id n : Int) (fin : Bool) (tx : ByteArray) (w : World) (ht : Tb w) (h1 : i64B id) (h2 : i64B n) (h3 : tx.size ≤ 140737488355328) :
    Calls Tryd.prog 8 #[.iface 46 (.agg #[.int .i64 id, .int .i64 n, .bool fin, .string tx])] w fun e w' => ∃ v, e = .returned (.tuple #[v, .int .i64 (chkM (strP id n fin tx))]) ∧ Ow w' w.heap.size v (putR (strP id n fin tx)) ∧ Below w.heap.size w w' :=
  putF_any (strP id n fin tx) (.slice none 0 0) w ht (strP_fp w _ h1 h2 h3) ⟨_, _, rfl⟩
set_option maxHeartbeats 2000000 in
theorem sizeS_any (id n : Int) (fin : Bool) (tx : ByteArray) (w : World) (ht : Tb w) (h1 : i64B id) (h2 : i64B n) (h3 : tx.size ≤ 140737488355328) :
    Calls Tryd.prog 11 #[.agg #[.int .i64 id, .int .i64 n, .bool fin, .string tx]] w fun e w' => e = .returned (.int .i64 ((putR (strP id n fin tx)).length : Nat)) ∧ Below w.heap.size w w' := by
  obtain ⟨W1, hW1⟩ : ∃ W1, W1 = w.alloc (.cells #[.int .i64 id, .int .i64 n, .bool fin, .string tx] 46) := ⟨_, rfl⟩
  have b1 : Below w.heap.size w W1 := by rw [hW1]; exact al_below _ _
  have g1 : W1.heap[w.heap.size]? = some (.cells #[.int .i64 id, .int .i64 n, .bool fin, .string tx] 46 (0, 0)) := by rw [hW1]; exact heap_alloc_new _ _
  have c := putS_any id n fin tx W1 (ht.next b1) h1 h2 h3
  have HB1 : Hid (Below w.heap.size w W1) := b1
  clear ht h1 h2 h3 b1
  have k0 : W1.cell? ⟨w.heap.size, 0, none⟩ = some (.int .i64 id) := by simp [World.cell?, g1]
  have k1 : W1.cell? ⟨w.heap.size, 1, none⟩ = some (.int .i64 n) := by simp [World.cell?, g1]
  have k2 : W1.cell? ⟨w.heap.size, 2, none⟩ = some (.bool fin) := by simp [World.cell?, g1]
  have k3 : W1.cell? ⟨w.heap.size, 3, none⟩ = some (.string tx) := by simp [World.cell?, g1]
  clear g1
  generalize putR (strP id n fin tx) = PR at *
  generalize chkM (strP id n fin tx) = CM at *
  go_enter Tryd.func11, Tryd.ntmps11
  go_upto_region 1 with fail
  rw [← hW1]
  clear hW1
  go_wp2_with fail
  refine c.mono ?_
  rintro e w2 ⟨v, rfl, o2, b2⟩
  obtain ⟨va, vc, rfl⟩ := o2.shape
  have HB2 : Hid (Below w.heap.size w w2) := HB1.out.trans (b2.mono HB1.out.size)
  clear c o2 b2
  go_wp2
  go_ret
  exact ⟨rfl, HB2.out⟩
/-- The frame of awake. -/
def pAB : Fm := strP 4 0 true ⟨#[97, 98]⟩
theorem pAB_ok : Ok pAB := by
  refine ⟨show isK 3 = true by decide, strP_nb _ _ _ _, ?_, fun h => absurd (show hS 3 = true from h) (by decide), ?_, fun _ => ?_⟩
  · unfold outF pAB strP; decide
  · unfold pAB strP; decide
  · unfold pAB strP; decide
theorem pAB_chk : chkM pAB = 0 := chkM_of pAB_ok
theorem pAB_put : putM pAB = [3, 4, 0, 1, 2, 97, 98] := by decide +kernel
theorem pAB_get : getM [3, 4, 0, 1, 2, 97, 98] = (pAB, 7, 0) := by
  have := getM_put pAB_ok rfl []
  rw [List.append_nil, pAB_put] at this
  exact this
theorem get_z : getM [0] = errM 9 := by
  unfold getM
  simp only
  rw [show [(0 : Int)].take 1150 = [0] from rfl, ahM_bad 0 [] (by decide)]
  rfl
theorem eqS_ab (w : World) : (binOp BinOp.eql 46 (.agg #[.int .i64 4, .int .i64 0, .bool true, .string ⟨#[97, 98]⟩]) (.agg #[.int .i64 4, .int .i64 0, .bool true, .string ⟨#[97, 98]⟩])).run Tryd.prog w = .ok (.bool true) w := by kernel_rfl
theorem guardSt : Tryd.prog.eqGuardType Tryd.prog.depth 46 = false := by kernel_rfl
theorem eg_st (x y : Operand) (U V : Array Value) (w : World) : (eqGuard BinOp.eql 46 x y (.agg U) (.agg V)).run Tryd.prog w = .ok () w := run_eqGuard_agg _ _ _ _ _ _ _ guardSt
set_option maxHeartbeats 8000000 in
theorem awake_any (w : World) (ht : Tb w) : Calls Tryd.prog 5 #[] w fun e w' => e = .returned (.bool true) ∧ Below w.heap.size w w' := by
  have hfi : FI w pAB (.slice none 0 0) := ⟨strP_fk ⟨by decide, by decide⟩ ⟨by decide, by decide⟩, SSp.nil w, by simp [pAB, strP], by decide⟩
  have c1 := ofF_any pAB (.slice none 0 0) w ht hfi
  have ho : ofP pAB = pAB := by unfold ofP; rw [if_pos pAB_chk]
  rw [ho, pAB_chk] at c1
  have HT : Hid (Tb w) := ht
  have hb : Tryd.prog.built 36 [(0, .int .u8 3), (1, .int .i64 4), (4, .bool true), (5, .string ⟨#[97, 98]⟩)] = some (plA pAB (.slice none 0 0)) := by kernel_rfl
  have heq := eqS_ab
  have hgd := eg_st
  clear ht hfi ho
  go_enter Tryd.func5, Tryd.ntmps5
  go_wp2_with fail
  refine c1.mono ?_
  rintro e w1 ⟨s1, rfl, r1, b1⟩
  have HB1 : Hid (Below w.heap.size w w1) := b1
  have c2 := putS_any 4 0 true ⟨#[97, 98]⟩ w1 (HT.out.next b1) ⟨by decide, by decide⟩ ⟨by decide, by decide⟩ (by decide)
  have e2 : putR (strP 4 0 true ⟨#[97, 98]⟩) = [3, 4, 0, 1, 2, 97, 98] := by unfold putR; rw [show chkM (strP 4 0 true ⟨#[97, 98]⟩) = 0 from pAB_chk, if_pos rfl]; exact pAB_put
  have e3 : chkM (strP 4 0 true ⟨#[97, 98]⟩) = 0 := pAB_chk
  rw [e2, e3] at c2
  have hfv : frV pAB s1 = .iface 46 (.agg #[.int .i64 4, .int .i64 0, .bool true, .string ⟨#[97, 98]⟩]) := rfl
  rw [hfv]
  clear c1 r1 b1 e2 e3 hfv
  go_wp2_with fail
  refine c2.mono ?_
  rintro e w2 ⟨v2, rfl, o2, b2⟩
  have HB2 : Hid (Below w.heap.size w w2) := HB1.out.trans (b2.mono HB1.out.size)
  have HS2 : Hid (Sl w2 v2 [3, 4, 0, 1, 2, 97, 98]) := o2.sl
  obtain ⟨va, vc, rfl⟩ := o2.shape
  have c3 := getF_any _ _ w2 (HT.out.next HB2.out) HS2.out (by simp)
  rw [pAB_get] at c3
  clear c2 o2 b2
  simp only [List.length_cons, List.length_nil, Nat.reduceAdd] at c3 HS2 ⊢
  go_wp2_with fail
  refine c3.mono ?_
  rintro e w3 ⟨s3, rfl, r3, b3⟩
  have HB3 : Hid (Below w.heap.size w w3) := HB2.out.trans (b3.mono HB2.out.size)
  have HS3 : Hid (Sl w3 (.slice va 7 vc) [3, 4, 0, 1, 2, 97, 98]) := HS2.out.kept b3
  have hfv : frV pAB s3 = .iface 46 (.agg #[.int .i64 4, .int .i64 0, .bool true, .string ⟨#[97, 98]⟩]) := rfl
  rw [hfv]
  have c4 := streamOf_yes 4 0 true ⟨#[97, 98]⟩ w3
  clear c3 r3 b3 hfv
  go_wp2_with fail
  refine c4.mono ?_
  rintro e w4 ⟨rfl, b4⟩
  have HB4 : Hid (Below w.heap.size w w4) := HB3.out.trans (b4.mono HB3.out.size)
  have HS4 : Hid (Sl w4 (.slice va 7 vc) [3, 4, 0, 1, 2, 97, 98]) := HS3.out.kept b4
  clear c4 b4
  obtain ⟨w5, hw5⟩ : ∃ w5, w5 = w4.alloc (.cells #[.int .i64 4, .int .i64 0, .bool true, .string ⟨#[97, 98]⟩] 46) := ⟨_, rfl⟩
  have b5 : Below w4.heap.size w4 w5 := by rw [hw5]; exact al_below _ _
  have g5 : w5.heap[w4.heap.size]? = some (.cells #[.int .i64 4, .int .i64 0, .bool true, .string ⟨#[97, 98]⟩] 46 (0, 0)) := by rw [hw5]; exact heap_alloc_new _ _
  obtain ⟨w6, hw6⟩ : ∃ w6, w6 = w5.alloc (.cells #[.int .u8 0] 5) := ⟨_, rfl⟩
  have b6 : Below w5.heap.size w5 w6 := by rw [hw6]; exact al_below _ _
  have b56 : Below w4.heap.size w4 w6 := b5.trans (b6.mono b5.size)
  have HB6 : Hid (Below w.heap.size w w6) := HB4.out.trans (b56.mono HB4.out.size)
  have p6 : Pt w6 (.slice (some ⟨w5.heap.size, 0, none⟩) 1 1) [0] := by rw [hw6]; exact Pt.byte w5 0 (by omega)
  have c5 := getF_any _ _ w6 (HT.out.next HB6.out) p6.1 (by simp)
  rw [get_z] at c5
  have HS6 : Hid (Sl w6 (.slice va 7 vc) [3, 4, 0, 1, 2, 97, 98]) := HS4.out.kept b56
  have Gw6 : Hid (w6.heap[w4.heap.size]? = some (.cells #[.int .i64 4, .int .i64 0, .bool true, .string ⟨#[97, 98]⟩] 46 (0, 0))) := blk_kept g5 b6 (blk_lt g5)
  have z5 : w5.heap.size = w4.heap.size + 1 := by rw [hw5]; simp
  clear b5 b6 b56 g5 p6
  rw [z5] at c5
  try simp only [List.length_cons, List.length_nil, Nat.reduceAdd] at c5
  go_wp2_with fail
  rw [← hw5, ← hw6]
  clear hw6 hw5
  try rw [z5]
  clear z5
  refine c5.mono ?_
  rintro e w7 ⟨s7, rfl, r7, b7⟩
  have HB7 : Hid (Below w.heap.size w w7) := HB6.out.trans (b7.mono HB6.out.size)
  have HS7 : Hid (Sl w7 (.slice va 7 vc) [3, 4, 0, 1, 2, 97, 98]) := HS6.out.kept b7
  have Gw7 : Hid (w7.heap[w4.heap.size]? = some (.cells #[.int .i64 4, .int .i64 0, .bool true, .string ⟨#[97, 98]⟩] 46 (0, 0))) := blk_kept Gw6.out b7 (blk_lt Gw6.out)
  clear c5 r7 b7
  have c6 := putF_nil w7
  go_wp2_with fail
  refine c6.mono ?_
  rintro e wq ⟨rfl, eq⟩
  rw [eq]
  clear c6 eq wq
  have hcv := HS7.out.conv
  rw [show strB [3, 4, 0, 1, 2, 97, 98] = ⟨#[3, 4, 0, 1, 2, 97, 98]⟩ from rfl] at hcv
  have k0 : w7.cell? ⟨w4.heap.size, 0, none⟩ = some (.int .i64 4) := by have := Gw7.out; simp [World.cell?, this]
  have k1 : w7.cell? ⟨w4.heap.size, 1, none⟩ = some (.int .i64 0) := by have := Gw7.out; simp [World.cell?, this]
  have k2 : w7.cell? ⟨w4.heap.size, 2, none⟩ = some (.bool true) := by have := Gw7.out; simp [World.cell?, this]
  have k3 : w7.cell? ⟨w4.heap.size, 3, none⟩ = some (.string ⟨#[97, 98]⟩) := by have := Gw7.out; simp [World.cell?, this]
  have c8 := asks_stream (.agg #[.int .i64 4, .int .i64 0, .bool true, .string ⟨#[97, 98]⟩]) w7
  go_wp2_with fail
  refine c8.mono ?_
  rintro e w8 ⟨rfl, b8⟩
  have HB8 : Hid (Below w.heap.size w w8) := HB7.out.trans (b8.mono HB7.out.size)
  have Gw8 : Hid (w8.heap[w4.heap.size]? = some (.cells #[.int .i64 4, .int .i64 0, .bool true, .string ⟨#[97, 98]⟩] 46 (0, 0))) := blk_kept Gw7.out b8 (blk_lt Gw7.out)
  have c9 := sizeS_any 4 0 true ⟨#[97, 98]⟩ w8 (HT.out.next HB8.out) ⟨by decide, by decide⟩ ⟨by decide, by decide⟩ (by decide)
  have e2 : putR (strP 4 0 true ⟨#[97, 98]⟩) = [3, 4, 0, 1, 2, 97, 98] := by unfold putR; rw [show chkM (strP 4 0 true ⟨#[97, 98]⟩) = 0 from pAB_chk, if_pos rfl]; exact pAB_put
  rw [e2] at c9
  simp only [List.length_cons, List.length_nil, Nat.reduceAdd] at c9
  clear c8 b8 k0 k1 k2 k3 hcv e2
  have k0 : w8.cell? ⟨w4.heap.size, 0, none⟩ = some (.int .i64 4) := by have := Gw8.out; simp [World.cell?, this]
  have k1 : w8.cell? ⟨w4.heap.size, 1, none⟩ = some (.int .i64 0) := by have := Gw8.out; simp [World.cell?, this]
  have k2 : w8.cell? ⟨w4.heap.size, 2, none⟩ = some (.bool true) := by have := Gw8.out; simp [World.cell?, this]
  have k3 : w8.cell? ⟨w4.heap.size, 3, none⟩ = some (.string ⟨#[97, 98]⟩) := by have := Gw8.out; simp [World.cell?, this]
  go_wp2_with fail
  refine c9.mono ?_
  rintro e w9 ⟨rfl, b9⟩
  have HB9 : Hid (Below w.heap.size w w9) := HB8.out.trans (b9.mono HB8.out.size)
  clear c9 b9 k0 k1 k2 k3
  go_wp2
  go_ret
  exact ⟨rfl, HB9.out⟩
end Go.Proofs.YthhghehnaopmhaaDoor
namespace Go.Proofs.YthhghehnaopmhaaDoor
open Go.ChangeShapes Go.WideShapes Go.ChangeAt Go.RowKit Go.Deep
set_option maxRecDepth 100000

theorem own : ownKnob Tryd.prog.godebug = none := by kernel_rfl
theorem laidOut : laidOutB Tryd.prog = true := by kernel_rfl
theorem cells3 : Tryd.prog.cellsOf 3 = 1 := by kernel_rfl
theorem cells5 : Tryd.prog.cellsOf 5 = 1 := by kernel_rfl
theorem cells9 : Tryd.prog.cellsOf 9 = 1 := by kernel_rfl
theorem gT2 : Tryd.prog.globalNamed "sumpter/varint.widths" = some 1 := by kernel_rfl
theorem tT2 : (Tryd.prog.globals[1]?).map (·.type) = some 140 := by kernel_rfl
theorem cellsT2 : Tryd.prog.cellsOf 140 = 4 := by kernel_rfl
theorem gS : Tryd.prog.globalNamed "sumpter/frame.shapes" = some 0 := by kernel_rfl
theorem tS : (Tryd.prog.globals[0]?).map (·.type) = some 64 := by kernel_rfl
theorem cellsS : Tryd.prog.cellsOf 64 = 22 := by kernel_rfl
theorem cellsH : Tryd.prog.cellsOf 63 = 2 := by kernel_rfl
def widT : Array Value := #[.int .i64 1, .int .i64 2, .int .i64 4, .int .i64 8]
def shpT : Array Value := #[.int .i64 0, .int .i64 0, .int .i64 0, .int .i64 0, .int .i64 66, .int .i64 0, .int .i64 39, .int .i64 1100, .int .i64 11, .int .i64 0, .int .i64 9, .int .i64 0, .int .i64 2, .int .i64 0, .int .i64 3, .int .i64 0, .int .i64 2, .int .i64 0, .int .i64 48, .int .i64 256, .int .i64 40, .int .i64 64]
/-- Both tables out of what is laid. -/
theorem mapM_each {α β : Type} {f : α → Option β} : ∀ (L : List α) (ys : List β), L.mapM f = some ys → ∀ i ∈ L, ∃ y, f i = some y
  | [], _, _, i, hi => by simp at hi
  | x :: l, r, h, i, hi => by
    simp only [List.mapM_cons, Option.bind_eq_bind, Option.bind_eq_some_iff, Option.pure_def, Option.some.injEq] at h
    obtain ⟨b, hb, r', hr', rfl⟩ := h
    rcases List.mem_cons.1 hi with rfl | hi
    · exact ⟨b, hb⟩
    · exact mapM_each l r' hr' i hi
/-- An array of pairs that reads as such a table. -/
theorem cells_of_pairs {H : Type} {enc : TypeId × Value → H} {w : World} {base : Nat} {sp : Nat → Bool} {held : Bool} {fuel : Nat} {cs : List Value} {zs : List (Int × Int)} {p : List MemPlace}
    (h : DataW.trod enc Tryd.prog w base sp held fuel 64 cs = some (.agg (zs.map fun z => .agg [.lit (.int .i64 z.1), .lit (.int .i64 z.2)]), p)) : ∀ i, i < 11 → ∃ z, zs[i]? = some z ∧ cs[i * 2]? = some (.int .i64 z.1) ∧ cs[i * 2 + 1]? = some (.int .i64 z.2) := by
  cases fuel with
  | zero => simp [DataW.trod] at h
  | succ fuel =>
    simp only [DataW.trod, Tryd.underlying64, cellsH, cellsS] at h
    split at h
    · rename_i hl
      obtain ⟨xs, hm, hx⟩ := Option.map_eq_some_iff.1 h
      have hxs : xs.map (·.1) = zs.map fun z => (DataW.agg [.lit (.int .i64 z.1), .lit (.int .i64 z.2)] : DataW H) := by
        have := congrArg Prod.fst hx
        simpa using this
      intro i hi
      obtain ⟨b, hb, hf⟩ := Lib.mapM_at hm i i (by simp [hi])
      obtain ⟨y0, y1, n, rfl, hl2, h0, h1⟩ := trod_struct2 Tryd.underlying63 hf
      obtain ⟨a0, e0, rfl, _⟩ := DataW.trod_int Tryd.underlying3 h0
      obtain ⟨a1, e1, rfl, _⟩ := DataW.trod_int Tryd.underlying3 h1
      have h2 : (xs.map (·.1))[i]? = some (DataW.agg [.lit (.int .i64 a0), .lit (.int .i64 a1)] : DataW H) := by simp [hb]
      rw [hxs] at h2
      simp only [List.getElem?_map, Option.map_eq_some_iff] at h2
      obtain ⟨z, hz, hzz⟩ := h2
      simp only [DataW.agg.injEq, List.cons.injEq, DataW.lit.injEq, Lit.int.injEq, true_and, and_true] at hzz
      refine ⟨z, hz, ?_, ?_⟩
      · have := congrArg (·[0]?) e0
        simp only [List.getElem?_take, List.getElem?_drop, cells3] at this
        rw [hzz.1]
        simpa using this
      · have := congrArg (·[0]?) e1
        simp only [List.getElem?_take, List.getElem?_drop, cells3] at this
        rw [hzz.2]
        simpa using this
    · cases h
theorem shp_of {W : World} {rest : List (String × DataW Unit)} (h : laidMet Tryd.prog (("sumpter/frame.shapes", Rows.laid_sumpter_frame_shapes) :: rest) W) : Shp W := by
  obtain ⟨ps, ⟨g', t', cs, fuel, p, q, hg', ht', hvar, hd, _, _⟩, _⟩ := h
  obtain rfl := Option.some.inj (gS.symm.trans hg')
  obtain rfl := Option.some.inj (tS.symm.trans ht')
  have key := cells_of_pairs (zs := [(0, 0), (0, 0), (66, 0), (39, 1100), (11, 0), (9, 0), (2, 0), (3, 0), (2, 0), (48, 256), (40, 64)]) hd
  have cell := World.var?_cell gS hvar
  intro k hk
  obtain ⟨z, hz, z0, z1⟩ := key k (by omega)
  rw [cell (k * 2), cell (k * 2 + 1), List.getElem?_toArray, List.getElem?_toArray, z0, z1]
  have e : z = (pkN k, mT k) := by
    rcases (by omega : k = 0 ∨ k = 1 ∨ k = 2 ∨ k = 3 ∨ k = 4 ∨ k = 5 ∨ k = 6 ∨ k = 7 ∨ k = 8 ∨ k = 9 ∨ k = 10) with rfl | rfl | rfl | rfl | rfl | rfl | rfl | rfl | rfl | rfl | rfl <;> (cases hz; rfl)
  rw [e]
  exact ⟨rfl, rfl⟩
theorem tb_of {W : World} (h : laidMetH Tryd.prog Rows.frameSizesRow.laid W) : Tb W := by
  have h' : laidMet Tryd.prog Rows.frameSizesRow.laid W := h
  have t2 : Lib.TabIs Tryd.prog W "sumpter/varint.widths" .i64 [1, 2, 4, 8] := Lib.tabIs_of_head gT2 tT2 Tryd.underlying140 Tryd.underlying3 cells3 cellsT2 h'
  exact ⟨shp_of (laidMet.tail h'), ⟨t2.cell gT2 0 (by decide), t2.cell gT2 1 (by decide), t2.cell gT2 2 (by decide), t2.cell gT2 3 (by decide)⟩⟩
theorem cellsW : Tryd.prog.cellsOf 44 = 2 := by kernel_rfl
/-- Two numbers, by value. -/
theorem two_in {H : Type} {enc : TypeId × Value → H} {W : World} {base : Nat} {v : Value} {d : DataW H} {p : List MemPlace}
    (hval : Value.okWide Tryd.prog W .any base 44 v) (h : DataW.Trod enc Tryd.prog W 0 (fun _ => true) true 44 v d p) : ∃ l : Int × Int, v = .agg #[.int .i64 l.1, .int .i64 l.2] ∧ (Lit.int .i64 l.1).wf = true ∧ (Lit.int .i64 l.2).wf = true := by
  simp only [Value.okWide, Tryd.underlying44] at hval
  obtain ⟨cs, rfl, hsz, _⟩ := hval
  rw [cellsW] at hsz
  obtain ⟨fuel, hf⟩ := h
  cases fuel with
  | zero => simp [DataW.trod] at hf
  | succ m =>
    rw [DataW.trod_step] at hf
    unfold DataW.trodStep at hf
    simp only [Tryd.underlying44, Value.cells] at hf
    rw [if_pos (by rw [cellsW]; simpa using hsz)] at hf
    simp only [Option.map_eq_some_iff] at hf
    obtain ⟨ys, hy, _⟩ := hf
    have cell : ∀ i, i < 2 → ∃ a : Int, cs[i]? = some (.int .i64 a) ∧ (Lit.int .i64 a).wf = true := fun i hi => by
      obtain ⟨y, hyi⟩ := mapM_each _ _ hy i (by simpa using hi)
      obtain ⟨a, ea, _, wa⟩ := DataW.trod_int Tryd.underlying3 hyi
      refine ⟨a, ?_, wa⟩
      rw [cells3, Nat.mul_one] at ea
      have h0 := congrArg (·[0]?) ea
      simpa [List.getElem?_take, List.getElem?_drop] using h0
    obtain ⟨a, ha, wa⟩ := cell 0 (by omega)
    obtain ⟨b, hb, wb⟩ := cell 1 (by omega)
    refine ⟨(a, b), ?_, wa, wb⟩
    congr 1
    apply Array.ext_getElem?
    intro i
    rcases (by omega : i = 0 ∨ i = 1 ∨ 2 ≤ i) with rfl | rfl | h2
    · rw [ha]; rfl
    · rw [hb]; rfl
    · rw [Array.getElem?_eq_none (by omega), Array.getElem?_eq_none (by simp; omega)]
end Go.Proofs.YthhghehnaopmhaaDoor
