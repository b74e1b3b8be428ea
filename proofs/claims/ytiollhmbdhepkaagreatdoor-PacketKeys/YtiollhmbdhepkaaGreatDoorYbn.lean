/-
  What mac.Tag, mac.bodyTag and mac.Seal answer; nothing that was there is changed.
  What Seal answers.
  What the statements of layer 18 share: the listed tables give the walks what they read; what came in.
-/
import Derived.Test.YtiollhmbdhepkaaGreatDoorYbl
import Derived.Test.YtiollhmbdhepkaaGreatDoorYbm
import Derived.Test.YtiollhmbdhepkaaGreatDoorYay
import Derived.Deep.Matrix
import Derived.Test.YtiollhmbdhepkaaGreatDoorTie
import Derived.Test.YtiollhmbdhepkaaGreatDoorCards
import Derived.Carry
import Derived.ChangeMaps5
import Derived.ChangeOld
import Derived.ChangeSame
import Derived.Deep.DeepHandedRow
import Derived.Deep.SlicePairs
import Derived.Deep.Slices
import Derived.Deep.Strs
import Derived.LaidLaws
import Derived.Lib.LaidTab
import Derived.Lib.SmallJoins
import Derived.OpenShut
import Derived.ProofKit
import Derived.Shelf.Vars
import Derived.SizedLaws
import Derived.Stop.LaidErr
import Derived.Test.YtiollhmbdhepkaaGreatDoorYar
namespace Go.Proofs.YtiollhmbdhepkaaGreatDoor.Mc
open Go.Proofs.YtiollhmbdhepkaaGreatDoor.Sh Go.Proofs.YtiollhmbdhepkaaGreatDoor.Fi
set_option maxRecDepth 100000
open Go.RowKit

/-- The three tables, as the walks read them. -/
def Tabs (w : World) : Prop := Tab w ∧ Wid w
theorem Tabs.size {w : World} (h : Tabs w) : 4 ≤ w.heap.size := h.1.size
theorem Tabs.below {w w' : World} {B : Nat} (h : Tabs w) (hb : Below B w w') (hB : 4 ≤ B) : Tabs w' := ⟨h.1.below hb (by omega), h.2.below hb (by omega)⟩
theorem Tabs.kept {w w' : World} (h : Tabs w) (hb : Below w.heap.size w w') : Tabs w' := h.below hb h.size

/-- A text's bytes, its length ahead. -/
def textL (xs : List Int) : List Int := numB xs.length ++ xs
theorem sb_strB {xs : List Int} (h : Pl.Byt xs) : sb (strB xs) = xs := by
  refine eq_of_getD _ _ (by rw [sb_len]; simp [strB, ByteArray.size]) (fun i hi => ?_)
  rw [sb_len] at hi
  have hi' : i < xs.length := by simpa [strB, ByteArray.size] using hi
  have hb := h i
  have e : xs.getD i 0 = xs[i] := by simp [List.getD, List.getElem?_eq_getElem hi']
  rw [e] at hb ⊢
  simp only [sb, strB, List.getD, List.getElem?_map, List.getElem?_eq_getElem hi', Option.map_some, Option.getD_some, UInt8.toNat_ofNat']
  omega
theorem strB_size (xs : List Int) : (strB xs).size = xs.length := by simp [strB, ByteArray.size]
theorem textB_strB {xs : List Int} (h : Pl.Byt xs) : textB (strB xs) = textL xs := by unfold textB textL; rw [sb_strB h, strB_size]
theorem numB_byt (n : Int) : Pl.Byt (numB n) := by
  by_cases h0 : lenOf n = 0
  · have : numB n = [] := by unfold numB; rw [if_pos h0]
    rw [this]; intro i; simp
  · obtain ⟨W, hW, hW0, hI, h1, h2, hn⟩ := pos_lim _ h0
    rw [hn]; exact pb_bytes _ W hI h1 h2
theorem byt_app {a b : List Int} (ha : Pl.Byt a) (hb : Pl.Byt b) : Pl.Byt (a ++ b) := by
  intro i
  rcases Nat.lt_or_ge i a.length with h | h
  · rw [getD_append_left _ _ _ h]; exact ha i
  · rw [getD_append_right _ _ _ h]; exact hb _
theorem textL_byt {xs : List Int} (h : Pl.Byt xs) : Pl.Byt (textL xs) := byt_app (numB_byt _) h
theorem numB_le (n : Int) : (numB n).length ≤ 8 := by
  unfold numB
  split
  · simp
  · next h =>
    obtain ⟨W, hW, hW0, hI, h1, h2, hn⟩ := pos_lim _ h
    rw [hW]
    show (pb _ W).length ≤ 8
    rw [pb_len _ W hI]
    rcases hI with rfl | rfl | rfl | rfl <;> omega
theorem textL_le (xs : List Int) : (textL xs).length ≤ xs.length + 8 := by
  unfold textL
  rw [List.length_append]
  have := numB_le (xs.length : Int)
  omega

/-- The tag of bytes. -/
def tagB (K xs : List Int) : List Int := (hmac K xs).take 16
theorem tagB_len (K xs : List Int) : (tagB K xs).length = 16 := by unfold tagB; rw [List.length_take, hmac_len]; omega
theorem tagB_byt (K xs : List Int) : Pl.Byt (tagB K xs) := bytes_take _ _ (hmac_byt K xs)
/-- The tag of a head and a body. -/
def btag (K H X : List Int) : List Int := tagB K (textL H ++ X)

set_option maxHeartbeats 2000000 in
set_option maxRecDepth 100000 in
theorem tag_any (KB : List Int) (p : Option Addr) (kc : Nat) (ZZ : List (List Int)) (w : World) (hK : KB.length = 32) (hKb : Pl.Byt KB) (ht : Tab w) (hP : Parts w p ZZ) (hc : p = none → kc = 0) (hl : ZZ.length ≤ 1000000) (hbig : ZZ.flatten.length ≤ 10000000000000000) :
    Calls Tryz.prog 110 #[.agg (u8s KB), .slice p ZZ.length kc] w fun e w' => ∃ v, e = .returned v ∧ w'.ownsRow w.heap.size 5 1 v 16 ((tagB KB ZZ.flatten).map (Value.int .u8)) ∧ Below w.heap.size w w' := by
  obtain ⟨wa, hwa⟩ : ∃ wa, wa = w.alloc (.cells (u8s KB) 47) := ⟨_, rfl⟩
  have ba : Below w.heap.size w wa := by rw [hwa]; exact al_below _ _
  have hwz : w.alloc (.cells (u8s KB) 47) = wa := hwa.symm
  have sk : Sl wa (.slice (some ⟨w.heap.size, 0, none⟩) 32 32) KB := by rw [hwa]; exact sl_sum (heap_alloc_new _ _) hKb hK
  have c9 := mof_any _ KB p kc ZZ wa (ht.below ba ht.size) sk (hP.kept ba) hc hl (by rw [hK]; omega) hbig
  have HBA : Hid (Below w.heap.size w wa) := ba
  have HI : Hid ((Tryz.prog.info? 47).map (·.size) = some (u8s (hmac KB ZZ.flatten)).size) := by unfold Hid; rw [u8s_size, hmac_len]; exact size26
  have HO : Hid ((u8s (List.replicate 32 0)).size = (u8s (hmac KB ZZ.flatten)).size) := by unfold Hid; rw [u8s_size, u8s_size, hmac_len]; simp
  have HT : Hid (tagB KB ZZ.flatten = (hmac KB ZZ.flatten).take 16) := rfl
  have HTL : Hid ((tagB KB ZZ.flatten).length = 16) := tagB_len _ _
  have HL : Hid ((hmac KB ZZ.flatten).length = 32) := hmac_len _ _
  have HB : Hid (Pl.Byt (hmac KB ZZ.flatten)) := hmac_byt _ _
  generalize hmac KB ZZ.flatten = M at *
  generalize tagB KB ZZ.flatten = T at *
  generalize ZZ.length = k at *
  clear hwa ba sk ht hP hc hl hbig hK
  go_enter Tryz.func110, Tryz.ntmps110
  go_wp2_with fail
  refine c9.mono ?_
  rintro e w1 ⟨rfl, b1⟩
  clear c9
  go_wp2_with (refine wpList_store_row rfl 47 _ _ rfl w1.heap.size (u8s M) rfl rfl 47 _ (heap_alloc_new _ _) HI.out HO.out (u8s_one _) ?_; rw [World.setRow_alloc_new]; obtain ⟨w3, hw3⟩ : ∃ w3, w3 = w1.alloc (.cells (u8s M) 47) := ⟨_, rfl⟩; rw [← hw3]; have HW3 : Hid (w3 = w1.alloc (.cells (u8s M) 47)) := hw3; clear hw3)
  have B1 : Below w.heap.size w w1 := HBA.out.trans (b1.mono HBA.out.size)
  have B3 : Hid (Below w.heap.size w w3) := by unfold Hid; rw [HW3.out]; exact B1.alloc B1.size _
  have s3 : Sl w3 (.slice (some ⟨w1.heap.size, 0, none⟩) 16 32) T := by
    have h : Sl w3 (.slice (some ⟨w1.heap.size, 0, none⟩) 32 32) M := by rw [HW3.out]; exact sl_sum (heap_alloc_new _ _) HB.out HL.out
    rw [HT.out]
    exact h.take 16 (by omega)
  have cc := clone_any _ T w3 s3 (by rw [HTL.out]; omega)
  rw [HTL.out] at cc
  clear B1 b1 s3
  go_wp2_with fail
  refine cc.mono ?_
  rintro e w4 ⟨v4, rfl, own4, b4⟩
  have O4 : Hid (w4.ownsRow w.heap.size 5 1 v4 16 (T.map (Value.int .u8))) := own_mono own4 B3.out.size
  have B4 : Hid (Below w.heap.size w w4) := B3.out.trans (b4.mono B3.out.size)
  clear cc own4 b4
  go_wp2
  go_ret
  exact ⟨_, rfl, O4.out, B4.out⟩

theorem range_sum {w : World} {g : Nat} {KB : List Int} {t : TypeId} {fr : Nat × Nat} (h : w.heap[g]? = some (.cells (u8s KB) t fr)) : w.rangeAt g 0 (KB.map (Value.int .u8)) := by
  intro j v hv
  rw [Nat.zero_add, cell_of_row _ _ _ _ _ _ h]
  exact (by simpa [u8s] using hv)

theorem tag2_any (KB X Y : List Int) (p : Option Addr) (w : World) (hK : KB.length = 32) (hKb : Pl.Byt KB) (ht : Tab w) (hP : Parts w p [X, Y]) (hp : p ≠ none) (hbig : X.length + Y.length ≤ 10000000000000000) :
    Calls Tryz.prog 110 #[.agg (u8s KB), .slice p 2 2] w fun e w' => ∃ v, e = .returned v ∧ w'.ownsRow w.heap.size 5 1 v 16 ((tagB KB (X ++ Y)).map (Value.int .u8)) ∧ Below w.heap.size w w' := by
  have hf : [X, Y].flatten = X ++ Y := by simp
  have := tag_any KB p 2 [X, Y] w hK hKb ht hP (fun h => absurd h hp) (by simp) (by rw [hf, List.length_append]; exact hbig)
  rwa [hf] at this

set_option maxHeartbeats 4000000 in
set_option maxRecDepth 100000 in
theorem btag_any (KB : List Int) (h v : Value) (H X : List Int) (w : World) (hK : KB.length = 32) (hKb : Pl.Byt KB) (ht : Tabs w) (sh : Sl w h H) (sv : Sl w v X) (hH : H.length ≤ 140737488351232) (hX : X.length ≤ 140737488351232) :
    Calls Tryz.prog 84 #[.agg (u8s KB), h, v] w fun e w' => ∃ v', e = .returned v' ∧ w'.ownsRow w.heap.size 5 1 v' 16 ((btag KB H X).map (Value.int .u8)) ∧ Below w.heap.size w w' := by
  obtain ⟨wa, hwa⟩ : ∃ wa, wa = w.alloc (.cells (u8s KB) 47) := ⟨_, rfl⟩
  have ba : Below w.heap.size w wa := by rw [hwa]; exact al_below _ _
  have hwz : w.alloc (.cells (u8s KB) 47) = wa := hwa.symm
  have FR : Hid (∀ x, From wa x → x.rangeAt w.heap.size 0 (KB.map (Value.int .u8))) := fun x hx => range_sum ((Below.block hx _ (by rw [hwa]; simp)).trans (by rw [hwa]; exact heap_alloc_new _ _))
  have FT : Hid (∀ x, From wa x → Tabs x) := fun x hx => (ht.kept ba).kept hx
  have FV : Hid (∀ x, From wa x → Sl x v X) := fun x hx => (sv.kept ba).kept hx
  have FB : Hid (∀ x, From wa x → Below w.heap.size w x) := fun x hx => ba.trans (Below.mono hx ba.size)
  have FH : Hid (∀ x, From wa x → (convert 34 9 h).run Tryz.prog x = .ok (.string (strB H)) x) := fun x hx => by
    have := (sh.kept ba).kept hx
    obtain ⟨a, c, rfl, -⟩ := sh
    exact this.conv
  have HTX : Hid (textB (strB H) = textL H) := textB_strB sh.bytes
  have HTB : Hid (Pl.Byt (textL H)) := textL_byt sh.bytes
  have HLE : Hid ((textL H).length + X.length ≤ 10000000000000000) := by unfold Hid; have := textL_le H; omega
  have HSZ : Hid ((strB H).size ≤ 140737488355328) := by unfold Hid; rw [strB_size]; omega
  have HKK : Hid (KB.length = 32) := hK
  have HKB : Hid (Pl.Byt KB) := hKb
  have hu26 := Tryz.underlying47
  have hi26 : (Tryz.prog.info? 47).map (·.size) = some (KB.map (Value.int .u8)).length := by rw [List.length_map, hK]; exact size26
  obtain ⟨av, cv, rfl, -⟩ := sv
  obtain ⟨ah, ch, rfl, -⟩ := sh
  clear hwa ba ht hK hKb
  generalize strB H = SH at *
  obtain ⟨xl, hxl⟩ : ∃ xl, xl = X.length := ⟨_, rfl⟩
  rw [← hxl] at FV hX ⊢
  generalize hhl : H.length = hl at *
  clear hxl hhl
  go_enter Tryz.func84, Tryz.ntmps84
  go_wp2_with fail
  refine wp_region_held_drew (S := From wa) (by kernel_rfl) ((Below.refl _ _).drew) (fun _ => ?_)
  refine wpAnyH_on ((Below.refl _ _).drew) (fun u0 hu0 bu0 => ?_)
  replace FR := on FR bu0
  replace FT := on FT bu0
  replace FV := on FV bu0
  replace FB := on FB bu0
  replace FH := on FH bu0
  refine wpAnyH_take (i := 0) (oi := { dst := some 7, op := Op.load 47 (Operand.tmp 3), type := 47, pos := "mac.go:75", after := #[], guard := none }) (v := .agg (KB.map (Value.int .u8)).toArray) rfl (by kernel_rfl) (by kernel_rfl) (by kernel_rfl) (fun _ _ _ h => h) (yieldsIf_load_mid (by rfl) _ _ rfl w.heap.size 0 rfl _ _ (fun x h => FR.out x h) hu26 rfl hi26) (Below.refl _ _) ?_
  try simp only [Act.put, List.setIfInBounds_toArray, List.set_cons_zero, List.set_cons_succ]
  refine wpAnyH_take (i := 1) (oi := { dst := some 8, op := Op.move (Operand.tmp 1), type := 34, pos := "mac.go:75", after := #[], guard := none }) (v := ?va2) rfl (by kernel_rfl) (by kernel_rfl) (by kernel_rfl) (fun _ _ _ h => h) (Or.inl ⟨by rfl, ?ya2⟩) (Below.refl _ _) ?ra2
  case ya2 => (intro w hSw; go_simp; try with_reducible rfl)
  try simp only [Act.put, List.setIfInBounds_toArray, List.set_cons_zero, List.set_cons_succ]
  refine wpAnyH_take (i := 2) (oi := { dst := some 9, op := Op.convert 34 9 (Operand.tmp 8), type := 9, pos := "mac.go:75", after := #[{ on := 1, ground := Ground.data }], guard := none }) (v := ?va3) rfl (by kernel_rfl) (by kernel_rfl) (by kernel_rfl) (fun _ _ _ h => h) (Or.inl ⟨by rfl, ?ya3⟩) (Below.refl _ _) ?ra3
  case ya3 => (intro w hSw; have t := FH.out w hSw; go_simp; try with_reducible rfl)
  try simp only [Act.put, List.setIfInBounds_toArray, List.set_cons_zero, List.set_cons_succ]
  refine wpAnyH_take (i := 4) (oi := { dst := some 11, op := Op.move (Operand.tmp 2), type := 34, pos := "mac.go:75", after := #[], guard := none }) (v := ?va4) rfl (by kernel_rfl) (by kernel_rfl) (by kernel_rfl) (fun _ _ _ h => h) (Or.inl ⟨by rfl, ?ya4⟩) (Below.refl _ _) ?ra4
  case ya4 => (intro w hSw; go_simp; try with_reducible rfl)
  try simp only [Act.put, List.setIfInBounds_toArray, List.set_cons_zero, List.set_cons_succ]
  refine wpAnyH_ready (rs := [3]) (by kernel_rfl) (by simp) ?_
  refine AllReadyH.cons (o := { dst := some 10, op := Op.call { callee := Callee.value (Operand.func 79), args := #[Operand.tmp 9], argTypes := #[9] }, type := 34, pos := "mac.go:75", after := #[{ on := 2, ground := Ground.data }], guard := none }) rfl (fun KK hKK => ?_) ?_
  · go_simp
    refine (ftext_own SH _ (FT.out _ (Below.refl _ _)).2 HSZ.out).mono ?_
    rintro e u5' ⟨v3, rfl, own3, bu5'⟩
    rw [HTX.out] at own3
    obtain ⟨a3, c3, rfl, -⟩ := sl_owned own3 HTB.out
    (try go_wp2_with fail)
    refine hKK.out _ _ (bu5') (fun _ => ?_)
    clear hKK KK
    try simp only [Act.put, List.setIfInBounds_toArray, List.set_cons_zero, List.set_cons_succ]
    refine wpAnyH_on (bu5') (fun u5 hu5 bu5 => ?_)
    replace FR := on FR bu5
    replace FT := on FT bu5
    replace FV := on FV bu5
    replace FB := on FB bu5
    replace FH := on FH bu5
    have F3 : Hid (∀ x, From u5 x → Sl x (.slice a3 (textL H).length c3) (textL H)) := fun x hx => by rw [hu5.out] at hx; exact Sl.kept (sl_owned own3 HTB.out) hx
    clear own3
    obtain ⟨tl, hTL⟩ : ∃ tl, tl = (textL H).length := ⟨_, rfl⟩
    rw [← hTL] at F3 ⊢
    clear hTL
    refine wpAnyH_ready (rs := [5]) (by kernel_rfl) (by simp) ?_
    refine AllReadyH.cons (o := { dst := some 12, op := Op.buildSlice 100 2 #[(0, Operand.tmp 10), (1, Operand.tmp 11)], type := 100, pos := "mac.go:75", after := #[{ on := 3, ground := Ground.data }, { on := 4, ground := Ground.data }], guard := none }) rfl (fun KK hKK => ?_) ?_
    · have FB0 : Hid (Below w.heap.size w u5) := FB.out _ (Below.refl _ _)
      have pu6 := parts2 u5 _ _ (textL H) X (F3.out _ (Below.refl _ _)) (FV.out _ (Below.refl _ _))
      go_simp
      refine hKK.out _ _ (al_below _ _) (fun _ => ?_)
      clear hKK KK
      try simp only [Act.put, List.setIfInBounds_toArray, List.set_cons_zero, List.set_cons_succ]
      refine wpAnyH_on (al_below _ _) (fun u6 hu6 bu6 => ?_)
      replace FR := on FR bu6
      replace FT := on FT bu6
      replace FV := on FV bu6
      replace FB := on FB bu6
      replace FH := on FH bu6
      replace F3 := on F3 bu6
      have FP : Hid (∀ x, From u6 x → Parts x (some ⟨u5.heap.size, 0, none⟩) [textL H, X]) := fun x hx => Parts.kept (by rw [hu6.out]; exact pu6) hx
      clear pu6
      refine wpAnyH_ready (rs := [6]) (by kernel_rfl) (by simp) ?_
      refine AllReadyH.cons (o := { dst := some 13, op := Op.call { callee := Callee.value (Operand.func 110), args := #[Operand.tmp 7, Operand.tmp 12], argTypes := #[47, 100] }, type := 34, pos := "mac.go:75", after := #[{ on := 0, ground := Ground.data }, { on := 5, ground := Ground.data }, { on := 3, ground := Ground.chain }], guard := none }) rfl (fun KK hKK => ?_) ?_
      · go_simp
        refine (tag2_any KB (textL H) X _ _ HKK.out HKB.out (FT.out _ (Below.refl _ _)).1 (FP.out _ (Below.refl _ _)) (by simp) HLE.out).mono ?_
        rintro e u7' ⟨v6, rfl, own6, bu7'⟩
        (try go_wp2_with fail)
        refine hKK.out _ _ (bu7') (fun _ => ?_)
        clear hKK KK
        try simp only [Act.put, List.setIfInBounds_toArray, List.set_cons_zero, List.set_cons_succ]
        refine wpAnyH_on (bu7') (fun u7 hu7 bu7 => ?_)
        replace FR := on FR bu7
        replace FT := on FT bu7
        replace FV := on FV bu7
        replace FB := on FB bu7
        replace FH := on FH bu7
        replace F3 := on F3 bu7
        replace FP := on FP bu7
        have O6 : Hid (u7.ownsRow w.heap.size 5 1 v6 16 ((btag KB H X).map (Value.int .u8))) := by unfold Hid; rw [hu7.out]; exact own_mono own6 (Nat.le_trans FB0.out.size (by rw [hu6.out]; simp))
        have B6 : Hid (Below w.heap.size w u7) := FB.out _ (Below.refl _ _)
        clear own6
        refine wpAnyH_take (i := 7) (oi := { dst := some 6, op := Op.assign (Operand.tmp 13), type := 34, pos := "mac.go:75", after := #[{ on := 6, ground := Ground.data }, { on := 6, ground := Ground.chain }, { on := 0, ground := Ground.phase }, { on := 1, ground := Ground.phase }, { on := 2, ground := Ground.phase }, { on := 3, ground := Ground.phase }, { on := 4, ground := Ground.phase }, { on := 5, ground := Ground.phase }, { on := 6, ground := Ground.phase }], guard := none }) (v := ?va8) rfl (by kernel_rfl) (by kernel_rfl) (by kernel_rfl) (fun _ _ _ h => h) (Or.inl ⟨by rfl, ?ya8⟩) (Below.refl _ _) ?ra8
        case ya8 => (intro w hSw; go_simp; try with_reducible rfl)
        try simp only [Act.put, List.setIfInBounds_toArray, List.set_cons_zero, List.set_cons_succ]
        refine wpAnyH_done (by kernel_rfl) ?_ _
        go_wp2
        go_ret
        exact ⟨_, rfl, O6.out, B6.out⟩
      exact AllReadyH.nil
    exact AllReadyH.nil
  exact AllReadyH.nil


set_option maxHeartbeats 2000000 in
set_option maxRecDepth 100000 in
theorem seal_any (KB : List Int) (h v : Value) (H X : List Int) (w : World) (hK : KB.length = 32) (hKb : Pl.Byt KB) (ht : Tabs w) (sh : Sl w h H) (sv : Sl w v X) (hH : H.length ≤ 140737488351232) (hX : X.length ≤ 140737488351232) :
    Calls Tryz.prog 59 #[.agg (u8s KB), h, v] w fun e w' => ∃ v', e = .returned v' ∧ w'.ownsRow w.heap.size 5 1 v' (X ++ btag KB H X).length ((X ++ btag KB H X).map (Value.int .u8)) ∧ Below w.heap.size w w' := by
  obtain ⟨wa, hwa⟩ : ∃ wa, wa = w.alloc (.cells (u8s KB) 47) := ⟨_, rfl⟩
  have ba : Below w.heap.size w wa := by rw [hwa]; exact al_below _ _
  have hwz : w.alloc (.cells (u8s KB) 47) = wa := hwa.symm
  have HGA : Hid (wa.heap[w.heap.size]? = some (.cells (u8s KB) 47 (0, 0))) := by unfold Hid; rw [hwa]; exact heap_alloc_new _ _
  have HI : Hid ((Tryz.prog.info? 47).map (·.size) = some (u8s KB).size) := by unfold Hid; rw [u8s_size, hK]; exact size26
  have c27 := btag_any KB h v H X wa hK hKb (ht.kept ba) (sh.kept ba) (sv.kept ba) hH hX
  have HSV : Hid (∀ W, Below wa.heap.size wa W → Sl W v X) := fun W hW => (sv.kept ba).kept hW
  have HBA : Hid (Below w.heap.size w wa) := ba
  have HTB : Hid (Pl.Byt (btag KB H X)) := tagB_byt _ _
  have HTL : Hid ((btag KB H X).length = 16) := tagB_len _ _
  have HXX : Hid (X.length ≤ 140737488351232) := hX
  obtain ⟨av, cv, rfl, -⟩ := sv
  obtain ⟨ah, ch, rfl, -⟩ := sh
  clear hwa ba ht hK hKb
  generalize btag KB H X = T at *
  obtain ⟨xl, hxl⟩ : ∃ xl, xl = X.length := ⟨_, rfl⟩
  rw [← hxl] at c27 HSV hX ⊢
  clear hxl
  generalize H.length = hl at *
  generalize u8s KB = KU at *
  go_enter Tryz.func59, Tryz.ntmps59
  go_wp2_with (refine wpList_load_row rfl 47 _ rfl w.heap.size rfl 47 KU (0, 0) _ HGA.out Tryz.underlying47 rfl HI.out ?_)
  refine c27.mono ?_
  rintro e w1 ⟨v1, rfl, own1, b1⟩
  have s1 := sl_owned own1 HTB.out
  obtain ⟨a1, c1, rfl, -⟩ := id s1
  have sv1 := HSV.out w1 b1
  have cj := join_any _ 2 _ _ (parts2 w1 _ _ X T sv1 s1) (by simp only [List.flatten_cons, List.flatten_nil, List.append_nil, List.length_append, HTL.out]; have := HXX.out; omega)
  have hf : [X, T].flatten = X ++ T := by simp
  rw [hf] at cj
  simp only [List.length_cons, List.length_nil, Nat.zero_add, Nat.reduceAdd] at cj
  have hw1 : w1.heap.size ≤ (w1.alloc (.cells #[.slice av xl cv, .slice a1 T.length c1] 34)).heap.size := by simp
  have B1 : Hid (Below w.heap.size w (w1.alloc (.cells #[.slice av xl cv, .slice a1 T.length c1] 34))) := by
    have h1 : Below w.heap.size w w1 := HBA.out.trans (b1.mono HBA.out.size)
    exact h1.alloc h1.size _
  rw [HTL.out] at cj B1 ⊢
  clear c27 own1 s1 sv1 b1 hf hw1
  go_wp2_with fail
  refine cj.mono ?_
  rintro e w2 ⟨v2, rfl, own2, b2⟩
  have O2 : Hid (w2.ownsRow w.heap.size 5 1 v2 (X ++ T).length ((X ++ T).map (Value.int .u8))) := own_mono own2 B1.out.size
  have B2 : Hid (Below w.heap.size w w2) := B1.out.trans (b2.mono B1.out.size)
  clear cj own2 b2
  go_wp2
  go_ret
  exact ⟨_, rfl, O2.out, B2.out⟩
end Go.Proofs.YtiollhmbdhepkaaGreatDoor.Mc
namespace Go.Proofs.YtiollhmbdhepkaaGreatDoor
open Go.RowKit Go.Proofs.YtiollhmbdhepkaaGreatDoor.Sh
set_option maxRecDepth 100000

def selE (k c n : Int) (m : Nat) : Int := if mb k c n = false then 2 else if rmI k c n < (m : Int) then 5 else 0
def selL (K : List Int) (k c n : Int) (X : List Int) : List Int := if selE k c n X.length = 0 then hdL k c n ++ (X ++ Mc.btag K (hdL k c n) X) else []
theorem selE_cases (k c n : Int) (m : Nat) : (mb k c n = false ∧ selE k c n m = 2) ∨ (mb k c n = true ∧ rmI k c n < (m : Int) ∧ selE k c n m = 5) ∨ (mb k c n = true ∧ (m : Int) ≤ rmI k c n ∧ selE k c n m = 0) := by
  unfold selE
  cases mb k c n
  · exact .inl ⟨rfl, by simp⟩
  · by_cases h : rmI k c n < (m : Int)
    · exact .inr (.inl ⟨rfl, h, by simp [h]⟩)
    · exact .inr (.inr ⟨rfl, by omega, by simp [h]⟩)
theorem selL_no {K : List Int} {k c n : Int} {X : List Int} (h : selE k c n X.length ≠ 0) : selL K k c n X = [] := by unfold selL; rw [if_neg h]
theorem selL_yes {K : List Int} {k c n : Int} {X : List Int} (h : selE k c n X.length = 0) : selL K k c n X = hdL k c n ++ (X ++ Mc.btag K (hdL k c n) X) := by unfold selL; rw [if_pos h]
set_option maxHeartbeats 8000000 in
theorem pseal_any (K : List Int) (k c n : Int) (a : Option Addr) (m cp : Nat) (X : List Int) (w : World) (ht : Mc.Tabs w) (hK : K.length = 32) (hKb : Pl.Byt K) (hk : 0 ≤ k ∧ k < 256) (sx : Sl w (.slice a m cp) X) (hm : m = X.length) :
    Calls Tryz.prog 19 #[.agg (u8s K), .agg #[.int .u8 k, .int .i64 c, .int .i64 n, .slice a m cp]] w fun e w' => ∃ v, e = .returned (.tuple #[v, .int .i64 (selE k c n X.length)]) ∧ w'.ownsRow w.heap.size 5 1 v (selL K k c n X).length ((selL K k c n X).map (Value.int .u8)) ∧ Below w.heap.size w w' := by
  obtain ⟨W1, hW1⟩ : ∃ W1, W1 = w.alloc (.cells (u8s K) 47) := ⟨_, rfl⟩
  obtain ⟨W2, hW2⟩ : ∃ W2, W2 = W1.alloc (.cells #[.int .u8 k, .int .i64 c, .int .i64 n, .slice a m cp] 51) := ⟨_, rfl⟩
  have b1 : Below w.heap.size w W1 := by rw [hW1]; exact al_below _ _
  have z1 : W1.heap.size = w.heap.size + 1 := by rw [hW1]; simp
  have b12 : Below W1.heap.size W1 W2 := by rw [hW2]; exact al_below _ _
  have b2 : Below w.heap.size w W2 := b1.trans (b12.mono b1.size)
  have g2 : KB W2 (w.heap.size + 1) k c n (.slice a m cp) := by rw [← z1, hW2]; exact KB.new _ _ _ _ _
  have hg1 : W1.heap[w.heap.size]? = some (.cells (u8s K) 47 (0, 0)) := by rw [hW1]; exact heap_alloc_new _ _
  have HB : Hid (Below w.heap.size w W2) := b2
  have HG : Hid (KB W2 (w.heap.size + 1) k c n (.slice a m cp)) := g2
  have HK1 : Hid (W2.heap[w.heap.size]? = some (.cells (u8s K) 47 (0, 0))) := blk_kept hg1 b12 (blk_lt hg1)
  have HT : Hid (Mc.Tabs W2) := ht.kept b2
  have HS : Hid (Sl W2 (.slice a m cp) X) := sx.kept b2
  have HI : Hid ((Tryz.prog.info? 47).map (·.size) = some (u8s K).size) := by unfold Hid; rw [u8s_size, hK]; exact size26
  have HKK : Hid (K.length = 32 ∧ Pl.Byt K) := ⟨hK, hKb⟩
  have HKK2 : Hid (0 ≤ k ∧ k < 256) := hk
  have cm := pmay_any k c n a m cp W2
  have hW2' : W2 = (w.alloc (.cells (u8s K) 47)).alloc (.cells #[.int .u8 k, .int .i64 c, .int .i64 n, .slice a m cp] 51) := by rw [hW2, hW1]
  clear hW2 b1 b12 b2 g2 hg1 z1 ht sx hK hKb hk
  have hW2 := hW2'
  clear hW2' hW1
  rw [← hm]
  have HM : Hid (m = X.length) := hm
  clear hm
  rcases selE_cases k c n m with ⟨q1, q2⟩ | ⟨q1, q3, q2⟩ | ⟨q1, q3, q2⟩
  · rw [q2, selL_no (by rw [← HM.out, q2]; decide)]
    rw [q1] at cm
    clear q1 q2
    generalize hku : u8s K = KU at *
    clear hku
    go_enter Tryz.func19, Tryz.ntmps19
    go_upto_region 1 with fail
    rw [← hW2]
    clear hW2
    go_wp2_with (refine wpList_load_row rfl 51 _ rfl (w.heap.size + 1) rfl 51 #[.int .u8 k, .int .i64 c, .int .i64 n, .slice a m cp] (0, 0) _ HG.out Tryz.underlying51 rfl infoK ?_)
    refine cm.mono ?_
    rintro e w3 ⟨rfl, b3⟩
    have HB3 : Hid (Below w.heap.size w w3) := HB.out.trans (b3.mono HB.out.size)
    clear cm b3
    go_wp2
    go_ret2
    exact ⟨_, rfl, World.ownsRow_nil _ _ _ _, HB3.out⟩
  · rw [q2, selL_no (by rw [← HM.out, q2]; decide)]
    rw [q1] at cm
    have QL : Hid (decide (rmI k c n < (m : Int)) = true) := by unfold Hid; simp [q3]
    clear q1 q2 q3
    generalize hku : u8s K = KU at *
    clear hku
    go_enter Tryz.func19, Tryz.ntmps19
    go_upto_region 1 with fail
    rw [← hW2]
    clear hW2
    go_wp2_with (refine wpList_load_row rfl 51 _ rfl (w.heap.size + 1) rfl 51 #[.int .u8 k, .int .i64 c, .int .i64 n, .slice a m cp] (0, 0) _ HG.out Tryz.underlying51 rfl infoK ?_)
    refine cm.mono ?_
    rintro e w3 ⟨rfl, b3⟩
    have HB3 : Hid (Below w.heap.size w w3) := HB.out.trans (b3.mono HB.out.size)
    have HG3 : Hid (KB w3 (w.heap.size + 1) k c n (.slice a m cp)) := HG.out.kept b3
    have HK3 : Hid (w3.heap[w.heap.size]? = some (.cells KU 47 (0, 0))) := blk_kept HK1.out b3 (blk_lt HK1.out)
    have HT3 : Hid (Mc.Tabs w3) := HT.out.kept b3
    have HS3 : Hid (Sl w3 (.slice a m cp) X) := HS.out.kept b3
    have cl := isLong_any k c n a m cp w3 HT3.out.2 HKK2.out
    rw [QL.out] at cl
    clear cm b3 HB HG HK1 HT HS
    go_wp2_with (refine wpList_load_row rfl 51 _ rfl (w.heap.size + 1) rfl 51 #[.int .u8 k, .int .i64 c, .int .i64 n, .slice a m cp] (0, 0) _ HG3.out Tryz.underlying51 rfl infoK ?_)
    refine cl.mono ?_
    rintro e w4 ⟨rfl, b4⟩
    have HB4 : Hid (Below w.heap.size w w4) := HB3.out.trans (b4.mono HB3.out.size)
    clear cl b4 HB3 HG3 HK3 HT3 HS3
    go_wp2
    go_ret2
    exact ⟨_, rfl, World.ownsRow_nil _ _ _ _, HB4.out⟩
  · rw [q2, selL_yes (by rw [← HM.out]; exact q2)]
    rw [q1] at cm
    have QL : Hid (decide (rmI k c n < (m : Int)) = false) := by unfold Hid; simp; omega
    have hX : X.length ≤ 1183 := by have := (rmI_bd (k := k) (c := c) (n := n)).2; have := HM.out; omega
    have HXL : Hid (X.length ≤ 1183) := hX
    have HBT : Hid ((Mc.btag K (hdL k c n) X).length = 16) := Mc.tagB_len _ _
    have HBB : Hid (Pl.Byt (X ++ Mc.btag K (hdL k c n) X)) := byt_cat HS.out.bytes (Mc.tagB_byt _ _)
    have csl := fun hv v w h1 h2 h3 => Mc.seal_any K hv v (hdL k c n) X w HKK.out.1 HKK.out.2 h1 h2 h3 (by have := hdL_le k c n; omega) (by omega)
    obtain ⟨BT, hBT⟩ : ∃ BT, BT = Mc.btag K (hdL k c n) X := ⟨_, rfl⟩
    rw [← hBT] at HBT HBB csl ⊢
    have HHB : Hid (Pl.Byt (hdL k c n)) := hdL_byt HKK2.out.1 HKK2.out.2
    have HHL : Hid ((hdL k c n).length ≤ 17) := hdL_le k c n
    have chd := fun w h => head_any k c n a m cp w h HKK2.out
    obtain ⟨HL, hHL⟩ : ∃ HL, HL = hdL k c n := ⟨_, rfl⟩
    rw [← hHL] at HHB HHL csl chd ⊢
    clear q1 q2 q3 hX hBT hHL
    generalize hku : u8s K = KU at *
    clear hku
    go_enter Tryz.func19, Tryz.ntmps19
    go_upto_region 1 with fail
    rw [← hW2]
    clear hW2
    go_wp2_with (refine wpList_load_row rfl 51 _ rfl (w.heap.size + 1) rfl 51 #[.int .u8 k, .int .i64 c, .int .i64 n, .slice a m cp] (0, 0) _ HG.out Tryz.underlying51 rfl infoK ?_)
    refine cm.mono ?_
    rintro e w3 ⟨rfl, b3⟩
    have HB3 : Hid (Below w.heap.size w w3) := HB.out.trans (b3.mono HB.out.size)
    have HG3 : Hid (KB w3 (w.heap.size + 1) k c n (.slice a m cp)) := HG.out.kept b3
    have HK3 : Hid (w3.heap[w.heap.size]? = some (.cells KU 47 (0, 0))) := blk_kept HK1.out b3 (blk_lt HK1.out)
    have HT3 : Hid (Mc.Tabs w3) := HT.out.kept b3
    have HS3 : Hid (Sl w3 (.slice a m cp) X) := HS.out.kept b3
    have cl := isLong_any k c n a m cp w3 HT3.out.2 HKK2.out
    rw [QL.out] at cl
    clear cm b3 HB HG HK1 HT HS
    go_wp2_with (refine wpList_load_row rfl 51 _ rfl (w.heap.size + 1) rfl 51 #[.int .u8 k, .int .i64 c, .int .i64 n, .slice a m cp] (0, 0) _ HG3.out Tryz.underlying51 rfl infoK ?_)
    refine cl.mono ?_
    rintro e w4 ⟨rfl, b4⟩
    have HB4 : Hid (Below w.heap.size w w4) := HB3.out.trans (b4.mono HB3.out.size)
    have HG4 : Hid (KB w4 (w.heap.size + 1) k c n (.slice a m cp)) := HG3.out.kept b4
    have HK4 : Hid (w4.heap[w.heap.size]? = some (.cells KU 47 (0, 0))) := blk_kept HK3.out b4 (blk_lt HK3.out)
    have HT4 : Hid (Mc.Tabs w4) := HT3.out.kept b4
    have HS4 : Hid (Sl w4 (.slice a m cp) X) := HS3.out.kept b4
    have ch := chd w4 HT4.out.2
    clear cl b4 HB3 HG3 HK3 HT3 HS3
    go_wp2_with (refine wpList_load_row rfl 51 _ rfl (w.heap.size + 1) rfl 51 #[.int .u8 k, .int .i64 c, .int .i64 n, .slice a m cp] (0, 0) _ HG4.out Tryz.underlying51 rfl infoK ?_)
    refine ch.mono ?_
    rintro e w5 ⟨v5, rfl, o5, b5⟩
    have HB5 : Hid (Below w.heap.size w w5) := HB4.out.trans (b5.mono HB4.out.size)
    have HG5 : Hid (KB w5 (w.heap.size + 1) k c n (.slice a m cp)) := HG4.out.kept b5
    have HK5 : Hid (w5.heap[w.heap.size]? = some (.cells KU 47 (0, 0))) := blk_kept HK4.out b5 (blk_lt HK4.out)
    have HT5 : Hid (Mc.Tabs w5) := HT4.out.kept b5
    have HS5 : Hid (Sl w5 (.slice a m cp) X) := HS4.out.kept b5
    have s5 := sl_owned o5 HHB.out
    obtain ⟨a5, q5, rfl, -⟩ := id s5
    have H5 : Hid (Sl w5 (.slice a5 HL.length q5) HL) := s5
    have cs := csl _ _ w5 HT5.out s5 HS5.out
    obtain ⟨d0, d1, d2, d3⟩ := HG5.out.kc
    obtain ⟨hl, hhl⟩ : ∃ hl, hl = HL.length := ⟨_, rfl⟩
    rw [← hhl] at cs H5 ⊢
    clear hhl
    clear ch b5 o5 s5 HB4 HG4 HK4 HT4 HS4
    go_wp2_with (refine wpList_load_row rfl 47 _ rfl w.heap.size rfl 47 KU (0, 0) _ HK5.out Tryz.underlying47 rfl HI.out ?_)
    refine cs.mono ?_
    rintro e w6 ⟨v6, rfl, o6, b6⟩
    have s6 := sl_owned o6 HBB.out
    obtain ⟨a6, q6, rfl, -⟩ := id s6
    have HB6 : Hid (Below w.heap.size w w6) := HB5.out.trans (b6.mono HB5.out.size)
    have P6 := parts2 w6 _ _ HL (X ++ BT) (H5.out.kept b6) s6
    obtain ⟨xl, hxl⟩ : ∃ xl, xl = (X ++ BT).length := ⟨_, rfl⟩
    rw [← hxl] at P6 ⊢
    clear hxl
    obtain ⟨W7, hW7⟩ : ∃ W7, W7 = w6.alloc (.cells #[.slice a5 hl q5, .slice a6 xl q6] 34) := ⟨_, rfl⟩
    have HB7 : Hid (Below w.heap.size w W7) := by unfold Hid; rw [hW7]; exact HB6.out.alloc HB6.out.size _
    rw [← hW7] at P6
    have cj := join2p_any _ HL (X ++ BT) W7 P6 (by rw [List.length_append, HBT.out]; have := HXL.out; have := HHL.out; omega)
    clear cs b6 o6 s6 d0 d1 d2 d3 HG5 HK5 HT5 HS5 H5 HB5 csl chd P6
    go_wp2_with fail
    rw [← hW7]
    clear hW7
    refine cj.mono ?_
    rintro e w8 ⟨v8, rfl, o8, b8⟩
    have O8 : Hid (w8.ownsRow w.heap.size 5 1 v8 (HL ++ (X ++ BT)).length ((HL ++ (X ++ BT)).map (Value.int .u8))) := own_mono o8 HB7.out.size
    have B8 : Hid (Below w.heap.size w w8) := HB7.out.trans (b8.mono HB7.out.size)
    clear cj o8 b8
    go_wp2
    go_ret2
    exact ⟨_, rfl, O8.out, B8.out⟩

end Go.Proofs.YtiollhmbdhepkaaGreatDoor
namespace Go.Proofs.YtiollhmbdhepkaaGreatDoor
open Go.ChangeShapes Go.WideShapes Go.ChangeAt Go.RowKit Go.Deep
set_option maxRecDepth 100000

theorem own : ownKnob Tryz.prog.godebug = none := by kernel_rfl
theorem laidOut : laidOutB Tryz.prog = true := by kernel_rfl
theorem cells3 : Tryz.prog.cellsOf 3 = 1 := by kernel_rfl
theorem cells5 : Tryz.prog.cellsOf 5 = 1 := by kernel_rfl
theorem gT2 : Tryz.prog.globalNamed "sumpter/varint.widths" = some 1 := by kernel_rfl
theorem tT2 : (Tryz.prog.globals[1]?).map (·.type) = some 203 := by kernel_rfl
theorem cellsT2 : Tryz.prog.cellsOf 203 = 4 := by kernel_rfl
theorem gS : Tryz.prog.globalNamed "sumpter/frame.shapes" = some 0 := by kernel_rfl
theorem tS : (Tryz.prog.globals[0]?).map (·.type) = some 84 := by kernel_rfl
theorem cellsS : Tryz.prog.cellsOf 84 = 22 := by kernel_rfl
theorem cellsH : Tryz.prog.cellsOf 83 = 2 := by kernel_rfl
def widT : Array Value := #[.int .i64 1, .int .i64 2, .int .i64 4, .int .i64 8]
def shpT : Array Value := #[.int .i64 0, .int .i64 0, .int .i64 0, .int .i64 0, .int .i64 66, .int .i64 0, .int .i64 39, .int .i64 1100, .int .i64 11, .int .i64 0, .int .i64 9, .int .i64 0, .int .i64 2, .int .i64 0, .int .i64 3, .int .i64 0, .int .i64 2, .int .i64 0, .int .i64 48, .int .i64 256, .int .i64 40, .int .i64 64]
/-- Both tables out of what is laid. -/
theorem mapM_each {α β : Type} {f : α → Option β} : ∀ (L : List α) (ys : List β), L.mapM f = some ys → ∀ i ∈ L, ∃ y, f i = some y
  | [], _, _, i, hi => by simp at hi
  | x :: l, r, h, i, hi => by
    simp only [List.mapM_cons, Option.bind_eq_bind, Option.bind_eq_some_iff, Option.pure_def, Option.some.injEq] at h
    obtain ⟨b, hb, r', hr', rfl⟩ := h
    rcases List.mem_cons.1 hi with rfl | hi
    · exact ⟨b, hb⟩
    · exact mapM_each l r' hr' i hi
/-- An array of pairs that reads as such a table. -/
theorem cells_of_pairs {H : Type} {enc : TypeId × Value → H} {w : World} {base : Nat} {sp : Nat → Bool} {held : Bool} {fuel : Nat} {cs : List Value} {zs : List (Int × Int)} {p : List MemPlace}
    (h : DataW.trod enc Tryz.prog w base sp held fuel 84 cs = some (.agg (zs.map fun z => .agg [.lit (.int .i64 z.1), .lit (.int .i64 z.2)]), p)) : ∀ i, i < 11 → ∃ z, zs[i]? = some z ∧ cs[i * 2]? = some (.int .i64 z.1) ∧ cs[i * 2 + 1]? = some (.int .i64 z.2) := by
  cases fuel with
  | zero => simp [DataW.trod] at h
  | succ fuel =>
    simp only [DataW.trod, Tryz.underlying84, cellsH, cellsS] at h
    split at h
    · rename_i hl
      obtain ⟨xs, hm, hx⟩ := Option.map_eq_some_iff.1 h
      have hxs : xs.map (·.1) = zs.map fun z => (DataW.agg [.lit (.int .i64 z.1), .lit (.int .i64 z.2)] : DataW H) := by
        have := congrArg Prod.fst hx
        simpa using this
      intro i hi
      obtain ⟨b, hb, hf⟩ := Lib.mapM_at hm i i (by simp [hi])
      obtain ⟨y0, y1, n, rfl, hl2, h0, h1⟩ := trod_struct2 Tryz.underlying83 hf
      obtain ⟨a0, e0, rfl, _⟩ := DataW.trod_int Tryz.underlying3 h0
      obtain ⟨a1, e1, rfl, _⟩ := DataW.trod_int Tryz.underlying3 h1
      have h2 : (xs.map (·.1))[i]? = some (DataW.agg [.lit (.int .i64 a0), .lit (.int .i64 a1)] : DataW H) := by simp [hb]
      rw [hxs] at h2
      simp only [List.getElem?_map, Option.map_eq_some_iff] at h2
      obtain ⟨z, hz, hzz⟩ := h2
      simp only [DataW.agg.injEq, List.cons.injEq, DataW.lit.injEq, Lit.int.injEq, true_and, and_true] at hzz
      refine ⟨z, hz, ?_, ?_⟩
      · have := congrArg (·[0]?) e0
        simp only [List.getElem?_take, List.getElem?_drop, cells3] at this
        rw [hzz.1]
        simpa using this
      · have := congrArg (·[0]?) e1
        simp only [List.getElem?_take, List.getElem?_drop, cells3] at this
        rw [hzz.2]
        simpa using this
    · cases h
theorem shp_of {W : World} {rest : List (String × DataW Unit)} (h : laidMet Tryz.prog (("sumpter/frame.shapes", Rows.laid_sumpter_frame_shapes) :: rest) W) : Shp W := by
  obtain ⟨ps, ⟨g', t', cs, fuel, p, q, hg', ht', hvar, hd, _, _⟩, _⟩ := h
  obtain rfl := Option.some.inj (gS.symm.trans hg')
  obtain rfl := Option.some.inj (tS.symm.trans ht')
  have key := cells_of_pairs (zs := [(0, 0), (0, 0), (66, 0), (39, 1100), (11, 0), (9, 0), (2, 0), (3, 0), (2, 0), (48, 256), (40, 64)]) hd
  have cell := World.var?_cell gS hvar
  intro k hk
  obtain ⟨z, hz, z0, z1⟩ := key k (by omega)
  rw [cell (k * 2), cell (k * 2 + 1), List.getElem?_toArray, List.getElem?_toArray, z0, z1]
  have e : z = (pkN k, mT k) := by
    rcases (by omega : k = 0 ∨ k = 1 ∨ k = 2 ∨ k = 3 ∨ k = 4 ∨ k = 5 ∨ k = 6 ∨ k = 7 ∨ k = 8 ∨ k = 9 ∨ k = 10) with rfl | rfl | rfl | rfl | rfl | rfl | rfl | rfl | rfl | rfl | rfl <;> (cases hz; rfl)
  rw [e]
  exact ⟨rfl, rfl⟩
theorem gT0 : Tryz.prog.globalNamed "sumpter/sha.first" = some 2 := by kernel_rfl
theorem tT0 : (Tryz.prog.globals[2]?).map (·.type) = some 192 := by kernel_rfl
theorem gT1 : Tryz.prog.globalNamed "sumpter/sha.rounds" = some 3 := by kernel_rfl
theorem tT1 : (Tryz.prog.globals[3]?).map (·.type) = some 195 := by kernel_rfl
theorem cellsT0 : Tryz.prog.cellsOf 192 = 8 := by kernel_rfl
theorem cellsT1 : Tryz.prog.cellsOf 195 = 64 := by kernel_rfl
theorem cellsTE : Tryz.prog.cellsOf 191 = 1 := by kernel_rfl
def firstZ : List Int := (Sh.Pl.words Sh.Pl.init).map (fun n : Nat => (n : Int))
def roundZ : List Int := Sh.Pl.K.map (fun n : Nat => (n : Int))
def firT : Array Value := (firstZ.map (Value.int .u32)).toArray
def rndT : Array Value := (roundZ.map (Value.int .u32)).toArray
/-- All four tables out of what is laid. -/
theorem tbs_of {W : World} (h : laidMetH Tryz.prog Rows.packetRoomRow.laid W) : Tb W ∧ Mc.Tabs W := by
  have h' : laidMet Tryz.prog Rows.packetRoomRow.laid W := h
  have t2 : Lib.TabIs Tryz.prog W "sumpter/varint.widths" .i64 [1, 2, 4, 8] := Lib.tabIs_of_head gT2 tT2 Tryz.underlying203 Tryz.underlying3 cells3 cellsT2 h'
  have t0 : Lib.TabIs Tryz.prog W "sumpter/sha.first" .u32 firstZ := Lib.tabIs_of_head gT0 tT0 Tryz.underlying192 Tryz.underlying191 cellsTE cellsT0 (laidMet.tail (laidMet.tail h'))
  have t1 : Lib.TabIs Tryz.prog W "sumpter/sha.rounds" .u32 roundZ := Lib.tabIs_of_head (rest := []) gT1 tT1 Tryz.underlying195 Tryz.underlying191 cellsTE cellsT1 (laidMet.tail (laidMet.tail (laidMet.tail h')))
  have hw : Fi.Wid W := ⟨t2.cell gT2 0 (by decide), t2.cell gT2 1 (by decide), t2.cell gT2 2 (by decide), t2.cell gT2 3 (by decide)⟩
  refine ⟨⟨shp_of (laidMet.tail h'), hw⟩, ⟨fun i hi => ?_, fun i hi => ?_⟩, hw⟩
  · rw [t0.cell gT0 i (show i < firstZ.length from hi)]
    have hi2 : i < (Sh.Pl.words Sh.Pl.init).length := hi
    simp [firstZ, List.getD, List.getElem?_eq_getElem hi2]
  · rw [t1.cell gT1 i (show i < roundZ.length from hi)]
    have hi2 : i < Sh.Pl.K.length := hi
    simp [roundZ, List.getD, List.getElem?_eq_getElem hi2]
/-- Sixteen bytes that came in by value. -/
theorem nn_open {H : Type} {enc : TypeId × Value → H} {W : World} {base : Nat} {v : Value} {d : DataW H} {p : List MemPlace}
    (hval : Value.okWide Tryz.prog W .any base 22 v) (h : DataW.Trod enc Tryz.prog W 0 (fun _ => true) true 22 v d p) :
    ∃ A : List Int, v = .agg (Sh.u8s A) ∧ A.length = 16 ∧ Sh.Pl.Byt A := by
  simp only [Value.okWide, Tryz.underlying22] at hval
  obtain ⟨cs, rfl, hsz, _⟩ := hval
  have hc : Tryz.prog.cellsOf 22 = 16 := by kernel_rfl
  rw [hc] at hsz
  obtain ⟨fuel, hf⟩ := h
  cases fuel with
  | zero => simp [DataW.trod] at hf
  | succ m =>
    rw [DataW.trod_step] at hf
    unfold DataW.trodStep at hf
    simp only [Tryz.underlying22, Value.cells] at hf
    rw [if_pos (by rw [hc]; simpa using hsz)] at hf
    simp only [Option.map_eq_some_iff] at hf
    obtain ⟨ys, hy, _⟩ := hf
    have cell : ∀ i, i < 16 → ∃ a : Int, cs[i]? = some (.int .u8 a) ∧ (Lit.int .u8 a).wf = true := fun i hi => by
      obtain ⟨y, hyi⟩ := mapM_each _ _ hy i (by simpa using hi)
      obtain ⟨a, ea, _, wa⟩ := DataW.trod_int Tryz.underlying5 hyi
      refine ⟨a, ?_, wa⟩
      rw [cells5, Nat.mul_one] at ea
      have h0 := congrArg (·[0]?) ea
      simpa [List.getElem?_take, List.getElem?_drop] using h0
    refine ⟨cs.toList.map intOf, ?_, by simp [hsz], fun i => ?_⟩
    · congr 1
      apply Array.ext'
      unfold Sh.u8s
      rw [List.toList_toArray, List.map_map]
      apply List.ext_getElem?
      intro i
      rcases Nat.lt_or_ge i 16 with hi | hi
      · obtain ⟨a, ha, _⟩ := cell i hi
        rw [List.getElem?_map, Array.getElem?_toList, ha]
        simp [intOf]
      · rw [List.getElem?_eq_none (by simpa [hsz] using hi), List.getElem?_eq_none (by simpa [hsz] using hi)]
    · rcases Nat.lt_or_ge i 16 with hi | hi
      · obtain ⟨a, ha, wa⟩ := cell i hi
        have e : (cs.toList.map intOf).getD i 0 = a := by simp [List.getD, ha, intOf]
        rw [e]
        have := bounds_u8 wa
        omega
      · rw [List.getD, List.getElem?_eq_none (by simpa [hsz] using hi)]; simp
/-- Bytes that came in. -/
theorem sl_trod {H : Type} {enc : TypeId × Value → H} {W : World} {fuel : Nat} {cs : List Value} {x : DataW H × List MemPlace}
    (h : DataW.trod enc Tryz.prog W 0 (fun _ => true) true fuel 34 cs = some x) : ∃ a n c Z, cs = [.slice a n c] ∧ Sl W (.slice a n c) Z := by
  rcases open_ints Tryz.underlying34 Tryz.underlying5 cells5 h with ⟨hcs, _⟩ | ⟨y, l, c, zs, hcs, _, hl, hm, hz, _, hcell, hwz⟩
  · exact ⟨none, 0, 0, [], hcs, Sl.none _⟩
  · simp only [if_true] at hz
    have hlen : (zs.take l).length = l := by rw [List.length_take]; omega
    refine ⟨some y, l, c, zs.take l, hcs, some y, c, by rw [hlen], by rw [hlen]; exact hl, hm, (fun e => by cases e), ?_⟩
    rw [hlen]
    rcases Nat.eq_zero_or_pos l with h0 | h0
    · exact .inl h0
    · obtain ⟨yb, yo, ys⟩ := y
      have hys : ys = none := by simpa [Addr.add] using World.cell?_spot (hcell 0 (by omega))
      subst hys
      have hby : ∀ q, 0 ≤ zs.getD q 0 ∧ zs.getD q 0 < 256 := fun q => by
        have := range_u8 hwz q
        rw [List.getD_eq_getElem?_getD]
        omega
      refine .inr ⟨h0, yb, yo, rfl, hl, hm, fun q hq => ?_, fun q => ?_⟩
      · have := hcell q (by omega)
        rw [Addr.add_lit] at this
        rw [this]
        simp [List.getD, hq]
      · by_cases hq : q < l
        · have := hby q
          simpa [List.getD, List.getElem?_take, hq] using this
        · simp [List.getD, List.getElem?_take, hq]
theorem sl_in {H : Type} {enc : TypeId × Value → H} {W : World} {base : Nat} {v : Value} {d : DataW H} {p : List MemPlace}
    (hval : Value.okWide Tryz.prog W .any base 34 v) (h : DataW.Trod enc Tryz.prog W 0 (fun _ => true) true 34 v d p) : ∃ l, Sl W v l := by
  obtain ⟨a0, len0, cap0, rfl⟩ := okWide_slice Tryz.underlying34 hval
  obtain ⟨fuel, hf⟩ := h
  obtain ⟨a, n, c, Z, hcs, hs⟩ := sl_trod hf
  simp [Value.cells] at hcs
  obtain ⟨rfl, rfl, rfl⟩ := hcs
  exact ⟨Z, hs⟩
/-- Sixteen bytes that came in. -/
structure NnI (v : Value) (L : List Int) : Prop where
  v : v = .agg (Sh.u8s L)
  l : L.length = 16
  b : Sh.Pl.Byt L
theorem nn_in {H : Type} {enc : TypeId × Value → H} {W : World} {base : Nat} {v : Value} {d : DataW H} {p : List MemPlace}
    (hval : Value.okWide Tryz.prog W .any base 22 v) (h : DataW.Trod enc Tryz.prog W 0 (fun _ => true) true 22 v d p) : ∃ L, NnI v L := by
  obtain ⟨A, h1, h2, h3⟩ := nn_open hval h
  exact ⟨A, h1, h2, h3⟩
end Go.Proofs.YtiollhmbdhepkaaGreatDoor
