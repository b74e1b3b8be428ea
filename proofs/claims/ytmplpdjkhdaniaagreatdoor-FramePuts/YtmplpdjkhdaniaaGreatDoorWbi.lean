/-
  What lay lays; what Put answers.
  Put of nothing, Of, StreamOf, Asks, Size.
-/
import Derived.Deep.WholeRow
import Derived.Test.YtmplpdjkhdaniaaGreatDoorWba
import Derived.Test.YtmplpdjkhdaniaaGreatDoorWbh
import Derived.Test.YtmplpdjkhdaniaaGreatDoorWbb
import Derived.Defers
import Derived.Recover
import Derived.Deep.RegionWith
import Derived.Stop.IfaceNil
import Derived.WideLaws
import Derived.Test.YtmplpdjkhdaniaaGreatDoorWbc
namespace Go.Proofs.YtmplpdjkhdaniaaGreatDoor
open Go.RowKit Go.Shelf
set_option maxRecDepth 100000

theorem layF_any (p : Fm) (sv : Value) (w : World) (ht : Tb w) (hi : FI w p sv) (hok : Ok p) :
    Calls Tryz.prog 33 #[.agg (plA p sv)] w fun e w' => ∃ v, e = .returned v ∧ Ow w' w.heap.size v (putM p) ∧ Below w.heap.size w w' := by
  have hk := hok.kk
  unfold isK at hk
  simp at hk
  rcases (by omega : p.k = 1 ∨ p.k = 2 ∨ p.k = 3 ∨ p.k = 4 ∨ p.k = 5 ∨ p.k = 6 ∨ p.k = 7 ∨ p.k = 8 ∨ p.k = 9 ∨ p.k = 10) with e | e | e | e | e | e | e | e | e | e
  · exact lay1 p sv w ht hi hok e
  · exact lay2 p sv w ht hi hok e
  · exact lay3 p sv w ht hi hok e
  · exact lay4 p sv w ht hi hok e
  · exact lay5 p sv w ht hi hok e
  · exact lay6 p sv w ht hi hok e
  · exact lay7 p sv w ht hi hok e
  · exact lay8 p sv w ht hi hok e
  · exact lay9 p sv w ht hi hok e
  · exact lay10 p sv w ht hi hok e
theorem alloc_pl {w : World} {n : Nat} (p : Fm) (sv : Value) (t : TypeId) (old : Array Value) (hn : n = w.heap.size) : (w.alloc (.cells old t)).setRow n (plA p sv) = w.alloc (.cells (plA p sv) t) := by subst hn; exact World.setRow_alloc_new _ _ _ _
/-- What Put lays. -/
def putR (p : Fm) : List Int := if chkM p = 0 then putM p else []
/-- What is handed to Put. -/
structure FP (w : World) (p : Fm) (sv : Value) : Prop where
  k : FK p
  kk : isK p.k = true
  nb : ¬ badF p
  s : hS p.k = true → SSp w sv p.sp
  l : p.sp.length ≤ 100000
  t : p.tx.size ≤ 140737488355328
set_option maxHeartbeats 8000000 in
theorem putF_any (p : Fm) (sv : Value) (w : World) (ht : Tb w) (hp : FP w p sv) (hv : ∃ t y, frV p sv = .iface t y) :
    Calls Tryz.prog 10 #[frV p sv] w fun e w' => ∃ v, e = .returned (.tuple #[v, .int .i64 (chkM p)]) ∧ Ow w' w.heap.size v (putR p) ∧ Below w.heap.size w w' := by
  have cf := flatF_any p sv w hp.kk hp.nb hp.k.nl hp.s hp.l
  obtain ⟨ty, y, hy⟩ := hv
  rw [hy] at cf ⊢
  have HP : Hid (FP w p sv) := hp
  have HT : Hid (Tb w) := ht
  have HSZ : Hid (∀ v, (Tryz.prog.info? 33).map (·.size) = some (plA p v).size) := fun v => by rw [plA_size hp.k.nl]; exact infoP
  have HSL : Hid (∀ v, (Tryz.prog.info? 33).map (·.size) = some (plL p v).length) := fun v => by rw [plL_len hp.k.nl]; exact infoP
  have HON : Hid (∀ (a : Option Addr) (m c : Nat), (plA p (.slice a m c)).all (·.oneCell') = true) := fun a m c => all_oneCell_toArray (plL_one rfl)
  have HO23 : Hid (∀ v, (plA Fm.zero (.slice none 0 0)).size = (plA p v).size) := fun v => by rw [plA_size hp.k.nl]; rfl
  clear hp ht
  go_enter Tryz.func10, Tryz.ntmps10
  go_wp2_with fail
  refine cf.mono ?_
  rintro e w1 ⟨s1, rfl, r1, b1⟩
  obtain ⟨sa, sc, rfl, -, -, -⟩ := r1.is.shape
  obtain ⟨W2, hW2⟩ : ∃ W2, W2 = w1.alloc (.cells (plA p (.slice sa p.sp.length sc)) 33) := ⟨_, rfl⟩
  have b2 : Below w1.heap.size w1 W2 := by rw [hW2]; exact al_below _ _
  have HB2 : Hid (Below w.heap.size w W2) := b1.trans (b2.mono b1.size)
  have hal := alloc_pl (w := w1) p (.slice sa p.sp.length sc) 33 #[.int .u8 0, .int .i64 0, .int .i64 0, .int .i64 0, .bool false, .string ⟨#[]⟩, .int .u8 0, .int .u8 0, .int .u8 0, .int .u8 0, .int .u8 0, .int .u8 0, .int .u8 0, .int .u8 0, .int .u8 0, .int .u8 0, .int .u8 0, .int .u8 0, .int .u8 0, .int .u8 0, .int .u8 0, .int .u8 0, .slice none 0 0] rfl
  rw [← hW2] at hal
  have HAL : Hid ((w1.alloc (.cells #[.int .u8 0, .int .i64 0, .int .i64 0, .int .i64 0, .bool false, .string ⟨#[]⟩, .int .u8 0, .int .u8 0, .int .u8 0, .int .u8 0, .int .u8 0, .int .u8 0, .int .u8 0, .int .u8 0, .int .u8 0, .int .u8 0, .int .u8 0, .int .u8 0, .int .u8 0, .int .u8 0, .int .u8 0, .int .u8 0, .slice none 0 0] 33)).setRow w1.heap.size (plA p (.slice sa p.sp.length sc)) = W2) := hal
  have HNEW : Hid ((w1.alloc (.cells #[.int .u8 0, .int .i64 0, .int .i64 0, .int .i64 0, .bool false, .string ⟨#[]⟩, .int .u8 0, .int .u8 0, .int .u8 0, .int .u8 0, .int .u8 0, .int .u8 0, .int .u8 0, .int .u8 0, .int .u8 0, .int .u8 0, .int .u8 0, .int .u8 0, .int .u8 0, .int .u8 0, .int .u8 0, .int .u8 0, .slice none 0 0] 33)).heap[w1.heap.size]? = some (.cells #[.int .u8 0, .int .i64 0, .int .i64 0, .int .i64 0, .bool false, .string ⟨#[]⟩, .int .u8 0, .int .u8 0, .int .u8 0, .int .u8 0, .int .u8 0, .int .u8 0, .int .u8 0, .int .u8 0, .int .u8 0, .int .u8 0, .int .u8 0, .int .u8 0, .int .u8 0, .int .u8 0, .int .u8 0, .int .u8 0, .slice none 0 0] 33 (0, 0))) := heap_alloc_new _ _
  have g2 : PF W2 w1.heap.size 33 p (.slice sa p.sp.length sc) := by rw [hW2]; exact PF.new w1 _ p _
  have HG2 : Hid (PF W2 w1.heap.size 33 p (.slice sa p.sp.length sc)) := g2
  have HI2 : Hid (FI W2 p (.slice sa p.sp.length sc)) := ⟨HP.out.k, (r1.is).kept b2, HP.out.l, HP.out.t⟩
  have cc := checkF_any p _ W2 (HT.out.next HB2.out) HI2.out
  have HR2 : Hid (W2.rangeAt w1.heap.size 0 (plL p (.slice sa p.sp.length sc))) := g2.range
  clear cf b1 r1 b2 hW2 hal g2
  go_wp2_with (refine wpList_store_row rfl 33 _ _ rfl w1.heap.size (plA p (.slice sa p.sp.length sc)) rfl rfl 33 _ HNEW.out (HSZ.out _) (HO23.out _) (HON.out _ _ _) (Hid.out ?_))
  unfold Hid
  rw [HAL.out]
  go_wp2_with (refine wpList_load_mid rfl 33 _ rfl w1.heap.size 0 rfl (plL p (.slice sa p.sp.length sc)) _ HR2.out Tryz.underlying33 rfl (HSL.out _) (Hid.out ?_))
  unfold Hid
  go_wp2_with fail
  refine cc.mono ?_
  rintro e w3 ⟨rfl, b3⟩
  have HB3 : Hid (Below w.heap.size w w3) := HB2.out.trans (b3.mono HB2.out.size)
  have HR3 : Hid (w3.rangeAt w1.heap.size 0 (plL p (.slice sa p.sp.length sc))) := (HG2.out.kept b3).range
  have HI3 : Hid (FI w3 p (.slice sa p.sp.length sc)) := HI2.out.kept b3
  clear cc b3 HR2 HI2 HG2 HNEW HAL
  by_cases h0 : chkM p = 0
  · have cl := layF_any p _ w3 (HT.out.next HB3.out) HI3.out (chkM_ok h0)
    have t0 : (chkM p != 0) = false := by rw [h0]; rfl
    have HC0 : Hid (chkM p = 0) := h0
    clear h0
    go_wp2_with (refine wpList_load_mid rfl 33 _ rfl w1.heap.size 0 rfl (plL p (.slice sa p.sp.length sc)) _ HR3.out Tryz.underlying33 rfl (HSL.out _) (Hid.out ?_))
    unfold Hid
    go_wp2_with fail
    refine cl.mono ?_
    rintro e w4 ⟨v4, rfl, o4, b4⟩
    have HB4 : Hid (Below w.heap.size w w4) := HB3.out.trans (b4.mono HB3.out.size)
    have HO4 : Hid (Ow w4 w.heap.size v4 (putM p)) := o4.mono HB3.out.size
    clear cl b4 o4 HR3
    go_wp2
    go_ret2
    have HE : putR p = putM p := by unfold putR; rw [if_pos HC0.out]
    exact ⟨_, (by first | rfl | (rw [HC0.out]; rfl)), by rw [HE]; exact HO4.out, HB4.out⟩
  · have t0 : (chkM p != 0) = true := by simpa using h0
    have HC0 : Hid (¬ chkM p = 0) := h0
    have HNIL : Hid (Ow w3 w.heap.size (.slice none 0 0) []) := ⟨World.ownsRow_nil _ _ _ _, fun k => by simp⟩
    clear h0
    go_wp2
    go_ret2
    have HE : putR p = [] := by unfold putR; rw [if_neg HC0.out]
    exact ⟨_, rfl, by rw [HE]; exact HNIL.out, HB3.out⟩
end Go.Proofs.YtmplpdjkhdaniaaGreatDoor
namespace Go.Proofs.YtmplpdjkhdaniaaGreatDoor
open Go.RowKit Go.Shelf
set_option maxRecDepth 100000

set_option maxHeartbeats 1000000 in
theorem putF_nil (w : World) : Calls Tryz.prog 10 #[.nilIface] w fun e w' => e = .returned (.tuple #[.slice none 0 0, .int .i64 1]) ∧ w' = w := by
  go_enter Tryz.func10, Tryz.ntmps10
  go_wp2
  go_ret2
  exact ⟨rfl, rfl⟩
/-- What Of makes. -/
def ofP (p : Fm) : Fm := if chkM p = 0 then p else Fm.zero
set_option maxHeartbeats 4000000 in
theorem ofF_any (p : Fm) (sv : Value) (w : World) (ht : Tb w) (hi : FI w p sv) :
    Calls Tryz.prog 6 #[.agg (plA p sv)] w fun e w' => ∃ sv', e = .returned (.tuple #[frV (ofP p) sv', .int .i64 (chkM p)]) ∧ RSp w' w.heap.size sv' (spO (ofP p)) ∧ Below w.heap.size w w' := by
  obtain ⟨W1, hW1⟩ : ∃ W1, W1 = w.alloc (.cells (plA p sv) 33) := ⟨_, rfl⟩
  have b1 : Below w.heap.size w W1 := by rw [hW1]; exact al_below _ _
  have g1 : PF W1 w.heap.size 33 p sv := by rw [hW1]; exact PF.new w _ p sv
  have HG1 : Hid (PF W1 w.heap.size 33 p sv) := g1
  have HB1 : Hid (Below w.heap.size w W1) := b1
  have HI1 : Hid (FI W1 p sv) := hi.kept b1
  have HT : Hid (Tb w) := ht
  have HR1 : Hid (W1.rangeAt w.heap.size 0 (plL p sv)) := g1.range
  have HSL : Hid ((Tryz.prog.info? 33).map (·.size) = some (plL p sv).length) := by unfold Hid; rw [plL_len hi.k.nl]; exact infoP
  have cc := checkF_any p sv W1 (ht.next b1) HI1.out
  clear ht hi b1 g1
  go_enter Tryz.func6, Tryz.ntmps6
  go_upto_region 1 with fail
  rw [← hW1]
  clear hW1
  go_wp2_with (refine wpList_load_mid rfl 33 _ rfl w.heap.size 0 rfl (plL p sv) _ HR1.out Tryz.underlying33 rfl HSL.out (Hid.out ?_))
  unfold Hid
  go_wp2_with fail
  refine cc.mono ?_
  rintro e w3 ⟨rfl, b3⟩
  have HB3 : Hid (Below w.heap.size w w3) := HB1.out.trans (b3.mono HB1.out.size)
  have HR3 : Hid (w3.rangeAt w.heap.size 0 (plL p sv)) := (HG1.out.kept b3).range
  have HI3 : Hid (FI w3 p sv) := HI1.out.kept b3
  clear cc b3 HR1 HI1 HG1
  by_cases hc : chkM p = 0
  · have cb := buildF_any p _ w3 HI3.out
    have tc : (chkM p != 0) = false := by rw [hc]; rfl
    have HO : Hid (ofP p = p) := by unfold Hid ofP; rw [if_pos hc]
    have HC : Hid (chkM p = 0) := hc
    clear hc
    go_wp2_with (refine wpList_load_mid rfl 33 _ rfl w.heap.size 0 rfl (plL p sv) _ HR3.out Tryz.underlying33 rfl HSL.out (Hid.out ?_))
    unfold Hid
    go_wp2_with fail
    refine cb.mono ?_
    rintro e w4 ⟨s4, rfl, r4, b4⟩
    have HB4 : Hid (Below w.heap.size w w4) := HB3.out.trans (b4.mono HB3.out.size)
    have HR4 : Hid (RSp w4 w.heap.size s4 (spO p)) := RSp.mono r4 HB3.out.size
    clear cb r4 b4 HR3
    go_wp2
    go_ret2
    exact ⟨s4, by rw [HO.out]; first | rfl | (rw [HC.out]; rfl), by rw [HO.out]; exact HR4.out, HB4.out⟩
  · have tc : (chkM p != 0) = true := by simpa using hc
    have HO : Hid (ofP p = Fm.zero) := by unfold Hid ofP; rw [if_neg hc]
    have HNIL : Hid (RSp w3 w.heap.size (.slice none 0 0) (spO Fm.zero)) := RI.nil _ _ _ _
    clear hc
    go_wp2
    go_ret2
    exact ⟨_, by rw [HO.out]; rfl, by rw [HO.out]; exact HNIL.out, HB3.out⟩
theorem as_ack (v : Value) (w : World) : (Instr.typeAssert (.iface 42 v) 29 72 true).run Tryz.prog w = .ok (.tuple #[.agg #[.int .i64 0, .slice none 0 0], .bool false]) w := by kernel_rfl
theorem as_close (v : Value) (w : World) : (Instr.typeAssert (.iface 42 v) 29 85 true).run Tryz.prog w = .ok (.tuple #[.agg #[.int .i64 0, .string ⟨#[]⟩], .bool false]) w := by kernel_rfl
set_option maxHeartbeats 2000000 in
theorem quiet_stream (v : Value) (w : World) : Calls Tryz.prog 35 #[.iface 42 v] w fun e w' => e = .returned (.bool false) ∧ Below w.heap.size w w' := by
  have h1 := as_ack v
  have h2 := as_close v
  have HB : Hid (Below w.heap.size w ((w.alloc (.cells #[.int .i64 0, .slice none 0 0] 72)).alloc (.cells #[.int .i64 0, .string ⟨#[]⟩] 85))) := (al_below _ _).alloc (al_below _ _).size _
  go_enter Tryz.func35, Tryz.ntmps35
  go_wp2
  go_ret
  exact ⟨rfl, HB.out⟩
set_option maxHeartbeats 2000000 in
theorem asks_stream (v : Value) (w : World) : Calls Tryz.prog 12 #[.iface 42 v] w fun e w' => e = .returned (.bool true) ∧ Below w.heap.size w w' := by
  have c := quiet_stream v w
  go_enter Tryz.func12, Tryz.ntmps12
  go_wp2_with fail
  refine c.mono ?_
  rintro e w1 ⟨rfl, b1⟩
  clear c
  go_wp2
  go_ret
  exact ⟨rfl, b1⟩
theorem neq_nilE (w : World) : (binOp BinOp.neq 20 Value.nilIface Value.nilIface).run Tryz.prog w = .ok (.bool false) w := by kernel_rfl
theorem as_str (v : Value) (w : World) : (Instr.typeAssert (.iface 42 v) 29 42 false).run Tryz.prog w = .ok v w := by kernel_rfl
set_option maxHeartbeats 1000000 in
theorem as_idle (q : Addr) (w : World) :
    CallsD Tryz.prog 49 #[.pointer (some q)] .returning w fun e u' w' => e = .returned (.tuple #[]) ∧ u' = .returning ∧ w' = w := by
  have hnn := neq_nilE
  refine callsD_of_wpS Tryz.func49 rfl fun c₀ cs hu => ?_
  apply wpS_seq
  apply wpS_region
  simp [wpOpsS, go_sem, recoverD, hu, Tryz.ntmps49, hnn, Exit.thenS]
  refine wpS_cond (t := false) (by simp [Act.eval, Array.replicate]) ?_
  simp only [Bool.false_eq_true, if_false]
  refine wpS_of_wp (wp_skip ?_)
  cases c₀
  simp_all [bodyPostS, results, Tryz.results49]
set_option maxHeartbeats 2000000 in
theorem asStream_yes (id n : Int) (fin : Bool) (tx : ByteArray) (w : World) :
    Calls Tryz.prog 34 #[.iface 42 (.agg #[.int .i64 id, .int .i64 n, .bool fin, .string tx])] w fun e w' => e = .returned (.tuple #[.agg #[.int .i64 id, .int .i64 n, .bool fin, .string tx], .int .i64 0]) ∧ Below w.heap.size w w' := by
  have h1 := as_str (.agg #[.int .i64 id, .int .i64 n, .bool fin, .string tx])
  go_enter_defers Tryz.func34, Tryz.ntmps34
  go_wp2
  have HB : Hid (Below w.heap.size w ((w.alloc (.cells #[.int .i64 id, .int .i64 n, .bool fin, .string tx] 42)).alloc (.cells #[.int .i64 0] 30))) := (al_below _ _).alloc (al_below _ _).size _
  have g1 : ((w.alloc (.cells #[.int .i64 id, .int .i64 n, .bool fin, .string tx] 42)).alloc (.cells #[.int .i64 0] 30)).heap[w.heap.size]? = some (.cells #[.int .i64 id, .int .i64 n, .bool fin, .string tx] 42 (0, 0)) := blk_kept (heap_alloc_new w _) (al_below _ _) (blk_lt (heap_alloc_new w _))
  have g2 : ((w.alloc (.cells #[.int .i64 id, .int .i64 n, .bool fin, .string tx] 42)).alloc (.cells #[.int .i64 0] 30)).heap[w.heap.size + 1]? = some (.cells #[.int .i64 0] 30 (0, 0)) := by
    have := heap_alloc_new (w.alloc (.cells #[.int .i64 id, .int .i64 n, .bool fin, .string tx] 42)) (.cells #[.int .i64 0] 30)
    simpa using this
  refine leaves_cons (f := 49) (args := #[.pointer (some ⟨w.heap.size + 1, 0, none⟩)]) (by simp) (by simp [go_sem]) ?_
  refine (as_idle _ _).mono ?_
  rintro e u' w2 ⟨rfl, rfl, rfl⟩
  obtain ⟨WZ, hWZ⟩ : ∃ WZ, WZ = ((w.alloc (.cells #[.int .i64 id, .int .i64 n, .bool fin, .string tx] 42)).alloc (.cells #[.int .i64 0] 30)) := ⟨_, rfl⟩
  rw [← hWZ] at g1 g2 HB ⊢
  have k0 : WZ.cell? ⟨w.heap.size, 0, none⟩ = some (.int .i64 id) := by simp [World.cell?, g1]
  have k1 : WZ.cell? ⟨w.heap.size, 1, none⟩ = some (.int .i64 n) := by simp [World.cell?, g1]
  have k2 : WZ.cell? ⟨w.heap.size, 2, none⟩ = some (.bool fin) := by simp [World.cell?, g1]
  have k3 : WZ.cell? ⟨w.heap.size, 3, none⟩ = some (.string tx) := by simp [World.cell?, g1]
  have q0 : WZ.cell? ⟨w.heap.size + 1, 0, none⟩ = some (.int .i64 0) := by simp [World.cell?, g2]
  refine ⟨_, ?_, rfl, HB.out⟩
  simp [results, Tryz.results34, go_sem, k0, k1, k2, k3, q0]
end Go.Proofs.YtmplpdjkhdaniaaGreatDoor
