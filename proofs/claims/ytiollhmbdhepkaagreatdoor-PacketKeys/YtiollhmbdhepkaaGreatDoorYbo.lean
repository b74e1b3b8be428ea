/-
  What All answers.
  What mac.Open answers; nothing that was there is changed.
  What is opened, plainly; frames of an own row where other blocks are changed.
  What lay answers: the bytes of frames, or the first error.
-/
import Derived.Test.YtiollhmbdhepkaaGreatDoorYbg
import Derived.Test.YtiollhmbdhepkaaGreatDoorYbn
import Derived.Test.YtiollhmbdhepkaaGreatDoorYbb
import Derived.Lib.BufferWrite
import Derived.Defers
import Derived.Recover
import Derived.Deep.RegionWith
import Derived.Stop.IfaceNil
import Derived.WideLaws
import Derived.Test.YtiollhmbdhepkaaGreatDoorYba
import Derived.Test.YtiollhmbdhepkaaGreatDoorYbe
import Derived.Test.YtiollhmbdhepkaaGreatDoorYbc
namespace Go.Proofs.YtiollhmbdhepkaaGreatDoor
open Go.RowKit Go.Shelf
set_option maxRecDepth 100000

def lnV : Value → Nat
  | .slice _ n _ => n
  | _ => 0
end Go.Proofs.YtiollhmbdhepkaaGreatDoor
namespace Go.Proofs.YtiollhmbdhepkaaGreatDoor.Mc
open Go.Proofs.YtiollhmbdhepkaaGreatDoor.Sh Go.Proofs.YtiollhmbdhepkaaGreatDoor.Fi
set_option maxRecDepth 100000
open Go.RowKit

/-- What opening answers: an error, or none. -/
def opE (K H S : List Int) : Int := if S.length < 16 then 3 else if S.drop (S.length - 16) = btag K H (S.take (S.length - 16)) then 0 else 15
/-- And the bytes. -/
def opX (K H S : List Int) : List Int := if opE K H S = 0 then S.take (S.length - 16) else []

set_option maxHeartbeats 4000000 in
set_option maxRecDepth 100000 in
theorem open_any (KB : List Int) (h v : Value) (H S : List Int) (w : World) (hK : KB.length = 32) (hKb : Pl.Byt KB) (ht : Tabs w) (sh : Sl w h H) (sv : Sl w v S) (hH : H.length ≤ 140737488351232) (hS : S.length ≤ 140737488351232) :
    Calls Tryz.prog 67 #[.agg (u8s KB), h, v] w fun e w' => ∃ v', e = .returned (.tuple #[v', .int .i64 (opE KB H S)]) ∧ Sl w' v' (opX KB H S) ∧ Below w.heap.size w w' := by
  obtain ⟨wa, hwa⟩ : ∃ wa, wa = w.alloc (.cells (u8s KB) 47) := ⟨_, rfl⟩
  have ba : Below w.heap.size w wa := by rw [hwa]; exact al_below _ _
  have hwz : w.alloc (.cells (u8s KB) 47) = wa := hwa.symm
  have HGA : Hid (wa.heap[w.heap.size]? = some (.cells (u8s KB) 47 (0, 0))) := by unfold Hid; rw [hwa]; exact heap_alloc_new _ _
  have HI : Hid ((Tryz.prog.info? 47).map (·.size) = some (u8s KB).size) := by unfold Hid; rw [u8s_size, hK]; exact size26
  have sva := sv.kept ba
  obtain ⟨a, cap, rfl, h1, h2, h3, h4⟩ := id sva
  by_cases hs : S.length < 16
  · have e1 : opE KB H S = 3 := by unfold opE; rw [if_pos hs]
    have e2 : opX KB H S = [] := by unfold opX; rw [e1]; rfl
    rw [e1, e2]
    have HBA : Hid (Below w.heap.size w wa) := ba
    obtain ⟨ah, ch, rfl, -⟩ := sh
    clear e1 e2 sv sva h4 h3 hwa ba hK hKb ht
    generalize S.length = L at *
    generalize H.length = hl at *
    generalize u8s KB = KU at *
    go_enter Tryz.func67, Tryz.ntmps67
    go_wp2
    go_ret2
    exact ⟨_, rfl, Sl.none _, HBA.out⟩
  · obtain ⟨b, off, rfl⟩ : ∃ b off, a = some ⟨b, off, none⟩ := by
      rcases h4 with h | ⟨_, b, off, e, _⟩
      · omega
      · exact ⟨b, off, e⟩
    have st := sva.take (S.length - 16) (by omega)
    have sd := sva.drop (S.length - 16) (by omega)
    have hX : Hid (opE KB H S = if S.drop (S.length - 16) = btag KB H (S.take (S.length - 16)) then 0 else 15) := by unfold Hid opE; rw [if_neg hs]
    have hY : Hid (opX KB H S = if opE KB H S = 0 then S.take (S.length - 16) else []) := rfl
    have hA : (S.take (S.length - 16)).length ≤ 140737488351232 := by rw [List.length_take]; omega
    have HAB : Hid (Pl.Byt (S.take (S.length - 16))) := bytes_take S (S.length - 16) sv.bytes
    generalize opX KB H S = X at *
    generalize opE KB H S = E at *
    generalize S.take (S.length - 16) = A at *
    generalize S.drop (S.length - 16) = D at *
    have HC27 : Hid (∀ W, Below wa.heap.size wa W → Calls Tryz.prog 84 #[.agg (u8s KB), h, .slice (some ⟨b, off, none⟩) (S.length - 16) cap] W fun e w' => ∃ v', e = .returned v' ∧ w'.ownsRow W.heap.size 5 1 v' 16 ((btag KB H A).map (Value.int .u8)) ∧ Below W.heap.size W w') := fun W hW =>
      btag_any KB h _ H A W hK hKb ((ht.kept ba).kept hW) ((sh.kept ba).kept hW) (st.kept hW) hH hA
    have HD : Hid (∀ W, Below wa.heap.size wa W → Sl W (.slice (some ⟨b, off + (S.length - 16), none⟩) (S.length - (S.length - 16)) (cap - (S.length - 16))) D) := fun W hW => sd.kept hW
    have HA : Hid (∀ W, Below wa.heap.size wa W → Sl W (.slice (some ⟨b, off, none⟩) (S.length - 16) cap) A) := fun W hW => st.kept hW
    have HBA : Hid (∀ W, Below wa.heap.size wa W → Below w.heap.size w W) := fun W hW => ba.trans (hW.mono ba.size)
    have HTB : Hid (Pl.Byt (btag KB H A)) := tagB_byt _ _
    have HTL : Hid ((btag KB H A).length = 16) := tagB_len _ _
    have HAL : Hid (A.length ≤ 200000000000000) := Nat.le_trans hA (by omega)
    obtain ⟨ah, ch, rfl, -⟩ := sh
    clear hwa ba ht hK hKb sv sva h4 h3 st sd hA
    generalize btag KB H A = T at *
    obtain ⟨M, hM⟩ : ∃ M, S.length = M + 16 := ⟨S.length - 16, by omega⟩
    rw [hM] at HC27 HD HA h1 hS hs ⊢
    rw [show M + 16 - 16 = M by omega, show M + 16 - M = 16 by omega] at HD
    rw [show M + 16 - 16 = M by omega] at HA HC27
    clear hM hs
    generalize H.length = hl at *
    generalize u8s KB = KU at *
    unfold maxLen at h2
    have hcM : ¬ cap = M := by omega
    have g1 : (M : Int) ≤ (cap : Int) := by omega
    have g2 : (M : Int) ≤ ((M + 16 : Nat) : Int) := by omega
    go_enter Tryz.func67, Tryz.ntmps67
    go_wp2
    go_quiet (fail)
    have BD : Below wa.heap.size wa (wa.drewN nq) := ⟨rfl, rfl, rfl, Nat.le_refl _, fun _ _ => rfl⟩
    have HGD : Hid ((wa.drewN nq).heap[w.heap.size]? = some (.cells KU 47 (0, 0))) := HGA.out
    have c27 := HC27.out _ BD
    generalize wa.drewN nq = wd at *
    have HBD : Hid (Below wa.heap.size wa wd) := BD
    clear BD HC27 HGA
    go_wp2_with (refine wpList_load_row rfl 47 _ rfl w.heap.size rfl 47 KU (0, 0) _ HGD.out Tryz.underlying47 rfl HI.out ?_)
    refine c27.mono ?_
    rintro e w1 ⟨v1, rfl, own1, b1⟩
    have s1 := sl_owned own1 HTB.out
    have B1 : Hid (Below wa.heap.size wa w1) := HBD.out.trans (b1.mono HBD.out.size)
    have c3 := equal_any _ v1 D T w1 (HD.out w1 B1.out) s1
    obtain ⟨a1, k1, rfl, -⟩ := id s1
    rw [HTL.out] at c3 ⊢
    clear c27 own1 b1 s1 HTB
    by_cases hq : D = T
    · have hE : E = 0 := by rw [hX.out, if_pos hq]
      have hXA : X = A := by rw [hY.out, if_pos hE]
      have hb : (D == T) = true := by simp [hq]
      rw [hb] at c3
      subst hE
      subst hXA
      clear hq hX hY hb HTL
      go_wp2_with fail
      refine c3.mono ?_
      rintro e w2 ⟨rfl, b2⟩
      have B2 : Hid (Below wa.heap.size wa w2) := B1.out.trans (b2.mono B1.out.size)
      have c4 := clone_any _ X w2 (HA.out w2 B2.out) HAL.out
      clear c3 b2
      go_wp2_with fail
      refine c4.mono ?_
      rintro e w3 ⟨v3, rfl, own3, b3⟩
      have S3 : Hid (Sl w3 v3 X) := sl_owned own3 HAB.out
      have B3 : Hid (Below w.heap.size w w3) := HBA.out _ (B2.out.trans (b3.mono B2.out.size))
      clear c4 own3 b3
      go_wp2
      go_ret2
      exact ⟨_, rfl, S3.out, B3.out⟩
    · have hE : E = 15 := by rw [hX.out, if_neg hq]
      have hXA : X = [] := by rw [hY.out, hE]; rfl
      have hb : (D == T) = false := by simp [hq]
      rw [hb] at c3
      subst hE
      subst hXA
      clear hq hX hY hb HTL
      go_wp2_with fail
      refine c3.mono ?_
      rintro e w2 ⟨rfl, b2⟩
      have B2 : Hid (Below w.heap.size w w2) := HBA.out _ (B1.out.trans (b2.mono B1.out.size))
      clear c3 b2
      go_wp2
      go_ret2
      exact ⟨_, rfl, Sl.none _, B2.out⟩
end Go.Proofs.YtiollhmbdhepkaaGreatDoor.Mc
namespace Go.Proofs.YtiollhmbdhepkaaGreatDoor
open Go.RowKit Go.Proofs.YtiollhmbdhepkaaGreatDoor.Sh
set_option maxRecDepth 100000

structure Opn where
  k : Int
  c : Int
  n : Int
  body : List Int
  fs : List Fm
  e : Int
def opErr (e : Int) : Opn := ⟨0, 0, 0, [], [], e⟩
/-- What Open answers. -/
def opM (K xs : List Int) : Opn :=
  let r := rdM xs
  if r.e ≠ 0 then opErr r.e
  else if Mc.opE K (hdL r.k r.c r.n) r.sld ≠ 0 then opErr (Mc.opE K (hdL r.k r.c r.n) r.sld)
  else if (allM r.body).2 ≠ 0 then opErr (allM r.body).2
  else ⟨r.k, r.c, r.n, r.body, (allM r.body).1, 0⟩
theorem rdM_bd (xs : List Int) (h : BB xs) : 0 ≤ (rdM xs).k ∧ (rdM xs).k < 256 := by
  unfold rdM
  split
  · exact ⟨by decide, by decide⟩
  · split
    · exact ⟨by decide, by decide⟩
    · simp only
      split
      · exact ⟨Int.le_refl 0, show (0 : Int) < 256 by decide⟩
      · split
        · exact ⟨Int.le_refl 0, show (0 : Int) < 256 by decide⟩
        · exact (rBt_len xs h).2.2
theorem rdM_le (xs : List Int) : (rdM xs).body.length ≤ xs.length ∧ (rdM xs).sld.length ≤ xs.length ∧ (rdM xs).sld.length ≤ 1200 := by
  unfold rdM
  split
  · exact ⟨Nat.zero_le _, Nat.zero_le _, Nat.zero_le _⟩
  · rename_i hl
    split
    · exact ⟨Nat.zero_le _, Nat.zero_le _, Nat.zero_le _⟩
    · simp only
      split
      · exact ⟨Nat.zero_le _, Nat.zero_le _, Nat.zero_le _⟩
      · split
        · exact ⟨Nat.zero_le _, Nat.zero_le _, Nat.zero_le _⟩
        · simp only [List.length_take, List.length_drop]
          omega
theorem RF.keep {W W' : World} {B : Nat} {v : Value} {l : List Fm} (h : RF W B v l) (hk : ∀ (k : Nat) (cs : Array Value) (t : TypeId), t = 29 ∨ t = 131 → W.heap[k]? = some (.cells cs t (0, 0)) → W'.heap[k]? = some (.cells cs t (0, 0))) : RF W' B v l := by
  obtain ⟨V, h1, h2⟩ := h
  refine ⟨V, ⟨h1.1, ?_⟩, fun i hi => ?_⟩
  · rcases h1.2 with h3 | ⟨g, cap, cur, e1, e2, e3, e4⟩
    · exact .inl h3
    · exact .inr ⟨g, cap, cur, e1, e2, hk _ _ _ (.inl rfl) e3, e4⟩
  · obtain ⟨sv, h3, h4⟩ := h2 i hi
    exact ⟨sv, h3, h4.keep fun k cs _ hh => hk _ _ _ (.inr rfl) hh⟩
theorem RF.mono {w : World} {B B' : Nat} {v : Value} {l : List Fm} (h : RF w B v l) (hB : B' ≤ B) : RF w B' v l := by
  obtain ⟨V, h1, h2⟩ := h
  refine ⟨V, own_mono h1 hB, fun i hi => ?_⟩
  obtain ⟨sv, h3, h4⟩ := h2 i hi
  exact ⟨sv, h3, RSp.mono h4 hB⟩
theorem GB.four {w : World} {g : Nat} {k c n : Int} {bv sv : Value} (h : GB w g k c n bv sv) : w.rangeAt g 0 [.int .u8 k, .int .i64 c, .int .i64 n, bv] := by
  obtain ⟨c0, c1, c2, c3, -⟩ := h.gc
  intro j v hv
  rw [Nat.zero_add]
  match j, hv with
  | 0, hv => cases hv; exact c0
  | 1, hv => cases hv; exact c1
  | 2, hv => cases hv; exact c2
  | 3, hv => cases hv; exact c3
  | j + 4, hv => simp at hv
theorem range_sumK {w : World} {g : Nat} {K : List Int} {t : TypeId} {fr : Nat × Nat} (h : w.heap[g]? = some (.cells (u8s K) t fr)) : w.rangeAt g 0 (K.map (Value.int .u8)) := Mc.range_sum h
theorem retO {tmps : Array Value} {w : World} {g : Nat} {cs : Array Value} {t : TypeId} {fr : Nat × Nat} (hp : tmps.getD 4 undef = .pointer (some ⟨g, 0, none⟩))
    (hg : w.heap[g]? = some (.cells cs t fr)) (hl : (Tryz.prog.info? 51).map (·.size) = some cs.size) : (results Tryz.f30 tmps).run Tryz.prog w = .ok (.tuple #[.agg cs, tmps.getD 5 undef, tmps.getD 6 undef]) w := by
  have hld : (loadVar 51 ⟨g, 0, none⟩).run Tryz.prog w = .ok (.agg cs) w := run_loadVar_row w g t 51 cs fr _ hg Tryz.underlying51 rfl hl
  have hr : Tryz.f30.results = #[.cell 4 51, .tmp 5, .tmp 6] := rfl
  have hp' : tmps[4]?.getD undef = .pointer (some ⟨g, 0, none⟩) := by simpa using hp
  simp [results, hp', asAddr, hld]
end Go.Proofs.YtiollhmbdhepkaaGreatDoor
namespace Go.Proofs.YtiollhmbdhepkaaGreatDoor
open Go.RowKit Go.Shelf
set_option maxRecDepth 100000

/-- What the types say of frames, and that each is one. -/
structure FG (p : Fm) : Prop where
  k : FK p
  kk : isK p.k = true
  nb : ¬ badF p
  l : p.sp.length ≤ 100000
  t : p.tx.size ≤ 140737488355328
theorem FG.fp {w : World} {B : Nat} {p : Fm} {sv : Value} (h : FG p) (hs : RSp w B sv (spO p)) : FP w p sv :=
  ⟨h.k, h.kk, h.nb, fun q => by have := hs.is; unfold spO at this; rwa [if_pos q] at this, h.l, h.t⟩
def layE : List Fm → Int
  | [] => 0
  | p :: l => if chkM p ≠ 0 then chkM p else layE l
def layL (l : List Fm) : List Int := if layE l = 0 then (l.map putM).flatten else []
def atG (l : List Fm) (j : Nat) : Fm := l.getD j Fm.zero
theorem drop_at (l : List Fm) (j : Nat) (h : j < l.length) : l.drop j = atG l j :: l.drop (j + 1) := by
  rw [List.drop_eq_getElem_cons h]
  simp [atG, List.getD, h]
theorem take_at (l : List Fm) (j : Nat) (h : j < l.length) : l.take (j + 1) = l.take j ++ [atG l j] := by
  rw [List.take_add_one]
  simp [atG, List.getD, h]
theorem put_le {p : Fm} (h : Ok p) (hn : p.nc.length = 16) : (putM p).length ≤ 1150 := by
  have := hdB_len h hn
  rw [putM_eq, List.length_cons, List.length_append]
  omega
theorem puts_le : ∀ {l : List Fm}, (∀ p ∈ l, FG p) → layE l = 0 → (l.map putM).flatten.length ≤ 1150 * l.length
  | [], _, _ => by simp
  | p :: l, h, he => by
    have h1 := h p (List.mem_cons_self ..)
    unfold layE at he
    by_cases hc : chkM p = 0
    · rw [if_neg (fun q => q hc)] at he
      have h2 := puts_le (l := l) (fun x hx => h x (List.mem_cons_of_mem _ hx)) he
      have h3 := put_le (chkM_ok hc) h1.k.nl
      simp only [List.map_cons, List.flatten_cons, List.length_append, List.length_cons]
      omega
    · rw [if_pos hc] at he
      exact absurd he hc
theorem puts_byt {w : World} {B : Nat} {v : Value} {l : List (List Int)} (h : LQ w B v l) : Sh.Pl.Byt l.flatten := by
  obtain ⟨V, -, h⟩ := h
  have key : ∀ X ∈ l, Sh.Pl.Byt X := fun X hX => by
    obtain ⟨i, hi, rfl⟩ := List.mem_iff_getElem.1 hX
    obtain ⟨u, _, hp⟩ := h i hi
    have := hp.1.bytes
    rwa [show l.getD i [] = l[i] by simp [List.getD, hi]] at this
  clear h V
  induction l with
  | nil => intro i; simp
  | cons X l ih => rw [List.flatten_cons]; exact byt_cat (key X (List.mem_cons_self ..)) (ih fun Y hY => key Y (List.mem_cons_of_mem _ hY))
theorem RF.at2 {w : World} {B : Nat} {a : Option Addr} {n c : Nat} {l : List Fm} (h : RF w B (.slice a n c) l) (i : Nat) (hi : i < l.length) :
    ∃ b sv, a = some ⟨b, 0, none⟩ ∧ w.cell? ⟨b, i, none⟩ = some (frV (l.getD i Fm.zero) sv) ∧ RSp w B sv (spO (l.getD i Fm.zero)) := by
  obtain ⟨V, ho, h⟩ := h
  have ho' := ho
  obtain ⟨sv, h3, h4⟩ := h i hi
  rcases ho.2 with ⟨hv, h0⟩ | ⟨g, cap, cur, hv, _⟩
  · omega
  · cases hv
    refine ⟨g, sv, rfl, ?_, h4⟩
    have := ho'.cells (g := g) rfl i _ h3
    rwa [Addr.add_lit, Nat.zero_add] at this
theorem LQ.nil (w : World) (B : Nat) : LQ w B (.slice none 0 0) [] := ⟨[], World.ownsRow_nil _ _ _ _, fun i hi => by simp at hi⟩
theorem LQ.shape {w : World} {B : Nat} {v : Value} {l : List (List Int)} (h : LQ w B v l) : ∃ a c, v = .slice a l.length c := by
  obtain ⟨V, h1, -⟩ := h
  rcases h1.2 with ⟨e, h0⟩ | ⟨g, cap, cur, e, -⟩
  · exact ⟨none, 0, by rw [h0]; exact e⟩
  · exact ⟨_, _, e⟩
set_option maxHeartbeats 8000000 in
theorem play_any (v : Value) (l : List Fm) (w : World) (B : Nat) (ht : Tb w) (h : RF w B v l) (hg : ∀ p ∈ l, FG p) (hl : l.length ≤ 100000)
    (hput : ∀ p ∈ l, ∀ (sv : Value) (w : World), Tb w → FP w p sv → (∃ t y, frV p sv = .iface t y) → Calls Tryz.prog 14 #[frV p sv] w fun e w' => ∃ v, e = .returned (.tuple #[v, .int .i64 (chkM p)]) ∧ Ow w' w.heap.size v (putR p) ∧ Below w.heap.size w w') :
    Calls Tryz.prog 65 #[v] w fun e w' => ∃ v', e = .returned (.tuple #[v', .int .i64 (layE l)]) ∧ Ow w' w.heap.size v' (layL l) ∧ Below w.heap.size w w' := by
  have HT : Hid (Tb w) := ht
  have HR : Hid (RF w B v l) := h
  have HG : Hid (∀ p ∈ l, FG p) := hg
  obtain ⟨a0, c0, rfl⟩ := h.shape
  have HPT : Hid (∀ p ∈ l, ∀ (sv : Value) (w : World), Tb w → FP w p sv → (∃ t y, frV p sv = .iface t y) → Calls Tryz.prog 14 #[frV p sv] w fun e w' => ∃ v, e = .returned (.tuple #[v, .int .i64 (chkM p)]) ∧ Ow w' w.heap.size v (putR p) ∧ Below w.heap.size w w') := hput
  clear hput
  have HPL : Hid (layE l = 0 → (l.map putM).flatten.length ≤ 1150 * l.length) := fun q => puts_le hg q
  obtain ⟨n, hn⟩ : ∃ n, n = l.length := ⟨_, rfl⟩
  have HN : Hid (n = l.length) := hn
  rw [← hn] at hl ⊢
  obtain ⟨R, hR⟩ : ∃ R, R = layE l := ⟨_, rfl⟩
  have HRE : Hid (layE l = R) := hR.symm
  obtain ⟨L, hL⟩ : ∃ L, L = layL l := ⟨_, rfl⟩
  have HLE : Hid (layL l = L) := hL.symm
  rw [← hR, ← hL]
  clear ht h hg hn hR hL
  go_enter Tryz.func65, Tryz.ntmps65
  go_wp2
  go_loopw [4, 11] (fun p4 z wr => ∃ j : Nat, j ≤ n ∧ z = .int .i64 j ∧ layE (l.drop j) = R ∧ LQ wr w.heap.size p4 ((l.take j).map putM) ∧ Below w.heap.size w wr) (fun _ z _ => n - (intOf z).toNat)
  case atStart => exact ⟨0, by omega, rfl, HRE.out, LQ.nil _ _, Below.refl _ _⟩
  case round =>
    obtain ⟨j, hj, rfl, hd, hq, hb⟩ := hrel
    have HB : Hid (Below w.heap.size w wr) := hb
    have HQ : Hid (LQ wr w.heap.size u4 ((l.take j).map putM)) := hq
    have HD : Hid (layE (l.drop j) = R) := hd
    obtain ⟨qa, qc, rfl⟩ := LQ.shape hq
    have hql : ((l.take j).map putM).length = j := by rw [List.length_map, List.length_take, ← HN.out]; omega
    clear hd hq hb
    by_cases hlt : j < n
    · have lt2 : (j : Int) < (n : Int) := by omega
      obtain ⟨bb, sv, rfl, hc, hsp⟩ := RF.at2 HR.out j (by rw [← HN.out]; exact hlt)
      have hmem : FG (atG l j) := HG.out _ (by have h2 : j < l.length := by rw [← HN.out]; exact hlt
                                               rw [show atG l j = l[j] by simp [atG, List.getD, h2]]; exact List.getElem_mem h2)
      have hme : atG l j ∈ l := by
        have h2 : j < l.length := by rw [← HN.out]; exact hlt
        rw [show atG l j = l[j] by simp [atG, List.getD, h2]]
        exact List.getElem_mem h2
      have hda := drop_at l j (by rw [← HN.out]; exact hlt)
      have hta := take_at l j (by rw [← HN.out]; exact hlt)
      change w.cell? _ = some (frV (atG l j) sv) at hc
      change RSp w B sv (spO (atG l j)) at hsp
      have hde := HD.out
      rw [hda] at hde
      unfold layE at hde
      have hcr := (HB.out.cell (World.block_lt_of_cell? _ _ hc)).trans hc
      obtain ⟨ty, y, hy⟩ := frV_iface hmem.kk sv
      have cp := HPT.out (atG l j) hme sv wr (HT.out.next HB.out) (hmem.fp (hsp.below HB.out)) ⟨ty, y, hy⟩
      rw [hy] at cp hcr
      have HTA : Hid ((l.take (j + 1)).map putM = (l.take j).map putM ++ [putM (atG l j)]) := by unfold Hid; rw [hta, List.map_append]; rfl
      rw [hql]
      have HQL : Hid (((l.take j).map putM).length = j) := hql
      obtain ⟨AC, hAC⟩ : ∃ AC, AC = (l.take j).map putM := ⟨_, rfl⟩
      rw [← hAC] at HQ HTA HQL
      rw [HQL.out] at HQ
      obtain ⟨p, hp⟩ : ∃ p, p = atG l j := ⟨_, rfl⟩
      rw [← hp] at cp hde HTA
      clear hme hmem hda hta hc hsp hy hql hAC hp HD
      by_cases hz : chkM p = 0
      · have hz' : (chkM p != 0) = false := by rw [hz]; rfl
        rw [if_neg (fun q => q hz)] at hde
        have HDE : Hid (layE (l.drop (j + 1)) = R) := hde
        have HPR : Hid (putR p = putM p) := by unfold Hid putR; rw [if_pos hz]
        clear hde hz
        generalize chkM p = ce at *
        go_wp2_with fail
        refine cp.mono ?_
        rintro e w1 ⟨v1, rfl, o1, b1⟩
        rw [HPR.out] at o1
        have hPt := Pt.ow o1
        obtain ⟨oa, oc, rfl, -⟩ := id o1.sl
        obtain ⟨ol, hol⟩ : ∃ ol, ol = (putM p).length := ⟨_, rfl⟩
        rw [← hol] at hPt ⊢
        obtain ⟨W2, hW2⟩ : ∃ W2, W2 = w1.alloc (.cells #[.slice oa ol oc] 34) := ⟨_, rfl⟩
        have b2 : Below w1.heap.size w1 W2 := by rw [hW2]; exact al_below _ _
        have b12 : Below wr.heap.size wr W2 := b1.trans (b2.mono b1.size)
        have HB2 : Hid (Below w.heap.size w W2) := HB.out.trans (b12.mono HB.out.size)
        have HQ2 : Hid (LQ W2 w.heap.size (.slice qa j qc) AC) := HQ.out.below b12
        have HPt : Hid (Pt W2 (.slice oa ol oc) (putM p)) := hPt.below b2
        have HC2 : Hid (W2.cell? ⟨w1.heap.size, 0, none⟩ = some (.slice oa ol oc)) := by unfold Hid; rw [hW2, World.cell?_alloc_at _ _ _ _ rfl]; rfl
        have HAL : Hid (AC.length ≤ 100000) := by unfold Hid; rw [HQL.out]; omega
        clear cp o1 b1 b2 b12 HQ HB hPt hol HPR hcr
        go_wp2_with (at_builtin; rw [← hW2]; refine wpList_append_lq rfl _ _ rfl w.heap.size _ AC rfl HQ2.out w1.heap.size _ (putM p) 1 HPt.out rfl HC2.out HAL.out HB2.out.size (Hid.out ?_))
        unfold Hid
        intro v3 w3 r3 b3
        try rw [← hW2] at b3
        clear hW2
        have HB3 : Hid (Below w.heap.size w w3) := HB2.out.trans b3
        have HQ3 : Hid (LQ w3 w.heap.size v3 (AC ++ [putM p])) := r3
        obtain ⟨va, vc, rfl⟩ := LQ.shape r3
        have hk1 : (j : Int) + 1 ≤ 100000 := by omega
        clear b3 r3
        go_wp2
        go_roundw
        case rel => exact ⟨j + 1, by omega, rfl, HDE.out, by rw [HTA.out]; exact HQ3.out, HB3.out⟩
        case measure => (simp [intOf]; omega)
      · have hz' : (chkM p != 0) = true := by simpa using hz
        rw [if_pos hz] at hde
        have HNE : Hid (chkM p = R) := hde
        have HLN : Hid (L = []) := by unfold Hid; rw [← HLE.out]; unfold layL; rw [if_neg (by rw [HRE.out, ← hde]; exact hz)]
        clear hde hz
        generalize chkM p = ce at *
        go_wp2_with fail
        refine cp.mono ?_
        rintro e w1 ⟨v1, rfl, o1, b1⟩
        have HB1 : Hid (Below w.heap.size w w1) := HB.out.trans (b1.mono HB.out.size)
        clear cp o1 b1
        go_wp2
        go_ret2
        exact ⟨_, by rw [HNE.out]; rfl, by rw [HLN.out]; exact ⟨World.ownsRow_nil _ _ _ _, fun k => by simp⟩, HB1.out⟩
    · obtain rfl : j = n := by omega
      have lt2 : ¬ (j : Int) < (j : Int) := by omega
      have hd0 := HD.out
      rw [show l.drop j = [] by rw [HN.out]; exact List.drop_length] at hd0
      have hq := HQ.out
      rw [show l.take j = l by rw [HN.out]; exact List.take_length] at hq
      have HLN : Hid (L = (l.map putM).flatten) := by unfold Hid; rw [← HLE.out]; unfold layL; rw [if_pos (by rw [HRE.out, ← hd0]; rfl)]
      have HR0 : Hid (R = 0) := hd0.symm
      have hbig := HPL.out (by rw [HRE.out]; exact HR0.out)
      have HBY : Hid (Sh.Pl.Byt (l.map putM).flatten) := puts_byt hq
      obtain ⟨pp, pc, e4, hP⟩ := LQ.parts hq (by rw [List.length_map, ← HN.out]; exact hl)
      have cj := Fi.join_any pp pc ((l.map putM)) wr hP (by rw [← HN.out] at hbig; omega)
      rw [← e4] at cj
      rw [hql]
      rw [List.length_map, ← HN.out] at cj
      clear hd0 hq hbig e4 hP hql HQ HD HR HG HPL
      go_wp2_with fail
      refine cj.mono ?_
      rintro e w1 ⟨v1, rfl, o1, b1⟩
      have O1 : Hid (Ow w1 w.heap.size v1 (l.map putM).flatten) := ⟨own_mono o1 HB.out.size, HBY.out⟩
      have HB1 : Hid (Below w.heap.size w w1) := HB.out.trans (b1.mono HB.out.size)
      clear cj o1 b1
      go_wp2
      go_ret2
      exact ⟨_, by rw [HR0.out]; rfl, by rw [HLN.out]; exact O1.out, HB1.out⟩

end Go.Proofs.YtiollhmbdhepkaaGreatDoor
