/-
  What own answers: the entry with bytes of its own.
-/
import Derived.Test.YtajcabfeabbknaaDoorEn
namespace Go.Proofs.YtajcabfeabbknaaDoor
open Go.RowKit

/-- A value that is an entry. -/
def EV (w : World) (v : Value) (x : En) : Prop := ∃ ua un uc, v = .agg #[.string x.p, .bool x.d, .slice ua un uc] ∧ Sl w (.slice ua un uc) x.z
theorem EV.kept {w w' : World} {v : Value} {x : En} (h : EV w v x) (hb : Below w.heap.size w w') : EV w' v x := by
  obtain ⟨ua, un, uc, h1, h2⟩ := h
  exact ⟨ua, un, uc, h1, h2.kept hb⟩
theorem own_shape {w : World} {B n : Nat} {e : TypeId} {s : Nat} {v : Value} {xs : List Value} (h : w.ownsRow B e s v n xs) : ∃ a c, v = .slice a n c := by
  obtain ⟨h1, h2⟩ := h
  rcases h2 with ⟨rfl, h2⟩ | ⟨g, cap, cur, hv, _⟩
  · exact ⟨none, 0, by rw [h2]⟩
  · exact ⟨_, cap, hv⟩

set_option maxHeartbeats 1000000 in
theorem joinB_any (u : Value) (Z : List Int) (w : World) (g : Nat) (hc : w.cell? ⟨g, 0, none⟩ = some u) (hu : Sl w u Z) (hb : Z.length ≤ 100000) :
    Calls Tryd.prog 64 #[.slice (some ⟨g, 0, none⟩) 1 1] w fun e w' => ∃ v, e = .returned v ∧ w'.ownsRow w.heap.size 5 1 v Z.length (Z.map (Value.int .u8)) ∧ Below w.heap.size w w' := by
  have HU : Hid (Sl w u Z) := hu
  have HZ : Hid (Z.length ≤ 100000) := hb
  have o0 : Hid (w.ownsRow w.heap.size 5 1 (.slice none 0 0) 0 []) := World.ownsRow_nil _ _ _ _
  clear hu hb
  go_enter Tryd.func64, Tryd.ntmps64
  go_wp2
  refine wp_loop_rounds 2 ?_
  rw [rounds_succ]
  go_wp2_with (at_builtin; refine wpList_append_sl rfl _ _ rfl w.heap.size _ 0 [] rfl o0.out u Z rfl HU.out (by have := HZ.out; omega) (Nat.le_refl _) (Hid.out ?_))
  unfold Hid
  intro v' w1 o1 g1
  have O1 : Hid (w1.ownsRow w.heap.size 5 1 v' Z.length (Z.map (Value.int .u8))) := o1
  have B1 : Hid (Below w.heap.size w w1) := (Below.refl _ _).grown g1 (Nat.le_refl _) (own_base o0.out)
  clear o1 g1 o0
  go_wp2
  rw [rounds_succ]
  go_wp2
  go_ret
  exact ⟨_, rfl, O1.out, B1.out⟩
/-- The three cells of a block. -/
theorem trio {w : World} {b : Nat} {x y z : Value} {t : TypeId} (h : w.heap[b]? = some (.cells #[x, y, z] t (0, 0))) : w.cell? ⟨b, 0, none⟩ = some x ∧ w.cell? ⟨b, 1, none⟩ = some y ∧ w.cell? ⟨b, 2, none⟩ = some z ∧
    w.frozen? ⟨b, 0, none⟩ = false ∧ w.frozen? ⟨b, 1, none⟩ = false ∧ w.frozen? ⟨b, 2, none⟩ = false := by
  refine ⟨?_, ?_, ?_, ?_, ?_, ?_⟩ <;> simp [World.cell?, World.frozen?, h]
set_option maxHeartbeats 1000000 in
theorem own_any (v : Value) (x : En) (w : World) (h : EV w v x) (hb : x.z.length ≤ 100000) :
    Calls Tryd.prog 44 #[v] w fun e w' => ∃ u, e = .returned (.agg #[.string x.p, .bool x.d, u]) ∧ w'.ownsRow w.heap.size 5 1 u x.z.length (x.z.map (Value.int .u8)) ∧ Below w.heap.size w w' := by
  obtain ⟨ua, un, uc, rfl, hs⟩ := h
  have HC : Hid (∀ (W : World) (g : Nat), Below w.heap.size w W → W.cell? ⟨g, 0, none⟩ = some (.slice ua un uc) → Calls Tryd.prog 64 #[.slice (some ⟨g, 0, none⟩) 1 1] W fun e w' => ∃ v, e = .returned v ∧ w'.ownsRow W.heap.size 5 1 v x.z.length (x.z.map (Value.int .u8)) ∧ Below W.heap.size W w') := fun W g hb2 hc => joinB_any _ _ W g hc (hs.kept hb2) hb
  generalize x.p = pp at *
  generalize x.d = dd at *
  clear hs hb
  generalize x.z.length = nz at *
  go_enter Tryd.func44, Tryd.ntmps44
  obtain ⟨W3, hW3⟩ : ∃ W3, W3 = ((w.alloc (.cells #[.string pp, .bool dd, .slice ua un uc] 43)).alloc (.cells #[.string ⟨#[]⟩, .bool false, .slice none 0 0] 43)).alloc (.cells #[.slice ua un uc] 41) := ⟨_, rfl⟩
  have b3 : Below w.heap.size w W3 := by rw [hW3]; exact (((Below.refl _ _).alloc (Nat.le_refl _) _).alloc (by simp) _).alloc (by simp; omega) _
  have B3 : Hid (Below w.heap.size w W3) := b3
  have k3 : W3.cell? ⟨w.heap.size + 1 + 1, 0, none⟩ = some (.slice ua un uc) := by rw [hW3, World.cell?_alloc_at _ _ _ _ (by simp)]; rfl
  have c := HC.out W3 _ b3 k3
  have s3 : W3.heap.size = w.heap.size + 1 + 1 + 1 := by rw [hW3]; simp
  have HA : Hid (W3.heap[w.heap.size]? = some (.cells #[.string pp, .bool dd, .slice ua un uc] 43 (0, 0))) := by
    unfold Hid
    rw [hW3, heap_alloc_old _ _ (by simp; omega), heap_alloc_old _ _ (by simp), heap_alloc_new]
  have HA2 : Hid (W3.heap[w.heap.size + 1]? = some (.cells #[.string ⟨#[]⟩, .bool false, .slice none 0 0] 43 (0, 0))) := by
    unfold Hid
    have := heap_alloc_new (w.alloc (.cells #[.string pp, .bool dd, .slice ua un uc] 43)) (.cells #[.string ⟨#[]⟩, .bool false, .slice none 0 0] 43)
    rw [hW3, heap_alloc_old _ _ (by simp)]
    simpa using this
  go_wp2_with fail
  rw [← hW3]
  clear hW3 b3 k3 HC
  refine c.mono ?_
  rintro e w4 ⟨u, rfl, o4, b4⟩
  clear c
  have X1 := trio ((b4.block _ (by omega)).trans HA.out)
  have X2 := trio ((b4.block _ (by omega)).trans HA2.out)
  obtain ⟨p0, p1, p2, f0, f1, f2⟩ := X1
  obtain ⟨r0, r1, r2, g0, g1, g2⟩ := X2
  have O4 : Hid (w4.ownsRow W3.heap.size 5 1 u nz (x.z.map (Value.int .u8))) := o4
  have B4 : Hid (Below W3.heap.size W3 w4) := b4
  have s4 := b4.size
  rw [s3] at s4
  obtain ⟨au, cu, rfl⟩ := own_shape o4
  clear o4 b4 HA HA2
  go_wp2
  refine bodyPost_ret (v := .agg #[.string pp, .bool dd, .slice au nz cu]) ?hres rfl ?_
  case hres => simp [results, Tryd.results44, go_sem, *]
  have ne : ∀ k, k < W3.heap.size → (Value.slice au nz cu).ownBlock ≠ some k := fun k hk e => by
    have := own_base O4.out k e
    omega
  refine ⟨_, rfl, ?_, ?_⟩
  · refine own_mono (base := W3.heap.size) ?_ (by omega)
    refine ownsRow_setCell_other ?_ (ne _ (show _ < W3.heap.size by rw [s3]; first | omega | (dsimp only; omega))) _
    refine ownsRow_setCell_other ?_ (ne _ (show _ < W3.heap.size by rw [s3]; first | omega | (dsimp only; omega))) _
    refine ownsRow_setCell_other ?_ (ne _ (show _ < W3.heap.size by rw [s3]; first | omega | (dsimp only; omega))) _
    refine ownsRow_setCell_other ?_ (ne _ (show _ < W3.heap.size by rw [s3]; first | omega | (dsimp only; omega))) _
    exact O4.out
  · exact ((((B3.out.trans (B4.out.mono (by omega))).setCell (Nat.le_refl _) _).setCell (Nat.le_succ _) _).setCell (Nat.le_succ _) _).setCell (Nat.le_succ _) _
end Go.Proofs.YtajcabfeabbknaaDoor
