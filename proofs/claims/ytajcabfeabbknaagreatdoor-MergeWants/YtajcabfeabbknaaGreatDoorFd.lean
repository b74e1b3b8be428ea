/-
  What find answers: the place of the first entry that is looked for.
-/
import Derived.Test.YtajcabfeabbknaaGreatDoorLe
import Derived.Test.YtajcabfeabbknaaGreatDoorCp
import Derived.Deep.QuietTactic
import Derived.BigQuiet
import Derived.Deep.RegionHeld3
namespace Go.Proofs.YtajcabfeabbknaaGreatDoor
open Go.RowKit

set_option maxHeartbeats 1000000 in
theorem hasPath_any (q : ByteArray) (w : World) :
    Calls Tryz.prog 68 #[.string q] w fun e w' => ∃ g, e = .returned (.func (.func 88) #[] #[.pointer (some ⟨g, 0, none⟩)]) ∧ w'.cell? ⟨g, 0, none⟩ = some (.string q) ∧ Below w.heap.size w w' := by
  have hmf : ∀ (fn : Fn) (first cap : Array Value) (w : World), (Instr.makeFunc fn first cap).run Tryz.prog w = .ok (.func fn first cap) w := fun _ _ _ _ => rfl
  have B : Hid (Below w.heap.size w (w.alloc (.cells #[.string q] 9))) := (Below.refl _ _).alloc (Nat.le_refl _) _
  go_enter Tryz.func68, Tryz.ntmps68
  go_wp2
  go_ret
  exact ⟨_, rfl, by rw [World.cell?_alloc_at _ _ _ _ rfl]; rfl, B.out⟩
set_option maxHeartbeats 1000000 in
theorem isIn_any (q : ByteArray) (w : World) :
    Calls Tryz.prog 69 #[.string q] w fun e w' => ∃ g, e = .returned (.func (.func 89) #[] #[.pointer (some ⟨g, 0, none⟩)]) ∧ w'.cell? ⟨g, 0, none⟩ = some (.string q) ∧ Below w.heap.size w w' := by
  have hmf : ∀ (fn : Fn) (first cap : Array Value) (w : World), (Instr.makeFunc fn first cap).run Tryz.prog w = .ok (.func fn first cap) w := fun _ _ _ _ => rfl
  have B : Hid (Below w.heap.size w (w.alloc (.cells #[.string q] 9))) := (Below.refl _ _).alloc (Nat.le_refl _) _
  go_enter Tryz.func69, Tryz.ntmps69
  go_wp2
  go_ret
  exact ⟨_, rfl, by rw [World.cell?_alloc_at _ _ _ _ rfl]; rfl, B.out⟩
set_option maxHeartbeats 1000000 in
theorem has1_any (v : Value) (x : En) (q : ByteArray) (g : Nat) (w : World) (h : EV w v x) (hc : w.cell? ⟨g, 0, none⟩ = some (.string q)) :
    Calls Tryz.prog 88 #[v, .pointer (some ⟨g, 0, none⟩)] w fun e w' => e = .returned (.bool (decide (x.p = q))) ∧ Below w.heap.size w w' := by
  obtain ⟨ua, un, uc, rfl, _⟩ := h
  have HR : Hid ((x.p.toList == q.toList) = decide (x.p = q)) := tl_beq _ _
  have hc2 : (w.alloc (.cells #[.string x.p, .bool x.d, .slice ua un uc] 46)).cell? ⟨g, 0, none⟩ = some (.string q) := by rw [World.cell?_alloc_past _ _ _ (World.block_lt_of_cell? _ _ hc)]; exact hc
  have B : Hid (Below w.heap.size w (w.alloc (.cells #[.string x.p, .bool x.d, .slice ua un uc] 46))) := (Below.refl _ _).alloc (Nat.le_refl _) _
  generalize decide (x.p = q) = r at *
  generalize x.p = xp at *
  generalize x.d = xd at *
  go_enter Tryz.func88, Tryz.ntmps88
  go_wp2
  go_ret
  exact ⟨by rw [← HR.out]; rfl, B.out⟩
set_option maxHeartbeats 1000000 in
theorem isIn1_any (v : Value) (x : En) (q : ByteArray) (g : Nat) (w : World) (h : EV w v x) (hs : x.p.size ≤ 1000) (hc : w.cell? ⟨g, 0, none⟩ = some (.string q)) :
    Calls Tryz.prog 89 #[v, .pointer (some ⟨g, 0, none⟩)] w fun e w' => e = .returned (.bool (decide (par (dl x.p) = dl q))) ∧ Below w.heap.size w w' := by
  obtain ⟨ua, un, uc, rfl, _⟩ := h
  have HR : Hid (((mk (par (dl x.p))).toList == q.toList) = decide (par (dl x.p) = dl q)) := by
    unfold Hid
    rw [tl_beq]
    by_cases h : par (dl x.p) = dl q
    · rw [decide_eq_true h, h, mk_dl]; simp
    · rw [decide_eq_false h]
      refine decide_eq_false fun e => h ?_
      rw [← e, dl_mk]
  have hc2 : (w.alloc (.cells #[.string x.p, .bool x.d, .slice ua un uc] 46)).cell? ⟨g, 0, none⟩ = some (.string q) := by rw [World.cell?_alloc_past _ _ _ (World.block_lt_of_cell? _ _ hc)]; exact hc
  have B : Hid (Below w.heap.size w (w.alloc (.cells #[.string x.p, .bool x.d, .slice ua un uc] 46))) := (Below.refl _ _).alloc (Nat.le_refl _) _
  have c : Hid (∀ w, Calls Tryz.prog 57 #[.string x.p] w fun e w' => e = .returned (.string (mk (par (dl x.p)))) ∧ w' = w) := fun w => parent_any x.p w (by omega)
  generalize decide (par (dl x.p) = dl q) = r at *
  generalize mk (par (dl x.p)) = pp at *
  generalize x.p = xp at *
  generalize x.d = xd at *
  go_enter Tryz.func89, Tryz.ntmps89
  go_wp2
  have k1 : (w.alloc (.cells #[.string xp, .bool xd, .slice ua un uc] 46)).cell? ⟨w.heap.size, 0, none⟩ = some (.string xp) := by rw [World.cell?_alloc_at _ _ _ _ rfl]; rfl
  generalize hW : w.alloc (.cells #[.string xp, .bool xd, .slice ua un uc] 46) = W at *
  have k1d : W.drew.cell? ⟨w.heap.size, 0, none⟩ = some (.string xp) := k1
  have k2d : W.drew.cell? ⟨g, 0, none⟩ = some (.string q) := hc2
  go_region_held3 (fun W => W.cell? ⟨w.heap.size, 0, none⟩ = some (.string xp) ∧ W.cell? ⟨g, 0, none⟩ = some (.string q)) (first | exact ⟨k1, hc2⟩ | exact ⟨k1d, k2d⟩) (first
    | (go_at_call 57; refine (c.out _).mono ?_; rintro e wq ⟨rfl, hq⟩; replace hq := hq.symm; subst hq))
  go_wp2
  go_ret
  exact ⟨by rw [← HR.out]; rfl, B.out.drew⟩
set_option maxHeartbeats 1000000 in
theorem place1_any (v : Value) (x : En) (q : ByteArray) (g : Nat) (w : World) (h : EV w v x) (hm : Mx w) (hs : x.p.size ≤ 1000) (hq : q.size ≤ 1000) (hc : w.cell? ⟨g, 0, none⟩ = some (.string q)) :
    Calls Tryz.prog 90 #[v, .pointer (some ⟨g, 0, none⟩)] w fun e w' => e = .returned (.bool (!les (dl x.p) (dl q))) ∧ Below w.heap.size w w' := by
  obtain ⟨ua, un, uc, rfl, _⟩ := h
  have hc2 : (w.alloc (.cells #[.string x.p, .bool x.d, .slice ua un uc] 46)).cell? ⟨g, 0, none⟩ = some (.string q) := by rw [World.cell?_alloc_past _ _ _ (World.block_lt_of_cell? _ _ hc)]; exact hc
  have b : Below w.heap.size w (w.alloc (.cells #[.string x.p, .bool x.d, .slice ua un uc] 46)) := (Below.refl _ _).alloc (Nat.le_refl _) _
  have B : Hid (Below w.heap.size w (w.alloc (.cells #[.string x.p, .bool x.d, .slice ua un uc] 46))) := b
  have c := less_any x.p q _ (hm.kept b) (by omega) (by omega)
  generalize les (dl x.p) (dl q) = r at *
  generalize x.p = xp at *
  generalize x.d = xd at *
  clear hm
  go_enter Tryz.func90, Tryz.ntmps90
  go_wp2_with fail
  refine c.mono ?_
  rintro e w1 ⟨rfl, b1⟩
  have B1 : Hid (Below w.heap.size w w1) := b.trans (b1.mono b.size)
  clear c b1
  go_wp2
  go_ret
  exact ⟨by cases r <;> rfl, B1.out⟩

set_option maxHeartbeats 1000000 in
theorem findH (v : Value) (l : List En) (f : En → Bool) (g : Nat) (w : World) (h : ES w v l) (hl : Lt l)
    (hf : ∀ (W : World) (u : Value) (x : En), Below w.heap.size w W → EV W u x → x.p.size ≤ 1000 → Calls Tryz.prog 88 #[u, .pointer (some ⟨g, 0, none⟩)] W fun e w' => e = .returned (.bool (f x)) ∧ Below W.heap.size W w') :
    Calls Tryz.prog 67 #[v, .func (.func 88) #[] #[.pointer (some ⟨g, 0, none⟩)]] w fun e w' => e = .returned (.int .i64 (l.findIdx f)) ∧ Below w.heap.size w w' := by
  obtain ⟨a, c, rfl, g2, _, _⟩ := h.shape
  have HS : Hid (ES w (.slice a l.length c) l) := h
  have HL : Hid (Lt l) := hl
  have HF : Hid (∀ (W : World) (u : Value) (x : En), Below w.heap.size w W → EV W u x → x.p.size ≤ 1000 → Calls Tryz.prog 88 #[u, .pointer (some ⟨g, 0, none⟩)] W fun e w' => e = .returned (.bool (f x)) ∧ Below W.heap.size W w') := hf
  have hn := hl.1
  have HHIT : Hid (∀ j, j < l.length → (∀ k, k < j → f (atE l k) = false) → f (atE l j) = true → l.findIdx f = j) := findIdx_of l f
  have HNO : Hid ((∀ k, k < l.length → f (atE l k) = false) → l.findIdx f = l.length) := findIdx_none l f
  obtain ⟨n, hn'⟩ : ∃ n, n = l.length := ⟨_, rfl⟩
  have HN : Hid (n = l.length) := hn'
  rw [← hn'] at HS HHIT HNO g2 hn ⊢
  clear h hl hf hn'
  generalize l.findIdx f = r at *
  go_enter Tryz.func67, Tryz.ntmps67
  go_wp2
  go_loopw [9] (fun q wr => ∃ j : Nat, j ≤ n ∧ q = .int .i64 j ∧ (∀ k, k < j → f (atE l k) = false) ∧ Below w.heap.size w wr) (fun q _ => n - (intOf q).toNat)
  case atStart => exact ⟨0, by omega, rfl, fun k hk => by omega, Below.refl _ _⟩
  case round =>
    obtain ⟨j, hj, rfl, ok, bel⟩ := hrel
    have HB : Hid (Below w.heap.size w wr) := bel
    have OK : Hid (∀ k, k < j → f (atE l k) = false) := ok
    clear bel ok
    by_cases hlt : j < n
    · have lt2 : (j : Int) < (n : Int) := by omega
      obtain ⟨b, off, ua, un, uc, rfl, c1, c2, c3, hun, s1⟩ := (HS.out.kept HB.out).at j (by rw [← HN.out]; exact hlt)
      have q1 : IntKind.i64.wrap ((j : Int) + 1) = ((j + 1 : Nat) : Int) := by simp [IntKind.wrap, IntKind.bits, IntKind.signed]; omega
      obtain ⟨W2, hW2⟩ : ∃ W2, W2 = wr.alloc (.cells #[.string (atE l j).p, .bool (atE l j).d, .slice ua un uc] 46) := ⟨_, rfl⟩
      have b2 : Below wr.heap.size wr W2 := by rw [hW2]; exact (Below.refl _ _).alloc (Nat.le_refl _) _
      have B2 : Hid (Below w.heap.size w W2) := HB.out.trans (b2.mono HB.out.size)
      have CS := HF.out W2 (.agg #[.string (atE l j).p, .bool (atE l j).d, .slice ua un uc]) (atE l j) B2.out ⟨ua, un, uc, rfl, s1.kept b2⟩ (HL.out.at j).1
      have HT : Hid (f (atE l j) = true → r = j) := HHIT.out j hlt OK.out
      have NX : Hid (f (atE l j) = false → ∀ k, k < j + 1 → f (atE l k) = false) := fun h k hk => by
        rcases Nat.lt_or_ge k j with h' | h'
        · exact OK.out k h'
        · rw [show k = j by omega]; exact h
      clear b2 s1 OK HHIT HNO hun
      generalize atE l j = x at *
      generalize hsb : f x = sb at *
      clear hsb
      go_wp2_with fail
      rw [← hW2]
      clear hW2
      refine CS.mono ?_
      rintro e w3 ⟨rfl, b3⟩
      have B3 : Hid (Below w.heap.size w w3) := B2.out.trans (b3.mono B2.out.size)
      clear b3 CS
      cases sb with
      | false =>
        have NX2 : Hid (∀ k, k < j + 1 → f (atE l k) = false) := NX.out rfl
        clear NX HT
        go_wp2
        go_roundw
        case rel => exact ⟨j + 1, by omega, by go_num, NX2.out, B3.out⟩
        case measure => simp [intOf]; omega
      | true =>
        have HT2 : Hid (r = j) := HT.out rfl
        clear NX HT
        go_wp2
        go_ret
        exact ⟨by rw [HT2.out]; rfl, B3.out⟩
    · obtain rfl : j = n := by omega
      have hr := HNO.out OK.out
      have HR : Hid (r = j) := hr
      clear hr HNO HHIT OK
      go_wp2
      go_ret
      exact ⟨by rw [HR.out]; rfl, HB.out⟩

set_option maxHeartbeats 1000000 in
theorem findI (v : Value) (l : List En) (f : En → Bool) (g : Nat) (w : World) (h : ES w v l) (hl : Lt l)
    (hf : ∀ (W : World) (u : Value) (x : En), Below w.heap.size w W → EV W u x → x.p.size ≤ 1000 → Calls Tryz.prog 89 #[u, .pointer (some ⟨g, 0, none⟩)] W fun e w' => e = .returned (.bool (f x)) ∧ Below W.heap.size W w') :
    Calls Tryz.prog 67 #[v, .func (.func 89) #[] #[.pointer (some ⟨g, 0, none⟩)]] w fun e w' => e = .returned (.int .i64 (l.findIdx f)) ∧ Below w.heap.size w w' := by
  obtain ⟨a, c, rfl, g2, _, _⟩ := h.shape
  have HS : Hid (ES w (.slice a l.length c) l) := h
  have HL : Hid (Lt l) := hl
  have HF : Hid (∀ (W : World) (u : Value) (x : En), Below w.heap.size w W → EV W u x → x.p.size ≤ 1000 → Calls Tryz.prog 89 #[u, .pointer (some ⟨g, 0, none⟩)] W fun e w' => e = .returned (.bool (f x)) ∧ Below W.heap.size W w') := hf
  have hn := hl.1
  have HHIT : Hid (∀ j, j < l.length → (∀ k, k < j → f (atE l k) = false) → f (atE l j) = true → l.findIdx f = j) := findIdx_of l f
  have HNO : Hid ((∀ k, k < l.length → f (atE l k) = false) → l.findIdx f = l.length) := findIdx_none l f
  obtain ⟨n, hn'⟩ : ∃ n, n = l.length := ⟨_, rfl⟩
  have HN : Hid (n = l.length) := hn'
  rw [← hn'] at HS HHIT HNO g2 hn ⊢
  clear h hl hf hn'
  generalize l.findIdx f = r at *
  go_enter Tryz.func67, Tryz.ntmps67
  go_wp2
  go_loopw [9] (fun q wr => ∃ j : Nat, j ≤ n ∧ q = .int .i64 j ∧ (∀ k, k < j → f (atE l k) = false) ∧ Below w.heap.size w wr) (fun q _ => n - (intOf q).toNat)
  case atStart => exact ⟨0, by omega, rfl, fun k hk => by omega, Below.refl _ _⟩
  case round =>
    obtain ⟨j, hj, rfl, ok, bel⟩ := hrel
    have HB : Hid (Below w.heap.size w wr) := bel
    have OK : Hid (∀ k, k < j → f (atE l k) = false) := ok
    clear bel ok
    by_cases hlt : j < n
    · have lt2 : (j : Int) < (n : Int) := by omega
      obtain ⟨b, off, ua, un, uc, rfl, c1, c2, c3, hun, s1⟩ := (HS.out.kept HB.out).at j (by rw [← HN.out]; exact hlt)
      have q1 : IntKind.i64.wrap ((j : Int) + 1) = ((j + 1 : Nat) : Int) := by simp [IntKind.wrap, IntKind.bits, IntKind.signed]; omega
      obtain ⟨W2, hW2⟩ : ∃ W2, W2 = wr.alloc (.cells #[.string (atE l j).p, .bool (atE l j).d, .slice ua un uc] 46) := ⟨_, rfl⟩
      have b2 : Below wr.heap.size wr W2 := by rw [hW2]; exact (Below.refl _ _).alloc (Nat.le_refl _) _
      have B2 : Hid (Below w.heap.size w W2) := HB.out.trans (b2.mono HB.out.size)
      have CS := HF.out W2 (.agg #[.string (atE l j).p, .bool (atE l j).d, .slice ua un uc]) (atE l j) B2.out ⟨ua, un, uc, rfl, s1.kept b2⟩ (HL.out.at j).1
      have HT : Hid (f (atE l j) = true → r = j) := HHIT.out j hlt OK.out
      have NX : Hid (f (atE l j) = false → ∀ k, k < j + 1 → f (atE l k) = false) := fun h k hk => by
        rcases Nat.lt_or_ge k j with h' | h'
        · exact OK.out k h'
        · rw [show k = j by omega]; exact h
      clear b2 s1 OK HHIT HNO hun
      generalize atE l j = x at *
      generalize hsb : f x = sb at *
      clear hsb
      go_wp2_with fail
      rw [← hW2]
      clear hW2
      refine CS.mono ?_
      rintro e w3 ⟨rfl, b3⟩
      have B3 : Hid (Below w.heap.size w w3) := B2.out.trans (b3.mono B2.out.size)
      clear b3 CS
      cases sb with
      | false =>
        have NX2 : Hid (∀ k, k < j + 1 → f (atE l k) = false) := NX.out rfl
        clear NX HT
        go_wp2
        go_roundw
        case rel => exact ⟨j + 1, by omega, by go_num, NX2.out, B3.out⟩
        case measure => simp [intOf]; omega
      | true =>
        have HT2 : Hid (r = j) := HT.out rfl
        clear NX HT
        go_wp2
        go_ret
        exact ⟨by rw [HT2.out]; rfl, B3.out⟩
    · obtain rfl : j = n := by omega
      have hr := HNO.out OK.out
      have HR : Hid (r = j) := hr
      clear hr HNO HHIT OK
      go_wp2
      go_ret
      exact ⟨by rw [HR.out]; rfl, HB.out⟩

set_option maxHeartbeats 1000000 in
theorem findP (v : Value) (l : List En) (f : En → Bool) (g : Nat) (w : World) (h : ES w v l) (hl : Lt l)
    (hf : ∀ (W : World) (u : Value) (x : En), Below w.heap.size w W → EV W u x → x.p.size ≤ 1000 → Calls Tryz.prog 90 #[u, .pointer (some ⟨g, 0, none⟩)] W fun e w' => e = .returned (.bool (f x)) ∧ Below W.heap.size W w') :
    Calls Tryz.prog 67 #[v, .func (.func 90) #[] #[.pointer (some ⟨g, 0, none⟩)]] w fun e w' => e = .returned (.int .i64 (l.findIdx f)) ∧ Below w.heap.size w w' := by
  obtain ⟨a, c, rfl, g2, _, _⟩ := h.shape
  have HS : Hid (ES w (.slice a l.length c) l) := h
  have HL : Hid (Lt l) := hl
  have HF : Hid (∀ (W : World) (u : Value) (x : En), Below w.heap.size w W → EV W u x → x.p.size ≤ 1000 → Calls Tryz.prog 90 #[u, .pointer (some ⟨g, 0, none⟩)] W fun e w' => e = .returned (.bool (f x)) ∧ Below W.heap.size W w') := hf
  have hn := hl.1
  have HHIT : Hid (∀ j, j < l.length → (∀ k, k < j → f (atE l k) = false) → f (atE l j) = true → l.findIdx f = j) := findIdx_of l f
  have HNO : Hid ((∀ k, k < l.length → f (atE l k) = false) → l.findIdx f = l.length) := findIdx_none l f
  obtain ⟨n, hn'⟩ : ∃ n, n = l.length := ⟨_, rfl⟩
  have HN : Hid (n = l.length) := hn'
  rw [← hn'] at HS HHIT HNO g2 hn ⊢
  clear h hl hf hn'
  generalize l.findIdx f = r at *
  go_enter Tryz.func67, Tryz.ntmps67
  go_wp2
  go_loopw [9] (fun q wr => ∃ j : Nat, j ≤ n ∧ q = .int .i64 j ∧ (∀ k, k < j → f (atE l k) = false) ∧ Below w.heap.size w wr) (fun q _ => n - (intOf q).toNat)
  case atStart => exact ⟨0, by omega, rfl, fun k hk => by omega, Below.refl _ _⟩
  case round =>
    obtain ⟨j, hj, rfl, ok, bel⟩ := hrel
    have HB : Hid (Below w.heap.size w wr) := bel
    have OK : Hid (∀ k, k < j → f (atE l k) = false) := ok
    clear bel ok
    by_cases hlt : j < n
    · have lt2 : (j : Int) < (n : Int) := by omega
      obtain ⟨b, off, ua, un, uc, rfl, c1, c2, c3, hun, s1⟩ := (HS.out.kept HB.out).at j (by rw [← HN.out]; exact hlt)
      have q1 : IntKind.i64.wrap ((j : Int) + 1) = ((j + 1 : Nat) : Int) := by simp [IntKind.wrap, IntKind.bits, IntKind.signed]; omega
      obtain ⟨W2, hW2⟩ : ∃ W2, W2 = wr.alloc (.cells #[.string (atE l j).p, .bool (atE l j).d, .slice ua un uc] 46) := ⟨_, rfl⟩
      have b2 : Below wr.heap.size wr W2 := by rw [hW2]; exact (Below.refl _ _).alloc (Nat.le_refl _) _
      have B2 : Hid (Below w.heap.size w W2) := HB.out.trans (b2.mono HB.out.size)
      have CS := HF.out W2 (.agg #[.string (atE l j).p, .bool (atE l j).d, .slice ua un uc]) (atE l j) B2.out ⟨ua, un, uc, rfl, s1.kept b2⟩ (HL.out.at j).1
      have HT : Hid (f (atE l j) = true → r = j) := HHIT.out j hlt OK.out
      have NX : Hid (f (atE l j) = false → ∀ k, k < j + 1 → f (atE l k) = false) := fun h k hk => by
        rcases Nat.lt_or_ge k j with h' | h'
        · exact OK.out k h'
        · rw [show k = j by omega]; exact h
      clear b2 s1 OK HHIT HNO hun
      generalize atE l j = x at *
      generalize hsb : f x = sb at *
      clear hsb
      go_wp2_with fail
      rw [← hW2]
      clear hW2
      refine CS.mono ?_
      rintro e w3 ⟨rfl, b3⟩
      have B3 : Hid (Below w.heap.size w w3) := B2.out.trans (b3.mono B2.out.size)
      clear b3 CS
      cases sb with
      | false =>
        have NX2 : Hid (∀ k, k < j + 1 → f (atE l k) = false) := NX.out rfl
        clear NX HT
        go_wp2
        go_roundw
        case rel => exact ⟨j + 1, by omega, by go_num, NX2.out, B3.out⟩
        case measure => simp [intOf]; omega
      | true =>
        have HT2 : Hid (r = j) := HT.out rfl
        clear NX HT
        go_wp2
        go_ret
        exact ⟨by rw [HT2.out]; rfl, B3.out⟩
    · obtain rfl : j = n := by omega
      have hr := HNO.out OK.out
      have HR : Hid (r = j) := hr
      clear hr HNO HHIT OK
      go_wp2
      go_ret
      exact ⟨by rw [HR.out]; rfl, HB.out⟩
end Go.Proofs.YtajcabfeabbknaaGreatDoor
