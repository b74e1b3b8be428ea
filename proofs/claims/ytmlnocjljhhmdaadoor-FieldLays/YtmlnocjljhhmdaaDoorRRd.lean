/-
  What the methods of the document's Reader (a value) answer, for whatever bytes are left and whatever error it bears: just what a field.Reader's do; nothing that was there is changed.
-/
import Derived.Test.YtmlnocjljhhmdaaDoorAwake
import Derived.Test.YtmlnocjljhhmdaaDoorRGet
import Derived.Deep.RegionHeld3
namespace Go.Proofs.YtmlnocjljhhmdaaDoor
open Go.RowKit

/-- A value that is a slice of the bytes xs, its address plain where it has room. -/
def Rv (w : World) (v : Value) (xs : List Int) : Prop :=
  ∃ a cap, v = .slice a xs.length cap ∧ xs.length ≤ cap ∧ cap ≤ maxLen ∧ (a = none → cap = 0) ∧ (∀ x, a = some x → 0 < cap → x.spot = none) ∧ Row w a xs.length cap xs

theorem Rv.kept {w w' : World} {v : Value} {xs : List Int} (h : Rv w v xs) (hb : Below w.heap.size w w') : Rv w' v xs := by
  obtain ⟨a, cap, e, h1, h2, h3, h4, h5⟩ := h
  exact ⟨a, cap, e, h1, h2, h3, h4, h5.kept hb⟩

theorem Rv.bytes {w : World} {v : Value} {xs : List Int} (h : Rv w v xs) : ∀ i, 0 ≤ xs.getD i 0 ∧ xs.getD i 0 < 256 := by
  obtain ⟨a, cap, e, h1, h2, h3, h4, h5⟩ := h
  exact h5.bytes

theorem Rv.drop {w : World} {b off cap : Nat} {xs : List Int} (n : Nat) (hn : n ≤ xs.length) (hc : xs.length ≤ cap) (hm : cap ≤ maxLen) (h : Row w (some ⟨b, off, none⟩) xs.length cap xs) : Rv w (.slice (some ⟨b, off + n, none⟩) (xs.length - n) (cap - n)) (xs.drop n) := by
  have hl : (xs.drop n).length = xs.length - n := List.length_drop ..
  refine ⟨_, cap - n, by rw [hl], by omega, by omega, fun e => (by cases e), fun x hx _ => by cases hx; rfl, ?_⟩
  rw [hl]
  exact h.drop n hn

theorem Rv.nothing {w : World} (a : Option Addr) (cap : Nat) (hm : cap ≤ maxLen) (h1 : a = none → cap = 0) (h2 : ∀ x, a = some x → 0 < cap → x.spot = none) : Rv w (.slice a 0 cap) [] :=
  ⟨a, cap, rfl, Nat.zero_le _, hm, h1, h2, .inl rfl⟩

set_option maxHeartbeats 1000000 in
theorem rfail_any (a : Option Addr) (n c : Nat) (e e' : Int) (w : World) :
    Calls Tryd.prog 33 #[.agg #[.slice a n c, .int .i64 e], .int .i64 e'] w fun r w' => r = .returned (.agg #[.slice a n c, .int .i64 e']) ∧ w' = (w.alloc (.cells #[.slice a n c, .int .i64 e] 35)).alloc (.cells #[.slice a n c, .int .i64 e'] 35) := by
  go_enter Tryd.func33, Tryd.ntmps33
  go_wp2
  exact bodyPost_ret (v := .agg #[.slice a n c, .int .i64 e']) (by simp [results, Tryd.results33, go_sem]) rfl ⟨rfl, rfl⟩

set_option maxHeartbeats 1000000 in
theorem rdone_any (a : Option Addr) (cap : Nat) (xs : List Int) (e : Int) (w : World) (hl : xs.length ≤ 9223372036854775807) :
    Calls Tryd.prog 27 #[.agg #[.slice a xs.length cap, .int .i64 e]] w fun r w' => r = .returned (.int .i64 (dnE xs e)) ∧ Below w.heap.size w w' := by
  unfold dnE
  generalize xs.length = n at *
  by_cases h0 : e = 0
  · subst h0
    by_cases h1 : 0 < n
    · rw [if_pos rfl, if_pos h1]
      go_enter Tryd.func27, Tryd.ntmps27
      go_wp2
      go_ret
      exact ⟨rfl, (Below.refl _ _).alloc (Nat.le_refl _) _⟩
    · obtain rfl : n = 0 := by omega
      rw [if_pos rfl, if_neg h1]
      go_enter Tryd.func27, Tryd.ntmps27
      go_wp2
      go_ret
      exact ⟨rfl, (Below.refl _ _).alloc (Nat.le_refl _) _⟩
  · have hne : (e == 0) = false := by simpa using h0
    rw [if_neg h0]
    go_enter Tryd.func27, Tryd.ntmps27
    go_wp2
    go_ret
    exact ⟨rfl, (Below.refl _ _).alloc (Nat.le_refl _) _⟩

set_option maxHeartbeats 1000000 in
theorem rnum_stop (a : Option Addr) (n c : Nat) (e most : Int) (w : World) (he : e ≠ 0) :
    Calls Tryd.prog 16 #[.agg #[.slice a n c, .int .i64 e], .int .i64 most] w fun r w' => r = .returned (.tuple #[.agg #[.slice a n c, .int .i64 e], .int .i64 0]) ∧ Below w.heap.size w w' := by
  have hne : (e != 0) = true := by simpa using he
  go_enter Tryd.func16, Tryd.ntmps16
  go_wp2
  refine bodyPost_ret (v := .tuple #[.agg #[.slice a n c, .int .i64 e], .int .i64 0]) (by simp [results, Tryd.results16, go_sem]) rfl ⟨rfl, ?_⟩
  exact ((Below.refl _ _).alloc (Nat.le_refl _) _).alloc (by simp) _

set_option maxHeartbeats 1000000 in
theorem rraw_stop (a : Option Addr) (n c : Nat) (e m : Int) (w : World) (he : e ≠ 0) :
    Calls Tryd.prog 20 #[.agg #[.slice a n c, .int .i64 e], .int .i64 m] w fun r w' => r = .returned (.tuple #[.agg #[.slice a n c, .int .i64 e], .string (strB [])]) ∧ Below w.heap.size w w' := by
  have hne : (e != 0) = true := by simpa using he
  go_enter Tryd.func20, Tryd.ntmps20
  go_wp2
  refine bodyPost_ret (v := .tuple #[.agg #[.slice a n c, .int .i64 e], .string (strB [])]) (by simp [results, Tryd.results20, go_sem]; rfl) rfl ⟨rfl, ?_⟩
  exact ((Below.refl _ _).alloc (Nat.le_refl _) _).alloc (by simp) _

set_option maxHeartbeats 2000000 in
theorem rnum_any (a : Option Addr) (cap : Nat) (xs : List Int) (most : Int) (w : World) (h : Rv w (.slice a xs.length cap) xs) :
    Calls Tryd.prog 16 #[.agg #[.slice a xs.length cap, .int .i64 0], .int .i64 most] w fun r w' =>
      ∃ v', r = .returned (.tuple #[.agg #[v', .int .i64 (naE xs most)], .int .i64 (naN xs most)]) ∧ (∀ W, Rv W (.slice a xs.length cap) xs → Rv W v' (xs.drop (naU xs most).toNat)) ∧ Below w.heap.size w w' := by
  have hby := h.bytes
  have hk := h
  obtain ⟨a', cap', e, h1, h2, h3, h4, h5⟩ := h
  cases e
  have sb := sh_bd xs hby
  have HB : Hid (Below w.heap.size w ((w.alloc (.cells #[.slice a xs.length cap, .int .i64 0] 35)).alloc (.cells #[.slice none 0 0, .int .i64 0] 35))) := ((Below.refl _ _).alloc (Nat.le_refl _) _).alloc (by simp) _
  have cs := rshortest_any a xs.length cap xs _ (h5.kept HB.out)
  have HK : Hid (Rv w (.slice a xs.length cap) xs) := hk
  clear hk
  unfold naN naU naE
  by_cases hE : shE xs.length xs = 0
  · rw [hE] at cs
    rw [hE, if_pos rfl]
    obtain ⟨u, hu⟩ : ∃ u : Nat, shU xs.length xs = u := ⟨(shU xs.length xs).toNat, by omega⟩
    rw [hu] at cs sb ⊢
    by_cases hm : shN xs.length xs ≤ most
    · rw [if_pos hm, if_pos rfl, if_pos rfl]
      rcases h5 with h0 | ⟨hp, b, off, rfl, _⟩
      · exfalso
        obtain rfl := List.length_eq_zero_iff.1 h0
        have : shE ([] : List Int).length [] = 3 := by decide
        omega
      · have HR : Hid (∀ W, Rv W (.slice (some ⟨b, off, none⟩) xs.length cap) xs → Rv W (.slice (some ⟨b, off + u, none⟩) (xs.length - u) (cap - u)) (xs.drop u)) := by
          intro W hh
          obtain ⟨a', cap', e, h1, h2, h3, h4, h5⟩ := hh
          cases e
          exact Rv.drop u (by omega) h1 h2 h5
        have hul : u ≤ xs.length := by omega
        have hlm : xs.length ≤ 9223372036854775807 := by unfold maxLen at h2; omega
        have hcm : cap ≤ 9223372036854775807 := by unfold maxLen at h2; omega
        have HD : Hid (xs.length = u → xs.drop u = []) := fun e => List.drop_of_length_le (by omega)
        simp only [Int.toNat_natCast]
        generalize shN xs.length xs = N at *
        generalize xs.drop u = D at *
        generalize xs.length = len at *
        clear hby sb hE hu h3 h4
        by_cases hcu : cap = u
        · subst hcu
          obtain rfl : cap = len := by omega
          obtain rfl := HD.out rfl
          clear HR HD
          go_enter Tryd.func16, Tryd.ntmps16
          go_wp2_with (go_at_call 32; refine cs.mono ?_; rintro e w' ⟨rfl, rfl⟩)
          refine bodyPost_ret (v := .tuple #[.agg #[.slice (some ⟨b, off, none⟩) 0 0, .int .i64 0], .int .i64 N]) (by simp [results, Tryd.results16, go_sem]) rfl ⟨_, rfl, fun W _ => Rv.nothing _ _ (by simp) (fun e => (by cases e)) (fun x hx _ => by cases hx; rfl), ?_⟩
          exact ((Below.refl _ _).alloc (Nat.le_refl _) _).alloc (by simp) _
        · go_enter Tryd.func16, Tryd.ntmps16
          go_wp2_with (go_at_call 32; refine cs.mono ?_; rintro e w' ⟨rfl, rfl⟩)
          refine bodyPost_ret (v := .tuple #[.agg #[.slice (some ⟨b, off + u, none⟩) (len - u) (cap - u), .int .i64 0], .int .i64 N]) (by simp [results, Tryd.results16, go_sem]) rfl ⟨_, rfl, HR.out, ?_⟩
          exact ((Below.refl _ _).alloc (Nat.le_refl _) _).alloc (by simp) _
    · rw [if_neg hm, if_neg (by decide), if_neg (by decide)]
      have hm' : most < shN xs.length xs := by omega
      have cf := rfail_any a xs.length cap 0 5 ((w.alloc (.cells #[.slice a xs.length cap, .int .i64 0] 35)).alloc (.cells #[.slice none 0 0, .int .i64 0] 35))
      show Calls _ _ _ _ fun r w' => ∃ v', _ ∧ (∀ W, Rv W (.slice a xs.length cap) xs → Rv W v' xs) ∧ _
      generalize shN xs.length xs = N at *
      generalize xs.length = len at *
      clear hby sb hE hu h3 h4 h5 hm
      go_enter Tryd.func16, Tryd.ntmps16
      go_wp2_with fail
      refine cs.mono ?_
      rintro e w' ⟨rfl, rfl⟩
      go_wp2_with fail
      refine cf.mono ?_
      rintro e w1 ⟨rfl, rfl⟩
      go_wp2
      refine bodyPost_ret (v := .tuple #[.agg #[.slice a len cap, .int .i64 5], .int .i64 0]) (by simp [results, Tryd.results16, go_sem]) rfl ⟨_, rfl, fun W hh => hh, ?_⟩
      exact ((((Below.refl _ _).alloc (Nat.le_refl _) _).alloc (by simp) _).alloc (by simp; omega) _).alloc (by simp; omega) _
  · rw [if_neg hE, if_neg hE, if_neg hE]
    have cf := rfail_any a xs.length cap 0 (shE xs.length xs) ((w.alloc (.cells #[.slice a xs.length cap, .int .i64 0] 35)).alloc (.cells #[.slice none 0 0, .int .i64 0] 35))
    show Calls _ _ _ _ fun r w' => ∃ v', _ ∧ (∀ W, Rv W (.slice a xs.length cap) xs → Rv W v' xs) ∧ _
    generalize shN xs.length xs = N at *
    generalize shU xs.length xs = U at *
    generalize shE xs.length xs = E at *
    generalize xs.length = len at *
    have hne : (E != 0) = true := by simpa using hE
    clear hby sb hE h3 h4 h5
    go_enter Tryd.func16, Tryd.ntmps16
    go_wp2_with fail
    refine cs.mono ?_
    rintro e w' ⟨rfl, rfl⟩
    go_wp2_with fail
    refine cf.mono ?_
    rintro e w1 ⟨rfl, rfl⟩
    go_wp2
    refine bodyPost_ret (v := .tuple #[.agg #[.slice a len cap, .int .i64 E], .int .i64 0]) (by simp [results, Tryd.results16, go_sem]) rfl ⟨_, rfl, fun W hh => hh, ?_⟩
    exact ((((Below.refl _ _).alloc (Nat.le_refl _) _).alloc (by simp) _).alloc (by simp; omega) _).alloc (by simp; omega) _

set_option maxHeartbeats 4000000 in
theorem rraw_any (a : Option Addr) (cap : Nat) (xs : List Int) (n : Int) (w : World) (h : Rv w (.slice a xs.length cap) xs) :
    Calls Tryd.prog 20 #[.agg #[.slice a xs.length cap, .int .i64 0], .int .i64 n] w fun r w' =>
      ∃ v', r = .returned (.tuple #[.agg #[v', .int .i64 (raE xs n)], .string (strB (xs.take (raN xs n)))]) ∧ (∀ W, Rv W (.slice a xs.length cap) xs → Rv W v' (xs.drop (raN xs n))) ∧ Below w.heap.size w w' := by
  have HK : Hid (Rv w (.slice a xs.length cap) xs) := h
  obtain ⟨a', cap', e, h1, h2, h3, h4, h5⟩ := h
  cases e
  have hlm : xs.length ≤ 9223372036854775807 := by unfold maxLen at h2; omega
  have hcm : cap ≤ 9223372036854775807 := by unfold maxLen at h2; omega
  unfold raN raE
  by_cases hn : n < 0
  · simp only [if_pos hn]
    rw [if_neg (by decide)]
    have cf := rfail_any a xs.length cap 0 2 ((w.alloc (.cells #[.slice a xs.length cap, .int .i64 0] 35)).alloc (.cells #[.slice none 0 0, .int .i64 0] 35))
    show Calls _ _ _ _ fun r w' => ∃ v', r = .returned (.tuple #[.agg #[v', .int .i64 2], .string (strB [])]) ∧ (∀ W, Rv W (.slice a xs.length cap) xs → Rv W v' xs) ∧ _
    generalize xs.length = len at *
    clear h3 h4 h5
    go_enter Tryd.func20, Tryd.ntmps20
    go_wp2_with fail
    refine cf.mono ?_
    rintro e w1 ⟨rfl, rfl⟩
    go_wp2
    refine bodyPost_ret (v := .tuple #[.agg #[.slice a len cap, .int .i64 2], .string (strB [])]) (by simp [results, Tryd.results20, go_sem]; rfl) rfl ⟨_, rfl, fun W hh => hh, ?_⟩
    exact ((((Below.refl _ _).alloc (Nat.le_refl _) _).alloc (by simp) _).alloc (by simp; omega) _).alloc (by simp; omega) _
  · simp only [if_neg hn]
    obtain ⟨m, rfl⟩ : ∃ m : Nat, n = m := ⟨n.toNat, by omega⟩
    simp only [Int.toNat_natCast]
    by_cases hl : (xs.length : Int) < m
    · simp only [if_pos hl]
      rw [if_neg (by decide)]
      have cf := rfail_any a xs.length cap 0 3 ((w.alloc (.cells #[.slice a xs.length cap, .int .i64 0] 35)).alloc (.cells #[.slice none 0 0, .int .i64 0] 35))
      show Calls _ _ _ _ fun r w' => ∃ v', r = .returned (.tuple #[.agg #[v', .int .i64 3], .string (strB [])]) ∧ (∀ W, Rv W (.slice a xs.length cap) xs → Rv W v' xs) ∧ _
      generalize xs.length = len at *
      clear h3 h4 h5
      go_enter Tryd.func20, Tryd.ntmps20
      go_wp2_with fail
      refine cf.mono ?_
      rintro e w1 ⟨rfl, rfl⟩
      go_wp2
      refine bodyPost_ret (v := .tuple #[.agg #[.slice a len cap, .int .i64 3], .string (strB [])]) (by simp [results, Tryd.results20, go_sem]; rfl) rfl ⟨_, rfl, fun W hh => hh, ?_⟩
      exact ((((Below.refl _ _).alloc (Nat.le_refl _) _).alloc (by simp) _).alloc (by simp; omega) _).alloc (by simp; omega) _
    · simp only [if_neg hl, if_true]
      have hml : m ≤ xs.length := by omega
      have HC : Hid (∀ w', Below w.heap.size w w' → (convert 25 9 (.slice a m cap)).run Tryd.prog w' = .ok (.string (strB (xs.take m))) w') := fun w' hb => conv_any a m cap xs w' hml ((h5.kept hb).cut m hml)
      have HB : Hid (∀ o, Below w.heap.size w ((w.alloc (.cells #[.slice a xs.length cap, .int .i64 0] 35)).alloc o).drew) := fun o => (((Below.refl _ _).alloc (Nat.le_refl _) _).alloc (by simp) _).drew
      have HX : Hid (∀ o, ((w.alloc (.cells #[.slice a xs.length cap, .int .i64 0] 35)).alloc o).drew.cell? ⟨w.heap.size, 0, none⟩ = some (.slice a xs.length cap)) := fun o => by
        show ((w.alloc (.cells #[.slice a xs.length cap, .int .i64 0] 35)).alloc o).cell? ⟨w.heap.size, 0, none⟩ = _
        rw [World.cell?_alloc_past _ _ _ (by simp), World.cell?_alloc_at _ _ _ _ rfl]
        rfl
      have HS : Hid (∀ o, ((w.alloc (.cells #[.slice a xs.length cap, .int .i64 0] 35)).alloc o).drew.cell? ⟨w.heap.size, 0, none⟩ = some (.slice a xs.length cap) ∧
          (convert 25 9 (.slice a m cap)).run Tryd.prog ((w.alloc (.cells #[.slice a xs.length cap, .int .i64 0] 35)).alloc o).drew = .ok (.string (strB (xs.take m))) ((w.alloc (.cells #[.slice a xs.length cap, .int .i64 0] 35)).alloc o).drew) := fun o => ⟨HX.out o, HC.out _ (HB.out o)⟩
      have HD : Hid (xs.length = m → xs.drop m = []) := fun e => List.drop_of_length_le (by omega)
      have HR : Hid (∀ b off, a = some ⟨b, off, none⟩ → ∀ W, Rv W (.slice a xs.length cap) xs → Rv W (.slice (some ⟨b, off + m, none⟩) (xs.length - m) (cap - m)) (xs.drop m)) := fun b off e W hh => by
        subst e
        obtain ⟨a', cap', e, h1, h2, h3, h4, h5⟩ := hh
        cases e
        exact Rv.drop m hml h1 h2 h5
      generalize strB (xs.take m) = T at *
      generalize xs.drop m = D at *
      generalize xs.length = len at *
      clear h5 HC HX
      rcases Nat.lt_or_ge m cap with hcm' | hcm'
      · obtain ⟨b, off, rfl⟩ : ∃ b off, a = some ⟨b, off, none⟩ := by
          cases a with
          | none => have := h3 rfl; omega
          | some x =>
            obtain ⟨b, off, spot⟩ := x
            have := h4 _ rfl (by omega)
            simp only at this
            subst this
            exact ⟨b, off, rfl⟩
        have hr := HR.out b off rfl
        have HR' : Hid (∀ W, Rv W (.slice (some ⟨b, off, none⟩) len cap) xs → Rv W (.slice (some ⟨b, off + m, none⟩) (len - m) (cap - m)) D) := hr
        have hne : ¬ cap = m := by omega
        clear hr HR h3 h4 HK
        have q0 : (0 : Int) ≤ (m : Int) := by omega
        have q1 : (m : Int) ≤ (len : Int) := by omega
        have q2 : (m : Int) ≤ (cap : Int) := by omega
        go_enter Tryd.func20, Tryd.ntmps20
        go_wp2
        go_region_held3 (fun w' => w'.cell? ⟨w.heap.size, 0, none⟩ = some (.slice (some ⟨b, off, none⟩) len cap) ∧ (convert 25 9 (.slice (some ⟨b, off, none⟩) m cap)).run Tryd.prog w' = .ok (.string T) w') (exact HS.out _) (fail)
        all_goals
          go_wp2
          exact bodyPost_ret (v := .tuple #[.agg #[.slice (some ⟨b, off + m, none⟩) (len - m) (cap - m), .int .i64 0], .string T]) (by simp [results, Tryd.results20, go_sem]) rfl ⟨_, rfl, HR'.out, HB.out _⟩
      · obtain rfl : m = len := by omega
        obtain rfl : cap = m := by omega
        obtain rfl := HD.out rfl
        have HN : Hid (∀ w', Rv w' (.slice a 0 0) []) := fun w' => Rv.nothing a 0 (by simp) (fun _ => rfl) (fun x _ h => by omega)
        clear HR HD h3 h4 HK
        have q0 : (0 : Int) ≤ (cap : Int) := by omega
        cases a with
        | none =>
          go_enter Tryd.func20, Tryd.ntmps20
          go_wp2
          go_region_held3 (fun w' => w'.cell? ⟨w.heap.size, 0, none⟩ = some (.slice none cap cap) ∧ (convert 25 9 (.slice none cap cap)).run Tryd.prog w' = .ok (.string T) w') (exact HS.out _) (fail)
          all_goals
            go_wp2
            exact bodyPost_ret (v := .tuple #[.agg #[.slice none 0 0, .int .i64 0], .string T]) (by simp [results, Tryd.results20, go_sem]) rfl ⟨_, rfl, fun W _ => HN.out W, HB.out _⟩
        | some x =>
          obtain ⟨b, off, spot⟩ := x
          go_enter Tryd.func20, Tryd.ntmps20
          go_wp2
          go_region_held3 (fun w' => w'.cell? ⟨w.heap.size, 0, none⟩ = some (.slice (some ⟨b, off, spot⟩) cap cap) ∧ (convert 25 9 (.slice (some ⟨b, off, spot⟩) cap cap)).run Tryd.prog w' = .ok (.string T) w') (exact HS.out _) (fail)
          all_goals
            go_wp2
            exact bodyPost_ret (v := .tuple #[.agg #[.slice (some ⟨b, off, spot⟩) 0 0, .int .i64 0], .string T]) (by simp [results, Tryd.results20, go_sem]) rfl ⟨_, rfl, fun W _ => HN.out W, HB.out _⟩

/-- The cells of a new block of two. -/
theorem new_two (w : World) (u v : Value) (w' : World) (hb : Below (w.heap.size + 1) (w.alloc (.cells #[u, v] 35)) w') :
    w'.cell? ⟨w.heap.size, 0, none⟩ = some u ∧ w'.cell? ⟨w.heap.size, 1, none⟩ = some v ∧ w'.frozen? ⟨w.heap.size, 0, none⟩ = false ∧ w'.frozen? ⟨w.heap.size, 1, none⟩ = false := by
  refine ⟨?_, ?_, ?_, ?_⟩
  · rw [hb.cell (p := ⟨w.heap.size, 0, none⟩) (by simp), World.cell?_alloc_at _ _ _ _ rfl]; rfl
  · rw [hb.cell (p := ⟨w.heap.size, 1, none⟩) (by simp), World.cell?_alloc_at _ _ _ _ rfl]; rfl
  · rw [hb.frozen (p := ⟨w.heap.size, 0, none⟩) (by simp)]; exact World.frozen?_alloc_new ..
  · rw [hb.frozen (p := ⟨w.heap.size, 1, none⟩) (by simp)]; exact World.frozen?_alloc_new ..
end Go.Proofs.YtmlnocjljhhmdaaDoor
