/-
  What was laid is read as it was, plainly.
-/
import Derived.Test.YtjiefndjgkhcjaaDoorGe
import Derived.Test.YtjiefndjgkhcjaaDoorFiNums
namespace Go.Proofs.YtjiefndjgkhcjaaDoor
open Go.RowKit
set_option maxRecDepth 100000

theorem lenOf_ne (n : Int) (h0 : 0 ≤ n) (h1 : n < 4611686018427387904) : Fi.lenOf n ≠ 0 := by
  have := Fi.size_len0 ⟨(List.replicate n.toNat (0 : UInt8)).toArray⟩ (by simp [ByteArray.size]; omega)
  have e : ((⟨(List.replicate n.toNat (0 : UInt8)).toArray⟩ : ByteArray).size : Int) = n := by simp [ByteArray.size]; omega
  rwa [e] at this
theorem rN_num (n m : Int) (ys : List Int) (h0 : 0 ≤ n) (h1 : n < 4611686018427387904) (hm : n ≤ m) : rN (Fi.numB n ++ ys) 0 m = (n, ys, 0) := by
  have hl := lenOf_ne n h0 h1
  obtain ⟨a, b, c⟩ := Fi.na_num n m ys hl hm
  unfold rN
  rw [if_pos rfl, a, b, c]
  have e : (Fi.lenOf n).toNat = (Fi.numB n).length := by have := Fi.numB_len n; omega
  rw [e, List.drop_left]
theorem rB_one (z : Int) (ys : List Int) : rB (z :: ys) 0 = (z, ys, 0) := by
  have h : (1 : Int) ≤ (ys.length : Int) + 1 := by omega
  unfold rB Fi.byV Fi.raN Fi.raE
  simp [h]
theorem rR_app (X ys : List Int) (n : Nat) (h : X.length = n) : rR (X ++ ys) 0 n = (X, ys, 0) := by
  have e1 : Fi.raE (X ++ ys) n = 0 := by unfold Fi.raE; rw [if_neg (by omega), if_neg (by rw [List.length_append]; omega)]
  have e2 : Fi.raN (X ++ ys) n = X.length := by unfold Fi.raN; rw [if_pos e1]; omega
  unfold rR
  rw [if_pos rfl, e1, e2, List.take_left, List.drop_left]
theorem ov32_self (X : List Int) (h : X.length = 32) : ov32 X = X := by
  unfold ov32
  rw [List.drop_of_length_le (by rw [z32_len]; omega), List.append_nil]
theorem rW_four (a b c d : Int) (ys : List Int) : rW 4 (a :: b :: c :: d :: ys) 0 = (((a * 256 + b) * 256 + c) * 256 + d, ys, 0) := by
  have h1 : rW 1 (a :: b :: c :: d :: ys) 0 = (a, b :: c :: d :: ys, 0) := by
    rw [rW, rW]; simp only [rB_one]; simp
  have h2 : rW 2 (a :: b :: c :: d :: ys) 0 = (a * 256 + b, c :: d :: ys, 0) := by
    rw [rW, h1]; simp only [rB_one]
  have h3 : rW 3 (a :: b :: c :: d :: ys) 0 = ((a * 256 + b) * 256 + c, d :: ys, 0) := by
    rw [rW, h2]; simp only [rB_one]
  rw [rW, h3]
  simp only [rB_one]
theorem be4_k (k : Int) (h0 : 0 ≤ k) (h1 : k < 4294967296) : ((k / 16777216 % 256 * 256 + k / 65536 % 256) * 256 + k / 256 % 256) * 256 + k % 256 = k := by omega
theorem tkG_lay (x : Sg) (h : x.ok) (ys : List Int) : tkG (layG x ++ ys) 0 = (x, ys, 0) := by
  have e : layG x ++ ys = (x.k / 16777216 % 256) :: (x.k / 65536 % 256) :: (x.k / 256 % 256) :: (x.k % 256) :: (x.s ++ ys) := by simp [layG, be4]
  have q := rR_app x.s ys 32 h.1
  unfold tkG
  rw [e, rW_four, be4_k x.k h.2.2.1 h.2.2.2]
  simp only
  rw [show (32 : Int) = ((32 : Nat) : Int) from rfl, q]
  simp only
  rw [ov32_self x.s h.1]
theorem drop_at (l : List Sg) (j : Nat) (hj : j < l.length) : l.drop j = atI l j :: l.drop (j + 1) := by
  rw [List.drop_eq_getElem_cons hj, atI_eq l j hj]
theorem rds_lay (l : List Sg) (ys : List Int) (hok : ∀ x ∈ l, x.ok) : ∀ j, j ≤ l.length → rds j ((l.map layG).flatten ++ ys) 0 = (l.take j, ((l.drop j).map layG).flatten ++ ys, 0)
  | 0, _ => by simp [rds]
  | j + 1, hj => by
    have ih := rds_lay l ys hok j (by omega)
    rw [rds, ih]
    simp only [if_true]
    rw [drop_at l j hj, List.map_cons, List.flatten_cons, List.append_assoc, tkG_lay _ (Sg.at l hok j)]
    simp only
    rw [takeI_at l j hj]
theorem chk_zero (z n : Int) (L : Nat) (h : chk z n L = 0) : 1 ≤ z ∧ z ≤ 4096 ∧ 0 ≤ n ∧ n ≤ 65536 ∧ L = n.toNat / z.toNat ∧ L ≤ 4096 := by
  unfold chk at h
  split at h
  · cases h
  · split at h
    · cases h
    · split at h
      · cases h
      · omega
theorem gz_lay (z n : Int) (l : List Sg) (ys : List Int) (h : chk z n l.length = 0) : gz (layL z n l ++ ys) = (z, Fi.numB n ++ ((l.map layG).flatten ++ ys), 0) := by
  obtain ⟨h1, h2, h3, h4, h5, h6⟩ := chk_zero z n _ h
  unfold gz layL
  rw [List.append_assoc, rN_num z 4096 _ (by omega) (by omega) (by omega), List.append_assoc]
theorem gn_lay (z n : Int) (l : List Sg) (ys : List Int) (h : chk z n l.length = 0) : gn (layL z n l ++ ys) = (n, (l.map layG).flatten ++ ys, 0) := by
  obtain ⟨h1, h2, h3, h4, h5, h6⟩ := chk_zero z n _ h
  unfold gn
  rw [gz_lay z n l ys h]
  exact rN_num n 65536 _ (by omega) (by omega) (by omega)
/-- What is laid is read as it was, whatever stands behind. -/
theorem rdA_lay (z n : Int) (l : List Sg) (ys : List Int) (hok : ∀ x ∈ l, x.ok) (h : chk z n l.length = 0) : rdA (layL z n l ++ ys) = l := by
  obtain ⟨h1, h2, h3, h4, h5, h6⟩ := chk_zero z n _ h
  unfold rdA rdN
  rw [gz_lay z n l ys h, gn_lay z n l ys h]
  simp only
  rw [← h5, rds_lay l ys hok _ (Nat.le_refl _), List.take_length]
theorem bput_ok (z n : Int) (l : List Sg) (h : chk z n l.length = 0) : bput z n l = (layL z n l, 0) := by unfold bput; rw [if_neg (by simpa using h)]
theorem bput_zero (z n : Int) (l : List Sg) (h : (bput z n l).2 = 0) : chk z n l.length = 0 := by
  unfold bput at h
  by_cases h1 : chk z n l.length = 0
  · exact h1
  · rw [if_pos h1] at h; exact h
theorem bget_lay (z n : Int) (l : List Sg) (hok : ∀ x ∈ l, x.ok) (h : chk z n l.length = 0) : bget (layL z n l) = (z, n, l, 0) := by
  have h1 := rdA_lay z n l [] hok h
  have h2 := gz_lay z n l [] h
  have h3 := gn_lay z n l [] h
  rw [List.append_nil] at h1 h2 h3
  unfold bget
  rw [h1, h2, h3]
  simp only
  rw [bput_ok z n l h, if_pos ⟨rfl, rfl⟩]
theorem bget_more (z n : Int) (l : List Sg) (c : Int) (hok : ∀ x ∈ l, x.ok) (h : chk z n l.length = 0) : bget (layL z n l ++ [c]) = (0, 0, [], 4) := by
  unfold bget
  rw [rdA_lay z n l [c] hok h, gz_lay z n l [c] h, gn_lay z n l [c] h]
  simp only
  rw [bput_ok z n l h, if_neg]
  rintro ⟨_, e⟩
  have := congrArg List.length e
  simp at this
theorem tkG_bt (xs : List Int) (e : Int) (h : Bt xs) : Bt (tkG xs e).2.1 := by
  unfold tkG
  exact rR_bt _ _ _ (rW_bd 4 xs e h).2.2
theorem rds_ok : ∀ (j : Nat) (xs : List Int) (e : Int), Bt xs → (∀ x ∈ (rds j xs e).1, x.ok) ∧ Bt (rds j xs e).2.1
  | 0, xs, e, h => ⟨fun x hx => by simp [rds] at hx, h⟩
  | j + 1, xs, e, h => by
    obtain ⟨h1, h2⟩ := rds_ok j xs e h
    rw [rds]
    split
    · refine ⟨fun x hx => ?_, tkG_bt _ _ h2⟩
      rcases List.mem_append.1 hx with h' | h'
      · exact h1 x h'
      · simp at h'; subst h'; exact tkG_ok _ _ h2
    · exact ⟨h1, h2⟩
theorem rdA_ok (b : List Int) (h : Bt b) : ∀ x ∈ rdA b, x.ok := (rds_ok _ _ _ (rN_bt _ _ 65536 (rN_bt b 0 4096 h))).1
theorem bget_cases (b : List Int) : (bget b = ((gz b).1, (gn b).1, rdA b, 0) ∧ bput (gz b).1 (gn b).1 (rdA b) = (b, 0)) ∨ bget b = (0, 0, [], 4) := by
  unfold bget
  by_cases h : (bput (gz b).1 (gn b).1 (rdA b)).2 = 0 ∧ (bput (gz b).1 (gn b).1 (rdA b)).1 = b
  · rw [if_pos h]
    left
    refine ⟨rfl, ?_⟩
    obtain ⟨h1, h2⟩ := h
    generalize bput (gz b).1 (gn b).1 (rdA b) = P at *
    obtain ⟨x, y⟩ := P
    simp only at h1 h2
    rw [h1, h2]
  · rw [if_neg h]; exact .inr rfl
/-- What is laid is told by the beginning of whatever it begins. -/
theorem lay_inj (z n z' n' : Int) (l l' : List Sg) (ys : List Int) (hok : ∀ x ∈ l, x.ok) (hok' : ∀ x ∈ l', x.ok) (h : chk z n l.length = 0) (h' : chk z' n' l'.length = 0) (e : layL z n l = layL z' n' l' ++ ys) : ys = [] := by
  have a1 := rdA_lay z n l [] hok h
  have a2 := gz_lay z n l [] h
  have a3 := gn_lay z n l [] h
  rw [List.append_nil, e, rdA_lay z' n' l' ys hok' h'] at a1
  rw [List.append_nil, e, gz_lay z' n' l' ys h'] at a2
  rw [List.append_nil, e, gn_lay z' n' l' ys h'] at a3
  obtain rfl : z' = z := congrArg Prod.fst a2
  obtain rfl : n' = n := congrArg Prod.fst a3
  subst a1
  have := congrArg List.length e
  rw [List.length_append] at this
  exact List.length_eq_zero_iff.1 (by omega)
theorem bget_less (z n : Int) (l : List Sg) (hok : ∀ x ∈ l, x.ok) (h : chk z n l.length = 0) (hb : Bt (layL z n l)) (hp : 0 < (layL z n l).length) : bget ((layL z n l).take ((layL z n l).length - 1)) = (0, 0, [], 4) := by
  have hbt : Bt ((layL z n l).take ((layL z n l).length - 1)) := bytes_take _ _ hb
  rcases bget_cases ((layL z n l).take ((layL z n l).length - 1)) with ⟨_, h2⟩ | h2
  · exfalso
    have hm := bput_zero _ _ _ (by rw [h2])
    rw [bput_ok _ _ _ hm] at h2
    have h3 := congrArg Prod.fst h2
    simp only at h3
    have e : layL z n l = layL (gz ((layL z n l).take ((layL z n l).length - 1))).1 (gn ((layL z n l).take ((layL z n l).length - 1))).1 (rdA ((layL z n l).take ((layL z n l).length - 1))) ++ (layL z n l).drop ((layL z n l).length - 1) := by
      rw [h3, List.take_append_drop]
    have h4 := lay_inj z n _ _ l _ _ hok (rdA_ok _ hbt) h hm e
    have := congrArg List.length h4
    rw [List.length_drop] at this
    simp at this
    omega
  · exact h2
theorem layL_two (z n : Int) (l : List Sg) (h : chk z n l.length = 0) : 2 ≤ (layL z n l).length := by
  obtain ⟨h1, h2, h3, h4, h5, h6⟩ := chk_zero z n _ h
  have a1 := Fi.numB_len z
  have a2 := lenOf_ne z (by omega) (by omega)
  have a3 := Fi.numB_len n
  have a4 := lenOf_ne n (by omega) (by omega)
  have b1 : (Fi.numB z).length ≠ 0 := fun e => a2 (by omega)
  have b2 : (Fi.numB n).length ≠ 0 := fun e => a4 (by omega)
  unfold layL
  rw [List.length_append, List.length_append]
  omega
theorem layL_len (z n : Int) (l : List Sg) (hok : ∀ x ∈ l, x.ok) : (layL z n l).length ≤ 16 + l.length * 36 := by
  have h1 := numB_len8 z
  have h2 := numB_len8 n
  have h3 := lays_len l hok
  unfold layL
  rw [List.length_append, List.length_append]
  omega
end Go.Proofs.YtjiefndjgkhcjaaDoor
