/-
  Samples one behind the other: what the state keeps.
-/
import Derived.Test.YtbomkapnkpjjbaaFr
import Derived.Deep.QuietTactic
namespace Go.Proofs.Ytbomkapnkpjjbaa
open Go.RowKit

abbrev atQ (l : List (Int × Int)) (i : Nat) : Int × Int := l.getD i (0, 0)
theorem atQ_eq (l : List (Int × Int)) (i : Nat) (h : i < l.length) : atQ l i = l[i] := by simp [atQ, List.getD, List.getElem?_eq_getElem h]
theorem PQ.kept {w w' : World} {v : Value} {l : List (Int × Int)} (h : PQ w v l) (hb : Below w.heap.size w w') : PQ w' v l := ⟨h.is.kept hb, h.ok⟩
theorem PQ.at {w : World} {a : Option Addr} {n c : Nat} {l : List (Int × Int)} (h : PQ w (.slice a n c) l) (i : Nat) (hi : i < l.length) : ∃ b off, a = some ⟨b, off, none⟩ ∧ w.cell? ⟨b, off + i * 2, none⟩ = some (.int .u16 (atQ l i).1) ∧ w.cell? ⟨b, off + i * 2 + 1, none⟩ = some (.int .u16 (atQ l i).2) := by
  obtain ⟨b, off, e, hr⟩ := h.is.at i (by rw [List.length_map]; exact hi)
  have e2 : atC (l.map p16) i = p16 (atQ l i) := by simp [atC, atQ, List.getD, List.getElem?_eq_getElem hi]
  rw [e2] at hr
  exact ⟨b, off, e, hr 0 _ rfl, hr 1 _ rfl⟩
theorem PQ.shape {w : World} {v : Value} {l : List (Int × Int)} (h : PQ w v l) : ∃ a c, v = .slice a l.length c := by
  obtain ⟨a, c, e, _⟩ := h.is.shape
  exact ⟨a, c, by rw [List.length_map] at e; exact e⟩


theorem drn (w : World) (n : Nat) : Below w.heap.size w (w.drewN n) := ⟨rfl, rfl, rfl, Nat.le_refl _, fun _ _ => rfl⟩
/-- What the state keeps: the least one, the greatest one, the greatest delay. -/
structure MI (j : Nat) (x : Sta) (le mo de : Int) : Prop where
  b : (0 ≤ le ∧ le ≤ mo ∧ mo < 65536) ∧ 0 ≤ de ∧ de < 65536
  z : j = 0 → x = Sta.z ∧ mo = 0 ∧ le = 0
  s : 0 < j → x.h = true ∧ (le ≤ x.l ∧ x.l ≤ mo) ∧ x.m = le ∧ (0 ≤ x.s ∧ le - de ≤ x.s ∧ x.s ≤ mo) ∧ 0 ≤ x.v ∧ x.v ≤ mo + de
theorem MI.start : MI 0 Sta.z 0 0 0 := ⟨by omega, fun _ => ⟨rfl, rfl, rfl⟩, fun h => by omega⟩
def leN (j : Nat) (le n : Int) : Int := if j = 0 ∨ n < le then n else le
theorem MI.next {j : Nat} {x : Sta} {le mo de n d : Int} (h : MI j x le mo de) (hn : 0 ≤ n ∧ n < 65536) (hd : 0 ≤ d ∧ d < 65536) :
    ∃ S V, smp x n d = ⟨true, n, leN j le n, S, V⟩ ∧ MI (j + 1) ⟨true, n, leN j le n, S, V⟩ (leN j le n) (max mo n) (max de d) ∧ chk ⟨true, n, leN j le n, S, V⟩ = true ∧ leN j le n ≤ n := by
  have tn : tm n = true := tm_iff.2 (by omega)
  have td : tm d = true := tm_iff.2 (by omega)
  obtain ⟨⟨b1, b2, b3⟩, b4, b5⟩ := h.b
  rcases Nat.eq_zero_or_pos j with rfl | hj
  · obtain ⟨rfl, rfl, rfl⟩ := h.z rfl
    have e : leN 0 0 n = n := by unfold leN; rw [if_pos (.inl rfl)]
    rw [e]
    refine ⟨n, n / 2, ?_, ⟨by omega, fun h => by omega, fun _ => ⟨rfl, by simp only; omega, rfl, by simp only; omega, by simp only; omega⟩⟩, ?_, Int.le_refl _⟩
    · unfold smp
      rw [if_neg (by rw [tn, td]; decide), if_pos (show kn Sta.z = false from rfl)]
    · have t2 : tm (n / 2) = true := tm_iff.2 (by omega)
      show (if true = true then tm n && tm n && tm n && tm (n / 2) && decide (n ≤ n) else _) = true
      rw [if_pos rfl, tn, t2, decide_eq_true (Int.le_refl n)]
      rfl
  · obtain ⟨xh, xl, xm, xs, xv⟩ := x
    obtain ⟨h0, ⟨h1, h2⟩, h3, ⟨h4, h5, h6⟩, h7, h8⟩ := h.s hj
    simp only at h0 h1 h2 h3 h4 h5 h6 h7 h8
    subst h0 h3
    have e : leN j xm n = min xm n := by
      unfold leN
      by_cases hc : n < xm
      · rw [if_pos (.inr hc)]; omega
      · rw [if_neg (by omega)]; omega
    rw [e]
    obtain ⟨q, hq⟩ : ∃ q, q = min xm n := ⟨_, rfl⟩
    obtain ⟨a, ha⟩ : ∃ a, a = adj n d q := ⟨_, rfl⟩
    have hab : q ≤ a ∧ a ≤ n := by rw [ha]; unfold adj; split <;> omega
    obtain ⟨p, hp⟩ : ∃ p, p = apt xs a := ⟨_, rfl⟩
    have hpb : 0 ≤ p ∧ p ≤ max mo n := by rw [hp]; unfold apt; split <;> omega
    have hk : kn ⟨true, xl, xm, xs, xv⟩ = true := by
      have t1 : tm xl = true := tm_iff.2 (by omega)
      have t2 : tm xm = true := tm_iff.2 (by omega)
      have t3 : tm xs = true := tm_iff.2 (by omega)
      have t4 : tm xv = true := tm_iff.2 (by omega)
      show (true && (if true = true then tm xl && tm xm && tm xs && tm xv && decide (xm ≤ xl) else _)) = true
      rw [if_pos rfl, t1, t2, t3, t4, decide_eq_true h1]
      rfl
    rw [← hq]
    have hS : 0 ≤ (7 * xs + a) / 8 ∧ q - max de d ≤ (7 * xs + a) / 8 ∧ (7 * xs + a) / 8 ≤ max mo n := by omega
    have hV : 0 ≤ (3 * xv + p) / 4 ∧ (3 * xv + p) / 4 ≤ max mo n + max de d := by omega
    refine ⟨(7 * xs + a) / 8, (3 * xv + p) / 4, ?_, ⟨by omega, fun h => by omega, fun _ => ⟨rfl, by simp only; omega, rfl, by simp only; omega, by simp only; omega⟩⟩, ?_, by omega⟩
    · unfold smp
      rw [if_neg (by rw [tn, td]; decide), if_neg (by rw [hk]; decide), hp, ha, hq]
    · have t1 : tm q = true := tm_iff.2 (by omega)
      have t2 : tm ((7 * xs + a) / 8) = true := tm_iff.2 (by omega)
      have t3 : tm ((3 * xv + p) / 4) = true := tm_iff.2 (by omega)
      show (if true = true then tm n && tm q && tm ((7 * xs + a) / 8) && tm ((3 * xv + p) / 4) && decide (q ≤ n) else _) = true
      rw [if_pos rfl, tn, t1, t2, t3, decide_eq_true (show q ≤ n by omega)]
      rfl
end Go.Proofs.Ytbomkapnkpjjbaa
