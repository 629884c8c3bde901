/-
  Layer agg: the model of AggBounds: counts, sums, averages, the least and the greatest of Ints.
-/
import Derived.Test.YtpacdeiaimfiaaaH10
import Derived.Test.YtpacdeiaimfiaaaDlU
set_option linter.unusedSimpArgs false
set_option linter.unusedVariables false
namespace Go.Proofs.Ytpacdeiaimfiaaa
open Go.RowKit Go.DL

def qv (n : Int) : Pr := (iV n, z0)
def qs (l : List Int) : List Pr := l.map qv
@[simp] theorem qs_len (l : List Int) : (qs l).length = l.length := by simp [qs]
theorem qs_in {l : List Int} (h : ∀ x ∈ l, -1125899906842624 ≤ x ∧ x ≤ 1125899906842624) : ∀ p ∈ qs l, inIv p.1 := fun p hp => by
  obtain ⟨x, hx, rfl⟩ := List.mem_map.1 hp
  have := h x hx
  show -9223372036854775808 ≤ x ∧ x ≤ 9223372036854775807
  omega
theorem fold_cnt : ∀ (l : List Int) (s : St), (qs l).foldl (fun s p => feedM 22 p.1 p.2 s) s = { s with n := s.n + l.length }
  | [], s => rfl
  | x :: l, s => by
    show (qs l).foldl _ (feedM 22 (iV x) z0 s) = _
    rw [fold_cnt l, show feedM 22 (iV x) z0 s = moreM 1 0 s from rfl]
    simp [moreM]; omega
theorem fold_sum {op : UInt8} (ho : op = 23 ∨ op = 26) : ∀ (l : List Int) (s : St), (qs l).foldl (fun s p => feedM op p.1 p.2 s) s = { s with n := s.n + l.length, z := s.z + l.sum }
  | [], s => by simp [qs]
  | x :: l, s => by
    show (qs l).foldl _ (feedM op (iV x) z0 s) = _
    rw [fold_sum ho l, show feedM op (iV x) z0 s = moreM 1 x s by rcases ho with rfl | rfl <;> rfl]
    simp [moreM]; omega
theorem cmpB_self (a : UInt8) : cmpB a a = 0 := by unfold cmpB; simp
theorem cmpI_self (a : Int) : cmpI a a = 0 := by unfold cmpI; simp
theorem cmpT_nil : Lib.compareBytes [] [] = 0 := by decide
theorem cmpV_i (x y : Int) : cmpV (iV x) (iV y) = cmpI x y := by
  unfold cmpV iV
  simp only [cmpB_self, ne_eq, not_true_eq_false, if_false, cmpT_nil]
  split
  · rfl
  · next h => exact (Decidable.not_not.1 h).symm
theorem cmpI_lt {x y : Int} : cmpI x y = -1 ↔ x < y := by unfold cmpI; split <;> (try split) <;> simp <;> omega
theorem cmpI_gt {x y : Int} : cmpI x y = 1 ↔ y < x := by unfold cmpI; split <;> (try split) <;> simp <;> omega
/-- What is kept of Ints: none yet, or the utmost of all. -/
def Utm (d : Int) (s : St) (seen : List Int) : Prop := (s.has = false ∧ seen = [] ∧ s.by' = z0) ∨ (∃ m, s.has = true ∧ s.best = iV m ∧ s.by' = z0 ∧ m ∈ seen ∧ ∀ x ∈ seen, d * x ≤ d * m)
theorem utm_step {d : Int} (hd : d = -1 ∨ d = 1) {s : St} {seen : List Int} (h : Utm d s seen) (x : Int) : Utm d (pickM d (iV x) z0 s) (seen ++ [x]) := by
  rcases h with ⟨h1, h2, h3⟩ | ⟨m, h1, h2, h3, h4, h5⟩
  · rw [pick_yes (.inl h1)]
    exact .inr ⟨x, rfl, rfl, rfl, by simp, fun y hy => by subst h2; simp at hy; subst hy; exact Int.le_refl _⟩
  · have e : (if cmpV z0 s.by' = 0 then cmpV (iV x) s.best else cmpV z0 s.by') = cmpI x m := by
      rw [h3, if_pos (by decide), h2, cmpV_i]
    by_cases hc : cmpI x m = d
    · rw [pick_yes (.inr (e.trans hc))]
      refine .inr ⟨x, rfl, rfl, rfl, by simp, fun y hy => ?_⟩
      rcases List.mem_append.1 hy with hy | hy
      · have := h5 y hy
        rcases hd with rfl | rfl
        · rw [cmpI_lt] at hc; omega
        · rw [cmpI_gt] at hc; omega
      · simp at hy; subst hy; exact Int.le_refl _
    · rw [pick_no (by rw [h1, e]; simpa using hc)]
      refine .inr ⟨m, h1, h2, h3, List.mem_append_left _ h4, fun y hy => ?_⟩
      rcases List.mem_append.1 hy with hy | hy
      · exact h5 y hy
      · simp at hy; subst hy
        rcases hd with rfl | rfl
        · rw [cmpI_lt] at hc; omega
        · rw [cmpI_gt] at hc; omega
theorem fold_utm {op : UInt8} {d : Int} (ho : (op = 24 ∧ d = -1) ∨ (op = 25 ∧ d = 1)) : ∀ (l : List Int) (s : St) (seen : List Int), Utm d s seen → Utm d ((qs l).foldl (fun s p => feedM op p.1 p.2 s) s) (seen ++ l)
  | [], s, seen, h => by simpa [qs] using h
  | x :: l, s, seen, h => by
    show Utm d ((qs l).foldl _ (feedM op (iV x) z0 s)) _
    have hd : d = -1 ∨ d = 1 := by rcases ho with ⟨_, h⟩ | ⟨_, h⟩; exact .inl h; exact .inr h
    rw [show feedM op (iV x) z0 s = pickM d (iV x) z0 s by rcases ho with ⟨rfl, rfl⟩ | ⟨rfl, rfl⟩ <;> rfl]
    have := fold_utm ho l _ _ (utm_step hd h x)
    rwa [List.append_assoc] at this
theorem sum_le {l : List Int} {m : Int} (h : ∀ x ∈ l, x ≤ m) : l.sum ≤ m * l.length := by
  induction l with
  | nil => simp
  | cons x l ih =>
    have h1 := ih fun y hy => h y (by simp [hy])
    have h2 := h x (by simp)
    rw [List.sum_cons, List.length_cons, Int.natCast_add, Int.mul_add]; omega
theorem le_sum {l : List Int} {m : Int} (h : ∀ x ∈ l, m ≤ x) : m * l.length ≤ l.sum := by
  induction l with
  | nil => simp
  | cons x l ih =>
    have h1 := ih fun y hy => h y (by simp [hy])
    have h2 := h x (by simp)
    rw [List.sum_cons, List.length_cons, Int.natCast_add, Int.mul_add]; omega
theorem cmp_lo {l : List Int} {k : Nat} (h : k < l.length) {m M : Int} (hm : ∀ x ∈ l, m ≤ x ∧ x ≤ M) : ¬ cmpV (iV l[k]) (iV m) < 0 ∧ ¬ cmpV (iV l[k]) (iV M) > 0 := by
  have := hm _ (List.getElem_mem h)
  rw [cmpV_i, cmpV_i]; unfold cmpI
  constructor
  · rw [if_neg (by omega)]; split <;> decide
  · split
    · decide
    · rw [if_neg (by omega)]; decide
theorem qs_at {l : List Int} {k : Nat} (h : k < (qs l).length) : (qs l)[k].1 = iV (l[k]'(by rwa [qs_len] at h)) := by simp [qs, qv]
theorem qs_D {l : List Int} {k : Nat} (h : k < (qs l).length) : (qs l).getD k (z0, z0) = (qs l)[k] := by rw [List.getD_eq_getElem?_getD, List.getElem?_eq_getElem h]; rfl
/-- Where there are Ints. -/
structure BndS (l : List Int) (vs va vx vy : Val) : Prop where
  m1 : -9223372036854775808 ≤ va.i * (l.length : Int)
  m2 : va.i * (l.length : Int) ≤ 9223372036854775807
  d1 : -9223372036854775808 ≤ vs.i - va.i * (l.length : Int)
  d2 : vs.i - va.i * (l.length : Int) ≤ 9223372036854775807
  r1 : vs.i - va.i * (l.length : Int) ≥ 0
  r2 : vs.i - va.i * (l.length : Int) < (l.length : Int)
  r3 : va.i ≥ vx.i
  r4 : va.i ≤ vy.i
  c : ∀ (k : Nat) (h : k < (qs l).length), (decide (cmpV (qs l)[k].1 vx < 0) || decide (cmpV ((qs l).getD k (z0, z0)).1 vy > 0)) = false
/-- What the five answers are. -/
structure Bnd (l : List Int) (vs va vx vy : Val) : Prop where
  cnt : ansM 22 (foldF 22 (qs l)) = (iV l.length, 0)
  sum : ansM 23 (foldF 23 (qs l)) = (vs, 0)
  avg : ansM 26 (foldF 26 (qs l)) = (va, 0)
  lo : ansM 24 (foldF 24 (qs l)) = (vx, 0)
  hi : ansM 25 (foldF 25 (qs l)) = (vy, 0)
  none : l.length = 0 → vs.k = 0 ∧ va.k = 0 ∧ vx.k = 0 ∧ vy.k = 0
  some : ¬ l.length = 0 → BndS l vs va vx vy
theorem bnd (l : List Int) (hl : l.length ≤ 300) (h : ∀ x ∈ l, -1125899906842624 ≤ x ∧ x ≤ 1125899906842624) : ∃ vs va vx vy, Bnd l vs va vx vy := by
  have c1 : foldF 22 (qs l) = { st0 22 with n := 0 + l.length } := fold_cnt l (st0 22)
  have c2 : foldF 23 (qs l) = { st0 23 with n := 0 + l.length, z := 0 + l.sum } := fold_sum (.inl rfl) l (st0 23)
  have c3 : foldF 26 (qs l) = { st0 26 with n := 0 + l.length, z := 0 + l.sum } := fold_sum (.inr rfl) l (st0 26)
  have c4 : Utm (-1) (foldF 24 (qs l)) l := fold_utm (.inl ⟨rfl, rfl⟩) l (st0 24) [] (.inl ⟨rfl, rfl, rfl⟩)
  have c5 : Utm 1 (foldF 25 (qs l)) l := fold_utm (.inr ⟨rfl, rfl⟩) l (st0 25) [] (.inl ⟨rfl, rfl, rfl⟩)
  have b1 := sum_le (fun x hx => (h x hx).2)
  have b2 := le_sum (fun x hx => (h x hx).1)
  have e1 : ansM 22 (foldF 22 (qs l)) = (iV l.length, 0) := by
    rw [c1]; show ((⟨2, ((0 + l.length : Nat) : Int), []⟩ : Val), (0 : Int)) = _; rw [Nat.zero_add]; rfl
  have e2 : ansM 23 (foldF 23 (qs l)) = if l.length = 0 then (z0, 0) else (iV l.sum, 0) := by
    rw [c2]
    show totM _ = _
    unfold totM
    simp only [Int.zero_add, Nat.zero_add]
    rw [if_neg (by omega)]; rfl
  have e3 : ansM 26 (foldF 26 (qs l)) = if l.length = 0 then (z0, 0) else (iV (l.sum / l.length), 0) := by
    rw [c3]
    show midM _ = _
    unfold midM
    simp only [Int.zero_add, Nat.zero_add]; rfl
  rcases Nat.eq_zero_or_pos l.length with h0 | h0
  · have hn := List.eq_nil_of_length_eq_zero h0
    rcases c4 with ⟨p1, _, _⟩ | ⟨m, _, _, _, p4, _⟩
    · rcases c5 with ⟨q1, _, _⟩ | ⟨m, _, _, _, p4, _⟩
      · refine ⟨z0, z0, z0, z0, e1, by rw [e2, if_pos h0], by rw [e3, if_pos h0], ?_, ?_, fun _ => ⟨rfl, rfl, rfl, rfl⟩, fun h => absurd h0 h⟩
        · show pkM _ = _; unfold pkM; rw [p1]; rfl
        · show pkM _ = _; unfold pkM; rw [q1]; rfl
      · rw [hn] at p4; cases p4
    · rw [hn] at p4; cases p4
  · rcases c4 with ⟨_, p2, _⟩ | ⟨m, p1, p2, p3, p4, p5⟩
    · rw [p2] at h0; exact absurd h0 (by decide)
    rcases c5 with ⟨_, q2, _⟩ | ⟨M, q1, q2, q3, q4, q5⟩
    · rw [q2] at h0; exact absurd h0 (by decide)
    have hp : (0 : Int) < l.length := by omega
    have d1 := le_sum (l := l) (m := m) (fun x hx => by have := p5 x hx; omega)
    have d2 := sum_le (l := l) (m := M) (fun x hx => by have := q5 x hx; omega)
    have hdm := Int.emod_add_ediv_mul l.sum l.length
    have hd1 := Int.emod_nonneg l.sum (show (l.length : Int) ≠ 0 by omega)
    have hd2 := Int.emod_lt_of_pos l.sum hp
    refine ⟨iV l.sum, iV (l.sum / l.length), iV m, iV M, e1, by rw [e2, if_neg (by omega)], by rw [e3, if_neg (by omega)], ?_, ?_, fun hn => by rw [hn] at h0; exact absurd h0 (by decide), fun _ => ⟨?_, ?_, ?_, ?_, ?_, ?_, ?_, ?_, fun k hk => ?_⟩⟩
    · show pkM _ = _; unfold pkM; rw [p1, p2]; rfl
    · show pkM _ = _; unfold pkM; rw [q1, q2]; rfl
    · show _ ≤ l.sum / l.length * l.length; omega
    · show l.sum / l.length * l.length ≤ _; omega
    · show _ ≤ l.sum - l.sum / l.length * l.length; omega
    · show l.sum - l.sum / l.length * l.length ≤ _; omega
    · show l.sum - l.sum / l.length * l.length ≥ 0; omega
    · show l.sum - l.sum / l.length * l.length < _; omega
    · exact (Int.le_ediv_iff_mul_le hp).2 d1
    · exact Int.ediv_le_of_le_mul hp d2
    · obtain ⟨b1, b2⟩ := cmp_lo (l := l) (k := k) (by rwa [qs_len] at hk) (m := m) (M := M) (fun x hx => by have := p5 x hx; have := q5 x hx; omega)
      rw [qs_D hk, qs_at hk, decide_eq_false b1, decide_eq_false b2]; rfl
end Go.Proofs.Ytpacdeiaimfiaaa
