/-
  Layer ints: the bytes' row, as numbers alone; the program's Get. No condition.
-/
import Derived.Test.YtbdibcpenihpdaaI7
import Derived.Test.YtbdibcpenihpdaaDlU
set_option linter.unusedSimpArgs false
set_option linter.unusedVariables false
namespace Go.Proofs.Ytbdibcpenihpdaa
open Go.RowKit Go.DL

theorem vget_len5 (b : List UInt8) : (vget b).2.1 ≤ b.length ∧ ((vget b).2.2 = 0 → 1 ≤ (vget b).2.1) := by
  rcases vget_wrong b with h | h
  · have := vget_back (b := b) (x := (vget b).1) (m := (vget b).2.1) (by rw [← h])
    exact ⟨this.2.1, fun _ => this.1⟩
  · rw [h.2.1]
    exact ⟨Nat.zero_le _, fun h0 => by rw [h0] at h; rcases h.2.2 with h | h <;> cases h⟩
/-! ### The bytes' runs: all changes -/
def addI (a b : Int) : Int := sgn ((a + b) % 18446744073709551616).toNat
/-- Step, last number and numbers of changes. -/
def nS (c : List Int) : Int × Int × List Int := c.foldl (fun q d => (addI q.1 d, addI q.2.1 (addI q.1 d), q.2.2 ++ [addI q.2.1 (addI q.1 d)])) (0, 0, [])
theorem nS_snoc (c : List Int) (d : Int) : nS (c ++ [d]) = (addI (nS c).1 d, addI (nS c).2.1 (addI (nS c).1 d), (nS c).2.2 ++ [addI (nS c).2.1 (addI (nS c).1 d)]) := by
  unfold nS; rw [List.foldl_append]; rfl
theorem nS_len (c : List Int) : (nS c).2.2.length = c.length := by
  have h : ∀ (c : List Int) (q : Int × Int × List Int), (c.foldl (fun q d => (addI q.1 d, addI q.2.1 (addI q.1 d), q.2.2 ++ [addI q.2.1 (addI q.1 d)])) q).2.2.length = q.2.2.length + c.length := by
    intro c
    induction c with
    | nil => intro q; rfl
    | cons d c ih => intro q; rw [List.foldl_cons, ih]; simp; omega
  have := h c (0, 0, [])
  unfold nS; rw [this]; simp
def gI (b : List UInt8) (n : Nat) : Nat → Nat → List Int → List Int × Nat
  | 0, _, _ => ([], 21)
  | f + 1, a, c =>
    if n ≤ c.length then (if a < b.length then ([], 21) else (c, 0))
    else if ¬ (vget (b.drop a)).2.2 = 0 then ([], (vget (b.drop a)).2.2)
    else if (vget (b.drop a)).1 = 0 ∨ n - c.length < (vget (b.drop a)).1 then ([], 21)
    else if ¬ (vget (b.drop (a + (vget (b.drop a)).2.1))).2.2 = 0 then ([], (vget (b.drop (a + (vget (b.drop a)).2.1))).2.2)
    else if 0 < c.length ∧ c.getD (c.length - 1) 0 = zagI (vget (b.drop (a + (vget (b.drop a)).2.1))).1 then ([], 21)
    else gI b n f (a + (vget (b.drop a)).2.1 + (vget (b.drop (a + (vget (b.drop a)).2.1))).2.1) (c ++ List.replicate (vget (b.drop a)).1 (zagI (vget (b.drop (a + (vget (b.drop a)).2.1))).1))
theorem gI_fuel (b : List UInt8) (n : Nat) : ∀ (f f' a : Nat) (c : List Int), n + 1 ≤ c.length + f → n + 1 ≤ c.length + f' → 0 < f → 0 < f' → gI b n f a c = gI b n f' a c
  | 0, _, _, _, _, _, h, _ => absurd h (by omega)
  | _, 0, _, _, _, _, _, h => absurd h (by omega)
  | f + 1, f' + 1, a, c, h1, h2, _, _ => by
    rw [gI, gI]
    by_cases e1 : n ≤ c.length
    · rw [if_pos e1, if_pos e1]
    rw [if_neg e1, if_neg e1]
    split
    · rfl
    split
    · rfl
    rename_i e2
    split
    · rfl
    split
    · rfl
    refine gI_fuel b n f f' _ _ ?_ ?_ ?_ ?_ <;> (try simp only [List.length_append, List.length_replicate]) <;> omega
def repI (c : List Int) (k : Nat) (d : Int) : List Int := c ++ List.replicate k d
/-- The row of bytes behind place a, so many changes being told. -/
def gG (b : List UInt8) (n a : Nat) (c : List Int) : List Int × Nat := gI b n (n + 1 - c.length + 1) a c
section
variable {b : List UInt8} {n a : Nat} {c : List Int}
theorem gG_end (h : n ≤ c.length) (ha : ¬ a < b.length) : gG b n a c = (c, 0) := by unfold gG; rw [gI, if_pos h, if_neg ha]
theorem gG_rest (h : n ≤ c.length) (ha : a < b.length) : gG b n a c = ([], 21) := by unfold gG; rw [gI, if_pos h, if_pos ha]
variable {r s : Nat × Nat × Nat}
theorem gG_bad1 (h : c.length < n) (hr : r = vget (b.drop a)) (h1 : ¬ r.2.2 = 0) : gG b n a c = ([], r.2.2) := by subst hr; unfold gG; rw [gI, if_neg (by omega), if_pos h1]
theorem gG_many (h : c.length < n) (hr : r = vget (b.drop a)) (h1 : r.2.2 = 0) (h2 : r.1 = 0 ∨ n - c.length < r.1) : gG b n a c = ([], 21) := by subst hr; unfold gG; rw [gI, if_neg (by omega), if_neg (fun hh => hh h1), if_pos h2]
theorem gG_bad2 (h : c.length < n) (hr : r = vget (b.drop a)) (h1 : r.2.2 = 0) (h2 : ¬ (r.1 = 0 ∨ n - c.length < r.1)) (hs : s = vget (b.drop (a + r.2.1))) (h3 : ¬ s.2.2 = 0) : gG b n a c = ([], s.2.2) := by subst hs hr; unfold gG; rw [gI, if_neg (by omega), if_neg (fun hh => hh h1), if_neg h2, if_pos h3]
theorem gG_same (h : c.length < n) (hr : r = vget (b.drop a)) (h1 : r.2.2 = 0) (h2 : ¬ (r.1 = 0 ∨ n - c.length < r.1)) (hs : s = vget (b.drop (a + r.2.1))) (h3 : s.2.2 = 0) (h4 : 0 < c.length ∧ c.getD (c.length - 1) 0 = zagI s.1) : gG b n a c = ([], 21) := by subst hs hr; unfold gG; rw [gI, if_neg (by omega), if_neg (fun hh => hh h1), if_neg h2, if_neg (fun hh => hh h3), if_pos h4]
theorem gG_step (h : c.length < n) (hr : r = vget (b.drop a)) (h1 : r.2.2 = 0) (h2 : ¬ (r.1 = 0 ∨ n - c.length < r.1)) (hs : s = vget (b.drop (a + r.2.1))) (h3 : s.2.2 = 0) (h4 : ¬ (0 < c.length ∧ c.getD (c.length - 1) 0 = zagI s.1)) : gG b n a c = gG b n (a + r.2.1 + s.2.1) (repI c r.1 (zagI s.1)) := by
  subst hs hr
  conv => lhs; unfold gG
  rw [gI, if_neg (by omega), if_neg (fun hh => hh h1), if_neg h2, if_neg (fun hh => hh h3), if_neg h4]
  unfold gG repI
  refine gI_fuel _ _ _ _ _ _ ?_ ?_ ?_ ?_ <;> (try simp only [List.length_append, List.length_replicate]) <;> omega
end
theorem repI_len (c : List Int) (k : Nat) (d : Int) : (repI c k d).length = c.length + k := by simp [repI]
theorem repI_zero (c : List Int) (d : Int) : repI c 0 d = c := by simp [repI]
theorem repI_succ (c : List Int) (k : Nat) (d : Int) : repI c (k + 1) d = repI c k d ++ [d] := by unfold repI; rw [List.replicate_succ', List.append_assoc]
theorem repI_getD (c : List Int) (m : Nat) (d : Int) (h : 0 < m) : (repI c m d).getD ((repI c m d).length - 1) 0 = d := by
  obtain ⟨k, rfl⟩ : ∃ k, m = k + 1 := ⟨m - 1, by omega⟩
  rw [repI_succ]
  simp [List.getD]
theorem addI_u (a b : Int) : sgn (((a % 18446744073709551616).toNat + (b % 18446744073709551616).toNat) % 18446744073709551616) = addI a b := by unfold addI; exact congrArg sgn (by omega)
theorem repI_out {c : List Int} {k : Nat} {d : Int} : (nS (repI c (k + 1) d)).2.2.map I64 = (nS (repI c k d)).2.2.map I64 ++ [I64 (nS (repI c (k + 1) d)).2.1] := by rw [repI_succ, nS_snoc]; simp
theorem repI_st {c : List Int} {k : Nat} {d : Int} : (nS (repI c (k + 1) d)).1 = addI (nS (repI c k d)).1 d := by rw [repI_succ, nS_snoc]
theorem repI_la {c : List Int} {k : Nat} {d : Int} : (nS (repI c (k + 1) d)).2.1 = addI (nS (repI c k d)).2.1 (nS (repI c (k + 1) d)).1 := by rw [repI_succ, nS_snoc]
theorem vgetE_c {b : List UInt8} {r : Nat × Nat × Nat} (hr : r = vget b) (hb : b.length ≤ 10995116277760) : Fun Try.prog 44 [rdB b] (· = vr r) := by subst hr; exact vget_c b hb
theorem rgetE_c {b : List UInt8} {r : Nat × Nat × Nat} (hr : r = vget b) (hb : b.length ≤ 10995116277760) : Fun Try.prog 46 [rdB b] (· = vr r) := by subst hr; exact rget_c b hb
abbrev VI (r : List Int × Nat) : D := .tup [rdI (nS r.1).2.2, I64 r.2]
def getI5 (b : List UInt8) (n : Int) : List Int × Nat := if n < 0 ∨ 65536 < n then ([], 1) else gG b n.toNat 0 []
end Go.Proofs.Ytbdibcpenihpdaa
