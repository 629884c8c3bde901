/-
  Layer ints: runs told while they go on, and at their ends, are the same. No condition.
-/
import Derived.Test.YtbdibcpenihpdaaI5
import Derived.Test.YtbdibcpenihpdaaDlU
set_option linter.unusedSimpArgs false
set_option linter.unusedVariables false
namespace Go.Proofs.Ytbdibcpenihpdaa
open Go.RowKit Go.DL

def runsG : List Int → Nat → Int → List (Nat × Int)
  | [], n, c => if 0 < n then [(n, c)] else []
  | d :: r, n, c => if 0 < n ∧ ¬ d = c then (n, c) :: runsG r 1 d else runsG r (n + 1) d
theorem sgn_inj {a b : Nat} (ha : a ≤ 18446744073709551615) (hb : b ≤ 18446744073709551615) (h : sgn a = sgn b) : a = b := by
  unfold sgn at h
  split at h <;> split at h <;> omega
theorem runsG_rN : ∀ (r : List Nat) (x n : Nat), (∀ y ∈ x :: r, y ≤ 18446744073709551615) → runsG (r.map sgn) (n + 1) (sgn x) = rN (x :: r) n
  | [], x, n, _ => by simp [runsG, rN]
  | d :: r, x, n, h => by
    have hd := h d (by simp)
    have hx := h x (by simp)
    have h' : ∀ y ∈ d :: r, y ≤ 18446744073709551615 := fun y hy => h y (by simp only [List.mem_cons] at hy ⊢; exact .inr hy)
    rw [List.map_cons, runsG, rN, List.head?_cons]
    by_cases e : d = x
    · subst e
      rw [if_neg (fun hh => hh.2 rfl), if_pos rfl]
      exact runsG_rN r d (n + 1) h'
    · rw [if_pos ⟨by omega, fun hh => e (sgn_inj hd hx hh)⟩, if_neg (fun hh => e (Option.some.inj hh))]
      exact congrArg _ (runsG_rN r d 0 h')
theorem runsG_all (c : List Nat) (h : ∀ y ∈ c, y ≤ 18446744073709551615) : runsG (c.map sgn) 0 0 = rN c 0 := by
  cases c with
  | nil => rfl
  | cons x r =>
    rw [List.map_cons, runsG, if_neg (fun hh => Nat.lt_irrefl _ hh.1)]
    exact runsG_rN r x 0 h
def laI (l : List Int) (i : Nat) : Int := if 0 < i then l.getD (i - 1) 0 else 0
def stI (l : List Int) (i : Nat) : Int := if 0 < i then wrapI (laI l i) (laI l (i - 1)) else 0
theorem sgn_mod {n : Nat} (h : n ≤ 18446744073709551615) : sgn n % 18446744073709551616 = n := by unfold sgn; split <;> omega
theorem wrap_mod (a b : Int) : wrapI a b % 18446744073709551616 = (a - b) % 18446744073709551616 := by
  unfold wrapI
  rw [sgn_mod (by omega)]; omega
theorem sbN_mod {a b : Nat} (hb : b ≤ 18446744073709551615) : ((sbN a b : Nat) : Int) = ((a : Int) - b) % 18446744073709551616 := by unfold sbN; omega
theorem uI_mod (x : Int) : ((uI x : Nat) : Int) = x % 18446744073709551616 := by unfold uI; omega
theorem laN_mod (l : List Int) (i : Nat) : ((laN l i : Nat) : Int) = laI l i % 18446744073709551616 := by
  unfold laN laI
  split
  · exact uI_mod _
  · rfl
theorem stN_mod (l : List Int) (i : Nat) : ((stN l i : Nat) : Int) = stI l i % 18446744073709551616 := by
  unfold stN stI
  by_cases h0 : 0 < i
  · rw [if_pos h0, wrap_mod]
    by_cases h1 : 1 < i
    · rw [if_pos h1, sbN_mod (uI_le _), laN_mod, uI_mod]
      have : laI l (i - 1) = l.getD (i - 2) 0 := by unfold laI; rw [if_pos (by omega), show i - 1 - 1 = i - 2 by omega]
      rw [this]; omega
    · rw [if_neg h1, laN_mod]
      have : laI l (i - 1) = 0 := by unfold laI; rw [if_neg (by omega)]
      rw [this, Int.sub_zero]
  · rw [if_neg h0, if_neg (by omega), laN_mod]
    unfold laI; rw [if_neg h0]
theorem chg_is {l : List Int} {i : Nat} (x : Int) (hx : x = l.getD i 0) : wrapI (wrapI x (laI l i)) (stI l i) = sgn (chg l i) := by
  subst hx
  have h1 := wrap_mod (l.getD i 0) (laI l i)
  have h2 : ((chg l i : Nat) : Int) = (l.getD i 0 - laI l i - stI l i) % 18446744073709551616 := by
    unfold chg
    rw [sbN_mod (stN_le _ _), sbN_mod (laN_le _ _), uI_mod, laN_mod, stN_mod]; omega
  have h3 : (wrapI (l.getD i 0) (laI l i) - stI l i) % 18446744073709551616 = ((chg l i : Nat) : Int) := by rw [h2]; omega
  conv => lhs; unfold wrapI
  exact congrArg sgn (by
    show ((wrapI (l.getD i 0) (laI l i) - stI l i) % 18446744073709551616).toNat = _
    rw [h3]; omega)
theorem cN_drop {l : List Int} {i : Nat} (h : i < l.length) : (cN l).drop i = chg l i :: (cN l).drop (i + 1) := by
  have hi : i < (cN l).length := by unfold cN; rw [chgs_len]; exact h
  rw [List.drop_eq_getElem_cons hi]
  have h1 : (cN l)[i]? = some (chg l i) := by unfold cN chgs; rw [List.getElem?_map, List.getElem?_range h]; rfl
  rw [List.getElem?_eq_getElem hi] at h1
  rw [Option.some.inj h1]
theorem runsF_G (l : List Int) : ∀ (m i n : Nat) (c : Int), i + m = l.length → runsF (l.drop i) (laI l i) (stI l i) n c = runsG (((cN l).drop i).map sgn) n c
  | 0, i, n, c, h => by
    rw [List.drop_eq_nil_of_le (by omega), List.drop_eq_nil_of_le (by unfold cN; rw [chgs_len]; omega)]; rfl
  | m + 1, i, n, c, h => by
    have hi : i < l.length := by omega
    have hl : laI l (i + 1) = l[i] := by unfold laI; rw [if_pos (by omega), gI_at hi]; rfl
    have hs : stI l (i + 1) = wrapI l[i] (laI l i) := by unfold stI; rw [if_pos (by omega), hl]; rfl
    have hw := chg_is (l := l) (i := i) l[i] (gI_at hi)
    have ih := fun n c => runsF_G l m (i + 1) n c (by omega)
    rw [hl, hs] at ih
    rw [cN_drop hi, List.map_cons, runsG, List.drop_eq_getElem_cons hi, runsF, hw]
    split
    · exact congrArg _ (ih 1 _)
    · exact ih (n + 1) _
theorem runs_same (l : List Int) : runsM l = rN (cN l) 0 := by
  have h := runsF_G l l.length 0 0 0 (by omega)
  rw [List.drop_zero, List.drop_zero] at h
  rw [← runsG_all (cN l) (fun y hy => by
    unfold cN chgs at hy
    obtain ⟨j, _, rfl⟩ := List.mem_map.1 hy
    exact chg_le l j)]
  exact h
end Go.Proofs.Ytbdibcpenihpdaa
