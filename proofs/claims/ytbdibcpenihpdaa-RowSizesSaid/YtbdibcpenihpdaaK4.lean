/-
  Layer key: the document's bytes of a value and of a row. No condition.
-/
import Derived.Test.YtbdibcpenihpdaaK3
import Derived.Test.YtbdibcpenihpdaaDlU
set_option linter.unusedSimpArgs false
set_option linter.unusedVariables false
namespace Go.Proofs.Ytbdibcpenihpdaa
open Go.RowKit Go.DL

def esc1 (c : UInt8) : List UInt8 := bif c == 0 then [0, 255] else [c]
def escM (t : List UInt8) : List UInt8 := t.flatMap esc1
/-- A value's bytes. -/
def oneM (v : Val) : List UInt8 := (v.k + 1) :: (bif v.k == 1 then [UInt8.ofNat (v.i % 256).toNat] else bif v.k == 2 then hi8 (((v.i % 18446744073709551616).toNat + 9223372036854775808) % 18446744073709551616) else bif v.k == 3 then escM v.t ++ [0, 1] else [])
theorem esc1_len (c : UInt8) : (esc1 c).length ≤ 2 := by unfold esc1; cases c == 0 <;> simp
theorem escM_len : ∀ t : List UInt8, (escM t).length ≤ 2 * t.length
  | [] => by simp [escM]
  | c :: t => by
    have h1 := escM_len t
    have h2 := esc1_len c
    simp only [escM, List.flatMap_cons, List.length_append, List.length_cons] at *
    omega
theorem esc_step {t : List UInt8} {k : Nat} (h : k < t.length) : escM (t.take (k + 1)) = escM (t.take k) ++ esc1 t[k] := by
  unfold escM
  rw [List.take_succ_eq_append_getElem h, List.flatMap_append]; simp
theorem oneM_len (v : Val) : (oneM v).length ≤ 2 * v.t.length + 11 := by
  have := escM_len v.t
  unfold oneM
  cases v.k == 1 <;> cases v.k == 2 <;> cases v.k == 3 <;> simp [hi8_len] <;> omega
/-- A row's bytes behind others; nothing where a value may not be. -/
def appM (b : List UInt8) (l : List Val) : Option (List UInt8) := bif l.all mayM then some (b ++ l.flatMap oneM) else none
def resA (o : Option (List UInt8)) : D := .tup [rdB (o.getD []), I64 (bif o.isSome then 0 else 1)]
/-- How many bytes a row may have, at most. -/
def szM (l : List Val) : Nat := (l.map fun v => 2 * v.t.length + 11).sum
theorem szM_step {l : List Val} {k : Nat} (h : k < l.length) : szM (l.take (k + 1)) = szM (l.take k) + (2 * l[k].t.length + 11) := by
  unfold szM
  rw [List.take_succ_eq_append_getElem h, List.map_append, List.sum_append]; simp
theorem szM_take (l : List Val) (k : Nat) : szM (l.take k) ≤ szM l := by
  conv => rhs; rw [← List.take_append_drop k l]
  unfold szM
  rw [List.map_append, List.sum_append]; omega
theorem szM_ge (l : List Val) : 11 * l.length ≤ szM l := by
  induction l with
  | nil => simp [szM]
  | cons v l ih => simp only [szM, List.map_cons, List.sum_cons, List.length_cons] at *; omega
theorem ones_len (l : List Val) : (l.flatMap oneM).length ≤ szM l := by
  induction l with
  | nil => simp
  | cons v l ih =>
    have := oneM_len v
    simp only [szM, List.flatMap_cons, List.length_append, List.map_cons, List.sum_cons] at *; omega
theorem ones_step {l : List Val} {k : Nat} (h : k < l.length) : (l.take (k + 1)).flatMap oneM = (l.take k).flatMap oneM ++ oneM l[k] := by
  rw [List.take_succ_eq_append_getElem h, List.flatMap_append]; simp
end Go.Proofs.Ytbdibcpenihpdaa
