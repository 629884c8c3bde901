/-
  Layer key: the document's bytes of a row. No condition.
-/
import Derived.Test.YtbdibcpenihpdaaK2
import Derived.Test.YtbdibcpenihpdaaDlU
set_option linter.unusedSimpArgs false
set_option linter.unusedVariables false
namespace Go.Proofs.Ytbdibcpenihpdaa
open Go.RowKit Go.DL

/-- A number's eight bytes, the highest first. -/
def hi8 (u : Nat) : List UInt8 := (List.range 8).map fun i => UInt8.ofNat (u / 256 ^ (7 - i))
def hiJ (u j : Nat) : List UInt8 := (List.range 8).map fun i => if 8 - j ≤ i then UInt8.ofNat (u / 256 ^ (7 - i)) else 0
theorem hi8_len (u : Nat) : (hi8 u).length = 8 := by simp [hi8]
theorem hiJ_len (u j : Nat) : (hiJ u j).length = 8 := by simp [hiJ]
theorem hiJ_all (u : Nat) : hiJ u 8 = hi8 u := by simp [hiJ, hi8]
theorem ofNat_mod (n : Nat) : UInt8.ofNat (n % 256) = UInt8.ofNat n := by
  apply UInt8.toNat_inj.1; simp [UInt8.toNat_ofNat']
theorem hi_set {u j : Nat} (h : j < 8) : spl (bytesD (hiJ u j)) (0 + (7 - j) * 1) [B8 (UInt8.ofNat (u / 256 ^ j % 256))] = bytesD (hiJ u (j + 1)) := by
  rw [show 0 + (7 - j) * 1 = 7 - j by omega, spl_one _ _ _ (by rw [bytesD_len, hiJ_len]; omega)]
  apply List.ext_getElem?
  intro i
  rw [List.getElem?_set, bytesD_len, hiJ_len]
  unfold bytesD hiJ
  by_cases hi : i < 8
  · simp only [List.getElem?_map, List.getElem?_range hi, Option.map_some]
    by_cases e : 7 - j = i
    · subst e
      rw [if_pos rfl, if_pos hi, if_pos (by omega), show 7 - (7 - j) = j by omega, ofNat_mod]; rfl
    · rw [if_neg e]
      by_cases h2 : 8 - j ≤ i
      · rw [if_pos h2, if_pos (by omega)]
      · rw [if_neg h2, if_neg (by omega)]
  · rw [if_neg (by omega), List.getElem?_eq_none (by simp; omega), List.getElem?_eq_none (by simp; omega)]
end Go.Proofs.Ytbdibcpenihpdaa
