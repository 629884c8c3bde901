/-
  Layer agg: readers of arguments; AggNil of what is read. No condition.
-/
import Derived.Test.YtpacdeiaimfiaaaH9
import Derived.Test.YtpacdeiaimfiaaaDlK
import Derived.Test.YtpacdeiaimfiaaaDlU
set_option linter.unusedSimpArgs false
set_option linter.unusedVariables false
namespace Go.Proofs.Ytpacdeiaimfiaaa
open Go.RowKit Go.DL

def okV (v : Val) : Prop := -9223372036854775808 ≤ v.i ∧ v.i ≤ 9223372036854775807 ∧ v.t.length ≤ 9223372036854775807
theorem valR : Rds Try.prog 23 okV vc := by
  refine Rds.map (α := Nat × Int × ByteArray × Unit) (ok := fun p => p.1 ≤ 255 ∧ ((-9223372036854775808 ≤ p.2.1 ∧ p.2.1 ≤ 9223372036854775807) ∧ (p.2.2.1.size ≤ maxLen ∧ True))) (f := fun p => [.v (.int .u8 (p.1 : Int))] ++ ([I64 p.2.1] ++ ([.v (.string p.2.2.1)] ++ []))) ?_ ?_
  · refine Rds.struct (tot := 1 + (1 + (1 + 0))) Try.underlying23 rfl ?_
    refine RdF.cons (P := Try.prog) (off := 0) (sz := 1) (tot := 1 + (1 + 0)) (ok := fun n : Nat => n ≤ 255) (f := fun n => [D.v (.int .u8 (n : Int))]) (ok' := fun p : Int × ByteArray × Unit => (-9223372036854775808 ≤ p.1 ∧ p.1 ≤ 9223372036854775807) ∧ (p.2.1.size ≤ maxLen ∧ True)) (g := fun p => [I64 p.1] ++ ([.v (.string p.2.1)] ++ [])) rfl rfl ?_ ?_
    · exact Rds.nat (m := 255) Try.underlying5 rfl rfl
    refine RdF.cons (P := Try.prog) (sz := 1) (tot := 1 + 0) (ok := fun n : Int => -9223372036854775808 ≤ n ∧ n ≤ 9223372036854775807) (f := fun n => [I64 n]) (ok' := fun p : ByteArray × Unit => p.1.size ≤ maxLen ∧ True) (g := fun p => [.v (.string p.1)] ++ []) rfl rfl ?_ ?_
    · exact Rds.i64 Try.underlying2
    refine RdF.cons (P := Try.prog) (sz := 1) (tot := 0) (ok := fun s : ByteArray => s.size ≤ maxLen) (f := fun s => [D.v (.string s)]) (ok' := fun _ : Unit => True) (g := fun _ => []) rfl rfl ?_ ?_
    · exact Rds.str Try.underlying9
    · exact RdF.nil _
  · rintro ⟨a, b, s, _⟩ ⟨h1, h2, h3, _⟩
    have h1 : a ≤ 255 := h1
    have h3 : s.data.size ≤ 9223372036854775807 := h3
    refine ⟨⟨UInt8.ofNat a, b, s.data.toList⟩, ⟨h2.1, h2.2, by simpa using h3⟩, ?_⟩
    have e : (UInt8.ofNat a).toNat = a := by rw [UInt8.toNat_ofNat']; exact Nat.mod_eq_of_lt (by omega)
    show [D.v (.int .u8 (a : Int))] ++ ([I64 b] ++ ([D.v (.string s)] ++ [])) = [D.v (.int .u8 ((UInt8.ofNat a).toNat : Int)), I64 b, S s.data.toList]
    rw [e]; rfl
theorem u8R : Rds Try.prog 5 (fun _ : UInt8 => True) (fun c => [B8 c]) := by
  refine Rds.map (Rds.nat (m := 255) Try.underlying5 rfl rfl) ?_
  intro a h
  have h : a ≤ 255 := h
  refine ⟨UInt8.ofNat a, trivial, ?_⟩
  have e : (UInt8.ofNat a).toNat = a := by rw [UInt8.toNat_ofNat']; exact Nat.mod_eq_of_lt (by omega)
  show [D.v (.int .u8 (a : Int))] = [D.v (.int .u8 ((UInt8.ofNat a).toNat : Int))]
  rw [e]
theorem intR' : Rds Try.prog 3 (fun n : Int => -9223372036854775808 ≤ n ∧ n ≤ 9223372036854775807) (fun n => [I64 n]) := by exact Rds.i64 Try.underlying3
theorem intsR0 : Rds Try.prog 44 (fun l : List Int => (∀ x ∈ l, -9223372036854775808 ≤ x ∧ x ≤ 9223372036854775807) ∧ l.length ≤ 9223372036854775807) (fun l => [D.rd l.length (l.flatMap fun n => [I64 n])]) := by exact Rds.slice Try.underlying44 rfl (Rds.i64 Try.underlying2)
theorem intsR : Rds Try.prog 44 (fun l : List Int => (∀ x ∈ l, -9223372036854775808 ≤ x ∧ x ≤ 9223372036854775807) ∧ l.length ≤ 9223372036854775807) (fun l => [rdI l]) := by
  have e : (fun l : List Int => [D.rd l.length (l.flatMap fun n => [I64 n])]) = fun l => [rdI l] := by
    funext l
    rw [show (l.flatMap fun n => [I64 n]) = l.map I64 by induction l with | nil => rfl | cons a l ih => simp [ih]]
  rw [← e]; exact @intsR0
theorem nil_r (op : UInt8) (_ : True) (other : UInt8) (_ : True) (v : Val) (_ : okV v) : Fun Try.prog 3 [B8 op, B8 other, VD v] (· = Bo true) := nil_c op other v
end Go.Proofs.Ytpacdeiaimfiaaa
