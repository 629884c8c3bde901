/-
  Layer key: what a law's rows of values read as. No condition.
-/
import Derived.Test.YtmkljbcjgobjfaaK13
import Derived.Test.YtmkljbcjgobjfaaDlK
set_option linter.unusedSimpArgs false
set_option linter.unusedVariables false
namespace Go.Proofs.Ytmkljbcjgobjfaa
open Go.RowKit Go.DL

def okV (v : Val) : Prop := -9223372036854775808 ≤ v.i ∧ v.i ≤ 9223372036854775807 ∧ v.t.length ≤ 9223372036854775807
theorem valR : Rds Try.prog 41 okV vc := by
  refine Rds.map (α := Nat × Int × ByteArray × Unit) (ok := fun p => p.1 ≤ 255 ∧ ((-9223372036854775808 ≤ p.2.1 ∧ p.2.1 ≤ 9223372036854775807) ∧ (p.2.2.1.size ≤ maxLen ∧ True))) (f := fun p => [.v (.int .u8 (p.1 : Int))] ++ ([I64 p.2.1] ++ ([.v (.string p.2.2.1)] ++ []))) ?_ ?_
  · refine Rds.struct (tot := 1 + (1 + (1 + 0))) Try.underlying41 rfl ?_
    refine RdF.cons (P := Try.prog) (off := 0) (sz := 1) (tot := 1 + (1 + 0)) (ok := fun n : Nat => n ≤ 255) (f := fun n => [D.v (.int .u8 (n : Int))]) (ok' := fun p : Int × ByteArray × Unit => (-9223372036854775808 ≤ p.1 ∧ p.1 ≤ 9223372036854775807) ∧ (p.2.1.size ≤ maxLen ∧ True)) (g := fun p => [I64 p.1] ++ ([.v (.string p.2.1)] ++ [])) rfl rfl ?_ ?_
    · exact Rds.nat (m := 255) Try.underlying5 rfl rfl
    refine RdF.cons (P := Try.prog) (sz := 1) (tot := 1 + 0) (ok := fun n : Int => -9223372036854775808 ≤ n ∧ n ≤ 9223372036854775807) (f := fun n => [I64 n]) (ok' := fun p : ByteArray × Unit => p.1.size ≤ maxLen ∧ True) (g := fun p => [.v (.string p.1)] ++ []) rfl rfl ?_ ?_
    · exact Rds.i64 Try.underlying2
    refine RdF.cons (P := Try.prog) (sz := 1) (tot := 0) (ok := fun s : ByteArray => s.size ≤ maxLen) (f := fun s => [D.v (.string s)]) (ok' := fun _ : Unit => True) (g := fun _ => []) rfl rfl ?_ ?_
    · exact Rds.str Try.underlying9
    · exact RdF.nil _
  · rintro ⟨a, b, s, _⟩ ⟨h1, h2, h3, _⟩
    have h1 : a ≤ 255 := h1
    have h3 : s.data.size ≤ 9223372036854775807 := h3
    refine ⟨⟨UInt8.ofNat a, b, s.data.toList⟩, ⟨h2.1, h2.2, by simpa using h3⟩, ?_⟩
    have e : (UInt8.ofNat a).toNat = a := by rw [UInt8.toNat_ofNat']; exact Nat.mod_eq_of_lt (by omega)
    show [D.v (.int .u8 (a : Int))] ++ ([I64 b] ++ ([D.v (.string s)] ++ [])) = [D.v (.int .u8 ((UInt8.ofNat a).toNat : Int)), I64 b, S s.data.toList]
    rw [e]; rfl
def okL (l : List Val) : Prop := (∀ v ∈ l, okV v) ∧ l.length ≤ 9223372036854775807
theorem valsR : Rds Try.prog 23 okL (fun l => [rdV l]) := by exact Rds.slice Try.underlying23 rfl valR
theorem bytesR : Rds Try.prog 22 (fun l : List UInt8 => l.length ≤ 9223372036854775807) (fun l => [rdB l]) := by exact Rds.bytes Try.underlying22 rfl Try.underlying5
theorem appends_l (b : List UInt8) (hb : b.length ≤ 9223372036854775807) (l : List Val) (hl : okL l) : Fun Try.prog 3 [rdB b, rdV l] (· = Bo true) := appends_c b l hb hl.2
end Go.Proofs.Ytmkljbcjgobjfaa
