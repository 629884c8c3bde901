/-
  Layer agg: a reader of rows of pairs; AggNulls of what is read.
-/
import Derived.Test.YtpacdeiaimfiaaaH13
import Derived.Test.YtpacdeiaimfiaaaDlU
set_option linter.unusedSimpArgs false
set_option linter.unusedVariables false
namespace Go.Proofs.Ytpacdeiaimfiaaa
open Go.RowKit Go.DL
set_option maxRecDepth 20000
theorem pairR : Rds Try.prog 42 (fun p : Pr => okV p.1 ∧ okV p.2) pv := by
  refine Rds.map (α := Val × Val × Unit) (ok := fun p => okV p.1 ∧ (okV p.2.1 ∧ True)) (f := fun p => vc p.1 ++ (vc p.2.1 ++ [])) ?_ ?_
  · refine Rds.struct (tot := 3 + (3 + 0)) Try.underlying42 rfl ?_
    refine RdF.cons (P := Try.prog) (off := 0) (sz := 3) (tot := 3 + 0) (ok := okV) (f := vc) (ok' := fun p : Val × Unit => okV p.1 ∧ True) (g := fun p => vc p.1 ++ []) rfl rfl ?_ ?_
    · exact valR
    refine RdF.cons (P := Try.prog) (sz := 3) (tot := 0) (ok := okV) (f := vc) (ok' := fun _ : Unit => True) (g := fun _ => []) rfl rfl ?_ ?_
    · exact valR
    · exact RdF.nil _
  · rintro ⟨a, b, _⟩ ⟨h1, h2, _⟩
    exact ⟨(a, b), ⟨h1, h2⟩, by simp [pv]⟩
theorem pairsR : Rds Try.prog 35 (fun l : List Pr => (∀ p ∈ l, okV p.1 ∧ okV p.2) ∧ l.length ≤ 9223372036854775807) (fun l => [rdQ l]) := by exact Rds.slice Try.underlying35 rfl pairR
theorem nulls_r (op : UInt8) (_ : True) (l : List Pr) (hl : (∀ p ∈ l, okV p.1 ∧ okV p.2) ∧ l.length ≤ 9223372036854775807) (k : Int) (hk : -9223372036854775808 ≤ k ∧ k ≤ 9223372036854775807) (v : Val) (hv : okV v) : Fun Try.prog 6 [B8 op, rdQ l, I64 k, VD v] (· = Bo true) := nulls_c op l hl k hk v hv
end Go.Proofs.Ytpacdeiaimfiaaa
