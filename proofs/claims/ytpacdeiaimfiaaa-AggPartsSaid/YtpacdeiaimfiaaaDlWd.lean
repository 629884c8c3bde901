/-
  Two words held against two words. No condition.
-/
import Derived.Test.YtpacdeiaimfiaaaRows
import Derived.Test.YtpacdeiaimfiaaaTy
import Derived.Test.YtpacdeiaimfiaaaDlU
import Derived.ChangeKeysEq
import Derived.Test.YtpacdeiaimfiaaaDlU
set_option linter.unusedSimpArgs false
set_option linter.unusedVariables false
namespace Go.Proofs.Ytpacdeiaimfiaaa
open Go.RowKit Go.DL
theorem run_eqW (a b c d : Nat) (w : World) : (Op.equalIn 10000 56 (.agg #[.int .u64 a, .int .u64 b]) (.agg #[.int .u64 c, .int .u64 d])).run Try.prog w = .ok (decide (a = c) && decide (b = d)) w := by
  obtain ⟨i, hi⟩ : ∃ i, Try.prog.info? 54 = some i := Option.isSome_iff_exists.1 (by kernel_rfl)
  have hc : Try.prog.cellsOf 54 = 1 := by kernel_rfl
  rw [run_equalIn_array w 9999 _ _ Try.underlying56 hi, hc]
  have e1 : ∀ (x y : Value) (w : World), (part 54 #[x, y] 0).run Try.prog w = .ok x w := fun x y w => run_part Try.underlying54 rfl rfl
  have e2 : ∀ (x y : Value) (w : World), (part 54 #[x, y] 1).run Try.prog w = .ok y w := fun x y w => run_part Try.underlying54 rfl rfl
  have e3 : ∀ (x y : Nat) (w : World), (Op.equalIn 9999 54 (.int .u64 x) (.int .u64 y)).run Try.prog w = .ok (decide (x = y)) w := fun x y w => by
    rw [run_equalIn_int w 9998 54 _ _ _ _ Try.underlying54]
    congr 1
    rw [Bool.eq_iff_iff]; simp; omega
  simp only [show List.range 2 = [0, 1] from rfl, Op.eqItems, Sem.run_bind, Nat.zero_mul, Nat.one_mul, e1, e2, e3, Result.andThen_ok]
  by_cases h1 : a = c <;> by_cases h2 : b = d <;> simp [h1, h2, e2, e3]
section
variable {C : Ctx} {env : Nat → D} {H : Heap} {dst : Option Nat} {ty t' : TypeId} {pos : String} {after : Array Edge} {gu : Option (Nat × Bool)} {X Y : Operand}
theorem o_neW {a b c d : Nat} (hx : ev env X = .agg [N64 a, N64 b]) (hy : ev env Y = .agg [N64 c, N64 d]) : OpD Try.prog C ⟨dst, .binOp .neq 56 X Y t', ty, pos, after, gu⟩ env H (Bo (!(decide (a = c) && decide (b = d)))) H := by
  refine OpD.same fun K β ac w _ h _ => ?_
  have h0 := h X (by simp [Op.operands])
  have h1 := h Y (by simp [Op.operands])
  rw [hx] at h0; rw [hy] at h1
  obtain ⟨us, e0, l0, d0⟩ := h0.agg_inv
  obtain ⟨vs, e1, l1, d1⟩ := h1.agg_inv
  have hu : us = [.int .u64 a, .int .u64 b] := by
    rcases us with _ | ⟨u, _ | ⟨u', _ | ⟨_, _⟩⟩⟩ <;> simp at l0
    have q1 := (d0 0 u _ rfl rfl).v_inv
    have q2 := (d0 1 u' _ rfl rfl).v_inv
    rw [q1, q2]
  have hv : vs = [.int .u64 c, .int .u64 d] := by
    rcases vs with _ | ⟨u, _ | ⟨u', _ | ⟨_, _⟩⟩⟩ <;> simp at l1
    have q1 := (d1 0 u _ rfl rfl).v_inv
    have q2 := (d1 1 u' _ rfl rfl).v_inv
    rw [q1, q2]
  subst hu hv
  refine ⟨.bool (!(decide (a = c) && decide (b = d))), ?_, .v _ _, .v _⟩
  simp only [execOp, e0, e1, Sem.run_bind, run_eqGuard_agg (P := Try.prog) w .neq 56 X Y _ _ (by kernel_rfl), Result.andThen_ok, run_neq_struct, run_eqW, Sem.run_pure]
end
end Go.Proofs.Ytpacdeiaimfiaaa
