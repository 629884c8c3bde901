/-
  Layer ints: the program's Put, whole. No condition.
-/
import Derived.Test.YtbdibcpenihpdaaI2
import Derived.Test.YtbdibcpenihpdaaDlU
set_option linter.unusedSimpArgs false
set_option linter.unusedVariables false
namespace Go.Proofs.Ytbdibcpenihpdaa
open Go.RowKit Go.DL

set_option maxHeartbeats 4000000 in
theorem runs_c (l : List Int) : Fun Try.prog 38 [rdI l] (· = .fn (.func 55) [.adr [rdI l]]) := by
  refine Fun.of Try.func38 rfl (Nat.le_of_ble_eq_true rfl) fun C => ?_
  refine WC.seq fun Fh1_ h1_ => ?_
  refine WC.region ?_
  refine RG.op _ _ rfl rfl (o_box (d := .rd _ _) rfl rfl) ?_
  refine RG.op _ _ rfl rfl (o_assign (.v _) rfl) ?_
  refine RG.nil (h1_ _ ?_)
  refine WC.seq fun Fh2_ h2_ => ?_
  refine WC.frz 0 _ [(1, .adr [rdI l])] rfl (by repeat (first | exact pu_bytes _ | exact pu_nil | exact pu_vs rfl | exact pu_map (fun _ => .v _) _ | exact pu_vals _ | refine pu_app ?_ ?_ | refine pu_cons (by exact pu_of rfl) ?_)) ⟨.ptr 0, trivial⟩ ?_
  refine WC.region ?_
  refine RG.op _ _ rfl rfl (o_makeFunc) ?_
  refine RG.op _ _ rfl rfl (o_assign (.fn _ _) rfl) ?_
  refine RG.nil (h2_ _ ?_)
  refine WC.ret ?_
  exact Ends.r1 rfl (.tmp _ (.fn _ _) rfl) (.pure' (by exact pu_of rfl)) (rfl)
theorem wrap_rng (a b : Int) : -9223372036854775808 ≤ wrapI a b ∧ wrapI a b ≤ 9223372036854775807 := by
  unfold wrapI sgn
  split <;> omega
theorem runsF_ok : ∀ (l : List Int) (la st : Int) (n : Nat) (c : Int), n + l.length ≤ 18446744073709551615 → -9223372036854775808 ≤ c → c ≤ 9223372036854775807 → (∀ p ∈ runsF l la st n c, okP p) ∧ (runsF l la st n c).length ≤ l.length + 1
  | [], la, st, n, c, h, h1, h2 => by
    rw [runsF]
    split
    · refine ⟨fun p hp => ?_, by simp⟩
      rw [List.mem_singleton] at hp
      subst hp
      exact ⟨by simpa using h, h1, h2⟩
    · exact ⟨fun p hp => by simp at hp, by simp⟩
  | v :: l, la, st, n, c, h, h1, h2 => by
    have hw := wrap_rng (wrapI v la) st
    rw [List.length_cons] at h
    rw [runsF]
    split
    · have ih := runsF_ok l v (wrapI v la) 1 _ (by omega) hw.1 hw.2
      refine ⟨fun p hp => ?_, by simp only [List.length_cons]; omega⟩
      rcases List.mem_cons.1 hp with rfl | hp
      · exact ⟨show n ≤ _ by omega, h1, h2⟩
      · exact ih.1 p hp
    · have ih := runsF_ok l v (wrapI v la) (n + 1) _ (by omega) hw.1 hw.2
      exact ⟨ih.1, by simp only [List.length_cons]; omega⟩
def putI5 (l : List Int) : List UInt8 := (runsM l).flatMap encP
theorem iputs_c (l : List Int) (hl : l.length ≤ 1099511627775) : Fun Try.prog 24 [rdI l] (· = rdB (putI5 l)) := by
  have h := runsF_ok l 0 0 0 0 (by omega) (by decide) (by decide)
  have h2 := iput_c l (runsM l) h.1 (by have := h.2; unfold runsM; omega) (runs_c l) (runs1_c l (by omega) _ rfl)
  have e : bytesP (runsM l) (runsM l).length = putI5 l := by unfold bytesP putI5; rw [List.take_length]
  rw [e] at h2
  exact h2
end Go.Proofs.Ytbdibcpenihpdaa
