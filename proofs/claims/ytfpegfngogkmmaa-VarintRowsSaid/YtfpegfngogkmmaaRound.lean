/-
  There and back: what a number's bytes are got as, and what is got is put as. Plain lemmas on lists; each says its own condition.
-/
import Derived.Test.YtfpegfngogkmmaaGet
namespace Go.Proofs.Ytfpegfngogkmmaa
open Go.RowKit

theorem get_enc (r : List Nat) (u : Nat) : ∀ (pre : List Nat) (acc : Nat), u * 128 ^ pre.length < 18446744073709551616 → pre.length < 10 → (0 < pre.length → 0 < u) →
    getF (pre ++ (enc u ++ r)) pre.length acc (10 - pre.length) = (acc + u * 128 ^ pre.length, pre.length + (enc u).length, 0) := by
  induction u using Nat.strongRecOn with
  | _ u ih =>
    intro pre acc hu hk hp
    by_cases h : u < 128
    · have hx : (pre ++ (enc u ++ r))[pre.length]? = some u := by rw [enc_small h]; simp
      rw [getF_done hk hx h ?_ ?_, enc_small h, Nat.mod_eq_of_lt h]
      · rfl
      · rintro ⟨h9, h1⟩
        rw [h9] at hu
        have : 2 * 128 ^ 9 ≤ u * 128 ^ 9 := Nat.mul_le_mul_right _ (by omega)
        omega
      · rintro ⟨h0, h1⟩; have := hp h1; omega
    · have e := enc_big (u := u) (by omega)
      have hx : (pre ++ (enc u ++ r))[pre.length]? = some (u % 128 + 128) := by rw [e]; simp
      have hk9 : pre.length < 9 := by
        rcases Nat.lt_or_ge pre.length 9 with h9 | h9
        · exact h9
        · have : pre.length = 9 := by omega
          rw [this] at hu
          have : 128 * 128 ^ 9 ≤ u * 128 ^ 9 := Nat.mul_le_mul_right _ (by omega)
          omega
      rw [getF_more hk9 hx (by omega)]
      have hs : pre ++ (enc u ++ r) = (pre ++ [u % 128 + 128]) ++ (enc (u / 128) ++ r) := by rw [e]; simp
      have hl : (pre ++ [u % 128 + 128]).length = pre.length + 1 := by simp
      have hlt : u / 128 * 128 ^ (pre.length + 1) ≤ u * 128 ^ pre.length := by
        rw [Nat.pow_succ, Nat.mul_comm (128 ^ pre.length), ← Nat.mul_assoc]
        exact Nat.mul_le_mul_right _ (by omega)
      have := ih (u / 128) (by omega) (pre ++ [u % 128 + 128]) (acc + (u % 128 + 128) % 128 * 128 ^ pre.length) (by rw [hl]; omega) (by rw [hl]; omega) (fun _ => by omega)
      rw [hl] at this
      rw [hs, this, e]
      have ea : acc + (u % 128 + 128) % 128 * 128 ^ pre.length + u / 128 * 128 ^ (pre.length + 1) = acc + u * 128 ^ pre.length := by
        have e1 : (u % 128 + 128) % 128 = u % 128 := by omega
        have e2 : u * 128 ^ pre.length = (u % 128 + 128 * (u / 128)) * 128 ^ pre.length := by rw [show u % 128 + 128 * (u / 128) = u from by omega]
        rw [e1, e2, Nat.add_mul, Nat.pow_succ, Nat.mul_comm (128 ^ pre.length) 128, ← Nat.mul_assoc, Nat.mul_comm 128 (u / 128)]
        omega
      rw [ea]
      simp only [List.length_cons]
      rw [show pre.length + 1 + (enc (u / 128)).length = pre.length + ((enc (u / 128)).length + 1) from by omega]
theorem getV_enc (u : Nat) (r : List Nat) (h : u ≤ 18446744073709551615) : getV (enc u ++ r) = (u, (enc u).length, 0) := by
  have := get_enc r u [] 0 (by simp; omega) (by simp) (fun h => absurd h (by simp))
  simpa [getV] using this

theorem get_back (l : List Nat) (hl : ∀ x ∈ l, x < 256) : ∀ (j k acc x m : Nat), k + j = 10 → getF l k acc j = (x, m, 0) →
    ∃ u, x = acc + u * 128 ^ k ∧ k < m ∧ m ≤ l.length ∧ (l.drop k).take (m - k) = enc u ∧ (0 < k → 0 < u) := by
  intro j
  induction j with
  | zero => intro k acc x m _ h; simp [getF] at h
  | succ j ih =>
    intro k acc x m hj h
    rw [getF] at h
    split at h
    · simp at h
    · rename_i h1
      have hk : k < l.length := by omega
      have hd : l.getD k 0 = l[k] := by simp [List.getD, hk]
      have hdrop : l.drop k = l[k] :: l.drop (k + 1) := List.drop_eq_getElem_cons hk
      have hlt := hl l[k] (List.getElem_mem hk)
      rw [hd] at h
      split at h
      · simp at h
      · rename_i h2
        split at h
        · rename_i h3
          obtain ⟨u, rfl, hm, hml, ht, hu⟩ := ih (k + 1) _ x m (by omega) h
          have hu0 := hu (by omega)
          refine ⟨l[k] % 128 + 128 * u, ?_, by omega, hml, ?_, fun _ => by omega⟩
          · rw [Nat.add_mul, Nat.pow_succ, Nat.mul_comm (128 ^ k) 128, ← Nat.mul_assoc, Nat.mul_comm u 128]; omega
          · rw [hdrop, show m - k = (m - (k + 1)) + 1 from by omega, List.take_succ_cons, ht, enc_big (u := l[k] % 128 + 128 * u) (by omega)]
            congr 1
            · omega
            · congr 1; omega
        · rename_i h3
          split at h
          · simp at h
          · rename_i h4
            simp only [Prod.mk.injEq] at h
            obtain ⟨rfl, rfl, _⟩ := h
            refine ⟨l[k], by rw [Nat.mod_eq_of_lt (by omega)], by omega, by omega, ?_, fun h0 => by omega⟩
            rw [hdrop, show k + 1 - k = 1 from by omega, enc_small (by omega)]; rfl
theorem getV_back {l : List Nat} (hl : ∀ x ∈ l, x < 256) {x m : Nat} (h : getV l = (x, m, 0)) : 1 ≤ m ∧ m ≤ l.length ∧ l.take m = enc x := by
  obtain ⟨u, rfl, h1, h2, h3, _⟩ := get_back l hl 10 0 0 x m rfl h
  refine ⟨h1, h2, ?_⟩
  simpa using h3
theorem getF_wrong (l : List Nat) : ∀ (j k acc : Nat), (getF l k acc j).2.2 = 0 ∨ ((getF l k acc j).1 = 0 ∧ (getF l k acc j).2.1 = 0 ∧ ((getF l k acc j).2.2 = 20 ∨ (getF l k acc j).2.2 = 21)) := by
  intro j
  induction j with
  | zero => intro k acc; right; simp [getF]
  | succ j ih =>
    intro k acc
    rw [getF]
    split
    · right; simp
    · split
      · right; simp
      · split
        · exact ih _ _
        · split
          · right; simp
          · left; rfl
theorem getF_lt (l : List Nat) : ∀ (j k acc : Nat), k + j = 10 → acc < 128 ^ k → (getF l k acc j).1 < 18446744073709551616 := by
  intro j
  induction j with
  | zero => intro k acc _ _; simp [getF]
  | succ j ih =>
    intro k acc hj ha
    rw [getF]
    split
    · simp
    · split
      · simp
      · rename_i h2
        split
        · exact ih _ _ (by omega) (acc_step (Nat.mod_lt _ (by omega)) ha)
        · rename_i h3
          split
          · simp
          · show acc + _ < _
            by_cases hk : k = 9
            · subst hk
              have : l.getD 9 0 % 128 * 128 ^ 9 ≤ 1 * 128 ^ 9 := Nat.mul_le_mul_right _ (by omega)
              omega
            · have h1 := acc_step (y := l.getD k 0 % 128) (Nat.mod_lt _ (by omega)) ha
              have h2 : 128 ^ (k + 1) ≤ 128 ^ 9 := Nat.pow_le_pow_right (by omega) (by omega)
              omega
theorem getV_lt (l : List Nat) : (getV l).1 ≤ 18446744073709551615 := by
  have := getF_lt l 10 0 0 rfl (by decide)
  unfold getV; omega
theorem getV_wrong (l : List Nat) : (getV l).2.2 = 0 ∨ ((getV l).1 = 0 ∧ (getV l).2.1 = 0 ∧ ((getV l).2.2 = 20 ∨ (getV l).2.2 = 21)) := getF_wrong l 10 0 0
end Go.Proofs.Ytfpegfngogkmmaa
