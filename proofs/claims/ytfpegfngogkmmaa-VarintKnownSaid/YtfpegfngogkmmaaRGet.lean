/-
  What the document's own Get answers of a slice of bytes: the same reckoning 'getV' as the program's. Condition: the slice has at most 4,096 bytes.
-/
import Derived.Test.YtfpegfngogkmmaaGet
namespace Go.Proofs.Ytfpegfngogkmmaa
open Go.RowKit

/-- The numbers of the places below k, each seven bits. -/
def sumUp (l : List Nat) : Nat → Nat
  | 0 => 0
  | k + 1 => sumUp l k + l.getD k 0 % 128 * 128 ^ k
/-- m numbers from place j on. -/
def tl (l : List Nat) (j : Nat) : Nat → Nat
  | 0 => 0
  | m + 1 => l.getD j 0 % 128 + 128 * tl l (j + 1) m
theorem sum_tl (l : List Nat) (m : Nat) : ∀ j, sumUp l j + 128 ^ j * tl l j m = sumUp l (j + m) := by
  induction m with
  | zero => intro j; simp [tl]
  | succ m ih =>
    intro j
    have h := ih (j + 1)
    rw [show j + 1 + m = j + (m + 1) from by omega] at h
    rw [← h, tl, sumUp, Nat.mul_add, Nat.pow_succ, Nat.mul_assoc, Nat.mul_comm (128 ^ j) (l.getD j 0 % 128)]
    omega
theorem sumUp_lt (l : List Nat) (k : Nat) : sumUp l k < 128 ^ k := by
  induction k with
  | zero => simp [sumUp]
  | succ k ih => exact acc_step (Nat.mod_lt _ (by omega)) ih
theorem tl_le (l : List Nat) (j m : Nat) : tl l j m ≤ sumUp l (j + m) := by
  rw [← sum_tl]
  exact Nat.le_trans (Nat.le_mul_of_pos_left _ (Nat.pow_pos (by omega))) (Nat.le_add_left _ _)
theorem sum_le (l : List Nat) (n : Nat) (hn : n < 10) (h9 : n = 9 → l.getD n 0 ≤ 1) : sumUp l (n + 1) ≤ 18446744073709551615 := by
  by_cases h : n = 9
  · subst h
    have := sumUp_lt l 9
    have h1 := h9 rfl
    have h2 : l.getD 9 0 % 128 * 128 ^ 9 ≤ 1 * 128 ^ 9 := Nat.mul_le_mul_right _ (by omega)
    simp only [sumUp] at *
    omega
  · have := sumUp_lt l (n + 1)
    have h2 : 128 ^ (n + 1) ≤ 128 ^ 9 := Nat.pow_le_pow_right (by omega) (by omega)
    omega
theorem getF_from {l : List Nat} (k : Nat) (hk : k ≤ 9) (h : ∀ i, i < k → i < l.length ∧ 128 ≤ l.getD i 0) : getV l = getF l k (sumUp l k) (10 - k) := by
  induction k with
  | zero => rfl
  | succ k ih =>
    rw [ih (by omega) (fun i hi => h i (by omega))]
    obtain ⟨h1, h2⟩ := h k (by omega)
    have hx : l[k]? = some (l.getD k 0) := by simp [List.getD, h1]
    rw [getF_more (by omega) hx h2]
    rfl

set_option maxRecDepth 100000 in
set_option maxHeartbeats 1600000 in
theorem rget_any (A : Option Addr) (n c : Nat) (l : List Nat) (w : World) (hx : l.length = n) (hr : Reads w w.heap.size 1 A n (bytesV l)) (hb : ∀ x ∈ l, x < 256) (hn : n ≤ 4096) :
    Calls Try.prog 19 #[.slice A n c] w (Ret3 w (getV l)) := by
  have HX := Lib.hid hx
  have HR := Lib.hid hr
  have HB := Lib.hid hb
  clear hx hr hb
  have hcells : ∀ k, k < n → ∃ b off x, A = some ⟨b, off, none⟩ ∧ x < 256 ∧ l[k]? = some x ∧ l.getD k 0 = x ∧ w.cell? ⟨b, off + k, none⟩ = some (.int .u8 (x : Int)) := by
    intro k hk
    obtain ⟨b, off, u, hA, _, hxk, hc⟩ := HR.out.spot hk
    obtain ⟨x, hxx⟩ : ∃ x, l[k]? = some x := ⟨l[k]'(by have := HX.out; omega), List.getElem?_eq_getElem _⟩
    have hux : u = .int .u8 (x : Int) := by rw [bytesV_at, hxx] at hxk; simpa using hxk.symm
    subst hux
    exact ⟨b, off, x, hA, HB.out x (List.mem_of_getElem? hxx), hxx, by simp [List.getD, hxx], hc⟩
  have HC := Lib.hid hcells
  clear hcells
  go_enter Try.func19, Try.ntmps19
  go_wp2_with fail
  go_loop [5] (fun i => ∃ (k : Nat), k ≤ 10 ∧ k ≤ n ∧ i = .int .i64 (k : Int) ∧ Hid (∀ i, i < k → i < l.length ∧ 128 ≤ l.getD i 0)) (fun i => 10 - (intOf i).toNat)
  case atStart => exact ⟨0, by omega, by omega, rfl, fun i hi => absurd hi (by omega)⟩
  case round =>
    obtain ⟨k, hk, hkn, rfl, Hall⟩ := hrel
    by_cases hkn2 : k < n
    · by_cases hk10 : k < 10
      · obtain ⟨b, off, x, rfl, hx256, hxx, hgd, hcell⟩ := HC.out k hkn2
        have HXX := Lib.hid hxx
        have HGD := Lib.hid hgd
        clear hxx hgd
        have hne : ((k : Int) == (n : Int)) = false := by simp; omega
        have hn10 : ((k : Int) == 10) = false := by simp; omega
        by_cases hx128 : 128 ≤ x
        · go_wp2_with fail
          go_round
          case rel =>
            refine ⟨k + 1, by omega, by omega, by go_num, ?_⟩
            intro i hi
            by_cases hik : i = k
            · subst hik; exact ⟨by have := HX.out; omega, by rw [HGD.out]; exact hx128⟩
            · exact Hall.out i (by omega)
          case measure => simp [intOf]; omega
        · have HF := Lib.hid (getF_from k (by omega) Hall.out)
          by_cases c1 : k = 9 ∧ 1 < x
          · obtain ⟨c1a, c1b⟩ := c1
            have h9 : ((k : Int) == 9) = true := by simp; omega
            have hc9 : w.cell? ⟨b, off + 9, none⟩ = some (.int .u8 (x : Int)) := by rw [← c1a]; exact hcell
            have HE := Lib.hid ((getF_nine (acc := sumUp l k) c1a HXX.out c1b).symm.trans HF.out.symm)
            have hn9 : (9 : Int) < (n : Int) := by omega
            have HK := Lib.hid c1a
            clear c1a
            go_wp2_with fail
            go_ret3
            exact ⟨by rw [← HE.out]; rfl, rfl⟩
          · have h9 : (((k : Int) == 9) = true ∧ w.cell? ⟨b, off + 9, none⟩ = some (.int .u8 (x : Int)) ∧ (9 : Int) < (n : Int) ∧ ¬ 1 < x) ∨ ((k : Int) == 9) = false := by
              by_cases h : k = 9
              · exact .inl ⟨by simp; omega, by rw [← h]; exact hcell, by omega, by omega⟩
              · exact .inr (by simp; omega)
            by_cases c2 : 0 < k ∧ x = 0
            · obtain ⟨c2a, c2b⟩ := c2
              have hx0 : ((x : Int) == 0) = true := by simp; omega
              have HE := Lib.hid ((getF_zero (acc := sumUp l k) hk10 HXX.out c2b c2a).symm.trans HF.out.symm)
              clear c1 c2b
              rcases h9 with ⟨h9, hc9, hn9, hx1⟩ | h9
              all_goals
                go_wp2_with fail
                go_ret3
                exact ⟨by rw [← HE.out]; rfl, rfl⟩
            · have HE := Lib.hid ((getF_done (acc := sumUp l k) hk10 HXX.out (by omega) c1 (by omega)).symm.trans HF.out.symm)
              have hx0 : k ≤ 0 ∨ (0 < k ∧ ((x : Int) == 0) = false) := by
                by_cases h : k = 0
                · exact .inl (by omega)
                · exact .inr ⟨by omega, by simp; omega⟩
              have HS := Lib.hid (sum_le l k hk10 (by intro h; rw [HGD.out]; omega))
              have HV := Lib.hid (show sumUp l k + x % 128 * 128 ^ k = tl l 0 (k + 1) by
                have := sum_tl l (k + 1) 0
                rw [Nat.pow_zero, Nat.one_mul, Nat.zero_add, sumUp, sumUp, HGD.out] at this
                omega)
              clear c1 c2
              rcases h9 with ⟨h9, hc9, hn9, hx1⟩ | h9 <;> rcases hx0 with hx0 | ⟨hk0, hx0⟩
              · simp at h9; omega
              all_goals
                go_wp2_with fail
                go_loop [6, 7] (fun v i => ∃ (j : Nat), j ≤ k + 1 ∧ i = .int .i64 ((j : Int) - 1) ∧ v = .int .u64 ((tl l j (k + 1 - j) : Nat) : Int)) (fun _ i => (intOf i + 1).toNat)
                case atStart => exact ⟨k + 1, by omega, by go_num, by rw [Nat.sub_self]; rfl⟩
                case round =>
                  obtain ⟨j, hj, rfl, rfl⟩ := hrel
                  rcases j with _ | j
                  · have hz : ¬ (0 : Int) ≤ ((0 : Nat) : Int) - 1 := by omega
                    go_wp2_with fail
                    go_ret3
                    exact ⟨by rw [← HE.out, HV.out]; rfl, rfl⟩
                  · obtain ⟨b', off', y, hA', hy256, hyy, hyd, hycell⟩ := HC.out j (by omega)
                    obtain ⟨rfl, rfl⟩ : b = b' ∧ off = off' := by injection hA' with h; injection h with h1 h2; exact ⟨h1, h2⟩
                    obtain ⟨v, hv⟩ : ∃ v, v = tl l (j + 1) (k + 1 - (j + 1)) := ⟨_, rfl⟩
                    have hb : v * 128 + y % 128 ≤ 18446744073709551615 := by
                      have h1 := tl_le l j (k + 1 - j)
                      rw [show k + 1 - j = (k + 1 - (j + 1)) + 1 from by omega, tl, hyd, ← hv, show j + (k + 1 - (j + 1) + 1) = k + 1 from by omega] at h1
                      have := HS.out; omega
                    have HT := Lib.hid (show tl l j (k + 1 - j) = v * 128 + y % 128 by
                      rw [show k + 1 - j = (k + 1 - (j + 1)) + 1 from by omega, tl, hyd, ← hv]; omega)
                    rw [← hv]
                    have ej : ((j + 1 : Nat) : Int) - 1 = (j : Int) := by omega
                    rw [ej]
                    clear hA' hyy hyd hv ej
                    go_wp2_with fail
                    go_round
                    case rel => exact ⟨j, by omega, by go_num, by rw [HT.out]; go_num⟩
                    case measure => simp [intOf]
      · obtain rfl : k = 10 := by omega
        have hn10 : ((10 : Int) == (n : Int)) = true ∨ ((10 : Int) == (n : Int)) = false := by
          cases ((10 : Int) == (n : Int)) <;> simp
        obtain ⟨h1, h2⟩ := Hall.out 9 (by omega)
        have hx : l[9]? = some (l.getD 9 0) := by simp [List.getD, h1]
        have HE := Lib.hid ((getF_nine (acc := sumUp l 9) rfl hx (by omega)).symm.trans (getF_from 9 (by omega) (fun i hi => Hall.out i (by omega))).symm)
        clear hx h1 h2
        rcases hn10 with hn10 | hn10
        all_goals
          go_wp2_with fail
          go_ret3
          exact ⟨by rw [← HE.out]; rfl, rfl⟩
    · obtain rfl : k = n := by omega
      by_cases hk10 : k < 10
      · have HE := Lib.hid ((getF_end l k (sumUp l k) hk10 (by have := HX.out; omega)).symm.trans (getF_from k (by omega) Hall.out).symm)
        go_wp2_with fail
        go_ret3
        exact ⟨by rw [← HE.out]; rfl, rfl⟩
      · obtain rfl : k = 10 := by omega
        obtain ⟨h1, h2⟩ := Hall.out 9 (by omega)
        have hx : l[9]? = some (l.getD 9 0) := by simp [List.getD, h1]
        have HE := Lib.hid ((getF_nine (acc := sumUp l 9) rfl hx (by omega)).symm.trans (getF_from 9 (by omega) (fun i hi => Hall.out i (by omega))).symm)
        clear hx h1 h2
        go_wp2_with fail
        go_ret3
        exact ⟨by rw [← HE.out]; rfl, rfl⟩
end Go.Proofs.Ytfpegfngogkmmaa
