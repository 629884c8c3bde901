/-
  Layer agg: long division, its numbers. No condition.
-/
import Derived.Test.YtpacdeiaimfiaaaH1
import Derived.Test.YtpacdeiaimfiaaaDlU
set_option linter.unusedSimpArgs false
set_option linter.unusedVariables false
namespace Go.Proofs.Ytpacdeiaimfiaaa
open Go.RowKit Go.DL

/-- A digit of a quotient, not below the true one, and what is left of it. -/
def QI (a b u c : Nat) (p : Nat × Nat) : Prop := p.1 * a + p.2 = u ∧ p.2 < 4294967296 ∧ p.1 ≤ 4294967297 ∧ p.2 * 4294967296 + c < a * 4294967296 + p.1 * b + b
theorem qi_init {a b u c : Nat} (ha : 2147483648 ≤ a) (ha' : a < 4294967296) (hb : b < 4294967296) (hc : c < 4294967296) (hu : u < a * 4294967296 + b) : QI a b u c (u / a, u % a) := by
  have h1 : u / a * a + u % a = u := Nat.div_add_mod' u a
  have h2 : u % a < a := Nat.mod_lt _ (by omega)
  refine ⟨h1, by show u % a < _; omega, ?_, ?_⟩
  · show u / a ≤ 4294967297
    have : u / a < 4294967298 := (Nat.div_lt_iff_lt_mul (by omega)).2 (by omega)
    omega
  · show u % a * 4294967296 + c < a * 4294967296 + u / a * b + b
    omega
theorem qi_step {a b u c : Nat} {p : Nat × Nat} (h : QI a b u c p) (hT : u < a * 4294967296 + b) (hcc : c < 4294967296) (hc : 4294967296 ≤ p.1 ∨ p.2 * 4294967296 + c < p.1 * b) :
    1 ≤ p.1 ∧ (p.1 - 1) * a + (p.2 + a) = u ∧ p.1 - 1 ≤ 4294967296 ∧ (p.2 + a) * 4294967296 + c < a * 4294967296 + (p.1 - 1) * b + b := by
  obtain ⟨q, r⟩ := p
  obtain ⟨h1, h2, h3, h4⟩ := h
  simp only at h1 h2 h3 h4 hc ⊢
  cases q with
  | zero => rw [Nat.zero_mul] at hc; omega
  | succ q =>
    have key : r * 4294967296 + c < (q + 1) * b := by
      rcases hc with hc | hc
      · have k1 : 4294967296 * (a * 4294967296 + b) ≤ (q + 1) * (a * 4294967296 + b) := Nat.mul_le_mul_right _ hc
        have k2 : (q + 1) * (a * 4294967296 + b) = (q + 1) * a * 4294967296 + (q + 1) * b := by rw [Nat.mul_add, Nat.mul_assoc]
        omega
      · exact hc
    have e1 : (q + 1) * a = q * a + a := Nat.succ_mul q a
    have e2 : (q + 1) * b = q * b + b := Nat.succ_mul q b
    rw [Nat.add_sub_cancel]
    omega
theorem qi_next {a b u c : Nat} {p : Nat × Nat} (h : 1 ≤ p.1 ∧ (p.1 - 1) * a + (p.2 + a) = u ∧ p.1 - 1 ≤ 4294967296 ∧ (p.2 + a) * 4294967296 + c < a * 4294967296 + (p.1 - 1) * b + b) (hr : p.2 + a < 4294967296) : QI a b u c (p.1 - 1, p.2 + a) :=
  ⟨h.2.1, hr, by show p.1 - 1 ≤ _; omega, h.2.2.2⟩
theorem quotA {T Y q r : Nat} (h : T = q * Y + r) (hr : r < Y) : q = T / Y := by
  rw [h, Nat.mul_comm, Nat.mul_add_div (by omega), Nat.div_eq_of_lt hr, Nat.add_zero]
theorem pc_A {qa qb u c r : Nat} (h1 : qa + r = u) (h2 : qb ≤ r * 4294967296 + c) : u * 4294967296 + c = qa * 4294967296 + qb + (r * 4294967296 + c - qb) := by omega
theorem pc_quot {a b u c q r : Nat} (h1 : q * a + r = u) (h2 : q * b ≤ r * 4294967296 + c) (h3 : r * 4294967296 + c < a * 4294967296 + q * b + b) : q = (u * 4294967296 + c) / (a * 4294967296 + b) := by
  have e : q * (a * 4294967296 + b) = q * a * 4294967296 + q * b := by rw [Nat.mul_add, Nat.mul_assoc]
  refine quotA (r := r * 4294967296 + c - q * b) ?_ (by omega)
  rw [e]; exact pc_A h1 h2
theorem q_stop {a b u c : Nat} {p : Nat × Nat} (h : QI a b u c p) (hm : p.1 * b ≤ p.2 * 4294967296 + c) : p.1 = (u * 4294967296 + c) / (a * 4294967296 + b) := pc_quot h.1 hm h.2.2.2
theorem q_break {a b u c : Nat} {p : Nat × Nat} (hb : b < 4294967296) (h : 1 ≤ p.1 ∧ (p.1 - 1) * a + (p.2 + a) = u ∧ p.1 - 1 ≤ 4294967296 ∧ (p.2 + a) * 4294967296 + c < a * 4294967296 + (p.1 - 1) * b + b) (hr : 4294967296 ≤ p.2 + a) : p.1 - 1 = (u * 4294967296 + c) / (a * 4294967296 + b) :=
  pc_quot h.2.1 (by have := Nat.mul_le_mul_right b h.2.2.1; omega) h.2.2.2
theorem q_lt {a b u c : Nat} (hu : u < a * 4294967296 + b) (hc : c < 4294967296) : (u * 4294967296 + c) / (a * 4294967296 + b) < 4294967296 := (Nat.div_lt_iff_lt_mul (by omega)).2 (by omega)
theorem r_eqA {u c Y z r : Nat} (hY : Y < 18446744073709551616) (h1 : z + r = u * 4294967296 + c) (h2 : r < Y) : ((u * 4294967296 % 18446744073709551616 + c) % 18446744073709551616 + (18446744073709551616 - z % 18446744073709551616)) % 18446744073709551616 = r := by
  omega
theorem r_eq {u c Y Q : Nat} (hY : Y < 18446744073709551616) (h0 : 0 < Y) (hQ : Q = (u * 4294967296 + c) / Y) : ((u * 4294967296 % 18446744073709551616 + c) % 18446744073709551616 + (18446744073709551616 - Q * Y % 18446744073709551616)) % 18446744073709551616 = (u * 4294967296 + c) % Y :=
  r_eqA hY (hQ ▸ Nat.div_add_mod' (u * 4294967296 + c) Y) (Nat.mod_lt (u * 4294967296 + c) h0)
theorem fin_A {X y p Y Q R : Nat} (hp : 0 < p) (hY : Y = y * p) (h : X * p = Q * Y + R) (hR : R < Y) : Q = X / y ∧ R / p = X % y := by
  have hY0 : 0 < Y := by omega
  have h5 : X * p / Y = Q := by rw [h, Nat.mul_comm, Nat.mul_add_div hY0, Nat.div_eq_of_lt hR, Nat.add_zero]
  have h6 : X * p % Y = R := by rw [h, Nat.mul_comm, Nat.mul_add_mod, Nat.mod_eq_of_lt hR]
  constructor
  · rw [← h5, hY, Nat.mul_div_mul_right _ _ hp]
  · rw [← h6, hY, Nat.mul_mod_mul_right, Nat.mul_div_cancel _ hp]
theorem fin_C {x u w c d z U y R : Nat} (hX : x = u * 18446744073709551616 + w) (hw : w = c * 4294967296 + d) (h1 : z + U = u * 4294967296 + c) (h2 : y + R = U * 4294967296 + d) : x = z * 4294967296 + y + R := by
  have h3 : u * 18446744073709551616 = u * 4294967296 * 4294967296 := by rw [Nat.mul_assoc]
  have h4 : x = (u * 4294967296 + c) * 4294967296 + d := by rw [hX, hw, h3, Nat.add_mul, Nat.add_assoc]
  rw [h4, ← h1, Nat.add_mul, Nat.add_assoc, ← h2, Nat.add_assoc]
theorem fin_B {X p u w c d Y Q1 U Q0 R : Nat} (hX : X * p = u * 18446744073709551616 + w) (hw : w = c * 4294967296 + d) (h1 : Q1 * Y + U = u * 4294967296 + c) (h2 : Q0 * Y + R = U * 4294967296 + d) : X * p = (Q1 * 4294967296 + Q0) * Y + R := by
  rw [Nat.add_mul, Nat.mul_right_comm]
  exact fin_C hX hw h1 h2
theorem fin_div {X y s Y u w c d Q1 U Q0 : Nat} (hy : 0 < y) (hY : Y = y * 2 ^ s) (hX : X * 2 ^ s = u * 18446744073709551616 + w) (hw : w = c * 4294967296 + d) (hQ1 : Q1 = (u * 4294967296 + c) / Y) (hU : U = (u * 4294967296 + c) % Y) (hQ0 : Q0 = (U * 4294967296 + d) / Y) :
    Q1 * 4294967296 + Q0 = X / y ∧ (U * 4294967296 + d) % Y / 2 ^ s = X % y := by
  have hp : 0 < 2 ^ s := Nat.pow_pos (by decide)
  have hY0 : 0 < Y := by rw [hY]; exact Nat.mul_pos hy hp
  exact fin_A hp hY (fin_B hX hw (hQ1 ▸ hU ▸ Nat.div_add_mod' (u * 4294967296 + c) Y) (hQ0 ▸ Nat.div_add_mod' (U * 4294967296 + d) Y)) (Nat.mod_lt _ hY0)
theorem shl_hi {hi lo y s : Nat} (hs : s ≤ 63) (hlo : lo < 18446744073709551616) (h : hi < y) (hY : y * 2 ^ s < 18446744073709551616) :
    (hi * 2 ^ s % 18446744073709551616 ||| lo / 2 ^ (64 - s)) = hi * 2 ^ s + lo / 2 ^ (64 - s) ∧ (hi * 18446744073709551616 + lo) * 2 ^ s = (hi * 2 ^ s + lo / 2 ^ (64 - s)) * 18446744073709551616 + lo * 2 ^ s % 18446744073709551616 ∧ hi * 2 ^ s + lo / 2 ^ (64 - s) < y * 2 ^ s := by
  have hp : 0 < 2 ^ s := Nat.pow_pos (by decide)
  have hM : 2 ^ (64 - s) * 2 ^ s = 18446744073709551616 := by rw [← Nat.pow_add, show 64 - s + s = 64 by omega]
  have h1 : hi * 2 ^ s < y * 2 ^ s := Nat.mul_lt_mul_of_pos_right h hp
  have h2 : lo / 2 ^ (64 - s) < 2 ^ s := (Nat.div_lt_iff_lt_mul (Nat.pow_pos (by decide))).2 (by rw [Nat.mul_comm, hM]; exact hlo)
  have h3 : lo * 2 ^ s / 18446744073709551616 = lo / 2 ^ (64 - s) := by rw [← hM, Nat.mul_div_mul_right _ _ hp]
  have h4 := Nat.div_add_mod' (lo * 2 ^ s) 18446744073709551616
  have h5 : (hi + 1) * 2 ^ s ≤ y * 2 ^ s := Nat.mul_le_mul_right _ h
  rw [h3] at h4
  refine ⟨?_, ?_, ?_⟩
  · rw [Nat.mod_eq_of_lt (by omega), Nat.mul_comm hi, Nat.two_pow_add_eq_or_of_lt h2]
  · rw [Nat.add_mul, Nat.mul_right_comm, Nat.add_mul, Nat.add_assoc, h4]
  · rw [Nat.succ_mul] at h5; omega
end Go.Proofs.Ytpacdeiaimfiaaa
