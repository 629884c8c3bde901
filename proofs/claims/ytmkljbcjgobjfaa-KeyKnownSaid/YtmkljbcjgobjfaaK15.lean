/-
  Layer key: values' bytes are read back, and stand in the values' order: the model alone. No condition.
-/
import Derived.Test.YtmkljbcjgobjfaaK14
set_option linter.unusedSimpArgs false
set_option linter.unusedVariables false
namespace Go.Proofs.Ytmkljbcjgobjfaa
open Go.RowKit Go.DL

/-! ### The order of bytes -/
theorem bless_nil (x : List UInt8) : bless x [] = false := by cases x <;> rfl
theorem bless_app (p x y : List UInt8) : bless (p ++ x) (p ++ y) = bless x y := by
  induction p with
  | nil => rfl
  | cons c p ih =>
    show (decide (c < c) || (c == c && bless (p ++ x) (p ++ y))) = _
    rw [ih, decide_eq_false (by show ¬ c.toNat < c.toNat; omega)]; simp
theorem bless_self (x : List UInt8) : bless x x = false := by
  have := bless_app x [] []
  rw [List.append_nil] at this; rw [this]; rfl
theorem bless_asymm : ∀ x y : List UInt8, bless x y = true → bless y x = false
  | x, [], h => by rw [bless_nil] at h; cases h
  | [], _ :: _, _ => rfl
  | a :: x, b :: y, h => by
    have h' : (decide (a < b) || (a == b && bless x y)) = true := h
    clear h
    show (decide (b < a) || (b == a && bless y x)) = false
    rw [Bool.or_eq_true, decide_eq_true_eq, Bool.and_eq_true, beq_iff_eq] at h'
    rcases h' with h1 | ⟨rfl, h⟩
    · have h : a.toNat < b.toNat := h1
      rw [decide_eq_false (by show ¬ b.toNat < a.toNat; omega), show (b == a) = false from beq_false_of_ne (by rintro rfl; omega)]; rfl
    · rw [bless_asymm x y h, decide_eq_false (by show ¬ a.toNat < a.toNat; omega)]; simp
theorem bless_total : ∀ x y : List UInt8, bless x y = false → x = y ∨ bless y x = true
  | [], [], _ => .inl rfl
  | _ :: _, [], _ => .inr rfl
  | [], _ :: _, h => by cases h
  | a :: x, b :: y, h => by
    have h : (decide (a < b) || (a == b && bless x y)) = false := h
    rw [Bool.or_eq_false_iff, decide_eq_false_iff_not, Bool.and_eq_false_iff] at h
    have h1 : ¬ a.toNat < b.toNat := h.1
    by_cases e : a = b
    · subst e
      rcases h.2 with h2 | h2
      · simp at h2
      · rcases bless_total x y h2 with rfl | h3
        · exact .inl rfl
        · right
          show (decide (a < a) || (a == a && bless y x)) = true
          rw [h3]; simp
    · right
      have : b.toNat < a.toNat := by
        have : a.toNat ≠ b.toNat := fun h => e (UInt8.toNat_inj.1 h)
        omega
      show (decide (b < a) || _) = true
      rw [decide_eq_true (show b < a from this)]; rfl
/-- They part at a byte that is lower in the first. -/
def parts (x y : List UInt8) : Prop := ∃ p c d s t, x = p ++ c :: s ∧ y = p ++ d :: t ∧ c.toNat < d.toNat
theorem parts.app {x y : List UInt8} (h : parts x y) (u v : List UInt8) : bless (x ++ u) (y ++ v) = true := by
  obtain ⟨p, c, d, s, t, rfl, rfl, h⟩ := h
  rw [List.append_assoc, List.append_assoc, bless_app]
  show (decide (c < d) || _) = true
  rw [decide_eq_true (show c < d from h)]; rfl
theorem parts.pre {x y : List UInt8} (p : List UInt8) (h : parts x y) : parts (p ++ x) (p ++ y) := by
  obtain ⟨q, c, d, s, t, rfl, rfl, h⟩ := h
  exact ⟨p ++ q, c, d, s, t, by simp, by simp, h⟩
theorem parts.suf {x y : List UInt8} (u v : List UInt8) (h : parts x y) : parts (x ++ u) (y ++ v) := by
  obtain ⟨q, c, d, s, t, rfl, rfl, h⟩ := h
  exact ⟨q, c, d, s ++ u, t ++ v, by simp, by simp, h⟩
theorem parts.at {c d : UInt8} (s t : List UInt8) (h : c.toNat < d.toNat) : parts (c :: s) (d :: t) := ⟨[], c, d, s, t, rfl, rfl, h⟩

/-! ### A number's bytes -/
def hiN : Nat → Nat → List UInt8
  | 0, _ => []
  | n + 1, u => UInt8.ofNat (u / 256 ^ n) :: hiN n u
theorem hiN8 (u : Nat) : hi8 u = hiN 8 u := rfl
theorem hiN_len : ∀ n u, (hiN n u).length = n
  | 0, _ => rfl
  | n + 1, u => by rw [hiN, List.length_cons, hiN_len n u]
theorem hiN_parts : ∀ n a b, a % 256 ^ n < b % 256 ^ n → parts (hiN n a) (hiN n b)
  | 0, a, b, h => by simp [Nat.mod_one] at h
  | n + 1, a, b, h => by
    rw [Nat.pow_succ, Nat.mod_mul, Nat.mod_mul] at h
    have hq : 0 < 256 ^ n := Nat.pow_pos (by omega)
    have ha := Nat.mod_lt a hq
    have hb := Nat.mod_lt b hq
    rcases Nat.lt_trichotomy (a / 256 ^ n % 256) (b / 256 ^ n % 256) with h1 | h1 | h1
    · exact parts.at _ _ (by rw [UInt8.toNat_ofNat', UInt8.toNat_ofNat']; exact h1)
    · rw [h1] at h
      have e : UInt8.ofNat (a / 256 ^ n) = UInt8.ofNat (b / 256 ^ n) := UInt8.toNat_inj.1 (by rw [UInt8.toNat_ofNat', UInt8.toNat_ofNat']; exact h1)
      rw [hiN, hiN, e]
      exact (hiN_parts n a b (by omega)).pre [_]
    · exfalso
      have : 256 ^ n * (b / 256 ^ n % 256) + 256 ^ n ≤ 256 ^ n * (a / 256 ^ n % 256) := by
        rw [← Nat.mul_succ]; exact Nat.mul_le_mul_left _ h1
      omega
def stepU (u : Nat) (c : UInt8) : Nat := u * 256 + c.toNat
theorem fold_hi : ∀ n a u, (hiN n u).foldl stepU a = a * 256 ^ n + u % 256 ^ n
  | 0, a, u => by simp [hiN, Nat.mod_one]
  | n + 1, a, u => by
    rw [hiN, List.foldl_cons, fold_hi n, Nat.pow_succ, Nat.mod_mul, stepU, UInt8.toNat_ofNat', Nat.add_mul, Nat.mul_assoc, Nat.mul_comm 256 (256 ^ n), Nat.mul_comm (_ % _) (256 ^ n)]
    show _ + 256 ^ n * (u / 256 ^ n % 256) + _ = _
    omega
theorem numU_hi {u : Nat} (h : u < 18446744073709551616) : numU (hi8 u) = u := by
  rw [hiN8]
  show (hiN 8 u).foldl stepU 0 = u
  rw [fold_hi, Nat.zero_mul, Nat.zero_add, show 256 ^ 8 = 18446744073709551616 by rfl, Nat.mod_eq_of_lt h]
theorem fold_eq : ∀ (w : List UInt8) (a : Nat), ∃ r, r < 256 ^ w.length ∧ w.foldl stepU a = a * 256 ^ w.length + r
  | [], a => ⟨0, by simp, by simp⟩
  | c :: w, a => by
    obtain ⟨r, h1, h2⟩ := fold_eq w (stepU a c)
    have hc := c.toNat_lt
    have h3 : c.toNat * 256 ^ w.length + 256 ^ w.length ≤ 256 * 256 ^ w.length := by
      rw [← Nat.succ_mul]; exact Nat.mul_le_mul_right _ hc
    refine ⟨c.toNat * 256 ^ w.length + r, by rw [List.length_cons, Nat.pow_succ]; omega, ?_⟩
    rw [List.foldl_cons, h2, List.length_cons, Nat.pow_succ, stepU, Nat.add_mul, Nat.mul_assoc, Nat.mul_comm 256 (256 ^ w.length)]; omega
theorem hi_fold : ∀ (w : List UInt8) (a : Nat), hiN w.length (w.foldl stepU a) = w
  | [], a => rfl
  | c :: w, a => by
    obtain ⟨r, h1, h2⟩ := fold_eq w (stepU a c)
    rw [List.length_cons, List.foldl_cons, hiN, hi_fold w, h2]
    congr 1
    rw [Nat.mul_comm, Nat.mul_add_div (Nat.pow_pos (by omega)), Nat.div_eq_of_lt h1, Nat.add_zero]
    apply UInt8.toNat_inj.1
    have hc := c.toNat_lt
    rw [UInt8.toNat_ofNat', stepU]
    show (a * 256 + c.toNat) % 256 = _
    omega
theorem hi_num {w : List UInt8} (h : w.length = 8) : hi8 (numU w) = w := by
  have := hi_fold w 0
  rw [h] at this; exact this
theorem keyI_lt (i : Int) : keyI i < 18446744073709551616 := by unfold keyI; omega
theorem unI_key {i : Int} (h1 : -9223372036854775808 ≤ i) (h2 : i ≤ 9223372036854775807) : unI (keyI i) = i := by
  unfold unI keyI sgn
  split <;> omega
theorem key_unI {u : Nat} (h : u < 18446744073709551616) : keyI (unI u) = u := by
  unfold unI keyI sgn
  split <;> omega
theorem unI_rng (u : Nat) : -9223372036854775808 ≤ unI u ∧ unI u ≤ 9223372036854775807 := by
  unfold unI sgn
  split <;> omega
theorem keyI_lt_iff {i j : Int} (h1 : -9223372036854775808 ≤ i) (h2 : i ≤ 9223372036854775807) (h3 : -9223372036854775808 ≤ j) (h4 : j ≤ 9223372036854775807) (h : i < j) : keyI i < keyI j := by
  unfold keyI; omega

/-! ### A text's bytes -/
theorem escM_cons (c : UInt8) (t : List UInt8) : escM (c :: t) = esc1 c ++ escM t := rfl
theorem esc_parts : ∀ s t : List UInt8, bless s t = true → parts (escM s ++ [0, 1]) (escM t ++ [0, 1])
  | s, [], h => by rw [bless_nil] at h; cases h
  | [], d :: t, _ => by
    rw [escM_cons, esc1]
    cases hd : d == 0 with
    | true => exact ⟨[0], 1, 255, [], escM t ++ [0, 1], rfl, by simp, by decide⟩
    | false =>
      refine parts.at _ _ ?_
      have : d ≠ 0 := by simpa using hd
      have : d.toNat ≠ 0 := fun h => this (UInt8.toNat_inj.1 h)
      show 0 < d.toNat
      omega
  | c :: s, d :: t, h => by
    have h' : (decide (c < d) || (c == d && bless s t)) = true := h
    clear h
    rw [Bool.or_eq_true, decide_eq_true_eq, Bool.and_eq_true, beq_iff_eq] at h'
    rcases h' with h1 | ⟨rfl, h⟩
    · have h : c.toNat < d.toNat := h1
      have hd : (d == 0) = false := beq_false_of_ne (by rintro rfl; exact absurd h (Nat.not_lt_zero _))
      rw [escM_cons, escM_cons, esc1, esc1, hd]
      cases hc : c == 0 with
      | true =>
        have hc : c = 0 := by simpa using hc
        subst hc
        exact parts.at _ _ h
      | false => exact parts.at _ _ h
    · rw [escM_cons, List.append_assoc, escM_cons, List.append_assoc]
      exact (esc_parts s t h).pre _
theorem text_cons {c : UInt8} (hc : c ≠ 0) (w : List UInt8) : textM (c :: w) = (textM w).map fun p => (c :: p.1, p.2 + 1) := by
  cases w with
  | nil => rw [text_1, text_0]; rfl
  | cons d r => rw [text_2, if_pos hc]
theorem text_zero (w : List UInt8) : textM (0 :: 255 :: w) = (textM w).map fun p => (0 :: p.1, p.2 + 2) := by
  rw [text_2, if_neg (by simp), if_pos rfl]
theorem text_esc : ∀ (t r : List UInt8), textM (escM t ++ [0, 1] ++ r) = .ok (t, (escM t).length + 2)
  | [], r => by
    show textM (0 :: 1 :: r) = _
    rw [text_2, if_neg (by simp), if_neg (by decide), if_pos rfl]; rfl
  | c :: t, r => by
    have ih := text_esc t r
    rw [escM_cons, esc1]
    cases hc : c == 0 with
    | true =>
      have hc : c = 0 := by simpa using hc
      subst hc
      show textM (0 :: 255 :: (escM t ++ [0, 1] ++ r)) = _
      rw [text_zero, ih]
      show Except.ok _ = _
      simp
    | false =>
      have hc : c ≠ 0 := by simpa using hc
      show textM (c :: (escM t ++ [0, 1] ++ r)) = _
      rw [text_cons hc, ih]
      show Except.ok _ = _
      simp
theorem text_back : ∀ (w s : List UInt8) (n : Nat), textM w = .ok (s, n) → escM s ++ [0, 1] = w.take n
  | [], s, n, h => by rw [text_0] at h; cases h
  | [c], s, n, h => by rw [text_1] at h; cases h
  | c :: d :: r, s, n, h => by
    rw [text_2] at h
    split at h
    · rename_i hc
      cases h2 : textM (d :: r) with
      | error e => rw [h2] at h; cases h
      | ok p =>
        rw [h2] at h
        cases h
        have ih := text_back (d :: r) p.1 p.2 h2
        show escM (c :: p.1) ++ [0, 1] = (c :: d :: r).take (p.2 + 1)
        rw [escM_cons, esc1, show (c == 0) = false from beq_false_of_ne hc, List.append_assoc, ih]; rfl
    · rename_i hc
      have hc : c = 0 := by simpa using hc
      subst hc
      split at h
      · rename_i hd
        subst hd
        cases h2 : textM r with
        | error e => rw [h2] at h; cases h
        | ok p =>
          rw [h2] at h
          cases h
          have ih := text_back r p.1 p.2 h2
          show escM (0 :: p.1) ++ [0, 1] = (0 :: 255 :: r).take (p.2 + 2)
          rw [escM_cons, List.append_assoc, ih]; rfl
      · split at h
        · rename_i hd
          subst hd
          cases h; rfl
        · cases h
end Go.Proofs.Ytmkljbcjgobjfaa
