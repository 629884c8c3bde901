/-
  Layer varint: whole numbers in as few bytes as need be, as numbers alone: there and back. No condition.
-/
import Derived.Test.YtbdibcpenihpdaaRows
import Derived.Test.YtbdibcpenihpdaaTy
import Derived.Test.YtbdibcpenihpdaaDlX
set_option linter.unusedSimpArgs false
set_option linter.unusedVariables false
namespace Go.DL
open Go.RowKit
section
variable {P : Program} {C : Ctx} {env : Nat → D} {H : Heap} {dst : Option Nat} {ty t t' : TypeId} {pos : String} {after : Array Edge} {gu : Option (Nat × Bool)} {X Y : Operand}
theorem o_neg {a : Int} (hx : ev env X = I64 a) (h1 : -9223372036854775808 ≤ -a) (h2 : -a ≤ 9223372036854775807) : OpD P C ⟨dst, .unOp .neg t X, ty, pos, after, gu⟩ env H (I64 (-a)) H := by
  refine OpD.same fun K β ac w _ h _ => ⟨_, ?_, .v _ _, .v _⟩
  have h0 := h X (by simp [Op.operands])
  rw [hx] at h0
  have e : Op.intArith .sub .i64 0 a = .pure (.int .i64 (-a)) := by
    show Sem.pure (Value.int .i64 (IntKind.i64.wrap (0 - a))) = _
    rw [Int.zero_sub, w64 h1 h2]
  simp [execOp, h0.v_inv]
  simp [Op.unary, e]
end
end Go.DL
namespace Go.Proofs.Ytbdibcpenihpdaa
open Go.RowKit Go.DL

def enc (v : Nat) : List Nat := if v < 128 then [v] else (v % 128 + 128) :: enc (v / 128)
  termination_by v
  decreasing_by omega

theorem enc_big {u : Nat} (h : 128 ≤ u) : enc u = (u % 128 + 128) :: enc (u / 128) := by rw [enc, if_neg (by omega)]
theorem enc_small {u : Nat} (h : u < 128) : enc u = [u] := by rw [enc, if_pos h]
theorem enc_len (u : Nat) : ∀ k, u < 128 ^ k → 0 < k → (enc u).length ≤ k := by
  intro k
  induction k generalizing u with
  | zero => intro _ h; omega
  | succ k ih =>
    intro h _
    by_cases hu : u < 128
    · rw [enc_small hu]; simp
    · rw [enc_big (by omega)]
      by_cases hk : k = 0
      · subst hk; simp at h; omega
      · have := ih (u / 128) (by rw [Nat.div_lt_iff_lt_mul (by omega)]; rw [Nat.pow_succ] at h; exact h) (by omega)
        simp; omega
theorem enc_len10 (u : Nat) (h : u ≤ 18446744073709551615) : (enc u).length ≤ 10 := enc_len u 10 (Nat.lt_of_le_of_lt h (by decide)) (by decide)
theorem enc_pos (u : Nat) : 0 < (enc u).length := by rw [enc]; split <;> simp
theorem enc_lt (u : Nat) : ∀ x ∈ enc u, x < 256 := by
  induction u using Nat.strongRecOn with
  | _ u ih =>
    by_cases hu : u < 128
    · rw [enc_small hu]; simp; omega
    · rw [enc_big (by omega)]
      intro x hx
      rcases List.mem_cons.1 hx with rfl | hx
      · omega
      · exact ih (u / 128) (by omega) x hx
set_option maxRecDepth 100000 in
theorem or128 (u : Nat) : u % 256 ||| 128 = u % 128 + 128 := by
  have h : ∀ a, a < 256 → a ||| 128 = a % 128 + 128 := by decide
  rw [h _ (Nat.mod_lt _ (by omega))]; omega
def getF (l : List Nat) (i acc : Nat) : Nat → Nat × Nat × Nat
  | 0 => (0, 0, 21)
  | k + 1 => if l.length ≤ i then (0, 0, 20) else if i = 9 ∧ 1 < l.getD i 0 then (0, 0, 21) else
      if 128 ≤ l.getD i 0 then getF l (i + 1) (acc + l.getD i 0 % 128 * 128 ^ i) k
      else if l.getD i 0 = 0 ∧ 0 < i then (0, 0, 21) else (acc + l.getD i 0 % 128 * 128 ^ i, i + 1, 0)

def getV (l : List Nat) : Nat × Nat × Nat := getF l 0 0 10
theorem getF_end (l : List Nat) (k acc : Nat) (hk : k < 10) (h : l.length ≤ k) : getF l k acc (10 - k) = (0, 0, 20) := by
  obtain ⟨j, hj⟩ : ∃ j, 10 - k = j + 1 := ⟨9 - k, by omega⟩
  rw [hj, getF, if_pos h]
theorem getF_ten (l : List Nat) (acc : Nat) : getF l 10 acc (10 - 10) = (0, 0, 21) := rfl
theorem getF_nine {l : List Nat} {k acc x : Nat} (hk : k = 9) (h : l[k]? = some x) (h1 : 1 < x) : getF l k acc (10 - k) = (0, 0, 21) := by
  obtain ⟨j, hj⟩ : ∃ j, 10 - k = j + 1 := ⟨9 - k, by omega⟩
  have hl := (List.getElem?_eq_some_iff.1 h).1
  rw [hj, getF, if_neg (by omega), if_pos ⟨hk, by simpa [List.getD, h] using h1⟩]
theorem getF_more {l : List Nat} {k acc x : Nat} (hk : k < 9) (h : l[k]? = some x) (h1 : 128 ≤ x) : getF l k acc (10 - k) = getF l (k + 1) (acc + x % 128 * 128 ^ k) (10 - (k + 1)) := by
  obtain ⟨j, hj⟩ : ∃ j, 10 - k = j + 1 := ⟨9 - k, by omega⟩
  have hl := (List.getElem?_eq_some_iff.1 h).1
  have hd : l.getD k 0 = x := by simp [List.getD, h]
  rw [hj, getF, if_neg (by omega), if_neg (by omega), hd, if_pos h1, show 10 - (k + 1) = j from by omega]
theorem getF_zero {l : List Nat} {k acc x : Nat} (hk : k < 10) (h : l[k]? = some x) (h1 : x = 0) (h2 : 0 < k) : getF l k acc (10 - k) = (0, 0, 21) := by
  obtain ⟨j, hj⟩ : ∃ j, 10 - k = j + 1 := ⟨9 - k, by omega⟩
  have hl := (List.getElem?_eq_some_iff.1 h).1
  have hd : l.getD k 0 = x := by simp [List.getD, h]
  rw [hj, getF, if_neg (by omega), hd, if_neg (by omega), if_neg (by omega), if_pos ⟨h1, h2⟩]
theorem getF_done {l : List Nat} {k acc x : Nat} (hk : k < 10) (h : l[k]? = some x) (h1 : x < 128) (h2 : ¬ (k = 9 ∧ 1 < x)) (h3 : ¬ (x = 0 ∧ 0 < k)) : getF l k acc (10 - k) = (acc + x % 128 * 128 ^ k, k + 1, 0) := by
  obtain ⟨j, hj⟩ : ∃ j, 10 - k = j + 1 := ⟨9 - k, by omega⟩
  have hl := (List.getElem?_eq_some_iff.1 h).1
  have hd : l.getD k 0 = x := by simp [List.getD, h]
  rw [hj, getF, if_neg (by omega), hd, if_neg h2, if_neg (by omega), if_neg h3]

theorem pow128 (k : Nat) : 128 ^ k = 2 ^ (7 * k) := by rw [show 128 = 2 ^ 7 from rfl, ← Nat.pow_mul]
theorem acc_step {acc y k : Nat} (hy : y < 128) (ha : acc < 128 ^ k) : acc + y * 128 ^ k < 128 ^ (k + 1) := by
  have : (y + 1) * 128 ^ k ≤ 128 * 128 ^ k := Nat.mul_le_mul_right _ (by omega)
  rw [Nat.pow_succ, Nat.mul_comm (128 ^ k)]
  rw [Nat.add_mul] at this
  omega

def sumUp (l : List Nat) : Nat → Nat
  | 0 => 0
  | k + 1 => sumUp l k + l.getD k 0 % 128 * 128 ^ k
def tl (l : List Nat) (j : Nat) : Nat → Nat
  | 0 => 0
  | m + 1 => l.getD j 0 % 128 + 128 * tl l (j + 1) m
theorem sum_tl (l : List Nat) (m : Nat) : ∀ j, sumUp l j + 128 ^ j * tl l j m = sumUp l (j + m) := by
  induction m with
  | zero => intro j; simp [tl]
  | succ m ih =>
    intro j
    have h := ih (j + 1)
    rw [show j + 1 + m = j + (m + 1) from by omega] at h
    rw [← h, tl, sumUp, Nat.mul_add, Nat.pow_succ, Nat.mul_assoc, Nat.mul_comm (128 ^ j) (l.getD j 0 % 128)]
    omega
theorem sumUp_lt (l : List Nat) (k : Nat) : sumUp l k < 128 ^ k := by
  induction k with
  | zero => simp [sumUp]
  | succ k ih => exact acc_step (Nat.mod_lt _ (by omega)) ih
theorem tl_le (l : List Nat) (j m : Nat) : tl l j m ≤ sumUp l (j + m) := by
  rw [← sum_tl]
  exact Nat.le_trans (Nat.le_mul_of_pos_left _ (Nat.pow_pos (by omega))) (Nat.le_add_left _ _)
theorem sum_le (l : List Nat) (n : Nat) (hn : n < 10) (h9 : n = 9 → l.getD n 0 ≤ 1) : sumUp l (n + 1) ≤ 18446744073709551615 := by
  by_cases h : n = 9
  · subst h
    have := sumUp_lt l 9
    have h1 := h9 rfl
    have h2 : l.getD 9 0 % 128 * 128 ^ 9 ≤ 1 * 128 ^ 9 := Nat.mul_le_mul_right _ (by omega)
    simp only [sumUp] at *
    omega
  · have := sumUp_lt l (n + 1)
    have h2 : 128 ^ (n + 1) ≤ 128 ^ 9 := Nat.pow_le_pow_right (by omega) (by omega)
    omega
theorem getF_from {l : List Nat} (k : Nat) (hk : k ≤ 9) (h : ∀ i, i < k → i < l.length ∧ 128 ≤ l.getD i 0) : getV l = getF l k (sumUp l k) (10 - k) := by
  induction k with
  | zero => rfl
  | succ k ih =>
    rw [ih (by omega) (fun i hi => h i (by omega))]
    obtain ⟨h1, h2⟩ := h k (by omega)
    have hx : l[k]? = some (l.getD k 0) := by simp [List.getD, h1]
    rw [getF_more (by omega) hx h2]
    rfl

theorem get_enc (r : List Nat) (u : Nat) : ∀ (pre : List Nat) (acc : Nat), u * 128 ^ pre.length < 18446744073709551616 → pre.length < 10 → (0 < pre.length → 0 < u) →
    getF (pre ++ (enc u ++ r)) pre.length acc (10 - pre.length) = (acc + u * 128 ^ pre.length, pre.length + (enc u).length, 0) := by
  induction u using Nat.strongRecOn with
  | _ u ih =>
    intro pre acc hu hk hp
    by_cases h : u < 128
    · have hx : (pre ++ (enc u ++ r))[pre.length]? = some u := by rw [enc_small h]; simp
      rw [getF_done hk hx h ?_ ?_, enc_small h, Nat.mod_eq_of_lt h]
      · rfl
      · rintro ⟨h9, h1⟩
        rw [h9] at hu
        have : 2 * 128 ^ 9 ≤ u * 128 ^ 9 := Nat.mul_le_mul_right _ (by omega)
        omega
      · rintro ⟨h0, h1⟩; have := hp h1; omega
    · have e := enc_big (u := u) (by omega)
      have hx : (pre ++ (enc u ++ r))[pre.length]? = some (u % 128 + 128) := by rw [e]; simp
      have hk9 : pre.length < 9 := by
        rcases Nat.lt_or_ge pre.length 9 with h9 | h9
        · exact h9
        · have : pre.length = 9 := by omega
          rw [this] at hu
          have : 128 * 128 ^ 9 ≤ u * 128 ^ 9 := Nat.mul_le_mul_right _ (by omega)
          omega
      rw [getF_more hk9 hx (by omega)]
      have hs : pre ++ (enc u ++ r) = (pre ++ [u % 128 + 128]) ++ (enc (u / 128) ++ r) := by rw [e]; simp
      have hl : (pre ++ [u % 128 + 128]).length = pre.length + 1 := by simp
      have hlt : u / 128 * 128 ^ (pre.length + 1) ≤ u * 128 ^ pre.length := by
        rw [Nat.pow_succ, Nat.mul_comm (128 ^ pre.length), ← Nat.mul_assoc]
        exact Nat.mul_le_mul_right _ (by omega)
      have := ih (u / 128) (by omega) (pre ++ [u % 128 + 128]) (acc + (u % 128 + 128) % 128 * 128 ^ pre.length) (by rw [hl]; omega) (by rw [hl]; omega) (fun _ => by omega)
      rw [hl] at this
      rw [hs, this, e]
      have ea : acc + (u % 128 + 128) % 128 * 128 ^ pre.length + u / 128 * 128 ^ (pre.length + 1) = acc + u * 128 ^ pre.length := by
        have e1 : (u % 128 + 128) % 128 = u % 128 := by omega
        have e2 : u * 128 ^ pre.length = (u % 128 + 128 * (u / 128)) * 128 ^ pre.length := by rw [show u % 128 + 128 * (u / 128) = u from by omega]
        rw [e1, e2, Nat.add_mul, Nat.pow_succ, Nat.mul_comm (128 ^ pre.length) 128, ← Nat.mul_assoc, Nat.mul_comm 128 (u / 128)]
        omega
      rw [ea]
      simp only [List.length_cons]
      rw [show pre.length + 1 + (enc (u / 128)).length = pre.length + ((enc (u / 128)).length + 1) from by omega]
theorem getV_enc (u : Nat) (r : List Nat) (h : u ≤ 18446744073709551615) : getV (enc u ++ r) = (u, (enc u).length, 0) := by
  have := get_enc r u [] 0 (by simp; omega) (by simp) (fun h => absurd h (by simp))
  simpa [getV] using this

theorem get_back (l : List Nat) (hl : ∀ x ∈ l, x < 256) : ∀ (j k acc x m : Nat), k + j = 10 → getF l k acc j = (x, m, 0) →
    ∃ u, x = acc + u * 128 ^ k ∧ k < m ∧ m ≤ l.length ∧ (l.drop k).take (m - k) = enc u ∧ (0 < k → 0 < u) := by
  intro j
  induction j with
  | zero => intro k acc x m _ h; simp [getF] at h
  | succ j ih =>
    intro k acc x m hj h
    rw [getF] at h
    split at h
    · simp at h
    · rename_i h1
      have hk : k < l.length := by omega
      have hd : l.getD k 0 = l[k] := by simp [List.getD, hk]
      have hdrop : l.drop k = l[k] :: l.drop (k + 1) := List.drop_eq_getElem_cons hk
      have hlt := hl l[k] (List.getElem_mem hk)
      rw [hd] at h
      split at h
      · simp at h
      · rename_i h2
        split at h
        · rename_i h3
          obtain ⟨u, rfl, hm, hml, ht, hu⟩ := ih (k + 1) _ x m (by omega) h
          have hu0 := hu (by omega)
          refine ⟨l[k] % 128 + 128 * u, ?_, by omega, hml, ?_, fun _ => by omega⟩
          · rw [Nat.add_mul, Nat.pow_succ, Nat.mul_comm (128 ^ k) 128, ← Nat.mul_assoc, Nat.mul_comm u 128]; omega
          · rw [hdrop, show m - k = (m - (k + 1)) + 1 from by omega, List.take_succ_cons, ht, enc_big (u := l[k] % 128 + 128 * u) (by omega)]
            congr 1
            · omega
            · congr 1; omega
        · rename_i h3
          split at h
          · simp at h
          · rename_i h4
            simp only [Prod.mk.injEq] at h
            obtain ⟨rfl, rfl, _⟩ := h
            refine ⟨l[k], by rw [Nat.mod_eq_of_lt (by omega)], by omega, by omega, ?_, fun h0 => by omega⟩
            rw [hdrop, show k + 1 - k = 1 from by omega, enc_small (by omega)]; rfl
theorem getV_back {l : List Nat} (hl : ∀ x ∈ l, x < 256) {x m : Nat} (h : getV l = (x, m, 0)) : 1 ≤ m ∧ m ≤ l.length ∧ l.take m = enc x := by
  obtain ⟨u, rfl, h1, h2, h3, _⟩ := get_back l hl 10 0 0 x m rfl h
  refine ⟨h1, h2, ?_⟩
  simpa using h3
theorem getF_wrong (l : List Nat) : ∀ (j k acc : Nat), (getF l k acc j).2.2 = 0 ∨ ((getF l k acc j).1 = 0 ∧ (getF l k acc j).2.1 = 0 ∧ ((getF l k acc j).2.2 = 20 ∨ (getF l k acc j).2.2 = 21)) := by
  intro j
  induction j with
  | zero => intro k acc; right; simp [getF]
  | succ j ih =>
    intro k acc
    rw [getF]
    split
    · right; simp
    · split
      · right; simp
      · split
        · exact ih _ _
        · split
          · right; simp
          · left; rfl
theorem getF_lt (l : List Nat) : ∀ (j k acc : Nat), k + j = 10 → acc < 128 ^ k → (getF l k acc j).1 < 18446744073709551616 := by
  intro j
  induction j with
  | zero => intro k acc _ _; simp [getF]
  | succ j ih =>
    intro k acc hj ha
    rw [getF]
    split
    · simp
    · split
      · simp
      · rename_i h2
        split
        · exact ih _ _ (by omega) (acc_step (Nat.mod_lt _ (by omega)) ha)
        · rename_i h3
          split
          · simp
          · show acc + _ < _
            by_cases hk : k = 9
            · subst hk
              have : l.getD 9 0 % 128 * 128 ^ 9 ≤ 1 * 128 ^ 9 := Nat.mul_le_mul_right _ (by omega)
              omega
            · have h1 := acc_step (y := l.getD k 0 % 128) (Nat.mod_lt _ (by omega)) ha
              have h2 : 128 ^ (k + 1) ≤ 128 ^ 9 := Nat.pow_le_pow_right (by omega) (by omega)
              omega
theorem getV_lt (l : List Nat) : (getV l).1 ≤ 18446744073709551615 := by
  have := getF_lt l 10 0 0 rfl (by decide)
  unfold getV; omega
theorem getV_wrong (l : List Nat) : (getV l).2.2 = 0 ∨ ((getV l).1 = 0 ∧ (getV l).2.1 = 0 ∧ ((getV l).2.2 = 20 ∨ (getV l).2.2 = 21)) := getF_wrong l 10 0 0

/-! ### Bytes -/
def encB (u : Nat) : List UInt8 := (enc u).map UInt8.ofNat
def nats (b : List UInt8) : List Nat := b.map fun x => x.toNat
def vget (b : List UInt8) : Nat × Nat × Nat := getV (nats b)
theorem nats_app (a b : List UInt8) : nats (a ++ b) = nats a ++ nats b := by simp [nats]
theorem nats_lt (b : List UInt8) : ∀ x ∈ nats b, x < 256 := by
  intro x hx
  obtain ⟨c, _, rfl⟩ := List.mem_map.1 hx
  exact c.toNat_lt
theorem nats_len (b : List UInt8) : (nats b).length = b.length := by simp [nats]
theorem nats_enc (u : Nat) : nats (encB u) = enc u := by
  unfold nats encB
  rw [List.map_map]
  have : ∀ l : List Nat, (∀ x ∈ l, x < 256) → l.map ((fun x => x.toNat) ∘ UInt8.ofNat) = l := by
    intro l
    induction l with
    | nil => intro _; rfl
    | cons a l ih =>
      intro h
      rw [List.map_cons, ih fun x hx => h x (by simp [hx])]
      congr 1
      show (UInt8.ofNat a).toNat = a
      rw [UInt8.toNat_ofNat']; exact Nat.mod_eq_of_lt (h a (by simp))
  exact this _ (enc_lt u)
theorem encB_big {u : Nat} (h : 128 ≤ u) : encB u = UInt8.ofNat (u % 128 + 128) :: encB (u / 128) := by unfold encB; rw [enc_big h]; rfl
theorem encB_small {u : Nat} (h : u < 128) : encB u = [UInt8.ofNat u] := by unfold encB; rw [enc_small h]; rfl
theorem encB_len (u : Nat) : (encB u).length = (enc u).length := by simp [encB]
theorem encB_len10 {u : Nat} (h : u ≤ 18446744073709551615) : (encB u).length ≤ 10 := by rw [encB_len]; exact enc_len10 u h
theorem encB_pos (u : Nat) : 0 < (encB u).length := by rw [encB_len]; exact enc_pos u
theorem vget_enc (u : Nat) (r : List UInt8) (h : u ≤ 18446744073709551615) : vget (encB u ++ r) = (u, (encB u).length, 0) := by
  unfold vget
  rw [nats_app, nats_enc, getV_enc u _ h, encB_len]
theorem vget_back {b : List UInt8} {x m : Nat} (h : vget b = (x, m, 0)) : 1 ≤ m ∧ m ≤ b.length ∧ b.take m = encB x := by
  obtain ⟨h1, h2, h3⟩ := getV_back (nats_lt b) h
  rw [nats_len] at h2
  refine ⟨h1, h2, ?_⟩
  unfold encB
  rw [← h3]
  simp only [nats, List.map_take, List.map_map]
  congr 1
  have : ∀ l : List UInt8, l.map (UInt8.ofNat ∘ fun x => x.toNat) = l := by
    intro l
    induction l with
    | nil => rfl
    | cons a l ih => rw [List.map_cons, ih]; congr 1; exact UInt8.ofNat_toNat
  exact (this b).symm
theorem vget_lt (b : List UInt8) : (vget b).1 ≤ 18446744073709551615 := getV_lt _
theorem vget_wrong (b : List UInt8) : (vget b).2.2 = 0 ∨ ((vget b).1 = 0 ∧ (vget b).2.1 = 0 ∧ ((vget b).2.2 = 20 ∨ (vget b).2.2 = 21)) := getV_wrong _
theorem enc_lt2 {u : Nat} (h : u ≤ 18446744073709551615) : ∀ {pre : List UInt8} {v : Nat}, pre ++ encB v = encB u → pre.length + 1 ≤ 10 := fun {pre v} e => by
  have := congrArg List.length e
  rw [List.length_append] at this
  have := encB_len10 h
  have := encB_pos v
  omega
theorem or_128 (v : Nat) : UInt8.ofNat v ||| 128 = UInt8.ofNat (v % 128 + 128) := by
  apply UInt8.toNat_inj.1
  rw [UInt8.toNat_or, UInt8.toNat_ofNat', UInt8.toNat_ofNat']
  show v % 256 ||| 128 = _
  rw [or128]; omega
theorem add_128 (v : Nat) : UInt8.ofNat (v % 128) + 128 = UInt8.ofNat (v % 128 + 128) := by
  apply UInt8.toNat_inj.1
  rw [UInt8.toNat_add, UInt8.toNat_ofNat', UInt8.toNat_ofNat']
  show (v % 128 % 256 + 128) % 256 = _
  omega
theorem and_127 (c : UInt8) : (c &&& 127).toNat = c.toNat % 128 := by
  rw [UInt8.toNat_and]
  show c.toNat &&& 127 = _
  rw [show (127 : Nat) = 2 ^ 7 - 1 by rfl, Nat.and_two_pow_sub_one_eq_mod]
theorem nats_at {b : List UInt8} {k : Nat} (h : k < b.length) : (nats b)[k]? = some b[k].toNat := by simp [nats, h]
theorem nats_getD {b : List UInt8} {k : Nat} (h : k < b.length) : (nats b).getD k 0 = b[k].toNat := by rw [List.getD_eq_getElem?_getD, nats_at h]; rfl
theorem or_stepN {acc y k : Nat} (hk : k < 10) (hy : y < 128) (h9 : k = 9 → y ≤ 1) (ha : acc < 128 ^ k) : acc ||| (y * 2 ^ (7 * k) % 18446744073709551616) = acc + y * 128 ^ k ∧ acc < 18446744073709551616 := by
  have hp : 128 ^ k * y < 18446744073709551616 := by
    by_cases hk9 : k = 9
    · subst hk9; have := h9 rfl; have : 128 ^ 9 * y ≤ 128 ^ 9 * 1 := Nat.mul_le_mul_left _ this; omega
    · have h1 : 128 ^ k ≤ 128 ^ 8 := Nat.pow_le_pow_right (by omega) (by omega)
      have : 128 ^ k * y ≤ 128 ^ 8 * 127 := Nat.mul_le_mul h1 (by omega)
      omega
  have ha' : acc < 18446744073709551616 := by
    have h1 : 128 ^ k ≤ 128 ^ 9 := Nat.pow_le_pow_right (by omega) (by omega)
    omega
  refine ⟨?_, ha'⟩
  rw [← pow128, Nat.mod_eq_of_lt (by rw [Nat.mul_comm]; exact hp), Nat.or_comm, pow128, Nat.mul_comm y, Nat.add_comm]
  rw [pow128] at ha
  exact (Nat.two_pow_add_eq_or_of_lt ha y).symm
/-! ### The row 0, -1, 1, -2, .. -/
def zigN (v : Int) : Nat := if 0 ≤ v then (2 * v).toNat else (-2 * v - 1).toNat
def zagI (u : Nat) : Int := if u % 2 = 0 then ((u / 2 : Nat) : Int) else -((u / 2 : Nat) : Int) - 1
theorem zig_le {v : Int} (h1 : -9223372036854775808 ≤ v) (h2 : v ≤ 9223372036854775807) : zigN v ≤ 18446744073709551615 := by unfold zigN; split <;> omega
theorem zag_zig (v : Int) : zagI (zigN v) = v := by unfold zigN zagI; split <;> split <;> omega
theorem zig_zag (u : Nat) : zigN (zagI u) = u := by unfold zagI; split <;> (unfold zigN; split <;> omega)
theorem zag_bnd {u : Nat} (h : u ≤ 18446744073709551615) : -9223372036854775808 ≤ zagI u ∧ zagI u ≤ 9223372036854775807 := by unfold zagI; split <;> omega
theorem xor_allN {a : Nat} (h : a < 18446744073709551616) : a ^^^ 18446744073709551615 = 18446744073709551615 - a := by
  have e1 : (BitVec.ofNat 64 a ^^^ BitVec.allOnes 64).toNat = a ^^^ 18446744073709551615 := by
    rw [BitVec.toNat_xor, BitVec.toNat_ofNat, Nat.mod_eq_of_lt (by omega)]; rfl
  rw [← e1, BitVec.xor_allOnes, BitVec.toNat_not, BitVec.toNat_ofNat, Nat.mod_eq_of_lt (by omega)]
theorem zig_bits {v : Int} (h1 : -9223372036854775808 ≤ v) (h2 : v ≤ 9223372036854775807) : ((v % 18446744073709551616).toNat * 2 ^ 1 % 18446744073709551616) ^^^ ((v.fdiv (2 ^ 63)) % 18446744073709551616).toNat = zigN v := by
  unfold zigN
  rw [Int.fdiv_eq_ediv_of_nonneg _ (by decide)]
  by_cases h : 0 ≤ v
  · rw [if_pos h, show v / 2 ^ 63 = 0 by omega]
    show _ ^^^ 0 = _
    rw [Nat.xor_zero]; omega
  · rw [if_neg h, show v / 2 ^ 63 = -1 by omega]
    show _ ^^^ 18446744073709551615 = _
    rw [xor_allN (by omega)]; omega
theorem ofNat64 (a : Nat) (h : a < 18446744073709551616) : (BitVec.ofInt 64 (a : Int)).toNat = a := by
  rw [BitVec.ofInt_natCast, BitVec.toNat_ofNat]; exact Nat.mod_eq_of_lt (by omega)
theorem ones64 : BitVec.ofInt 64 (-1) = BitVec.allOnes 64 := by rfl
theorem xor_zero_i (a : Nat) (h : a < 9223372036854775808) : bits .xor .i64 (a : Int) 0 = (a : Int) := by
  show IntKind.i64.wrap ((BitVec.ofInt 64 (a : Int) ^^^ BitVec.ofInt 64 ((0 : Nat) : Int)).toNat : Int) = _
  rw [BitVec.toNat_xor, ofNat64 a (by omega), ofNat64 0 (by omega), Nat.xor_zero, IntKind.wrap_i64]; omega
theorem xor_ones_i (a : Nat) (h : a < 9223372036854775808) : bits .xor .i64 (a : Int) (-1) = -(a : Int) - 1 := by
  show IntKind.i64.wrap ((BitVec.ofInt 64 (a : Int) ^^^ BitVec.ofInt 64 (-1)).toNat : Int) = _
  rw [ones64, BitVec.xor_allOnes, BitVec.toNat_not, ofNat64 a (by omega), IntKind.wrap_i64]; omega
theorem and_1 (u : Nat) : u &&& 1 = u % 2 := Nat.and_one_is_mod u
theorem zag_bits {u : Nat} (h : u ≤ 18446744073709551615) (t : TypeId) : binOp .xor t (.int .i64 (sgn (u / 2 ^ 1))) (.int .i64 (-(sgn (u &&& 1)))) = .pure (.int .i64 (zagI u)) := by
  have e1 : sgn (u / 2 ^ 1) = ((u / 2 : Nat) : Int) := by unfold sgn; rw [if_pos (by omega)]
  rw [e1, and_1]
  show Sem.pure (Value.int .i64 (bits .xor .i64 _ _)) = _
  unfold zagI
  by_cases h0 : u % 2 = 0
  · rw [if_pos h0, h0]
    show Sem.pure (Value.int .i64 (bits .xor .i64 _ 0)) = _
    rw [xor_zero_i _ (by omega)]
  · rw [if_neg h0, show u % 2 = 1 by omega]
    show Sem.pure (Value.int .i64 (bits .xor .i64 _ (-1))) = _
    rw [xor_ones_i _ (by omega)]
end Go.Proofs.Ytbdibcpenihpdaa
