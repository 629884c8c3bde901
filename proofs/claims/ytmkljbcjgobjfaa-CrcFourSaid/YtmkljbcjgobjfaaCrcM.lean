/-
  The arithmetic of the sums of crc: steps of one bit are linear and lose nothing; bytes are eight such steps. Plain lemmas.
-/
import Derived.Test.YtmkljbcjgobjfaaLogJ
import Derived.CheckFast
namespace Go.Proofs.Ytmkljbcjgobjfaa
open Go.DL

def stp (r : BitVec 32) : BitVec 32 := (r <<< 1) ^^^ (79764919#32 * (r >>> 31))
def stpN : Nat → BitVec 32 → BitVec 32
  | 0, r => r
  | n + 1, r => stp (stpN n r)
def quadT (i : Nat) : BitVec 32 := stpN 4 ((BitVec.ofNat 32 i) <<< 28)
def half (r n : BitVec 32) : BitVec 32 := (r <<< 4) ^^^ quadT ((r >>> 28) ^^^ n).toNat
def byteQ (r : BitVec 32) (c : UInt8) : BitVec 32 := half (half r ((c.toBitVec >>> 4).setWidth 32)) ((c.toBitVec &&& 15#8).setWidth 32)
def foldQ (l : List UInt8) (r : BitVec 32) : BitVec 32 := l.foldl byteQ r
def sumQ (l : List UInt8) : BitVec 32 := ~~~ (foldQ l 4294967295#32)

theorem top_bit (x : BitVec 32) : x >>> 31 = 0#32 ∨ x >>> 31 = 1#32 := by
  have h : (x >>> 31).toNat < 2 := by rw [BitVec.toNat_ushiftRight, Nat.shiftRight_eq_div_pow]; omega
  rcases Nat.lt_or_ge (x >>> 31).toNat 1 with h1 | h1
  · left; apply BitVec.eq_of_toNat_eq; show _ = 0; omega
  · right; apply BitVec.eq_of_toNat_eq; show _ = 1; omega
theorem stp_xor (x y : BitVec 32) : stp (x ^^^ y) = stp x ^^^ stp y := by
  unfold stp
  rw [BitVec.shiftLeft_xor_distrib, BitVec.ushiftRight_xor_distrib]
  have hm : 79764919#32 * ((x >>> 31) ^^^ (y >>> 31)) = (79764919#32 * (x >>> 31)) ^^^ (79764919#32 * (y >>> 31)) := by
    rcases top_bit x with h | h <;> rcases top_bit y with h' | h' <;> rw [h, h'] <;> decide
  rw [hm]
  ac_rfl
theorem stpN_xor (n : Nat) (x y : BitVec 32) : stpN n (x ^^^ y) = stpN n x ^^^ stpN n y := by
  induction n with
  | zero => rfl
  | succ n ih => show stp (stpN n (x ^^^ y)) = _; rw [ih, stp_xor]; rfl
theorem stpN_succ' (n : Nat) (x : BitVec 32) : stpN (n + 1) x = stpN n (stp x) := by
  induction n with
  | zero => rfl
  | succ n ih => show stp (stpN (n + 1) x) = stp (stpN n (stp x)); rw [ih]
theorem stpN_add (n m : Nat) (x : BitVec 32) : stpN (n + m) x = stpN n (stpN m x) := by
  induction n with
  | zero => simp [stpN]
  | succ n ih => rw [Nat.succ_add]; show stp (stpN (n + m) x) = stp (stpN n (stpN m x)); rw [ih]
theorem stp_zero : stp 0#32 = 0#32 := by decide
theorem stp_inj0 (z : BitVec 32) (h : stp z = 0#32) : z = 0#32 := by
  unfold stp at h
  rcases top_bit z with h1 | h1
  · rw [h1] at h
    have h2 : z <<< 1 = 0#32 := by simpa using h
    have h3 : (z >>> 31).toNat = 0 := by rw [h1]; rfl
    rw [BitVec.toNat_ushiftRight, Nat.shiftRight_eq_div_pow] at h3
    have h4 : (z <<< 1).toNat = 0 := by rw [h2]; rfl
    rw [BitVec.toNat_shiftLeft, Nat.shiftLeft_eq] at h4
    apply BitVec.eq_of_toNat_eq
    have := z.isLt
    simp
    omega
  · rw [h1] at h
    have h2 : z <<< 1 = 79764919#32 := by
      have := congrArg (fun x => x ^^^ (79764919#32 * 1#32)) h
      simp only [BitVec.xor_assoc, BitVec.xor_self, BitVec.xor_zero] at this
      rw [this]; decide
    have h4 : (z <<< 1).toNat = 79764919 := by rw [h2]; rfl
    rw [BitVec.toNat_shiftLeft, Nat.shiftLeft_eq] at h4
    omega
theorem stp_inj {x y : BitVec 32} (h : stp x = stp y) : x = y := by
  have : stp (x ^^^ y) = 0#32 := by rw [stp_xor, h, BitVec.xor_self]
  have h2 := stp_inj0 _ this
  have h3 := congrArg (fun z => z ^^^ y) h2
  simpa [BitVec.xor_assoc] using h3
theorem stpN_inj {n : Nat} {x y : BitVec 32} (h : stpN n x = stpN n y) : x = y := by
  induction n with
  | zero => exact h
  | succ n ih => exact ih (stp_inj h)
theorem stp_low {y : BitVec 32} (h : y.toNat < 2147483648) : stp y = y <<< 1 := by
  unfold stp
  have : y >>> 31 = 0#32 := by apply BitVec.eq_of_toNat_eq; rw [BitVec.toNat_ushiftRight, Nat.shiftRight_eq_div_pow]; simp; omega
  rw [this]; simp
theorem low_shift {y : BitVec 32} {k : Nat} (h : y.toNat < 268435456) (hk : k ≤ 3) : stp (y <<< k) = y <<< (k + 1) := by
  rw [stp_low]
  · rw [← BitVec.shiftLeft_add]
  · rw [BitVec.toNat_shiftLeft, Nat.shiftLeft_eq]
    have : 2 ^ k ≤ 2 ^ 3 := Nat.pow_le_pow_right (by omega) hk
    have h2 : y.toNat * 2 ^ k ≤ y.toNat * 2 ^ 3 := Nat.mul_le_mul_left _ this
    have h3 : y.toNat * 2 ^ k % 2 ^ 32 ≤ y.toNat * 2 ^ k := Nat.mod_le _ _
    omega
theorem stp4_low {y : BitVec 32} (h : y.toNat < 268435456) : stpN 4 y = y <<< 4 := by
  show stp (stp (stp (stp y))) = _
  have h0 : stp y = y <<< 1 := by have := low_shift (k := 0) h (by omega); simpa using this
  rw [h0, low_shift h (by omega), low_shift h (by omega), low_shift h (by omega)]
/-- A number is its low bits and its high ones. -/
theorem parts (r : BitVec 32) : r = (r &&& 268435455#32) ^^^ ((r >>> 28) <<< 28) := by
  apply BitVec.eq_of_getElem_eq
  intro i hi
  simp only [BitVec.getElem_xor, BitVec.getElem_and, BitVec.getElem_shiftLeft, BitVec.getElem_ushiftRight]
  have h28 : ∀ i, (h : i < 32) → (268435455#32)[i] = decide (i < 28) := by decide
  rw [h28 i hi]
  by_cases h : i < 28
  · simp [h]
  · simp [h, show 28 + (i - 28) = i by omega, BitVec.getLsbD_eq_getElem hi]
theorem low_lt (r : BitVec 32) : (r &&& 268435455#32).toNat < 268435456 := by
  rw [BitVec.toNat_and]
  exact Nat.lt_of_le_of_lt Nat.and_le_right (by decide)
theorem low_shl (r : BitVec 32) : (r &&& 268435455#32) <<< 4 = r <<< 4 := by
  apply BitVec.eq_of_getElem_eq
  intro i hi
  simp only [BitVec.getElem_and, BitVec.getElem_shiftLeft]
  by_cases h : i < 4
  · simp [h]
  · have h28 : ∀ i, (h : i < 32) → (268435455#32)[i] = decide (i < 28) := by decide
    simp [h, h28 (i - 4) (by omega), show i - 4 < 28 by omega]
/-- Four steps at once. -/
theorem half_eq (r n : BitVec 32) : half r n = stpN 4 (r ^^^ (n <<< 28)) := by
  have e : r ^^^ (n <<< 28) = (r &&& 268435455#32) ^^^ (((r >>> 28) ^^^ n) <<< 28) := by
    conv => lhs; rw [parts r]
    rw [BitVec.shiftLeft_xor_distrib, BitVec.xor_assoc]
  rw [e, stpN_xor, stp4_low (low_lt r), low_shl]
  show (r <<< 4) ^^^ stpN 4 (BitVec.ofNat 32 (((r >>> 28) ^^^ n).toNat) <<< 28) = _
  rw [BitVec.ofNat_toNat, BitVec.setWidth_eq]
/-- A byte's steps. -/
def word (c : UInt8) : BitVec 32 := (c.toBitVec.setWidth 32) <<< 24
theorem nib_shl (c : UInt8) : stpN 4 (((c.toBitVec &&& 15#8).setWidth 32) <<< 24) = ((c.toBitVec &&& 15#8).setWidth 32) <<< 28 := by
  have : ((c.toBitVec &&& 15#8).setWidth 32 <<< 24).toNat < 268435456 := by
    rw [BitVec.toNat_shiftLeft, BitVec.toNat_setWidth, Nat.shiftLeft_eq, BitVec.toNat_and]
    have : c.toBitVec.toNat &&& (15#8).toNat ≤ 15 := Nat.and_le_right
    omega
  rw [stp4_low this, ← BitVec.shiftLeft_add]
theorem word_parts (c : UInt8) : word c = (((c.toBitVec >>> 4).setWidth 32) <<< 28) ^^^ (((c.toBitVec &&& 15#8).setWidth 32) <<< 24) := by
  unfold word
  have : ∀ x : BitVec 8, (x.setWidth 32) <<< 24 = (((x >>> 4).setWidth 32) <<< 28) ^^^ (((x &&& 15#8).setWidth 32) <<< 24) := by decide +kernel
  exact this _
theorem byteQ_eq (r : BitVec 32) (c : UInt8) : byteQ r c = stpN 8 (r ^^^ word c) := by
  unfold byteQ
  rw [half_eq, half_eq, word_parts]
  show _ = stpN (4 + 4) _
  rw [stpN_add]
  congr 1
  rw [← BitVec.xor_assoc, stpN_xor 4 (r ^^^ _), nib_shl]
theorem byteQ_inj {r s : BitVec 32} {c : UInt8} (h : byteQ r c = byteQ s c) : r = s := by
  rw [byteQ_eq, byteQ_eq] at h
  have h2 := congrArg (fun z => z ^^^ word c) (stpN_inj h)
  simpa [BitVec.xor_assoc] using h2
theorem foldQ_inj : ∀ (l : List UInt8) {r s : BitVec 32}, foldQ l r = foldQ l s → r = s
  | [], _, _, h => h
  | _ :: l, _, _, h => byteQ_inj (foldQ_inj l h)
theorem foldQ_app (l m : List UInt8) (r : BitVec 32) : foldQ (l ++ m) r = foldQ m (foldQ l r) := by unfold foldQ; rw [List.foldl_append]
theorem not_inj {x y : BitVec 32} (h : ~~~x = ~~~y) : x = y := by
  have := congrArg (fun z => ~~~z) h
  simpa using this
theorem low_steps : ∀ (n : Nat) (y : BitVec 32), y.toNat * 2 ^ n < 4294967296 → stpN n y = y <<< n
  | 0, y, _ => by simp [stpN]
  | n + 1, y, hy => by
    have h1 : y.toNat * 2 ^ n * 2 < 4294967296 := by rw [Nat.mul_assoc, ← Nat.pow_succ]; exact hy
    show stp (stpN n y) = _
    rw [low_steps n y (by omega), stp_low, ← BitVec.shiftLeft_add]
    rw [BitVec.toNat_shiftLeft, Nat.shiftLeft_eq]
    have := Nat.mod_le (y.toNat * 2 ^ n) (2 ^ 32)
    omega
theorem word_up (k : Nat) (x : UInt8) (h : (word x >>> k) <<< k = word x) : stpN k (word x >>> k) = word x := by
  rw [low_steps, h]
  rw [BitVec.toNat_ushiftRight, Nat.shiftRight_eq_div_pow]
  exact Nat.lt_of_le_of_lt (Nat.div_mul_le_self _ _) (word x).isLt
theorem up8 (x : UInt8) : stpN 8 (word x >>> 8) = word x := word_up 8 x (by
  have : ∀ x : BitVec 8, ((x.setWidth 32 <<< 24) >>> 8) <<< 8 = x.setWidth 32 <<< 24 := by decide +kernel
  exact this _)
theorem up16 (x : UInt8) : stpN 16 (word x >>> 16) = word x := word_up 16 x (by
  have : ∀ x : BitVec 8, ((x.setWidth 32 <<< 24) >>> 16) <<< 16 = x.setWidth 32 <<< 24 := by decide +kernel
  exact this _)
theorem up24 (x : UInt8) : stpN 24 (word x >>> 24) = word x := word_up 24 x (by
  have : ∀ x : BitVec 8, ((x.setWidth 32 <<< 24) >>> 24) <<< 24 = x.setWidth 32 <<< 24 := by decide +kernel
  exact this _)
def four (a b c d : UInt8) : BitVec 32 := ((word a ^^^ (word b >>> 8)) ^^^ (word c >>> 16)) ^^^ (word d >>> 24)
set_option maxHeartbeats 1000000 in
theorem four_eq (a b c d : UInt8) (r : BitVec 32) : foldQ [a, b, c, d] r = stpN 32 (r ^^^ four a b c d) := by
  show byteQ (byteQ (byteQ (byteQ r a) b) c) d = _
  simp only [byteQ_eq]
  have g1 : r ^^^ four a b c d = (((r ^^^ word a) ^^^ (word b >>> 8)) ^^^ (word c >>> 16)) ^^^ (word d >>> 24) := by unfold four; simp only [BitVec.xor_assoc]
  have h16 : stpN 16 ((r ^^^ word a) ^^^ (word b >>> 8)) = stpN 8 (stpN 8 (r ^^^ word a) ^^^ word b) := by
    show stpN (8 + 8) _ = _
    rw [stpN_add, stpN_xor 8 _ (word b >>> 8), up8]
  have h24 : stpN 24 (((r ^^^ word a) ^^^ (word b >>> 8)) ^^^ (word c >>> 16)) = stpN 8 (stpN 8 (stpN 8 (r ^^^ word a) ^^^ word b) ^^^ word c) := by
    show stpN (8 + 16) _ = _
    rw [stpN_add, stpN_xor 16, up16, h16]
  rw [g1]
  show _ = stpN (8 + 24) _
  rw [stpN_add, stpN_xor 24, up24, h24]
theorem pick8 (k : Nat) (x y z u : BitVec 32) : (((((x ^^^ y) ^^^ z) ^^^ u) >>> k).setWidth 8) = (((x >>> k).setWidth 8 ^^^ (y >>> k).setWidth 8) ^^^ (z >>> k).setWidth 8) ^^^ (u >>> k).setWidth 8 := by
  simp only [BitVec.ushiftRight_xor_distrib, BitVec.setWidth_xor]
theorem four_a (a b c d : UInt8) : ((four a b c d) >>> 24).setWidth 8 = a.toBitVec := by
  unfold four word
  rw [pick8]
  have h0 : ∀ x : BitVec 8, ((x.setWidth 32 <<< 24) >>> 24).setWidth 8 = x := by decide +kernel
  have h1 : ∀ x : BitVec 8, (((x.setWidth 32 <<< 24) >>> 8) >>> 24).setWidth 8 = 0#8 := by decide +kernel
  have h2 : ∀ x : BitVec 8, (((x.setWidth 32 <<< 24) >>> 16) >>> 24).setWidth 8 = 0#8 := by decide +kernel
  have h3 : ∀ x : BitVec 8, (((x.setWidth 32 <<< 24) >>> 24) >>> 24).setWidth 8 = 0#8 := by decide +kernel
  rw [h0, h1, h2, h3]; simp
theorem four_b (a b c d : UInt8) : ((four a b c d) >>> 16).setWidth 8 = b.toBitVec := by
  unfold four word
  rw [pick8]
  have h0 : ∀ x : BitVec 8, ((x.setWidth 32 <<< 24) >>> 16).setWidth 8 = 0#8 := by decide +kernel
  have h1 : ∀ x : BitVec 8, (((x.setWidth 32 <<< 24) >>> 8) >>> 16).setWidth 8 = x := by decide +kernel
  have h2 : ∀ x : BitVec 8, (((x.setWidth 32 <<< 24) >>> 16) >>> 16).setWidth 8 = 0#8 := by decide +kernel
  have h3 : ∀ x : BitVec 8, (((x.setWidth 32 <<< 24) >>> 24) >>> 16).setWidth 8 = 0#8 := by decide +kernel
  rw [h0, h1, h2, h3]; simp
theorem four_c (a b c d : UInt8) : ((four a b c d) >>> 8).setWidth 8 = c.toBitVec := by
  unfold four word
  rw [pick8]
  have h0 : ∀ x : BitVec 8, ((x.setWidth 32 <<< 24) >>> 8).setWidth 8 = 0#8 := by decide +kernel
  have h1 : ∀ x : BitVec 8, (((x.setWidth 32 <<< 24) >>> 8) >>> 8).setWidth 8 = 0#8 := by decide +kernel
  have h2 : ∀ x : BitVec 8, (((x.setWidth 32 <<< 24) >>> 16) >>> 8).setWidth 8 = x := by decide +kernel
  have h3 : ∀ x : BitVec 8, (((x.setWidth 32 <<< 24) >>> 24) >>> 8).setWidth 8 = 0#8 := by decide +kernel
  rw [h0, h1, h2, h3]; simp
theorem four_d (a b c d : UInt8) : ((four a b c d) >>> 0).setWidth 8 = d.toBitVec := by
  unfold four word
  rw [pick8]
  have h0 : ∀ x : BitVec 8, ((x.setWidth 32 <<< 24) >>> 0).setWidth 8 = 0#8 := by decide +kernel
  have h1 : ∀ x : BitVec 8, (((x.setWidth 32 <<< 24) >>> 8) >>> 0).setWidth 8 = 0#8 := by decide +kernel
  have h2 : ∀ x : BitVec 8, (((x.setWidth 32 <<< 24) >>> 16) >>> 0).setWidth 8 = 0#8 := by decide +kernel
  have h3 : ∀ x : BitVec 8, (((x.setWidth 32 <<< 24) >>> 24) >>> 0).setWidth 8 = x := by decide +kernel
  rw [h0, h1, h2, h3]; simp
/-- P8.2: four bytes that become other ones change the state. -/
theorem four_inj {a b c d a' b' c' d' : UInt8} {r : BitVec 32} (h : foldQ [a, b, c, d] r = foldQ [a', b', c', d'] r) : a = a' ∧ b = b' ∧ c = c' ∧ d = d' := by
  rw [four_eq, four_eq] at h
  have h3 : four a b c d = four a' b' c' d' := by
    have := congrArg (fun z => r ^^^ z) (stpN_inj h)
    simpa [← BitVec.xor_assoc] using this
  refine ⟨?_, ?_, ?_, ?_⟩ <;> apply UInt8.toBitVec_inj.1
  · rw [← four_a a b c d, ← four_a a' b' c' d', h3]
  · rw [← four_b a b c d, ← four_b a' b' c' d', h3]
  · rw [← four_c a b c d, ← four_c a' b' c' d', h3]
  · rw [← four_d a b c d, ← four_d a' b' c' d', h3]
/-- P8.3: bytes 0 ahead. -/
theorem zero_byte (r : BitVec 32) : byteQ r 0 = stpN 8 r := by
  rw [byteQ_eq, show word 0 = 0#32 from by decide]; simp
theorem zeros_fold : ∀ (n : Nat) (r : BitVec 32), foldQ (List.replicate n 0) r = stpN (8 * n) r
  | 0, r => rfl
  | n + 1, r => by
    show foldQ (List.replicate n 0) (byteQ r 0) = _
    rw [zeros_fold n, zero_byte, ← stpN_add]; congr 1
/-- One step, on plain numbers. -/
def stpNat (x : Nat) : Nat := if x < 2147483648 then 2 * x else (2 * x - 4294967296) ^^^ 79764919
theorem stp_nat (x : BitVec 32) : (stp x).toNat = stpNat x.toNat := by
  unfold stp stpNat
  have hx := x.isLt
  by_cases h : x.toNat < 2147483648
  · have : x >>> 31 = 0#32 := by apply BitVec.eq_of_toNat_eq; rw [BitVec.toNat_ushiftRight, Nat.shiftRight_eq_div_pow]; show _ = 0; omega
    rw [if_pos h, this]
    simp [BitVec.toNat_shiftLeft, Nat.shiftLeft_eq]
    omega
  · have : x >>> 31 = 1#32 := by apply BitVec.eq_of_toNat_eq; rw [BitVec.toNat_ushiftRight, Nat.shiftRight_eq_div_pow]; show _ = 1; omega
    rw [if_neg h, this]
    have e : x.toNat * 2 ^ 1 % 2 ^ 32 = 2 * x.toNat - 4294967296 := by omega
    rw [BitVec.toNat_xor, BitVec.toNat_shiftLeft, Nat.shiftLeft_eq, e]
    rfl
def stp8 (x : Nat) : Nat := stpNat (stpNat (stpNat (stpNat (stpNat (stpNat (stpNat (stpNat x)))))))
theorem stp8_nat (x : BitVec 32) : (stpN 8 x).toNat = stp8 x.toNat := by
  show (stp (stp (stp (stp (stp (stp (stp (stp x)))))))).toNat = _
  simp only [stp_nat]; rfl
/-- Does no number of bytes up to n bring x to 'goal'? -/
def never (goal : Nat) : Nat → Nat → Bool
  | 0, _ => true
  | n + 1, x => CheckFast.force (stp8 x) fun y => !(Nat.beq y goal) && never goal n y
theorem never_spec {goal : Nat} : ∀ (n : Nat) (x : BitVec 32), never goal n x.toNat = true → ∀ k, 1 ≤ k → k ≤ n → (stpN (8 * k) x).toNat ≠ goal
  | 0, _, _, k, h1, h2 => by omega
  | n + 1, x, h, k, h1, h2 => by
    unfold never at h
    rw [CheckFast.force_eq, ← stp8_nat, Bool.and_eq_true] at h
    by_cases hk : k = 1
    · subst hk
      intro e
      have := h.1
      rw [show 8 * 1 = 8 from rfl] at e
      rw [e] at this
      simp at this
    · have := never_spec n (stpN 8 x) h.2 (k - 1) (by omega) (by omega)
      rwa [← stpN_add, show 8 * (k - 1) + 8 = 8 * k by omega] at this
theorem never_all : never 4294967295 3000 4294967295 = true := by decide +kernel
theorem noughts_inj {n m : Nat} (hn : n ≤ 3000) (hm : m ≤ 3000) (h : foldQ (List.replicate n 0) 4294967295#32 = foldQ (List.replicate m 0) 4294967295#32) : n = m := by
  have key : ∀ a b, a < b → b ≤ 3000 → stpN (8 * a) 4294967295#32 ≠ stpN (8 * b) 4294967295#32 := by
    intro a b hab hb e
    rw [show 8 * b = 8 * a + 8 * (b - a) by omega, stpN_add] at e
    have e2 := stpN_inj e
    refine never_spec 3000 4294967295#32 never_all (b - a) (by omega) (by omega) ?_
    rw [← e2]; rfl
  rw [zeros_fold, zeros_fold] at h
  rcases Nat.lt_trichotomy n m with h1 | h1 | h1
  · exact absurd h (key _ _ h1 hm)
  · exact h1
  · exact absurd h.symm (key _ _ h1 hn)
/-- One bit, as the document has it. -/
def bitS (v : BitVec 32) (taken : Bool) : BitVec 32 := bif (taken != decide (2147483648 ≤ v.toNat)) then (v <<< 1) ^^^ 79764919#32 else v <<< 1
theorem bitS_eq (v : BitVec 32) (b : Bool) : bitS v b = stp (v ^^^ (bif b then 2147483648#32 else 0#32)) := by
  have hv := v.isLt
  cases b
  · unfold bitS stp
    simp only [cond_false, BitVec.xor_zero]
    by_cases h : 2147483648 ≤ v.toNat
    · have : v >>> 31 = 1#32 := by apply BitVec.eq_of_toNat_eq; rw [BitVec.toNat_ushiftRight, Nat.shiftRight_eq_div_pow]; show _ = 1; omega
      rw [this]; simp [h]
    · have : v >>> 31 = 0#32 := by apply BitVec.eq_of_toNat_eq; rw [BitVec.toNat_ushiftRight, Nat.shiftRight_eq_div_pow]; show _ = 0; omega
      rw [this]; simp [h]
  · rw [cond_true, stp_xor, show stp 2147483648#32 = 79764919#32 by decide]
    unfold bitS stp
    by_cases h : 2147483648 ≤ v.toNat
    · have : v >>> 31 = 1#32 := by apply BitVec.eq_of_toNat_eq; rw [BitVec.toNat_ushiftRight, Nat.shiftRight_eq_div_pow]; show _ = 1; omega
      rw [this]; simp [h, BitVec.xor_assoc]
    · have : v >>> 31 = 0#32 := by apply BitVec.eq_of_toNat_eq; rw [BitVec.toNat_ushiftRight, Nat.shiftRight_eq_div_pow]; show _ = 0; omega
      rw [this]; simp [h]
/-- Bit j of a byte, the highest first. -/
def bitOf (c : UInt8) (j : Nat) : Bool := (c.toNat / 2 ^ (7 - j)) % 2 == 1
def bitsN (c : UInt8) : Nat → BitVec 32 → BitVec 32
  | 0, v => v
  | j + 1, v => bitS (bitsN c j v) (bitOf c j)
theorem bits8 (c : UInt8) (v : BitVec 32) : bitsN c 8 v = byteQ v c := by
  have key : ∀ j, bitsN c j v = stpN j v ^^^ bitsN c j 0#32 := by
    intro j
    induction j with
    | zero => simp [bitsN, stpN]
    | succ j ih =>
      show bitS (bitsN c j v) _ = stp (stpN j v) ^^^ bitS (bitsN c j 0#32) _
      rw [bitS_eq, bitS_eq, ih, ← stp_xor]
      congr 1
      rw [BitVec.xor_assoc]
  rw [key, byteQ_eq, stpN_xor]
  congr 1
  have : ∀ x : BitVec 8, bitsN ⟨x⟩ 8 0#32 = stpN 8 (word ⟨x⟩) := by decide +kernel
  exact this _
end Go.Proofs.Ytmkljbcjgobjfaa
