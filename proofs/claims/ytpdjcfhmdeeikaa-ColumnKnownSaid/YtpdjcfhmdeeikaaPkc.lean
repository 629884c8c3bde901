/-
  What the laws stand on, part 3 of 6: plain lemmas; no condition.
-/
import Derived.Test.YtpdjcfhmdeeikaaPkb
set_option linter.unusedSimpArgs false
set_option linter.unusedVariables false
set_option linter.unusedSectionVars false
namespace Go.Proofs.Ytpdjcfhmdeeikaa
open Go.RowKit Go.DL

/-! ### Bits, as_ bytes -/
def qb (l : Nat → Bool) (k j : Nat) : Nat → Nat
  | 0 => 0
  | r + 1 => qb l k j r + (if 8 * j + r < k ∧ l (8 * j + r) = true then 2 ^ r else 0)
def qbits (l : Nat → Bool) (k m : Nat) : List UInt8 := (List.range m).map fun j => UInt8.ofNat (qb l k j 8)
theorem qbits_len (l : Nat → Bool) (k m : Nat) : (qbits l k m).length = m := by simp [qbits]
theorem qb_succ (l : Nat → Bool) (k j : Nat) : ∀ r, qb l (k + 1) j r = qb l k j r + (if 8 * j ≤ k ∧ k < 8 * j + r ∧ l k = true then 2 ^ (k - 8 * j) else 0)
  | 0 => by rw [qb, qb, if_neg (by omega)]
  | r + 1 => by
    rw [qb, qb, qb_succ l k j r]
    by_cases he : 8 * j + r = k
    · rw [he]
      by_cases hk : l k = true
      · rw [if_neg (by omega), if_pos ⟨by omega, hk⟩, if_neg (by omega), if_pos ⟨by omega, by omega, hk⟩, show k - 8 * j = r by omega]
      · rw [if_neg (by omega), if_neg (fun h => hk h.2), if_neg (by omega), if_neg (fun h => hk h.2.2)]
    · have h1 : (8 * j + r < k + 1 ∧ l (8 * j + r) = true) ↔ (8 * j + r < k ∧ l (8 * j + r) = true) := ⟨fun h => ⟨by omega, h.2⟩, fun h => ⟨by omega, h.2⟩⟩
      have h2 : (8 * j ≤ k ∧ k < 8 * j + (r + 1) ∧ l k = true) ↔ (8 * j ≤ k ∧ k < 8 * j + r ∧ l k = true) := ⟨fun h => ⟨by omega, by omega, h.2.2⟩, fun h => ⟨by omega, by omega, h.2.2⟩⟩
      simp only [h1, h2]; omega
theorem qb_lt (l : Nat → Bool) (k j : Nat) : ∀ r, qb l k j r < 2 ^ (min r (k - 8 * j))
  | 0 => by rw [qb]; exact Nat.pow_pos (by omega)
  | r + 1 => by
    have ih := qb_lt l k j r
    rw [qb]
    by_cases h : 8 * j + r < k
    · rw [show min (r + 1) (k - 8 * j) = r + 1 by omega, Nat.pow_succ]
      rw [show min r (k - 8 * j) = r by omega] at ih
      split <;> omega
    · rw [if_neg (fun hh => h hh.1), show min (r + 1) (k - 8 * j) = min r (k - 8 * j) by omega]
      exact ih
theorem qb_at (l : Nat → Bool) (k : Nat) : qb l k (k / 8) 8 < 2 ^ (k % 8) := by
  have := qb_lt l k (k / 8) 8
  rwa [show min 8 (k - 8 * (k / 8)) = k % 8 by omega] at this
theorem qb_256 (l : Nat → Bool) (k j : Nat) : qb l k j 8 < 256 := by
  have := qb_lt l k j 8
  have h2 : 2 ^ (min 8 (k - 8 * j)) ≤ 2 ^ 8 := Nat.pow_le_pow_right (by omega) (by omega)
  omega
theorem qb_zero (l : Nat → Bool) (k j : Nat) (h : k ≤ 8 * j) : qb l k j 8 = 0 := by
  have := qb_lt l k j 8
  rw [show min 8 (k - 8 * j) = 0 by omega] at this
  omega
theorem qbits_same {l : Nat → Bool} {k m : Nat} (h : ¬ l k = true) : qbits l (k + 1) m = qbits l k m := by
  unfold qbits
  apply List.map_congr_left
  intro j _
  rw [qb_succ, if_neg (fun hh => h hh.2.2), Nat.add_zero]
theorem qbits_set {l : Nat → Bool} {k m : Nat} (h : l k = true) (hm : k / 8 < m) : qbits l (k + 1) m = (qbits l k m).set (k / 8) (UInt8.ofNat (qb l k (k / 8) 8 + 2 ^ (k % 8))) := by
  apply List.ext_getElem?
  intro j
  rw [List.getElem?_set, qbits_len]
  unfold qbits
  by_cases hj : j < m
  · simp only [List.getElem?_map, List.getElem?_range hj, Option.map_some]
    rw [qb_succ]
    by_cases e : k / 8 = j
    · subst e
      rw [if_pos rfl, if_pos hj, if_pos ⟨by omega, by omega, h⟩, show k - 8 * (k / 8) = k % 8 by omega]
    · rw [if_neg e, if_neg (by omega), Nat.add_zero]
  · rw [if_neg (by omega), List.getElem?_eq_none (by simp; omega), List.getElem?_eq_none (by simp; omega)]
theorem or_bit {a r : Nat} (h : a < 2 ^ r) (hr : r < 8) : UInt8.ofNat a ||| UInt8.ofNat (2 ^ r) = UInt8.ofNat (a + 2 ^ r) := by
  have hp : 2 ^ r ≤ 128 := Nat.le_trans (Nat.pow_le_pow_right (by omega) (by omega : r ≤ 7)) (by decide)
  apply UInt8.toNat_inj.1
  rw [UInt8.toNat_or, UInt8.toNat_ofNat', UInt8.toNat_ofNat', UInt8.toNat_ofNat', Nat.mod_eq_of_lt (by omega), Nat.mod_eq_of_lt (by omega), Nat.mod_eq_of_lt (by omega)]
  have := Nat.two_pow_add_eq_or_of_lt h 1
  rw [Nat.mul_one] at this
  rw [Nat.or_comm, ← this, Nat.add_comm]
theorem add_bit {a r : Nat} : UInt8.ofNat a + UInt8.ofNat (2 ^ r) = UInt8.ofNat (a + 2 ^ r) := by
  apply UInt8.toNat_inj.1
  rw [UInt8.toNat_add, UInt8.toNat_ofNat', UInt8.toNat_ofNat', UInt8.toNat_ofNat']; omega
theorem qbits_get {l : Nat → Bool} {k m j : Nat} (h : j < m) (tl : List UInt8) : (bytesD (qbits l k m ++ tl))[0 + j * 1]? = some (B8 (UInt8.ofNat (qb l k j 8))) := by
  rw [Nat.mul_one, Nat.zero_add, bytesD, List.getElem?_map, List.getElem?_append_left (by rw [qbits_len]; exact h)]
  unfold qbits
  rw [List.getElem?_map, List.getElem?_range h]; rfl
theorem qbits_put {l : Nat → Bool} {k m : Nat} (h : l k = true) (hm : k / 8 < m) (tl : List UInt8) {c : UInt8} (hc : c = UInt8.ofNat (qb l k (k / 8) 8 + 2 ^ (k % 8))) : spl (bytesD (qbits l k m ++ tl)) (0 + k / 8 * 1) [B8 c] = bytesD (qbits l (k + 1) m ++ tl) := by
  subst hc
  rw [Nat.mul_one, Nat.zero_add, spl_one _ _ _ (by rw [bytesD_len, List.length_append, qbits_len]; omega), qbits_set h hm]
  unfold bytesD
  rw [← List.set_append_left _ _ (by rw [qbits_len]; exact hm), List.map_set]; rfl
theorem qbits_get1 {l : Nat → Bool} {k m j : Nat} (h : j < m) : (bytesD (qbits l k m))[0 + j * 1]? = some (B8 (UInt8.ofNat (qb l k j 8))) := by
  have := qbits_get (l := l) (k := k) h []
  rwa [List.append_nil] at this
theorem qbits_put1 {l : Nat → Bool} {k m : Nat} (h : l k = true) (hm : k / 8 < m) {c : UInt8} (hc : c = UInt8.ofNat (qb l k (k / 8) 8 + 2 ^ (k % 8))) : spl (bytesD (qbits l k m)) (0 + k / 8 * 1) [B8 c] = bytesD (qbits l (k + 1) m) := by
  have := qbits_put h hm [] hc
  rwa [List.append_nil, List.append_nil] at this
theorem qbits_new {l : Nat → Bool} {k : Nat} (h : k % 8 = 0) : bytesD (qbits l k ((k + 7) / 8)) ++ [B8 0] = bytesD (qbits l k (k / 8 + 1)) := by
  rw [show (k + 7) / 8 = k / 8 by omega]
  unfold qbits bytesD
  rw [List.range_succ, List.map_append, List.map_append, List.map_singleton, List.map_singleton, qb_zero l k (k / 8) (by omega)]; rfl
section
variable {P : Program} {C : Ctx} {env : Nat → D} {H : Heap} {dst : Option Nat} {ty t t' : TypeId} {pos : String} {after : Array Edge} {gu : Option (Nat × Bool)} {X Y : Operand}
theorem shl1_val {n : Nat} (hn : n < 8) : IntKind.u8.wrap ((1 : Int) * 2 ^ n) = ((UInt8.ofNat (2 ^ n)).toNat : Int) := by
  rcases (by omega : n = 0 ∨ n = 1 ∨ n = 2 ∨ n = 3 ∨ n = 4 ∨ n = 5 ∨ n = 6 ∨ n = 7) with h | h | h | h | h | h | h | h <;> subst h <;> rfl
theorem o_shl1 {n : Nat} (hx : ev env X = B8 1) (hy : ev env Y = N64 n) (hn : n < 8) : OpD P C ⟨dst, .binOp .shl t X Y t', ty, pos, after, gu⟩ env H (B8 (UInt8.ofNat (2 ^ n))) H :=
  (o_bin _ hx hy (shl_run (k := .u8) (x := 1) (n := n) (by show n ≤ 8; omega))).cast (v_int (shl1_val hn))
theorem o_shl1I {n : Nat} (hx : ev env X = B8 1) (hy : ev env Y = I64 n) (hn : n < 8) : OpD P C ⟨dst, .binOp .shl t X Y t', ty, pos, after, gu⟩ env H (B8 (UInt8.ofNat (2 ^ n))) H :=
  (o_shlI (k := .u8) (x := 1) hx hy (by show n ≤ 8; omega)).cast (v_int (shl1_val hn))
end
theorem zs_qbits (l : Nat → Bool) (n : Nat) : (zeros (.int .u8 0) (n * 1) 1).map D.v = bytesD (qbits l 0 n) := by
  unfold zeros qbits bytesD
  rw [Nat.mul_one, List.map_map, List.map_map]
  apply List.map_congr_left
  intro j _
  show D.v ([Value.int .u8 0].getD (j % 1) undef) = U8 (UInt8.ofNat (qb l 0 j 8)).toBitVec
  rw [Nat.mod_one, qb_zero l 0 j (by omega)]; rfl
theorem gd_at {b : List UInt8} {i : Nat} (h : i < b.length) : b[i] = b.getD i 0 := by simp [List.getD, h]
def bitAt (b : List UInt8) (i : Nat) : Bool := decide ((b.getD (i / 8) 0).toNat / 2 ^ (i % 8) % 2 = 1)
theorem and1 (x : BitVec 8) (n : Nat) : ((x >>> n) &&& 1#8).toNat = x.toNat / 2 ^ n % 2 := by
  rw [BitVec.toNat_and, BitVec.toNat_ushiftRight, Nat.shiftRight_eq_div_pow]
  exact Nat.and_one_is_mod _
theorem and1B (x : BitVec 8) (n : Nat) : U8 ((x >>> n) &&& 1#8) = B8 (UInt8.ofNat (x.toNat / 2 ^ n % 2)) := by
  show D.v (.int .u8 (_ : Int)) = D.v (.int .u8 (_ : Int))
  rw [and1, UInt8.toNat_ofNat', Nat.mod_eq_of_lt (b := 2 ^ 8) (by omega)]
theorem bit1 {m : Nat} (h : m < 2) : decide (UInt8.ofNat m = 1) = decide (m = 1) := by
  rcases (by omega : m = 0 ∨ m = 1) with h | h <;> subst h <;> rfl
theorem bit8 (m : Nat) : D.v (.int .u8 ((m : Int) % 2)) = B8 (UInt8.ofNat (m % 2)) := by
  show D.v (.int .u8 _) = D.v (.int .u8 (_ : Int))
  rw [UInt8.toNat_ofNat', Nat.mod_eq_of_lt (b := 2 ^ 8) (by omega)]; rfl
theorem bit_is {b : List UInt8} {i : Nat} (h : i / 8 < b.length) : bitAt b i = (UInt8.ofNat ((b[i / 8]).toNat / 2 ^ (i % 8) % 2) == 1) := by
  unfold bitAt
  rw [← gd_at h]
  exact (bit1 (by omega)).symm
theorem qb_bit (l : Nat → Bool) (k j : Nat) : ∀ r q, q < r → qb l k j r / 2 ^ q % 2 = if 8 * j + q < k ∧ l (8 * j + q) = true then 1 else 0
  | 0, q, h => by omega
  | r + 1, q, h => by
    rw [qb]
    rcases Nat.lt_or_ge q r with hq | hq
    · rw [← qb_bit l k j r q hq]
      split
      · obtain ⟨m, hm⟩ : ∃ m, r = q + (m + 1) := ⟨r - q - 1, by omega⟩
        rw [hm, Nat.pow_add, Nat.pow_succ, ← hm, show 2 ^ q * (2 ^ m * 2) = 2 ^ q * (2 * 2 ^ m) by rw [Nat.mul_comm (2 ^ m)], Nat.add_mul_div_left _ _ (Nat.pow_pos (by omega)), Nat.add_mul_mod_self_left]
      · rw [Nat.add_zero]
    · have e : q = r := by omega
      subst e
      have hlt : qb l k j q < 2 ^ q := Nat.lt_of_lt_of_le (qb_lt l k j q) (Nat.pow_le_pow_right (by omega) (by omega))
      split
      · rw [Nat.add_div_right _ (Nat.pow_pos (by omega)), Nat.div_eq_of_lt hlt]
      · rw [Nat.add_zero, Nat.div_eq_of_lt hlt]
theorem bytes_bits {x y : Nat} (hx : x < 256) (hy : y < 256) (h : ∀ q, q < 8 → x / 2 ^ q % 2 = y / 2 ^ q % 2) : x = y := by
  have h0 := h 0 (by omega)
  have h1 := h 1 (by omega)
  have h2 := h 2 (by omega)
  have h3 := h 3 (by omega)
  have h4 := h 4 (by omega)
  have h5 := h 5 (by omega)
  have h6 := h 6 (by omega)
  have h7 := h 7 (by omega)
  simp only [Nat.reducePow] at h0 h1 h2 h3 h4 h5 h6 h7
  omega
theorem bit_qb {l : Nat → Bool} {k m i : Nat} (h : i / 8 < m) (r : List UInt8) : bitAt (qbits l k m ++ r) i = decide (i < k ∧ l i = true) := by
  unfold bitAt
  have e : ((qbits l k m ++ r).getD (i / 8) 0) = UInt8.ofNat (qb l k (i / 8) 8) := by
    rw [List.getD_eq_getElem?_getD, List.getElem?_append_left (by rw [qbits_len]; exact h)]
    unfold qbits
    rw [List.getElem?_map, List.getElem?_range h]; rfl
  rw [e, UInt8.toNat_ofNat', Nat.mod_eq_of_lt (qb_256 l k (i / 8)), qb_bit l k (i / 8) 8 (i % 8) (by omega), show 8 * (i / 8) + i % 8 = i by omega]
  by_cases hP : i < k ∧ l i = true
  · rw [if_pos hP, decide_eq_true hP]; rfl
  · rw [if_neg hP, decide_eq_false hP]; rfl

def rall (n : Nat) (p : Nat → Bool) : Bool := (List.range n).all p
theorem rall_succ {k : Nat} {p : Nat → Bool} (h : rall k p = true) (hk : p k = true) : rall (k + 1) p = true := by
  unfold rall at *
  rw [List.range_succ, List.all_append, h]; simp [hk]
theorem rall_stop {n k : Nat} {p : Nat → Bool} (h : k < n) (hk : p k = false) : rall n p = false := by
  unfold rall
  rw [List.all_eq_false]; exact ⟨k, List.mem_range.2 h, by simp [hk]⟩
theorem rall_iff {n : Nat} {p : Nat → Bool} : rall n p = true ↔ ∀ k, k < n → p k = true := by
  unfold rall; simp [List.all_eq_true]
/-! ### A list's bits -/
abbrev lb (l : List Bool) (i : Nat) : Bool := l.getD i false
def bitsM (l : List Bool) : List UInt8 := qbits (lb l) l.length ((l.length + 7) / 8)
theorem bitsM_len (l : List Bool) : (bitsM l).length = (l.length + 7) / 8 := qbits_len _ _ _
theorem lb_at {l : List Bool} {i : Nat} (h : i < l.length) : l[i] = lb l i := by simp [List.getD, h]
abbrev rdO (l : List Bool) : D := .rd l.length (l.map Bo)
theorem shrI {k : Nat} : ((k : Int) % 8 % 18446744073709551616).toNat = k % 8 := by omega
set_option maxHeartbeats 4000000 in
theorem pbits_c (l : List Bool) (hl : l.length ≤ 1099511627776) : Fun Try.prog 25 [rdO l] (· = rdB (bitsM l)) := by
  refine Fun.of Try.func25 rfl (Nat.le_of_ble_eq_true rfl) fun C => ?_
  refine WC.seq fun Fh1_ h1_ => ?_
  refine WC.region ?_
  refine RG.op _ _ rfl rfl (o_assign (.v _) rfl) ?_
  refine RG.nil (h1_ _ ?_)
  refine WC.seq fun Fh2_ h2_ => ?_
  refine WC.region ?_
  refine RG.op _ _ rfl rfl (o_move (.rd _ _) rfl) ?_
  refine RG.op _ _ rfl rfl (o_len_rd rfl Try.underlying55) ?_
  refine RG.op _ _ rfl rfl (o_add rfl rfl (by first | omega | exact ubyte _ | (simp only [LS] <;> omega)) (by first | omega | exact ubyte _ | (simp only [LS] <;> omega))) ?_
  refine RG.op _ _ rfl rfl (o_quo rfl rfl (by first | omega | exact ubyte _ | (simp only [LS] <;> omega)) (by first | omega | exact ubyte _ | (simp only [LS] <;> omega)) (by first | omega | exact ubyte _ | (simp only [LS] <;> omega))) ?_
  refine RG.op _ _ rfl rfl (o_makeT ((l.length + 7) / 8) ((l.length + 7) / 8) ((l.length + 7) / 8) rfl rfl Try.underlying24 Ty.inf5 rfl rfl (by omega) (by omega) (by omega) (by omega) (by omega)) ?_
  refine RG.op _ _ rfl rfl (o_assign (.own _ _ _ _ _) rfl) ?_
  refine RG.nil (h2_ _ ?_)
  refine WC.seq fun Fh3_ h3_ => ?_
  refine WC.seq fun Fh4_ h4_ => ?_
  refine WC.region ?_
  refine RG.op _ _ rfl rfl (o_move (.rd _ _) rfl) ?_
  refine RG.op _ _ rfl rfl (o_len_rd rfl Try.underlying55) ?_
  refine RG.op _ _ rfl rfl (o_move (.v _) rfl) ?_
  refine RG.nil (h4_ _ ?_)
  refine WC.block ?_
  refine WC.loopU [4, 5, 13, 14, 15, 16, 17, 18, 19, 20, 21, 22, 23, 24, 25, 26, 27, 28, 29, 30] (fun (k : Nat) => [(13, I64 ((k : Nat) : Int))]) (fun (k : Nat) => [(0, tb 5 ((l.length + 7) / 8) (bytesD (qbits (lb l) k ((l.length + 7) / 8))))]) (fun (k : Nat) => k ≤ l.length) (fun (k : Nat) => l.length - k) 0 (by first | omega | exact ubyte _ | (simp only [LS] <;> omega)) ?lpa5_ ?lpb6_
  case lpa5_ =>
    exact .mk' ⟨⟨rfl, .v _⟩, trivial⟩ (same_refl _ _) (congrArg (fun c => [c]) (tb_eq rfl (zs_qbits (lb l) _))) (by repeat (first | exact trivial | refine And.intro (Nat.le_refl _) ?_ | refine And.intro trivial ?_ | refine And.intro (by show _ ≤ _; (first | omega | (simp only [LS] <;> omega))) ?_)) (by repeat (first | exact trivial | refine And.intro (one_ok (.own _ _ _ _ _ (Nat.le_refl _))) ?_ | refine And.intro (okp (by repeat (first | exact pu_bytes _ | exact pu_nil | exact pu_vs rfl | exact pu_map (fun _ => .v _) _ | exact pu_vals _ | refine pu_app ?_ ?_ | refine pu_cons (by exact pu_of rfl) ?_))) ?_))
  case lpb6_ =>
    rintro k hI
    have h7 : (qbits (lb l) k ((l.length + 7) / 8)).length = (l.length + 7) / 8 := qbits_len _ _ _
    refine WC.seq fun Fh7_ h7_ => ?_
    refine WC.region ?_
    refine RG.op _ _ rfl rfl (o_ltI rfl rfl) ?_
    refine RG.nil (h7_ _ ?_)
    refine WC.seq fun Fh8_ h8_ => ?_
    refine WC.cond _ rfl (fun c3 => ?_) (fun c3 => ?_)
    ·
      have p3 := c3
      try simp only [CN] at p3
      have hkl : k < l.length := by omega
      have hk8 : k / 8 < (l.length + 7) / 8 := by omega
      refine WC.skip (h8_ _ ?_)
      refine WC.seq fun Fh9_ h9_ => ?_
      refine WC.block ?_
      refine WC.seq fun Fh10_ h10_ => ?_
      refine WC.region ?_
      refine RG.op _ _ rfl rfl (o_move (.v _) rfl) ?_
      refine RG.op _ _ rfl rfl (o_ixn_M k rfl rfl Try.underlying55 (sz_of Ty.inf4) (by first | omega | exact ubyte _ | (simp only [LS] <;> omega)) (by first | omega | exact ubyte _ | (simp only [LS] <;> omega))) ?_
      refine RG.op _ _ rfl rfl (o_load_adr rfl Try.underlying4 rfl rfl) ?_
      refine RG.op _ _ rfl rfl (o_assign (.v _) rfl) ?_
      refine RG.op _ _ rfl rfl (o_assign (.v _) rfl) ?_
      refine RG.nil (h10_ _ ?_)
      refine WC.seq fun Fh11_ h11_ => ?_
      refine WC.region ?_
      refine RG.op _ _ rfl rfl (o_move (.v _) rfl) ?_
      refine RG.nil (h11_ _ ?_)
      refine WC.cond _ rfl (fun c5 => ?_) (fun c5 => ?_)
      ·
        have p5 := c5
        try simp only [CN] at p5
        have hbt : lb l k = true := (lb_at hkl).symm.trans c5
        refine WC.region ?_
        refine RG.op _ _ rfl rfl (o_move (.own _ _ _ _ _) rfl) ?_
        refine RG.op _ _ rfl rfl (o_move (.v _) rfl) ?_
        refine RG.op _ _ rfl rfl (o_quo rfl rfl (by first | omega | exact ubyte _ | (simp only [LS] <;> omega)) (by first | omega | exact ubyte _ | (simp only [LS] <;> omega)) (by first | omega | exact ubyte _ | (simp only [LS] <;> omega))) ?_
        refine RG.op _ _ rfl rfl (o_ixn_own (k / 8) rfl rfl Try.underlying24 (sz_of Ty.inf5) (by omega) (by omega)) ?_
        refine RG.op _ _ rfl rfl (o_load_ptr (d := B8 (UInt8.ofNat (qb (lb l) k (k / 8) 8))) rfl Try.underlying5 rfl rfl rfl (qbits_get1 hk8)) ?_
        refine RG.op _ _ rfl rfl (o_move (.v _) rfl) ?_
        refine RG.op _ _ rfl rfl (o_rem rfl rfl (by first | omega | exact ubyte _ | (simp only [LS] <;> omega)) (by first | omega | exact ubyte _ | (simp only [LS] <;> omega))) ?_
        refine RG.op _ _ rfl rfl (o_i64toU rfl Try.underlying3 Try.underlying66) ?_
        refine RG.op _ _ rfl rfl (o_shl1 rfl rfl (by omega)) ?_
        refine RG.op _ _ rfl rfl (o_orB rfl rfl) ?_
        refine RG.op _ _ rfl rfl (o_ixn_own (k / 8) rfl rfl Try.underlying24 (sz_of Ty.inf5) (by omega) (by omega)) ?_
        refine RG.op _ _ rfl rfl (o_store (d := .v _) rfl rfl rfl rfl (sz_of Ty.inf5) (by show 0 + k / 8 * 1 + 1 ≤ (bytesD _).length; rw [bytesD_len]; omega) rfl) ?_
        refine RG.nil (h9_ _ ?_)
        refine WC.region ?_
        refine RG.op _ _ rfl rfl (o_add rfl rfl (by first | omega | exact ubyte _ | (simp only [LS] <;> omega)) (by first | omega | exact ubyte _ | (simp only [LS] <;> omega))) ?_
        refine RG.op _ _ rfl rfl (o_move (.v _) rfl) ?_
        refine RG.nil (Exists.intro (k + 1) ⟨by first | omega | (simp only [LS] <;> omega), by first | omega | (simp only [LS] <;> omega), ?_⟩)
        exact .mk' ⟨⟨rfl, .v _⟩, trivial⟩ (by repeat (first | with_reducible exact same_refl _ _ | with_reducible refine same_updO (by with_unfolding_all exact rfl) ?_ | with_reducible refine same_updN ?_ | with_reducible refine same_updL (by with_unfolding_all exact rfl) ?_ | with_reducible refine same_forget (by with_unfolding_all exact rfl) ?_)) (congrArg (fun c => [c]) (tb_eq rfl (qbits_put1 hbt hk8 (by rw [shrI]; exact or_bit (qb_at (lb l) k) (by omega))))) (by repeat (first | exact trivial | refine And.intro (Nat.le_refl _) ?_ | refine And.intro trivial ?_ | refine And.intro (by show _ ≤ _; (first | omega | (simp only [LS] <;> omega))) ?_)) (by repeat (first | exact trivial | refine And.intro (one_ok (.own _ _ _ _ _ (Nat.le_refl _))) ?_ | refine And.intro (okp (by repeat (first | exact pu_bytes _ | exact pu_nil | exact pu_vs rfl | exact pu_map (fun _ => .v _) _ | exact pu_vals _ | refine pu_app ?_ ?_ | refine pu_cons (by exact pu_of rfl) ?_))) ?_))
      ·
        have p5 := c5
        try simp only [CN] at p5
        have hbf : ¬ lb l k = true := fun h => by rw [← lb_at hkl, show _ = false from c5] at h; cases h
        refine WC.skip (h9_ _ ?_)
        refine WC.region ?_
        refine RG.op _ _ rfl rfl (o_add rfl rfl (by first | omega | exact ubyte _ | (simp only [LS] <;> omega)) (by first | omega | exact ubyte _ | (simp only [LS] <;> omega))) ?_
        refine RG.op _ _ rfl rfl (o_move (.v _) rfl) ?_
        refine RG.nil (Exists.intro (k + 1) ⟨by first | omega | (simp only [LS] <;> omega), by first | omega | (simp only [LS] <;> omega), ?_⟩)
        exact .mk' ⟨⟨rfl, .v _⟩, trivial⟩ (by repeat (first | with_reducible exact same_refl _ _ | with_reducible refine same_updO (by with_unfolding_all exact rfl) ?_ | with_reducible refine same_updN ?_ | with_reducible refine same_updL (by with_unfolding_all exact rfl) ?_ | with_reducible refine same_forget (by with_unfolding_all exact rfl) ?_)) (congrArg (fun c => [c]) (tb_eq rfl (by rw [qbits_same hbf]))) (by repeat (first | exact trivial | refine And.intro (Nat.le_refl _) ?_ | refine And.intro trivial ?_ | refine And.intro (by show _ ≤ _; (first | omega | (simp only [LS] <;> omega))) ?_)) (by repeat (first | exact trivial | refine And.intro (one_ok (.own _ _ _ _ _ (Nat.le_refl _))) ?_ | refine And.intro (okp (by repeat (first | exact pu_bytes _ | exact pu_nil | exact pu_vs rfl | exact pu_map (fun _ => .v _) _ | exact pu_vals _ | refine pu_app ?_ ?_ | refine pu_cons (by exact pu_of rfl) ?_))) ?_))
    ·
      have p3 := c3
      try simp only [CN] at p3
      refine WC.exit (h3_ _ ?_)
      refine WC.seq fun Fh12_ h12_ => ?_
      refine WC.region ?_
      refine RG.op _ _ rfl rfl (o_move (.own _ _ _ _ _) rfl) ?_
      refine RG.op _ _ rfl rfl (o_assign (.own _ _ _ _ _) rfl) ?_
      refine RG.nil (h12_ _ ?_)
      refine WC.ret ?_
      exact Ends.r1 rfl (.tmp _ (.own _ _ _ _ _) rfl) (.tb rfl (by repeat (first | exact pu_bytes _ | exact pu_nil | exact pu_vs rfl | exact pu_map (fun _ => .v _) _ | exact pu_vals _ | refine pu_app ?_ ?_ | refine pu_cons (by exact pu_of rfl) ?_))) (by have e : k = l.length := (by omega); subst e; exact rd_eq (bitsM_len l).symm rfl)
set_option maxHeartbeats 4000000 in
theorem rbits_c (l : List Bool) (hl : l.length ≤ 1099511627776) : Fun Try.prog 26 [rdO l] (· = rdB (bitsM l)) := by
  refine Fun.of Try.func26 rfl (Nat.le_of_ble_eq_true rfl) fun C => ?_
  refine WC.seq fun Fh1_ h1_ => ?_
  refine WC.region ?_
  refine RG.op _ _ rfl rfl (o_assign (.v _) rfl) ?_
  refine RG.nil (h1_ _ ?_)
  refine WC.seq fun Fh2_ h2_ => ?_
  refine WC.region ?_
  refine RG.op _ _ rfl rfl (o_nil 5 1) ?_
  refine RG.nil (h2_ _ ?_)
  refine WC.seq fun Fh3_ h3_ => ?_
  refine WC.seq fun Fh4_ h4_ => ?_
  refine WC.region ?_
  refine RG.op _ _ rfl rfl (o_assign (.v _) rfl) ?_
  refine RG.nil (h4_ _ ?_)
  refine WC.block ?_
  refine WC.loopU [3, 4, 5, 6, 7, 8, 9, 10, 11, 12, 13, 14, 15, 16, 17, 18, 19, 20, 21, 22, 23, 24, 25, 26, 27, 28, 29, 30, 31, 32, 33] (fun (k : Nat) => [(4, I64 ((k : Nat) : Int)), (3, ow 0 ((k + 7) / 8) 1)]) (fun (k : Nat) => [(0, tb 5 ((k + 7) / 8) (bytesD (qbits (lb l) k ((k + 7) / 8))))]) (fun (k : Nat) => k ≤ l.length) (fun (k : Nat) => l.length - k) 0 (by first | omega | exact ubyte _ | (simp only [LS] <;> omega)) ?lpa5_ ?lpb6_
  case lpa5_ =>
    exact .mk' ⟨⟨rfl, .v _⟩, ⟨rfl, (by first | exact .own _ _ _ _ _ (Nat.le_refl _) | exact .ptr _ _ _ (Nat.le_refl _) | exact .omp _ _ (Nat.le_refl _))⟩, trivial⟩ (same_refl _ _) (rfl) (by repeat (first | exact trivial | refine And.intro (Nat.le_refl _) ?_ | refine And.intro trivial ?_ | refine And.intro (by show _ ≤ _; (first | omega | (simp only [LS] <;> omega))) ?_)) (by repeat (first | exact trivial | refine And.intro (one_ok (.own _ _ _ _ _ (Nat.le_refl _))) ?_ | refine And.intro (okp (by repeat (first | exact pu_bytes _ | exact pu_nil | exact pu_vs rfl | exact pu_map (fun _ => .v _) _ | exact pu_vals _ | refine pu_app ?_ ?_ | refine pu_cons (by exact pu_of rfl) ?_))) ?_))
  case lpb6_ =>
    rintro k hI
    have h7 : (qbits (lb l) k ((k + 7) / 8)).length = (k + 7) / 8 := qbits_len _ _ _
    refine WC.seq fun Fh7_ h7_ => ?_
    refine WC.seq fun Fh8_ h8_ => ?_
    refine WC.region ?_
    refine RG.op _ _ rfl rfl (o_move (.v _) rfl) ?_
    refine RG.op _ _ rfl rfl (o_move (.rd _ _) rfl) ?_
    refine RG.op _ _ rfl rfl (o_len_rd rfl Try.underlying55) ?_
    refine RG.op _ _ rfl rfl (o_ltI rfl rfl) ?_
    refine RG.nil (h8_ _ ?_)
    refine WC.cond _ rfl (fun c3 => ?_) (fun c3 => ?_)
    ·
      have p3 := c3
      try simp only [CN] at p3
      have hkl : k < l.length := by omega
      refine WC.skip (h7_ _ ?_)
      refine WC.seq fun Fh9_ h9_ => ?_
      refine WC.block ?_
      refine WC.joinU [3, 11, 12, 13, 14, 15, 16] (fun (u : Unit) => [(4, I64 ((k : Nat) : Int)), (3, ow 0 (k / 8 + 1) 1)]) (fun (u : Unit) => [(0, tb 5 (k / 8 + 1) (bytesD (qbits (lb l) k (k / 8 + 1))))]) (fun (u : Unit) => True) ?_ ?_
      ·
        refine WC.seq fun Fh10_ h10_ => ?_
        refine WC.region ?_
        refine RG.op _ _ rfl rfl (o_move (.v _) rfl) ?_
        refine RG.op _ _ rfl rfl (o_rem rfl rfl (by first | omega | exact ubyte _ | (simp only [LS] <;> omega)) (by first | omega | exact ubyte _ | (simp only [LS] <;> omega))) ?_
        refine RG.op _ _ rfl rfl (o_eqI rfl rfl) ?_
        refine RG.nil (h10_ _ ?_)
        refine WC.cond _ rfl (fun c5 => ?_) (fun c5 => ?_)
        ·
          have p5 := c5
          try simp only [CN] at p5
          have p5 : (k : Int) % 8 = 0 := p5
          refine WC.region ?_
          refine RG.op _ _ rfl rfl (o_move (.own _ _ _ _ _) rfl) ?_
          refine RG.op _ _ rfl rfl (o_litP (cs := [(B8 0)]) Try.underlying24 Ty.inf5 rfl rfl rfl rfl (by repeat (first | exact pu_bytes _ | exact pu_nil | exact pu_vs rfl | exact pu_map (fun _ => .v _) _ | exact pu_vals _ | refine pu_app ?_ ?_ | refine pu_cons (by exact pu_of rfl) ?_))) ?_
          refine RG.op _ _ rfl rfl (o_appT (Elem.of Try.underlying24 Ty.inf5 rfl (by decide)) rfl rfl rfl (by first | omega | exact ubyte _ | (simp only [LS] <;> omega)) (by first | omega | exact ubyte _ | (simp only [LS] <;> omega)) (by repeat (first | exact bytesD_one _ | exact one_nil | exact one_map (fun _ => rfl) _ | exact one_vals _ | refine one_app ?_ ?_ | refine one_cons rfl ?_)) (by first | omega | exact ubyte _ | (simp only [LS] <;> omega)) (by first | omega | exact ubyte _ | (simp only [LS] <;> omega))) ?_
          refine RG.op _ _ rfl rfl (o_assign (.own _ _ _ _ _) rfl) ?_
          refine RG.nil (Exists.intro (()) ⟨by first | omega | (simp only [LS] <;> omega), ?_⟩)
          exact .mk' ⟨⟨rfl, .v _⟩, ⟨ow_eq (by omega), (by first | exact .own _ _ _ _ _ (Nat.le_refl _) | exact .ptr _ _ _ (Nat.le_refl _) | exact .omp _ _ (Nat.le_refl _))⟩, trivial⟩ (by repeat (first | with_reducible exact same_refl _ _ | with_reducible refine same_updO (by with_unfolding_all exact rfl) ?_ | with_reducible refine same_updN ?_ | with_reducible refine same_updL (by with_unfolding_all exact rfl) ?_ | with_reducible refine same_forget (by with_unfolding_all exact rfl) ?_)) (congrArg (fun c => [c]) (tb_eq (by omega) (qbits_new (by omega)))) (by repeat (first | exact trivial | refine And.intro (Nat.le_refl _) ?_ | refine And.intro trivial ?_ | refine And.intro (by show _ ≤ _; (first | omega | (simp only [LS] <;> omega))) ?_)) (by repeat (first | exact trivial | refine And.intro (one_ok (.own _ _ _ _ _ (Nat.le_refl _))) ?_ | refine And.intro (okp (by repeat (first | exact pu_bytes _ | exact pu_nil | exact pu_vs rfl | exact pu_map (fun _ => .v _) _ | exact pu_vals _ | refine pu_app ?_ ?_ | refine pu_cons (by exact pu_of rfl) ?_))) ?_))
        ·
          have p5 := c5
          try simp only [CN] at p5
          have p5 : ¬ (k : Int) % 8 = 0 := p5
          refine WC.skip (Exists.intro (()) ⟨by first | omega | (simp only [LS] <;> omega), ?_⟩)
          exact .mk' ⟨⟨rfl, .v _⟩, ⟨ow_eq (by omega), (by first | exact .own _ _ _ _ _ (Nat.le_refl _) | exact .ptr _ _ _ (Nat.le_refl _) | exact .omp _ _ (Nat.le_refl _))⟩, trivial⟩ (by repeat (first | with_reducible exact same_refl _ _ | with_reducible refine same_updO (by with_unfolding_all exact rfl) ?_ | with_reducible refine same_updN ?_ | with_reducible refine same_updL (by with_unfolding_all exact rfl) ?_ | with_reducible refine same_forget (by with_unfolding_all exact rfl) ?_)) (congrArg (fun c => [c]) (tb_eq (by omega) (by rw [show (k + 7) / 8 = k / 8 + 1 by omega]))) (by repeat (first | exact trivial | refine And.intro (Nat.le_refl _) ?_ | refine And.intro trivial ?_ | refine And.intro (by show _ ≤ _; (first | omega | (simp only [LS] <;> omega))) ?_)) (by repeat (first | exact trivial | refine And.intro (one_ok (.own _ _ _ _ _ (Nat.le_refl _))) ?_ | refine And.intro (okp (by repeat (first | exact pu_bytes _ | exact pu_nil | exact pu_vs rfl | exact pu_map (fun _ => .v _) _ | exact pu_vals _ | refine pu_app ?_ ?_ | refine pu_cons (by exact pu_of rfl) ?_))) ?_))
      ·
        rintro u hI
        have h8 : (qbits (lb l) k (k / 8 + 1)).length = k / 8 + 1 := qbits_len _ _ _
        refine WC.seq fun Fh11_ h11_ => ?_
        refine WC.region ?_
        refine RG.op _ _ rfl rfl (o_move (.rd _ _) rfl) ?_
        refine RG.op _ _ rfl rfl (o_move (.v _) rfl) ?_
        refine RG.op _ _ rfl rfl (o_ixn_M k rfl rfl Try.underlying55 (sz_of Ty.inf4) (by first | omega | exact ubyte _ | (simp only [LS] <;> omega)) (by first | omega | exact ubyte _ | (simp only [LS] <;> omega))) ?_
        refine RG.op _ _ rfl rfl (o_load_adr rfl Try.underlying4 rfl rfl) ?_
        refine RG.nil (h11_ _ ?_)
        refine WC.cond _ rfl (fun c7 => ?_) (fun c7 => ?_)
        ·
          have p7 := c7
          try simp only [CN] at p7
          have hbt : lb l k = true := (lb_at hkl).symm.trans c7
          refine WC.drawn2 (by kernel_rfl) ?_
          refine PG.op _ rfl rfl rfl (fun _ _ => o_move (.own _ _ _ _ _) rfl) ?_
          refine PG.op _ rfl rfl rfl (fun _ _ => o_move (.v _) rfl) ?_
          refine PG.op _ rfl rfl rfl (fun _ _ => o_quo rfl rfl (by first | omega | exact ubyte _ | (simp only [LS] <;> omega)) (by first | omega | exact ubyte _ | (simp only [LS] <;> omega)) (by first | omega | exact ubyte _ | (simp only [LS] <;> omega))) ?_
          refine PG.op _ rfl rfl rfl (fun _ _ => o_move (.own _ _ _ _ _) rfl) ?_
          refine PG.op _ rfl rfl rfl (fun _ _ => o_move (.v _) rfl) ?_
          refine PG.op _ rfl rfl rfl (fun _ _ => o_quo rfl rfl (by first | omega | exact ubyte _ | (simp only [LS] <;> omega)) (by first | omega | exact ubyte _ | (simp only [LS] <;> omega)) (by first | omega | exact ubyte _ | (simp only [LS] <;> omega))) ?_
          refine PG.op _ rfl rfl rfl (fun _ _ => o_ixn_own (k / 8) rfl rfl Try.underlying24 (sz_of Ty.inf5) (by omega) (by omega)) ?_
          refine PG.opm _ _ rfl rfl rfl (o_load_ptr (d := B8 (UInt8.ofNat (qb (lb l) k (k / 8) 8))) rfl Try.underlying5 rfl rfl rfl (qbits_get1 (by omega))) ?_
          refine PG.op _ rfl rfl rfl (fun _ _ => o_move (.v _) rfl) ?_
          refine PG.op _ rfl rfl rfl (fun _ _ => (o_rem (b := 8) rfl rfl (by omega) (by omega)).cast (congrArg I64 (show (k : Int) % 8 = ((k % 8 : Nat) : Int) by omega))) ?_
          refine PG.op _ rfl rfl rfl (fun _ _ => o_shl1I (n := k % 8) rfl rfl (by omega)) ?_
          refine PG.op _ rfl rfl rfl (fun _ _ => o_addB rfl rfl) ?_
          refine PG.op _ rfl rfl rfl (fun _ _ => o_ixn_own (k / 8) rfl rfl Try.underlying24 (sz_of Ty.inf5) (by omega) (by omega)) ?_
          refine PG.opm _ _ rfl rfl rfl (o_store (d := .v _) rfl rfl rfl rfl (sz_of Ty.inf5) (by show 0 + k / 8 * 1 + 1 ≤ (bytesD _).length; rw [bytesD_len]; omega) rfl) ?_
          refine PG.nil ⟨by kernel_rfl, trivial, (h9_ _ ?_)⟩
          refine WC.region ?_
          refine RG.op _ _ rfl rfl (o_move (.v _) rfl) ?_
          refine RG.op _ _ rfl rfl (o_add rfl rfl (by first | omega | exact ubyte _ | (simp only [LS] <;> omega)) (by first | omega | exact ubyte _ | (simp only [LS] <;> omega))) ?_
          refine RG.op _ _ rfl rfl (o_assign (.v _) rfl) ?_
          refine RG.nil (Exists.intro (k + 1) ⟨by first | omega | (simp only [LS] <;> omega), by first | omega | (simp only [LS] <;> omega), ?_⟩)
          exact .mk' ⟨⟨rfl, .v _⟩, ⟨ow_eq (by omega), (by first | exact .own _ _ _ _ _ (Nat.le_refl _) | exact .ptr _ _ _ (Nat.le_refl _) | exact .omp _ _ (Nat.le_refl _))⟩, trivial⟩ (by repeat (first | with_reducible exact same_refl _ _ | with_reducible refine same_updO (by with_unfolding_all exact rfl) ?_ | with_reducible refine same_updN ?_ | with_reducible refine same_updL (by with_unfolding_all exact rfl) ?_ | with_reducible refine same_forget (by with_unfolding_all exact rfl) ?_)) (congrArg (fun c => [c]) (tb_eq (show k / 8 + 1 = (k + 1 + 7) / 8 by omega) (by rw [show (k + 1 + 7) / 8 = k / 8 + 1 by omega]; exact qbits_put1 hbt (by omega) add_bit))) (by repeat (first | exact trivial | refine And.intro (Nat.le_refl _) ?_ | refine And.intro trivial ?_ | refine And.intro (by show _ ≤ _; (first | omega | (simp only [LS] <;> omega))) ?_)) (by repeat (first | exact trivial | refine And.intro (one_ok (.own _ _ _ _ _ (Nat.le_refl _))) ?_ | refine And.intro (okp (by repeat (first | exact pu_bytes _ | exact pu_nil | exact pu_vs rfl | exact pu_map (fun _ => .v _) _ | exact pu_vals _ | refine pu_app ?_ ?_ | refine pu_cons (by exact pu_of rfl) ?_))) ?_))
        ·
          have p7 := c7
          try simp only [CN] at p7
          have hbf : ¬ lb l k = true := fun h => by rw [← lb_at hkl, show _ = false from c7] at h; cases h
          refine WC.skip (h9_ _ ?_)
          refine WC.region ?_
          refine RG.op _ _ rfl rfl (o_move (.v _) rfl) ?_
          refine RG.op _ _ rfl rfl (o_add rfl rfl (by first | omega | exact ubyte _ | (simp only [LS] <;> omega)) (by first | omega | exact ubyte _ | (simp only [LS] <;> omega))) ?_
          refine RG.op _ _ rfl rfl (o_assign (.v _) rfl) ?_
          refine RG.nil (Exists.intro (k + 1) ⟨by first | omega | (simp only [LS] <;> omega), by first | omega | (simp only [LS] <;> omega), ?_⟩)
          exact .mk' ⟨⟨rfl, .v _⟩, ⟨ow_eq (by omega), (by first | exact .own _ _ _ _ _ (Nat.le_refl _) | exact .ptr _ _ _ (Nat.le_refl _) | exact .omp _ _ (Nat.le_refl _))⟩, trivial⟩ (by repeat (first | with_reducible exact same_refl _ _ | with_reducible refine same_updO (by with_unfolding_all exact rfl) ?_ | with_reducible refine same_updN ?_ | with_reducible refine same_updL (by with_unfolding_all exact rfl) ?_ | with_reducible refine same_forget (by with_unfolding_all exact rfl) ?_)) (congrArg (fun c => [c]) (tb_eq (by omega) (by rw [show (k + 1 + 7) / 8 = k / 8 + 1 by omega, qbits_same hbf]))) (by repeat (first | exact trivial | refine And.intro (Nat.le_refl _) ?_ | refine And.intro trivial ?_ | refine And.intro (by show _ ≤ _; (first | omega | (simp only [LS] <;> omega))) ?_)) (by repeat (first | exact trivial | refine And.intro (one_ok (.own _ _ _ _ _ (Nat.le_refl _))) ?_ | refine And.intro (okp (by repeat (first | exact pu_bytes _ | exact pu_nil | exact pu_vs rfl | exact pu_map (fun _ => .v _) _ | exact pu_vals _ | refine pu_app ?_ ?_ | refine pu_cons (by exact pu_of rfl) ?_))) ?_))
    ·
      have p3 := c3
      try simp only [CN] at p3
      refine WC.exit (h3_ _ ?_)
      refine WC.seq fun Fh12_ h12_ => ?_
      refine WC.region ?_
      refine RG.op _ _ rfl rfl (o_move (.own _ _ _ _ _) rfl) ?_
      refine RG.op _ _ rfl rfl (o_assign (.own _ _ _ _ _) rfl) ?_
      refine RG.nil (h12_ _ ?_)
      refine WC.ret ?_
      exact Ends.r1 rfl (.tmp _ (.own _ _ _ _ _) rfl) (.tb rfl (by repeat (first | exact pu_bytes _ | exact pu_nil | exact pu_vs rfl | exact pu_map (fun _ => .v _) _ | exact pu_vals _ | refine pu_app ?_ ?_ | refine pu_cons (by exact pu_of rfl) ?_))) (by have e : k = l.length := (by omega); subst e; exact rd_eq (bitsM_len l).symm rfl)
end Go.Proofs.Ytpdjcfhmdeeikaa
namespace Go.Proofs.Ytpdjcfhmdeeikaa
open Go.RowKit Go.DL

theorem spl_mid {α : Type} {A B C E : List α} {o : Nat} (ho : o = A.length) (h : E.length = B.length) : spl (A ++ B ++ C) o E = A ++ E ++ C := by
  subst ho
  unfold spl
  rw [List.append_assoc A B C, List.take_left, h, ← List.append_assoc, show A.length + B.length = (A ++ B).length by simp, List.drop_left]
theorem zs1 {zv c : Value} (hz : zv.cells.toList = [c]) : ∀ n : Nat, (zeros zv (n * 1) 1).map D.v = List.replicate n (D.v c)
  | 0 => by simp [zeros]
  | n + 1 => by
    have ih := zs1 hz n
    unfold zeros at *
    rw [hz] at *
    rw [show (n + 1) * 1 = n * 1 + 1 by omega, List.range_succ, List.replicate_succ', ← ih]
    simp only [List.map_append, List.map_cons, List.map_nil]
    rw [Nat.mod_one]; rfl
theorem fill1 {α : Type} {g : α → D} {pre : List α} {k n : Nat} {z v : α} (h : k < n) (hl : pre.length = k) : spl ((pre ++ List.replicate (n - k) z).map g) (0 + k * 1) [g v] = ((pre ++ [v]) ++ List.replicate (n - (k + 1)) z).map g := by
  rw [show n - k = (n - (k + 1)) + 1 by omega, List.replicate_succ]
  have e : (pre ++ z :: List.replicate (n - (k + 1)) z).map g = pre.map g ++ [g z] ++ (List.replicate (n - (k + 1)) z).map g := by simp
  rw [e, spl_mid (B := [g z]) (E := [g v]) (by rw [List.length_map]; omega) rfl]; simp
def bitsOf (b : List UInt8) (n : Nat) : List Bool := (List.range n).map (bitAt b)
theorem bitsOf_len (b : List UInt8) (n : Nat) : (bitsOf b n).length = n := by simp [bitsOf]
theorem bitsOf_succ (b : List UInt8) (n : Nat) : bitsOf b (n + 1) = bitsOf b n ++ [bitAt b n] := by unfold bitsOf; rw [List.range_succ, List.map_append]; rfl
def padB (b : List UInt8) (n : Nat) : Bool := rall (8 * ((n + 7) / 8) - n) fun j => !bitAt b (n + j)
def getB (b : List UInt8) (n : Nat) : List Bool × Nat × Nat := if b.length < (n + 7) / 8 then ([], 0, 20) else if padB b n = false then ([], 0, 21) else (bitsOf b n, (n + 7) / 8, 0)
theorem getB_short {b : List UInt8} {n : Nat} (h : b.length < (n + 7) / 8) : getB b n = ([], 0, 20) := by unfold getB; rw [if_pos h]
theorem getB_pad {b : List UInt8} {n k : Nat} (h : ¬ b.length < (n + 7) / 8) (hk : n ≤ k) (hk2 : k < 8 * ((n + 7) / 8)) (h2 : bitAt b k = true) : getB b n = ([], 0, 21) := by
  have h3 : padB b n = false := rall_stop (k := k - n) (by omega) (by show (!bitAt b (n + (k - n))) = false; rw [show n + (k - n) = k by omega, h2]; rfl)
  unfold getB
  rw [if_neg h, if_pos h3]
theorem getB_ok {b : List UInt8} {n : Nat} (h : ¬ b.length < (n + 7) / 8) (hp : padB b n = true) : getB b n = (bitsOf b n, (n + 7) / 8, 0) := by
  unfold getB
  rw [if_neg h, if_neg (by rw [hp]; decide)]
theorem pad_step {b : List UInt8} {n k : Nat} (hk : n ≤ k) (h : rall (k - n) (fun j => !bitAt b (n + j)) = true) (h2 : bitAt b k = false) : rall (k + 1 - n) (fun j => !bitAt b (n + j)) = true := by
  rw [show k + 1 - n = (k - n) + 1 by omega]
  exact rall_succ h (by show (!bitAt b (n + (k - n))) = true; rw [show n + (k - n) = k by omega, h2]; rfl)
abbrev OB (r : List Bool × Nat × Nat) : D := .tup [rdO r.1, I64 r.2.1, I64 r.2.2]
set_option maxHeartbeats 4000000 in
theorem bit1_c (b : List UInt8) (i : Nat) (hi : i / 8 < b.length) (hb : b.length ≤ 10995116277760) : Fun Try.prog 48 [I64 ((i : Nat) : Int), .adr [rdB b]] (· = Bo (bitAt b i)) := by
  refine Fun.of Try.func48 rfl (Nat.le_of_ble_eq_true rfl) fun C => ?_
  refine WC.seq fun Fh1_ h1_ => ?_
  refine WC.region ?_
  refine RG.op _ _ rfl rfl (o_assign (.v _) rfl) ?_
  refine RG.nil (h1_ _ ?_)
  refine WC.seq fun Fh2_ h2_ => ?_
  refine WC.region ?_
  refine RG.op _ _ rfl rfl (o_load_adr rfl Try.underlying24 rfl rfl) ?_
  refine RG.op _ _ rfl rfl (o_move (.v _) rfl) ?_
  refine RG.op _ _ rfl rfl (o_quo rfl rfl (by first | omega | exact ubyte _ | (simp only [LS] <;> omega)) (by first | omega | exact ubyte _ | (simp only [LS] <;> omega)) (by first | omega | exact ubyte _ | (simp only [LS] <;> omega))) ?_
  refine RG.op _ _ rfl rfl (o_ixn_M (i / 8) rfl rfl Try.underlying24 (sz_of Ty.inf5) (by first | omega | exact ubyte _ | (simp only [LS] <;> omega)) (by first | omega | exact ubyte _ | (simp only [LS] <;> omega))) ?_
  refine RG.op _ _ rfl rfl (o_load_adr rfl Try.underlying5 rfl rfl) ?_
  refine RG.op _ _ rfl rfl (o_move (.v _) rfl) ?_
  refine RG.op _ _ rfl rfl ((o_rem (b := 8) rfl rfl (by omega) (by omega)).cast (congrArg I64 (show (i : Int) % 8 = ((i % 8 : Nat) : Int) by omega))) ?_
  refine RG.op _ _ rfl rfl ((o_i64toU rfl Try.underlying3 Try.underlying66).cast (congrArg N64 (show (((i % 8 : Nat) : Int) % 18446744073709551616).toNat = i % 8 by omega))) ?_
  refine RG.op _ _ rfl rfl (o_shr8 (x := (b[i / 8]).toBitVec) (i % 8) rfl rfl (by omega)) ?_
  refine RG.op _ _ rfl rfl ((o_and8 (y := 1#8) rfl rfl).cast (and1B _ _)) ?_
  refine RG.op _ _ rfl rfl (o_eqB (b := 1) rfl rfl) ?_
  refine RG.op _ _ rfl rfl (o_assign (.v _) rfl) ?_
  refine RG.nil (h2_ _ ?_)
  refine WC.ret ?_
  exact Ends.r1 rfl (.tmp _ (.v _) rfl) (.v _) (by rw [show bitAt b i = decide ((b[i / 8]).toBitVec.toNat / 2 ^ (i % 8) % 2 = 1) by unfold bitAt; rw [gd_at hi]; rfl]; exact congrArg Bo (bit1 (by omega)))
set_option maxHeartbeats 4000000 in
theorem getbits_c (b : List UInt8) (n : Nat) (hb : b.length ≤ 10995116277760) (hn : n ≤ 1099511627776) : Fun Try.prog 29 [rdB b, I64 ((n : Nat) : Int)] (· = OB (getB b n)) := by
  refine Fun.of Try.func29 rfl (Nat.le_of_ble_eq_true rfl) fun C => ?_
  refine WC.seq fun Fh1_ h1_ => ?_
  refine WC.region ?_
  refine RG.op _ _ rfl rfl (o_box (d := .rd _ _) rfl rfl) ?_
  refine RG.op _ _ rfl rfl (o_assign (.v _) rfl) ?_
  refine RG.op _ _ rfl rfl (o_assign (.v _) rfl) ?_
  refine RG.op _ _ rfl rfl (o_assign (.v _) rfl) ?_
  refine RG.nil (h1_ _ ?_)
  refine WC.seq fun Fh2_ h2_ => ?_
  refine WC.frz 0 _ [(2, .adr [rdB b])] rfl (by repeat (first | exact pu_bytes _ | exact pu_nil | exact pu_vs rfl | exact pu_map (fun _ => .v _) _ | exact pu_vals _ | refine pu_app ?_ ?_ | refine pu_cons (by exact pu_of rfl) ?_)) ⟨.ptr 0, trivial⟩ ?_
  refine WC.region ?_
  refine RG.op _ _ rfl rfl (o_move (.v _) rfl) ?_
  refine RG.op _ _ rfl rfl (o_add rfl rfl (by first | omega | exact ubyte _ | (simp only [LS] <;> omega)) (by first | omega | exact ubyte _ | (simp only [LS] <;> omega))) ?_
  refine RG.op _ _ rfl rfl (o_quo rfl rfl (by first | omega | exact ubyte _ | (simp only [LS] <;> omega)) (by first | omega | exact ubyte _ | (simp only [LS] <;> omega)) (by first | omega | exact ubyte _ | (simp only [LS] <;> omega))) ?_
  refine RG.op _ _ rfl rfl (o_assign (.v _) rfl) ?_
  refine RG.nil (h2_ _ ?_)
  refine WC.seq fun Fh3_ h3_ => ?_
  refine WC.seq fun Fh4_ h4_ => ?_
  refine WC.region ?_
  refine RG.op _ _ rfl rfl (o_load_adr rfl Try.underlying24 rfl rfl) ?_
  refine RG.op _ _ rfl rfl (o_len_rd rfl Try.underlying24) ?_
  refine RG.op _ _ rfl rfl (o_move (.v _) rfl) ?_
  refine RG.op _ _ rfl rfl (o_ltI rfl rfl) ?_
  refine RG.nil (h4_ _ ?_)
  refine WC.cond _ rfl (fun c2 => ?_) (fun c2 => ?_)
  ·
    have p2 := c2
    try simp only [CN] at p2
    refine WC.seq fun Fh5_ h5_ => ?_
    refine WC.region ?_
    refine RG.op _ _ rfl rfl (o_assign (.v _) rfl) ?_
    refine RG.op _ _ rfl rfl (o_assign (.v _) rfl) ?_
    refine RG.op _ _ rfl rfl (o_assign (.v _) rfl) ?_
    refine RG.nil (h5_ _ ?_)
    refine WC.ret ?_
    exact Ends.r3 rfl (.tmp _ (.v _) rfl) (.tmp _ (.v _) rfl) (.tmp _ (.v _) rfl) .nilr (.v _) (.v _) (by rw [getB_short (by omega)]; rfl)
  ·
    have p2 := c2
    try simp only [CN] at p2
    have hsh : ¬ b.length < (n + 7) / 8 := by omega
    refine WC.skip (h3_ _ ?_)
    refine WC.seq fun Fh6_ h6_ => ?_
    refine WC.region ?_
    refine RG.op _ _ rfl rfl (o_makeFunc) ?_
    refine RG.op _ _ rfl rfl (o_assign (.fn _ _) rfl) ?_
    refine RG.nil (h6_ _ ?_)
    refine WC.seq fun Fh7_ h7_ => ?_
    refine WC.seq fun Fh8_ h8_ => ?_
    refine WC.region ?_
    refine RG.op _ _ rfl rfl (o_move (.v _) rfl) ?_
    refine RG.op _ _ rfl rfl (o_assign (.v _) rfl) ?_
    refine RG.nil (h8_ _ ?_)
    refine WC.block ?_
    refine WC.loopU [4, 5, 6, 9, 21, 22, 23, 24, 25, 26, 27, 28, 29] (fun (k : Nat) => [(9, I64 ((k : Nat) : Int))]) (fun (k : Nat) => []) (fun (k : Nat) => n ≤ k ∧ k ≤ 8 * ((n + 7) / 8) ∧ rall (k - n) (fun j => !bitAt b (n + j)) = true) (fun (k : Nat) => 8 * ((n + 7) / 8) - k) n ⟨Nat.le_refl _, by omega, by rw [Nat.sub_self]; rfl⟩ ?lpa9_ ?lpb10_
    case lpa9_ =>
      exact .mk' ⟨⟨rfl, .v _⟩, trivial⟩ (same_refl _ _) (rfl) (by repeat (first | exact trivial | refine And.intro (Nat.le_refl _) ?_ | refine And.intro trivial ?_ | refine And.intro (by show _ ≤ _; (first | omega | (simp only [LS] <;> omega))) ?_)) (by repeat (first | exact trivial | refine And.intro (one_ok (.own _ _ _ _ _ (Nat.le_refl _))) ?_ | refine And.intro (okp (by repeat (first | exact pu_bytes _ | exact pu_nil | exact pu_vs rfl | exact pu_map (fun _ => .v _) _ | exact pu_vals _ | refine pu_app ?_ ?_ | refine pu_cons (by exact pu_of rfl) ?_))) ?_))
    case lpb10_ =>
      rintro k hI
      have hk1 := hI.1
      have hk2 := hI.2.1
      have hk3 := hI.2.2
      refine WC.seq fun Fh11_ h11_ => ?_
      refine WC.seq fun Fh12_ h12_ => ?_
      refine WC.region ?_
      refine RG.op _ _ rfl rfl (o_move (.v _) rfl) ?_
      refine RG.op _ _ rfl rfl (o_move (.v _) rfl) ?_
      refine RG.op _ _ rfl rfl (o_mul rfl rfl (by first | omega | exact ubyte _ | (simp only [LS] <;> omega)) (by first | omega | exact ubyte _ | (simp only [LS] <;> omega))) ?_
      refine RG.op _ _ rfl rfl (o_ltI rfl rfl) ?_
      refine RG.nil (h12_ _ ?_)
      refine WC.cond _ rfl (fun c6 => ?_) (fun c6 => ?_)
      ·
        have p6 := c6
        try simp only [CN] at p6
        have hk4 : k < 8 * ((n + 7) / 8) := by omega
        refine WC.skip (h11_ _ ?_)
        refine WC.seq fun Fh13_ h13_ => ?_
        refine WC.block ?_
        refine WC.seq fun Fh14_ h14_ => ?_
        refine WC.region ?_
        refine RG.op _ _ rfl rfl (o_move (.fn _ _) rfl) ?_
        refine RG.op _ _ rfl rfl (o_move (.v _) rfl) ?_
        refine RG.op _ _ rfl rfl (o_callV (ds := [I64 (k : Nat)]) (cs := [.adr [rdB b]]) (.inl rfl) Ty.cal48 (bit1_c b k (by omega) (by omega)) ⟨.inl rfl, trivial⟩ (by exact pua rfl)) ?_
        refine RG.nil (h14_ _ ?_)
        refine WC.cond _ rfl (fun c8 => ?_) (fun c8 => ?_)
        ·
          have p8 := c8
          try simp only [CN] at p8
          refine WC.seq fun Fh15_ h15_ => ?_
          refine WC.region ?_
          refine RG.op _ _ rfl rfl (o_assign (.v _) rfl) ?_
          refine RG.op _ _ rfl rfl (o_assign (.v _) rfl) ?_
          refine RG.op _ _ rfl rfl (o_assign (.v _) rfl) ?_
          refine RG.nil (h15_ _ ?_)
          refine WC.ret ?_
          exact Ends.r3 rfl (.tmp _ (.v _) rfl) (.tmp _ (.v _) rfl) (.tmp _ (.v _) rfl) .nilr (.v _) (.v _) (by rw [getB_pad hsh hk1 hk4 p8]; rfl)
        ·
          have p8 := c8
          try simp only [CN] at p8
          refine WC.skip (h13_ _ ?_)
          refine WC.region ?_
          refine RG.op _ _ rfl rfl (o_move (.v _) rfl) ?_
          refine RG.op _ _ rfl rfl (o_add rfl rfl (by first | omega | exact ubyte _ | (simp only [LS] <;> omega)) (by first | omega | exact ubyte _ | (simp only [LS] <;> omega))) ?_
          refine RG.op _ _ rfl rfl (o_assign (.v _) rfl) ?_
          refine RG.nil (Exists.intro (k + 1) ⟨⟨by omega, by omega, pad_step hk1 hk3 p8⟩, by first | omega | (simp only [LS] <;> omega), ?_⟩)
          exact .mk' ⟨⟨rfl, .v _⟩, trivial⟩ (by repeat (first | with_reducible exact same_refl _ _ | with_reducible refine same_updO (by with_unfolding_all exact rfl) ?_ | with_reducible refine same_updN ?_ | with_reducible refine same_updL (by with_unfolding_all exact rfl) ?_ | with_reducible refine same_forget (by with_unfolding_all exact rfl) ?_)) (rfl) (by repeat (first | exact trivial | refine And.intro (Nat.le_refl _) ?_ | refine And.intro trivial ?_ | refine And.intro (by show _ ≤ _; (first | omega | (simp only [LS] <;> omega))) ?_)) (by repeat (first | exact trivial | refine And.intro (one_ok (.own _ _ _ _ _ (Nat.le_refl _))) ?_ | refine And.intro (okp (by repeat (first | exact pu_bytes _ | exact pu_nil | exact pu_vs rfl | exact pu_map (fun _ => .v _) _ | exact pu_vals _ | refine pu_app ?_ ?_ | refine pu_cons (by exact pu_of rfl) ?_))) ?_))
      ·
        have p6 := c6
        try simp only [CN] at p6
        have hpad : padB b n = true := by have e : k = 8 * ((n + 7) / 8) := (by omega); rw [e] at hk3; exact hk3
        refine WC.exit (h7_ _ ?_)
        refine WC.seq fun Fh16_ h16_ => ?_
        refine WC.region ?_
        refine RG.op _ _ rfl rfl (o_move (.v _) rfl) ?_
        refine RG.op _ _ rfl rfl (o_makeT n n n rfl rfl Try.underlying55 Ty.inf4 rfl rfl (by omega) (by omega) (by omega) (by omega) (by omega)) ?_
        refine RG.op _ _ rfl rfl (o_assign (.own _ _ _ _ _) rfl) ?_
        refine RG.nil (h16_ _ ?_)
        refine WC.seq fun Fh17_ h17_ => ?_
        refine WC.seq fun Fh18_ h18_ => ?_
        refine WC.region ?_
        refine RG.op _ _ rfl rfl (o_move (.own _ _ _ _ _) rfl) ?_
        refine RG.op _ _ rfl rfl (o_len_own rfl Try.underlying55) ?_
        refine RG.op _ _ rfl rfl (o_move (.v _) rfl) ?_
        refine RG.nil (h18_ _ ?_)
        refine WC.block ?_
        refine WC.loopU [11, 34, 35, 36, 37, 38, 39, 40, 41, 42, 43] (fun (j : Nat) => [(34, I64 ((j : Nat) : Int))]) (fun (j : Nat) => [(1, tb 4 n ((bitsOf b j ++ List.replicate (n - j) false).map Bo))]) (fun (j : Nat) => j ≤ n) (fun (j : Nat) => n - j) 0 (by first | omega | exact ubyte _ | (simp only [LS] <;> omega)) ?lpa19_ ?lpb20_
        case lpa19_ =>
          exact .mk' ⟨⟨rfl, .v _⟩, trivial⟩ (same_refl _ _) (congrArg (fun c => [none, c]) (tb_eq rfl ((zs1 rfl n).trans (by simp [bitsOf])))) (by repeat (first | exact trivial | refine And.intro (Nat.le_refl _) ?_ | refine And.intro trivial ?_ | refine And.intro (by show _ ≤ _; (first | omega | (simp only [LS] <;> omega))) ?_)) (by repeat (first | exact trivial | refine And.intro (one_ok (.own _ _ _ _ _ (Nat.le_refl _))) ?_ | refine And.intro (okp (by repeat (first | exact pu_bytes _ | exact pu_nil | exact pu_vs rfl | exact pu_map (fun _ => .v _) _ | exact pu_vals _ | refine pu_app ?_ ?_ | refine pu_cons (by exact pu_of rfl) ?_))) ?_))
        case lpb20_ =>
          rintro j hI
          refine WC.seq fun Fh21_ h21_ => ?_
          refine WC.region ?_
          refine RG.op _ _ rfl rfl (o_ltI rfl rfl) ?_
          refine RG.nil (h21_ _ ?_)
          refine WC.seq fun Fh22_ h22_ => ?_
          refine WC.cond _ rfl (fun c12 => ?_) (fun c12 => ?_)
          ·
            have p12 := c12
            try simp only [CN] at p12
            have hjn : j < n := by omega
            refine WC.skip (h22_ _ ?_)
            refine WC.seq fun Fh23_ h23_ => ?_
            refine WC.block ?_
            refine WC.seq fun Fh24_ h24_ => ?_
            refine WC.region ?_
            refine RG.op _ _ rfl rfl (o_move (.v _) rfl) ?_
            refine RG.op _ _ rfl rfl (o_assign (.v _) rfl) ?_
            refine RG.nil (h24_ _ ?_)
            refine WC.region ?_
            refine RG.op _ _ rfl rfl (o_move (.own _ _ _ _ _) rfl) ?_
            refine RG.op _ _ rfl rfl (o_move (.v _) rfl) ?_
            refine RG.op _ _ rfl rfl (o_move (.fn _ _) rfl) ?_
            refine RG.op _ _ rfl rfl (o_move (.v _) rfl) ?_
            refine RG.op _ _ rfl rfl (o_callV (ds := [I64 (j : Nat)]) (cs := [.adr [rdB b]]) (.inl rfl) Ty.cal48 (bit1_c b j (by omega) (by omega)) ⟨.inl rfl, trivial⟩ (by exact pua rfl)) ?_
            refine RG.op _ _ rfl rfl (o_ixn_own j rfl rfl Try.underlying55 (sz_of Ty.inf4) (by omega) (by omega)) ?_
            refine RG.op _ _ rfl rfl (o_store (d := .v _) rfl rfl rfl rfl (sz_of Ty.inf4) (by show 0 + j * 1 + 1 ≤ (List.map Bo _).length; rw [List.length_map, List.length_append, List.length_replicate, bitsOf_len]; omega) rfl) ?_
            refine RG.nil (h23_ _ ?_)
            refine WC.region ?_
            refine RG.op _ _ rfl rfl (o_add rfl rfl (by first | omega | exact ubyte _ | (simp only [LS] <;> omega)) (by first | omega | exact ubyte _ | (simp only [LS] <;> omega))) ?_
            refine RG.op _ _ rfl rfl (o_move (.v _) rfl) ?_
            refine RG.nil (Exists.intro (j + 1) ⟨by first | omega | (simp only [LS] <;> omega), by first | omega | (simp only [LS] <;> omega), ?_⟩)
            exact .mk' ⟨⟨rfl, .v _⟩, trivial⟩ (by repeat (first | with_reducible exact same_refl _ _ | with_reducible refine same_updO (by with_unfolding_all exact rfl) ?_ | with_reducible refine same_updN ?_ | with_reducible refine same_updL (by with_unfolding_all exact rfl) ?_ | with_reducible refine same_forget (by with_unfolding_all exact rfl) ?_)) (congrArg (fun c => [none, c]) (tb_eq rfl (by rw [bitsOf_succ]; exact fill1 hjn (bitsOf_len b j)))) (by repeat (first | exact trivial | refine And.intro (Nat.le_refl _) ?_ | refine And.intro trivial ?_ | refine And.intro (by show _ ≤ _; (first | omega | (simp only [LS] <;> omega))) ?_)) (by repeat (first | exact trivial | refine And.intro (one_ok (.own _ _ _ _ _ (Nat.le_refl _))) ?_ | refine And.intro (okp (by repeat (first | exact pu_bytes _ | exact pu_nil | exact pu_vs rfl | exact pu_map (fun _ => .v _) _ | exact pu_vals _ | refine pu_app ?_ ?_ | refine pu_cons (by exact pu_of rfl) ?_))) ?_))
          ·
            have p12 := c12
            try simp only [CN] at p12
            refine WC.exit (h17_ _ ?_)
            refine WC.seq fun Fh25_ h25_ => ?_
            refine WC.region ?_
            refine RG.op _ _ rfl rfl (o_move (.own _ _ _ _ _) rfl) ?_
            refine RG.op _ _ rfl rfl (o_move (.v _) rfl) ?_
            refine RG.op _ _ rfl rfl (o_assign (.own _ _ _ _ _) rfl) ?_
            refine RG.op _ _ rfl rfl (o_assign (.v _) rfl) ?_
            refine RG.op _ _ rfl rfl (o_assign (.v _) rfl) ?_
            refine RG.nil (h25_ _ ?_)
            refine WC.ret ?_
            exact Ends.r3 rfl (.tmp _ (.own _ _ _ _ _) rfl) (.tmp _ (.v _) rfl) (.tmp _ (.v _) rfl) (.tb rfl (by repeat (first | exact pu_bytes _ | exact pu_nil | exact pu_vs rfl | exact pu_map (fun _ => .v _) _ | exact pu_vals _ | refine pu_app ?_ ?_ | refine pu_cons (by exact pu_of rfl) ?_))) (.v _) (.v _) (by rw [getB_ok hsh hpad]; have e : j = n := (by omega); subst e; exact congrArg (fun c => D.tup [c, _, I64 0]) (rd_eq (bitsOf_len b j).symm (by simp)))
set_option maxHeartbeats 4000000 in
theorem rgetbits_c (b : List UInt8) (n : Nat) (hb : b.length ≤ 10995116277760) (hn : n ≤ 1099511627776) : Fun Try.prog 30 [rdB b, I64 ((n : Nat) : Int)] (· = OB (getB b n)) := by
  refine Fun.of Try.func30 rfl (Nat.le_of_ble_eq_true rfl) fun C => ?_
  refine WC.seq fun Fh1_ h1_ => ?_
  refine WC.region ?_
  refine RG.op _ _ rfl rfl (o_assign (.v _) rfl) ?_
  refine RG.op _ _ rfl rfl (o_assign (.v _) rfl) ?_
  refine RG.op _ _ rfl rfl (o_assign (.v _) rfl) ?_
  refine RG.nil (h1_ _ ?_)
  refine WC.seq fun Fh2_ h2_ => ?_
  refine WC.region ?_
  refine RG.op _ _ rfl rfl (o_move (.v _) rfl) ?_
  refine RG.op _ _ rfl rfl (o_add rfl rfl (by first | omega | exact ubyte _ | (simp only [LS] <;> omega)) (by first | omega | exact ubyte _ | (simp only [LS] <;> omega))) ?_
  refine RG.op _ _ rfl rfl (o_quo rfl rfl (by first | omega | exact ubyte _ | (simp only [LS] <;> omega)) (by first | omega | exact ubyte _ | (simp only [LS] <;> omega)) (by first | omega | exact ubyte _ | (simp only [LS] <;> omega))) ?_
  refine RG.op _ _ rfl rfl (o_assign (.v _) rfl) ?_
  refine RG.nil (h2_ _ ?_)
  refine WC.seq fun Fh3_ h3_ => ?_
  refine WC.seq fun Fh4_ h4_ => ?_
  refine WC.region ?_
  refine RG.op _ _ rfl rfl (o_move (.rd _ _) rfl) ?_
  refine RG.op _ _ rfl rfl (o_len_rd rfl Try.underlying24) ?_
  refine RG.op _ _ rfl rfl (o_move (.v _) rfl) ?_
  refine RG.op _ _ rfl rfl (o_ltI rfl rfl) ?_
  refine RG.nil (h4_ _ ?_)
  refine WC.cond _ rfl (fun c2 => ?_) (fun c2 => ?_)
  ·
    have p2 := c2
    try simp only [CN] at p2
    refine WC.seq fun Fh5_ h5_ => ?_
    refine WC.region ?_
    refine RG.op _ _ rfl rfl (o_assign (.v _) rfl) ?_
    refine RG.op _ _ rfl rfl (o_assign (.v _) rfl) ?_
    refine RG.op _ _ rfl rfl (o_assign (.v _) rfl) ?_
    refine RG.nil (h5_ _ ?_)
    refine WC.ret ?_
    exact Ends.r3 rfl (.tmp _ (.v _) rfl) (.tmp _ (.v _) rfl) (.tmp _ (.v _) rfl) .nilr (.v _) (.v _) (by rw [getB_short (by omega)]; rfl)
  ·
    have p2 := c2
    try simp only [CN] at p2
    have hsh : ¬ b.length < (n + 7) / 8 := by omega
    refine WC.skip (h3_ _ ?_)
    refine WC.seq fun Fh6_ h6_ => ?_
    refine WC.region ?_
    refine RG.op _ _ rfl rfl (o_nil 4 1) ?_
    refine RG.nil (h6_ _ ?_)
    refine WC.seq fun Fh7_ h7_ => ?_
    refine WC.seq fun Fh8_ h8_ => ?_
    refine WC.region ?_
    refine RG.op _ _ rfl rfl (o_assign (.v _) rfl) ?_
    refine RG.nil (h8_ _ ?_)
    refine WC.block ?_
    refine WC.loopU [4, 5, 6, 8, 9, 10, 18, 19, 20, 21, 22, 23, 24, 25, 26, 27, 28, 29, 30, 31, 32, 33, 34, 35, 36, 37, 38, 39, 40, 41, 42, 43, 44, 45, 46] (fun (k : Nat) => [(9, I64 ((k : Nat) : Int)), (8, ow 0 (min k n) 1)]) (fun (k : Nat) => [(0, tb 4 (min k n) ((bitsOf b (min k n)).map Bo))]) (fun (k : Nat) => k ≤ 8 * ((n + 7) / 8) ∧ rall (k - n) (fun j => !bitAt b (n + j)) = true) (fun (k : Nat) => 8 * ((n + 7) / 8) - k) 0 ⟨Nat.zero_le _, by rw [Nat.zero_sub]; rfl⟩ ?lpa9_ ?lpb10_
    case lpa9_ =>
      exact .mk' ⟨⟨rfl, .v _⟩, ⟨ow_eq (by omega), (by first | exact .own _ _ _ _ _ (Nat.le_refl _) | exact .ptr _ _ _ (Nat.le_refl _) | exact .omp _ _ (Nat.le_refl _))⟩, trivial⟩ (same_refl _ _) (congrArg (fun c => [c]) (tb_eq (by omega) (by rw [Nat.zero_min]; rfl))) (by repeat (first | exact trivial | refine And.intro (Nat.le_refl _) ?_ | refine And.intro trivial ?_ | refine And.intro (by show _ ≤ _; (first | omega | (simp only [LS] <;> omega))) ?_)) (by repeat (first | exact trivial | refine And.intro (one_ok (.own _ _ _ _ _ (Nat.le_refl _))) ?_ | refine And.intro (okp (by repeat (first | exact pu_bytes _ | exact pu_nil | exact pu_vs rfl | exact pu_map (fun _ => .v _) _ | exact pu_vals _ | refine pu_app ?_ ?_ | refine pu_cons (by exact pu_of rfl) ?_))) ?_))
    case lpb10_ =>
      rintro k hI
      have hk2 := hI.1
      have hk3 := hI.2
      have hbl := bitsOf_len b (min k n)
      refine WC.seq fun Fh11_ h11_ => ?_
      refine WC.seq fun Fh12_ h12_ => ?_
      refine WC.region ?_
      refine RG.op _ _ rfl rfl (o_move (.v _) rfl) ?_
      refine RG.op _ _ rfl rfl (o_move (.v _) rfl) ?_
      refine RG.op _ _ rfl rfl (o_mul rfl rfl (by first | omega | exact ubyte _ | (simp only [LS] <;> omega)) (by first | omega | exact ubyte _ | (simp only [LS] <;> omega))) ?_
      refine RG.op _ _ rfl rfl (o_ltI rfl rfl) ?_
      refine RG.nil (h12_ _ ?_)
      refine WC.cond _ rfl (fun c6 => ?_) (fun c6 => ?_)
      ·
        have p6 := c6
        try simp only [CN] at p6
        have hk4 : k < 8 * ((n + 7) / 8) := by omega
        have hkb : k / 8 < b.length := by omega
        have hbit := bit_is hkb
        refine WC.skip (h11_ _ ?_)
        refine WC.seq fun Fh13_ h13_ => ?_
        refine WC.block ?_
        refine WC.seq fun Fh14_ h14_ => ?_
        refine WC.region ?_
        refine RG.op _ _ rfl rfl (o_move (.rd _ _) rfl) ?_
        refine RG.op _ _ rfl rfl (o_move (.v _) rfl) ?_
        refine RG.op _ _ rfl rfl (o_quo rfl rfl (by first | omega | exact ubyte _ | (simp only [LS] <;> omega)) (by first | omega | exact ubyte _ | (simp only [LS] <;> omega)) (by first | omega | exact ubyte _ | (simp only [LS] <;> omega))) ?_
        refine RG.op _ _ rfl rfl (o_ixn_M (k / 8) rfl rfl Try.underlying24 (sz_of Ty.inf5) (by first | omega | exact ubyte _ | (simp only [LS] <;> omega)) (by first | omega | exact ubyte _ | (simp only [LS] <;> omega))) ?_
        refine RG.op _ _ rfl rfl (o_load_adr rfl Try.underlying5 rfl rfl) ?_
        refine RG.op _ _ rfl rfl (o_move (.v _) rfl) ?_
        refine RG.op _ _ rfl rfl ((o_rem (b := 8) rfl rfl (by omega) (by omega)).cast (congrArg I64 (show (k : Int) % 8 = ((k % 8 : Nat) : Int) by omega))) ?_
        refine RG.op _ _ rfl rfl (o_shrN (k := .u8) (a := (b[k / 8]).toNat) (n := k % 8) rfl rfl (show k % 8 ≤ 8 by omega)) ?_
        refine RG.op _ _ rfl rfl ((o_rem (k := .u8) (a := (((b[k / 8]).toNat / 2 ^ (k % 8) : Nat) : Int)) (b := 2) rfl rfl (Int.natCast_nonneg _) (by omega)).cast (bit8 _)) ?_
        refine RG.op _ _ rfl rfl (o_eqB (b := 1) rfl rfl) ?_
        refine RG.op _ _ rfl rfl (o_assign (.v _) rfl) ?_
        refine RG.nil (h14_ _ ?_)
        refine WC.seq fun Fh15_ h15_ => ?_
        refine WC.seq fun Fh16_ h16_ => ?_
        refine WC.region ?_
        refine RG.op _ _ rfl rfl (o_move (.v _) rfl) ?_
        refine RG.op _ _ rfl rfl (o_move (.v _) rfl) ?_
        refine RG.op _ _ rfl rfl (o_geI rfl rfl) ?_
        refine RG.op _ _ rfl rfl (o_move (.v _) rfl) ?_
        refine RG.opg1 _ _ _ _ _ rfl rfl rfl rfl rfl (fun hb => o_move (.v _) rfl) ?_
        refine RG.op _ _ rfl rfl (o_and _ _ rfl rfl rfl) ?_
        refine RG.nil (h16_ _ ?_)
        refine WC.cond _ rfl (fun c9 => ?_) (fun c9 => ?_)
        ·
          have p9 := c9
          try simp only [CN] at p9
          refine WC.seq fun Fh17_ h17_ => ?_
          refine WC.region ?_
          refine RG.op _ _ rfl rfl (o_assign (.v _) rfl) ?_
          refine RG.op _ _ rfl rfl (o_assign (.v _) rfl) ?_
          refine RG.op _ _ rfl rfl (o_assign (.v _) rfl) ?_
          refine RG.nil (h17_ _ ?_)
          refine WC.ret ?_
          exact Ends.r3 rfl (.tmp _ (.v _) rfl) (.tmp _ (.v _) rfl) (.tmp _ (.v _) rfl) .nilr (.v _) (.v _) (by rw [getB_pad hsh (by omega) hk4 (hbit.trans (beq_iff_eq.2 p9.2))]; rfl)
        ·
          have p9 := c9
          try simp only [CN] at p9
          have hfalse : n ≤ k → bitAt b k = false := fun h => by rcases p9 with h2 | h2; omega; exact hbit.trans (beq_eq_false_iff_ne.2 h2)
          refine WC.skip (h15_ _ ?_)
          refine WC.seq fun Fh18_ h18_ => ?_
          refine WC.region ?_
          refine RG.op _ _ rfl rfl (o_move (.v _) rfl) ?_
          refine RG.op _ _ rfl rfl (o_move (.v _) rfl) ?_
          refine RG.op _ _ rfl rfl (o_ltI rfl rfl) ?_
          refine RG.nil (h18_ _ ?_)
          refine WC.cond _ rfl (fun c11 => ?_) (fun c11 => ?_)
          ·
            have p11 := c11
            try simp only [CN] at p11
            refine WC.region ?_
            refine RG.op _ _ rfl rfl (o_move (.own _ _ _ _ _) rfl) ?_
            refine RG.op _ _ rfl rfl (o_move (.v _) rfl) ?_
            refine RG.op _ _ rfl rfl (o_litP (cs := [(.v _)]) Try.underlying55 Ty.inf4 rfl rfl rfl rfl (by repeat (first | exact pu_bytes _ | exact pu_nil | exact pu_vs rfl | exact pu_map (fun _ => .v _) _ | exact pu_vals _ | refine pu_app ?_ ?_ | refine pu_cons (by exact pu_of rfl) ?_))) ?_
            refine RG.op _ _ rfl rfl (o_appT (Elem.of Try.underlying55 Ty.inf4 rfl (by decide)) rfl rfl rfl (by first | omega | exact ubyte _ | (simp only [LS] <;> omega)) (by first | omega | exact ubyte _ | (simp only [LS] <;> omega)) (by repeat (first | exact bytesD_one _ | exact one_nil | exact one_map (fun _ => rfl) _ | exact one_vals _ | refine one_app ?_ ?_ | refine one_cons rfl ?_)) (by first | omega | exact ubyte _ | (simp only [LS] <;> omega)) (by first | omega | exact ubyte _ | (simp only [LS] <;> omega))) ?_
            refine RG.op _ _ rfl rfl (o_assign (.own _ _ _ _ _) rfl) ?_
            refine RG.nil (h13_ _ ?_)
            refine WC.region ?_
            refine RG.op _ _ rfl rfl (o_move (.v _) rfl) ?_
            refine RG.op _ _ rfl rfl (o_add rfl rfl (by first | omega | exact ubyte _ | (simp only [LS] <;> omega)) (by first | omega | exact ubyte _ | (simp only [LS] <;> omega))) ?_
            refine RG.op _ _ rfl rfl (o_assign (.v _) rfl) ?_
            refine RG.nil (Exists.intro (k + 1) ⟨⟨by omega, by rcases Nat.lt_or_ge k n with h | h; (rw [show k + 1 - n = 0 by omega]; rfl); exact pad_step h hk3 (hfalse h)⟩, by first | omega | (simp only [LS] <;> omega), ?_⟩)
            exact .mk' ⟨⟨rfl, .v _⟩, ⟨ow_eq (by omega), (by first | exact .own _ _ _ _ _ (Nat.le_refl _) | exact .ptr _ _ _ (Nat.le_refl _) | exact .omp _ _ (Nat.le_refl _))⟩, trivial⟩ (by repeat (first | with_reducible exact same_refl _ _ | with_reducible refine same_updO (by with_unfolding_all exact rfl) ?_ | with_reducible refine same_updN ?_ | with_reducible refine same_updL (by with_unfolding_all exact rfl) ?_ | with_reducible refine same_forget (by with_unfolding_all exact rfl) ?_)) (congrArg (fun c => [c]) (tb_eq (by omega) (by rw [show min k n = k by omega, show min (k + 1) n = k + 1 by omega, bitsOf_succ, ← hbit]; simp))) (by repeat (first | exact trivial | refine And.intro (Nat.le_refl _) ?_ | refine And.intro trivial ?_ | refine And.intro (by show _ ≤ _; (first | omega | (simp only [LS] <;> omega))) ?_)) (by repeat (first | exact trivial | refine And.intro (one_ok (.own _ _ _ _ _ (Nat.le_refl _))) ?_ | refine And.intro (okp (by repeat (first | exact pu_bytes _ | exact pu_nil | exact pu_vs rfl | exact pu_map (fun _ => .v _) _ | exact pu_vals _ | refine pu_app ?_ ?_ | refine pu_cons (by exact pu_of rfl) ?_))) ?_))
          ·
            have p11 := c11
            try simp only [CN] at p11
            refine WC.skip (h13_ _ ?_)
            refine WC.region ?_
            refine RG.op _ _ rfl rfl (o_move (.v _) rfl) ?_
            refine RG.op _ _ rfl rfl (o_add rfl rfl (by first | omega | exact ubyte _ | (simp only [LS] <;> omega)) (by first | omega | exact ubyte _ | (simp only [LS] <;> omega))) ?_
            refine RG.op _ _ rfl rfl (o_assign (.v _) rfl) ?_
            refine RG.nil (Exists.intro (k + 1) ⟨⟨by omega, by rcases Nat.lt_or_ge k n with h | h; (rw [show k + 1 - n = 0 by omega]; rfl); exact pad_step h hk3 (hfalse h)⟩, by first | omega | (simp only [LS] <;> omega), ?_⟩)
            exact .mk' ⟨⟨rfl, .v _⟩, ⟨ow_eq (by omega), (by first | exact .own _ _ _ _ _ (Nat.le_refl _) | exact .ptr _ _ _ (Nat.le_refl _) | exact .omp _ _ (Nat.le_refl _))⟩, trivial⟩ (by repeat (first | with_reducible exact same_refl _ _ | with_reducible refine same_updO (by with_unfolding_all exact rfl) ?_ | with_reducible refine same_updN ?_ | with_reducible refine same_updL (by with_unfolding_all exact rfl) ?_ | with_reducible refine same_forget (by with_unfolding_all exact rfl) ?_)) (congrArg (fun c => [c]) (tb_eq (by omega) (by rw [show min k n = n by omega, show min (k + 1) n = n by omega]))) (by repeat (first | exact trivial | refine And.intro (Nat.le_refl _) ?_ | refine And.intro trivial ?_ | refine And.intro (by show _ ≤ _; (first | omega | (simp only [LS] <;> omega))) ?_)) (by repeat (first | exact trivial | refine And.intro (one_ok (.own _ _ _ _ _ (Nat.le_refl _))) ?_ | refine And.intro (okp (by repeat (first | exact pu_bytes _ | exact pu_nil | exact pu_vs rfl | exact pu_map (fun _ => .v _) _ | exact pu_vals _ | refine pu_app ?_ ?_ | refine pu_cons (by exact pu_of rfl) ?_))) ?_))
      ·
        have p6 := c6
        try simp only [CN] at p6
        have hpad : padB b n = true := by have e : k = 8 * ((n + 7) / 8) := (by omega); rw [e] at hk3; exact hk3
        refine WC.exit (h7_ _ ?_)
        refine WC.seq fun Fh19_ h19_ => ?_
        refine WC.region ?_
        refine RG.op _ _ rfl rfl (o_move (.own _ _ _ _ _) rfl) ?_
        refine RG.op _ _ rfl rfl (o_move (.v _) rfl) ?_
        refine RG.op _ _ rfl rfl (o_assign (.own _ _ _ _ _) rfl) ?_
        refine RG.op _ _ rfl rfl (o_assign (.v _) rfl) ?_
        refine RG.op _ _ rfl rfl (o_assign (.v _) rfl) ?_
        refine RG.nil (h19_ _ ?_)
        refine WC.ret ?_
        exact Ends.r3 rfl (.tmp _ (.own _ _ _ _ _) rfl) (.tmp _ (.v _) rfl) (.tmp _ (.v _) rfl) (.tb rfl (by repeat (first | exact pu_bytes _ | exact pu_nil | exact pu_vs rfl | exact pu_map (fun _ => .v _) _ | exact pu_vals _ | refine pu_app ?_ ?_ | refine pu_cons (by exact pu_of rfl) ?_))) (.v _) (.v _) (by rw [getB_ok hsh hpad]; have e : min k n = n := (by omega); rw [e]; exact congrArg (fun c => D.tup [c, _, I64 0]) (rd_eq (bitsOf_len b n).symm rfl))
end Go.Proofs.Ytpdjcfhmdeeikaa
namespace Go.DL
open Go.RowKit

/-- A round of the loop l whose record is r, on yield's arguments. -/
def RoundT (P : Program) (l : Nat) (r : Loop) (as_ : Array Value) (w : World) (R : Ending → World → Prop) : Prop :=
  RoundIn (FW none) 0 P l r.fn ((r.params.zip as_).foldl (fun tmps (t, a) => tmps.setIfInBounds t a) r.tmps) r.assign r.body w R
theorem round_FW {r1 r2 : Option Nat} {n m : Nat} {P : Program} {l : Nat} {f : FuncId} {tmps : Array Value} {assign body : Code} {w : World} {R : Ending → World → Prop} (h : RoundIn (FW r1) n P l f tmps assign body w R) : RoundIn (FW r2) m P l f tmps assign body w R :=
  ⟨trivial, fun c cs _ => let ⟨e, w', hr, s⟩ := h.2 c cs (room_FW _ _); ⟨e, w', hr, comes_FW (ComesIn.comes s)⟩⟩
theorem RoundT.mono {P : Program} {l : Nat} {r : Loop} {as_ : Array Value} {w : World} {R R' : Ending → World → Prop} (h : RoundT P l r as_ w R) (hr : ∀ e w, R e w → R' e w) : RoundT P l r as_ w R' := RoundIn.mono h hr
/-- How a call ends, by data. -/
def Post (K : Mem) (β : Nat → Nat → BT) (H : Heap) (w : World) (R : DOut → Heap → Prop) (e : Ending) (w' : World) : Prop :=
  ∃ v d K' β' H', Ext (given K β H w) K β H K' β' H' ∧ WS (given K β H w) K' β' H' w' ∧ DR K' β' true v d ∧ OkD H' d ∧ ((e = .returned v ∧ R (.ret d) H') ∨ (e = .panicked [{ v, recovered := false }] ∧ R (.pan d) H'))
section
variable {P : Program} {C : Ctx} {env : Nat → D} {H : Heap} {dst : Option Nat} {ty : TypeId} {pos : String} {after : Array Edge} {gu : Option (Nat × Bool)} {X : Operand}
/-- yield called: a round. -/
theorem x_yield {as_ : List Operand} {ats : Array TypeId} {ds : List D} {R : DOut → Heap → Prop} {l : Nat} {r : Loop} (hX : ev env X = .v (.func (.yield l) #[] #[])) (hW : C.W.heap[l]? = some (.loop r)) (hB : l < C.B) (hG : ¬ C.G l) (hn : as_.length = r.params.size) (he : ArgsAre env as_ ds)
    (hy : ∀ (K : Mem) (β : Nat → Nat → BT) (w : World) (vs : List Value), WS C K β H w → vs.length = ds.length → (∀ (j : Nat) v d, vs[j]? = some v → ds[j]? = some d → DR K β true v d) → (∀ d ∈ ds, OkD H d) → RoundT P l r vs.toArray w (Post K β H w R)) :
    OpX P C ⟨dst, .call { callee := .value X, args := as_.toArray, argTypes := ats }, ty, pos, after, gu⟩ env H R := by
  refine ⟨fun K β a w Kc Q hw hx hk hr hp => ?_⟩
  have hmX : X ∈ (Op.call { callee := .value X, args := as_.toArray, argTypes := ats }).operands := by simp [Op.operands, Call.operands]
  have hmem : ∀ x ∈ as_, x ∈ (Op.call { callee := .value X, args := as_.toArray, argTypes := ats }).operands := fun x h => by simp [Op.operands, Call.operands, h]
  have hXv : a.eval X = .func (.yield l) #[] #[] := by have h := hx X hmX; rw [hX] at h; exact h.v_inv
  have hh : w.heap[l]? = some (.loop r) := (hw.below.block l hB hG).trans hW
  have hrun : (execOp a.eval ⟨dst, .call { callee := .value X, args := as_.toArray, argTypes := ats }, ty, pos, after, gu⟩).run P w = (Instr.yield l (as_.map a.eval).toArray).run P w := by
    simp [execOp, resolve, hXv, Deferred.ofValue, invoke]
  rw [run_yield hh (by simp [hn])] at hrun
  obtain ⟨h1, h2, h3⟩ := args_rd (H := H) he (fun x h => hx x (hmem x h)) fun x h => hk x (hmem x h)
  refine ⟨fun _ _ => trivial, ?_⟩
  rw [Oper.semAt_eq _ _ _ (fun c h => by cases h), hrun]
  refine ⟨fun e => by simp [FW] at e, round_FW ((hy K β w (as_.map a.eval) hw h1 h2 h3).mono fun e w'' ⟨v, d, K', β', H', k1, k2, k3, k4, k5⟩ => ?_)⟩
  replace k1 := Ext.up hw k1
  replace k2 := hw.back k2
  rcases k5 with ⟨rfl, k5⟩ | ⟨rfl, k5⟩
  · exact hr _ _ _ _ _ _ k5 k1 k2 k3 k4
  · exact hp _ _ _ _ _ _ k5 k1 k2 k3 k4
end
/-! ### A round, out of its body's walk -/
def updPs (env : Nat → D) : List Nat → List D → (Nat → D)
  | p :: ps, d :: ds => updPs (upd env p d) ps ds
  | _, _ => env
theorem params_rd {K : Mem} {β : Nat → Nat → BT} : ∀ (ps : List Nat) (vs : List Value) (ds : List D) (tmps : Array Value) (env : Nat → D), vs.length = ds.length → (∀ p ∈ ps, p < tmps.size) → (∀ (j : Nat) v d, vs[j]? = some v → ds[j]? = some d → DR K β true v d) → (∀ t, DR K β true (tmps.getD t undef) (env t)) →
    (∀ t, DR K β true (((ps.zip vs).foldl (fun (tmps : Array Value) (x : Nat × Value) => tmps.setIfInBounds x.1 x.2) tmps).getD t undef) (updPs env ps ds t)) ∧ ((ps.zip vs).foldl (fun (tmps : Array Value) (x : Nat × Value) => tmps.setIfInBounds x.1 x.2) tmps).size = tmps.size
  | [], _, _, _, _, _, _, _, hr => ⟨by simpa [updPs] using hr, by simp⟩
  | p :: ps, [], [], _, _, _, _, _, hr => ⟨by simpa [updPs] using hr, by simp⟩
  | p :: ps, v :: vs, d :: ds, tmps, env, hl, hp, hv, hr => by
    have hk := hp p (by simp)
    have ih := params_rd ps vs ds (tmps.setIfInBounds p v) (upd env p d) (by simpa using hl) (fun q hq => by rw [Array.size_setIfInBounds]; exact hp q (by simp [hq])) (fun j x y hx hy => hv (j + 1) x y hx hy) fun t => by
      by_cases e : t = p
      · subst e
        rw [upd_at, Array.getD_eq_getD_getElem?, Array.getElem?_setIfInBounds_self_of_lt hk]
        exact hv 0 v d rfl rfl
      · rw [upd_ne _ _ e, Array.getD_eq_getD_getElem?, Array.getElem?_setIfInBounds_ne (Ne.symm e), ← Array.getD_eq_getD_getElem?]
        exact hr t
    exact ⟨ih.1, by rw [List.zip_cons_cons, List.foldl_cons]; exact ih.2.trans (by simp)⟩
  | _ :: _, _ :: _, [], _, _, hl, _, _, _ => by simp at hl
  | _ :: _, [], _ :: _, _, _, hl, _, _, _ => by simp at hl
theorem params_ok {H : Heap} : ∀ (ps : List Nat) (ds : List D) (env : Nat → D), (∀ d ∈ ds, OkD H d) → (∀ t, OkD H (env t)) → ∀ t, OkD H (updPs env ps ds t)
  | [], _, _, _, h, t => by simpa [updPs] using h t
  | _ :: _, [], _, _, h, t => by simpa [updPs] using h t
  | p :: ps, d :: ds, env, hd, h, t => params_ok ps ds (upd env p d) (fun x hx => hd x (by simp [hx])) (fun t => by
      by_cases e : t = p
      · subst e; rw [upd_at]; exact hd d (by simp)
      · rw [upd_ne _ _ e]; exact h t) t
/-- A body's end: off its end; the blocks that are kept are H'. -/
def bodyEnd (H' : Heap) (x : DX) (s : St) : Prop := x = .normal ∧ s.H.take H'.length = H' ∧ OkH H' H'
theorem round_of {P : Program} {C : Ctx} {N : Nat} {s : St} {K0 : Mem} {β0 : Nat → Nat → BT} {a : Act} {w0 : World} (h0 : SR C N K0 β0 s a w0) {l : Nat} {r : Loop} (hr : r.state = .ready ∧ r.pending = none ∧ r.tmps = a.tmps) {H H' : Heap} (hle : HLe s.H H) (hl' : H.length ≤ H'.length) {ds : List D} (hp : ∀ p ∈ r.params.toList, p < N)
    {K : Mem} {β : Nat → Nat → BT} {w : World} {vs : List Value} (hK0 : Mem.le K0 K) (hKl : K l = some (.loop r)) (hag : Agr s.H β0 β) (hws : WS (given K β H w) K β H w) (hl : vs.length = ds.length) (hv : ∀ (j : Nat) v d, vs[j]? = some v → ds[j]? = some d → DR K β true v d) (ho : ∀ d ∈ ds, OkD H d)
    (hb : ∀ C', WC P C' N r.assign ⟨updPs s.env r.params.toList ds, H⟩ (thenQ (fun s1 => ∀ C'', WC P C'' N r.body s1 (bodyEnd H')) fun _ _ => False)) :
    RoundT P l r vs.toArray w (Post K β H w fun o H'' => o = .ret (.v (.bool true)) ∧ H'' = H') := by
  have hh : w.heap[l]? = some (.loop r) := hws.holds l _ hKl
  have hlB : l < w.heap.size := hws.klt hKl
  have hng : ¬ gives β H l := fun ⟨id, b, hb', hrl, e⟩ => by
    have := hws.apart id b hb' hrl
    rw [e, hKl] at this; cases this
  have hin : inert (.loop r) := inert_loop r
  let C1 : Ctx := ⟨w.heap.size, w, gives β H, some l, H, β, K.del l⟩
  have hdl : ∀ b c, (K.del l) b = some c → K b = some c ∧ b ≠ l := fun b c hb' => by
    unfold Mem.del at hb'
    by_cases e : b = l
    · rw [if_pos e] at hb'; cases hb'
    · rw [if_neg e] at hb'; exact ⟨hb', e⟩
  have hw1 : WS C1 (K.del l) β H w := ⟨fun b c hb' => hws.holds b c (hdl b c hb').1, fun id b hb' => (hws.blk id b hb').drop hKl hin, hws.ok, hws.inj, fun id b hb' hrl => by
      unfold Mem.del
      split
      · rfl
      · exact hws.apart id b hb' hrl, fun id b hb' hrl => .inr ⟨id, b, hb', hrl, rfl⟩, Nat.le_refl _, Bel.start _, Agr.refl _ _, HLe.refl _, Mem.le.refl _⟩
  have hfold : (r.params.zip vs.toArray).foldl (fun tmps (t, a) => tmps.setIfInBounds t a) r.tmps = (r.params.toList.zip vs).foldl (fun (tmps : Array Value) (x : Nat × Value) => tmps.setIfInBounds x.1 x.2) a.tmps := by
    rw [hr.2.2, ← Array.foldl_toList, Array.toList_zip]
  obtain ⟨hrd, hsz⟩ := params_rd (K := K.del l) (β := β) r.params.toList vs ds a.tmps s.env hl (fun p hp' => by rw [h0.size]; exact hp p hp') (fun j v d h1 h2 => (hv j v d h1 h2).drop hKl hin) fun t => ((h0.rd t).mono hK0 (fun _ => h0.ok t) hag).drop hKl hin
  have hs1 : SR C1 N (K.del l) β ⟨updPs s.env r.params.toList ds, H⟩ ⟨(r.params.zip vs.toArray).foldl (fun tmps (t, a) => tmps.setIfInBounds t a) r.tmps, []⟩ w :=
    ⟨hw1, by rw [hfold]; exact hsz.trans h0.size, trivial, fun t => by rw [hfold]; exact hrd t, params_ok _ _ _ ho fun t => (h0.ok t).mono hle⟩
  unfold RoundT
  refine roundIn_of_wpIn (F := FW none) trivial ?_
  show r.assign.wpIn (FW C1.rd) 0 P _ _ w
  refine wpIn_mono (hb C1 _ _ _ _ hs1) fun e a1 w1 hA => ?_
  cases e with
  | normal =>
    obtain ⟨K1, β1, s1, hX1, hs1', hbody⟩ := hA.normal
    have hl1 : w1.heap[l]? = some (.loop r) := (hs1'.ws.below.block l hlB hng).trans hh
    have hK1l : K1 l = none := by
      cases e : K1 l with
      | none => rfl
      | some o =>
        rcases hX1.kx.new l o e with h1 | h1 | h1
        · exact absurd rfl (hdl l o h1).2
        · exact absurd hlB (Nat.not_lt.2 h1)
        · exact absurd h1 hng
    refine ⟨_, run_beginRound hl1 hr.1, ?_⟩
    have hlt1 : l < w1.heap.size := (Array.getElem?_eq_some_iff.1 hl1).1
    let w2 := w1.putObj l (.loop { r with state := .busy })
    let C2 : Ctx := { C1 with W := w2 }
    have hne : ∀ {β' : Nat → Nat → BT} {K' : Mem} {H'' : Heap} {w' : World} (h : WS C2 K' β' H'' w') {id : Nat} {b : Blk}, H''[id]? = some (some b) → (β' id b.ver).real = true → (β' id b.ver).blk ≠ l := fun {β' K' H'' w'} h {id b} hb' hrl e => by
      rcases h.base id b hb' hrl with h1 | h1
      · rw [e] at h1; exact absurd hlB (Nat.not_lt.2 h1)
      · rw [e] at h1; exact hng h1
    have hne1 : ∀ {id : Nat} {b : Blk}, s1.H[id]? = some (some b) → (β1 id b.ver).real = true → (β1 id b.ver).blk ≠ l := fun {id b} hb' hrl e => by
      rcases hs1'.ws.base id b hb' hrl with h1 | h1
      · rw [e] at h1; exact absurd hlB (Nat.not_lt.2 h1)
      · rw [e] at h1; exact hng h1
    have hw2 : WS C2 K1 β1 s1.H w2 := ⟨fun b c hb' => by
        rw [World.putObj_heap_other (fun e => by rw [e, hK1l] at hb'; cases hb')]; exact hs1'.ws.holds b c hb', fun id b hb' => (hs1'.ws.blk id b hb').other fun hrl => World.putObj_heap_other (hne1 hb' hrl), hs1'.ws.ok, hs1'.ws.inj, hs1'.ws.apart, hs1'.ws.base, by
        show C1.B ≤ (w1.putObj _ _).heap.size
        rw [World.putObj_size]; exact hs1'.ws.size, ⟨rfl, rfl, rfl, Nat.le_refl _, fun _ _ _ => rfl⟩, hs1'.ws.agr, hs1'.ws.hle, hs1'.ws.kle⟩
    have hs2 : SR C2 N K1 β1 s1 a1 w2 := ⟨hw2, hs1'.size, hs1'.defers, hs1'.rd, hs1'.ok⟩
    refine wpIn_mono (hbody C2 K1 β1 a1 w2 hs2) fun e3 a3 w3 hA3 => ?_
    obtain ⟨K3, β3, s3, x3, hX3, hs3, hx3, rfl, ht, hokH⟩ := hA3
    cases e3 <;> first | exact hx3.elim | skip
    have hl3 : w3.heap[l]? = some (.loop { r with state := .busy }) := (hs3.ws.below.block l hlB hng).trans (World.putObj_heap_same hlt1)
    have hlt3 : l < w3.heap.size := (Array.getElem?_eq_some_iff.1 hl3).1
    have hre : ({ ({ r with state := .busy } : Loop) with state := if (none : Option Code).isNone then .ready else .done, pending := none } : Loop) = r := by
      obtain ⟨h1, h2, _⟩ := hr
      cases r
      simp_all
    have hend := run_endRound (P := P) none hl3
    rw [hre] at hend
    refine ⟨_, _, hend, ?_⟩
    have hK3l : K3 l = none := by
      cases e : K3 l with
      | none => rfl
      | some o =>
        rcases hX3.kx.new l o e with h1 | h1 | h1
        · rw [hK1l] at h1; cases h1
        · exact absurd hlB (Nat.not_lt.2 h1)
        · exact absurd h1 hng
    have hle3 : Mem.le K3 (K3.add l (.loop r)) := Mem.le_add hK3l
    have hKle : Mem.le K (K3.add l (.loop r)) := fun b c hb' => by
      by_cases e : b = l
      · subst e; rw [hKl] at hb'; cases hb'; unfold Mem.add; rw [if_pos rfl]
      · exact hle3 _ _ (hX3.kx.le _ _ (hX1.kx.le _ _ (by unfold Mem.del; rw [if_neg e]; exact hb')))
    have hHle : HLe H H' := by
      have h1 := (hX1.le.trans hX3.le).take hl'
      rwa [ht] at h1
    have hagr : Agr H β β3 := hX1.ag.up hX1.le hX3.ag
    have hw3 := wsTake hs3.ws H'.length (by rw [ht]; exact hokH.at) (by rw [ht]; exact hHle)
    rw [ht] at hw3
    refine ⟨_, .v (.bool true), K3.add l (.loop r), β3, H', ⟨⟨hKle, fun b c hb' => ?_⟩, hagr, hHle⟩, ⟨fun b c hb' => ?_, fun id b hb' => ?_, hw3.ok, hw3.inj, fun id b hb' hrl => ?_, hw3.base, ?_, ?_, hagr, hHle, hKle⟩, .v _ _, .v _, .inl ⟨rfl, rfl, rfl⟩⟩
    · by_cases e : b = l
      · subst e; unfold Mem.add at hb'; rw [if_pos rfl] at hb'; cases hb'; exact .inl hKl
      · unfold Mem.add at hb'
        rw [if_neg e] at hb'
        rcases hX3.kx.new b c hb' with h1 | h1
        · rcases hX1.kx.new b c h1 with h2 | h2
          · exact .inl (hdl b c h2).1
          · exact .inr h2
        · exact .inr h1
    · by_cases e : b = l
      · subst e; unfold Mem.add at hb'; rw [if_pos rfl] at hb'; cases hb'; exact World.putObj_heap_same hlt3
      · unfold Mem.add at hb'
        rw [if_neg e] at hb'
        rw [World.putObj_heap_other e]; exact hs3.ws.holds b c hb'
    · exact ((hw3.blk id b hb').mono hle3 (hw3.ok id b hb') (Agr.refl _ _)).other fun hrl => World.putObj_heap_other (hne hw3 hb' hrl)
    · unfold Mem.add
      rw [if_neg (hne hw3 hb' hrl)]; exact hw3.apart id b hb' hrl
    · rw [World.putObj_size]; exact hw3.size
    · refine ⟨hs3.ws.below.os.trans hs1'.ws.below.os, hs3.ws.below.tape.trans hs1'.ws.below.tape, hs3.ws.below.output.trans hs1'.ws.below.output, by rw [World.putObj_size]; exact hw3.size, fun k hk hg => ?_⟩
      by_cases e : k = l
      · subst e; rw [World.putObj_heap_same hlt3]; exact hh.symm
      · rw [World.putObj_heap_other e]
        refine (hs3.ws.below.block k hk hg).trans ?_
        show (w1.putObj _ _).heap[k]? = _
        rw [World.putObj_heap_other e]; exact hs1'.ws.below.block k hk hg
  | _ =>
    obtain ⟨K1, β1, s1, x, _, _, hx, hq⟩ := hA
    cases x <;> first | exact hx.elim | exact hq.elim
end Go.DL
namespace Go.DL
open Go.RowKit

theorem rho_id {m n j : Nat} (h : j < m) : rho (List.range m) n j = j := by unfold rho; rw [List.getElem?_range h]
theorem ren_id {H0 : Heap} {n : Nat} {d : D} (h : OkD H0 d) : Ren (rho (List.range H0.length) n) d d := by
  induction h with
  | any => exact .pure _ .any
  | v x => exact .pure _ (.v _)
  | agg cs _ ih => exact .agg _ _ rfl fun j c d hc hd => by rw [hc] at hd; cases hd; exact ih c (List.mem_of_getElem? hc)
  | tup cs _ ih => exact .tup _ _ rfl fun j c d hc hd => by rw [hc] at hd; cases hd; exact ih c (List.mem_of_getElem? hc)
  | fn f cs _ ih => exact .fn _ _ _ rfl fun j c d hc hd => by rw [hc] at hd; cases hd; exact ih c (List.mem_of_getElem? hc)
  | iface t d _ ih => exact .iface _ _ _ ih
  | mp ks cs => exact .pure _ (.mp _ _)
  | rd n cs => exact .pure _ (.rd _ _)
  | adr cs => exact .pure _ (.adr _)
  | own id ver off n sz h => exact .own _ _ _ _ _ (rho_id h.lt)
  | ptr id ver off h => exact .ptr _ _ _ (rho_id h.lt)
  | omp id ver h => exact .omp _ _ (rho_id h.lt)
theorem renB_id {H0 : Heap} {n : Nat} : ∀ {l : List (Option Blk)}, OkH H0 l → All2 (RenB (rho (List.range H0.length) n)) l l
  | [], _ => trivial
  | none :: _, h => ⟨.nil, renB_id (l := _) h⟩
  | some b :: _, h => ⟨.blk ⟨rfl, rfl, rfl, rfl, fun j c d hc hd => by rw [hc] at hd; cases hd; exact ren_id (h.1 c (List.mem_of_getElem? hc))⟩, renB_id h.2⟩
theorem picks_range (own : Heap) : ∀ (l pre : List (Option Blk)), Picks (pre ++ l ++ own) (List.range' pre.length l.length) l
  | [], _ => trivial
  | b :: l, pre => by
    refine ⟨by simp, ?_⟩
    have := picks_range own l (pre ++ [b])
    simpa using this
theorem putI_range (own : Heap) : ∀ (l l' pre : List (Option Blk)), l'.length = l.length → putI (pre ++ l ++ own) (List.range' pre.length l.length) l' = pre ++ l' ++ own
  | [], [], _, _ => by simp [putI]
  | b :: l, b' :: l', pre, h => by
    have := putI_range own l l' (pre ++ [b']) (by simpa using h)
    simp only [List.length_append, List.length_cons, List.length_nil] at this
    rw [List.length_cons, List.range'_succ, putI]
    simpa using this
  | [], _ :: _, _, h => by simp at h
  | _ :: _, [], _, h => by simp at h
/-- What a round does to the blocks that its body has, whenever yield is called. -/
def YieldAt (P : Program) (l : Nat) (r : Loop) (S : Heap) (β0 : Nat → Nat → BT) (K0 : Mem) (H H' : Heap) (ds : List D) : Prop :=
  ∀ (K : Mem) (β : Nat → Nat → BT) (w : World) (vs : List Value), Mem.le K0 K → K l = some (.loop r) → Agr S β0 β → WS (given K β H w) K β H w → vs.length = ds.length → (∀ (j : Nat) v d, vs[j]? = some v → ds[j]? = some d → DR K β true v d) → (∀ d ∈ ds, OkD H d) →
    RoundT P l r vs.toArray w (Post K β H w fun o H'' => o = .ret (.v (.bool true)) ∧ H'' = H')
/-- A call within the loop l whose record is r. -/
structure InLoop (C : Ctx) (l : Nat) (r : Loop) (S : Heap) (β0 : Nat → Nat → BT) (K0 : Mem) : Prop where
  hW : C.W.heap[l]? = some (.loop r)
  hB : l < C.B
  hG : ¬ C.G l
  hb : C.hb = S
  b0 : C.b0 = β0
  kb : Mem.le K0 C.kb
  kl : C.kb l = some (.loop r)
theorem ren_all {ρ : Nat → Nat} : ∀ {ds : List D}, PureAll ds → All2 (Ren ρ) ds ds
  | [], _ => trivial
  | _ :: _, h => ⟨.pure _ h.1, ren_all h.2⟩
section
variable {P : Program} {C : Ctx} {env : Nat → D} {dst : Option Nat} {ty : TypeId} {pos : String} {after : Array Edge} {gu : Option (Nat × Bool)} {X : Operand}
/-- yield called where the iterator has blocks of its own behind those of the body. -/
theorem x_yieldF {as_ : List Operand} {ats : Array TypeId} {ds : List D} {l : Nat} {r : Loop} {S : Heap} {β0 : Nat → Nat → BT} {K0 : Mem} (H0 H0' own : Heap) (hX : ev env X = .v (.func (.yield l) #[] #[])) (hC : InLoop C l r S β0 K0) (hn : as_.length = r.params.size) (he : ArgsAre env as_ ds) (hpu : PureAll ds)
    (hS : S.length = H0.length) (hlen : H0'.length = H0.length) (hok : OkH H0 H0) (hok' : OkH H0' H0') (hy : YieldAt P l r S β0 K0 H0 H0' ds) :
    OpX P C ⟨dst, .call { callee := .value X, args := as_.toArray, argTypes := ats }, ty, pos, after, gu⟩ env (H0 ++ own) (fun o H'' => o = .ret (.v (.bool true)) ∧ H'' = H0' ++ own) := by
  refine x_yield hX hC.hW hC.hB hC.hG hn he fun K β w vs hw hl hv ho => ?_
  have hpk := picks_range own H0 []
  have hpt := putI_range own H0 H0' [] hlen
  rw [List.length_nil, ← List.range_eq_range', List.nil_append] at hpk hpt
  rw [List.nil_append] at hpt
  refine frameAt (T := RoundT P l r) (Q := fun o H'' => o = .ret (.v (.bool true)) ∧ H'' = H0') (Q' := fun o H'' => o = .ret (.v (.bool true)) ∧ H'' = H0' ++ own) (fun h hr => h.mono hr) (List.range H0.length) H0 (fun β1 e1 hs h1 h2 h3 => hy K β1 w vs (hC.kb.trans hw.kle) (hw.kle l _ hC.kl) (fun i v hv => ?_) hs h1 h2 h3) List.nodup_range hpk (renB_id hok) (ren_all hpu) (fun o0 H1 ⟨e1, e2⟩ => ?_) hw.give hl hv ho
  · have hi := hv.lt
    rw [e1, rho_id (by omega)]
    have := hw.agr
    rw [hC.hb, hC.b0] at this
    exact this i v hv
  · subst e1
    rw [e2]
    refine ⟨.ret (.v (.bool true)), H0', [], by simp [hlen], ?_, .ret (.pure _ (.v _)), rfl, by rw [hpt, List.append_nil]⟩
    rw [List.append_nil]
    have := renB_id (n := (H0 ++ own).length) hok'
    rwa [hlen] at this
end
/-- An iterator: it calls yield with xs 0, xs 1, .. in turn, n times, and returns; the body's blocks go from HH 0 to HH n. -/
def Iter (P : Program) (f : FuncId) (cs : List D) (ar : Nat) (HH : Nat → Heap) (n : Nat) (xs : Nat → List D) : Prop :=
  ∀ (l : Nat) (r : Loop) (K0 : Mem) (K : Mem) (β : Nat → Nat → BT) (w : World) (vs : List Value), (∀ k, k < n → YieldAt P l r (HH 0) β K0 (HH k) (HH (k + 1)) (xs k)) → r.params.size = ar → Mem.le K0 K → K l = some (.loop r) → WS (given K β (HH 0) w) K β (HH 0) w → vs.length = cs.length + 1 →
    (∀ (j : Nat) v d, vs[j]? = some v → (D.v (.func (.yield l) #[] #[]) :: cs)[j]? = some d → DR K β true v d) → (∀ d ∈ cs, OkD (HH 0) d) → Calls P f vs.toArray w (Post K β (HH 0) w fun o H' => (∃ d, o = .ret d) ∧ H' = HH n)
theorem inLoop_given {K K0 : Mem} {β : Nat → Nat → BT} {H : Heap} {w : World} {l : Nat} {r : Loop} (hw : WS (given K β H w) K β H w) (hK : Mem.le K0 K) (hKl : K l = some (.loop r)) : InLoop (given K β H w) l r H β K0 :=
  ⟨hw.holds l _ hKl, hw.klt hKl, (fun ⟨id, b, hb, hrl, e⟩ => by
    have := hw.apart id b hb hrl
    rw [e, hKl] at this
    cases this), rfl, rfl, hK, hKl⟩
/-- An iterator's contract, out of its body's walk. -/
theorem Iter.of {P : Program} {f : FuncId} {fn : Func} {c : Code} {cs : List D} {ar : Nat} {HH : Nat → Heap} {n : Nat} {xs : Nat → List D} (hf : P.funcs[f]? = some fn) (hb : fn.body = some c) (hn : cs.length + 1 ≤ fn.ntmps)
    (h : ∀ (C : Ctx) (l : Nat) (r : Loop) (β0 : Nat → Nat → BT) (K0 : Mem), InLoop C l r (HH 0) β0 K0 → r.params.size = ar → (∀ k, k < n → YieldAt P l r (HH 0) β0 K0 (HH k) (HH (k + 1)) (xs k)) → WC P C fn.ntmps c ⟨env0 (.v (.func (.yield l) #[] #[]) :: cs), HH 0⟩ (endM P fn (HH 0) fun o H' => (∃ d, o = .ret d) ∧ H' = HH n)) : Iter P f cs ar HH n xs := by
  intro l r K0 K β w vs hy har hK hKl hw hl hv ho
  have hh := h (given K β (HH 0) w) l r β K0 (inLoop_given hw hK hKl) har hy
  refine calls_fin hf hb rfl (hw.kB rfl) (hw.kB rfl) (hh K β _ w (enters (by simpa using hn) hw (by simpa using hl) hv (fun d hd => by rcases List.mem_cons.1 hd with rfl | hd; exact .v _; exact ho d hd))) fun e a' w' K' β' s' x hX hs' hdf hx hq => ?_
  have kept : ∀ {n : Nat} {H' : Heap}, Kept (HH 0) n s' H' → Ext (given K β (HH 0) w) K β (HH 0) K' β' H' ∧ WS (given K β (HH 0) w) K' β' H' w' := fun {n H'} hk => by
    obtain ⟨he, hn', hok⟩ := hk
    exact ⟨⟨hX.kx, hX.ag, he ▸ hX.le.take hn'⟩, he ▸ wsTake hs'.ws n (by rw [he]; exact hok.at) (hs'.ws.hle.take hn')⟩
  have fin : (∃ m H', Kept (HH 0) m s' H' ∧ EndsM P fn (fun d => (∃ d', DOut.ret d = .ret d') ∧ H' = HH n) H' s') → a'.defers = [] ∧ ∃ v, (results fn a'.tmps).run P w' = .ok v w' ∧ Post K β (HH 0) w (fun o H' => (∃ d, o = .ret d) ∧ H' = HH n) (.returned v) w' := by
    rintro ⟨m, H', hk, hE⟩
    obtain ⟨v, d, hr, hd, hz, hQ⟩ := hE _ _ K' β' a' w' hs'
    obtain ⟨k1, k2⟩ := kept hk
    exact ⟨hdf, v, hr, v, d, K', β', H', k1, k2, hd, hz, .inl ⟨rfl, hQ⟩⟩
  cases e <;> cases x <;> first
    | exact fin hq
    | exact hx.elim
    | exact hq.elim
    | (obtain ⟨n, H', hk, hz, ⟨d, hQ⟩, _⟩ := hq
       cases hQ)
theorem Marks.fresh {B n : Nat} {K : Mem} (hK : ∀ b c, K b = some c → b < n) : ∀ {ds : List Deferred}, Marks B K ds → ∀ d ∈ ds, d.target ≠ .collected n
  | [], _, d, hd => by cases hd
  | x :: ds, ⟨⟨r, h1, h2, _, _⟩, h⟩, d, hd => by
    rcases List.mem_cons.1 hd with rfl | hd
    · intro e
      rw [h1] at e
      cases e
      exact absurd (hK _ _ h2) (Nat.lt_irrefl _)
    · exact h.fresh hK d hd
/-- The statement that ranges over a function: its rounds run off their ends. -/
theorem WC.rangeFunc {P : Program} {C : Ctx} {N : Nat} {s : St} {Q : DX → St → Prop} {g : Operand} {ps : Array Tmp} {assign body : Code} {f : FuncId} {cs : List D} {ar : Nat} (HH : Nat → Heap) (n : Nat) (xs : Nat → List D) (hrd : C.rd = none) (hg : FnIs (ev s.env g) f cs) (hc : Callee P f) (h0 : HH 0 = s.H) (hHH : ∀ k, k ≤ n → HLe s.H (HH k)) (hmn : ∀ k, k < n → (HH k).length ≤ (HH (k + 1)).length) (har : ps.size = ar) (hps : ∀ p ∈ ps.toList, p < N)
    (hit : Iter P f cs ar HH n xs) (hb : ∀ k, k < n → ∀ C', WC P C' N assign ⟨updPs s.env ps.toList (xs k), HH k⟩ (thenQ (fun s1 => ∀ C'', WC P C'' N body s1 (bodyEnd (HH (k + 1)))) fun _ _ => False)) (hq : Q .normal ⟨s.env, HH n⟩) : WC P C N (.rangeFunc g ps assign body) s Q := by
  intro K β a w hs
  obtain ⟨us, eX, lu, du⟩ := fnD_frz hg (hs.ev g)
  have hcs : ∀ d ∈ cs, OkD s.H d := by
    rcases hg with h | ⟨_, rfl⟩
    · have := hs.evok g
      rw [h] at this
      cases this with
      | fn _ _ h => exact h
    · simp
  refine wpIn_rangeFunc fun fn _ => ?_
  let w1 := (w.alloc (.deferred (some [])))
  let r : Loop := { state := .ready, pending := none, fn, tmps := a.tmps, params := ps, assign, body, defers := w.heap.size }
  let w2 := w1.alloc (.loop r)
  have hsz : w1.heap.size = w.heap.size + 1 := by simp [w1]
  have hw1 := hs.ws.stillO (.deferred (some []))
  have hw2 := hw1.stillO (.loop r)
  let K1 := K.add w.heap.size (.deferred (some []))
  let K2 := K1.add w1.heap.size (.loop r)
  have hKl : K2 w1.heap.size = some (.loop r) := by show (if _ then _ else _) = _; rw [if_pos rfl]
  have hK1 : Mem.le K K1 := Mem.le_add hs.ws.fresh
  have hK2 : Mem.le K1 K2 := Mem.le_add hw1.fresh
  have hKd : K1 w.heap.size = some (.deferred (some [])) := by show (if _ then _ else _) = _; rw [if_pos rfl]
  have hBl : C.B ≤ w.heap.size := hs.ws.size
  refine ⟨w1.heap.size, [{ target := .collected w.heap.size, args := #[] }], w2, { target := .fn (.func f) us.toArray, args := #[.func (.yield w1.heap.size) #[] #[]] }, w2, f, (.func (.yield w1.heap.size) #[] #[] :: us).toArray, w2, ?_, ?_, fun _ _ => trivial, ?_, fun e => by simp [FW] at e, calls_FW ?_⟩
  · have := run_enterLoop_outer (P := P) (w := w) fn a.tmps ps assign body
    show (Instr.enterLoop fn a.tmps ps assign body C.rd).run P w = _
    rw [hrd, this, hsz]
  · simp [resolve, rangeCall, eX, Deferred.ofValue]; rfl
  · simp [invoke, hc.run]
  have hcall := hit w1.heap.size r K K2 β w2 (.func (.yield w1.heap.size) #[] #[] :: us) (fun k hk => ?_) har (hK1.trans hK2) hKl (by rw [h0]; exact hw2.give) (by simp [lu]) (fun j v d hv hd => ?_) (by rw [h0]; exact hcs)
  · refine hcall.mono fun e w3 ⟨v, d, K', β', H', k1, k2, k3, k4, k5⟩ => ?_
    rw [h0] at k1 k2
    rcases k5 with ⟨rfl, _, rfl⟩ | ⟨_, ⟨d', hd'⟩, _⟩
    · have j1 := Ext.up hw2 k1
      have j2 := hw2.back k2
      have hKl' : K' w1.heap.size = some (.loop r) := k1.kx.le _ _ hKl
      have hl3 := j2.holds _ _ hKl'
      refine ⟨r.pending, _, run_endLoop hl3 (by simp [r]), ?_⟩
      show AftX C N K β s.H Q .normal { a with defers := [{ target := .collected w.heap.size, args := #[] }] ++ a.defers } _
      have hkb : C.kb w1.heap.size = none := by
        cases e : C.kb w1.heap.size with
        | none => rfl
        | some c => have := hs.ws.klt (hs.ws.kle _ _ e); omega
      have hKle : Mem.le K (K'.del w1.heap.size) := fun b c hb' => by
        have := hs.ws.klt hb'
        unfold Mem.del
        rw [if_neg (by omega)]; exact k1.kx.le _ _ (hK2 _ _ (hK1 _ _ hb'))
      have hws := j2.drop hKl' (inert_loop r) (by omega) hkb (.loop { r with state := .exhausted })
      refine ⟨K'.del w1.heap.size, β', ⟨s.env, HH n⟩, .normal, ⟨⟨hKle, fun b c hb' => ?_⟩, j1.ag, hHH n (Nat.le_refl _)⟩, ⟨hws, hs.size, ⟨⟨w.heap.size, rfl, ?_, hBl, hs.defers.fresh fun b c hb' => hs.ws.klt hb'⟩, hs.defers.mono hKle⟩, fun t => (hs.rd t).mono hKle (fun _ => hs.ok t) j1.ag, fun t => (hs.ok t).mono (hHH n (Nat.le_refl _))⟩, trivial, hq⟩
      · unfold Mem.del at hb'
        by_cases e : b = w1.heap.size
        · rw [if_pos e] at hb'; cases hb'
        · rw [if_neg e] at hb'
          rcases j1.kx.new b c hb' with h1 | h1
          · have h2 : K1 b = some c := by
              have h1 : (if b = w1.heap.size then some (Obj.loop r) else K1 b) = some c := h1
              rwa [if_neg e] at h1
            by_cases e2 : b = w.heap.size
            · exact .inr (.inl (by omega))
            · have h2 : (if b = w.heap.size then some (Obj.deferred (some [])) else K b) = some c := h2
              rw [if_neg e2] at h2; exact .inl h2
          · exact .inr h1
      · unfold Mem.del
        rw [if_neg (by omega)]; exact k1.kx.le _ _ (hK2 _ _ hKd)
    · cases hd'
  · intro K3 β3 w3 vs hK3 hKl3 hag hw3 hl hv ho
    exact round_of hs ⟨rfl, rfl, rfl⟩ (hHH k (Nat.le_of_lt hk)) (hmn k hk) hps hK3 hKl3 (by rw [← h0]; exact hag) hw3 hl hv ho (hb k hk)
  · rcases j with _ | j
    · simp at hv hd; subst hv hd; exact .v _ _
    · exact (du j v d (by simpa using hv) (by simpa using hd)).mono (hK1.trans hK2) (fun _ => hcs d (List.mem_of_getElem? (by simpa using hd))) (Agr.refl _ _)
end Go.DL
namespace Go.DL
open Go.RowKit

theorem WS.redo {C : Ctx} {K : Mem} {β : Nat → Nat → BT} {H : Heap} {w : World} (h : WS C K β H w) {id : Nat} {b b' : Blk} (hb : H[id]? = some (some b)) (hv : b'.ver = b.ver) (hR : BlkR K β (β id b.ver) b' (w.heap[(β id b.ver).blk]?)) (ho : ∀ c ∈ b'.cs, OkD H c) : WS C K β (H.set id (some b')) w := by
  have hid : id < H.length := (List.getElem?_eq_some_iff.1 hb).1
  have hle : HLe H (H.set id (some b')) := HLe.set hb (by rw [hv]; exact Nat.le_refl _)
  have split : ∀ {i : Nat} {x : Blk}, (H.set id (some b'))[i]? = some (some x) → (i = id ∧ x = b') ∨ (i ≠ id ∧ H[i]? = some (some x)) := by
    intro i x hx
    rw [List.getElem?_set] at hx
    by_cases e : id = i
    · rw [if_pos e, if_pos hid] at hx; simp at hx; exact .inl ⟨e.symm, hx.symm⟩
    · rw [if_neg e] at hx; exact .inr ⟨Ne.symm e, hx⟩
  refine ⟨h.holds, fun i x hx => ?_, fun i x hx c hc => ?_, fun i j x y hx hy hri hrj he => ?_, fun i x hx hr => ?_, fun i x hx hr => ?_, h.size, h.below, h.agr, h.hle.trans hle, h.kle⟩
  · rcases split hx with ⟨rfl, rfl⟩ | ⟨hi, hx⟩
    · rw [hv]; exact hR
    · exact h.blk i x hx
  · rcases split hx with ⟨rfl, rfl⟩ | ⟨hi, hx⟩
    · exact (ho c hc).mono hle
    · exact (h.ok i x hx c hc).mono hle
  · rcases split hx with ⟨rfl, rfl⟩ | ⟨hi, hx1⟩ <;> rcases split hy with ⟨hj, rfl⟩ | ⟨hj, hy1⟩
    · exact hj.symm
    · rw [hv] at hri he; exact h.inj _ j b y hb hy1 hri hrj he
    · subst hj; rw [hv] at hrj he; exact h.inj i _ x b hx1 hb hri hrj he
    · exact h.inj i j x y hx1 hy1 hri hrj he
  · rcases split hx with ⟨rfl, rfl⟩ | ⟨hi, hx⟩
    · rw [hv] at hr ⊢; exact h.apart _ b hb hr
    · exact h.apart i x hx hr
  · rcases split hx with ⟨rfl, rfl⟩ | ⟨hi, hx⟩
    · rw [hv] at hr ⊢; exact h.base _ b hb hr
    · exact h.base i x hx hr
theorem BlkR.nilCell {K : Mem} {β : Nat → Nat → BT} {t : BT} {b : Blk} {o : Option Obj} (h : BlkR K β t b o) {off id sz : Nat} (hc : b.cs[off]? = some (.v (.slice none 0 0))) (hn : (β id 0).st = .none) : BlkR K β t { b with cs := b.cs.set off (.own id 0 0 0 sz) } o := by
  unfold BlkR at *
  cases hs : t.st with
  | none => rw [hs] at h; have h : b.cs = [] := h; rw [h] at hc; cases hc
  | cells =>
    rw [hs] at h
    obtain ⟨us, rest, e, hl, ht, hg, hd⟩ := h
    refine ⟨us, rest, e, by simpa using hl, ht, hg, fun j u d hu hd' => ?_⟩
    simp only at hd'
    rw [List.getElem?_set] at hd'
    by_cases e2 : off = j
    · subst e2
      rw [if_pos rfl] at hd'
      split at hd'
      · cases hd'
        rw [(hd off u _ hu hc).v_inv]; exact .own0 _ _ _ hn
      · cases hd'
    · rw [if_neg e2] at hd'; exact hd j u d hu hd'
  | map =>
    rw [hs] at h
    obtain ⟨es, ck, e, hE⟩ := h
    have hlt : off < b.cs.length := (List.getElem?_eq_some_iff.1 hc).1
    have hes : off < es.size := by rw [hE.len]; exact hlt
    obtain ⟨dv, e3, _⟩ := hE.rd off es[off] _ (Array.getElem?_eq_getElem hes) hc
    cases e3
/-- A cell that holds a nil slice: from here on an own row, nil as_ yet, the newest block. -/
theorem WC.nilCell {P : Program} {C : Ctx} {N : Nat} {s : St} {Q : DX → St → Prop} {c : Code} (id off : Nat) (b : Blk) (e : TypeId) (sz : Nat) (hb : s.H[id]? = some (some b)) (hc : b.cs[off]? = some (.v (.slice none 0 0))) (h : WC P C N c ⟨s.env, (s.H ++ [some (⟨[], e, true, 0⟩ : Blk)]).set id (some { b with cs := b.cs.set off (.own s.H.length 0 0 0 sz) })⟩ Q) : WC P C N c s Q := by
  intro K β a w hs
  have hid : id < s.H.length := (List.getElem?_eq_some_iff.1 hb).1
  have hb' : (s.H ++ [some (⟨[], e, true, 0⟩ : Blk)])[id]? = some (some b) := by rw [List.getElem?_append_left hid]; exact hb
  have h1 := hs.ws.newNil e
  have hβ : ∀ v, addB β s.H.length 0 ⟨0, 0, .none⟩ id v = β id v := fun v => addB_ne (.inl (by omega))
  have hle1 : HLe s.H (s.H ++ [some (⟨[], e, true, 0⟩ : Blk)]) := HLe.app _ _
  have hle2 : HLe (s.H ++ [some (⟨[], e, true, 0⟩ : Blk)]) ((s.H ++ [some (⟨[], e, true, 0⟩ : Blk)]).set id (some { b with cs := b.cs.set off (.own s.H.length 0 0 0 sz) })) := HLe.set hb' (Nat.le_refl _)
  have h2 := h1.redo (b' := { b with cs := b.cs.set off (.own s.H.length 0 0 0 sz) }) hb' rfl ((h1.blk id b hb').nilCell hc (by rw [addB_at])) fun c hc' => by
    rcases List.mem_or_eq_of_mem_set hc' with h3 | rfl
    · exact h1.ok id b hb' c h3
    · refine .own _ _ _ _ _ ?_
      unfold okV
      rw [List.getElem?_append_right (Nat.le_refl _), Nat.sub_self]
      exact Nat.le_refl _
  have hs' : SR C N K (addB β s.H.length 0 ⟨0, 0, .none⟩) ⟨s.env, (s.H ++ [some (⟨[], e, true, 0⟩ : Blk)]).set id (some { b with cs := b.cs.set off (.own s.H.length 0 0 0 sz) })⟩ a w :=
    ⟨h2, hs.size, hs.defers, fun t => (hs.rd t).mono (Mem.le.refl K) (fun _ => hs.ok t) addB_agr, fun t => (hs.ok t).mono (hle1.trans hle2)⟩
  exact wpIn_mono (h K _ a w hs') fun e a' w' hA => hA.mono ⟨KX.refl _ _, addB_agr, hle1.trans hle2⟩ fun _ _ h => h
theorem one_ok {H : Heap} {d : D} (h : OkD H d) : ∀ c ∈ [d], OkD H c := fun c hc => by
  rw [List.mem_singleton] at hc
  subst hc; exact h
end Go.DL
namespace Go.Proofs.Ytpdjcfhmdeeikaa
open Go.RowKit Go.DL

def wrapI (a b : Int) : Int := sgn ((a - b) % 18446744073709551616).toNat
def encP (p : Nat × Int) : List UInt8 := encB p.1 ++ encB (zigN p.2)
/-- Pairs that are pairs. -/
def okP (p : Nat × Int) : Prop := p.1 ≤ 18446744073709551615 ∧ -9223372036854775808 ≤ p.2 ∧ p.2 ≤ 9223372036854775807
theorem encP_len {p : Nat × Int} (h : okP p) : (encP p).length ≤ 20 := by
  have h1 := encB_len10 h.1
  have h2 := encB_len10 (zig_le h.2.1 h.2.2)
  unfold encP
  rw [List.length_append]; omega
abbrev p0 : Nat × Int := (0, 0)
def bytesP (l : List (Nat × Int)) (k : Nat) : List UInt8 := (l.take k).flatMap encP
theorem bytesP_step {l : List (Nat × Int)} {k : Nat} (h : k < l.length) : bytesP l (k + 1) = bytesP l k ++ encP (l.getD k p0) := by
  unfold bytesP
  rw [List.take_succ_eq_append_getElem h, List.flatMap_append]; simp [List.getD, h]
theorem bytesP_len {l : List (Nat × Int)} (hl : ∀ p ∈ l, okP p) (k : Nat) : (bytesP l k).length ≤ 20 * l.length := by
  unfold bytesP
  have : ∀ m : List (Nat × Int), (∀ p ∈ m, okP p) → (m.flatMap encP).length ≤ 20 * m.length := by
    intro m hm
    induction m with
    | nil => simp
    | cons p m ih =>
      have h1 := encP_len (hm p (by simp))
      have h2 := ih fun q hq => hm q (by simp [hq])
      simp only [List.flatMap_cons, List.length_append, List.length_cons] at *; omega
  have h1 := this (l.take k) fun p hp => hl p (List.mem_of_mem_take hp)
  have h2 : (l.take k).length ≤ l.length := by rw [List.length_take]; omega
  omega
/-- The blocks behind k pairs: the cell of the row, the row. -/
abbrev putH (l : List (Nat × Int)) (k : Nat) : Heap := [some ⟨[ow 1 (bytesP l k).length 1], 24, false, 0⟩, tb 5 (bytesP l k).length (bytesD (bytesP l k))]
theorem putH_eq {l : List (Nat × Int)} {k n : Nat} {cs : List D} (h1 : n = (bytesP l k).length) (h2 : cs = bytesD (bytesP l k)) : ([some ⟨[ow 1 n 1], 24, false, 0⟩, tb 5 n cs] : Heap) = putH l k := by subst h1 h2; rfl
theorem putH_ok (l : List (Nat × Int)) (k : Nat) : OkH (putH l k) (putH l k) := ⟨fun c hc => by
    have hc : c ∈ [ow 1 (bytesP l k).length 1] := hc
    rw [List.mem_singleton] at hc
    subst hc
    exact .own _ _ _ _ _ (Nat.le_refl (bytesP l k).length), okp (pu_bytes _), trivial⟩
set_option maxHeartbeats 4000000 in
theorem iput_c (l : List Int) (prs : List (Nat × Int)) (hp : ∀ p ∈ prs, okP p) (hpl : prs.length ≤ 1099511627776) (hruns : Fun Try.prog 63 [rdI l] (· = .fn (.func 70) [.adr [rdI l]])) (hit : Iter Try.prog 70 [.adr [rdI l]] 2 (putH prs) prs.length (fun k => [N64 (prs.getD k p0).1, I64 (prs.getD k p0).2])) : Fun Try.prog 52 [rdI l] (· = rdB (bytesP prs prs.length)) := by
  refine Fun.ofR Try.func52 rfl (Nat.le_of_ble_eq_true rfl) fun C hrd => ?_
  refine WC.seq fun Fh1_ h1_ => ?_
  refine WC.region ?_
  refine RG.op _ _ rfl rfl (o_assign (.v _) rfl) ?_
  refine RG.nil (h1_ _ ?_)
  refine WC.seq fun Fh2_ h2_ => ?_
  refine WC.region ?_
  refine RG.op _ _ rfl rfl (o_alloc (z_of Ty.inf24) rfl) ?_
  refine RG.nil (h2_ _ ?_)
  refine WC.seq fun Fh3_ h3_ => ?_
  refine WC.seq fun Fh4_ h4_ => ?_
  refine WC.nilCell 0 0 _ 5 1 rfl rfl ?_
  refine WC.region ?_
  refine RG.op _ _ rfl rfl (o_move (.rd _ _) rfl) ?_
  refine RG.op _ _ rfl rfl (o_call Ty.cal63 (hruns) ⟨.inl rfl, trivial⟩ (by exact pua rfl)) ?_
  refine RG.nil (h4_ _ ?_)
  refine WC.block ?_
  refine WC.rangeFunc (f := 70) (cs := [.adr [rdI l]]) (ar := 2) (fun (k : Nat) => putH prs k) prs.length (fun (k : Nat) => [N64 (prs.getD k p0).1, I64 (prs.getD k p0).2]) hrd (.inl rfl) Ty.cal70 (rfl) (fun k _ => VLe.le ⟨Nat.le_refl _, Nat.zero_le _, trivial⟩) (fun _ _ => Nat.le_refl 2) rfl (by decide) (hit) (fun k hk C_ => ?_) ?_
  ·
    have hlk := bytesP_len hp k
    have hok := hp _ (List.getElem_mem hk)
    have eg : prs.getD k p0 = prs[k] := by simp [List.getD, hk]
    have hc1 : (prs.getD k p0).1 ≤ 18446744073709551615 := by rw [eg]; exact hok.1
    have hc2 : -9223372036854775808 ≤ (prs.getD k p0).2 := by rw [eg]; exact hok.2.1
    have hc3 : (prs.getD k p0).2 ≤ 9223372036854775807 := by rw [eg]; exact hok.2.2
    have hc4 := encB_len10 hc1
    have hc5 := zig_le hc2 hc3
    have hc6 := encB_len10 hc5
    refine WC.seq fun Fh5_ h5_ => ?_
    refine WC.region ?_
    refine RG.op _ _ rfl rfl (o_assign (.v _) rfl) ?_
    refine RG.nil (h5_ _ ?_)
    refine WC.region ?_
    refine RG.op _ _ rfl rfl (o_assign (.v _) rfl) ?_
    refine RG.nil (fun C2_ => ?_)
    refine WC.block ?_
    refine WC.seq fun Fh6_ h6_ => ?_
    refine WC.drawn2 (by kernel_rfl) ?_
    refine PG.opm _ _ rfl rfl rfl (o_load_ptr (d := ow 1 (bytesP prs k).length 1) rfl Try.underlying24 rfl rfl rfl rfl) ?_
    refine PG.op _ rfl rfl rfl (fun _ _ => o_move (.v _) rfl) ?_
    refine PG.op _ rfl rfl rfl (fun _ _ => o_call Ty.cal54 (vput_c [] _ (by first | omega | exact ubyte _ | (simp only [LS] <;> omega)) (by first | omega | exact ubyte _ | (simp only [LS] <;> omega))) ⟨.inr ⟨rfl, rfl⟩, .inl rfl, trivial⟩ (by exact pua rfl)) ?_
    refine PG.opm _ _ rfl rfl rfl (o_appT (Elem.of Try.underlying24 Ty.inf5 rfl (by decide)) rfl rfl rfl (by first | omega | exact ubyte _ | (simp only [LS] <;> omega)) (by first | omega | exact ubyte _ | (simp only [LS] <;> omega)) (by repeat (first | exact bytesD_one _ | exact one_nil | exact one_map (fun _ => rfl) _ | exact one_vals _ | refine one_app ?_ ?_ | refine one_cons rfl ?_)) (by first | omega | exact ubyte _ | (simp only [LS] <;> omega)) (by first | omega | exact ubyte _ | (simp only [LS] <;> omega))) ?_
    refine PG.opm _ _ rfl rfl rfl (o_store (d := (.own _ _ _ _ _)) rfl rfl rfl rfl (sz_of Ty.inf24) (Nat.le_of_ble_eq_true rfl) rfl) ?_
    refine PG.nil ⟨by kernel_rfl, trivial, (h6_ _ ?_)⟩
    refine WC.drawn2 (by kernel_rfl) ?_
    refine PG.opm _ _ rfl rfl rfl (o_load_ptr (d := ow 1 ((bytesP prs k).length + (encB (prs.getD k p0).1).length) 1) rfl Try.underlying24 rfl rfl rfl rfl) ?_
    refine PG.op _ rfl rfl rfl (fun _ _ => o_move (.v _) rfl) ?_
    refine PG.op _ rfl rfl rfl (fun _ _ => o_call Ty.cal64 (vzig_c _ (by first | omega | exact ubyte _ | (simp only [LS] <;> omega)) (by first | omega | exact ubyte _ | (simp only [LS] <;> omega))) ⟨.inl rfl, trivial⟩ (by exact pua rfl)) ?_
    refine PG.op _ rfl rfl rfl (fun _ _ => o_call Ty.cal54 (vput_c [] _ (by first | omega | exact ubyte _ | (simp only [LS] <;> omega)) (by first | omega | exact ubyte _ | (simp only [LS] <;> omega))) ⟨.inr ⟨rfl, rfl⟩, .inl rfl, trivial⟩ (by exact pua rfl)) ?_
    refine PG.opm _ _ rfl rfl rfl (o_appT (Elem.of Try.underlying24 Ty.inf5 rfl (by decide)) rfl rfl rfl (by first | omega | exact ubyte _ | (simp only [LS] <;> omega)) (by first | omega | exact ubyte _ | (simp only [LS] <;> omega)) (by repeat (first | exact bytesD_one _ | exact one_nil | exact one_map (fun _ => rfl) _ | exact one_vals _ | refine one_app ?_ ?_ | refine one_cons rfl ?_)) (by first | omega | exact ubyte _ | (simp only [LS] <;> omega)) (by first | omega | exact ubyte _ | (simp only [LS] <;> omega))) ?_
    refine PG.opm _ _ rfl rfl rfl (o_store (d := (.own _ _ _ _ _)) rfl rfl rfl rfl (sz_of Ty.inf24) (Nat.le_of_ble_eq_true rfl) rfl) ?_
    refine PG.nil ⟨by kernel_rfl, trivial, ⟨rfl, ?_, ?_⟩⟩
    · exact putH_eq (by rw [bytesP_step hk]; simp [encP]; omega) (by rw [bytesP_step hk]; simp [encP, bytesD_app])
    · exact (putH_ok _ _)
  ·
    skip
    refine (h3_ _ ?_)
    refine WC.seq fun Fh7_ h7_ => ?_
    refine WC.region ?_
    refine RG.op _ _ rfl rfl (o_load_ptr (d := ow 1 (bytesP prs prs.length).length 1) rfl Try.underlying24 rfl rfl rfl rfl) ?_
    refine RG.op _ _ rfl rfl (o_assign (.own _ _ _ _ _) rfl) ?_
    refine RG.nil (h7_ _ ?_)
    refine WC.ret ?_
    exact Ends.r1 rfl (.tmp _ (.own _ _ _ _ _) rfl) (.tb rfl (by repeat (first | exact pu_bytes _ | exact pu_nil | exact pu_vs rfl | exact pu_map (fun _ => .v _) _ | exact pu_vals _ | refine pu_app ?_ ?_ | refine pu_cons (by exact pu_of rfl) ?_))) (rfl)
end Go.Proofs.Ytpdjcfhmdeeikaa
namespace Go.Proofs.Ytpdjcfhmdeeikaa
open Go.RowKit Go.DL

set_option maxHeartbeats 4000000 in
theorem wrap_c (a b : Int) : Fun Try.prog 71 [I64 a, I64 b] (· = I64 (wrapI a b)) := by
  refine Fun.of Try.func71 rfl (Nat.le_of_ble_eq_true rfl) fun C => ?_
  refine WC.seq fun Fh1_ h1_ => ?_
  refine WC.region ?_
  refine RG.op _ _ rfl rfl (o_assign (.v _) rfl) ?_
  refine RG.nil (h1_ _ ?_)
  refine WC.seq fun Fh2_ h2_ => ?_
  refine WC.region ?_
  refine RG.op _ _ rfl rfl (o_move (.v _) rfl) ?_
  refine RG.op _ _ rfl rfl (o_i64toU rfl Try.underlying2 Try.underlying69) ?_
  refine RG.op _ _ rfl rfl (o_move (.v _) rfl) ?_
  refine RG.op _ _ rfl rfl (o_i64toU rfl Try.underlying2 Try.underlying69) ?_
  refine RG.op _ _ rfl rfl (o_subU rfl rfl (by first | omega | exact ubyte _ | (simp only [LS] <;> omega))) ?_
  refine RG.op _ _ rfl rfl (o_UtoI64 rfl (by first | omega | exact ubyte _ | (simp only [LS] <;> omega)) Try.underlying69 Try.underlying2) ?_
  refine RG.op _ _ rfl rfl (o_assign (.v _) rfl) ?_
  refine RG.nil (h2_ _ ?_)
  refine WC.ret ?_
  exact Ends.r1 rfl (.tmp _ (.v _) rfl) (.v _) (congrArg I64 (by unfold wrapI; exact congrArg sgn (by omega)))
/-- The runs of changes: each change, and how often it comes one behind the other. -/
def runsF : List Int → Int → Int → Nat → Int → List (Nat × Int)
  | [], _, _, n, c => if 0 < n then [(n, c)] else []
  | v :: l, la, st, n, c => if 0 < n ∧ ¬ wrapI (wrapI v la) st = c then (n, c) :: runsF l v (wrapI v la) 1 (wrapI (wrapI v la) st) else runsF l v (wrapI v la) (n + 1) (wrapI (wrapI v la) st)
def runsM (l : List Int) : List (Nat × Int) := runsF l 0 0 0 0
theorem runsF_yield {l : List Int} {i n : Nat} {la st c : Int} (h : i < l.length) (h1 : 0 < n) (h2 : ¬ wrapI (wrapI l[i] la) st = c) : runsF (l.drop i) la st n c = (n, c) :: runsF (l.drop (i + 1)) l[i] (wrapI l[i] la) 1 (wrapI (wrapI l[i] la) st) := by
  rw [List.drop_eq_getElem_cons h, runsF, if_pos ⟨h1, h2⟩]
theorem runsF_on {l : List Int} {i n : Nat} {la st c : Int} (h : i < l.length) (h1 : ¬ (0 < n ∧ ¬ wrapI (wrapI l[i] la) st = c)) : runsF (l.drop i) la st n c = runsF (l.drop (i + 1)) l[i] (wrapI l[i] la) (n + 1) (wrapI (wrapI l[i] la) st) := by
  rw [List.drop_eq_getElem_cons h, runsF, if_neg h1]
theorem drop_head {l : List (Nat × Int)} {k : Nat} {x : Nat × Int} {r : List (Nat × Int)} (h : l.drop k = x :: r) : k < l.length ∧ l.getD k p0 = x ∧ l.drop (k + 1) = r := by
  have hk : k < l.length := by
    rcases Nat.lt_or_ge k l.length with hk | hk
    · exact hk
    · rw [List.drop_eq_nil_of_le hk] at h; cases h
  rw [List.drop_eq_getElem_cons hk] at h
  have h1 := (List.cons.inj h).1
  have h2 := (List.cons.inj h).2
  exact ⟨hk, by simp [List.getD, hk, h1], h2⟩
theorem runsF_last {l : List Int} {i n : Nat} {la st c : Int} (h : l.drop i = []) (hn : 0 < n) : runsF (l.drop i) la st n c = [(n, c)] := by rw [h, runsF, if_pos hn]
theorem runsF_none {l : List Int} {i n : Nat} {la st c : Int} (h : l.drop i = []) (hn : ¬ 0 < n) : runsF (l.drop i) la st n c = [] := by rw [h, runsF, if_neg hn]
theorem putH_all {l : List (Nat × Int)} {k : Nat} (h : l.drop k = []) : putH l k = putH l l.length := by
  have hk : l.length ≤ k := by
    rcases Nat.lt_or_ge k l.length with hk | hk
    · rw [List.drop_eq_getElem_cons hk] at h; cases h
    · exact hk
  have : bytesP l k = bytesP l l.length := by unfold bytesP; rw [List.take_of_length_le hk, List.take_length]
  unfold putH; rw [this]
set_option maxHeartbeats 4000000 in
theorem runs1_c (l : List Int) (hl : l.length ≤ 1099511627776) (prs : List (Nat × Int)) (hprs : prs = runsM l) : Iter Try.prog 70 [.adr [rdI l]] 2 (putH prs) prs.length (fun k => [N64 (prs.getD k p0).1, I64 (prs.getD k p0).2]) := by
  refine Iter.of Try.func70 rfl (Nat.le_of_ble_eq_true rfl) fun C l_ r_ β0_ K0_ hC_ har_ hy_ => ?_
  refine WC.seq fun Fh1_ h1_ => ?_
  refine WC.region ?_
  refine RG.op _ _ rfl rfl (o_assign (N64 0) rfl) ?_
  refine RG.op _ _ rfl rfl (o_assign (.v _) rfl) ?_
  refine RG.nil (h1_ _ ?_)
  refine WC.seq fun Fh2_ h2_ => ?_
  refine WC.region ?_
  refine RG.op _ _ rfl rfl (o_assign (.v _) rfl) ?_
  refine RG.op _ _ rfl rfl (o_assign (.v _) rfl) ?_
  refine RG.nil (h2_ _ ?_)
  refine WC.seq fun Fh3_ h3_ => ?_
  refine WC.seq fun Fh4_ h4_ => ?_
  refine WC.region ?_
  refine RG.op _ _ rfl rfl (o_load_adr rfl Try.underlying58 rfl rfl) ?_
  refine RG.op _ _ rfl rfl (o_len_rd rfl Try.underlying58) ?_
  refine RG.op _ _ rfl rfl (o_move (.v _) rfl) ?_
  refine RG.nil (h4_ _ ?_)
  refine WC.block ?_
  refine WC.loopU [3, 4, 5, 6, 8, 9, 10, 13, 14, 15, 16, 17, 18, 19, 20, 21, 22, 23, 24, 25, 26, 27, 28, 29, 30, 31, 32, 33, 34, 35, 36, 37, 38, 39, 40] (fun (p : Nat × Nat × Nat × Int × Int × Int) => [(13, I64 ((p.1 : Nat) : Int)), (3, N64 p.2.2.1), (4, I64 p.2.2.2.1), (5, I64 p.2.2.2.2.1), (6, I64 p.2.2.2.2.2)]) (fun (p : Nat × Nat × Nat × Int × Int × Int) => [(0, some ⟨[ow 1 (bytesP prs p.2.1).length 1], 24, false, 0⟩), (1, tb 5 (bytesP prs p.2.1).length (bytesD (bytesP prs p.2.1)))]) (fun (p : Nat × Nat × Nat × Int × Int × Int) => p.1 ≤ l.length ∧ p.2.2.1 ≤ p.1 ∧ prs.drop p.2.1 = runsF (l.drop p.1) p.2.2.2.2.1 p.2.2.2.2.2 p.2.2.1 p.2.2.2.1) (fun (p : Nat × Nat × Nat × Int × Int × Int) => l.length - p.1) (0, 0, 0, 0, 0, 0) ⟨Nat.zero_le _, Nat.le_refl _, by rw [hprs]; rfl⟩ ?lpa5_ ?lpb6_
  case lpa5_ =>
    exact .mk' ⟨⟨rfl, .v _⟩, ⟨rfl, .v _⟩, ⟨rfl, .v _⟩, ⟨rfl, .v _⟩, ⟨rfl, .v _⟩, trivial⟩ (same_refl _ _) (rfl) (by repeat (first | exact trivial | refine And.intro (Nat.le_refl _) ?_ | refine And.intro trivial ?_ | refine And.intro (by show _ ≤ _; (first | omega | (simp only [LS] <;> omega))) ?_)) (by repeat (first | exact trivial | refine And.intro (one_ok (.own _ _ _ _ _ (Nat.le_refl _))) ?_ | refine And.intro (okp (by repeat (first | exact pu_bytes _ | exact pu_nil | exact pu_vs rfl | exact pu_map (fun _ => .v _) _ | exact pu_vals _ | refine pu_app ?_ ?_ | refine pu_cons (by exact pu_of rfl) ?_))) ?_))
  case lpb6_ =>
    rintro p hI
    have h00 : (bytesP prs 0).length = 0 := rfl
    have hk1 := hI.1
    have hk2 := hI.2.1
    have hk3 := hI.2.2
    refine WC.seq fun Fh7_ h7_ => ?_
    refine WC.region ?_
    refine RG.op _ _ rfl rfl (o_ltI rfl rfl) ?_
    refine RG.nil (h7_ _ ?_)
    refine WC.seq fun Fh8_ h8_ => ?_
    refine WC.cond _ rfl (fun c3 => ?_) (fun c3 => ?_)
    ·
      have p3 := c3
      try simp only [CN] at p3
      have hlt : p.1 < l.length := by omega
      refine WC.skip (h8_ _ ?_)
      refine WC.seq fun Fh9_ h9_ => ?_
      refine WC.block ?_
      refine WC.seq fun Fh10_ h10_ => ?_
      refine WC.region ?_
      refine RG.op _ _ rfl rfl (o_ixn_M p.1 rfl rfl Try.underlying58 (sz_of Ty.inf2) (by first | omega | exact ubyte _ | (simp only [LS] <;> omega)) (by first | omega | exact ubyte _ | (simp only [LS] <;> omega))) ?_
      refine RG.op _ _ rfl rfl (o_load_adr rfl Try.underlying2 rfl rfl) ?_
      refine RG.op _ _ rfl rfl (o_assign (.v _) rfl) ?_
      refine RG.nil (h10_ _ ?_)
      refine WC.seq fun Fh11_ h11_ => ?_
      refine WC.region ?_
      refine RG.op _ _ rfl rfl (o_move (.v _) rfl) ?_
      refine RG.op _ _ rfl rfl (o_move (.v _) rfl) ?_
      refine RG.op _ _ rfl rfl (o_call Ty.cal71 (wrap_c _ _) ⟨.inl rfl, .inl rfl, trivial⟩ (by exact pua rfl)) ?_
      refine RG.op _ _ rfl rfl (o_assign (.v _) rfl) ?_
      refine RG.nil (h11_ _ ?_)
      refine WC.seq fun Fh12_ h12_ => ?_
      refine WC.region ?_
      refine RG.op _ _ rfl rfl (o_move (.v _) rfl) ?_
      refine RG.op _ _ rfl rfl (o_move (.v _) rfl) ?_
      refine RG.op _ _ rfl rfl (o_call Ty.cal71 (wrap_c _ _) ⟨.inl rfl, .inl rfl, trivial⟩ (by exact pua rfl)) ?_
      refine RG.op _ _ rfl rfl (o_assign (.v _) rfl) ?_
      refine RG.nil (h12_ _ ?_)
      refine WC.seq fun Fh13_ h13_ => ?_
      refine WC.region ?_
      refine RG.op _ _ rfl rfl (o_move (.v _) rfl) ?_
      refine RG.op _ _ rfl rfl (o_move (.v _) rfl) ?_
      refine RG.op _ _ rfl rfl (o_assign (.v _) rfl) ?_
      refine RG.op _ _ rfl rfl (o_assign (.v _) rfl) ?_
      refine RG.nil (h13_ _ ?_)
      refine WC.seq fun Fh14_ h14_ => ?_
      refine WC.seq fun Fh15_ h15_ => ?_
      refine WC.region ?_
      refine RG.op _ _ rfl rfl (o_move (.v _) rfl) ?_
      refine RG.op _ _ rfl rfl (o_gtI rfl rfl) ?_
      refine RG.op _ _ rfl rfl (o_move (.v _) rfl) ?_
      refine RG.opg1 _ _ _ _ _ rfl rfl rfl rfl rfl (fun hb => o_move (.v _) rfl) ?_
      refine RG.opg1 _ _ _ _ _ rfl rfl rfl rfl rfl (fun hb => o_move (.v _) rfl) ?_
      refine RG.opg1 _ _ _ _ _ rfl rfl rfl rfl rfl (fun hb => o_neI (gdT hb) (gdT hb)) ?_
      refine RG.op _ _ rfl rfl (o_and _ _ rfl rfl rfl) ?_
      refine RG.nil (h15_ _ ?_)
      refine WC.cond _ rfl (fun c8 => ?_) (fun c8 => ?_)
      ·
        have p8 := c8
        try simp only [CN] at p8
        have hd := drop_head (hk3.trans (runsF_yield hlt (by omega) p8.2))
        have hyk := hy_ p.2.1 hd.1
        rw [hd.2.1] at hyk
        refine WC.seq fun Fh16_ h16_ => ?_
        refine WC.seq fun Fh17_ h17_ => ?_
        refine WC.region ?_
        refine RG.op _ _ rfl rfl (o_move (.v _) rfl) ?_
        refine RG.op _ _ rfl rfl (o_move (.v _) rfl) ?_
        refine RG.op _ _ rfl rfl (o_move (.v _) rfl) ?_
        refine RG.opM _ _ rfl rfl (x_yieldF (ds := [N64 p.2.2.1, I64 p.2.2.2.1]) (putH prs p.2.1) (putH prs (p.2.1 + 1)) [] rfl hC_ (by rw [har_]; rfl) ⟨.inl rfl, .inl rfl, trivial⟩ (by exact pua rfl) rfl rfl (putH_ok _ _) (putH_ok _ _) hyk) ?_
        refine RG.op _ _ rfl rfl (o_not rfl) ?_
        refine RG.nil (h17_ _ ?_)
        refine WC.cond _ rfl (fun c9 => ?_) (fun c9 => ?_)
        ·
          have p9 := c9
          try simp only [CN] at p9
          cases c9
        ·
          have p9 := c9
          try simp only [CN] at p9
          refine WC.skip (h16_ _ ?_)
          refine WC.region ?_
          refine RG.op _ _ rfl rfl (o_assign (N64 0) rfl) ?_
          refine RG.nil (h14_ _ ?_)
          refine WC.region ?_
          refine RG.op _ _ rfl rfl (o_move (N64 0) rfl) ?_
          refine RG.op _ _ rfl rfl (o_addU (a := 0) (b := 1) rfl rfl) ?_
          refine RG.op _ _ rfl rfl (o_move (.v _) rfl) ?_
          refine RG.op _ _ rfl rfl (o_assign (.v _) rfl) ?_
          refine RG.op _ _ rfl rfl (o_assign (.v _) rfl) ?_
          refine RG.nil (h9_ _ ?_)
          refine WC.region ?_
          refine RG.op _ _ rfl rfl (o_add rfl rfl (by first | omega | exact ubyte _ | (simp only [LS] <;> omega)) (by first | omega | exact ubyte _ | (simp only [LS] <;> omega))) ?_
          refine RG.op _ _ rfl rfl (o_move (.v _) rfl) ?_
          refine RG.nil (Exists.intro ((p.1 + 1, p.2.1 + 1, 1, wrapI (wrapI (l[p.1]'hlt) p.2.2.2.2.1) p.2.2.2.2.2, l[p.1]'hlt, wrapI (l[p.1]'hlt) p.2.2.2.2.1)) ⟨⟨by show p.1 + 1 ≤ _; omega, by show 1 ≤ p.1 + 1; omega, hd.2.2⟩, (by show _ < _; omega), ?_⟩)
          exact .mk' ⟨⟨rfl, .v _⟩, ⟨rfl, .v _⟩, ⟨rfl, .v _⟩, ⟨rfl, .v _⟩, ⟨rfl, .v _⟩, trivial⟩ (by repeat (first | with_reducible exact same_refl _ _ | with_reducible refine same_updO (by with_unfolding_all exact rfl) ?_ | with_reducible refine same_updN ?_ | with_reducible refine same_updL (by with_unfolding_all exact rfl) ?_ | with_reducible refine same_forget (by with_unfolding_all exact rfl) ?_)) (rfl) (by repeat (first | exact trivial | refine And.intro (Nat.le_refl _) ?_ | refine And.intro trivial ?_ | refine And.intro (by show _ ≤ _; (first | omega | (simp only [LS] <;> omega))) ?_)) (by repeat (first | exact trivial | refine And.intro (one_ok (.own _ _ _ _ _ (Nat.le_refl _))) ?_ | refine And.intro (okp (by repeat (first | exact pu_bytes _ | exact pu_nil | exact pu_vs rfl | exact pu_map (fun _ => .v _) _ | exact pu_vals _ | refine pu_app ?_ ?_ | refine pu_cons (by exact pu_of rfl) ?_))) ?_))
      ·
        have p8 := c8
        try simp only [CN] at p8
        refine WC.skip (h14_ _ ?_)
        refine WC.region ?_
        refine RG.op _ _ rfl rfl (o_move (.v _) rfl) ?_
        refine RG.op _ _ rfl rfl (o_addU (b := 1) rfl rfl) ?_
        refine RG.op _ _ rfl rfl (o_move (.v _) rfl) ?_
        refine RG.op _ _ rfl rfl (o_assign (.v _) rfl) ?_
        refine RG.op _ _ rfl rfl (o_assign (.v _) rfl) ?_
        refine RG.nil (h9_ _ ?_)
        refine WC.region ?_
        refine RG.op _ _ rfl rfl (o_add rfl rfl (by first | omega | exact ubyte _ | (simp only [LS] <;> omega)) (by first | omega | exact ubyte _ | (simp only [LS] <;> omega))) ?_
        refine RG.op _ _ rfl rfl (o_move (.v _) rfl) ?_
        refine RG.nil (Exists.intro ((p.1 + 1, p.2.1, p.2.2.1 + 1, wrapI (wrapI (l[p.1]'hlt) p.2.2.2.2.1) p.2.2.2.2.2, l[p.1]'hlt, wrapI (l[p.1]'hlt) p.2.2.2.2.1)) ⟨⟨by show p.1 + 1 ≤ _; omega, by show p.2.2.1 + 1 ≤ p.1 + 1; omega, by rw [hk3]; exact runsF_on hlt (by rintro ⟨h1, h2⟩; rcases p8 with h | h; omega; exact h2 h)⟩, (by show _ < _; omega), ?_⟩)
        exact .mk' ⟨⟨rfl, .v _⟩, ⟨congrArg N64 (show (p.2.2.1 + 1) % 18446744073709551616 = p.2.2.1 + 1 by omega), .v _⟩, ⟨rfl, .v _⟩, ⟨rfl, .v _⟩, ⟨rfl, .v _⟩, trivial⟩ (by repeat (first | with_reducible exact same_refl _ _ | with_reducible refine same_updO (by with_unfolding_all exact rfl) ?_ | with_reducible refine same_updN ?_ | with_reducible refine same_updL (by with_unfolding_all exact rfl) ?_ | with_reducible refine same_forget (by with_unfolding_all exact rfl) ?_)) (rfl) (by repeat (first | exact trivial | refine And.intro (Nat.le_refl _) ?_ | refine And.intro trivial ?_ | refine And.intro (by show _ ≤ _; (first | omega | (simp only [LS] <;> omega))) ?_)) (by repeat (first | exact trivial | refine And.intro (one_ok (.own _ _ _ _ _ (Nat.le_refl _))) ?_ | refine And.intro (okp (by repeat (first | exact pu_bytes _ | exact pu_nil | exact pu_vs rfl | exact pu_map (fun _ => .v _) _ | exact pu_vals _ | refine pu_app ?_ ?_ | refine pu_cons (by exact pu_of rfl) ?_))) ?_))
    ·
      have p3 := c3
      try simp only [CN] at p3
      have hen : l.drop p.1 = [] := List.drop_eq_nil_of_le (by omega)
      refine WC.exit (h3_ _ ?_)
      refine WC.seq fun Fh18_ h18_ => ?_
      refine WC.region ?_
      refine RG.op _ _ rfl rfl (o_move (.v _) rfl) ?_
      refine RG.op _ _ rfl rfl (o_gtI rfl rfl) ?_
      refine RG.nil (h18_ _ ?_)
      refine WC.cond _ rfl (fun c13 => ?_) (fun c13 => ?_)
      ·
        have p13 := c13
        try simp only [CN] at p13
        have hd := drop_head (hk3.trans (runsF_last hen (by omega)))
        have hyk := hy_ p.2.1 hd.1
        rw [hd.2.1] at hyk
        refine WC.region ?_
        refine RG.op _ _ rfl rfl (o_move (.v _) rfl) ?_
        refine RG.op _ _ rfl rfl (o_move (.v _) rfl) ?_
        refine RG.op _ _ rfl rfl (o_move (.v _) rfl) ?_
        refine RG.opM _ _ rfl rfl (x_yieldF (ds := [N64 p.2.2.1, I64 p.2.2.2.1]) (putH prs p.2.1) (putH prs (p.2.1 + 1)) [] rfl hC_ (by rw [har_]; rfl) ⟨.inl rfl, .inl rfl, trivial⟩ (by exact pua rfl) rfl rfl (putH_ok _ _) (putH_ok _ _) hyk) ?_
        refine RG.nil ?_
        refine endM.mkN 2 [_, _] rfl rfl (by repeat (first | exact trivial | refine And.intro (one_ok (.own _ _ _ _ _ (Nat.le_refl _))) ?_ | refine And.intro (okp (by repeat (first | exact pu_bytes _ | exact pu_nil | exact pu_vs rfl | exact pu_map (fun _ => .v _) _ | exact pu_vals _ | refine pu_app ?_ ?_ | refine pu_cons (by exact pu_of rfl) ?_))) ?_)) ?_
        exact EndsM.r0 rfl   (⟨⟨_, rfl⟩, putH_all hd.2.2⟩)
      ·
        have p13 := c13
        try simp only [CN] at p13
        have hno := hk3.trans (runsF_none hen (by omega))
        refine WC.skip ?_
        refine endM.mkN 2 [_, _] rfl rfl (by repeat (first | exact trivial | refine And.intro (one_ok (.own _ _ _ _ _ (Nat.le_refl _))) ?_ | refine And.intro (okp (by repeat (first | exact pu_bytes _ | exact pu_nil | exact pu_vs rfl | exact pu_map (fun _ => .v _) _ | exact pu_vals _ | refine pu_app ?_ ?_ | refine pu_cons (by exact pu_of rfl) ?_))) ?_)) ?_
        exact EndsM.r0 rfl   (⟨⟨_, rfl⟩, putH_all hno⟩)
end Go.Proofs.Ytpdjcfhmdeeikaa
namespace Go.Proofs.Ytpdjcfhmdeeikaa
open Go.RowKit Go.DL

set_option maxHeartbeats 4000000 in
theorem runs_c (l : List Int) : Fun Try.prog 63 [rdI l] (· = .fn (.func 70) [.adr [rdI l]]) := by
  refine Fun.of Try.func63 rfl (Nat.le_of_ble_eq_true rfl) fun C => ?_
  refine WC.seq fun Fh1_ h1_ => ?_
  refine WC.region ?_
  refine RG.op _ _ rfl rfl (o_box (d := .rd _ _) rfl rfl) ?_
  refine RG.op _ _ rfl rfl (o_assign (.v _) rfl) ?_
  refine RG.nil (h1_ _ ?_)
  refine WC.seq fun Fh2_ h2_ => ?_
  refine WC.frz 0 _ [(1, .adr [rdI l])] rfl (by repeat (first | exact pu_bytes _ | exact pu_nil | exact pu_vs rfl | exact pu_map (fun _ => .v _) _ | exact pu_vals _ | refine pu_app ?_ ?_ | refine pu_cons (by exact pu_of rfl) ?_)) ⟨.ptr 0, trivial⟩ ?_
  refine WC.region ?_
  refine RG.op _ _ rfl rfl (o_makeFunc) ?_
  refine RG.op _ _ rfl rfl (o_assign (.fn _ _) rfl) ?_
  refine RG.nil (h2_ _ ?_)
  refine WC.ret ?_
  exact Ends.r1 rfl (.tmp _ (.fn _ _) rfl) (.pure' (by exact pu_of rfl)) (rfl)
theorem wrap_rng (a b : Int) : -9223372036854775808 ≤ wrapI a b ∧ wrapI a b ≤ 9223372036854775807 := by
  unfold wrapI sgn
  split <;> omega
theorem runsF_ok : ∀ (l : List Int) (la st : Int) (n : Nat) (c : Int), n + l.length ≤ 18446744073709551615 → -9223372036854775808 ≤ c → c ≤ 9223372036854775807 → (∀ p ∈ runsF l la st n c, okP p) ∧ (runsF l la st n c).length ≤ l.length + 1
  | [], la, st, n, c, h, h1, h2 => by
    rw [runsF]
    split
    · refine ⟨fun p hp => ?_, by simp⟩
      rw [List.mem_singleton] at hp
      subst hp
      exact ⟨by simpa using h, h1, h2⟩
    · exact ⟨fun p hp => by simp at hp, by simp⟩
  | v :: l, la, st, n, c, h, h1, h2 => by
    have hw := wrap_rng (wrapI v la) st
    rw [List.length_cons] at h
    rw [runsF]
    split
    · have ih := runsF_ok l v (wrapI v la) 1 _ (by omega) hw.1 hw.2
      refine ⟨fun p hp => ?_, by simp only [List.length_cons]; omega⟩
      rcases List.mem_cons.1 hp with rfl | hp
      · exact ⟨show n ≤ _ by omega, h1, h2⟩
      · exact ih.1 p hp
    · have ih := runsF_ok l v (wrapI v la) (n + 1) _ (by omega) hw.1 hw.2
      exact ⟨ih.1, by simp only [List.length_cons]; omega⟩
def putI5 (l : List Int) : List UInt8 := (runsM l).flatMap encP
theorem iputs_c (l : List Int) (hl : l.length ≤ 1099511627775) : Fun Try.prog 52 [rdI l] (· = rdB (putI5 l)) := by
  have h := runsF_ok l 0 0 0 0 (by omega) (by decide) (by decide)
  have h2 := iput_c l (runsM l) h.1 (by have := h.2; unfold runsM; omega) (runs_c l) (runs1_c l (by omega) _ rfl)
  have e : bytesP (runsM l) (runsM l).length = putI5 l := by unfold bytesP putI5; rw [List.take_length]
  rw [e] at h2
  exact h2
end Go.Proofs.Ytpdjcfhmdeeikaa



namespace Go.Proofs.Ytpdjcfhmdeeikaa
open Go.RowKit Go.DL

/-- A number, going round. -/
def uI (x : Int) : Nat := (x % 18446744073709551616).toNat
def sbN (a b : Nat) : Nat := (a + (18446744073709551616 - b)) % 18446744073709551616
def laN (l : List Int) (i : Nat) : Nat := if 0 < i then uI (l.getD (i - 1) 0) else 0
def stN (l : List Int) (i : Nat) : Nat := if 1 < i then sbN (laN l i) (uI (l.getD (i - 2) 0)) else laN l i
def chg (l : List Int) (i : Nat) : Nat := sbN (sbN (uI (l.getD i 0)) (laN l i)) (stN l i)
def chgs (l : List Int) (k : Nat) : List Nat := (List.range k).map (chg l)
theorem chgs_len (l : List Int) (k : Nat) : (chgs l k).length = k := by simp [chgs]
theorem uI_le (x : Int) : uI x ≤ 18446744073709551615 := by unfold uI; omega
theorem sbN_le (a b : Nat) : sbN a b ≤ 18446744073709551615 := by unfold sbN; omega
theorem laN_le (l : List Int) (i : Nat) : laN l i ≤ 18446744073709551615 := by unfold laN; split; exact uI_le _; omega
theorem stN_le (l : List Int) (i : Nat) : stN l i ≤ 18446744073709551615 := by unfold stN; split; exact sbN_le _ _; exact laN_le _ _
theorem gI_at {l : List Int} {i : Nat} (h : i < l.length) : l[i] = l.getD i 0 := by simp [List.getD, h]
abbrev rdU (l : List Nat) : D := .rd l.length (l.map N64)
theorem chg_step {l : List Int} {k v : Nat} (h : v = chg l k) : (chgs l k).map N64 ++ [N64 v] = (chgs l (k + 1)).map N64 := by
  subst h
  unfold chgs
  rw [List.range_succ, List.map_append, List.map_append]; rfl
set_option maxHeartbeats 4000000 in
theorem changes_c (l : List Int) (hl : l.length ≤ 1099511627776) : Fun Try.prog 43 [rdI l] (· = rdU (chgs l l.length)) := by
  refine Fun.of Try.func43 rfl (Nat.le_of_ble_eq_true rfl) fun C => ?_
  refine WC.seq fun Fh1_ h1_ => ?_
  refine WC.region ?_
  refine RG.op _ _ rfl rfl (o_assign (.v _) rfl) ?_
  refine RG.nil (h1_ _ ?_)
  refine WC.seq fun Fh2_ h2_ => ?_
  refine WC.region ?_
  refine RG.op _ _ rfl rfl (o_nil 69 1) ?_
  refine RG.nil (h2_ _ ?_)
  refine WC.seq fun Fh3_ h3_ => ?_
  refine WC.seq fun Fh4_ h4_ => ?_
  refine WC.region ?_
  refine RG.op _ _ rfl rfl (o_assign (.v _) rfl) ?_
  refine RG.nil (h4_ _ ?_)
  refine WC.block ?_
  refine WC.loopU [3, 4, 5, 6, 7, 8, 9, 10, 11, 12, 13, 14, 15, 16, 17, 18, 19, 20, 21, 22, 23, 24, 25, 26, 27, 28, 29, 30, 31, 32, 33, 34, 35, 36, 37, 38, 39, 40, 41, 42, 43] (fun (k : Nat) => [(4, I64 ((k : Nat) : Int)), (3, ow 0 k 1)]) (fun (k : Nat) => [(0, tb 69 k ((chgs l k).map N64))]) (fun (k : Nat) => k ≤ l.length) (fun (k : Nat) => l.length - k) 0 (by first | omega | exact ubyte _ | (simp only [LS] <;> omega)) ?lpa5_ ?lpb6_
  case lpa5_ =>
    exact .mk' ⟨⟨rfl, .v _⟩, ⟨rfl, (by first | exact .own _ _ _ _ _ (Nat.le_refl _) | exact .ptr _ _ _ (Nat.le_refl _) | exact .omp _ _ (Nat.le_refl _))⟩, trivial⟩ (same_refl _ _) (rfl) (by repeat (first | exact trivial | refine And.intro (Nat.le_refl _) ?_ | refine And.intro trivial ?_ | refine And.intro (by show _ ≤ _; (first | omega | (simp only [LS] <;> omega))) ?_)) (by repeat (first | exact trivial | refine And.intro (one_ok (.own _ _ _ _ _ (Nat.le_refl _))) ?_ | refine And.intro (okp (by repeat (first | exact pu_bytes _ | exact pu_nil | exact pu_vs rfl | exact pu_map (fun _ => .v _) _ | exact pu_vals _ | refine pu_app ?_ ?_ | refine pu_cons (by exact pu_of rfl) ?_))) ?_))
  case lpb6_ =>
    rintro k hI
    have hcl := chgs_len l k
    refine WC.seq fun Fh7_ h7_ => ?_
    refine WC.seq fun Fh8_ h8_ => ?_
    refine WC.region ?_
    refine RG.op _ _ rfl rfl (o_move (.v _) rfl) ?_
    refine RG.op _ _ rfl rfl (o_move (.rd _ _) rfl) ?_
    refine RG.op _ _ rfl rfl (o_len_rd rfl Try.underlying58) ?_
    refine RG.op _ _ rfl rfl (o_ltI rfl rfl) ?_
    refine RG.nil (h8_ _ ?_)
    refine WC.cond _ rfl (fun c3 => ?_) (fun c3 => ?_)
    ·
      have p3 := c3
      try simp only [CN] at p3
      have hkl : k < l.length := by omega
      refine WC.skip (h7_ _ ?_)
      refine WC.seq fun Fh9_ h9_ => ?_
      refine WC.block ?_
      refine WC.seq fun Fh10_ h10_ => ?_
      refine WC.region ?_
      refine RG.op _ _ rfl rfl (o_assign (N64 0) rfl) ?_
      refine RG.nil (h10_ _ ?_)
      refine WC.seq fun Fh11_ h11_ => ?_
      refine WC.region ?_
      refine RG.op _ _ rfl rfl (o_assign (N64 0) rfl) ?_
      refine RG.nil (h11_ _ ?_)
      refine WC.seq fun Fh12_ h12_ => ?_
      refine WC.seq fun Fh13_ h13_ => ?_
      refine WC.region ?_
      refine RG.op _ _ rfl rfl (o_move (.v _) rfl) ?_
      refine RG.op _ _ rfl rfl (o_gtI rfl rfl) ?_
      refine RG.nil (h13_ _ ?_)
      refine WC.cond _ rfl (fun c7 => ?_) (fun c7 => ?_)
      ·
        have p7 := c7
        try simp only [CN] at p7
        refine WC.seq fun Fh14_ h14_ => ?_
        refine WC.region ?_
        refine RG.op _ _ rfl rfl (o_move (.rd _ _) rfl) ?_
        refine RG.op _ _ rfl rfl (o_move (.v _) rfl) ?_
        refine RG.op _ _ rfl rfl (o_sub rfl rfl (by first | omega | exact ubyte _ | (simp only [LS] <;> omega)) (by first | omega | exact ubyte _ | (simp only [LS] <;> omega))) ?_
        refine RG.op _ _ rfl rfl (o_ixn_M (k - 1) rfl rfl Try.underlying58 (sz_of Ty.inf2) (by first | omega | exact ubyte _ | (simp only [LS] <;> omega)) (by first | omega | exact ubyte _ | (simp only [LS] <;> omega))) ?_
        refine RG.op _ _ rfl rfl (o_load_adr rfl Try.underlying2 rfl rfl) ?_
        refine RG.op _ _ rfl rfl (o_i64toU rfl Try.underlying2 Try.underlying69) ?_
        refine RG.op _ _ rfl rfl (o_assign (.v _) rfl) ?_
        refine RG.nil (h14_ _ ?_)
        refine WC.region ?_
        refine RG.op _ _ rfl rfl (o_move (.v _) rfl) ?_
        refine RG.op _ _ rfl rfl (o_assign (.v _) rfl) ?_
        refine RG.nil (h12_ _ ?_)
        refine WC.seq fun Fh15_ h15_ => ?_
        refine WC.seq fun Fh16_ h16_ => ?_
        refine WC.region ?_
        refine RG.op _ _ rfl rfl (o_move (.v _) rfl) ?_
        refine RG.op _ _ rfl rfl (o_gtI rfl rfl) ?_
        refine RG.nil (h16_ _ ?_)
        refine WC.cond _ rfl (fun c10 => ?_) (fun c10 => ?_)
        ·
          have p10 := c10
          try simp only [CN] at p10
          refine WC.region ?_
          refine RG.op _ _ rfl rfl (o_move (.v _) rfl) ?_
          refine RG.op _ _ rfl rfl (o_move (.rd _ _) rfl) ?_
          refine RG.op _ _ rfl rfl (o_move (.v _) rfl) ?_
          refine RG.op _ _ rfl rfl (o_sub rfl rfl (by first | omega | exact ubyte _ | (simp only [LS] <;> omega)) (by first | omega | exact ubyte _ | (simp only [LS] <;> omega))) ?_
          refine RG.op _ _ rfl rfl (o_ixn_M (k - 2) rfl rfl Try.underlying58 (sz_of Ty.inf2) (by first | omega | exact ubyte _ | (simp only [LS] <;> omega)) (by first | omega | exact ubyte _ | (simp only [LS] <;> omega))) ?_
          refine RG.op _ _ rfl rfl (o_load_adr rfl Try.underlying2 rfl rfl) ?_
          refine RG.op _ _ rfl rfl (o_i64toU rfl Try.underlying2 Try.underlying69) ?_
          refine RG.op _ _ rfl rfl (o_subU rfl rfl (by first | omega | exact ubyte _ | (simp only [LS] <;> omega))) ?_
          refine RG.op _ _ rfl rfl (o_assign (.v _) rfl) ?_
          refine RG.nil (h15_ _ ?_)
          refine WC.region ?_
          refine RG.op _ _ rfl rfl (o_move (.own _ _ _ _ _) rfl) ?_
          refine RG.op _ _ rfl rfl (o_move (.rd _ _) rfl) ?_
          refine RG.op _ _ rfl rfl (o_move (.v _) rfl) ?_
          refine RG.op _ _ rfl rfl (o_ixn_M k rfl rfl Try.underlying58 (sz_of Ty.inf2) (by first | omega | exact ubyte _ | (simp only [LS] <;> omega)) (by first | omega | exact ubyte _ | (simp only [LS] <;> omega))) ?_
          refine RG.op _ _ rfl rfl (o_load_adr rfl Try.underlying2 rfl rfl) ?_
          refine RG.op _ _ rfl rfl (o_i64toU rfl Try.underlying2 Try.underlying69) ?_
          refine RG.op _ _ rfl rfl (o_move (.v _) rfl) ?_
          refine RG.op _ _ rfl rfl (o_subU rfl rfl (by first | omega | exact ubyte _ | (simp only [LS] <;> omega))) ?_
          refine RG.op _ _ rfl rfl (o_move (.v _) rfl) ?_
          refine RG.op _ _ rfl rfl (o_subU rfl rfl (by first | omega | exact ubyte _ | (simp only [LS] <;> omega))) ?_
          refine RG.op _ _ rfl rfl (o_litP (cs := [(.v _)]) Try.underlying67 Ty.inf69 rfl rfl rfl rfl (by repeat (first | exact pu_bytes _ | exact pu_nil | exact pu_vs rfl | exact pu_map (fun _ => .v _) _ | exact pu_vals _ | refine pu_app ?_ ?_ | refine pu_cons (by exact pu_of rfl) ?_))) ?_
          refine RG.op _ _ rfl rfl (o_appT (Elem.of Try.underlying67 Ty.inf69 rfl (by decide)) rfl rfl rfl (by first | omega | exact ubyte _ | (simp only [LS] <;> omega)) (by first | omega | exact ubyte _ | (simp only [LS] <;> omega)) (by repeat (first | exact bytesD_one _ | exact one_nil | exact one_map (fun _ => rfl) _ | exact one_vals _ | refine one_app ?_ ?_ | refine one_cons rfl ?_)) (by first | omega | exact ubyte _ | (simp only [LS] <;> omega)) (by first | omega | exact ubyte _ | (simp only [LS] <;> omega))) ?_
          refine RG.op _ _ rfl rfl (o_assign (.own _ _ _ _ _) rfl) ?_
          refine RG.nil (h9_ _ ?_)
          refine WC.region ?_
          refine RG.op _ _ rfl rfl (o_move (.v _) rfl) ?_
          refine RG.op _ _ rfl rfl (o_add rfl rfl (by first | omega | exact ubyte _ | (simp only [LS] <;> omega)) (by first | omega | exact ubyte _ | (simp only [LS] <;> omega))) ?_
          refine RG.op _ _ rfl rfl (o_assign (.v _) rfl) ?_
          refine RG.nil (Exists.intro (k + 1) ⟨by first | omega | (simp only [LS] <;> omega), by first | omega | (simp only [LS] <;> omega), ?_⟩)
          exact .mk' ⟨⟨rfl, .v _⟩, ⟨rfl, (by first | exact .own _ _ _ _ _ (Nat.le_refl _) | exact .ptr _ _ _ (Nat.le_refl _) | exact .omp _ _ (Nat.le_refl _))⟩, trivial⟩ (by repeat (first | with_reducible exact same_refl _ _ | with_reducible refine same_updO (by with_unfolding_all exact rfl) ?_ | with_reducible refine same_updN ?_ | with_reducible refine same_updL (by with_unfolding_all exact rfl) ?_ | with_reducible refine same_forget (by with_unfolding_all exact rfl) ?_)) (congrArg (fun c => [c]) (tb_eq rfl (chg_step (by unfold chg stN laN; rw [if_pos (by omega), if_pos (by omega), ← gI_at (by omega), ← gI_at (by omega), ← gI_at (by omega)]; unfold sbN uI; first | (exfalso; omega) | rfl)))) (by repeat (first | exact trivial | refine And.intro (Nat.le_refl _) ?_ | refine And.intro trivial ?_ | refine And.intro (by show _ ≤ _; (first | omega | (simp only [LS] <;> omega))) ?_)) (by repeat (first | exact trivial | refine And.intro (one_ok (.own _ _ _ _ _ (Nat.le_refl _))) ?_ | refine And.intro (okp (by repeat (first | exact pu_bytes _ | exact pu_nil | exact pu_vs rfl | exact pu_map (fun _ => .v _) _ | exact pu_vals _ | refine pu_app ?_ ?_ | refine pu_cons (by exact pu_of rfl) ?_))) ?_))
        ·
          have p10 := c10
          try simp only [CN] at p10
          refine WC.skip (h15_ _ ?_)
          refine WC.region ?_
          refine RG.op _ _ rfl rfl (o_move (.own _ _ _ _ _) rfl) ?_
          refine RG.op _ _ rfl rfl (o_move (.rd _ _) rfl) ?_
          refine RG.op _ _ rfl rfl (o_move (.v _) rfl) ?_
          refine RG.op _ _ rfl rfl (o_ixn_M k rfl rfl Try.underlying58 (sz_of Ty.inf2) (by first | omega | exact ubyte _ | (simp only [LS] <;> omega)) (by first | omega | exact ubyte _ | (simp only [LS] <;> omega))) ?_
          refine RG.op _ _ rfl rfl (o_load_adr rfl Try.underlying2 rfl rfl) ?_
          refine RG.op _ _ rfl rfl (o_i64toU rfl Try.underlying2 Try.underlying69) ?_
          refine RG.op _ _ rfl rfl (o_move (.v _) rfl) ?_
          refine RG.op _ _ rfl rfl (o_subU rfl rfl (by first | omega | exact ubyte _ | (simp only [LS] <;> omega))) ?_
          refine RG.op _ _ rfl rfl (o_move (.v _) rfl) ?_
          refine RG.op _ _ rfl rfl (o_subU rfl rfl (by first | omega | exact ubyte _ | (simp only [LS] <;> omega))) ?_
          refine RG.op _ _ rfl rfl (o_litP (cs := [(.v _)]) Try.underlying67 Ty.inf69 rfl rfl rfl rfl (by repeat (first | exact pu_bytes _ | exact pu_nil | exact pu_vs rfl | exact pu_map (fun _ => .v _) _ | exact pu_vals _ | refine pu_app ?_ ?_ | refine pu_cons (by exact pu_of rfl) ?_))) ?_
          refine RG.op _ _ rfl rfl (o_appT (Elem.of Try.underlying67 Ty.inf69 rfl (by decide)) rfl rfl rfl (by first | omega | exact ubyte _ | (simp only [LS] <;> omega)) (by first | omega | exact ubyte _ | (simp only [LS] <;> omega)) (by repeat (first | exact bytesD_one _ | exact one_nil | exact one_map (fun _ => rfl) _ | exact one_vals _ | refine one_app ?_ ?_ | refine one_cons rfl ?_)) (by first | omega | exact ubyte _ | (simp only [LS] <;> omega)) (by first | omega | exact ubyte _ | (simp only [LS] <;> omega))) ?_
          refine RG.op _ _ rfl rfl (o_assign (.own _ _ _ _ _) rfl) ?_
          refine RG.nil (h9_ _ ?_)
          refine WC.region ?_
          refine RG.op _ _ rfl rfl (o_move (.v _) rfl) ?_
          refine RG.op _ _ rfl rfl (o_add rfl rfl (by first | omega | exact ubyte _ | (simp only [LS] <;> omega)) (by first | omega | exact ubyte _ | (simp only [LS] <;> omega))) ?_
          refine RG.op _ _ rfl rfl (o_assign (.v _) rfl) ?_
          refine RG.nil (Exists.intro (k + 1) ⟨by first | omega | (simp only [LS] <;> omega), by first | omega | (simp only [LS] <;> omega), ?_⟩)
          exact .mk' ⟨⟨rfl, .v _⟩, ⟨rfl, (by first | exact .own _ _ _ _ _ (Nat.le_refl _) | exact .ptr _ _ _ (Nat.le_refl _) | exact .omp _ _ (Nat.le_refl _))⟩, trivial⟩ (by repeat (first | with_reducible exact same_refl _ _ | with_reducible refine same_updO (by with_unfolding_all exact rfl) ?_ | with_reducible refine same_updN ?_ | with_reducible refine same_updL (by with_unfolding_all exact rfl) ?_ | with_reducible refine same_forget (by with_unfolding_all exact rfl) ?_)) (congrArg (fun c => [c]) (tb_eq rfl (chg_step (by unfold chg stN laN; rw [if_pos (by omega), if_neg (by omega), ← gI_at (by omega), ← gI_at (by omega)]; unfold sbN uI; first | (exfalso; omega) | rfl)))) (by repeat (first | exact trivial | refine And.intro (Nat.le_refl _) ?_ | refine And.intro trivial ?_ | refine And.intro (by show _ ≤ _; (first | omega | (simp only [LS] <;> omega))) ?_)) (by repeat (first | exact trivial | refine And.intro (one_ok (.own _ _ _ _ _ (Nat.le_refl _))) ?_ | refine And.intro (okp (by repeat (first | exact pu_bytes _ | exact pu_nil | exact pu_vs rfl | exact pu_map (fun _ => .v _) _ | exact pu_vals _ | refine pu_app ?_ ?_ | refine pu_cons (by exact pu_of rfl) ?_))) ?_))
      ·
        have p7 := c7
        try simp only [CN] at p7
        refine WC.skip (h12_ _ ?_)
        refine WC.seq fun Fh17_ h17_ => ?_
        refine WC.seq fun Fh18_ h18_ => ?_
        refine WC.region ?_
        refine RG.op _ _ rfl rfl (o_move (.v _) rfl) ?_
        refine RG.op _ _ rfl rfl (o_gtI rfl rfl) ?_
        refine RG.nil (h18_ _ ?_)
        refine WC.cond _ rfl (fun c10 => ?_) (fun c10 => ?_)
        ·
          have p10 := c10
          try simp only [CN] at p10
          refine WC.region ?_
          refine RG.op _ _ rfl rfl (o_move (N64 0) rfl) ?_
          refine RG.op _ _ rfl rfl (o_move (.rd _ _) rfl) ?_
          refine RG.op _ _ rfl rfl (o_move (.v _) rfl) ?_
          refine RG.op _ _ rfl rfl (o_sub rfl rfl (by first | omega | exact ubyte _ | (simp only [LS] <;> omega)) (by first | omega | exact ubyte _ | (simp only [LS] <;> omega))) ?_
          refine RG.op _ _ rfl rfl (o_ixn_M (k - 2) rfl rfl Try.underlying58 (sz_of Ty.inf2) (by first | omega | exact ubyte _ | (simp only [LS] <;> omega)) (by first | omega | exact ubyte _ | (simp only [LS] <;> omega))) ?_
          refine RG.op _ _ rfl rfl (o_load_adr rfl Try.underlying2 rfl rfl) ?_
          refine RG.op _ _ rfl rfl (o_i64toU rfl Try.underlying2 Try.underlying69) ?_
          refine RG.op _ _ rfl rfl (o_subU (a := 0) rfl rfl (by first | omega | exact ubyte _ | (simp only [LS] <;> omega))) ?_
          refine RG.op _ _ rfl rfl (o_assign (.v _) rfl) ?_
          refine RG.nil (h17_ _ ?_)
          refine WC.region ?_
          refine RG.op _ _ rfl rfl (o_move (.own _ _ _ _ _) rfl) ?_
          refine RG.op _ _ rfl rfl (o_move (.rd _ _) rfl) ?_
          refine RG.op _ _ rfl rfl (o_move (.v _) rfl) ?_
          refine RG.op _ _ rfl rfl (o_ixn_M k rfl rfl Try.underlying58 (sz_of Ty.inf2) (by first | omega | exact ubyte _ | (simp only [LS] <;> omega)) (by first | omega | exact ubyte _ | (simp only [LS] <;> omega))) ?_
          refine RG.op _ _ rfl rfl (o_load_adr rfl Try.underlying2 rfl rfl) ?_
          refine RG.op _ _ rfl rfl (o_i64toU rfl Try.underlying2 Try.underlying69) ?_
          refine RG.op _ _ rfl rfl (o_move (N64 0) rfl) ?_
          refine RG.op _ _ rfl rfl (o_subU (b := 0) rfl rfl (by first | omega | exact ubyte _ | (simp only [LS] <;> omega))) ?_
          refine RG.op _ _ rfl rfl (o_move (.v _) rfl) ?_
          refine RG.op _ _ rfl rfl (o_subU rfl rfl (by first | omega | exact ubyte _ | (simp only [LS] <;> omega))) ?_
          refine RG.op _ _ rfl rfl (o_litP (cs := [(.v _)]) Try.underlying67 Ty.inf69 rfl rfl rfl rfl (by repeat (first | exact pu_bytes _ | exact pu_nil | exact pu_vs rfl | exact pu_map (fun _ => .v _) _ | exact pu_vals _ | refine pu_app ?_ ?_ | refine pu_cons (by exact pu_of rfl) ?_))) ?_
          refine RG.op _ _ rfl rfl (o_appT (Elem.of Try.underlying67 Ty.inf69 rfl (by decide)) rfl rfl rfl (by first | omega | exact ubyte _ | (simp only [LS] <;> omega)) (by first | omega | exact ubyte _ | (simp only [LS] <;> omega)) (by repeat (first | exact bytesD_one _ | exact one_nil | exact one_map (fun _ => rfl) _ | exact one_vals _ | refine one_app ?_ ?_ | refine one_cons rfl ?_)) (by first | omega | exact ubyte _ | (simp only [LS] <;> omega)) (by first | omega | exact ubyte _ | (simp only [LS] <;> omega))) ?_
          refine RG.op _ _ rfl rfl (o_assign (.own _ _ _ _ _) rfl) ?_
          refine RG.nil (h9_ _ ?_)
          refine WC.region ?_
          refine RG.op _ _ rfl rfl (o_move (.v _) rfl) ?_
          refine RG.op _ _ rfl rfl (o_add rfl rfl (by first | omega | exact ubyte _ | (simp only [LS] <;> omega)) (by first | omega | exact ubyte _ | (simp only [LS] <;> omega))) ?_
          refine RG.op _ _ rfl rfl (o_assign (.v _) rfl) ?_
          refine RG.nil (Exists.intro (k + 1) ⟨by first | omega | (simp only [LS] <;> omega), by first | omega | (simp only [LS] <;> omega), ?_⟩)
          exact .mk' ⟨⟨rfl, .v _⟩, ⟨rfl, (by first | exact .own _ _ _ _ _ (Nat.le_refl _) | exact .ptr _ _ _ (Nat.le_refl _) | exact .omp _ _ (Nat.le_refl _))⟩, trivial⟩ (by repeat (first | with_reducible exact same_refl _ _ | with_reducible refine same_updO (by with_unfolding_all exact rfl) ?_ | with_reducible refine same_updN ?_ | with_reducible refine same_updL (by with_unfolding_all exact rfl) ?_ | with_reducible refine same_forget (by with_unfolding_all exact rfl) ?_)) (congrArg (fun c => [c]) (tb_eq rfl (chg_step (by unfold chg stN laN; rw [if_pos (by omega), if_pos (by omega), ← gI_at (by omega), ← gI_at (by omega), ← gI_at (by omega)]; unfold sbN uI; first | (exfalso; omega) | rfl)))) (by repeat (first | exact trivial | refine And.intro (Nat.le_refl _) ?_ | refine And.intro trivial ?_ | refine And.intro (by show _ ≤ _; (first | omega | (simp only [LS] <;> omega))) ?_)) (by repeat (first | exact trivial | refine And.intro (one_ok (.own _ _ _ _ _ (Nat.le_refl _))) ?_ | refine And.intro (okp (by repeat (first | exact pu_bytes _ | exact pu_nil | exact pu_vs rfl | exact pu_map (fun _ => .v _) _ | exact pu_vals _ | refine pu_app ?_ ?_ | refine pu_cons (by exact pu_of rfl) ?_))) ?_))
        ·
          have p10 := c10
          try simp only [CN] at p10
          refine WC.skip (h17_ _ ?_)
          refine WC.region ?_
          refine RG.op _ _ rfl rfl (o_move (.own _ _ _ _ _) rfl) ?_
          refine RG.op _ _ rfl rfl (o_move (.rd _ _) rfl) ?_
          refine RG.op _ _ rfl rfl (o_move (.v _) rfl) ?_
          refine RG.op _ _ rfl rfl (o_ixn_M k rfl rfl Try.underlying58 (sz_of Ty.inf2) (by first | omega | exact ubyte _ | (simp only [LS] <;> omega)) (by first | omega | exact ubyte _ | (simp only [LS] <;> omega))) ?_
          refine RG.op _ _ rfl rfl (o_load_adr rfl Try.underlying2 rfl rfl) ?_
          refine RG.op _ _ rfl rfl (o_i64toU rfl Try.underlying2 Try.underlying69) ?_
          refine RG.op _ _ rfl rfl (o_move (N64 0) rfl) ?_
          refine RG.op _ _ rfl rfl (o_subU (b := 0) rfl rfl (by first | omega | exact ubyte _ | (simp only [LS] <;> omega))) ?_
          refine RG.op _ _ rfl rfl (o_move (N64 0) rfl) ?_
          refine RG.op _ _ rfl rfl (o_subU (b := 0) rfl rfl (by first | omega | exact ubyte _ | (simp only [LS] <;> omega))) ?_
          refine RG.op _ _ rfl rfl (o_litP (cs := [(.v _)]) Try.underlying67 Ty.inf69 rfl rfl rfl rfl (by repeat (first | exact pu_bytes _ | exact pu_nil | exact pu_vs rfl | exact pu_map (fun _ => .v _) _ | exact pu_vals _ | refine pu_app ?_ ?_ | refine pu_cons (by exact pu_of rfl) ?_))) ?_
          refine RG.op _ _ rfl rfl (o_appT (Elem.of Try.underlying67 Ty.inf69 rfl (by decide)) rfl rfl rfl (by first | omega | exact ubyte _ | (simp only [LS] <;> omega)) (by first | omega | exact ubyte _ | (simp only [LS] <;> omega)) (by repeat (first | exact bytesD_one _ | exact one_nil | exact one_map (fun _ => rfl) _ | exact one_vals _ | refine one_app ?_ ?_ | refine one_cons rfl ?_)) (by first | omega | exact ubyte _ | (simp only [LS] <;> omega)) (by first | omega | exact ubyte _ | (simp only [LS] <;> omega))) ?_
          refine RG.op _ _ rfl rfl (o_assign (.own _ _ _ _ _) rfl) ?_
          refine RG.nil (h9_ _ ?_)
          refine WC.region ?_
          refine RG.op _ _ rfl rfl (o_move (.v _) rfl) ?_
          refine RG.op _ _ rfl rfl (o_add rfl rfl (by first | omega | exact ubyte _ | (simp only [LS] <;> omega)) (by first | omega | exact ubyte _ | (simp only [LS] <;> omega))) ?_
          refine RG.op _ _ rfl rfl (o_assign (.v _) rfl) ?_
          refine RG.nil (Exists.intro (k + 1) ⟨by first | omega | (simp only [LS] <;> omega), by first | omega | (simp only [LS] <;> omega), ?_⟩)
          exact .mk' ⟨⟨rfl, .v _⟩, ⟨rfl, (by first | exact .own _ _ _ _ _ (Nat.le_refl _) | exact .ptr _ _ _ (Nat.le_refl _) | exact .omp _ _ (Nat.le_refl _))⟩, trivial⟩ (by repeat (first | with_reducible exact same_refl _ _ | with_reducible refine same_updO (by with_unfolding_all exact rfl) ?_ | with_reducible refine same_updN ?_ | with_reducible refine same_updL (by with_unfolding_all exact rfl) ?_ | with_reducible refine same_forget (by with_unfolding_all exact rfl) ?_)) (congrArg (fun c => [c]) (tb_eq rfl (chg_step (by unfold chg stN laN; rw [if_neg (by omega), if_neg (by omega), ← gI_at (by omega)]; unfold sbN uI; first | (exfalso; omega) | rfl)))) (by repeat (first | exact trivial | refine And.intro (Nat.le_refl _) ?_ | refine And.intro trivial ?_ | refine And.intro (by show _ ≤ _; (first | omega | (simp only [LS] <;> omega))) ?_)) (by repeat (first | exact trivial | refine And.intro (one_ok (.own _ _ _ _ _ (Nat.le_refl _))) ?_ | refine And.intro (okp (by repeat (first | exact pu_bytes _ | exact pu_nil | exact pu_vs rfl | exact pu_map (fun _ => .v _) _ | exact pu_vals _ | refine pu_app ?_ ?_ | refine pu_cons (by exact pu_of rfl) ?_))) ?_))
    ·
      have p3 := c3
      try simp only [CN] at p3
      refine WC.exit (h3_ _ ?_)
      refine WC.seq fun Fh19_ h19_ => ?_
      refine WC.region ?_
      refine RG.op _ _ rfl rfl (o_move (.own _ _ _ _ _) rfl) ?_
      refine RG.op _ _ rfl rfl (o_assign (.own _ _ _ _ _) rfl) ?_
      refine RG.nil (h19_ _ ?_)
      refine WC.ret ?_
      exact Ends.r1 rfl (.tmp _ (.own _ _ _ _ _) rfl) (.tb rfl (by repeat (first | exact pu_bytes _ | exact pu_nil | exact pu_vs rfl | exact pu_map (fun _ => .v _) _ | exact pu_vals _ | refine pu_app ?_ ?_ | refine pu_cons (by exact pu_of rfl) ?_))) (by have e : k = l.length := (by omega); subst e; exact rd_eq (chgs_len _ _).symm rfl)
end Go.Proofs.Ytpdjcfhmdeeikaa
namespace Go.Proofs.Ytpdjcfhmdeeikaa
open Go.RowKit Go.DL

/-- Runs, each told at its last one. -/
def rN : List Nat → Nat → List (Nat × Int)
  | [], _ => []
  | x :: r, n => if r.head? = some x then rN r (n + 1) else (n + 1, sgn x) :: rN r 0
def cN (l : List Int) : List Nat := chgs l l.length
theorem rN_on {c : List Nat} {i n : Nat} (h : i + 1 < c.length) (he : c.getD (i + 1) 0 = c.getD i 0) : rN (c.drop i) n = rN (c.drop (i + 1)) (n + 1) := by
  have h0 : i < c.length := by omega
  rw [List.drop_eq_getElem_cons h0, rN, if_pos]
  rw [List.head?_drop, List.getElem?_eq_getElem h]
  simpa [List.getD, h, h0] using he
theorem rN_emit {c : List Nat} {i n : Nat} (h0 : i < c.length) (he : i + 1 < c.length → ¬ c.getD (i + 1) 0 = c.getD i 0) : rN (c.drop i) n = (n + 1, sgn (c.getD i 0)) :: rN (c.drop (i + 1)) 0 := by
  rw [List.drop_eq_getElem_cons h0, rN, if_neg]
  · simp [List.getD, h0]
  · intro hh
    rw [List.head?_drop] at hh
    have h : i + 1 < c.length := (List.getElem?_eq_some_iff.1 hh).1
    rw [List.getElem?_eq_getElem h] at hh
    exact he h (by simpa [List.getD, h, h0] using hh)
theorem sgn_rng {n : Nat} (h : n ≤ 18446744073709551615) : -9223372036854775808 ≤ sgn n ∧ sgn n ≤ 9223372036854775807 := by unfold sgn; split <;> omega
theorem chg_le (l : List Int) (i : Nat) : chg l i ≤ 18446744073709551615 := sbN_le _ _
theorem cN_le (l : List Int) (i : Nat) : (cN l).getD i 0 ≤ 18446744073709551615 := by
  unfold cN chgs
  rw [List.getD_eq_getElem?_getD, List.getElem?_map]
  cases (List.range l.length)[i]? with
  | none => exact Nat.zero_le _
  | some j => exact chg_le l j
theorem cN_c (l : List Int) (hl : l.length ≤ 1099511627776) : Fun Try.prog 43 [rdI l] (· = rdU (cN l)) := changes_c l hl
set_option maxHeartbeats 4000000 in
theorem rput5_c (l : List Int) (hl : l.length ≤ 1099511627775) : Fun Try.prog 27 [rdI l] (· = rdB ((rN (cN l) 0).flatMap encP)) := by
  have hcl : (cN l).length = l.length := chgs_len _ _
  refine Fun.of Try.func27 rfl (Nat.le_of_ble_eq_true rfl) fun C => ?_
  refine WC.seq fun Fh1_ h1_ => ?_
  refine WC.region ?_
  refine RG.op _ _ rfl rfl (o_assign (.v _) rfl) ?_
  refine RG.nil (h1_ _ ?_)
  refine WC.seq fun Fh2_ h2_ => ?_
  refine WC.region ?_
  refine RG.op _ _ rfl rfl (o_move (.rd _ _) rfl) ?_
  refine RG.op _ _ rfl rfl (o_call Ty.cal43 (cN_c _ (by first | omega | exact ubyte _ | (simp only [LS] <;> omega))) ⟨.inl rfl, trivial⟩ (by exact pua rfl)) ?_
  refine RG.op _ _ rfl rfl (o_assign (.rd _ _) rfl) ?_
  refine RG.nil (h2_ _ ?_)
  refine WC.seq fun Fh3_ h3_ => ?_
  refine WC.region ?_
  refine RG.op _ _ rfl rfl (o_nil 5 1) ?_
  refine RG.nil (h3_ _ ?_)
  refine WC.seq fun Fh4_ h4_ => ?_
  refine WC.region ?_
  refine RG.op _ _ rfl rfl (o_assign (N64 0) rfl) ?_
  refine RG.nil (h4_ _ ?_)
  refine WC.seq fun Fh5_ h5_ => ?_
  refine WC.seq fun Fh6_ h6_ => ?_
  refine WC.region ?_
  refine RG.op _ _ rfl rfl (o_assign (.v _) rfl) ?_
  refine RG.nil (h6_ _ ?_)
  refine WC.block ?_
  refine WC.loopU [4, 5, 6, 9, 10, 11, 12, 13, 14, 15, 16, 17, 18, 19, 20, 21, 22, 23, 24, 25, 26, 27, 28, 29, 30, 31, 32, 33, 34, 35, 36, 37, 38, 39, 40, 41, 42, 43, 44, 45, 46] (fun (p : Nat × Nat × List (Nat × Int)) => [(6, I64 ((p.1 : Nat) : Int)), (5, N64 p.2.1), (4, ow 0 (p.2.2.flatMap encP).length 1)]) (fun (p : Nat × Nat × List (Nat × Int)) => [(0, tb 5 (p.2.2.flatMap encP).length (bytesD (p.2.2.flatMap encP)))]) (fun (p : Nat × Nat × List (Nat × Int)) => p.1 ≤ (cN l).length ∧ p.2.1 ≤ p.1 ∧ (p.2.2.flatMap encP).length ≤ 20 * p.1 ∧ rN (cN l) 0 = p.2.2 ++ rN ((cN l).drop p.1) p.2.1) (fun (p : Nat × Nat × List (Nat × Int)) => (cN l).length - p.1) (0, 0, []) ⟨Nat.zero_le _, Nat.le_refl _, Nat.le_refl _, rfl⟩ ?lpa7_ ?lpb8_
  case lpa7_ =>
    exact .mk' ⟨⟨rfl, .v _⟩, ⟨rfl, .v _⟩, ⟨rfl, (by first | exact .own _ _ _ _ _ (Nat.le_refl _) | exact .ptr _ _ _ (Nat.le_refl _) | exact .omp _ _ (Nat.le_refl _))⟩, trivial⟩ (same_refl _ _) (rfl) (by repeat (first | exact trivial | refine And.intro (Nat.le_refl _) ?_ | refine And.intro trivial ?_ | refine And.intro (by show _ ≤ _; (first | omega | (simp only [LS] <;> omega))) ?_)) (by repeat (first | exact trivial | refine And.intro (one_ok (.own _ _ _ _ _ (Nat.le_refl _))) ?_ | refine And.intro (okp (by repeat (first | exact pu_bytes _ | exact pu_nil | exact pu_vs rfl | exact pu_map (fun _ => .v _) _ | exact pu_vals _ | refine pu_app ?_ ?_ | refine pu_cons (by exact pu_of rfl) ?_))) ?_))
  case lpb8_ =>
    rintro p hI
    have hk1 := hI.1
    have hk2 := hI.2.1
    have hk3 := hI.2.2.1
    have hk4 := hI.2.2.2
    refine WC.seq fun Fh9_ h9_ => ?_
    refine WC.seq fun Fh10_ h10_ => ?_
    refine WC.region ?_
    refine RG.op _ _ rfl rfl (o_move (.v _) rfl) ?_
    refine RG.op _ _ rfl rfl (o_move (.rd _ _) rfl) ?_
    refine RG.op _ _ rfl rfl (o_len_rd rfl Try.underlying67) ?_
    refine RG.op _ _ rfl rfl (o_ltI rfl rfl) ?_
    refine RG.nil (h10_ _ ?_)
    refine WC.cond _ rfl (fun c5 => ?_) (fun c5 => ?_)
    ·
      have p5 := c5
      try simp only [CN] at p5
      have hlt : p.1 < (cN l).length := by omega
      have hg : (cN l)[p.1]'hlt = (cN l).getD p.1 0 := by simp [List.getD, hlt]
      have hc1 : (cN l)[p.1]'hlt ≤ 18446744073709551615 := by rw [hg]; exact cN_le l p.1
      have hc2 := sgn_rng hc1
      have hc3 := zig_le hc2.1 hc2.2
      have hc4 := encB_len10 hc3
      have hc5 := encB_len10 (u := p.2.1 + 1) (by omega)
      refine WC.skip (h9_ _ ?_)
      refine WC.seq fun Fh11_ h11_ => ?_
      refine WC.block ?_
      refine WC.seq fun Fh12_ h12_ => ?_
      refine WC.region ?_
      refine RG.op _ _ rfl rfl (o_move (.v _) rfl) ?_
      refine RG.op _ _ rfl rfl ((o_addU (b := 1) rfl rfl).cast (congrArg N64 (Nat.mod_eq_of_lt (by omega)))) ?_
      refine RG.op _ _ rfl rfl (o_assign (.v _) rfl) ?_
      refine RG.nil (h12_ _ ?_)
      refine WC.seq fun Fh13_ h13_ => ?_
      refine WC.seq fun Fh14_ h14_ => ?_
      refine WC.drawn1 (by kernel_rfl) ?_
      refine PG.op _ rfl rfl rfl (by rintro _ rfl; exact o_move (.v _) rfl) ?_
      refine PG.op _ rfl rfl rfl (by rintro _ rfl; exact o_add rfl rfl (by first | omega | exact ubyte _ | (simp only [LS] <;> omega)) (by first | omega | exact ubyte _ | (simp only [LS] <;> omega))) ?_
      refine PG.op _ rfl rfl rfl (by rintro _ rfl; exact o_move (.rd _ _) rfl) ?_
      refine PG.op _ rfl rfl rfl (by rintro _ rfl; exact o_len_rd rfl Try.underlying67) ?_
      refine PG.op _ rfl rfl rfl (by rintro _ rfl; exact o_ltI rfl rfl) ?_
      refine PG.op _ rfl rfl rfl (by rintro _ rfl; exact o_move (.v _) rfl) ?_
      refine PG.opg1 _ _ _ _ _ rfl rfl rfl rfl rfl rfl (fun hb => (by rintro _ rfl; exact o_move (.rd _ _) rfl)) ?_
      refine PG.opg1 _ _ _ _ _ rfl rfl rfl rfl rfl rfl (fun hb => (by rintro _ rfl; exact o_move (.v _) rfl)) ?_
      refine PG.opg1 _ _ _ _ _ rfl rfl rfl rfl rfl rfl (fun hb => (by rintro _ rfl; exact o_add (gdT hb) rfl (by first | omega | exact ubyte _ | (have hb' := hb; simp only [CN] at hb'; omega) | (simp only [LS] <;> omega) | (have hb' := hb; simp only [CN] at hb'; simp only [LS]; omega)) (by first | omega | exact ubyte _ | (have hb' := hb; simp only [CN] at hb'; omega) | (simp only [LS] <;> omega) | (have hb' := hb; simp only [CN] at hb'; simp only [LS]; omega)))) ?_
      refine PG.opg1 _ _ _ _ _ rfl rfl rfl rfl rfl rfl (fun hb => (by rintro _ rfl; exact o_ixn_MZ (0 : Nat) (p.1 + 1) (gdT hb) (gdT hb) Try.underlying67 (sz_of Ty.inf69) (by first | omega | exact ubyte _ | (have hb' := hb; simp only [CN] at hb'; omega) | (simp only [LS] <;> omega) | (have hb' := hb; simp only [CN] at hb'; simp only [LS]; omega)) (by first | omega | exact ubyte _ | (have hb' := hb; simp only [CN] at hb'; omega) | (simp only [LS] <;> omega) | (have hb' := hb; simp only [CN] at hb'; simp only [LS]; omega)))) ?_
      refine PG.opg1 _ _ _ _ _ rfl rfl rfl rfl rfl rfl (fun hb => (by rintro _ rfl; exact o_load_adr (gdT hb) Try.underlying69 rfl rfl)) ?_
      refine PG.opg1 _ _ _ _ _ rfl rfl rfl rfl rfl rfl (fun hb => (by rintro _ rfl; exact o_move (.rd _ _) rfl)) ?_
      refine PG.opg1 _ _ _ _ _ rfl rfl rfl rfl rfl rfl (fun hb => (by rintro _ rfl; exact o_move (.v _) rfl)) ?_
      refine PG.opg1 _ _ _ _ _ rfl rfl rfl rfl rfl rfl (fun hb => (by rintro _ rfl; exact o_ixn_MZ (0 : Nat) p.1 (gdT hb) (gdT hb) Try.underlying67 (sz_of Ty.inf69) (by first | omega | exact ubyte _ | (have hb' := hb; simp only [CN] at hb'; omega) | (simp only [LS] <;> omega) | (have hb' := hb; simp only [CN] at hb'; simp only [LS]; omega)) (by first | omega | exact ubyte _ | (have hb' := hb; simp only [CN] at hb'; omega) | (simp only [LS] <;> omega) | (have hb' := hb; simp only [CN] at hb'; simp only [LS]; omega)))) ?_
      refine PG.opg1 _ _ _ _ _ rfl rfl rfl rfl rfl rfl (fun hb => (by rintro _ rfl; exact o_load_adr (gdT hb) Try.underlying69 rfl rfl)) ?_
      refine PG.opg1 _ _ _ _ _ rfl rfl rfl rfl rfl rfl (fun hb => (by rintro _ rfl; exact o_eqI (gdT hb) (gdT hb))) ?_
      refine PG.op _ rfl rfl rfl (by rintro _ rfl; exact o_and _ _ rfl rfl rfl) ?_
      refine PG.nil ⟨by kernel_rfl, rfl, (h14_ _ ?_)⟩
      refine WC.cond _ rfl (fun c8 => ?_) (fun c8 => ?_)
      ·
        have p8 := c8
        try simp only [CN] at p8
        refine WC.exit (h11_ _ ?_)
        refine WC.region ?_
        refine RG.op _ _ rfl rfl (o_move (.v _) rfl) ?_
        refine RG.op _ _ rfl rfl (o_add rfl rfl (by first | omega | exact ubyte _ | (simp only [LS] <;> omega)) (by first | omega | exact ubyte _ | (simp only [LS] <;> omega))) ?_
        refine RG.op _ _ rfl rfl (o_assign (.v _) rfl) ?_
        refine RG.nil (Exists.intro ((p.1 + 1, p.2.1 + 1, p.2.2)) ⟨⟨by show p.1 + 1 ≤ _; omega, by show p.2.1 + 1 ≤ p.1 + 1; omega, (show (p.2.2.flatMap encP).length ≤ 20 * (p.1 + 1) by omega), by rw [hk4]; exact congrArg _ (rN_on (by omega) (by have := p8.2; omega))⟩, (by show _ < _; omega), ?_⟩)
        exact .mk' ⟨⟨rfl, .v _⟩, ⟨rfl, .v _⟩, ⟨rfl, (by first | exact .own _ _ _ _ _ (Nat.le_refl _) | exact .ptr _ _ _ (Nat.le_refl _) | exact .omp _ _ (Nat.le_refl _))⟩, trivial⟩ (by repeat (first | with_reducible exact same_refl _ _ | with_reducible refine same_updO (by with_unfolding_all exact rfl) ?_ | with_reducible refine same_updN ?_ | with_reducible refine same_updL (by with_unfolding_all exact rfl) ?_ | with_reducible refine same_forget (by with_unfolding_all exact rfl) ?_)) (rfl) (by repeat (first | exact trivial | refine And.intro (Nat.le_refl _) ?_ | refine And.intro trivial ?_ | refine And.intro (by show _ ≤ _; (first | omega | (simp only [LS] <;> omega))) ?_)) (by repeat (first | exact trivial | refine And.intro (one_ok (.own _ _ _ _ _ (Nat.le_refl _))) ?_ | refine And.intro (okp (by repeat (first | exact pu_bytes _ | exact pu_nil | exact pu_vs rfl | exact pu_map (fun _ => .v _) _ | exact pu_vals _ | refine pu_app ?_ ?_ | refine pu_cons (by exact pu_of rfl) ?_))) ?_))
      ·
        have p8 := c8
        try simp only [CN] at p8
        have hne : p.1 + 1 < (cN l).length → ¬ (cN l).getD (p.1 + 1) 0 = (cN l).getD p.1 0 := fun h h2 => by rcases p8 with h3 | h3; omega; exact h3 (by rw [h2])
        refine WC.skip (h13_ _ ?_)
        refine WC.seq fun Fh15_ h15_ => ?_
        refine WC.region ?_
        refine RG.op _ _ rfl rfl (o_move (.own _ _ _ _ _) rfl) ?_
        refine RG.op _ _ rfl rfl (o_move (.v _) rfl) ?_
        refine RG.op _ _ rfl rfl (o_call Ty.cal44 (rput_c _ (by first | omega | exact ubyte _ | (simp only [LS] <;> omega))) ⟨.inl rfl, trivial⟩ (by exact pua rfl)) ?_
        refine RG.op _ _ rfl rfl (o_appT (Elem.of Try.underlying24 Ty.inf5 rfl (by decide)) rfl rfl rfl (by first | omega | exact ubyte _ | (simp only [LS] <;> omega)) (by first | omega | exact ubyte _ | (simp only [LS] <;> omega)) (by repeat (first | exact bytesD_one _ | exact one_nil | exact one_map (fun _ => rfl) _ | exact one_vals _ | refine one_app ?_ ?_ | refine one_cons rfl ?_)) (by first | omega | exact ubyte _ | (simp only [LS] <;> omega)) (by first | omega | exact ubyte _ | (simp only [LS] <;> omega))) ?_
        refine RG.op _ _ rfl rfl (o_assign (.own _ _ _ _ _) rfl) ?_
        refine RG.nil (h15_ _ ?_)
        refine WC.seq fun Fh16_ h16_ => ?_
        refine WC.region ?_
        refine RG.op _ _ rfl rfl (o_move (.own _ _ _ _ _) rfl) ?_
        refine RG.op _ _ rfl rfl (o_move (.rd _ _) rfl) ?_
        refine RG.op _ _ rfl rfl (o_move (.v _) rfl) ?_
        refine RG.op _ _ rfl rfl (o_ixn_M p.1 rfl rfl Try.underlying67 (sz_of Ty.inf69) (by first | omega | exact ubyte _ | (simp only [LS] <;> omega)) (by first | omega | exact ubyte _ | (simp only [LS] <;> omega))) ?_
        refine RG.op _ _ rfl rfl (o_load_adr rfl Try.underlying69 rfl rfl) ?_
        refine RG.op _ _ rfl rfl (o_UtoI64 rfl (by first | omega | exact ubyte _ | (simp only [LS] <;> omega)) Try.underlying69 Try.underlying2) ?_
        refine RG.op _ _ rfl rfl (o_call Ty.cal45 (rzig_c _ (by first | omega | exact ubyte _ | (simp only [LS] <;> omega)) (by first | omega | exact ubyte _ | (simp only [LS] <;> omega))) ⟨.inl rfl, trivial⟩ (by exact pua rfl)) ?_
        refine RG.op _ _ rfl rfl (o_call Ty.cal44 (rput_c _ (by first | omega | exact ubyte _ | (simp only [LS] <;> omega))) ⟨.inl rfl, trivial⟩ (by exact pua rfl)) ?_
        refine RG.op _ _ rfl rfl (o_appT (Elem.of Try.underlying24 Ty.inf5 rfl (by decide)) rfl rfl rfl (by first | omega | exact ubyte _ | (simp only [LS] <;> omega)) (by first | omega | exact ubyte _ | (simp only [LS] <;> omega)) (by repeat (first | exact bytesD_one _ | exact one_nil | exact one_map (fun _ => rfl) _ | exact one_vals _ | refine one_app ?_ ?_ | refine one_cons rfl ?_)) (by first | omega | exact ubyte _ | (simp only [LS] <;> omega)) (by first | omega | exact ubyte _ | (simp only [LS] <;> omega))) ?_
        refine RG.op _ _ rfl rfl (o_assign (.own _ _ _ _ _) rfl) ?_
        refine RG.nil (h16_ _ ?_)
        refine WC.region ?_
        refine RG.op _ _ rfl rfl (o_assign (N64 0) rfl) ?_
        refine RG.nil (h11_ _ ?_)
        refine WC.region ?_
        refine RG.op _ _ rfl rfl (o_move (.v _) rfl) ?_
        refine RG.op _ _ rfl rfl (o_add rfl rfl (by first | omega | exact ubyte _ | (simp only [LS] <;> omega)) (by first | omega | exact ubyte _ | (simp only [LS] <;> omega))) ?_
        refine RG.op _ _ rfl rfl (o_assign (.v _) rfl) ?_
        refine RG.nil (Exists.intro ((p.1 + 1, 0, p.2.2 ++ [(p.2.1 + 1, sgn ((cN l)[p.1]'hlt))])) ⟨⟨by show p.1 + 1 ≤ _; omega, Nat.zero_le _, (show ((p.2.2 ++ [(p.2.1 + 1, sgn ((cN l)[p.1]'hlt))]).flatMap encP).length ≤ 20 * (p.1 + 1) by simp only [List.flatMap_append, List.flatMap_singleton, List.length_append, encP]; omega), by rw [hk4, rN_emit hlt hne, ← hg]; simp⟩, (by show _ < _; omega), ?_⟩)
        exact .mk' ⟨⟨rfl, .v _⟩, ⟨rfl, .v _⟩, ⟨ow_eq (by simp [encP]; omega), (by first | exact .own _ _ _ _ _ (Nat.le_refl _) | exact .ptr _ _ _ (Nat.le_refl _) | exact .omp _ _ (Nat.le_refl _))⟩, trivial⟩ (by repeat (first | with_reducible exact same_refl _ _ | with_reducible refine same_updO (by with_unfolding_all exact rfl) ?_ | with_reducible refine same_updN ?_ | with_reducible refine same_updL (by with_unfolding_all exact rfl) ?_ | with_reducible refine same_forget (by with_unfolding_all exact rfl) ?_)) (congrArg (fun c => [c]) (tb_eq (by simp [encP]; omega) (by simp [encP, bytesD_app]))) (by repeat (first | exact trivial | refine And.intro (Nat.le_refl _) ?_ | refine And.intro trivial ?_ | refine And.intro (by show _ ≤ _; (first | omega | (simp only [LS] <;> omega))) ?_)) (by repeat (first | exact trivial | refine And.intro (one_ok (.own _ _ _ _ _ (Nat.le_refl _))) ?_ | refine And.intro (okp (by repeat (first | exact pu_bytes _ | exact pu_nil | exact pu_vs rfl | exact pu_map (fun _ => .v _) _ | exact pu_vals _ | refine pu_app ?_ ?_ | refine pu_cons (by exact pu_of rfl) ?_))) ?_))
    ·
      have p5 := c5
      try simp only [CN] at p5
      refine WC.exit (h5_ _ ?_)
      refine WC.seq fun Fh17_ h17_ => ?_
      refine WC.region ?_
      refine RG.op _ _ rfl rfl (o_move (.own _ _ _ _ _) rfl) ?_
      refine RG.op _ _ rfl rfl (o_assign (.own _ _ _ _ _) rfl) ?_
      refine RG.nil (h17_ _ ?_)
      refine WC.ret ?_
      exact Ends.r1 rfl (.tmp _ (.own _ _ _ _ _) rfl) (.tb rfl (by repeat (first | exact pu_bytes _ | exact pu_nil | exact pu_vs rfl | exact pu_map (fun _ => .v _) _ | exact pu_vals _ | refine pu_app ?_ ?_ | refine pu_cons (by exact pu_of rfl) ?_))) (by have e : rN (cN l) 0 = p.2.2 := (by rw [hk4, List.drop_eq_nil_of_le (by omega), rN, List.append_nil]); rw [e])
end Go.Proofs.Ytpdjcfhmdeeikaa
namespace Go.Proofs.Ytpdjcfhmdeeikaa
open Go.RowKit Go.DL

def runsG : List Int → Nat → Int → List (Nat × Int)
  | [], n, c => if 0 < n then [(n, c)] else []
  | d :: r, n, c => if 0 < n ∧ ¬ d = c then (n, c) :: runsG r 1 d else runsG r (n + 1) d
theorem sgn_inj {a b : Nat} (ha : a ≤ 18446744073709551615) (hb : b ≤ 18446744073709551615) (h : sgn a = sgn b) : a = b := by
  unfold sgn at h
  split at h <;> split at h <;> omega
theorem runsG_rN : ∀ (r : List Nat) (x n : Nat), (∀ y ∈ x :: r, y ≤ 18446744073709551615) → runsG (r.map sgn) (n + 1) (sgn x) = rN (x :: r) n
  | [], x, n, _ => by simp [runsG, rN]
  | d :: r, x, n, h => by
    have hd := h d (by simp)
    have hx := h x (by simp)
    have h' : ∀ y ∈ d :: r, y ≤ 18446744073709551615 := fun y hy => h y (by simp only [List.mem_cons] at hy ⊢; exact .inr hy)
    rw [List.map_cons, runsG, rN, List.head?_cons]
    by_cases e : d = x
    · subst e
      rw [if_neg (fun hh => hh.2 rfl), if_pos rfl]
      exact runsG_rN r d (n + 1) h'
    · rw [if_pos ⟨by omega, fun hh => e (sgn_inj hd hx hh)⟩, if_neg (fun hh => e (Option.some.inj hh))]
      exact congrArg _ (runsG_rN r d 0 h')
theorem runsG_all (c : List Nat) (h : ∀ y ∈ c, y ≤ 18446744073709551615) : runsG (c.map sgn) 0 0 = rN c 0 := by
  cases c with
  | nil => rfl
  | cons x r =>
    rw [List.map_cons, runsG, if_neg (fun hh => Nat.lt_irrefl _ hh.1)]
    exact runsG_rN r x 0 h
def laI (l : List Int) (i : Nat) : Int := if 0 < i then l.getD (i - 1) 0 else 0
def stI (l : List Int) (i : Nat) : Int := if 0 < i then wrapI (laI l i) (laI l (i - 1)) else 0
theorem sgn_mod {n : Nat} (h : n ≤ 18446744073709551615) : sgn n % 18446744073709551616 = n := by unfold sgn; split <;> omega
theorem wrap_mod (a b : Int) : wrapI a b % 18446744073709551616 = (a - b) % 18446744073709551616 := by
  unfold wrapI
  rw [sgn_mod (by omega)]; omega
theorem sbN_mod {a b : Nat} (hb : b ≤ 18446744073709551615) : ((sbN a b : Nat) : Int) = ((a : Int) - b) % 18446744073709551616 := by unfold sbN; omega
theorem uI_mod (x : Int) : ((uI x : Nat) : Int) = x % 18446744073709551616 := by unfold uI; omega
theorem laN_mod (l : List Int) (i : Nat) : ((laN l i : Nat) : Int) = laI l i % 18446744073709551616 := by
  unfold laN laI
  split
  · exact uI_mod _
  · rfl
theorem stN_mod (l : List Int) (i : Nat) : ((stN l i : Nat) : Int) = stI l i % 18446744073709551616 := by
  unfold stN stI
  by_cases h0 : 0 < i
  · rw [if_pos h0, wrap_mod]
    by_cases h1 : 1 < i
    · rw [if_pos h1, sbN_mod (uI_le _), laN_mod, uI_mod]
      have : laI l (i - 1) = l.getD (i - 2) 0 := by unfold laI; rw [if_pos (by omega), show i - 1 - 1 = i - 2 by omega]
      rw [this]; omega
    · rw [if_neg h1, laN_mod]
      have : laI l (i - 1) = 0 := by unfold laI; rw [if_neg (by omega)]
      rw [this, Int.sub_zero]
  · rw [if_neg h0, if_neg (by omega), laN_mod]
    unfold laI; rw [if_neg h0]
theorem chg_is {l : List Int} {i : Nat} (x : Int) (hx : x = l.getD i 0) : wrapI (wrapI x (laI l i)) (stI l i) = sgn (chg l i) := by
  subst hx
  have h1 := wrap_mod (l.getD i 0) (laI l i)
  have h2 : ((chg l i : Nat) : Int) = (l.getD i 0 - laI l i - stI l i) % 18446744073709551616 := by
    unfold chg
    rw [sbN_mod (stN_le _ _), sbN_mod (laN_le _ _), uI_mod, laN_mod, stN_mod]; omega
  have h3 : (wrapI (l.getD i 0) (laI l i) - stI l i) % 18446744073709551616 = ((chg l i : Nat) : Int) := by rw [h2]; omega
  conv => lhs; unfold wrapI
  exact congrArg sgn (by
    show ((wrapI (l.getD i 0) (laI l i) - stI l i) % 18446744073709551616).toNat = _
    rw [h3]; omega)
theorem cN_drop {l : List Int} {i : Nat} (h : i < l.length) : (cN l).drop i = chg l i :: (cN l).drop (i + 1) := by
  have hi : i < (cN l).length := by unfold cN; rw [chgs_len]; exact h
  rw [List.drop_eq_getElem_cons hi]
  have h1 : (cN l)[i]? = some (chg l i) := by unfold cN chgs; rw [List.getElem?_map, List.getElem?_range h]; rfl
  rw [List.getElem?_eq_getElem hi] at h1
  rw [Option.some.inj h1]
theorem runsF_G (l : List Int) : ∀ (m i n : Nat) (c : Int), i + m = l.length → runsF (l.drop i) (laI l i) (stI l i) n c = runsG (((cN l).drop i).map sgn) n c
  | 0, i, n, c, h => by
    rw [List.drop_eq_nil_of_le (by omega), List.drop_eq_nil_of_le (by unfold cN; rw [chgs_len]; omega)]; rfl
  | m + 1, i, n, c, h => by
    have hi : i < l.length := by omega
    have hl : laI l (i + 1) = l[i] := by unfold laI; rw [if_pos (by omega), gI_at hi]; rfl
    have hs : stI l (i + 1) = wrapI l[i] (laI l i) := by unfold stI; rw [if_pos (by omega), hl]; rfl
    have hw := chg_is (l := l) (i := i) l[i] (gI_at hi)
    have ih := fun n c => runsF_G l m (i + 1) n c (by omega)
    rw [hl, hs] at ih
    rw [cN_drop hi, List.map_cons, runsG, List.drop_eq_getElem_cons hi, runsF, hw]
    split
    · exact congrArg _ (ih 1 _)
    · exact ih (n + 1) _
theorem runs_same (l : List Int) : runsM l = rN (cN l) 0 := by
  have h := runsF_G l l.length 0 0 0 (by omega)
  rw [List.drop_zero, List.drop_zero] at h
  rw [← runsG_all (cN l) (fun y hy => by
    unfold cN chgs at hy
    obtain ⟨j, _, rfl⟩ := List.mem_map.1 hy
    exact chg_le l j)]
  exact h
end Go.Proofs.Ytpdjcfhmdeeikaa
namespace Go.DL
open Go.RowKit
/-- An operation that hands a row of the call's own over for good: from here on it stays as_ it is. -/
theorem OpD.frzL {P : Program} {C : Ctx} {o : Oper} {env : Nat → D} {H H' : Heap} {d : D} (id : Nat) (b : Blk) (L : List (Nat × D)) (hb : H[id]? = some (some b)) (hp : ∀ c ∈ b.cs, Pure' c) (hL : Frz1L id b env L) (h : OpD P C o (updL env L) (H.set id none) d H') : OpD P C o env H d H' := by
  refine ⟨(HLe.kill H id).trans h.len, fun K β a w Kc Q hw hx hk hq => ?_⟩
  obtain ⟨K', hK, hw', hz⟩ := hw.frz1 hb hp
  have hev : ∀ x, ev (updL env L) x = ev env x ∨ Frz1 id b (ev env x) (ev (updL env L) x) := by
    intro x
    cases x with
    | tmp t =>
      rcases updL_at env L t with ⟨p, hp', rfl, h2⟩ | ⟨_, h2⟩
      · right
        show Frz1 id b (env p.1) (updL env L p.1)
        rw [h2]; exact hL.at p hp'
      · left; exact h2
    | _ => left; rfl
  refine h.go K' β a w Kc Q hw' (fun x hxm => ?_) (fun x hxm => ?_) fun K'' β' v w' kx ag ws dr ok => ?_
  · rcases hev x with e | e
    · rw [e]; exact (hx x hxm).mono hK.le (fun _ => hk x hxm) (Agr.refl _ _)
    · exact hz _ _ _ (hx x hxm) e
  · rcases hev x with e | e
    · rw [e]; exact (hk x hxm).mono (HLe.kill _ _)
    · exact e.ok _
  · have e1 : Ext C K β H K' β (H.set id none) := ⟨hK, Agr.refl _ _, HLe.kill _ _⟩
    have e2 : Ext C K' β (H.set id none) K'' β' H' := ⟨kx, ag, h.len⟩
    have e3 := e1.trans e2
    exact hq K'' β' v w' e3.kx e3.ag ws dr ok
end Go.DL

namespace Go.Proofs.Ytpdjcfhmdeeikaa
open Go.RowKit Go.DL

theorem vget_len5 (b : List UInt8) : (vget b).2.1 ≤ b.length ∧ ((vget b).2.2 = 0 → 1 ≤ (vget b).2.1) := by
  rcases vget_wrong b with h | h
  · have := vget_back (b := b) (x := (vget b).1) (m := (vget b).2.1) (by rw [← h])
    exact ⟨this.2.1, fun _ => this.1⟩
  · rw [h.2.1]
    exact ⟨Nat.zero_le _, fun h0 => by rw [h0] at h; rcases h.2.2 with h | h <;> cases h⟩
/-! ### The bytes' runs: all changes -/
def addI (a b : Int) : Int := sgn ((a + b) % 18446744073709551616).toNat
/-- Step, last number and numbers of changes. -/
def nS (c : List Int) : Int × Int × List Int := c.foldl (fun q d => (addI q.1 d, addI q.2.1 (addI q.1 d), q.2.2 ++ [addI q.2.1 (addI q.1 d)])) (0, 0, [])
theorem nS_snoc (c : List Int) (d : Int) : nS (c ++ [d]) = (addI (nS c).1 d, addI (nS c).2.1 (addI (nS c).1 d), (nS c).2.2 ++ [addI (nS c).2.1 (addI (nS c).1 d)]) := by
  unfold nS; rw [List.foldl_append]; rfl
theorem nS_len (c : List Int) : (nS c).2.2.length = c.length := by
  have h : ∀ (c : List Int) (q : Int × Int × List Int), (c.foldl (fun q d => (addI q.1 d, addI q.2.1 (addI q.1 d), q.2.2 ++ [addI q.2.1 (addI q.1 d)])) q).2.2.length = q.2.2.length + c.length := by
    intro c
    induction c with
    | nil => intro q; rfl
    | cons d c ih => intro q; rw [List.foldl_cons, ih]; simp; omega
  have := h c (0, 0, [])
  unfold nS; rw [this]; simp
def gI (b : List UInt8) (n : Nat) : Nat → Nat → List Int → List Int × Nat
  | 0, _, _ => ([], 21)
  | f + 1, a, c =>
    if n ≤ c.length then (if a < b.length then ([], 21) else (c, 0))
    else if ¬ (vget (b.drop a)).2.2 = 0 then ([], (vget (b.drop a)).2.2)
    else if (vget (b.drop a)).1 = 0 ∨ n - c.length < (vget (b.drop a)).1 then ([], 21)
    else if ¬ (vget (b.drop (a + (vget (b.drop a)).2.1))).2.2 = 0 then ([], (vget (b.drop (a + (vget (b.drop a)).2.1))).2.2)
    else if 0 < c.length ∧ c.getD (c.length - 1) 0 = zagI (vget (b.drop (a + (vget (b.drop a)).2.1))).1 then ([], 21)
    else gI b n f (a + (vget (b.drop a)).2.1 + (vget (b.drop (a + (vget (b.drop a)).2.1))).2.1) (c ++ List.replicate (vget (b.drop a)).1 (zagI (vget (b.drop (a + (vget (b.drop a)).2.1))).1))
theorem gI_fuel (b : List UInt8) (n : Nat) : ∀ (f f' a : Nat) (c : List Int), n + 1 ≤ c.length + f → n + 1 ≤ c.length + f' → 0 < f → 0 < f' → gI b n f a c = gI b n f' a c
  | 0, _, _, _, _, _, h, _ => absurd h (by omega)
  | _, 0, _, _, _, _, _, h => absurd h (by omega)
  | f + 1, f' + 1, a, c, h1, h2, _, _ => by
    rw [gI, gI]
    by_cases e1 : n ≤ c.length
    · rw [if_pos e1, if_pos e1]
    rw [if_neg e1, if_neg e1]
    split
    · rfl
    split
    · rfl
    rename_i e2
    split
    · rfl
    split
    · rfl
    refine gI_fuel b n f f' _ _ ?_ ?_ ?_ ?_ <;> (try simp only [List.length_append, List.length_replicate]) <;> omega
def repI (c : List Int) (k : Nat) (d : Int) : List Int := c ++ List.replicate k d
/-- The row of bytes behind place a, so many changes being told. -/
def gG (b : List UInt8) (n a : Nat) (c : List Int) : List Int × Nat := gI b n (n + 1 - c.length + 1) a c
section
variable {b : List UInt8} {n a : Nat} {c : List Int}
theorem gG_end (h : n ≤ c.length) (ha : ¬ a < b.length) : gG b n a c = (c, 0) := by unfold gG; rw [gI, if_pos h, if_neg ha]
theorem gG_rest (h : n ≤ c.length) (ha : a < b.length) : gG b n a c = ([], 21) := by unfold gG; rw [gI, if_pos h, if_pos ha]
variable {r s : Nat × Nat × Nat}
theorem gG_bad1 (h : c.length < n) (hr : r = vget (b.drop a)) (h1 : ¬ r.2.2 = 0) : gG b n a c = ([], r.2.2) := by subst hr; unfold gG; rw [gI, if_neg (by omega), if_pos h1]
theorem gG_many (h : c.length < n) (hr : r = vget (b.drop a)) (h1 : r.2.2 = 0) (h2 : r.1 = 0 ∨ n - c.length < r.1) : gG b n a c = ([], 21) := by subst hr; unfold gG; rw [gI, if_neg (by omega), if_neg (fun hh => hh h1), if_pos h2]
theorem gG_bad2 (h : c.length < n) (hr : r = vget (b.drop a)) (h1 : r.2.2 = 0) (h2 : ¬ (r.1 = 0 ∨ n - c.length < r.1)) (hs : s = vget (b.drop (a + r.2.1))) (h3 : ¬ s.2.2 = 0) : gG b n a c = ([], s.2.2) := by subst hs hr; unfold gG; rw [gI, if_neg (by omega), if_neg (fun hh => hh h1), if_neg h2, if_pos h3]
theorem gG_same (h : c.length < n) (hr : r = vget (b.drop a)) (h1 : r.2.2 = 0) (h2 : ¬ (r.1 = 0 ∨ n - c.length < r.1)) (hs : s = vget (b.drop (a + r.2.1))) (h3 : s.2.2 = 0) (h4 : 0 < c.length ∧ c.getD (c.length - 1) 0 = zagI s.1) : gG b n a c = ([], 21) := by subst hs hr; unfold gG; rw [gI, if_neg (by omega), if_neg (fun hh => hh h1), if_neg h2, if_neg (fun hh => hh h3), if_pos h4]
theorem gG_step (h : c.length < n) (hr : r = vget (b.drop a)) (h1 : r.2.2 = 0) (h2 : ¬ (r.1 = 0 ∨ n - c.length < r.1)) (hs : s = vget (b.drop (a + r.2.1))) (h3 : s.2.2 = 0) (h4 : ¬ (0 < c.length ∧ c.getD (c.length - 1) 0 = zagI s.1)) : gG b n a c = gG b n (a + r.2.1 + s.2.1) (repI c r.1 (zagI s.1)) := by
  subst hs hr
  conv => lhs; unfold gG
  rw [gI, if_neg (by omega), if_neg (fun hh => hh h1), if_neg h2, if_neg (fun hh => hh h3), if_neg h4]
  unfold gG repI
  refine gI_fuel _ _ _ _ _ _ ?_ ?_ ?_ ?_ <;> (try simp only [List.length_append, List.length_replicate]) <;> omega
end
theorem repI_len (c : List Int) (k : Nat) (d : Int) : (repI c k d).length = c.length + k := by simp [repI]
theorem repI_zero (c : List Int) (d : Int) : repI c 0 d = c := by simp [repI]
theorem repI_succ (c : List Int) (k : Nat) (d : Int) : repI c (k + 1) d = repI c k d ++ [d] := by unfold repI; rw [List.replicate_succ', List.append_assoc]
theorem repI_getD (c : List Int) (m : Nat) (d : Int) (h : 0 < m) : (repI c m d).getD ((repI c m d).length - 1) 0 = d := by
  obtain ⟨k, rfl⟩ : ∃ k, m = k + 1 := ⟨m - 1, by omega⟩
  rw [repI_succ]
  simp [List.getD]
theorem addI_u (a b : Int) : sgn (((a % 18446744073709551616).toNat + (b % 18446744073709551616).toNat) % 18446744073709551616) = addI a b := by unfold addI; exact congrArg sgn (by omega)
theorem repI_out {c : List Int} {k : Nat} {d : Int} : (nS (repI c (k + 1) d)).2.2.map I64 = (nS (repI c k d)).2.2.map I64 ++ [I64 (nS (repI c (k + 1) d)).2.1] := by rw [repI_succ, nS_snoc]; simp
theorem repI_st {c : List Int} {k : Nat} {d : Int} : (nS (repI c (k + 1) d)).1 = addI (nS (repI c k d)).1 d := by rw [repI_succ, nS_snoc]
theorem repI_la {c : List Int} {k : Nat} {d : Int} : (nS (repI c (k + 1) d)).2.1 = addI (nS (repI c k d)).2.1 (nS (repI c (k + 1) d)).1 := by rw [repI_succ, nS_snoc]
theorem vgetE_c {b : List UInt8} {r : Nat × Nat × Nat} (hr : r = vget b) (hb : b.length ≤ 10995116277760) : Fun Try.prog 55 [rdB b] (· = vr r) := by subst hr; exact vget_c b hb
theorem rgetE_c {b : List UInt8} {r : Nat × Nat × Nat} (hr : r = vget b) (hb : b.length ≤ 10995116277760) : Fun Try.prog 57 [rdB b] (· = vr r) := by subst hr; exact rget_c b hb
abbrev VI (r : List Int × Nat) : D := .tup [rdI (nS r.1).2.2, I64 r.2]
def getI5 (b : List UInt8) (n : Int) : List Int × Nat := if n < 0 ∨ 65536 < n then ([], 1) else gG b n.toNat 0 []
end Go.Proofs.Ytpdjcfhmdeeikaa
namespace Go.Proofs.Ytpdjcfhmdeeikaa
open Go.RowKit Go.DL

set_option maxRecDepth 20000 in
set_option maxHeartbeats 4000000 in
theorem iget_c (b : List UInt8) (m : Nat) (hb : b.length ≤ 10995116277760) (hm : m ≤ 65536) : Fun Try.prog 53 [rdB b, I64 ((m : Nat) : Int)] (· = VI (gG b m 0 [])) := by
  refine Fun.of Try.func53 rfl (Nat.le_of_ble_eq_true rfl) fun C => ?_
  refine WC.seq fun Fh1_ h1_ => ?_
  refine WC.region ?_
  refine RG.op _ _ rfl rfl (o_assign (.v _) rfl) ?_
  refine RG.op _ _ rfl rfl (o_assign (.v _) rfl) ?_
  refine RG.nil (h1_ _ ?_)
  refine WC.seq fun Fh2_ h2_ => ?_
  refine WC.seq fun Fh3_ h3_ => ?_
  refine WC.region ?_
  refine RG.op _ _ rfl rfl (o_move (.v _) rfl) ?_
  refine RG.op _ _ rfl rfl (o_ltI rfl rfl) ?_
  refine RG.op _ _ rfl rfl (o_move (.v _) rfl) ?_
  refine RG.opg1 _ _ _ _ _ rfl rfl rfl rfl rfl (fun hb => o_move (.v _) rfl) ?_
  refine RG.opg1 _ _ _ _ _ rfl rfl rfl rfl rfl (fun hb => o_gtI (gdT hb) rfl) ?_
  refine RG.op _ _ rfl rfl (o_or _ _ rfl rfl rfl) ?_
  refine RG.nil (h3_ _ ?_)
  refine WC.cond _ rfl (fun c1 => ?_) (fun c1 => ?_)
  ·
    have p1 := c1
    try simp only [CN] at p1
    exfalso; omega
  ·
    have p1 := c1
    try simp only [CN] at p1
    refine WC.skip (h2_ _ ?_)
    refine WC.seq fun Fh4_ h4_ => ?_
    refine WC.region ?_
    refine RG.op _ _ rfl rfl (o_move (.v _) rfl) ?_
    refine RG.op _ _ rfl rfl (o_makeT 0 0 m rfl rfl Try.underlying58 Ty.inf2 rfl rfl (by first | omega | exact ubyte _ | (simp only [LS, nS_len] <;> omega)) (by first | omega | exact ubyte _ | (simp only [LS, nS_len] <;> omega)) (by first | omega | exact ubyte _ | (simp only [LS, nS_len] <;> omega)) (by first | omega | exact ubyte _ | (simp only [LS, nS_len] <;> omega)) (by first | omega | exact ubyte _ | (simp only [LS, nS_len] <;> omega))) ?_
    refine RG.op _ _ rfl rfl (o_assign (.own _ _ _ _ _) rfl) ?_
    refine RG.nil (h4_ _ ?_)
    refine WC.seq fun Fh5_ h5_ => ?_
    refine WC.region ?_
    refine RG.op _ _ rfl rfl (o_assign (.v _) rfl) ?_
    refine RG.op _ _ rfl rfl (o_assign (.v _) rfl) ?_
    refine RG.op _ _ rfl rfl (o_assign (.v _) rfl) ?_
    refine RG.nil (h5_ _ ?_)
    refine WC.seq fun Fh6_ h6_ => ?_
    refine WC.seq fun Fh7_ h7_ => ?_
    refine WC.region ?_
    refine RG.op _ _ rfl rfl (o_assign (.v _) rfl) ?_
    refine RG.nil (h7_ _ ?_)
    refine WC.block ?_
    refine WC.loopU [4, 5, 6, 7, 8, 9, 10, 11, 12, 13, 14, 15, 24, 25, 26, 27, 28, 29, 30, 31, 32, 33, 34, 35, 36, 37, 38, 39, 40, 41, 42, 43, 44, 45, 46, 47, 48, 49, 50, 51, 52, 53, 54, 55, 56, 57, 58, 59, 60, 61, 62, 63, 64, 65, 66, 67, 68, 69, 70, 71, 72, 73, 74, 75, 76, 77, 78, 79, 80, 81, 82, 83, 84, 85, 86, 87, 88, 89, 90, 91, 92, 93, 94, 95, 96, 97, 98, 99, 100, 101, 102, 103, 104, 105, 106, 107] (fun (p : Nat × List Int × Int) => [(10, I64 ((p.1 : Nat) : Int)), (6, ow 0 p.2.1.length 1), (7, I64 (nS p.2.1).2.1), (8, I64 (nS p.2.1).1), (9, I64 p.2.2)]) (fun (p : Nat × List Int × Int) => [(0, tb 2 p.2.1.length ((nS p.2.1).2.2.map I64))]) (fun (p : Nat × List Int × Int) => p.1 ≤ b.length ∧ p.2.1.length ≤ m ∧ (0 < p.2.1.length → p.2.1.getD (p.2.1.length - 1) 0 = p.2.2) ∧ gG b m 0 [] = gG b m p.1 p.2.1 ∧ (p.2.1.length = m → p.1 < b.length → m = 0) ∧ (m = 0 → p.1 = 0)) (fun (p : Nat × List Int × Int) => m - p.2.1.length) (0, [], 0) ⟨Nat.zero_le _, Nat.zero_le _, fun h => absurd h (Nat.lt_irrefl _), rfl, fun h _ => h.symm, fun _ => rfl⟩ ?lpa8_ ?lpb9_
    case lpa8_ =>
      exact .mk' ⟨⟨rfl, .v _⟩, ⟨rfl, (by first | exact .own _ _ _ _ _ (Nat.le_refl _) | exact .ptr _ _ _ (Nat.le_refl _) | exact .omp _ _ (Nat.le_refl _))⟩, ⟨rfl, .v _⟩, ⟨rfl, .v _⟩, ⟨rfl, .v _⟩, trivial⟩ (same_refl _ _) (rfl) (by repeat (first | exact trivial | refine And.intro (Nat.le_refl _) ?_ | refine And.intro trivial ?_ | refine And.intro (by show _ ≤ _; (first | omega | (simp only [LS, nS_len] <;> omega))) ?_)) (by repeat (first | exact trivial | refine And.intro (one_ok (.own _ _ _ _ _ (Nat.le_refl _))) ?_ | refine And.intro (okp (by repeat (first | exact pu_bytes _ | exact pu_nil | exact pu_vs rfl | exact pu_map (fun _ => .v _) _ | exact pu_vals _ | refine pu_app ?_ ?_ | refine pu_cons (by exact pu_of rfl) ?_))) ?_))
    case lpb9_ =>
      rintro p hI
      have hk1 := hI.1
      have hk2 := hI.2.1
      have hk3 := hI.2.2.1
      have hk4 := hI.2.2.2.1
      have hk5 := hI.2.2.2.2.1
      have hk6 := hI.2.2.2.2.2
      obtain ⟨r, hr⟩ : ∃ r, r = vget (b.drop p.1) := ⟨_, rfl⟩
      obtain ⟨s, hs⟩ : ∃ s, s = vget (b.drop (p.1 + r.2.1)) := ⟨_, rfl⟩
      have hv1 := vget_len5 (b.drop p.1)
      have hw1 := vget_lt (b.drop p.1)
      have hv2 := vget_len5 (b.drop (p.1 + r.2.1))
      have hw2 := vget_lt (b.drop (p.1 + r.2.1))
      rw [List.length_drop, ← hr] at hv1
      rw [List.length_drop, ← hs] at hv2
      rw [← hr] at hw1
      rw [← hs] at hw2
      have hg1 := vgetE_c hr (by rw [List.length_drop]; omega)
      have hg2 := vgetE_c hs (by rw [List.length_drop]; omega)
      refine WC.seq fun Fh10_ h10_ => ?_
      refine WC.seq fun Fh11_ h11_ => ?_
      refine WC.region ?_
      refine RG.op _ _ rfl rfl (o_move (.own _ _ _ _ _) rfl) ?_
      refine RG.op _ _ rfl rfl (o_len_own rfl Try.underlying58) ?_
      refine RG.op _ _ rfl rfl (o_move (.v _) rfl) ?_
      refine RG.op _ _ rfl rfl (o_ltI rfl rfl) ?_
      refine RG.nil (h11_ _ ?_)
      refine WC.cond _ rfl (fun c6 => ?_) (fun c6 => ?_)
      ·
        have p6 := c6
        try simp only [CN] at p6
        have hlt : p.2.1.length < m := by omega
        refine WC.skip (h10_ _ ?_)
        refine WC.block ?_
        refine WC.seq fun Fh12_ h12_ => ?_
        refine WC.region ?_
        refine RG.op _ _ rfl rfl (o_move (.rd _ _) rfl) ?_
        refine RG.op _ _ rfl rfl (o_move (.v _) rfl) ?_
        refine RG.op _ _ rfl rfl (o_dropM p.1 rfl rfl Try.underlying24 (sz_of Ty.inf5) (by first | omega | exact ubyte _ | (simp only [LS, nS_len] <;> omega)) (by first | omega | exact ubyte _ | (simp only [LS, nS_len] <;> omega))) ?_
        refine RG.op _ _ rfl rfl ((by exact o_call (ds := [rdB (b.drop p.1)]) Ty.cal55 hg1 ⟨.inl rfl, trivial⟩ (by exact pua rfl))) ?_
        refine RG.op _ _ rfl rfl (o_move (.tup _) rfl) ?_
        refine RG.op _ _ rfl rfl (o_extract rfl rfl) ?_
        refine RG.op _ _ rfl rfl (o_extract rfl rfl) ?_
        refine RG.op _ _ rfl rfl (o_extract rfl rfl) ?_
        refine RG.op _ _ rfl rfl (o_assign (.v _) rfl) ?_
        refine RG.op _ _ rfl rfl (o_assign (.v _) rfl) ?_
        refine RG.op _ _ rfl rfl (o_assign (.v _) rfl) ?_
        refine RG.nil (h12_ _ ?_)
        refine WC.seq fun Fh13_ h13_ => ?_
        refine WC.seq fun Fh14_ h14_ => ?_
        refine WC.region ?_
        refine RG.op _ _ rfl rfl (o_move (.v _) rfl) ?_
        refine RG.op _ _ rfl rfl (o_neI rfl rfl) ?_
        refine RG.nil (h14_ _ ?_)
        refine WC.cond _ rfl (fun c8 => ?_) (fun c8 => ?_)
        ·
          have p8 := c8
          try simp only [CN] at p8
          refine WC.seq fun Fh15_ h15_ => ?_
          refine WC.region ?_
          refine RG.op _ _ rfl rfl (o_move (.v _) rfl) ?_
          refine RG.op _ _ rfl rfl (o_assign (.v _) rfl) ?_
          refine RG.op _ _ rfl rfl (o_assign (.v _) rfl) ?_
          refine RG.nil (h15_ _ ?_)
          refine WC.ret ?_
          exact Ends.r2 rfl (.tmp _ (.v _) rfl) (.tmp _ (.v _) rfl) .nilr (.v _) (by rw [hk4, gG_bad1 hlt hr (by omega)]; rfl)
        ·
          have p8 := c8
          try simp only [CN] at p8
          have hz1 : r.2.2 = 0 := by omega
          refine WC.skip (h13_ _ ?_)
          refine WC.seq fun Fh16_ h16_ => ?_
          refine WC.seq fun Fh17_ h17_ => ?_
          refine WC.region ?_
          refine RG.op _ _ rfl rfl (o_move (.v _) rfl) ?_
          refine RG.op _ _ rfl rfl (o_eqI rfl rfl) ?_
          refine RG.op _ _ rfl rfl (o_move (.v _) rfl) ?_
          refine RG.opg1 _ _ _ _ _ rfl rfl rfl rfl rfl (fun hb => o_move (.v _) rfl) ?_
          refine RG.opg1 _ _ _ _ _ rfl rfl rfl rfl rfl (fun hb => o_move (.v _) rfl) ?_
          refine RG.opg1 _ _ _ _ _ rfl rfl rfl rfl rfl (fun hb => o_move (.own _ _ _ _ _) rfl) ?_
          refine RG.opg1 _ _ _ _ _ rfl rfl rfl rfl rfl (fun hb => o_len_own (gdT hb) Try.underlying58) ?_
          refine RG.opg1 _ _ _ _ _ rfl rfl rfl rfl rfl (fun hb => o_sub (gdT hb) (gdT hb) (by first | omega | exact ubyte _ | (have hb' := hb; simp only [CN] at hb'; omega) | (simp only [LS, nS_len] <;> omega) | (have hb' := hb; simp only [CN] at hb'; simp only [LS, nS_len]; omega)) (by first | omega | exact ubyte _ | (have hb' := hb; simp only [CN] at hb'; omega) | (simp only [LS, nS_len] <;> omega) | (have hb' := hb; simp only [CN] at hb'; simp only [LS, nS_len]; omega))) ?_
          refine RG.opg1 _ _ _ _ _ rfl rfl rfl rfl rfl (fun hb => o_i64toU (gdT hb) Try.underlying3 Try.underlying69) ?_
          refine RG.opg1 _ _ _ _ _ rfl rfl rfl rfl rfl (fun hb => o_gtI (gdT hb) (gdT hb)) ?_
          refine RG.op _ _ rfl rfl (o_or _ _ rfl rfl rfl) ?_
          refine RG.nil (h17_ _ ?_)
          refine WC.cond _ rfl (fun c10 => ?_) (fun c10 => ?_)
          ·
            have p10 := c10
            try simp only [CN] at p10
            refine WC.seq fun Fh18_ h18_ => ?_
            refine WC.region ?_
            refine RG.op _ _ rfl rfl (o_assign (.v _) rfl) ?_
            refine RG.op _ _ rfl rfl (o_assign (.v _) rfl) ?_
            refine RG.nil (h18_ _ ?_)
            refine WC.ret ?_
            exact Ends.r2 rfl (.tmp _ (.v _) rfl) (.tmp _ (.v _) rfl) .nilr (.v _) (by rw [hk4, gG_many hlt hr hz1 (by omega)]; rfl)
          ·
            have p10 := c10
            try simp only [CN] at p10
            have hc1 : ¬ (r.1 = 0 ∨ m - p.2.1.length < r.1) := by omega
            refine WC.skip (h16_ _ ?_)
            refine WC.seq fun Fh19_ h19_ => ?_
            refine WC.region ?_
            refine RG.op _ _ rfl rfl (o_move (.v _) rfl) ?_
            refine RG.op _ _ rfl rfl (o_move (.v _) rfl) ?_
            refine RG.op _ _ rfl rfl (o_add rfl rfl (by first | omega | exact ubyte _ | (simp only [LS, nS_len] <;> omega)) (by first | omega | exact ubyte _ | (simp only [LS, nS_len] <;> omega))) ?_
            refine RG.op _ _ rfl rfl (o_assign (.v _) rfl) ?_
            refine RG.nil (h19_ _ ?_)
            refine WC.seq fun Fh20_ h20_ => ?_
            refine WC.region ?_
            refine RG.op _ _ rfl rfl (o_move (.rd _ _) rfl) ?_
            refine RG.op _ _ rfl rfl (o_move (.v _) rfl) ?_
            refine RG.op _ _ rfl rfl (o_dropM (p.1 + (r.2.1)) rfl rfl Try.underlying24 (sz_of Ty.inf5) (by first | omega | exact ubyte _ | (simp only [LS, nS_len] <;> omega)) (by first | omega | exact ubyte _ | (simp only [LS, nS_len] <;> omega))) ?_
            refine RG.op _ _ rfl rfl ((by exact o_call (ds := [rdB (b.drop (p.1 + r.2.1))]) Ty.cal55 hg2 ⟨.inl rfl, trivial⟩ (by exact pua rfl))) ?_
            refine RG.op _ _ rfl rfl (o_move (.tup _) rfl) ?_
            refine RG.op _ _ rfl rfl (o_extract rfl rfl) ?_
            refine RG.op _ _ rfl rfl (o_extract rfl rfl) ?_
            refine RG.op _ _ rfl rfl (o_extract rfl rfl) ?_
            refine RG.op _ _ rfl rfl (o_assign (.v _) rfl) ?_
            refine RG.op _ _ rfl rfl (o_assign (.v _) rfl) ?_
            refine RG.op _ _ rfl rfl (o_assign (.v _) rfl) ?_
            refine RG.nil (h20_ _ ?_)
            refine WC.seq fun Fh21_ h21_ => ?_
            refine WC.seq fun Fh22_ h22_ => ?_
            refine WC.region ?_
            refine RG.op _ _ rfl rfl (o_move (.v _) rfl) ?_
            refine RG.op _ _ rfl rfl (o_neI rfl rfl) ?_
            refine RG.nil (h22_ _ ?_)
            refine WC.cond _ rfl (fun c14 => ?_) (fun c14 => ?_)
            ·
              have p14 := c14
              try simp only [CN] at p14
              refine WC.seq fun Fh23_ h23_ => ?_
              refine WC.region ?_
              refine RG.op _ _ rfl rfl (o_move (.v _) rfl) ?_
              refine RG.op _ _ rfl rfl (o_assign (.v _) rfl) ?_
              refine RG.op _ _ rfl rfl (o_assign (.v _) rfl) ?_
              refine RG.nil (h23_ _ ?_)
              refine WC.ret ?_
              exact Ends.r2 rfl (.tmp _ (.v _) rfl) (.tmp _ (.v _) rfl) .nilr (.v _) (by rw [hk4, gG_bad2 hlt hr hz1 hc1 hs (by omega)]; rfl)
            ·
              have p14 := c14
              try simp only [CN] at p14
              have hz2 : s.2.2 = 0 := by omega
              refine WC.skip (h21_ _ ?_)
              refine WC.seq fun Fh24_ h24_ => ?_
              refine WC.region ?_
              refine RG.op _ _ rfl rfl (o_move (.v _) rfl) ?_
              refine RG.op _ _ rfl rfl (o_call Ty.cal65 (vzag_c _ (by first | omega | exact ubyte _ | (simp only [LS, nS_len] <;> omega))) ⟨.inl rfl, trivial⟩ (by exact pua rfl)) ?_
              refine RG.op _ _ rfl rfl (o_assign (.v _) rfl) ?_
              refine RG.nil (h24_ _ ?_)
              refine WC.seq fun Fh25_ h25_ => ?_
              refine WC.seq fun Fh26_ h26_ => ?_
              refine WC.region ?_
              refine RG.op _ _ rfl rfl (o_move (.own _ _ _ _ _) rfl) ?_
              refine RG.op _ _ rfl rfl (o_len_own rfl Try.underlying58) ?_
              refine RG.op _ _ rfl rfl (o_gtI rfl rfl) ?_
              refine RG.op _ _ rfl rfl (o_move (.v _) rfl) ?_
              refine RG.opg1 _ _ _ _ _ rfl rfl rfl rfl rfl (fun hb => o_move (.v _) rfl) ?_
              refine RG.opg1 _ _ _ _ _ rfl rfl rfl rfl rfl (fun hb => o_move (.v _) rfl) ?_
              refine RG.opg1 _ _ _ _ _ rfl rfl rfl rfl rfl (fun hb => o_eqI (gdT hb) (gdT hb)) ?_
              refine RG.op _ _ rfl rfl (o_and _ _ rfl rfl rfl) ?_
              refine RG.nil (h26_ _ ?_)
              refine WC.cond _ rfl (fun c17 => ?_) (fun c17 => ?_)
              ·
                have p17 := c17
                try simp only [CN] at p17
                refine WC.seq fun Fh27_ h27_ => ?_
                refine WC.region ?_
                refine RG.op _ _ rfl rfl (o_assign (.v _) rfl) ?_
                refine RG.op _ _ rfl rfl (o_assign (.v _) rfl) ?_
                refine RG.nil (h27_ _ ?_)
                refine WC.ret ?_
                exact Ends.r2 rfl (.tmp _ (.v _) rfl) (.tmp _ (.v _) rfl) .nilr (.v _) (by rw [hk4, gG_same hlt hr hz1 hc1 hs hz2 ⟨by omega, by rw [hk3 (by omega)]; exact p17.2.symm⟩]; rfl)
              ·
                have p17 := c17
                try simp only [CN] at p17
                have hc4 : ¬ (0 < p.2.1.length ∧ p.2.1.getD (p.2.1.length - 1) 0 = zagI s.1) := by rintro ⟨h1, h2⟩; rw [hk3 h1] at h2; rcases p17 with h | h; omega; exact h h2.symm
                have hst := gG_step hlt hr hz1 hc1 hs hz2 hc4
                refine WC.skip (h25_ _ ?_)
                refine WC.seq fun Fh28_ h28_ => ?_
                refine WC.region ?_
                refine RG.op _ _ rfl rfl (o_move (.v _) rfl) ?_
                refine RG.op _ _ rfl rfl (o_move (.v _) rfl) ?_
                refine RG.op _ _ rfl rfl (o_add rfl rfl (by first | omega | exact ubyte _ | (simp only [LS, nS_len] <;> omega)) (by first | omega | exact ubyte _ | (simp only [LS, nS_len] <;> omega))) ?_
                refine RG.op _ _ rfl rfl (o_assign (.v _) rfl) ?_
                refine RG.nil (h28_ _ ?_)
                refine WC.seq fun Fh29_ h29_ => ?_
                refine WC.region ?_
                refine RG.op _ _ rfl rfl (o_move (.v _) rfl) ?_
                refine RG.op _ _ rfl rfl (o_assign (.v _) rfl) ?_
                refine RG.nil (h29_ _ ?_)
                refine WC.seq fun Fh30_ h30_ => ?_
                refine WC.seq fun Fh31_ h31_ => ?_
                refine WC.region ?_
                refine RG.op _ _ rfl rfl (o_move (.v _) rfl) ?_
                refine RG.op _ _ rfl rfl (o_move (N64 0) rfl) ?_
                refine RG.nil (h31_ _ ?_)
                refine WC.block ?_
                refine WC.loopU [6, 7, 8, 79, 80, 81, 82, 83, 84, 85, 86, 87, 88, 89, 90, 91, 92, 93, 94, 95, 96, 97] (fun (j : Nat) => [(79, N64 j), (6, ow 0 (p.2.1.length + j) 1), (7, I64 (nS (repI p.2.1 j (zagI s.1))).2.1), (8, I64 (nS (repI p.2.1 j (zagI s.1))).1)]) (fun (j : Nat) => [(0, tb 2 (p.2.1.length + j) ((nS (repI p.2.1 j (zagI s.1))).2.2.map I64))]) (fun (j : Nat) => j ≤ r.1) (fun (j : Nat) => r.1 - j) 0 (by first | omega | exact ubyte _ | (simp only [LS, nS_len] <;> omega)) ?lpa32_ ?lpb33_
                case lpa32_ =>
                  exact .mk' ⟨⟨rfl, .v _⟩, ⟨rfl, (by first | exact .own _ _ _ _ _ (Nat.le_refl _) | exact .ptr _ _ _ (Nat.le_refl _) | exact .omp _ _ (Nat.le_refl _))⟩, ⟨congrArg (fun c => I64 (nS c).2.1) (repI_zero _ _).symm, .v _⟩, ⟨congrArg (fun c => I64 (nS c).1) (repI_zero _ _).symm, .v _⟩, trivial⟩ (same_refl _ _) (congrArg (fun c => [c]) (tb_eq rfl (congrArg (fun c => (nS c).2.2.map I64) (repI_zero _ _).symm))) (by repeat (first | exact trivial | refine And.intro (Nat.le_refl _) ?_ | refine And.intro trivial ?_ | refine And.intro (by show _ ≤ _; (first | omega | (simp only [LS, nS_len] <;> omega))) ?_)) (by repeat (first | exact trivial | refine And.intro (one_ok (.own _ _ _ _ _ (Nat.le_refl _))) ?_ | refine And.intro (okp (by repeat (first | exact pu_bytes _ | exact pu_nil | exact pu_vs rfl | exact pu_map (fun _ => .v _) _ | exact pu_vals _ | refine pu_app ?_ ?_ | refine pu_cons (by exact pu_of rfl) ?_))) ?_))
                case lpb33_ =>
                  rintro j hI
                  have hrl := repI_len p.2.1 j (zagI s.1)
                  refine WC.seq fun Fh34_ h34_ => ?_
                  refine WC.region ?_
                  refine RG.op _ _ rfl rfl (o_ltI rfl rfl) ?_
                  refine RG.nil (h34_ _ ?_)
                  refine WC.seq fun Fh35_ h35_ => ?_
                  refine WC.cond _ rfl (fun c22 => ?_) (fun c22 => ?_)
                  ·
                    have p22 := c22
                    try simp only [CN] at p22
                    refine WC.skip (h35_ _ ?_)
                    refine WC.seq fun Fh36_ h36_ => ?_
                    refine WC.block ?_
                    refine WC.seq fun Fh37_ h37_ => ?_
                    refine WC.region ?_
                    refine RG.op _ _ rfl rfl (o_move (.v _) rfl) ?_
                    refine RG.op _ _ rfl rfl (o_i64toU rfl Try.underlying2 Try.underlying69) ?_
                    refine RG.op _ _ rfl rfl (o_move (.v _) rfl) ?_
                    refine RG.op _ _ rfl rfl (o_i64toU rfl Try.underlying2 Try.underlying69) ?_
                    refine RG.op _ _ rfl rfl (o_addU rfl rfl) ?_
                    refine RG.op _ _ rfl rfl (o_UtoI64 rfl (by first | omega | exact ubyte _ | (simp only [LS, nS_len] <;> omega)) Try.underlying69 Try.underlying2) ?_
                    refine RG.op _ _ rfl rfl (o_assign (.v _) rfl) ?_
                    refine RG.nil (h37_ _ ?_)
                    refine WC.seq fun Fh38_ h38_ => ?_
                    refine WC.region ?_
                    refine RG.op _ _ rfl rfl (o_move (.v _) rfl) ?_
                    refine RG.op _ _ rfl rfl (o_i64toU rfl Try.underlying2 Try.underlying69) ?_
                    refine RG.op _ _ rfl rfl (o_move (.v _) rfl) ?_
                    refine RG.op _ _ rfl rfl (o_i64toU rfl Try.underlying2 Try.underlying69) ?_
                    refine RG.op _ _ rfl rfl (o_addU rfl rfl) ?_
                    refine RG.op _ _ rfl rfl (o_UtoI64 rfl (by first | omega | exact ubyte _ | (simp only [LS, nS_len] <;> omega)) Try.underlying69 Try.underlying2) ?_
                    refine RG.op _ _ rfl rfl (o_assign (.v _) rfl) ?_
                    refine RG.nil (h38_ _ ?_)
                    refine WC.region ?_
                    refine RG.op _ _ rfl rfl (o_move (.own _ _ _ _ _) rfl) ?_
                    refine RG.op _ _ rfl rfl (o_move (.v _) rfl) ?_
                    refine RG.op _ _ rfl rfl (o_litP (cs := [(.v _)]) Try.underlying58 Ty.inf2 rfl rfl rfl rfl (by repeat (first | exact pu_bytes _ | exact pu_nil | exact pu_vs rfl | exact pu_map (fun _ => .v _) _ | exact pu_vals _ | refine pu_app ?_ ?_ | refine pu_cons (by exact pu_of rfl) ?_))) ?_
                    refine RG.op _ _ rfl rfl (o_appT (Elem.of Try.underlying58 Ty.inf2 rfl (by decide)) rfl rfl rfl (by first | omega | exact ubyte _ | (simp only [LS, nS_len] <;> omega)) (by first | omega | exact ubyte _ | (simp only [LS, nS_len] <;> omega)) (by repeat (first | exact bytesD_one _ | exact one_nil | exact one_map (fun _ => rfl) _ | exact one_vals _ | refine one_app ?_ ?_ | refine one_cons rfl ?_)) (by first | omega | exact ubyte _ | (simp only [LS, nS_len] <;> omega)) (by first | omega | exact ubyte _ | (simp only [LS, nS_len] <;> omega))) ?_
                    refine RG.op _ _ rfl rfl (o_assign (.own _ _ _ _ _) rfl) ?_
                    refine RG.nil (h36_ _ ?_)
                    have h8 := (addI_u (nS (repI p.2.1 j (zagI s.1))).1 (zagI s.1)).trans repI_st.symm
                    have h7 := (addI_u (nS (repI p.2.1 j (zagI s.1))).2.1 _).trans ((congrArg (addI _) h8).trans repI_la.symm)
                    refine WC.region ?_
                    refine RG.op _ _ rfl rfl (o_addU (b := 1) rfl rfl) ?_
                    refine RG.op _ _ rfl rfl (o_move (.v _) rfl) ?_
                    refine RG.nil (Exists.intro (j + 1) ⟨by first | omega | (simp only [LS, nS_len] <;> omega), by first | omega | (simp only [LS, nS_len] <;> omega), ?_⟩)
                    exact .mk' ⟨⟨congrArg N64 (Nat.mod_eq_of_lt (by omega)), .v _⟩, ⟨rfl, (by first | exact .own _ _ _ _ _ (Nat.le_refl _) | exact .ptr _ _ _ (Nat.le_refl _) | exact .omp _ _ (Nat.le_refl _))⟩, ⟨congrArg I64 h7, .v _⟩, ⟨congrArg I64 h8, .v _⟩, trivial⟩ (by repeat (first | with_reducible exact same_refl _ _ | with_reducible refine same_updO (by with_unfolding_all exact rfl) ?_ | with_reducible refine same_updN ?_ | with_reducible refine same_updL (by with_unfolding_all exact rfl) ?_ | with_reducible refine same_forget (by with_unfolding_all exact rfl) ?_)) (congrArg (fun c => [c]) (tb_eq rfl (by rw [repI_out, ← h7]))) (by repeat (first | exact trivial | refine And.intro (Nat.le_refl _) ?_ | refine And.intro trivial ?_ | refine And.intro (by show _ ≤ _; (first | omega | (simp only [LS, nS_len] <;> omega))) ?_)) (by repeat (first | exact trivial | refine And.intro (one_ok (.own _ _ _ _ _ (Nat.le_refl _))) ?_ | refine And.intro (okp (by repeat (first | exact pu_bytes _ | exact pu_nil | exact pu_vs rfl | exact pu_map (fun _ => .v _) _ | exact pu_vals _ | refine pu_app ?_ ?_ | refine pu_cons (by exact pu_of rfl) ?_))) ?_))
                  ·
                    have p22 := c22
                    try simp only [CN] at p22
                    have hj : j = r.1 := by omega
                    refine WC.exit (h30_ _ ?_)
                    refine WC.seq fun Fh39_ h39_ => ?_
                    refine WC.region ?_
                    refine RG.op _ _ rfl rfl (o_move (.own _ _ _ _ _) rfl) ?_
                    refine RG.op _ _ rfl rfl (o_len_own rfl Try.underlying58) ?_
                    refine RG.op _ _ rfl rfl (o_move (.v _) rfl) ?_
                    refine RG.op _ _ rfl rfl (o_eqI rfl rfl) ?_
                    refine RG.op _ _ rfl rfl (o_move (.v _) rfl) ?_
                    refine RG.opg1 _ _ _ _ _ rfl rfl rfl rfl rfl (fun hb => o_move (.v _) rfl) ?_
                    refine RG.opg1 _ _ _ _ _ rfl rfl rfl rfl rfl (fun hb => o_move (.rd _ _) rfl) ?_
                    refine RG.opg1 _ _ _ _ _ rfl rfl rfl rfl rfl (fun hb => o_len_rd (gdT hb) Try.underlying24) ?_
                    refine RG.opg1 _ _ _ _ _ rfl rfl rfl rfl rfl (fun hb => o_ltI (gdT hb) (gdT hb)) ?_
                    refine RG.op _ _ rfl rfl (o_and _ _ rfl rfl rfl) ?_
                    refine RG.nil (h39_ _ ?_)
                    refine WC.cond _ rfl (fun c27 => ?_) (fun c27 => ?_)
                    ·
                      have p27 := c27
                      try simp only [CN] at p27
                      refine WC.seq fun Fh40_ h40_ => ?_
                      refine WC.region ?_
                      refine RG.op _ _ rfl rfl (o_assign (.v _) rfl) ?_
                      refine RG.op _ _ rfl rfl (o_assign (.v _) rfl) ?_
                      refine RG.nil (h40_ _ ?_)
                      refine WC.ret ?_
                      exact Ends.r2 rfl (.tmp _ (.v _) rfl) (.tmp _ (.v _) rfl) .nilr (.v _) (by rw [hk4, hst, gG_rest (by rw [repI_len]; omega) (by omega)]; rfl)
                    ·
                      have p27 := c27
                      try simp only [CN] at p27
                      refine WC.skip (Exists.intro ((p.1 + r.2.1 + s.2.1, repI p.2.1 r.1 (zagI s.1), zagI s.1)) ⟨⟨by show p.1 + r.2.1 + s.2.1 ≤ _; omega, by show (repI p.2.1 r.1 (zagI s.1)).length ≤ m; rw [repI_len]; omega, fun _ => repI_getD _ _ _ (by omega), hk4.trans hst, fun h h2 => by replace h : (repI p.2.1 r.1 (zagI s.1)).length = m := h; replace h2 : p.1 + r.2.1 + s.2.1 < b.length := h2; rw [repI_len] at h; omega, fun h => by omega⟩, by show m - (repI p.2.1 r.1 (zagI s.1)).length < _; rw [repI_len]; omega, ?_⟩)
                      exact .mk' ⟨⟨rfl, .v _⟩, ⟨ow_eq (by rw [repI_len]; omega), (by first | exact .own _ _ _ _ _ (Nat.le_refl _) | exact .ptr _ _ _ (Nat.le_refl _) | exact .omp _ _ (Nat.le_refl _))⟩, ⟨congrArg (fun j => I64 (nS (repI p.2.1 j (zagI s.1))).2.1) hj, .v _⟩, ⟨congrArg (fun j => I64 (nS (repI p.2.1 j (zagI s.1))).1) hj, .v _⟩, ⟨rfl, .v _⟩, trivial⟩ (by repeat (first | with_reducible exact same_refl _ _ | with_reducible refine same_updO (by with_unfolding_all exact rfl) ?_ | with_reducible refine same_updN ?_ | with_reducible refine same_updL (by with_unfolding_all exact rfl) ?_ | with_reducible refine same_forget (by with_unfolding_all exact rfl) ?_)) (congrArg (fun c => [c]) (tb_eq (by rw [repI_len]; omega) (congrArg (fun j => (nS (repI p.2.1 j (zagI s.1))).2.2.map I64) hj))) (by repeat (first | exact trivial | refine And.intro (Nat.le_refl _) ?_ | refine And.intro trivial ?_ | refine And.intro (by show _ ≤ _; (first | omega | (simp only [LS, nS_len] <;> omega))) ?_)) (by repeat (first | exact trivial | refine And.intro (one_ok (.own _ _ _ _ _ (Nat.le_refl _))) ?_ | refine And.intro (okp (by repeat (first | exact pu_bytes _ | exact pu_nil | exact pu_vs rfl | exact pu_map (fun _ => .v _) _ | exact pu_vals _ | refine pu_app ?_ ?_ | refine pu_cons (by exact pu_of rfl) ?_))) ?_))
      ·
        have p6 := c6
        try simp only [CN] at p6
        have hen : p.2.1.length = m := by omega
        refine WC.exit (h6_ _ ?_)
        refine WC.seq fun Fh41_ h41_ => ?_
        refine WC.seq fun Fh42_ h42_ => ?_
        refine WC.region ?_
        refine RG.op _ _ rfl rfl (o_move (.v _) rfl) ?_
        refine RG.op _ _ rfl rfl (o_eqI rfl rfl) ?_
        refine RG.op _ _ rfl rfl (o_move (.v _) rfl) ?_
        refine RG.opg1 _ _ _ _ _ rfl rfl rfl rfl rfl (fun hb => o_move (.rd _ _) rfl) ?_
        refine RG.opg1 _ _ _ _ _ rfl rfl rfl rfl rfl (fun hb => o_len_rd (gdT hb) Try.underlying24) ?_
        refine RG.opg1 _ _ _ _ _ rfl rfl rfl rfl rfl (fun hb => o_gtI (gdT hb) rfl) ?_
        refine RG.op _ _ rfl rfl (o_and _ _ rfl rfl rfl) ?_
        refine RG.nil (h42_ _ ?_)
        refine WC.cond _ rfl (fun c29 => ?_) (fun c29 => ?_)
        ·
          have p29 := c29
          try simp only [CN] at p29
          refine WC.seq fun Fh43_ h43_ => ?_
          refine WC.region ?_
          refine RG.op _ _ rfl rfl (o_assign (.v _) rfl) ?_
          refine RG.op _ _ rfl rfl (o_assign (.v _) rfl) ?_
          refine RG.nil (h43_ _ ?_)
          refine WC.ret ?_
          exact Ends.r2 rfl (.tmp _ (.v _) rfl) (.tmp _ (.v _) rfl) .nilr (.v _) (by rw [hk4, gG_rest (by omega) (by omega)]; rfl)
        ·
          have p29 := c29
          try simp only [CN] at p29
          refine WC.skip (h41_ _ ?_)
          refine WC.seq fun Fh44_ h44_ => ?_
          refine WC.region ?_
          refine RG.op _ _ rfl rfl (o_move (.own _ _ _ _ _) rfl) ?_
          refine RG.op _ _ rfl rfl (o_assign (.own _ _ _ _ _) rfl) ?_
          refine RG.op _ _ rfl rfl (o_assign (.v _) rfl) ?_
          refine RG.nil (h44_ _ ?_)
          refine WC.ret ?_
          exact Ends.r2 rfl (.tmp _ (.own _ _ _ _ _) rfl) (.tmp _ (.v _) rfl) (.tb rfl (by repeat (first | exact pu_bytes _ | exact pu_nil | exact pu_vs rfl | exact pu_map (fun _ => .v _) _ | exact pu_vals _ | refine pu_app ?_ ?_ | refine pu_cons (by exact pu_of rfl) ?_))) (.v _) (by rw [hk4, gG_end (by omega) (fun h => by have := hk5 hen h; have := hk6 this; omega)]; exact congrArg (fun c => D.tup [c, I64 0]) (rd_eq (nS_len _).symm rfl))
end Go.Proofs.Ytpdjcfhmdeeikaa
namespace Go.Proofs.Ytpdjcfhmdeeikaa
open Go.RowKit Go.DL

abbrev cU (c : List Int) : List D := c.map fun d => N64 (uI d)
theorem cU_get {c : List Int} {o : Nat} (ho : o = c.length - 1) (h : 0 < c.length) : (cU c)[o]? = some (N64 (uI (c.getD (c.length - 1) 0))) := by
  subst ho
  rw [List.getElem?_map, List.getElem?_eq_getElem (by omega)]
  simp [List.getD, show c.length - 1 < c.length by omega]
theorem uI_inj {a b : Int} (h1 : -9223372036854775808 ≤ a ∧ a ≤ 9223372036854775807) (h2 : -9223372036854775808 ≤ b ∧ b ≤ 9223372036854775807) (h : uI a = uI b) : a = b := by unfold uI at h; omega
theorem cU_rep (c : List Int) (j : Nat) (d : Int) : cU (repI c j d) ++ [N64 (uI d)] = cU (repI c (j + 1) d) := by rw [repI_succ]; simp
theorem uI_sgn {n : Nat} (h : n ≤ 18446744073709551615) : uI (sgn n) = n := by unfold uI sgn; split <;> omega
theorem uI_add (a b : Int) : (uI a + uI b) % 18446744073709551616 = uI (addI a b) := by
  unfold addI
  rw [uI_sgn (by omega)]
  unfold uI; omega
theorem sgn_add (a b : Int) : sgn (uI (addI a b)) = addI a b := by
  unfold addI
  rw [uI_sgn (by omega)]
theorem nS_take {c : List Int} {k : Nat} (h : k < c.length) : nS (c.take (k + 1)) = (addI (nS (c.take k)).1 c[k], addI (nS (c.take k)).2.1 (addI (nS (c.take k)).1 c[k]), (nS (c.take k)).2.2 ++ [addI (nS (c.take k)).2.1 (addI (nS (c.take k)).1 c[k])]) := by
  rw [List.take_succ_eq_append_getElem h, nS_snoc]
theorem vget_nil {b : List UInt8} {a : Nat} {r : Nat × Nat × Nat} (h : b.length ≤ a) (hr : r = vget (b.drop a)) : r = (0, 0, 20) := by
  rw [hr, List.drop_eq_nil_of_le h]; rfl
set_option maxRecDepth 20000 in
set_option maxHeartbeats 4000000 in
theorem igetR_c (b : List UInt8) (m : Nat) (hb : b.length ≤ 10995116277760) (hm : m ≤ 65536) : Fun Try.prog 49 [rdB b, I64 ((m : Nat) : Int)] (· = VI (gG b m 0 [])) := by
  refine Fun.of Try.func49 rfl (Nat.le_of_ble_eq_true rfl) fun C => ?_
  refine WC.seq fun Fh1_ h1_ => ?_
  refine WC.region ?_
  refine RG.op _ _ rfl rfl (o_assign (.v _) rfl) ?_
  refine RG.op _ _ rfl rfl (o_assign (.v _) rfl) ?_
  refine RG.nil (h1_ _ ?_)
  refine WC.seq fun Fh2_ h2_ => ?_
  refine WC.seq fun Fh3_ h3_ => ?_
  refine WC.region ?_
  refine RG.op _ _ rfl rfl (o_move (.v _) rfl) ?_
  refine RG.op _ _ rfl rfl (o_ltI rfl rfl) ?_
  refine RG.op _ _ rfl rfl (o_move (.v _) rfl) ?_
  refine RG.opg1 _ _ _ _ _ rfl rfl rfl rfl rfl (fun hb => o_move (.v _) rfl) ?_
  refine RG.opg1 _ _ _ _ _ rfl rfl rfl rfl rfl (fun hb => o_gtI (gdT hb) rfl) ?_
  refine RG.op _ _ rfl rfl (o_or _ _ rfl rfl rfl) ?_
  refine RG.nil (h3_ _ ?_)
  refine WC.cond _ rfl (fun c1 => ?_) (fun c1 => ?_)
  ·
    have p1 := c1
    try simp only [CN] at p1
    exfalso; omega
  ·
    have p1 := c1
    try simp only [CN] at p1
    refine WC.skip (h2_ _ ?_)
    refine WC.seq fun Fh4_ h4_ => ?_
    refine WC.region ?_
    refine RG.op _ _ rfl rfl (o_nil 69 1) ?_
    refine RG.nil (h4_ _ ?_)
    refine WC.seq fun Fh5_ h5_ => ?_
    refine WC.region ?_
    refine RG.op _ _ rfl rfl (o_assign (.v _) rfl) ?_
    refine RG.nil (h5_ _ ?_)
    refine WC.seq fun Fh6_ h6_ => ?_
    refine WC.block ?_
    refine WC.loopU [4, 5, 6, 7, 8, 9, 10, 11, 12, 13, 24, 25, 26, 27, 28, 29, 30, 31, 32, 33, 34, 35, 36, 37, 38, 39, 40, 41, 42, 43, 44, 45, 46, 47, 48, 49, 50, 51, 52, 53, 54, 55, 56, 57, 58, 59, 60, 61, 62, 63, 64, 65, 66, 67, 68, 69, 70, 71, 72, 73, 74, 75, 76, 77, 78, 79, 80, 81, 82, 83, 84, 85, 86, 87, 88, 89, 90, 91, 92, 93, 94, 95] (fun (p : Nat × List Int) => [(7, I64 ((p.1 : Nat) : Int)), (6, ow 0 p.2.length 1)]) (fun (p : Nat × List Int) => [(0, tb 69 p.2.length (cU p.2))]) (fun (p : Nat × List Int) => p.1 ≤ b.length ∧ p.2.length ≤ m ∧ (0 < p.2.length → -9223372036854775808 ≤ p.2.getD (p.2.length - 1) 0 ∧ p.2.getD (p.2.length - 1) 0 ≤ 9223372036854775807) ∧ gG b m 0 [] = gG b m p.1 p.2) (fun (p : Nat × List Int) => m - p.2.length) (0, []) ⟨Nat.zero_le _, Nat.zero_le _, fun h => absurd h (Nat.lt_irrefl _), rfl⟩ ?lpa7_ ?lpb8_
    case lpa7_ =>
      exact .mk' ⟨⟨rfl, .v _⟩, ⟨rfl, (by first | exact .own _ _ _ _ _ (Nat.le_refl _) | exact .ptr _ _ _ (Nat.le_refl _) | exact .omp _ _ (Nat.le_refl _))⟩, trivial⟩ (same_refl _ _) (rfl) (by repeat (first | exact trivial | refine And.intro (Nat.le_refl _) ?_ | refine And.intro trivial ?_ | refine And.intro (by show _ ≤ _; (first | omega | (simp only [LS, nS_len] <;> omega))) ?_)) (by repeat (first | exact trivial | refine And.intro (one_ok (.own _ _ _ _ _ (Nat.le_refl _))) ?_ | refine And.intro (okp (by repeat (first | exact pu_bytes _ | exact pu_nil | exact pu_vs rfl | exact pu_map (fun _ => .v _) _ | exact pu_vals _ | refine pu_app ?_ ?_ | refine pu_cons (by exact pu_of rfl) ?_))) ?_))
    case lpb8_ =>
      rintro p hI
      have hk1 := hI.1
      have hk2 := hI.2.1
      have hk3 := hI.2.2.1
      have hk4 := hI.2.2.2
      obtain ⟨r, hr⟩ : ∃ r, r = vget (b.drop p.1) := ⟨_, rfl⟩
      obtain ⟨s, hs⟩ : ∃ s, s = vget (b.drop (p.1 + r.2.1)) := ⟨_, rfl⟩
      have hv1 := vget_len5 (b.drop p.1)
      have hw1 := vget_lt (b.drop p.1)
      have hv2 := vget_len5 (b.drop (p.1 + r.2.1))
      have hw2 := vget_lt (b.drop (p.1 + r.2.1))
      rw [List.length_drop, ← hr] at hv1
      rw [List.length_drop, ← hs] at hv2
      rw [← hr] at hw1
      rw [← hs] at hw2
      have hg1 := rgetE_c hr (by rw [List.length_drop]; omega)
      have hg2 := rgetE_c hs (by rw [List.length_drop]; omega)
      have hzr := zag_bnd hw2
      refine WC.seq fun Fh9_ h9_ => ?_
      refine WC.seq fun Fh10_ h10_ => ?_
      refine WC.region ?_
      refine RG.op _ _ rfl rfl (o_move (.own _ _ _ _ _) rfl) ?_
      refine RG.op _ _ rfl rfl (o_len_own rfl Try.underlying67) ?_
      refine RG.op _ _ rfl rfl (o_move (.v _) rfl) ?_
      refine RG.op _ _ rfl rfl (o_ltI rfl rfl) ?_
      refine RG.nil (h10_ _ ?_)
      refine WC.cond _ rfl (fun c5 => ?_) (fun c5 => ?_)
      ·
        have p5 := c5
        try simp only [CN] at p5
        have hlt : p.2.length < m := by omega
        refine WC.skip (h9_ _ ?_)
        refine WC.block ?_
        refine WC.seq fun Fh11_ h11_ => ?_
        refine WC.seq fun Fh12_ h12_ => ?_
        refine WC.region ?_
        refine RG.op _ _ rfl rfl (o_move (.v _) rfl) ?_
        refine RG.op _ _ rfl rfl (o_move (.rd _ _) rfl) ?_
        refine RG.op _ _ rfl rfl (o_len_rd rfl Try.underlying24) ?_
        refine RG.op _ _ rfl rfl (o_eqI rfl rfl) ?_
        refine RG.nil (h12_ _ ?_)
        refine WC.cond _ rfl (fun c6 => ?_) (fun c6 => ?_)
        ·
          have p6 := c6
          try simp only [CN] at p6
          refine WC.seq fun Fh13_ h13_ => ?_
          refine WC.region ?_
          refine RG.op _ _ rfl rfl (o_assign (.v _) rfl) ?_
          refine RG.op _ _ rfl rfl (o_assign (.v _) rfl) ?_
          refine RG.nil (h13_ _ ?_)
          refine WC.ret ?_
          exact Ends.r2 rfl (.tmp _ (.v _) rfl) (.tmp _ (.v _) rfl) .nilr (.v _) (by rw [hk4, gG_bad1 hlt hr (by rw [vget_nil (by omega) hr]; decide), vget_nil (by omega) hr]; rfl)
        ·
          have p6 := c6
          try simp only [CN] at p6
          refine WC.skip (h11_ _ ?_)
          refine WC.seq fun Fh14_ h14_ => ?_
          refine WC.region ?_
          refine RG.op _ _ rfl rfl (o_move (.rd _ _) rfl) ?_
          refine RG.op _ _ rfl rfl (o_move (.v _) rfl) ?_
          refine RG.op _ _ rfl rfl (o_dropM p.1 rfl rfl Try.underlying24 (sz_of Ty.inf5) (by first | omega | exact ubyte _ | (simp only [LS, nS_len] <;> omega)) (by first | omega | exact ubyte _ | (simp only [LS, nS_len] <;> omega))) ?_
          refine RG.op _ _ rfl rfl ((by exact o_call (ds := [rdB (b.drop p.1)]) Ty.cal57 hg1 ⟨.inl rfl, trivial⟩ (by exact pua rfl))) ?_
          refine RG.op _ _ rfl rfl (o_move (.tup _) rfl) ?_
          refine RG.op _ _ rfl rfl (o_extract rfl rfl) ?_
          refine RG.op _ _ rfl rfl (o_extract rfl rfl) ?_
          refine RG.op _ _ rfl rfl (o_extract rfl rfl) ?_
          refine RG.op _ _ rfl rfl (o_assign (.v _) rfl) ?_
          refine RG.op _ _ rfl rfl (o_assign (.v _) rfl) ?_
          refine RG.op _ _ rfl rfl (o_assign (.v _) rfl) ?_
          refine RG.nil (h14_ _ ?_)
          refine WC.seq fun Fh15_ h15_ => ?_
          refine WC.seq fun Fh16_ h16_ => ?_
          refine WC.region ?_
          refine RG.op _ _ rfl rfl (o_move (.v _) rfl) ?_
          refine RG.op _ _ rfl rfl (o_neI rfl rfl) ?_
          refine RG.nil (h16_ _ ?_)
          refine WC.cond _ rfl (fun c9 => ?_) (fun c9 => ?_)
          ·
            have p9 := c9
            try simp only [CN] at p9
            refine WC.seq fun Fh17_ h17_ => ?_
            refine WC.region ?_
            refine RG.op _ _ rfl rfl (o_move (.v _) rfl) ?_
            refine RG.op _ _ rfl rfl (o_assign (.v _) rfl) ?_
            refine RG.op _ _ rfl rfl (o_assign (.v _) rfl) ?_
            refine RG.nil (h17_ _ ?_)
            refine WC.ret ?_
            exact Ends.r2 rfl (.tmp _ (.v _) rfl) (.tmp _ (.v _) rfl) .nilr (.v _) (by rw [hk4, gG_bad1 hlt hr (by omega)]; rfl)
          ·
            have p9 := c9
            try simp only [CN] at p9
            have hz1 : r.2.2 = 0 := by omega
            refine WC.skip (h15_ _ ?_)
            refine WC.seq fun Fh18_ h18_ => ?_
            refine WC.seq fun Fh19_ h19_ => ?_
            refine WC.region ?_
            refine RG.op _ _ rfl rfl (o_move (.v _) rfl) ?_
            refine RG.op _ _ rfl rfl (o_eqI rfl rfl) ?_
            refine RG.op _ _ rfl rfl (o_move (.v _) rfl) ?_
            refine RG.opg1 _ _ _ _ _ rfl rfl rfl rfl rfl (fun hb => o_move (.v _) rfl) ?_
            refine RG.opg1 _ _ _ _ _ rfl rfl rfl rfl rfl (fun hb => o_move (.v _) rfl) ?_
            refine RG.opg1 _ _ _ _ _ rfl rfl rfl rfl rfl (fun hb => o_move (.own _ _ _ _ _) rfl) ?_
            refine RG.opg1 _ _ _ _ _ rfl rfl rfl rfl rfl (fun hb => o_len_own (gdT hb) Try.underlying67) ?_
            refine RG.opg1 _ _ _ _ _ rfl rfl rfl rfl rfl (fun hb => o_sub (gdT hb) (gdT hb) (by first | omega | exact ubyte _ | (have hb' := hb; simp only [CN] at hb'; omega) | (simp only [LS, nS_len] <;> omega) | (have hb' := hb; simp only [CN] at hb'; simp only [LS, nS_len]; omega)) (by first | omega | exact ubyte _ | (have hb' := hb; simp only [CN] at hb'; omega) | (simp only [LS, nS_len] <;> omega) | (have hb' := hb; simp only [CN] at hb'; simp only [LS, nS_len]; omega))) ?_
            refine RG.opg1 _ _ _ _ _ rfl rfl rfl rfl rfl (fun hb => o_i64toU (gdT hb) Try.underlying3 Try.underlying69) ?_
            refine RG.opg1 _ _ _ _ _ rfl rfl rfl rfl rfl (fun hb => o_gtI (gdT hb) (gdT hb)) ?_
            refine RG.op _ _ rfl rfl (o_or _ _ rfl rfl rfl) ?_
            refine RG.nil (h19_ _ ?_)
            refine WC.cond _ rfl (fun c11 => ?_) (fun c11 => ?_)
            ·
              have p11 := c11
              try simp only [CN] at p11
              refine WC.seq fun Fh20_ h20_ => ?_
              refine WC.region ?_
              refine RG.op _ _ rfl rfl (o_assign (.v _) rfl) ?_
              refine RG.op _ _ rfl rfl (o_assign (.v _) rfl) ?_
              refine RG.nil (h20_ _ ?_)
              refine WC.ret ?_
              exact Ends.r2 rfl (.tmp _ (.v _) rfl) (.tmp _ (.v _) rfl) .nilr (.v _) (by rw [hk4, gG_many hlt hr hz1 (by omega)]; rfl)
            ·
              have p11 := c11
              try simp only [CN] at p11
              have hc1 : ¬ (r.1 = 0 ∨ m - p.2.length < r.1) := by omega
              refine WC.skip (h18_ _ ?_)
              refine WC.seq fun Fh21_ h21_ => ?_
              refine WC.region ?_
              refine RG.op _ _ rfl rfl (o_move (.v _) rfl) ?_
              refine RG.op _ _ rfl rfl (o_move (.v _) rfl) ?_
              refine RG.op _ _ rfl rfl (o_add rfl rfl (by first | omega | exact ubyte _ | (simp only [LS, nS_len] <;> omega)) (by first | omega | exact ubyte _ | (simp only [LS, nS_len] <;> omega))) ?_
              refine RG.op _ _ rfl rfl (o_assign (.v _) rfl) ?_
              refine RG.nil (h21_ _ ?_)
              refine WC.seq fun Fh22_ h22_ => ?_
              refine WC.region ?_
              refine RG.op _ _ rfl rfl (o_move (.rd _ _) rfl) ?_
              refine RG.op _ _ rfl rfl (o_move (.v _) rfl) ?_
              refine RG.op _ _ rfl rfl (o_dropM (p.1 + (r.2.1)) rfl rfl Try.underlying24 (sz_of Ty.inf5) (by first | omega | exact ubyte _ | (simp only [LS, nS_len] <;> omega)) (by first | omega | exact ubyte _ | (simp only [LS, nS_len] <;> omega))) ?_
              refine RG.op _ _ rfl rfl ((by exact o_call (ds := [rdB (b.drop (p.1 + r.2.1))]) Ty.cal57 hg2 ⟨.inl rfl, trivial⟩ (by exact pua rfl))) ?_
              refine RG.op _ _ rfl rfl (o_move (.tup _) rfl) ?_
              refine RG.op _ _ rfl rfl (o_extract rfl rfl) ?_
              refine RG.op _ _ rfl rfl (o_extract rfl rfl) ?_
              refine RG.op _ _ rfl rfl (o_extract rfl rfl) ?_
              refine RG.op _ _ rfl rfl (o_assign (.v _) rfl) ?_
              refine RG.op _ _ rfl rfl (o_assign (.v _) rfl) ?_
              refine RG.op _ _ rfl rfl (o_assign (.v _) rfl) ?_
              refine RG.nil (h22_ _ ?_)
              refine WC.seq fun Fh23_ h23_ => ?_
              refine WC.seq fun Fh24_ h24_ => ?_
              refine WC.region ?_
              refine RG.op _ _ rfl rfl (o_move (.v _) rfl) ?_
              refine RG.op _ _ rfl rfl (o_neI rfl rfl) ?_
              refine RG.nil (h24_ _ ?_)
              refine WC.cond _ rfl (fun c15 => ?_) (fun c15 => ?_)
              ·
                have p15 := c15
                try simp only [CN] at p15
                refine WC.seq fun Fh25_ h25_ => ?_
                refine WC.region ?_
                refine RG.op _ _ rfl rfl (o_move (.v _) rfl) ?_
                refine RG.op _ _ rfl rfl (o_assign (.v _) rfl) ?_
                refine RG.op _ _ rfl rfl (o_assign (.v _) rfl) ?_
                refine RG.nil (h25_ _ ?_)
                refine WC.ret ?_
                exact Ends.r2 rfl (.tmp _ (.v _) rfl) (.tmp _ (.v _) rfl) .nilr (.v _) (by rw [hk4, gG_bad2 hlt hr hz1 hc1 hs (by omega)]; rfl)
              ·
                have p15 := c15
                try simp only [CN] at p15
                have hz2 : s.2.2 = 0 := by omega
                refine WC.skip (h23_ _ ?_)
                refine WC.seq fun Fh26_ h26_ => ?_
                refine WC.region ?_
                refine RG.op _ _ rfl rfl (o_move (.v _) rfl) ?_
                refine RG.op _ _ rfl rfl (o_call Ty.cal58 (rzag_c _ (by first | omega | exact ubyte _ | (simp only [LS, nS_len] <;> omega))) ⟨.inl rfl, trivial⟩ (by exact pua rfl)) ?_
                refine RG.op _ _ rfl rfl (o_i64toU rfl Try.underlying2 Try.underlying69) ?_
                refine RG.op _ _ rfl rfl (o_assign (.v _) rfl) ?_
                refine RG.nil (h26_ _ ?_)
                refine WC.seq fun Fh27_ h27_ => ?_
                refine WC.seq fun Fh28_ h28_ => ?_
                refine WC.region ?_
                refine RG.op _ _ rfl rfl (o_move (.own _ _ _ _ _) rfl) ?_
                refine RG.op _ _ rfl rfl (o_len_own rfl Try.underlying67) ?_
                refine RG.op _ _ rfl rfl (o_gtI rfl rfl) ?_
                refine RG.op _ _ rfl rfl (o_move (.v _) rfl) ?_
                refine RG.opg1 _ _ _ _ _ rfl rfl rfl rfl rfl (fun hb => o_move (.own _ _ _ _ _) rfl) ?_
                refine RG.opg1 _ _ _ _ _ rfl rfl rfl rfl rfl (fun hb => o_move (.own _ _ _ _ _) rfl) ?_
                refine RG.opg1 _ _ _ _ _ rfl rfl rfl rfl rfl (fun hb => o_len_own (gdT hb) Try.underlying67) ?_
                refine RG.opg1 _ _ _ _ _ rfl rfl rfl rfl rfl (fun hb => o_sub (gdT hb) rfl (by first | omega | exact ubyte _ | (have hb' := hb; simp only [CN] at hb'; omega) | (simp only [LS, nS_len] <;> omega) | (have hb' := hb; simp only [CN] at hb'; simp only [LS, nS_len]; omega)) (by first | omega | exact ubyte _ | (have hb' := hb; simp only [CN] at hb'; omega) | (simp only [LS, nS_len] <;> omega) | (have hb' := hb; simp only [CN] at hb'; simp only [LS, nS_len]; omega))) ?_
                refine RG.opg1 _ _ _ _ _ rfl rfl rfl rfl rfl (fun hb => o_ixn_own (p.2.length - 1) (gdT hb) (gdT hb) Try.underlying67 (sz_of Ty.inf69) (by first | omega | exact ubyte _ | (have hb' := hb; simp only [CN] at hb'; omega) | (simp only [LS, nS_len] <;> omega) | (have hb' := hb; simp only [CN] at hb'; simp only [LS, nS_len]; omega)) (by first | omega | exact ubyte _ | (have hb' := hb; simp only [CN] at hb'; omega) | (simp only [LS, nS_len] <;> omega) | (have hb' := hb; simp only [CN] at hb'; simp only [LS, nS_len]; omega))) ?_
                refine RG.opg1 _ _ _ _ _ rfl rfl rfl rfl rfl (fun hb => o_load_ptr (d := N64 (uI (p.2.getD (p.2.length - 1) 0))) (gdT hb) Try.underlying69 rfl rfl rfl (cU_get (by first | omega | exact ubyte _ | (have hb' := hb; simp only [CN] at hb'; omega) | (simp only [LS, nS_len] <;> omega) | (have hb' := hb; simp only [CN] at hb'; simp only [LS, nS_len]; omega)) (by first | omega | exact ubyte _ | (have hb' := hb; simp only [CN] at hb'; omega) | (simp only [LS, nS_len] <;> omega) | (have hb' := hb; simp only [CN] at hb'; simp only [LS, nS_len]; omega)))) ?_
                refine RG.opg1 _ _ _ _ _ rfl rfl rfl rfl rfl (fun hb => o_move (.v _) rfl) ?_
                refine RG.opg1 _ _ _ _ _ rfl rfl rfl rfl rfl (fun hb => o_eqI (gdT hb) (gdT hb)) ?_
                refine RG.op _ _ rfl rfl (o_and _ _ rfl rfl rfl) ?_
                refine RG.nil (h28_ _ ?_)
                refine WC.cond _ rfl (fun c18 => ?_) (fun c18 => ?_)
                ·
                  have p18 := c18
                  try simp only [CN] at p18
                  have hc4 : 0 < p.2.length ∧ p.2.getD (p.2.length - 1) 0 = zagI s.1 := ⟨by omega, uI_inj (hk3 (by omega)) hzr (by first | exact p18.2 | exact Int.ofNat.inj p18.2)⟩
                  refine WC.seq fun Fh29_ h29_ => ?_
                  refine WC.region ?_
                  refine RG.op _ _ rfl rfl (o_assign (.v _) rfl) ?_
                  refine RG.op _ _ rfl rfl (o_assign (.v _) rfl) ?_
                  refine RG.nil (h29_ _ ?_)
                  refine WC.ret ?_
                  exact Ends.r2 rfl (.tmp _ (.v _) rfl) (.tmp _ (.v _) rfl) .nilr (.v _) (by rw [hk4, gG_same hlt hr hz1 hc1 hs hz2 hc4]; rfl)
                ·
                  have p18 := c18
                  try simp only [CN] at p18
                  have hc4 : ¬ (0 < p.2.length ∧ p.2.getD (p.2.length - 1) 0 = zagI s.1) := by rintro ⟨h1, h2⟩; rw [h2] at p18; unfold uI at p18; omega
                  have hst := gG_step hlt hr hz1 hc1 hs hz2 hc4
                  refine WC.skip (h27_ _ ?_)
                  refine WC.seq fun Fh30_ h30_ => ?_
                  refine WC.region ?_
                  refine RG.op _ _ rfl rfl (o_move (.v _) rfl) ?_
                  refine RG.op _ _ rfl rfl (o_move (.v _) rfl) ?_
                  refine RG.op _ _ rfl rfl (o_add rfl rfl (by first | omega | exact ubyte _ | (simp only [LS, nS_len] <;> omega)) (by first | omega | exact ubyte _ | (simp only [LS, nS_len] <;> omega))) ?_
                  refine RG.op _ _ rfl rfl (o_assign (.v _) rfl) ?_
                  refine RG.nil (h30_ _ ?_)
                  refine WC.seq fun Fh31_ h31_ => ?_
                  refine WC.region ?_
                  refine RG.op _ _ rfl rfl (o_assign (N64 0) rfl) ?_
                  refine RG.nil (h31_ _ ?_)
                  refine WC.block ?_
                  refine WC.loopU [6, 13, 87, 88, 89, 90, 91, 92, 93, 94, 95] (fun (j : Nat) => [(13, N64 j), (6, ow 0 (p.2.length + j) 1)]) (fun (j : Nat) => [(0, tb 69 (p.2.length + j) (cU (repI p.2 j (zagI s.1))))]) (fun (j : Nat) => j ≤ r.1) (fun (j : Nat) => r.1 - j) 0 (by first | omega | exact ubyte _ | (simp only [LS, nS_len] <;> omega)) ?lpa32_ ?lpb33_
                  case lpa32_ =>
                    exact .mk' ⟨⟨rfl, .v _⟩, ⟨rfl, (by first | exact .own _ _ _ _ _ (Nat.le_refl _) | exact .ptr _ _ _ (Nat.le_refl _) | exact .omp _ _ (Nat.le_refl _))⟩, trivial⟩ (same_refl _ _) (congrArg (fun c => [c]) (tb_eq rfl (congrArg cU (repI_zero _ _).symm))) (by repeat (first | exact trivial | refine And.intro (Nat.le_refl _) ?_ | refine And.intro trivial ?_ | refine And.intro (by show _ ≤ _; (first | omega | (simp only [LS, nS_len] <;> omega))) ?_)) (by repeat (first | exact trivial | refine And.intro (one_ok (.own _ _ _ _ _ (Nat.le_refl _))) ?_ | refine And.intro (okp (by repeat (first | exact pu_bytes _ | exact pu_nil | exact pu_vs rfl | exact pu_map (fun _ => .v _) _ | exact pu_vals _ | refine pu_app ?_ ?_ | refine pu_cons (by exact pu_of rfl) ?_))) ?_))
                  case lpb33_ =>
                    rintro j hI
                    have hrl := repI_len p.2 j (zagI s.1)
                    refine WC.seq fun Fh34_ h34_ => ?_
                    refine WC.seq fun Fh35_ h35_ => ?_
                    refine WC.region ?_
                    refine RG.op _ _ rfl rfl (o_move (.v _) rfl) ?_
                    refine RG.op _ _ rfl rfl (o_move (.v _) rfl) ?_
                    refine RG.op _ _ rfl rfl (o_ltI rfl rfl) ?_
                    refine RG.nil (h35_ _ ?_)
                    refine WC.cond _ rfl (fun c22 => ?_) (fun c22 => ?_)
                    ·
                      have p22 := c22
                      try simp only [CN] at p22
                      refine WC.skip (h34_ _ ?_)
                      refine WC.seq fun Fh36_ h36_ => ?_
                      refine WC.block ?_
                      refine WC.region ?_
                      refine RG.op _ _ rfl rfl (o_move (.own _ _ _ _ _) rfl) ?_
                      refine RG.op _ _ rfl rfl (o_move (.v _) rfl) ?_
                      refine RG.op _ _ rfl rfl (o_litP (cs := [(.v _)]) Try.underlying67 Ty.inf69 rfl rfl rfl rfl (by repeat (first | exact pu_bytes _ | exact pu_nil | exact pu_vs rfl | exact pu_map (fun _ => .v _) _ | exact pu_vals _ | refine pu_app ?_ ?_ | refine pu_cons (by exact pu_of rfl) ?_))) ?_
                      refine RG.op _ _ rfl rfl (o_appT (Elem.of Try.underlying67 Ty.inf69 rfl (by decide)) rfl rfl rfl (by first | omega | exact ubyte _ | (simp only [LS, nS_len] <;> omega)) (by first | omega | exact ubyte _ | (simp only [LS, nS_len] <;> omega)) (by repeat (first | exact bytesD_one _ | exact one_nil | exact one_map (fun _ => rfl) _ | exact one_vals _ | refine one_app ?_ ?_ | refine one_cons rfl ?_)) (by first | omega | exact ubyte _ | (simp only [LS, nS_len] <;> omega)) (by first | omega | exact ubyte _ | (simp only [LS, nS_len] <;> omega))) ?_
                      refine RG.op _ _ rfl rfl (o_assign (.own _ _ _ _ _) rfl) ?_
                      refine RG.nil (h36_ _ ?_)
                      refine WC.region ?_
                      refine RG.op _ _ rfl rfl (o_move (.v _) rfl) ?_
                      refine RG.op _ _ rfl rfl (o_addU (b := 1) rfl rfl) ?_
                      refine RG.op _ _ rfl rfl (o_assign (.v _) rfl) ?_
                      refine RG.nil (Exists.intro (j + 1) ⟨by first | omega | (simp only [LS, nS_len] <;> omega), by first | omega | (simp only [LS, nS_len] <;> omega), ?_⟩)
                      exact .mk' ⟨⟨congrArg N64 (Nat.mod_eq_of_lt (by omega)), .v _⟩, ⟨rfl, (by first | exact .own _ _ _ _ _ (Nat.le_refl _) | exact .ptr _ _ _ (Nat.le_refl _) | exact .omp _ _ (Nat.le_refl _))⟩, trivial⟩ (by repeat (first | with_reducible exact same_refl _ _ | with_reducible refine same_updO (by with_unfolding_all exact rfl) ?_ | with_reducible refine same_updN ?_ | with_reducible refine same_updL (by with_unfolding_all exact rfl) ?_ | with_reducible refine same_forget (by with_unfolding_all exact rfl) ?_)) (congrArg (fun c => [c]) (tb_eq rfl (cU_rep _ _ _))) (by repeat (first | exact trivial | refine And.intro (Nat.le_refl _) ?_ | refine And.intro trivial ?_ | refine And.intro (by show _ ≤ _; (first | omega | (simp only [LS, nS_len] <;> omega))) ?_)) (by repeat (first | exact trivial | refine And.intro (one_ok (.own _ _ _ _ _ (Nat.le_refl _))) ?_ | refine And.intro (okp (by repeat (first | exact pu_bytes _ | exact pu_nil | exact pu_vs rfl | exact pu_map (fun _ => .v _) _ | exact pu_vals _ | refine pu_app ?_ ?_ | refine pu_cons (by exact pu_of rfl) ?_))) ?_))
                    ·
                      have p22 := c22
                      try simp only [CN] at p22
                      have hj : j = r.1 := by omega
                      refine WC.exit (Exists.intro ((p.1 + r.2.1 + s.2.1, repI p.2 r.1 (zagI s.1))) ⟨⟨by show p.1 + r.2.1 + s.2.1 ≤ _; omega, by show (repI p.2 r.1 (zagI s.1)).length ≤ m; rw [repI_len]; omega, fun _ => by show -9223372036854775808 ≤ (repI p.2 r.1 (zagI s.1)).getD ((repI p.2 r.1 (zagI s.1)).length - 1) 0 ∧ (repI p.2 r.1 (zagI s.1)).getD ((repI p.2 r.1 (zagI s.1)).length - 1) 0 ≤ _; rw [repI_getD _ _ _ (by omega)]; exact hzr, hk4.trans hst⟩, by show m - (repI p.2 r.1 (zagI s.1)).length < _; rw [repI_len]; omega, ?_⟩)
                      exact .mk' ⟨⟨rfl, .v _⟩, ⟨ow_eq (by rw [repI_len]; omega), (by first | exact .own _ _ _ _ _ (Nat.le_refl _) | exact .ptr _ _ _ (Nat.le_refl _) | exact .omp _ _ (Nat.le_refl _))⟩, trivial⟩ (by repeat (first | with_reducible exact same_refl _ _ | with_reducible refine same_updO (by with_unfolding_all exact rfl) ?_ | with_reducible refine same_updN ?_ | with_reducible refine same_updL (by with_unfolding_all exact rfl) ?_ | with_reducible refine same_forget (by with_unfolding_all exact rfl) ?_)) (congrArg (fun c => [c]) (tb_eq (by rw [repI_len]; omega) (congrArg (fun j => cU (repI p.2 j (zagI s.1))) hj))) (by repeat (first | exact trivial | refine And.intro (Nat.le_refl _) ?_ | refine And.intro trivial ?_ | refine And.intro (by show _ ≤ _; (first | omega | (simp only [LS, nS_len] <;> omega))) ?_)) (by repeat (first | exact trivial | refine And.intro (one_ok (.own _ _ _ _ _ (Nat.le_refl _))) ?_ | refine And.intro (okp (by repeat (first | exact pu_bytes _ | exact pu_nil | exact pu_vs rfl | exact pu_map (fun _ => .v _) _ | exact pu_vals _ | refine pu_app ?_ ?_ | refine pu_cons (by exact pu_of rfl) ?_))) ?_))
      ·
        have p5 := c5
        try simp only [CN] at p5
        have hen : p.2.length = m := by omega
        refine WC.exit (h6_ _ ?_)
        refine WC.seq fun Fh37_ h37_ => ?_
        refine WC.seq fun Fh38_ h38_ => ?_
        refine WC.region ?_
        refine RG.op _ _ rfl rfl (o_move (.v _) rfl) ?_
        refine RG.op _ _ rfl rfl (o_move (.rd _ _) rfl) ?_
        refine RG.op _ _ rfl rfl (o_len_rd rfl Try.underlying24) ?_
        refine RG.op _ _ rfl rfl (o_neI rfl rfl) ?_
        refine RG.nil (h38_ _ ?_)
        refine WC.cond _ rfl (fun c25 => ?_) (fun c25 => ?_)
        ·
          have p25 := c25
          try simp only [CN] at p25
          refine WC.seq fun Fh39_ h39_ => ?_
          refine WC.region ?_
          refine RG.op _ _ rfl rfl (o_assign (.v _) rfl) ?_
          refine RG.op _ _ rfl rfl (o_assign (.v _) rfl) ?_
          refine RG.nil (h39_ _ ?_)
          refine WC.ret ?_
          exact Ends.r2 rfl (.tmp _ (.v _) rfl) (.tmp _ (.v _) rfl) .nilr (.v _) (by rw [hk4, gG_rest (by omega) (by omega)]; rfl)
        ·
          have p25 := c25
          try simp only [CN] at p25
          refine WC.skip (h37_ _ ?_)
          refine WC.seq fun Fh40_ h40_ => ?_
          refine WC.frz 0 _ [(6, .rd p.2.length (cU p.2))] rfl (by repeat (first | exact pu_bytes _ | exact pu_nil | exact pu_vs rfl | exact pu_map (fun _ => .v _) _ | exact pu_vals _ | refine pu_app ?_ ?_ | refine pu_cons (by exact pu_of rfl) ?_)) ⟨.rowE rfl (by first | rfl | omega | simp) (by first | rfl | simp [bytesD]), trivial⟩ ?_
          refine WC.region ?_
          refine RG.op _ _ rfl rfl (o_nil 2 1) ?_
          refine RG.nil (h40_ _ ?_)
          refine WC.seq fun Fh41_ h41_ => ?_
          refine WC.region ?_
          refine RG.op _ _ rfl rfl (o_assign (N64 0) rfl) ?_
          refine RG.nil (h41_ _ ?_)
          refine WC.seq fun Fh42_ h42_ => ?_
          refine WC.region ?_
          refine RG.op _ _ rfl rfl (o_assign (N64 0) rfl) ?_
          refine RG.nil (h42_ _ ?_)
          refine WC.seq fun Fh43_ h43_ => ?_
          refine WC.seq fun Fh44_ h44_ => ?_
          refine WC.region ?_
          refine RG.op _ _ rfl rfl (o_assign (.v _) rfl) ?_
          refine RG.nil (h44_ _ ?_)
          refine WC.block ?_
          refine WC.loopU [14, 15, 16, 17, 100, 101, 102, 103, 104, 105, 106, 107, 108, 109, 110, 111, 112, 113, 114, 115, 116, 117, 118, 119] (fun (k : Nat) => [(17, I64 ((k : Nat) : Int)), (15, N64 (uI (nS (p.2.take k)).1)), (16, N64 (uI (nS (p.2.take k)).2.1)), (14, ow 1 k 1)]) (fun (k : Nat) => [(1, tb 2 k ((nS (p.2.take k)).2.2.map I64))]) (fun (k : Nat) => k ≤ p.2.length) (fun (k : Nat) => p.2.length - k) 0 (by first | omega | exact ubyte _ | (simp only [LS, nS_len] <;> omega)) ?lpa45_ ?lpb46_
          case lpa45_ =>
            exact .mk' ⟨⟨rfl, .v _⟩, ⟨rfl, .v _⟩, ⟨rfl, .v _⟩, ⟨rfl, (by first | exact .own _ _ _ _ _ (Nat.le_refl _) | exact .ptr _ _ _ (Nat.le_refl _) | exact .omp _ _ (Nat.le_refl _))⟩, trivial⟩ (same_refl _ _) (rfl) (by repeat (first | exact trivial | refine And.intro (Nat.le_refl _) ?_ | refine And.intro trivial ?_ | refine And.intro (by show _ ≤ _; (first | omega | (simp only [LS, nS_len] <;> omega))) ?_)) (by repeat (first | exact trivial | refine And.intro (one_ok (.own _ _ _ _ _ (Nat.le_refl _))) ?_ | refine And.intro (okp (by repeat (first | exact pu_bytes _ | exact pu_nil | exact pu_vs rfl | exact pu_map (fun _ => .v _) _ | exact pu_vals _ | refine pu_app ?_ ?_ | refine pu_cons (by exact pu_of rfl) ?_))) ?_))
          case lpb46_ =>
            rintro k hI
            refine WC.seq fun Fh47_ h47_ => ?_
            refine WC.seq fun Fh48_ h48_ => ?_
            refine WC.region ?_
            refine RG.op _ _ rfl rfl (o_move (.v _) rfl) ?_
            refine RG.op _ _ rfl rfl (o_move (.rd _ _) rfl) ?_
            refine RG.op _ _ rfl rfl (o_len_rd rfl Try.underlying67) ?_
            refine RG.op _ _ rfl rfl (o_ltI rfl rfl) ?_
            refine RG.nil (h48_ _ ?_)
            refine WC.cond _ rfl (fun c31 => ?_) (fun c31 => ?_)
            ·
              have p31 := c31
              try simp only [CN] at p31
              have hkl : k < p.2.length := by omega
              refine WC.skip (h47_ _ ?_)
              refine WC.seq fun Fh49_ h49_ => ?_
              refine WC.block ?_
              refine WC.seq fun Fh50_ h50_ => ?_
              refine WC.region ?_
              refine RG.op _ _ rfl rfl (o_move (.v _) rfl) ?_
              refine RG.op _ _ rfl rfl (o_move (.rd _ _) rfl) ?_
              refine RG.op _ _ rfl rfl (o_move (.v _) rfl) ?_
              refine RG.op _ _ rfl rfl (o_ixn_M k rfl rfl Try.underlying67 (sz_of Ty.inf69) (by first | omega | exact ubyte _ | (simp only [LS, nS_len] <;> omega)) (by first | omega | exact ubyte _ | (simp only [LS, nS_len] <;> omega))) ?_
              refine RG.op _ _ rfl rfl (o_load_adr rfl Try.underlying69 rfl rfl) ?_
              refine RG.op _ _ rfl rfl (o_addU rfl rfl) ?_
              refine RG.op _ _ rfl rfl (o_assign (.v _) rfl) ?_
              refine RG.nil (h50_ _ ?_)
              refine WC.seq fun Fh51_ h51_ => ?_
              refine WC.region ?_
              refine RG.op _ _ rfl rfl (o_move (.v _) rfl) ?_
              refine RG.op _ _ rfl rfl (o_move (.v _) rfl) ?_
              refine RG.op _ _ rfl rfl (o_addU rfl rfl) ?_
              refine RG.op _ _ rfl rfl (o_assign (.v _) rfl) ?_
              refine RG.nil (h51_ _ ?_)
              refine WC.region ?_
              refine RG.op _ _ rfl rfl (o_move (.own _ _ _ _ _) rfl) ?_
              refine RG.op _ _ rfl rfl (o_move (.v _) rfl) ?_
              refine RG.op _ _ rfl rfl (o_UtoI64 rfl (by first | omega | exact ubyte _ | (simp only [LS, nS_len] <;> omega)) Try.underlying69 Try.underlying2) ?_
              refine RG.op _ _ rfl rfl (o_litP (cs := [(.v _)]) Try.underlying58 Ty.inf2 rfl rfl rfl rfl (by repeat (first | exact pu_bytes _ | exact pu_nil | exact pu_vs rfl | exact pu_map (fun _ => .v _) _ | exact pu_vals _ | refine pu_app ?_ ?_ | refine pu_cons (by exact pu_of rfl) ?_))) ?_
              refine RG.op _ _ rfl rfl (o_appT (Elem.of Try.underlying58 Ty.inf2 rfl (by decide)) rfl rfl rfl (by first | omega | exact ubyte _ | (simp only [LS, nS_len] <;> omega)) (by first | omega | exact ubyte _ | (simp only [LS, nS_len] <;> omega)) (by repeat (first | exact bytesD_one _ | exact one_nil | exact one_map (fun _ => rfl) _ | exact one_vals _ | refine one_app ?_ ?_ | refine one_cons rfl ?_)) (by first | omega | exact ubyte _ | (simp only [LS, nS_len] <;> omega)) (by first | omega | exact ubyte _ | (simp only [LS, nS_len] <;> omega))) ?_
              refine RG.op _ _ rfl rfl (o_assign (.own _ _ _ _ _) rfl) ?_
              refine RG.nil (h49_ _ ?_)
              refine WC.region ?_
              refine RG.op _ _ rfl rfl (o_move (.v _) rfl) ?_
              refine RG.op _ _ rfl rfl (o_add rfl rfl (by first | omega | exact ubyte _ | (simp only [LS, nS_len] <;> omega)) (by first | omega | exact ubyte _ | (simp only [LS, nS_len] <;> omega))) ?_
              refine RG.op _ _ rfl rfl (o_assign (.v _) rfl) ?_
              refine RG.nil (Exists.intro (k + 1) ⟨by first | omega | (simp only [LS, nS_len] <;> omega), by first | omega | (simp only [LS, nS_len] <;> omega), ?_⟩)
              exact .mk' ⟨⟨rfl, .v _⟩, ⟨congrArg N64 (by rw [nS_take hkl]; exact uI_add _ _), .v _⟩, ⟨congrArg N64 (by rw [nS_take hkl]; exact (congrArg (fun x => (_ + x) % _) (uI_add _ _)).trans (uI_add _ _)), .v _⟩, ⟨rfl, (by first | exact .own _ _ _ _ _ (Nat.le_refl _) | exact .ptr _ _ _ (Nat.le_refl _) | exact .omp _ _ (Nat.le_refl _))⟩, trivial⟩ (by repeat (first | with_reducible exact same_refl _ _ | with_reducible refine same_updO (by with_unfolding_all exact rfl) ?_ | with_reducible refine same_updN ?_ | with_reducible refine same_updL (by with_unfolding_all exact rfl) ?_ | with_reducible refine same_forget (by with_unfolding_all exact rfl) ?_)) (congrArg (fun c => [none, c]) (tb_eq rfl (by rw [nS_take hkl, uI_add, uI_add, sgn_add]; simp))) (by repeat (first | exact trivial | refine And.intro (Nat.le_refl _) ?_ | refine And.intro trivial ?_ | refine And.intro (by show _ ≤ _; (first | omega | (simp only [LS, nS_len] <;> omega))) ?_)) (by repeat (first | exact trivial | refine And.intro (one_ok (.own _ _ _ _ _ (Nat.le_refl _))) ?_ | refine And.intro (okp (by repeat (first | exact pu_bytes _ | exact pu_nil | exact pu_vs rfl | exact pu_map (fun _ => .v _) _ | exact pu_vals _ | refine pu_app ?_ ?_ | refine pu_cons (by exact pu_of rfl) ?_))) ?_))
            ·
              have p31 := c31
              try simp only [CN] at p31
              refine WC.exit (h43_ _ ?_)
              refine WC.seq fun Fh52_ h52_ => ?_
              refine WC.region ?_
              refine RG.op _ _ rfl rfl (o_move (.own _ _ _ _ _) rfl) ?_
              refine RG.op _ _ rfl rfl (o_assign (.own _ _ _ _ _) rfl) ?_
              refine RG.op _ _ rfl rfl (o_assign (.v _) rfl) ?_
              refine RG.nil (h52_ _ ?_)
              refine WC.ret ?_
              exact Ends.r2 rfl (.tmp _ (.own _ _ _ _ _) rfl) (.tmp _ (.v _) rfl) (.tb rfl (by repeat (first | exact pu_bytes _ | exact pu_nil | exact pu_vs rfl | exact pu_map (fun _ => .v _) _ | exact pu_vals _ | refine pu_app ?_ ?_ | refine pu_cons (by exact pu_of rfl) ?_))) (.v _) (by rw [hk4, gG_end (by omega) (by omega)]; have e : k = p.2.length := (by omega); subst e; exact congrArg (fun c => D.tup [c, I64 0]) (rd_eq (nS_len _).symm (by rw [List.take_length])))
end Go.Proofs.Ytpdjcfhmdeeikaa
namespace Go.Proofs.Ytpdjcfhmdeeikaa
open Go.RowKit Go.DL

set_option maxHeartbeats 4000000 in
theorem iarg_c (b : List UInt8) (n : Int) (hn : n < 0 ∨ 65536 < n) : Fun Try.prog 53 [rdB b, I64 n] (· = VI ([], 1)) := by
  refine Fun.of Try.func53 rfl (Nat.le_of_ble_eq_true rfl) fun C => ?_
  refine WC.seq fun Fh1_ h1_ => ?_
  refine WC.region ?_
  refine RG.op _ _ rfl rfl (o_assign (.v _) rfl) ?_
  refine RG.op _ _ rfl rfl (o_assign (.v _) rfl) ?_
  refine RG.nil (h1_ _ ?_)
  refine WC.seq fun Fh2_ h2_ => ?_
  refine WC.seq fun Fh3_ h3_ => ?_
  refine WC.region ?_
  refine RG.op _ _ rfl rfl (o_move (.v _) rfl) ?_
  refine RG.op _ _ rfl rfl (o_ltI rfl rfl) ?_
  refine RG.op _ _ rfl rfl (o_move (.v _) rfl) ?_
  refine RG.opg1 _ _ _ _ _ rfl rfl rfl rfl rfl (fun hb => o_move (.v _) rfl) ?_
  refine RG.opg1 _ _ _ _ _ rfl rfl rfl rfl rfl (fun hb => o_gtI (gdT hb) rfl) ?_
  refine RG.op _ _ rfl rfl (o_or _ _ rfl rfl rfl) ?_
  refine RG.nil (h3_ _ ?_)
  refine WC.cond _ rfl (fun c1 => ?_) (fun c1 => ?_)
  ·
    have p1 := c1
    try simp only [CN] at p1
    refine WC.seq fun Fh4_ h4_ => ?_
    refine WC.region ?_
    refine RG.op _ _ rfl rfl (o_assign (.v _) rfl) ?_
    refine RG.op _ _ rfl rfl (o_assign (.v _) rfl) ?_
    refine RG.nil (h4_ _ ?_)
    refine WC.ret ?_
    exact Ends.r2 rfl (.tmp _ (.v _) rfl) (.tmp _ (.v _) rfl) .nilr (.v _) (rfl)
  ·
    have p1 := c1
    try simp only [CN] at p1
    exfalso; omega
set_option maxHeartbeats 4000000 in
theorem rarg_c (b : List UInt8) (n : Int) (hn : n < 0 ∨ 65536 < n) : Fun Try.prog 49 [rdB b, I64 n] (· = VI ([], 1)) := by
  refine Fun.of Try.func49 rfl (Nat.le_of_ble_eq_true rfl) fun C => ?_
  refine WC.seq fun Fh1_ h1_ => ?_
  refine WC.region ?_
  refine RG.op _ _ rfl rfl (o_assign (.v _) rfl) ?_
  refine RG.op _ _ rfl rfl (o_assign (.v _) rfl) ?_
  refine RG.nil (h1_ _ ?_)
  refine WC.seq fun Fh2_ h2_ => ?_
  refine WC.seq fun Fh3_ h3_ => ?_
  refine WC.region ?_
  refine RG.op _ _ rfl rfl (o_move (.v _) rfl) ?_
  refine RG.op _ _ rfl rfl (o_ltI rfl rfl) ?_
  refine RG.op _ _ rfl rfl (o_move (.v _) rfl) ?_
  refine RG.opg1 _ _ _ _ _ rfl rfl rfl rfl rfl (fun hb => o_move (.v _) rfl) ?_
  refine RG.opg1 _ _ _ _ _ rfl rfl rfl rfl rfl (fun hb => o_gtI (gdT hb) rfl) ?_
  refine RG.op _ _ rfl rfl (o_or _ _ rfl rfl rfl) ?_
  refine RG.nil (h3_ _ ?_)
  refine WC.cond _ rfl (fun c1 => ?_) (fun c1 => ?_)
  ·
    have p1 := c1
    try simp only [CN] at p1
    refine WC.seq fun Fh4_ h4_ => ?_
    refine WC.region ?_
    refine RG.op _ _ rfl rfl (o_assign (.v _) rfl) ?_
    refine RG.op _ _ rfl rfl (o_assign (.v _) rfl) ?_
    refine RG.nil (h4_ _ ?_)
    refine WC.ret ?_
    exact Ends.r2 rfl (.tmp _ (.v _) rfl) (.tmp _ (.v _) rfl) .nilr (.v _) (rfl)
  ·
    have p1 := c1
    try simp only [CN] at p1
    exfalso; omega
theorem geti_c (b : List UInt8) (n : Int) (hb : b.length ≤ 10995116277760) : Fun Try.prog 53 [rdB b, I64 n] (· = VI (getI5 b n)) := by
  unfold getI5
  split
  · rename_i h; exact iarg_c b n h
  · have h := iget_c b n.toNat hb (by omega)
    rwa [show ((n.toNat : Nat) : Int) = n by omega] at h
theorem getr_c (b : List UInt8) (n : Int) (hb : b.length ≤ 10995116277760) : Fun Try.prog 49 [rdB b, I64 n] (· = VI (getI5 b n)) := by
  unfold getI5
  split
  · rename_i h; exact rarg_c b n h
  · have h := igetR_c b n.toNat hb (by omega)
    rwa [show ((n.toNat : Nat) : Int) = n by omega] at h
/-! ### Changes and numbers -/
def chI : List Int → Int → Int → List Int
  | [], _, _ => []
  | v :: l, la, st => wrapI (wrapI v la) st :: chI l v (wrapI v la)
theorem runsF_is : ∀ (l : List Int) (la st : Int) (n : Nat) (c : Int), runsF l la st n c = runsG (chI l la st) n c
  | [], _, _, n, c => rfl
  | v :: l, la, st, n, c => by
    rw [runsF, chI, runsG, runsF_is l, runsF_is l]
theorem chI_len : ∀ (l : List Int) (la st : Int), (chI l la st).length = l.length
  | [], _, _ => rfl
  | v :: l, la, st => by rw [chI, List.length_cons, chI_len l, List.length_cons]
abbrev in64 (x : Int) : Prop := -9223372036854775808 ≤ x ∧ x ≤ 9223372036854775807
theorem sgn_id {x : Int} (h : in64 x) : sgn (x % 18446744073709551616).toNat = x := by unfold sgn; split <;> omega
theorem sgn_eq {x y : Int} (h : in64 x) (e : y % 18446744073709551616 = x % 18446744073709551616) : sgn (y % 18446744073709551616).toNat = x := by rw [e]; exact sgn_id h
theorem add_mod (a b : Int) : addI a b % 18446744073709551616 = (a + b) % 18446744073709551616 := by unfold addI; rw [sgn_mod (by omega)]; omega
theorem add_in (a b : Int) : in64 (addI a b) := by unfold addI; exact sgn_rng (by omega)
theorem wrap_in (a b : Int) : in64 (wrapI a b) := wrap_rng a b
theorem add_wrap {a b : Int} (h : in64 a) : addI b (wrapI a b) = a := by
  have h1 := wrap_mod a b
  exact sgn_eq h (by omega)
theorem wrap_add {a b : Int} (h : in64 b) : wrapI (addI a b) a = b := by
  have h1 := add_mod a b
  exact sgn_eq h (by omega)
abbrev nF (q : Int × Int × List Int) (d : Int) : Int × Int × List Int := (addI q.1 d, addI q.2.1 (addI q.1 d), q.2.2 ++ [addI q.2.1 (addI q.1 d)])
theorem nS_is (c : List Int) : nS c = c.foldl nF (0, 0, []) := rfl
/-- The numbers of a row's changes are the row. -/
theorem fold_ch : ∀ (l : List Int) (la st : Int) (out : List Int), (∀ x ∈ l, in64 x) → ((chI l la st).foldl nF (st, la, out)).2.2 = out ++ l
  | [], _, _, out, _ => (List.append_nil out).symm
  | v :: l, la, st, out, h => by
    rw [chI, List.foldl_cons]
    have e1 : addI st (wrapI (wrapI v la) st) = wrapI v la := add_wrap (wrap_in v la)
    have e2 : addI la (wrapI v la) = v := add_wrap (h v (by simp))
    unfold nF
    simp only [e1, e2]
    rw [fold_ch l v (wrapI v la) (out ++ [v]) fun x hx => h x (by simp [hx])]
    simp
theorem nS_ch {l : List Int} (h : ∀ x ∈ l, in64 x) : (nS (chI l 0 0)).2.2 = l := by rw [nS_is]; exact fold_ch l 0 0 [] h
/-- The changes of the numbers of changes are these changes. -/
theorem ch_fold : ∀ (c : List Int) (la st : Int) (out : List Int), (∀ x ∈ c, in64 x) → ∃ l, (c.foldl nF (st, la, out)).2.2 = out ++ l ∧ chI l la st = c ∧ ∀ x ∈ l, in64 x
  | [], _, _, out, _ => ⟨[], (List.append_nil out).symm, rfl, fun _ h => by simp at h⟩
  | d :: c, la, st, out, h => by
    obtain ⟨l, h1, h2, h3⟩ := ch_fold c (addI la (addI st d)) (addI st d) (out ++ [addI la (addI st d)]) fun x hx => h x (by simp [hx])
    have e1 : wrapI (addI la (addI st d)) la = addI st d := wrap_add (add_in _ _)
    refine ⟨addI la (addI st d) :: l, ?_, ?_, ?_⟩
    · rw [List.foldl_cons, h1]; simp
    · rw [chI, e1, wrap_add (h d (by simp)), h2]
    · intro x hx
      rcases List.mem_cons.1 hx with rfl | hx
      · exact add_in _ _
      · exact h3 x hx
theorem ch_nS {c : List Int} (h : ∀ x ∈ c, in64 x) : chI (nS c).2.2 0 0 = c ∧ ∀ x ∈ (nS c).2.2, in64 x := by
  obtain ⟨l, h1, h2, h3⟩ := ch_fold c 0 0 [] h
  have e : (nS c).2.2 = l := by rw [nS_is, h1]; rfl
  rw [e]; exact ⟨h2, h3⟩
/-! ### Runs -/
def expR (prs : List (Nat × Int)) : List Int := prs.flatMap fun p => List.replicate p.1 p.2
theorem expR_cons (p : Nat × Int) (r : List (Nat × Int)) : expR (p :: r) = List.replicate p.1 p.2 ++ expR r := rfl
theorem exp_runsG : ∀ (r : List Int) (n : Nat) (c : Int), expR (runsG r n c) = List.replicate n c ++ r
  | [], n, c => by
    rw [runsG]
    split
    · simp [expR]
    · have : n = 0 := by omega
      subst this; rfl
  | d :: r, n, c => by
    rw [runsG]
    split
    · rw [expR_cons, exp_runsG r 1 d]; simp
    · rename_i h
      rw [exp_runsG r (n + 1) d, List.replicate_succ', List.append_assoc]
      rcases Nat.eq_zero_or_pos n with h0 | h0
      · subst h0; rfl
      · have : d = c := by
          rcases Decidable.em (d = c) with e | e
          · exact e
          · exact absurd ⟨h0, e⟩ h
        rw [this]; rfl
def okR : List (Nat × Int) → Prop
  | [] => True
  | p :: r => 1 ≤ p.1 ∧ (∀ q, r.head? = some q → p.2 ≠ q.2) ∧ okR r
theorem runsG_head : ∀ (r : List Int) (n : Nat) (c : Int), 0 < n → ∀ q, (runsG r n c).head? = some q → q.2 = c
  | [], n, c, h, q, e => by rw [runsG, if_pos h] at e; cases e; rfl
  | d :: r, n, c, h, q, e => by
    rw [runsG] at e
    split at e
    · cases e; rfl
    · rename_i h2
      have : d = c := by
        rcases Decidable.em (d = c) with e | e
        · exact e
        · exact absurd ⟨h, e⟩ h2
      exact (runsG_head r (n + 1) d (by omega) q e).trans this
theorem okR_runsG : ∀ (r : List Int) (n : Nat) (c : Int), okR (runsG r n c)
  | [], n, c => by
    rw [runsG]
    split
    · rename_i h; exact ⟨h, fun q h => (by cases h), trivial⟩
    · trivial
  | d :: r, n, c => by
    rw [runsG]
    split
    · rename_i h
      exact ⟨h.1, fun q hq => by rw [runsG_head r 1 d (by omega) q hq]; exact fun e => h.2 e.symm, okR_runsG r 1 d⟩
    · exact okR_runsG r (n + 1) d
theorem runsG_run : ∀ (m : Nat) (r : List Int) (n : Nat) (d : Int), runsG (List.replicate m d ++ r) n d = runsG r (n + m) d
  | 0, r, n, d => rfl
  | m + 1, r, n, d => by
    rw [List.replicate_succ, List.cons_append, runsG, if_neg (fun h => h.2 rfl), runsG_run m r (n + 1) d]
    congr 1; omega
theorem runsG_cons (d : Int) (r : List Int) (n : Nat) (c : Int) : runsG (d :: r) n c = if 0 < n ∧ ¬ d = c then (n, c) :: runsG r 1 d else runsG r (n + 1) d := rfl
theorem runsG_end (n : Nat) (c : Int) : runsG [] n c = if 0 < n then [(n, c)] else [] := rfl
/-- A run behind others. -/
theorem runsG_snoc {m : Nat} (hm : 1 ≤ m) (d : Int) : ∀ (r : List Int) (n : Nat) (c : Int), (∀ x, (List.replicate n c ++ r).getLast? = some x → x ≠ d) → runsG (r ++ List.replicate m d) n c = runsG r n c ++ [(m, d)]
  | [], n, c, h => by
    obtain ⟨k, rfl⟩ : ∃ k, m = k + 1 := ⟨m - 1, by omega⟩
    rw [List.nil_append, List.replicate_succ, runsG_cons, runsG_end]
    have hr : ∀ n, runsG (List.replicate k d) n d = runsG [] (n + k) d := fun n => by have := runsG_run k [] n d; rwa [List.append_nil] at this
    rcases Nat.eq_zero_or_pos n with h0 | h0
    · subst h0
      rw [if_neg (fun h => Nat.lt_irrefl _ h.1), hr, runsG_end, if_pos (by omega), if_neg (Nat.lt_irrefl _)]
      show [_] = [_]
      rw [show 0 + 1 + k = k + 1 by omega]
    · have hc : ¬ c = d := fun e => by
        refine h c ?_ e
        obtain ⟨j, rfl⟩ : ∃ j, n = j + 1 := ⟨n - 1, by omega⟩
        rw [List.append_nil, List.replicate_succ']; simp
      rw [if_pos ⟨h0, fun e => hc e.symm⟩, hr, runsG_end, if_pos (by omega), if_pos h0]
      show [_, _] = [_, _]
      rw [show 1 + k = k + 1 by omega]
  | x :: r, n, c, h => by
    have hx : ∀ k, (∀ y, (List.replicate (k + 1) x ++ r).getLast? = some y → y ≠ d) := fun k y hy => by
      refine h y ?_
      rw [← hy, List.replicate_succ', List.append_assoc]
      simp [List.getLast?_append, List.getLast?_cons]
    rw [List.cons_append, runsG_cons, runsG_cons]
    split
    · rw [runsG_snoc hm d r 1 x (hx 0)]; rfl
    · rw [runsG_snoc hm d r (n + 1) x (hx n)]
end Go.Proofs.Ytpdjcfhmdeeikaa
