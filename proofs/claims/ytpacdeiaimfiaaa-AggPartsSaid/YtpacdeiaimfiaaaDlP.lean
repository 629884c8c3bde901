/-
  A logic of data for the walks: numbers of 8 and 64 bits as numbers, tables. Plain lemmas over any program; no condition.
-/
import Derived.Test.YtpacdeiaimfiaaaDlO
set_option linter.unusedSimpArgs false
set_option linter.unusedVariables false
namespace Go.DL
open Go.RowKit

abbrev N64 (n : Nat) : D := .v (.int .u64 (n : Int))
abbrev B8 (b : UInt8) : D := .v (.int .u8 (b.toNat : Int))
section
variable {P : Program} {C : Ctx} {env : Nat → D} {H H' : Heap} {dst : Option Nat} {ty t t' e : TypeId} {pos : String} {after : Array Edge} {gu : Option (Nat × Bool)} {X Y Z : Operand} {td : TypeDesc}

/-! ### 64 bits -/
theorem wrapU64 (n : Nat) : IntKind.u64.wrap (n : Int) = ((n % 18446744073709551616 : Nat) : Int) := by rw [IntKind.wrap_u64]; omega
theorem o_addU {a b : Nat} (hx : ev env X = N64 a) (hy : ev env Y = N64 b) : OpD P C ⟨dst, .binOp .add t X Y t', ty, pos, after, gu⟩ env H (N64 ((a + b) % 18446744073709551616)) H :=
  (o_bin (.int .u64 (IntKind.u64.wrap ((a : Int) + (b : Int)))) hx hy rfl).cast (v_int (by rw [IntKind.wrap_u64]; omega))
theorem o_subU {a b : Nat} (hx : ev env X = N64 a) (hy : ev env Y = N64 b) (hb : b ≤ 18446744073709551615) : OpD P C ⟨dst, .binOp .sub t X Y t', ty, pos, after, gu⟩ env H (N64 ((a + (18446744073709551616 - b)) % 18446744073709551616)) H :=
  (o_bin (.int .u64 (IntKind.u64.wrap ((a : Int) - (b : Int)))) hx hy rfl).cast (v_int (by rw [IntKind.wrap_u64]; omega))
theorem o_mulU {a b : Nat} (hx : ev env X = N64 a) (hy : ev env Y = N64 b) : OpD P C ⟨dst, .binOp .mul t X Y t', ty, pos, after, gu⟩ env H (N64 ((a * b) % 18446744073709551616)) H :=
  (o_bin (.int .u64 (IntKind.u64.wrap ((a : Int) * (b : Int)))) hx hy rfl).cast (v_int (by rw [← Int.natCast_mul, wrapU64]))
theorem o_quoU {a b : Nat} (hx : ev env X = N64 a) (hy : ev env Y = N64 b) (hb : 0 < b) (ha : a ≤ 18446744073709551615) : OpD P C ⟨dst, .binOp .quo t X Y t', ty, pos, after, gu⟩ env H (N64 (a / b)) H :=
  (o_bin (.int .u64 (IntKind.u64.wrap ((a : Int).tdiv (b : Int)))) hx hy (by
    show Op.intDiv .quo .u64 a b = _
    unfold Op.intDiv
    rw [if_neg (by omega)]; rfl)).cast (v_int (by
      rw [Int.tdiv_eq_ediv_of_nonneg (by omega), ← Int.natCast_ediv, wrapU64, Nat.mod_eq_of_lt]
      exact Nat.lt_of_le_of_lt (Nat.div_le_self _ _) (by omega)))
theorem o_remU {a b : Nat} (hx : ev env X = N64 a) (hy : ev env Y = N64 b) (hb : 0 < b) : OpD P C ⟨dst, .binOp .rem t X Y t', ty, pos, after, gu⟩ env H (N64 (a % b)) H :=
  (o_rem hx hy (by omega) (by omega)).cast (v_int (by omega))
theorem ofInt64 (n : Nat) (h : n ≤ 18446744073709551615) : (BitVec.ofInt 64 (n : Int)).toNat = n := by rw [BitVec.ofInt_natCast, BitVec.toNat_ofNat, Nat.mod_eq_of_lt (by omega)]
theorem bitsU {op : BitVec 64 → BitVec 64 → BitVec 64} {f : Nat → Nat → Nat} (hf : ∀ x y : BitVec 64, (op x y).toNat = f x.toNat y.toNat) (hl : ∀ a b : Nat, a < 2 ^ 64 → b < 2 ^ 64 → f a b < 2 ^ 64) {a b : Nat} (ha : a ≤ 18446744073709551615) (hb : b ≤ 18446744073709551615) :
    IntKind.u64.wrap ((op (BitVec.ofInt 64 (a : Int)) (BitVec.ofInt 64 (b : Int))).toNat : Int) = ((f a b : Nat) : Int) := by
  rw [hf, ofInt64 a ha, ofInt64 b hb, wrapU64, Nat.mod_eq_of_lt (hl a b (by omega) (by omega))]
theorem o_xorU {a b : Nat} (hx : ev env X = N64 a) (hy : ev env Y = N64 b) (ha : a ≤ 18446744073709551615) (hb : b ≤ 18446744073709551615) : OpD P C ⟨dst, .binOp .xor t X Y t', ty, pos, after, gu⟩ env H (N64 (a ^^^ b)) H :=
  (o_bin (.int .u64 (IntKind.u64.wrap ((BitVec.ofInt 64 (a : Int) ^^^ BitVec.ofInt 64 (b : Int)).toNat : Int))) hx hy rfl).cast (v_int (bitsU (fun _ _ => BitVec.toNat_xor _ _) (fun _ _ h1 h2 => Nat.xor_lt_two_pow h1 h2) ha hb))
theorem o_orU {a b : Nat} (hx : ev env X = N64 a) (hy : ev env Y = N64 b) (ha : a ≤ 18446744073709551615) (hb : b ≤ 18446744073709551615) : OpD P C ⟨dst, .binOp .or t X Y t', ty, pos, after, gu⟩ env H (N64 (a ||| b)) H :=
  (o_bin (.int .u64 (IntKind.u64.wrap ((BitVec.ofInt 64 (a : Int) ||| BitVec.ofInt 64 (b : Int)).toNat : Int))) hx hy rfl).cast (v_int (bitsU (fun _ _ => BitVec.toNat_or _ _) (fun _ _ h1 h2 => Nat.or_lt_two_pow h1 h2) ha hb))
theorem o_andU {a b : Nat} (hx : ev env X = N64 a) (hy : ev env Y = N64 b) (ha : a ≤ 18446744073709551615) (hb : b ≤ 18446744073709551615) : OpD P C ⟨dst, .binOp .and t X Y t', ty, pos, after, gu⟩ env H (N64 (a &&& b)) H :=
  (o_bin (.int .u64 (IntKind.u64.wrap ((BitVec.ofInt 64 (a : Int) &&& BitVec.ofInt 64 (b : Int)).toNat : Int))) hx hy rfl).cast (v_int (bitsU (fun _ _ => BitVec.toNat_and _ _) (fun _ _ _ h2 => Nat.and_lt_two_pow _ h2) ha hb))
theorem o_shlU {a n : Nat} (hx : ev env X = N64 a) (hy : ev env Y = N64 n) (hn : n ≤ 64) : OpD P C ⟨dst, .binOp .shl t X Y t', ty, pos, after, gu⟩ env H (N64 ((a * 2 ^ n) % 18446744073709551616)) H :=
  (o_bin _ hx hy (shl_run hn)).cast (v_int (by rw [show ((a : Int) * 2 ^ n) = ((a * 2 ^ n : Nat) : Int) by simp, wrapU64]))
theorem o_shrU {k : IntKind} {a n : Nat} (hx : ev env X = .v (.int k (a : Int))) (hy : ev env Y = N64 n) (hn : n ≤ k.bits) : OpD P C ⟨dst, .binOp .shr t X Y t', ty, pos, after, gu⟩ env H (.v (.int k ((a / 2 ^ n : Nat) : Int))) H :=
  (o_bin _ hx hy (shr_run hn)).cast (v_int (by rw [fdiv_pow]))
theorem o_shlI {k : IntKind} {x : Int} {n : Nat} (hx : ev env X = .v (.int k x)) (hy : ev env Y = I64 n) (hn : n ≤ k.bits) : OpD P C ⟨dst, .binOp .shl t X Y t', ty, pos, after, gu⟩ env H (.v (.int k (k.wrap (x * 2 ^ n)))) H :=
  o_bin _ hx hy (by
    show Op.shift .shl k x .i64 n = _
    unfold Op.shift
    rw [if_neg (by omega)]
    simp only [Int.toNat_natCast, Nat.min_eq_left hn]; rfl)
theorem o_shrN {k : IntKind} {a n : Nat} (hx : ev env X = .v (.int k (a : Int))) (hy : ev env Y = I64 n) (hn : n ≤ k.bits) : OpD P C ⟨dst, .binOp .shr t X Y t', ty, pos, after, gu⟩ env H (.v (.int k ((a / 2 ^ n : Nat) : Int))) H :=
  (o_bin _ hx hy (by
    show Op.shift .shr k a .i64 n = _
    unfold Op.shift
    rw [if_neg (by omega)]
    simp only [Int.toNat_natCast, Nat.min_eq_left hn]; rfl)).cast (v_int (by rw [fdiv_pow]))
theorem o_i64toU {n : Int} (hx : ev env X = I64 n) {ds : TypeDesc} (hs : P.underlying t = some ds) (hd : P.underlying t' = some (.int .u64)) : OpD P C ⟨dst, .convert t t' X, ty, pos, after, gu⟩ env H (N64 (n % 18446744073709551616).toNat) H :=
  (o_int hx hs hd).cast (v_int (by rw [IntKind.wrap_u64]; omega))
/-- A number of 64 bits read with its sign. -/
def sgn (n : Nat) : Int := if n < 9223372036854775808 then (n : Int) else (n : Int) - 18446744073709551616
theorem o_UtoI64 {n : Nat} (hx : ev env X = N64 n) (hn : n ≤ 18446744073709551615) {ds : TypeDesc} (hs : P.underlying t = some ds) (hd : P.underlying t' = some (.int .i64)) : OpD P C ⟨dst, .convert t t' X, ty, pos, after, gu⟩ env H (I64 (sgn n)) H :=
  (o_int hx hs hd).cast (v_int (by rw [IntKind.wrap_i64]; unfold sgn; split <;> omega))
theorem o_UtoU {n : Nat} (hx : ev env X = N64 n) (hn : n ≤ 18446744073709551615) {ds : TypeDesc} (hs : P.underlying t = some ds) (hd : P.underlying t' = some (.int .u64)) : OpD P C ⟨dst, .convert t t' X, ty, pos, after, gu⟩ env H (N64 n) H :=
  (o_int hx hs hd).cast (v_int (by rw [IntKind.wrap_u64]; omega))
theorem o_UtoB {n : Nat} (hx : ev env X = N64 n) {ds : TypeDesc} (hs : P.underlying t = some ds) (hd : P.underlying t' = some (.int .u8)) : OpD P C ⟨dst, .convert t t' X, ty, pos, after, gu⟩ env H (B8 (UInt8.ofNat n)) H :=
  (o_int hx hs hd).cast (v_int (by rw [IntKind.wrap_u8, UInt8.toNat_ofNat']; omega))
theorem o_ItoB {n : Int} (hx : ev env X = I64 n) {ds : TypeDesc} (hs : P.underlying t = some ds) (hd : P.underlying t' = some (.int .u8)) : OpD P C ⟨dst, .convert t t' X, ty, pos, after, gu⟩ env H (B8 (UInt8.ofNat (n % 256).toNat)) H :=
  (o_int hx hs hd).cast (v_int (by rw [IntKind.wrap_u8, UInt8.toNat_ofNat']; omega))
theorem o_BtoU {b : UInt8} (hx : ev env X = B8 b) {ds : TypeDesc} (hs : P.underlying t = some ds) (hd : P.underlying t' = some (.int .u64)) : OpD P C ⟨dst, .convert t t' X, ty, pos, after, gu⟩ env H (N64 b.toNat) H :=
  (o_int hx hs hd).cast (v_int (by have := b.toNat_lt; rw [wrapU64, Nat.mod_eq_of_lt (by omega)]))
theorem o_BtoI {b : UInt8} (hx : ev env X = B8 b) {ds : TypeDesc} (hs : P.underlying t = some ds) (hd : P.underlying t' = some (.int .i64)) : OpD P C ⟨dst, .convert t t' X, ty, pos, after, gu⟩ env H (I64 b.toNat) H :=
  (o_int hx hs hd).cast (v_int (by have := b.toNat_lt; rw [IntKind.wrap_i64]; omega))
/-! ### Bytes -/
theorem o_eqB {a b : UInt8} (hx : ev env X = B8 a) (hy : ev env Y = B8 b) : OpD P C ⟨dst, .binOp .eql t X Y t', ty, pos, after, gu⟩ env H (.v (.bool (a == b))) H :=
  (o_bin (.bool ((a.toNat : Int) == (b.toNat : Int))) hx hy rfl).cast (v_bool (by rw [Bool.eq_iff_iff]; simp [← UInt8.toNat_inj]; omega))
theorem o_neB {a b : UInt8} (hx : ev env X = B8 a) (hy : ev env Y = B8 b) : OpD P C ⟨dst, .binOp .neq t X Y t', ty, pos, after, gu⟩ env H (.v (.bool (a != b))) H :=
  (o_bin (.bool ((a.toNat : Int) != (b.toNat : Int))) hx hy rfl).cast (v_bool (by rw [Bool.eq_iff_iff]; simp [← UInt8.toNat_inj]; omega))
theorem o_ltB {a b : UInt8} (hx : ev env X = B8 a) (hy : ev env Y = B8 b) : OpD P C ⟨dst, .binOp .lss t X Y t', ty, pos, after, gu⟩ env H (.v (.bool (decide (a.toNat < b.toNat)))) H :=
  (o_bin (.bool (decide ((a.toNat : Int) < (b.toNat : Int)))) hx hy rfl).cast (v_bool (by rw [Bool.eq_iff_iff]; simp))
theorem o_leB {a b : UInt8} (hx : ev env X = B8 a) (hy : ev env Y = B8 b) : OpD P C ⟨dst, .binOp .leq t X Y t', ty, pos, after, gu⟩ env H (.v (.bool (decide (a.toNat ≤ b.toNat)))) H :=
  (o_bin (.bool (decide ((a.toNat : Int) ≤ (b.toNat : Int)))) hx hy rfl).cast (v_bool (by rw [Bool.eq_iff_iff]; simp))
theorem o_gtB {a b : UInt8} (hx : ev env X = B8 a) (hy : ev env Y = B8 b) : OpD P C ⟨dst, .binOp .gtr t X Y t', ty, pos, after, gu⟩ env H (.v (.bool (decide (b.toNat < a.toNat)))) H :=
  (o_bin (.bool (decide ((a.toNat : Int) > (b.toNat : Int)))) hx hy rfl).cast (v_bool (by rw [Bool.eq_iff_iff]; simp))
theorem o_geB {a b : UInt8} (hx : ev env X = B8 a) (hy : ev env Y = B8 b) : OpD P C ⟨dst, .binOp .geq t X Y t', ty, pos, after, gu⟩ env H (.v (.bool (decide (b.toNat ≤ a.toNat)))) H :=
  (o_bin (.bool (decide ((a.toNat : Int) ≥ (b.toNat : Int)))) hx hy rfl).cast (v_bool (by rw [Bool.eq_iff_iff]; simp))
theorem o_addB {a b : UInt8} (hx : ev env X = B8 a) (hy : ev env Y = B8 b) : OpD P C ⟨dst, .binOp .add t X Y t', ty, pos, after, gu⟩ env H (B8 (a + b)) H :=
  (o_bin (.int .u8 (IntKind.u8.wrap ((a.toNat : Int) + (b.toNat : Int)))) hx hy rfl).cast (v_int (by rw [IntKind.wrap_u8, UInt8.toNat_add]; omega))
theorem o_subB {a b : UInt8} (hx : ev env X = B8 a) (hy : ev env Y = B8 b) : OpD P C ⟨dst, .binOp .sub t X Y t', ty, pos, after, gu⟩ env H (B8 (a - b)) H :=
  (o_bin (.int .u8 (IntKind.u8.wrap ((a.toNat : Int) - (b.toNat : Int)))) hx hy rfl).cast (v_int (by have := a.toNat_lt; have := b.toNat_lt; rw [IntKind.wrap_u8, UInt8.toNat_sub]; omega))
/-! ### Numbers with a sign: what comparisons tell -/
theorem o_eqI {k : IntKind} {a b : Int} (hx : ev env X = .v (.int k a)) (hy : ev env Y = .v (.int k b)) : OpD P C ⟨dst, .binOp .eql t X Y t', ty, pos, after, gu⟩ env H (.v (.bool (decide (a = b)))) H :=
  (o_bin (.bool (a == b)) hx hy (by cases k <;> rfl)).cast (v_bool (by rw [Bool.eq_iff_iff]; simp))
theorem o_neI {k : IntKind} {a b : Int} (hx : ev env X = .v (.int k a)) (hy : ev env Y = .v (.int k b)) : OpD P C ⟨dst, .binOp .neq t X Y t', ty, pos, after, gu⟩ env H (.v (.bool (decide (a ≠ b)))) H :=
  (o_bin (.bool (a != b)) hx hy (by cases k <;> rfl)).cast (v_bool (by rw [Bool.eq_iff_iff]; simp))
theorem o_ltI {k : IntKind} {a b : Int} (hx : ev env X = .v (.int k a)) (hy : ev env Y = .v (.int k b)) : OpD P C ⟨dst, .binOp .lss t X Y t', ty, pos, after, gu⟩ env H (.v (.bool (decide (a < b)))) H := o_bin _ hx hy (by cases k <;> rfl)
theorem o_leI {k : IntKind} {a b : Int} (hx : ev env X = .v (.int k a)) (hy : ev env Y = .v (.int k b)) : OpD P C ⟨dst, .binOp .leq t X Y t', ty, pos, after, gu⟩ env H (.v (.bool (decide (a ≤ b)))) H := o_bin _ hx hy (by cases k <;> rfl)
theorem o_gtI {k : IntKind} {a b : Int} (hx : ev env X = .v (.int k a)) (hy : ev env Y = .v (.int k b)) : OpD P C ⟨dst, .binOp .gtr t X Y t', ty, pos, after, gu⟩ env H (.v (.bool (decide (a > b)))) H := o_bin _ hx hy (by cases k <;> rfl)
theorem o_geI {k : IntKind} {a b : Int} (hx : ev env X = .v (.int k a)) (hy : ev env Y = .v (.int k b)) : OpD P C ⟨dst, .binOp .geq t X Y t', ty, pos, after, gu⟩ env H (.v (.bool (decide (a ≥ b)))) H := o_bin _ hx hy (by cases k <;> rfl)

/-! ### Tables -/
/-- Which key of a table is this one. -/
def kFind (kd : TypeDesc) (k : Value) : List Value → Nat → Option (Option Nat)
  | [], _ => some none
  | x :: ks, i => match Instr.sameNow kd k x with
    | some true => some (some i)
    | some false => kFind kd k ks (i + 1)
    | none => none
theorem findNow_of {kd : TypeDesc} {k : Value} : ∀ {es : List MapEntry} {i : Nat} {r : Option Nat}, kFind kd k (es.map (·.key)) i = some r →
    Instr.findNow kd k es i = some (r.bind fun j => (es[j - i]?).map fun e => (j, e.val)) ∧ ∀ j, r = some j → i ≤ j ∧ j - i < es.length
  | [], i, r, h => by simp [kFind] at h; subst h; exact ⟨rfl, by simp⟩
  | e :: es, i, r, h => by
    rw [List.map_cons, kFind] at h
    rw [Instr.findNow]
    cases hs : Instr.sameNow kd k e.key with
    | none => rw [hs] at h; cases h
    | some b =>
      rw [hs] at h
      cases b with
      | true => simp at h; subst h; refine ⟨by simp, fun j hj => ?_⟩; cases hj; simp
      | false =>
        simp only at h ⊢
        obtain ⟨h1, h2⟩ := findNow_of h
        cases r with
        | none => exact ⟨by rw [h1]; rfl, by simp⟩
        | some j =>
          obtain ⟨h3, h4⟩ := h2 j rfl
          refine ⟨?_, fun j' hj => ?_⟩
          · rw [h1]
            simp only [Option.bind_some]
            rw [show j - i = (j - (i + 1)) + 1 by omega, List.getElem?_cons_succ]
          · cases hj; simp; omega
/-- A key whose type is looked at in one step. -/
def flatKey : TypeDesc → Bool
  | .int _ | .string | .bool => true
  | _ => false
theorem run_getMap {w : World} {r : Nat} {es : Array MapEntry} {ck : Nat} (h : w.heap[r]? = some (.map es ck)) : (getObj r).run P w = .ok (.map es ck) w := by simp [getObj, Sem.run, h]
theorem run_checkKey' {w : World} {em : Bool} {kt : TypeId} {kd : TypeDesc} {v : Value} (hk : P.underlying kt = some kd) (hf : flatKey kd = true) : (Instr.checkKey em 10000 kt v).run P w = .ok () w := by
  cases kd <;> first
    | (simp [flatKey] at hf; done)
    | (rw [show (10000 : Nat) = 9999 + 1 from rfl, Instr.checkKey]; simp [run_underlying hk])
theorem o_lookup_hit {ks : List Value} {cs : List D} {kt et : TypeId} {kd : TypeDesc} {k : Value} {d : D} {ok : Bool} (j : Nat) (hx : ev env X = .mp ks cs) (hy : ev env Y = .v k) (ht : P.underlying t = some (.map kt et)) (hk : P.underlying kt = some kd) (hf : flatKey kd = true) (hj : kFind kd k ks 0 = some (some j)) (hd : cs[j]? = some d) :
    OpD P C ⟨dst, .lookup t X Y ok, ty, pos, after, gu⟩ env H (bif ok then .tup [d, .v (.bool true)] else d) H := by
  refine OpD.same fun K β a w hw h _ => ?_
  have h1 := h X (by simp [Op.operands])
  have h2 := h Y (by simp [Op.operands])
  rw [hx] at h1; rw [hy] at h2
  obtain ⟨r, es, ck, e1, hK, hks, hlen, hds⟩ := h1.mp_inv
  have hheap := hw.holds _ _ hK
  subst hks
  obtain ⟨f1, f2⟩ := findNow_of hj
  obtain ⟨_, f3⟩ := f2 j rfl
  rw [Nat.sub_zero] at f3
  have hu : es[j]? = some es[j] := Array.getElem?_eq_getElem (by simpa using f3)
  have hdv := hds j _ d hu hd
  have hfind : (Instr.findKey kt k es.toList).run P w = .ok (some (j, es[j].val)) w := by
    have hl : es.toList[j]? = some es[j] := by rw [Array.getElem?_toList]; exact hu
    simp [Instr.findKey, run_underlying hk, f1, hl, hu]
  refine ⟨if ok then .tuple #[es[j].val, .bool true] else es[j].val, ?_, ?_, ?_⟩
  · simp [execOp, e1, h2.v_inv, Instr.lookup, run_underlying ht, run_getMap hheap, run_checkKey' hk hf, hfind]
  · cases ok with
    | false => exact hdv.up rfl
    | true => exact tupR (us := [es[j].val, .bool true]) rfl (by simp [hdv.up rfl]; exact .v _ _)
  · cases ok with
    | false => exact hdv.okp rfl
    | true => exact .tup _ (by simp [hdv.okp rfl]; exact .v _)
theorem o_lookup_miss {ks : List Value} {cs : List D} {kt et : TypeId} {kd : TypeDesc} {k zv : Value} {ok : Bool} (hx : ev env X = .mp ks cs) (hy : ev env Y = .v k) (ht : P.underlying t = some (.map kt et)) (hk : P.underlying kt = some kd) (hf : flatKey kd = true) (hz : (P.info? et).map (·.zero) = some (some zv)) (hj : kFind kd k ks 0 = some none) :
    OpD P C ⟨dst, .lookup t X Y ok, ty, pos, after, gu⟩ env H (bif ok then .tup [.v zv, .v (.bool false)] else .v zv) H := by
  refine OpD.same fun K β a w hw h _ => ?_
  have h1 := h X (by simp [Op.operands])
  have h2 := h Y (by simp [Op.operands])
  rw [hx] at h1; rw [hy] at h2
  obtain ⟨r, es, ck, e1, hK, hks, hlen, hds⟩ := h1.mp_inv
  have hheap := hw.holds _ _ hK
  subst hks
  obtain ⟨f1, _⟩ := findNow_of hj
  obtain ⟨inf, hi1, hi2⟩ := Option.map_eq_some_iff.1 hz
  have hfind : (Instr.findKey kt k es.toList).run P w = .ok none w := by
    simp [Instr.findKey, run_underlying hk, f1]
  refine ⟨if ok then .tuple #[zv, .bool false] else zv, ?_, ?_, ?_⟩
  · simp [execOp, e1, h2.v_inv, Instr.lookup, run_underlying ht, run_getMap hheap, run_checkKey' hk hf, hfind, zeroValue, typeInfo, hi1, hi2]
  · cases ok with
    | false => exact .v _ _
    | true => exact tupR (us := [zv, .bool false]) rfl (by simp; exact ⟨.v _ _, .v _ _⟩)
  · cases ok with
    | false => exact .v _
    | true => exact .tup _ (by simp; exact ⟨.v _, .v _⟩)
/-- The keys of a map of the call's own. -/
def keysD : List D → List Value
  | [] => []
  | .tup [.v k, _] :: cs => k :: keysD cs
  | _ :: cs => undef :: keysD cs
theorem o_makeMap (hz : True) : OpD P C ⟨dst, .makeMap t none, ty, pos, after, gu⟩ env H (.omp H.length 0) (H ++ [some ⟨[], t, false, 0⟩]) := by
  let _ := hz
  refine OpD.of (HLe.app _ _) fun K β a w hw _ _ => ⟨K, _, .map (some w.heap.size), _, ?_, KX.refl _ _, addB_agr, hw.newMap t, ?_, .omp _ _ (okV_new _ _)⟩
  · simp [execOp, Instr.makeMap, newObj]; rfl
  · have := DR.omp (K := K) (β := addB β H.length 0 ⟨w.heap.size, 0, .map⟩) H.length 0 (by rw [addB_at])
    rwa [addB_at] at this
theorem WS.putO {K : Mem} {β : Nat → Nat → BT} {w : World} (h : WS C K β H w) {id : Nat} {b b' : Blk} (hb : H[id]? = some (some b)) (hrl : (β id b.ver).real = true) (hv : b'.ver = b.ver) (o : Obj) (hR : BlkR K β (β id b.ver) b' (some o)) (ho : ∀ c ∈ b'.cs, OkD H c) :
    WS C K β (H.set id (some b')) { w with heap := w.heap.setIfInBounds (β id b.ver).blk o } := by
  have hid : id < H.length := (List.getElem?_eq_some_iff.1 hb).1
  have hlt := h.lt hb hrl
  have split : ∀ {i : Nat} {x : Blk}, (H.set id (some b'))[i]? = some (some x) → (i = id ∧ x = b') ∨ (i ≠ id ∧ H[i]? = some (some x)) := by
    intro i x hx
    rw [List.getElem?_set] at hx
    by_cases e : id = i
    · rw [if_pos e, if_pos hid] at hx; simp at hx; exact .inl ⟨e.symm, hx.symm⟩
    · rw [if_neg e] at hx; exact .inr ⟨Ne.symm e, hx⟩
  have hne : ∀ {i : Nat} {x : Blk}, H[i]? = some (some x) → (β i x.ver).real = true → i ≠ id → (β i x.ver).blk ≠ (β id b.ver).blk := fun hx hri hi he => hi (h.inj _ _ _ _ hx hb hri hrl he)
  have hother : ∀ k, k ≠ (β id b.ver).blk → (w.heap.setIfInBounds (β id b.ver).blk o)[k]? = w.heap[k]? := fun k hk => by simp [Ne.symm hk]
  refine ⟨fun b2 c hc => ?_, fun i x hx => ?_, fun i x hx c hc => ?_, fun i j x y hx hy hri hrj he => ?_, fun i x hx hr => ?_, fun i x hx hr => ?_, by show C.B ≤ (w.heap.setIfInBounds _ _).size; rw [Array.size_setIfInBounds]; exact h.size, ?_, h.agr, h.hle.trans (HLe.set hb (by rw [hv]; exact Nat.le_refl _)), h.kle⟩
  · have hn : b2 ≠ (β id b.ver).blk := by intro e; subst e; rw [h.apart id b hb hrl] at hc; cases hc
    show (w.heap.setIfInBounds _ _)[b2]? = _
    rw [hother _ hn]; exact h.holds b2 c hc
  · rcases split hx with ⟨rfl, rfl⟩ | ⟨hi, hx⟩
    · rw [hv]
      have : (w.heap.setIfInBounds (β i b.ver).blk o)[(β i b.ver).blk]? = some o := by simp [hlt]
      show BlkR _ _ _ _ ((w.heap.setIfInBounds _ _)[_]?)
      rw [this]; exact hR
    · exact (h.blk i x hx).other fun hr => hother _ (hne hx hr hi)
  · have hle : HLe H (H.set id (some b')) := HLe.set hb (by rw [hv]; exact Nat.le_refl _)
    rcases split hx with ⟨rfl, rfl⟩ | ⟨hi, hx⟩
    · exact (ho c hc).mono hle
    · exact (h.ok i x hx c hc).mono hle
  · rcases split hx with ⟨rfl, rfl⟩ | ⟨hi, hx1⟩ <;> rcases split hy with ⟨hj, rfl⟩ | ⟨hj, hy1⟩
    · exact hj.symm
    · rw [hv] at hri he; exact absurd he.symm (hne hy1 hrj hj)
    · subst hj; rw [hv] at hrj he; exact absurd he (hne hx1 hri hi)
    · exact h.inj i j x y hx1 hy1 hri hrj he
  · rcases split hx with ⟨rfl, rfl⟩ | ⟨hi, hx⟩
    · rw [hv]; exact h.apart _ b hb hrl
    · exact h.apart i x hx hr
  · rcases split hx with ⟨rfl, rfl⟩ | ⟨hi, hx⟩
    · rw [hv]; exact h.base _ b hb hrl
    · exact h.base i x hx hr
  · exact h.below.other (h.base _ _ hb hrl) rfl rfl rfl (by simp) hother
theorem EntR.keys {K : Mem} {β : Nat → Nat → BT} {es : Array MapEntry} {ck : Nat} {cs : List D} (h : EntR K β es ck cs) : keysD cs = es.toList.map (·.key) := by
  obtain ⟨es⟩ := es
  have hl : es.length = cs.length := by simpa using h.len
  have hr : ∀ (j : Nat) u d, es[j]? = some u → cs[j]? = some d → ∃ dv, d = .tup [.v u.key, dv] := fun j u d h1 h2 => (h.rd j u d (by simpa using h1) h2).imp fun _ h => h.1
  clear h
  induction es generalizing cs with
  | nil => cases cs with
    | nil => rfl
    | cons c cs => simp at hl
  | cons e es ih => cases cs with
    | nil => simp at hl
    | cons c cs =>
      obtain ⟨dv, rfl⟩ := hr 0 e c rfl rfl
      have := ih (cs := cs) (by simpa using hl) fun j u d h1 h2 => hr (j + 1) u d (by simpa using h1) (by simpa using h2)
      rw [keysD, this]; rfl
/-- A new key in a map of the call's own. -/
theorem o_insert {id : Nat} {b : Blk} {kt et : TypeId} {kd : TypeDesc} {k : Value} {d : D} (hx : ev env X = .omp id 0) (hy : ev env Y = .v k) (hz : ev env Z = d) (ht : P.underlying t = some (.map kt et)) (hk : P.underlying kt = some kd) (hf : flatKey kd = true) (hb : H[id]? = some (some b)) (hv : b.ver = 0) (hj : kFind kd k (keysD b.cs) 0 = some none) :
    OpD P C ⟨dst, .insert t X Y Z, ty, pos, after, gu⟩ env H (.v undef) (H.set id (some { b with cs := b.cs ++ [.tup [.v k, d]] })) := by
  subst hz
  refine OpD.ofSkip (HLe.set hb (Nat.le_refl _)) fun K β a w hw h hk' => ?_
  have h1 := h X (by simp [Op.operands])
  have h2 := h Y (by simp [Op.operands])
  have h3 := h Z (by simp [Op.operands])
  have h4 := hk' Z (by simp [Op.operands])
  rw [hx] at h1; rw [hy] at h2
  obtain ⟨e1, hst⟩ := h1.omp_inv
  rw [← hv] at e1 hst
  obtain ⟨es, ck, hheap, hE⟩ := hw.mapd hb hst
  rw [hE.keys] at hj
  obtain ⟨f1, _⟩ := findNow_of hj
  have hfind : (Instr.findKey kt k es.toList).run P w = .ok none w := by
    simp [Instr.findKey, run_underlying hk, f1]
  have hset : (setObj (β id b.ver).blk (.map (es.push { key := k, val := a.eval Z, born := ck }) (ck + 1))).run P w = .ok () { w with heap := w.heap.setIfInBounds (β id b.ver).blk (.map (es.push { key := k, val := a.eval Z, born := ck }) (ck + 1)) } := by
    simp [setObj, Sem.run, hheap]
  have hlen := hE.len
  refine ⟨K, β, _, ?_, KX.refl _ _, Agr.refl _ _, hw.putO hb (BT.real_ofm hst) (b' := { b with cs := b.cs ++ [.tup [.v k, ev env Z]] }) rfl (.map (es.push { key := k, val := a.eval Z, born := ck }) (ck + 1)) ?_ ?_⟩
  · simp [execOp, e1, h2.v_inv, Instr.mapUpdate, run_underlying ht, run_getMap hheap, run_checkKey' hk hf, hfind, hset]
  · unfold BlkR
    simp only [hst]
    refine ⟨_, _, rfl, by simp [hlen], fun j u d hu hd => ?_, fun i j u v hij hu hv => ?_, fun j u hu => ?_⟩
    · simp only [Array.getElem?_push] at hu
      split at hu
      · rename_i hjs
        subst hjs
        cases hu
        rw [List.getElem?_append_right (by omega)] at hd
        simp [hlen] at hd
        subst hd
        exact ⟨_, rfl, h3⟩
      · have hlt := (Array.getElem?_eq_some_iff.1 hu).1
        rw [List.getElem?_append_left (by omega)] at hd
        exact hE.rd j u d hu hd
    · simp only [Array.getElem?_push] at hu hv
      split at hv
      · cases hv
        split at hu
        · omega
        · exact hE.clock i u hu
      · split at hu
        · have hlt := (Array.getElem?_eq_some_iff.1 hv).1
          omega
        · exact hE.born i j u v hij hu hv
    · simp only [Array.getElem?_push] at hu
      split at hu
      · cases hu; simp
      · have := hE.clock j u hu; omega
  · intro c hc
    rcases List.mem_append.1 hc with h | h
    · exact hw.ok id b hb c h
    · simp at h; subst h; exact .tup _ (by simp; exact ⟨.v _, h4⟩)
end
end Go.DL
