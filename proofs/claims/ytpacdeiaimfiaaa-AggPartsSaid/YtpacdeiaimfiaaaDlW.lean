/-
  A logic of data for the walks: bits of bytes. Plain lemmas over any program; no condition.
-/
import Derived.Test.YtpacdeiaimfiaaaDlV
set_option linter.unusedSimpArgs false
set_option linter.unusedVariables false
namespace Go.DL
open Go.RowKit
section
variable {P : Program} {C : Ctx} {env : Nat → D} {H H' : Heap} {dst : Option Nat} {ty t t' e : TypeId} {pos : String} {after : Array Edge} {gu : Option (Nat × Bool)} {X Y Z : Operand} {td : TypeDesc}
theorem ofIntB (b : UInt8) : (BitVec.ofInt 8 (b.toNat : Int)).toNat = b.toNat := by rw [BitVec.ofInt_natCast, BitVec.toNat_ofNat, Nat.mod_eq_of_lt b.toNat_lt]
theorem bitsB {op : BitVec 8 → BitVec 8 → BitVec 8} {f : Nat → Nat → Nat} (hf : ∀ x y : BitVec 8, (op x y).toNat = f x.toNat y.toNat) {a b c : UInt8} (hc : c.toNat = f a.toNat b.toNat) :
    IntKind.u8.wrap ((op (BitVec.ofInt 8 (a.toNat : Int)) (BitVec.ofInt 8 (b.toNat : Int))).toNat : Int) = (c.toNat : Int) := by
  have := c.toNat_lt
  rw [hf, ofIntB, ofIntB, ← hc, IntKind.wrap_u8]; omega
theorem o_orB {a b : UInt8} (hx : ev env X = B8 a) (hy : ev env Y = B8 b) : OpD P C ⟨dst, .binOp .or t X Y t', ty, pos, after, gu⟩ env H (B8 (a ||| b)) H :=
  (o_bin (.int .u8 (IntKind.u8.wrap ((BitVec.ofInt 8 (a.toNat : Int) ||| BitVec.ofInt 8 (b.toNat : Int)).toNat : Int))) hx hy rfl).cast (v_int (bitsB (fun _ _ => BitVec.toNat_or _ _) (UInt8.toNat_or _ _)))
theorem o_andB {a b : UInt8} (hx : ev env X = B8 a) (hy : ev env Y = B8 b) : OpD P C ⟨dst, .binOp .and t X Y t', ty, pos, after, gu⟩ env H (B8 (a &&& b)) H :=
  (o_bin (.int .u8 (IntKind.u8.wrap ((BitVec.ofInt 8 (a.toNat : Int) &&& BitVec.ofInt 8 (b.toNat : Int)).toNat : Int))) hx hy rfl).cast (v_int (bitsB (fun _ _ => BitVec.toNat_and _ _) (UInt8.toNat_and _ _)))
theorem o_xorB {a b : UInt8} (hx : ev env X = B8 a) (hy : ev env Y = B8 b) : OpD P C ⟨dst, .binOp .xor t X Y t', ty, pos, after, gu⟩ env H (B8 (a ^^^ b)) H :=
  (o_bin (.int .u8 (IntKind.u8.wrap ((BitVec.ofInt 8 (a.toNat : Int) ^^^ BitVec.ofInt 8 (b.toNat : Int)).toNat : Int))) hx hy rfl).cast (v_int (bitsB (fun _ _ => BitVec.toNat_xor _ _) (UInt8.toNat_xor _ _)))
end
end Go.DL
