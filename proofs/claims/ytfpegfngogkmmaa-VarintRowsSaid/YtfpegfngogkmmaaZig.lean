/-
  What Zig and Zag answer, the program's and the document's own: places in the row 0, -1, 1, -2, 2, ..; no condition but that the numbers have 64 bits.
-/
import Derived.Test.YtfpegfngogkmmaaRows
import Derived.Test.YtfpegfngogkmmaaWords
namespace Go.Proofs.Ytfpegfngogkmmaa
open Go.RowKit

def zigS (v : Int) : Int := if 0 ≤ v then 2 * v else -2 * v - 1
def zagS (u : Int) : Int := if u % 2 = 0 then u / 2 else -(u / 2) - 1
def RetI (k : IntKind) (n : Int) (w : World) (e : Ending) (w' : World) : Prop := e = .returned (.int k n) ∧ w = w'
theorem ret_int {k : IntKind} {a b : Int} (h : a = b) : Ending.returned (.int k a) = .returned (.int k b) := by rw [h]

theorem ofNat64 (a : Nat) (h : a < 18446744073709551616) : (BitVec.ofInt 64 (a : Int)).toNat = a := by
  rw [BitVec.ofInt_natCast, BitVec.toNat_ofNat]; exact Nat.mod_eq_of_lt (by omega)
theorem xor_zero (a : Nat) (h : a < 18446744073709551616) : bits .xor .u64 (a : Int) 0 = (a : Int) := by
  show IntKind.u64.wrap ((BitVec.ofInt 64 (a : Int) ^^^ BitVec.ofInt 64 ((0 : Nat) : Int)).toNat : Int) = _
  rw [BitVec.toNat_xor, ofNat64 a h, ofNat64 0 (by omega), Nat.xor_zero, IntKind.wrap_u64]; omega
theorem ones64 : BitVec.ofInt 64 (-1) = BitVec.allOnes 64 := by rfl
theorem ones64' : BitVec.ofInt 64 18446744073709551615 = BitVec.allOnes 64 := by rfl
theorem xor_ones (a : Nat) (h : a < 18446744073709551616) : bits .xor .u64 (a : Int) 18446744073709551615 = 18446744073709551615 - (a : Int) := by
  show IntKind.u64.wrap ((BitVec.ofInt 64 (a : Int) ^^^ BitVec.ofInt 64 18446744073709551615).toNat : Int) = _
  rw [ones64', BitVec.xor_allOnes, BitVec.toNat_not, ofNat64 a h, IntKind.wrap_u64]; omega
theorem xor_zero_i (a : Nat) (h : a < 9223372036854775808) : bits .xor .i64 (a : Int) 0 = (a : Int) := by
  show IntKind.i64.wrap ((BitVec.ofInt 64 (a : Int) ^^^ BitVec.ofInt 64 ((0 : Nat) : Int)).toNat : Int) = _
  rw [BitVec.toNat_xor, ofNat64 a (by omega), ofNat64 0 (by omega), Nat.xor_zero, IntKind.wrap_i64]; omega
theorem xor_ones_i (a : Nat) (h : a < 9223372036854775808) : bits .xor .i64 (a : Int) (-1) = -(a : Int) - 1 := by
  show IntKind.i64.wrap ((BitVec.ofInt 64 (a : Int) ^^^ BitVec.ofInt 64 (-1)).toNat : Int) = _
  rw [ones64, BitVec.xor_allOnes, BitVec.toNat_not, ofNat64 a (by omega), IntKind.wrap_i64]; omega
theorem and_one (a : Nat) (h : a < 18446744073709551616) : bits .and .u64 (a : Int) 1 = ((a % 2 : Nat) : Int) := by
  show IntKind.u64.wrap ((BitVec.ofInt 64 (a : Int) &&& BitVec.ofInt 64 ((1 : Nat) : Int)).toNat : Int) = _
  rw [BitVec.toNat_and, ofNat64 a h, ofNat64 1 (by omega), Nat.and_one_is_mod, IntKind.wrap_u64]; omega

theorem zig_any (v : Int) (w : World) (h1 : -9223372036854775808 ≤ v) (h2 : v ≤ 9223372036854775807) : Calls Try.prog 20 #[.int .i64 v] w (RetI .u64 (zigS v) w) := by
  by_cases h0 : 0 ≤ v
  · go_enter Try.func20, Try.ntmps20
    go_wp2
    go_ret
    refine ⟨ret_int ?_, rfl⟩
    obtain ⟨n, rfl⟩ := Int.eq_ofNat_of_zero_le h0
    have e : (n : Int) / 9223372036854775808 = 0 := by omega
    rw [e, zigS, if_pos (by omega)]
    have := xor_zero (n * 2) (by omega)
    simp only [Int.natCast_mul] at this
    show bits .xor .u64 ((n : Int) * 2) 0 = _
    rw [show ((2 : Nat) : Int) = 2 from rfl] at this
    rw [this]; omega
  · go_enter Try.func20, Try.ntmps20
    go_wp2
    go_ret
    refine ⟨ret_int ?_, rfl⟩
    have e : IntKind.u64.wrap (v / 9223372036854775808) = 18446744073709551615 := by rw [IntKind.wrap_u64]; omega
    have e2 : IntKind.u64.wrap (IntKind.u64.wrap v * 2) = ((2 * v + 18446744073709551616).toNat : Int) := by simp only [IntKind.wrap_u64]; omega
    show bits .xor .u64 (IntKind.u64.wrap (IntKind.u64.wrap v * 2)) (IntKind.u64.wrap (v / 9223372036854775808)) = _
    rw [e, e2, xor_ones _ (by omega), zigS, if_neg (by omega)]; omega
theorem rzig_any (v : Int) (w : World) (h1 : -9223372036854775808 ≤ v) (h2 : v ≤ 9223372036854775807) : Calls Try.prog 21 #[.int .i64 v] w (RetI .u64 (zigS v) w) := by
  by_cases h0 : 0 ≤ v
  · go_enter Try.func21, Try.ntmps21
    go_wp2
    go_ret
    exact ⟨ret_int (by rw [zigS, if_pos h0]), rfl⟩
  · go_enter Try.func21, Try.ntmps21
    go_wp2
    go_ret
    exact ⟨ret_int (by rw [zigS, if_neg (by omega)]; show 2 * -(v + 1) + 1 = _; omega), rfl⟩
theorem zag_any (u : Int) (w : World) (h1 : 0 ≤ u) (h2 : u ≤ 18446744073709551615) : Calls Try.prog 22 #[.int .u64 u] w (RetI .i64 (zagS u) w) := by
  go_enter Try.func22, Try.ntmps22
  go_wp2
  go_ret
  refine ⟨ret_int ?_, rfl⟩
  obtain ⟨n, rfl⟩ := Int.eq_ofNat_of_zero_le h1
  show bits .xor .i64 ((n : Int) / 2) (wrap64 (-wrap64 (bits .and .u64 (n : Int) 1))) = _
  rw [and_one n (by omega)]
  have e : (n : Int) / 2 = ((n / 2 : Nat) : Int) := by omega
  by_cases he : n % 2 = 0
  · rw [he, e, show wrap64 (-wrap64 ((0 : Nat) : Int)) = 0 from by unfold wrap64; omega, xor_zero_i _ (by omega), zagS, if_pos (by omega)]; omega
  · rw [show n % 2 = 1 from by omega, e, show wrap64 (-wrap64 ((1 : Nat) : Int)) = -1 from by unfold wrap64; omega, xor_ones_i _ (by omega), zagS, if_neg (by omega)]; omega
theorem rzag_any (u : Int) (w : World) (h1 : 0 ≤ u) (h2 : u ≤ 18446744073709551615) : Calls Try.prog 23 #[.int .u64 u] w (RetI .i64 (zagS u) w) := by
  by_cases he : u % 2 = 0
  · have hb : (u % 2 == 0) = true := by simp [he]
    have HE := Lib.hid he
    clear he
    go_enter Try.func23, Try.ntmps23
    go_wp2
    go_ret
    exact ⟨ret_int (by rw [zagS, if_pos HE.out]), rfl⟩
  · have hb : (u % 2 == 0) = false := by simpa using he
    have HE := Lib.hid he
    clear he
    go_enter Try.func23, Try.ntmps23
    go_wp2
    go_ret
    exact ⟨ret_int (by rw [zagS, if_neg HE.out]), rfl⟩
end Go.Proofs.Ytfpegfngogkmmaa
