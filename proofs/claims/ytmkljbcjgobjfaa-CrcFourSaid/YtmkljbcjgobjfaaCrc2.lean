/-
  What the document's own sum of crc is: the steps bit by bit. No condition.
-/
import Derived.Test.YtmkljbcjgobjfaaCrc1
namespace Go.Proofs.Ytmkljbcjgobjfaa
open Go.RowKit Go.DL

/-- The word after i bits. -/
def vbit (l : List UInt8) : Nat → BitVec 32
  | 0 => 4294967295#32
  | i + 1 => bitS (vbit l i) (bitOf (l.getD (i / 8) 0) (i % 8))
theorem vbit_in (l : List UInt8) (k : Nat) : ∀ j, j ≤ 8 → vbit l (8 * k + j) = bitsN (l.getD k 0) j (vbit l (8 * k))
  | 0, _ => rfl
  | j + 1, h => by
    show bitS (vbit l (8 * k + j)) (bitOf (l.getD ((8 * k + j) / 8) 0) ((8 * k + j) % 8)) = bitS (bitsN _ j _) _
    rw [show (8 * k + j) / 8 = k by omega, show (8 * k + j) % 8 = j by omega, vbit_in l k j (by omega)]
theorem vbit_bytes (l : List UInt8) : ∀ k, k ≤ l.length → vbit l (8 * k) = foldQ (l.take k) 4294967295#32
  | 0, _ => rfl
  | k + 1, h => by
    rw [show 8 * (k + 1) = 8 * k + 8 by omega, vbit_in l k 8 (Nat.le_refl _), bits8, vbit_bytes l k (by omega), fold_step (by omega : k < l.length)]
    congr 1
    simp [List.getD, List.getElem?_eq_getElem (show k < l.length by omega)]
theorem vbit_all (l : List UInt8) : vbit l (8 * l.length) = foldQ l 4294967295#32 := by rw [vbit_bytes l _ (Nat.le_refl _), List.take_length]
theorem at8 {l : List UInt8} {i : Nat} (h : i < 8 * l.length) : ((bytesD l).drop (((i : Int) / 8).toNat * 1))[0]? = some (U8 (l.getD (i / 8) 0).toBitVec) := by
  have h1 : ((i : Int) / 8).toNat = i / 8 := by omega
  have h2 : i / 8 < l.length := by omega
  rw [h1, bytesD_at h2]
  simp [List.getD, List.getElem?_eq_getElem h2]
theorem bit_at {c : UInt8} {i : Nat} : Go.binOp .eql 5 (.int .u8 ((c.toBitVec.toNat / 2 ^ ((7 : Int) - (i : Int) % 8).toNat : Nat) % 2)) (.int .u8 1) = .pure (.bool (bitOf c (i % 8))) := by
  have h1 : ((7 : Int) - (i : Int) % 8).toNat = 7 - i % 8 := by omega
  rw [h1]
  unfold bitOf
  show Sem.pure (Value.bool _) = _
  congr 2
  rw [Bool.eq_iff_iff]
  show decide (((c.toNat / 2 ^ (7 - i % 8) : Nat) : Int) % 2 = 1) = true ↔ (c.toNat / 2 ^ (7 - i % 8)) % 2 == 1
  generalize c.toNat / 2 ^ (7 - i % 8) = q
  rw [decide_eq_true_iff, beq_iff_eq]
  exact Iff.intro (fun h => by omega) (fun h => by omega)
theorem neg_all (x : BitVec 32) : (4294967295 : Int) - (x.toNat : Int) = ((~~~x).toNat : Int) := by
  rw [BitVec.toNat_not]; have := x.isLt; omega
theorem neg_wrap (x : BitVec 32) : IntKind.u32.wrap ((4294967295 : Int) - (x.toNat : Int)) = ((~~~x).toNat : Int) := by
  rw [neg_all, DL.wrap32, BitVec.ofNat_toNat, BitVec.setWidth_eq]
theorem dbl_shl (x : BitVec 32) : 2#32 * x = x <<< 1 := by
  apply BitVec.eq_of_toNat_eq
  rw [BitVec.toNat_mul, BitVec.toNat_shiftLeft, Nat.shiftLeft_eq]
  show 2 * x.toNat % _ = _
  rw [Nat.mul_comm]
theorem ref_c (l : List UInt8) (hl : l.length ≤ 1000000) : Fun Try.prog 27 [rdB l] (· = U32 (sumQ l)) := by
  refine Fun.of Try.func27 rfl (Nat.le_of_ble_eq_true rfl) fun C => ?_
  refine WC.seq fun F1 h1 => ?_
  refine WC.region ?_
  refine RG.op _ _ rfl rfl (o_assign (.v _) rfl) ?_
  refine RG.nil (h1 _ ?_)
  refine WC.seq fun F2 h2 => ?_
  refine WC.region ?_
  refine RG.op _ _ rfl rfl (o_assign (.v _) rfl) ?_
  refine RG.nil (h2 _ ?_)
  refine WC.seq fun Fa ha => ?_
  refine WC.seq fun F3 h3 => ?_
  refine WC.region ?_
  refine RG.op _ _ rfl rfl (o_assign (.v _) rfl) ?_
  refine RG.nil (h3 _ ?_)
  refine WC.block ?_
  refine WC.loop [3, 4, 5, 6, 7, 8, 9, 10, 11, 12, 13, 14, 15, 16, 17, 18, 19, 20, 21, 22, 23, 24, 25, 26, 27, 28, 29, 30, 31, 32, 33] (fun i : Nat => [(4, I64 i), (3, U32 (vbit l i))]) (fun _ => []) (fun i => i ≤ 8 * l.length) (fun i => 8 * l.length - i) 0 (Nat.zero_le _) ?a ?b
  case a => exact .mk' ⟨⟨rfl, .v _⟩, ⟨rfl, .v _⟩, trivial⟩ (same_refl _ _) rfl trivial trivial
  case b =>
    intro i hi
    refine WC.seq fun Fb hb => ?_
    refine WC.seq fun F4 h4 => ?_
    refine WC.region ?_
    refine RG.op _ _ rfl rfl (o_move (.v _) rfl) ?_
    first | refine RG.op _ _ rfl rfl (o_move (.rd _ _) rfl) ?_ | refine RG.op _ _ rfl rfl (o_move (.own _ _ _ _ _) rfl) ?_ | refine RG.op _ _ rfl rfl (o_move (.v _) rfl) ?_
    first | refine RG.op _ _ rfl rfl (o_len_rd rfl Try.underlying22) ?_ | refine RG.op _ _ rfl rfl (o_len_own rfl Try.underlying22) ?_ | refine RG.op _ _ rfl rfl (o_len_v rfl Try.underlying22) ?_
    first | refine RG.op _ _ rfl rfl (o_mul rfl rfl (by omega) (by omega)) ?_ | refine RG.op _ _ rfl rfl (o_bin _ rfl rfl rfl) ?_
    refine RG.op _ _ rfl rfl (o_bin _ rfl rfl rfl) ?_
    refine RG.nil (h4 _ ?_)
    refine WC.cond _ rfl (fun hc => ?_) (fun hc => ?_)
    · have hi' := of_decide_eq_true hc
      refine WC.skip (hb _ ?_)
      refine WC.seq fun Fc hcc => ?_
      refine WC.block ?_
      refine WC.seq fun F5 h5 => ?_
      refine WC.region ?_
      first | refine RG.op _ _ rfl rfl (o_move (.rd _ _) rfl) ?_ | refine RG.op _ _ rfl rfl (o_move (.own _ _ _ _ _) rfl) ?_ | refine RG.op _ _ rfl rfl (o_move (.v _) rfl) ?_
      refine RG.op _ _ rfl rfl (o_move (.v _) rfl) ?_
      refine RG.op _ _ rfl rfl (o_quo rfl rfl (by omega) (by omega) (by omega)) ?_
      refine RG.op _ _ rfl rfl (o_ix_rd rfl rfl Try.underlying22 (sz_of Ty.inf5) (by omega) (by omega) (by rw [bytesD_len]; omega)) ?_
      refine RG.op _ _ rfl rfl (o_load_adr rfl Try.underlying5 rfl (at8 (by omega))) ?_
      refine RG.op _ _ rfl rfl (o_move (.v _) rfl) ?_
      refine RG.op _ _ rfl rfl (o_rem rfl rfl (by omega) (by omega)) ?_
      first | refine RG.op _ _ rfl rfl (o_sub rfl rfl (by omega) (by omega)) ?_ | refine RG.op _ _ rfl rfl (o_bin _ rfl rfl rfl) ?_
      refine RG.op _ _ rfl rfl (o_shr8I rfl rfl (by omega) (by omega)) ?_
      refine RG.op _ _ rfl rfl (o_rem rfl rfl (Int.natCast_nonneg _) (by omega)) ?_
      refine RG.op _ _ rfl rfl (o_bin _ rfl rfl bit_at) ?_
      refine RG.op _ _ rfl rfl (o_assign (.v _) rfl) ?_
      refine RG.nil (h5 _ ?_)
      refine WC.seq fun F6 h6 => ?_
      refine WC.region ?_
      refine RG.op _ _ rfl rfl (o_move (.v _) rfl) ?_
      refine RG.op _ _ rfl rfl ((o_bin _ rfl rfl rfl).cast (v_bool (show _ = decide (2147483648 ≤ (vbit l i).toNat) from by rw [Bool.eq_iff_iff]; simp; omega))) ?_
      refine RG.op _ _ rfl rfl (o_assign (.v _) rfl) ?_
      refine RG.nil (h6 _ ?_)
      refine WC.seq fun F7 h7 => ?_
      refine WC.region ?_
      refine RG.op _ _ rfl rfl (o_move (.v _) rfl) ?_
      refine RG.op _ _ rfl rfl ((o_mul32 (x := 2#32) rfl rfl).cast (congrArg U32 (dbl_shl _))) ?_
      refine RG.op _ _ rfl rfl (o_assign (.v _) rfl) ?_
      refine RG.nil (h7 _ ?_)
      refine WC.seq fun F8 h8 => ?_
      refine WC.region ?_
      refine RG.op _ _ rfl rfl (o_move (.v _) rfl) ?_
      refine RG.op _ _ rfl rfl (o_move (.v _) rfl) ?_
      refine RG.op _ _ rfl rfl (o_neb rfl rfl Try.underlying4) ?_
      refine RG.nil (h8 _ ?_)
      refine WC.cond _ rfl (fun hd => ?_) (fun hd => ?_)
      ·
        refine WC.region ?_
        refine RG.op _ _ rfl rfl (o_move (.v _) rfl) ?_
        refine RG.op _ _ rfl rfl (o_xor32 (y := 79764919#32) rfl rfl) ?_
        refine RG.op _ _ rfl rfl (o_assign (.v _) rfl) ?_
        refine RG.nil (hcc _ ?_)
        refine WC.region ?_
        refine RG.op _ _ rfl rfl (o_move (.v _) rfl) ?_
        first | refine RG.op _ _ rfl rfl (o_add rfl rfl (by omega) (by omega)) ?_ | refine RG.op _ _ rfl rfl (o_bin _ rfl rfl rfl) ?_
        refine RG.op _ _ rfl rfl (o_assign (.v _) rfl) ?_
        refine RG.nil (Exists.intro (i + 1) ⟨by omega, by omega, ?_⟩)
        exact .mk' ⟨⟨rfl, .v _⟩, ⟨congrArg U32 (by rw [vbit, bitS, hd]; rfl), .v _⟩, trivial⟩ (by repeat (first | refine same_updO rfl ?_ | refine same_updN ?_ | refine same_updL rfl ?_ | exact same_forget rfl (same_refl _ _) | refine same_forget rfl ?_)) rfl trivial trivial
      · refine WC.skip (hcc _ ?_)
        refine WC.region ?_
        refine RG.op _ _ rfl rfl (o_move (.v _) rfl) ?_
        first | refine RG.op _ _ rfl rfl (o_add rfl rfl (by omega) (by omega)) ?_ | refine RG.op _ _ rfl rfl (o_bin _ rfl rfl rfl) ?_
        refine RG.op _ _ rfl rfl (o_assign (.v _) rfl) ?_
        refine RG.nil (Exists.intro (i + 1) ⟨by omega, by omega, ?_⟩)
        exact .mk' ⟨⟨rfl, .v _⟩, ⟨congrArg U32 (by rw [vbit, bitS, hd]; rfl), .v _⟩, trivial⟩ (by repeat (first | refine same_updO rfl ?_ | refine same_updN ?_ | refine same_updL rfl ?_ | exact same_forget rfl (same_refl _ _) | refine same_forget rfl ?_)) rfl trivial trivial
    · have hi' := of_decide_eq_false hc
      obtain rfl : i = 8 * l.length := by omega
      refine WC.exit (ha _ ?_)
      refine WC.seq fun F9 h9 => ?_
      refine WC.region ?_
      refine RG.op _ _ rfl rfl (o_move (.v _) rfl) ?_
      refine RG.op _ _ rfl rfl ((o_bin _ rfl rfl rfl).cast (v_int (neg_wrap _))) ?_
      refine RG.op _ _ rfl rfl (o_assign (.v _) rfl) ?_
      refine RG.nil (h9 _ ?_)
      refine WC.ret ?_
      exact Ends.one rfl (U32 (sumQ l)) (by rw [show sumQ l = ~~~ (vbit l (8 * l.length)) by rw [vbit_all]; rfl]; exact .v _) rfl
end Go.Proofs.Ytmkljbcjgobjfaa
