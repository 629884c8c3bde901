/-
  What the sums of crc and of the document are: the same steps of one bit. No condition.
-/
import Derived.Test.YtmkljbcjgobjfaaRows
import Derived.Test.YtmkljbcjgobjfaaCrcM
import Derived.Test.YtmkljbcjgobjfaaTy
namespace Go.Proofs.Ytmkljbcjgobjfaa
open Go.RowKit Go.DL

def quadC (k : Nat) : List D := (List.range 16).map fun j => U32 (if j < k then quadT j else 0#32)
def quadsD : D := .agg ((List.range 16).map fun j => U32 (quadT j))

theorem quad_len (k : Nat) : (quadC k).length = 16 := by simp [quadC]
theorem quad_set {k : Nat} (h : k < 16) : spl (quadC k) (0 + (k : Int).toNat * 1) [U32 (quadT k)] = quadC (k + 1) := by
  rw [show 0 + (k : Int).toNat * 1 = k by simp, spl_one _ _ _ (by rw [quad_len]; exact h)]
  apply List.ext_getElem?
  intro j
  rw [List.getElem?_set, quad_len]
  unfold quadC
  by_cases hj : j < 16
  · simp only [List.getElem?_map, List.getElem?_range hj, Option.map_some, h, if_true]
    by_cases e : k = j
    · subst e; rw [if_pos rfl, if_pos (Nat.lt_succ_self k)]
    · rw [if_neg e]
      by_cases h2 : j < k
      · rw [if_pos h2, if_pos (by omega)]
      · rw [if_neg h2, if_neg (by omega)]
  · rw [List.getElem?_eq_none (by simp; omega), if_neg (by omega), List.getElem?_eq_none (by simp; omega)]
theorem quads_c : Fun Try.prog 54 [] (· = quadsD) := by
  refine Fun.of Try.func54 rfl (Nat.le_of_ble_eq_true rfl) fun C => ?_
  refine WC.seq fun F1 h1 => ?_
  refine WC.region ?_
  refine RG.op _ _ rfl rfl (o_alloc (z_of Ty.inf78) rfl) ?_
  refine RG.nil (h1 _ ?_)
  refine WC.seq fun F2 h2 => ?_
  refine WC.region ?_
  refine RG.op _ _ rfl rfl (o_alloc (z_of Ty.inf78) rfl) ?_
  refine RG.nil (h2 _ ?_)
  refine WC.seq fun Fa ha => ?_
  refine WC.seq fun F3 h3 => ?_
  refine WC.region ?_
  refine RG.op _ _ rfl rfl (o_move (.v _) rfl) ?_
  refine RG.nil (h3 _ ?_)
  refine WC.block ?_
  refine WC.loop [2, 3, 4, 5, 6, 7, 8, 9, 10, 11, 12, 13, 14, 15, 16, 17, 18, 19, 20, 21, 22, 23, 24] (fun k : Nat => [(5, I64 k)]) (fun k => [some ⟨quadC 0, 78, false, 0⟩, some ⟨quadC k, 78, false, 0⟩]) (fun k => k ≤ 16) (fun k => 16 - k) 0 (by decide) ?a ?b
  case a => exact .mk' ⟨⟨rfl, .v _⟩, trivial⟩ (same_refl _ _) rfl ⟨Nat.le_refl _, Nat.le_refl _, trivial⟩ ⟨okv_map _ _, okv_map _ _, trivial⟩
  case b =>
    intro k hk
    refine WC.seq fun F4 h4 => ?_
    refine WC.region ?_
    refine RG.op _ _ rfl rfl (o_bin _ rfl rfl rfl) ?_
    refine RG.nil (h4 _ ?_)
    refine WC.seq fun Fb hb => ?_
    refine WC.cond _ rfl (fun hc => ?_) (fun hc => ?_)
    · have hk' := of_decide_eq_true hc
      refine WC.skip (hb _ ?_)
      refine WC.seq fun Fc hcc => ?_
      refine WC.block ?_
      refine WC.seq fun F5 h5 => ?_
      refine WC.region ?_
      refine RG.op _ _ rfl rfl (o_move (.v _) rfl) ?_
      refine RG.op _ _ rfl rfl (o_assign (.v _) rfl) ?_
      refine RG.nil (h5 _ ?_)
      refine WC.seq fun F6 h6 => ?_
      refine WC.region ?_
      refine RG.op _ _ rfl rfl (o_move (.v _) rfl) ?_
      refine RG.op _ _ rfl rfl ((o_int rfl Try.underlying3 Try.underlying42).cast (v_int (wrap32 _))) ?_
      refine RG.op _ _ rfl rfl (o_shl32 28 rfl rfl (by decide)) ?_
      refine RG.op _ _ rfl rfl (o_assign (.v _) rfl) ?_
      refine RG.nil (h6 _ ?_)
      refine WC.seq fun Fd hd => ?_
      refine WC.seq fun F7 h7 => ?_
      refine WC.region ?_
      refine RG.op _ _ rfl rfl (o_move (.v _) rfl) ?_
      refine RG.nil (h7 _ ?_)
      refine WC.block ?_
      refine WC.loop [3, 4, 11, 12, 13, 14, 15, 16, 17, 18, 19, 20] (fun m : Nat => [(11, I64 m), (3, U32 (stpN m (BitVec.ofNat 32 k <<< 28)))]) (fun _ => [some ⟨quadC 0, 78, false, 0⟩, some ⟨quadC k, 78, false, 0⟩]) (fun m => m ≤ 4) (fun m => 4 - m) 0 (by decide) ?a ?b
      case a => exact .mk' ⟨⟨rfl, .v _⟩, ⟨rfl, .v _⟩, trivial⟩ (same_refl _ _) rfl ⟨Nat.le_refl _, Nat.le_refl _, trivial⟩ ⟨okv_map _ _, okv_map _ _, trivial⟩
      case b =>
        intro m hm
        refine WC.seq fun F8 h8 => ?_
        refine WC.region ?_
        refine RG.op _ _ rfl rfl (o_bin _ rfl rfl rfl) ?_
        refine RG.nil (h8 _ ?_)
        refine WC.seq fun Fe he => ?_
        refine WC.cond _ rfl (fun hc => ?_) (fun hc => ?_)
        · have hm' := of_decide_eq_true hc
          refine WC.skip (he _ ?_)
          refine WC.seq fun Ff hf => ?_
          refine WC.block ?_
          refine WC.seq fun F9 h9 => ?_
          refine WC.region ?_
          refine RG.op _ _ rfl rfl (o_move (.v _) rfl) ?_
          refine RG.op _ _ rfl rfl (o_shr32 31 rfl rfl (by decide)) ?_
          refine RG.op _ _ rfl rfl (o_assign (.v _) rfl) ?_
          refine RG.nil (h9 _ ?_)
          refine WC.region ?_
          refine RG.op _ _ rfl rfl (o_move (.v _) rfl) ?_
          refine RG.op _ _ rfl rfl (o_shl32 1 rfl rfl (by decide)) ?_
          refine RG.op _ _ rfl rfl (o_move (.v _) rfl) ?_
          refine RG.op _ _ rfl rfl (o_mul32 (x := 79764919#32) rfl rfl) ?_
          refine RG.op _ _ rfl rfl (o_xor32 rfl rfl) ?_
          refine RG.op _ _ rfl rfl (o_assign (.v _) rfl) ?_
          refine RG.nil (hf _ ?_)
          refine WC.region ?_
          first | refine RG.op _ _ rfl rfl (o_add rfl rfl (by omega) (by omega)) ?_ | refine RG.op _ _ rfl rfl (o_bin _ rfl rfl rfl) ?_
          refine RG.op _ _ rfl rfl (o_move (.v _) rfl) ?_
          refine RG.nil (Exists.intro (m + 1) ⟨by omega, by omega, ?_⟩)
          exact .mk' ⟨⟨rfl, .v _⟩, ⟨rfl, .v _⟩, trivial⟩ (by repeat (first | refine same_updO rfl ?_ | refine same_updN ?_ | refine same_updL rfl ?_ | exact same_forget rfl (same_refl _ _) | refine same_forget rfl ?_)) rfl ⟨Nat.le_refl _, Nat.le_refl _, trivial⟩ ⟨okv_map _ _, okv_map _ _, trivial⟩
        · have hm' := of_decide_eq_false hc
          obtain rfl : m = 4 := by omega
          refine WC.exit (hd _ ?_)
          refine WC.region ?_
          refine RG.op _ _ rfl rfl (o_move (.v _) rfl) ?_
          refine RG.op _ _ rfl rfl (o_move (.v _) rfl) ?_
          refine RG.op _ _ rfl rfl (o_ix_arr rfl rfl Try.underlying78 (sz_of Ty.inf42) (by omega) (by omega)) ?_
          refine RG.op _ _ rfl rfl (o_store rfl rfl rfl rfl (sz_of Ty.inf42) (by show 0 + (k : Int).toNat * 1 + 1 ≤ (quadC k).length; rw [quad_len]; omega) rfl) ?_
          refine RG.nil (hcc _ ?_)
          refine WC.region ?_
          first | refine RG.op _ _ rfl rfl (o_add rfl rfl (by omega) (by omega)) ?_ | refine RG.op _ _ rfl rfl (o_bin _ rfl rfl rfl) ?_
          refine RG.op _ _ rfl rfl (o_move (.v _) rfl) ?_
          refine RG.nil (Exists.intro (k + 1) ⟨by omega, by omega, ?_⟩)
          exact .mk' ⟨⟨rfl, .v _⟩, trivial⟩ (by repeat (first | refine same_updO rfl ?_ | refine same_updN ?_ | refine same_updL rfl ?_ | exact same_forget rfl (same_refl _ _) | refine same_forget rfl ?_)) (congrArg (fun c : List D => ([some ⟨quadC 0, 78, false, 0⟩, some ⟨c, 78, false, 0⟩] : Heap)) (quad_set (k := k) (by omega))) ⟨Nat.le_refl _, Nat.le_refl _, trivial⟩ ⟨okv_map _ _, okv_map _ _, trivial⟩
    · have hk' := of_decide_eq_false hc
      obtain rfl : k = 16 := by omega
      refine WC.exit (ha _ ?_)
      refine WC.seq fun F10 h10 => ?_
      refine WC.region ?_
      refine RG.op _ _ rfl rfl (o_load_ptr_agg rfl Try.underlying78 rfl (sz_of Ty.inf78) rfl rfl (by simp [quadC])) ?_
      refine RG.op _ _ rfl rfl (o_store rfl rfl rfl rfl (sz_of Ty.inf78) (Nat.le_of_ble_eq_true rfl) rfl) ?_
      refine RG.nil (h10 _ ?_)
      refine WC.ret ?_
      refine Ends.cell (id := 0) (off := 0) (n := 16) rfl rfl Try.underlying78 rfl (sz_of Ty.inf78) rfl rfl (Nat.le_of_eq rfl) quadsD ?_ rfl
      exact Frz.aggv ((List.range 16).map fun j => Value.int .u32 ((quadT j).toNat : Int))

/-! ### Sum -/
def tabC : List D := (List.range 16).map fun j => U32 (quadT j)
theorem tab_at {i : Nat} (h : i < 16) : tabC[0 + ((i : Nat) : Int).toNat * 1]? = some (U32 (quadT i)) := by simp [tabC, h]
theorem nib_lt {x y : BitVec 32} (h : y.toNat < 16) : ((x >>> 28) ^^^ y).toNat < 16 := by
  rw [BitVec.toNat_xor]
  refine Nat.xor_lt_two_pow (n := 4) ?_ h
  rw [BitVec.toNat_ushiftRight, Nat.shiftRight_eq_div_pow]; have := x.isLt; omega
theorem hi_lt (c : BitVec 8) : ((c >>> 4).setWidth 32).toNat < 16 := by
  have : ∀ c : BitVec 8, ((c >>> 4).setWidth 32).toNat < 16 := by decide +kernel
  exact this c
theorem lo_lt (c : BitVec 8) : ((c &&& 15#8).setWidth 32).toNat < 16 := by
  have : ∀ c : BitVec 8, ((c &&& 15#8).setWidth 32).toNat < 16 := by decide +kernel
  exact this c
theorem fold_step {l : List UInt8} {k : Nat} (h : k < l.length) (r : BitVec 32) : foldQ (l.take (k + 1)) r = byteQ (foldQ (l.take k) r) l[k] := by
  unfold foldQ
  rw [List.take_succ_eq_append_getElem h, List.foldl_append]; rfl
theorem sum_c (l : List UInt8) (hl : l.length ≤ 9223372036854775807) : Fun Try.prog 26 [rdB l] (· = U32 (sumQ l)) := by
  refine Fun.of Try.func26 rfl (Nat.le_of_ble_eq_true rfl) fun C => ?_
  refine WC.seq fun F11 h11 => ?_
  refine WC.region ?_
  refine RG.op _ _ rfl rfl (o_assign (.v _) rfl) ?_
  refine RG.nil (h11 _ ?_)
  refine WC.seq fun F12 h12 => ?_
  refine WC.region ?_
  refine RG.op _ _ rfl rfl (o_call Ty.cal54 (quads_c) (by repeat (first | exact trivial | refine And.intro (Or.inl rfl) ?_ | refine And.intro (Or.inr ⟨rfl, rfl⟩) ?_)) (by repeat constructor)) ?_
  refine RG.op _ _ rfl rfl (o_alloc (z_of Ty.inf78) rfl) ?_
  refine RG.op _ _ rfl rfl (o_store rfl rfl rfl rfl (sz_of Ty.inf78) (Nat.le_of_ble_eq_true rfl) rfl) ?_
  refine RG.nil (h12 _ ?_)
  refine WC.seq fun F13 h13 => ?_
  refine WC.region ?_
  refine RG.op _ _ rfl rfl (o_assign (.v _) rfl) ?_
  refine RG.nil (h13 _ ?_)
  refine WC.seq fun Fa ha => ?_
  refine WC.seq fun F14 h14 => ?_
  refine WC.region ?_
  first | refine RG.op _ _ rfl rfl (o_move (.rd _ _) rfl) ?_ | refine RG.op _ _ rfl rfl (o_move (.own _ _ _ _ _) rfl) ?_ | refine RG.op _ _ rfl rfl (o_move (.v _) rfl) ?_
  first | refine RG.op _ _ rfl rfl (o_len_rd rfl Try.underlying22) ?_ | refine RG.op _ _ rfl rfl (o_len_own rfl Try.underlying22) ?_ | refine RG.op _ _ rfl rfl (o_len_v rfl Try.underlying22) ?_
  refine RG.op _ _ rfl rfl (o_move (.v _) rfl) ?_
  refine RG.nil (h14 _ ?_)
  refine WC.block ?_
  refine WC.loop [4, 6, 10, 11, 12, 13, 14, 15, 16, 17, 18, 19, 20, 21, 22, 23, 24, 25, 26, 27, 28, 29, 30, 31, 32, 33, 34, 35, 36] (fun k : Nat => [(10, I64 k), (4, U32 (foldQ (l.take k) 4294967295#32))]) (fun _ => [some ⟨tabC, 78, false, 0⟩]) (fun k => k ≤ l.length) (fun k => l.length - k) 0 (Nat.zero_le _) ?a ?b
  case a => exact .mk' ⟨⟨rfl, .v _⟩, ⟨rfl, .v _⟩, trivial⟩ (same_refl _ _) rfl ⟨Nat.le_refl _, trivial⟩ ⟨okv_map _ _, trivial⟩
  case b =>
    intro k hk
    refine WC.seq fun F15 h15 => ?_
    refine WC.region ?_
    refine RG.op _ _ rfl rfl (o_bin _ rfl rfl rfl) ?_
    refine RG.nil (h15 _ ?_)
    refine WC.seq fun Fb hb => ?_
    refine WC.cond _ rfl (fun hc => ?_) (fun hc => ?_)
    · have hk' := of_decide_eq_true hc
      refine WC.skip (hb _ ?_)
      refine WC.seq fun Fc hcc => ?_
      refine WC.block ?_
      refine WC.seq fun F16 h16 => ?_
      refine WC.region ?_
      first | refine RG.op _ _ rfl rfl (o_ix_rd rfl rfl Try.underlying22 (sz_of Ty.inf5) (by omega) (by omega) (by simp [bytesD]; omega)) ?_ | refine RG.op _ _ rfl rfl (o_ix_own rfl rfl Try.underlying22 (sz_of Ty.inf5) (by omega) (by omega)) ?_
      first | refine RG.op _ _ rfl rfl (o_load_ptr rfl Try.underlying5 rfl rfl rfl rfl) ?_ | refine RG.op _ _ rfl rfl (o_load_adr rfl Try.underlying5 rfl (bytesD_at (by omega))) ?_
      refine RG.op _ _ rfl rfl (o_assign (.v _) rfl) ?_
      refine RG.nil (h16 _ ?_)
      refine WC.seq fun F17 h17 => ?_
      refine WC.region ?_
      refine RG.op _ _ rfl rfl (o_move (.v _) rfl) ?_
      refine RG.op _ _ rfl rfl (o_shl32 4 rfl rfl (by decide)) ?_
      refine RG.op _ _ rfl rfl (o_move (.v _) rfl) ?_
      refine RG.op _ _ rfl rfl (o_shr32 28 rfl rfl (by decide)) ?_
      refine RG.op _ _ rfl rfl (o_move (.v _) rfl) ?_
      refine RG.op _ _ rfl rfl (o_shr8 4 rfl rfl (by decide)) ?_
      refine RG.op _ _ rfl rfl (o_8to32 rfl Try.underlying5 Try.underlying42) ?_
      refine RG.op _ _ rfl rfl (o_xor32 rfl rfl) ?_
      refine RG.op _ _ rfl rfl (o_ix_arr rfl rfl Try.underlying78 (sz_of Ty.inf42) (by omega) (Int.ofNat_lt.2 (nib_lt (hi_lt _)))) ?_
      refine RG.op _ _ rfl rfl (o_load_ptr rfl Try.underlying42 rfl rfl rfl (tab_at (nib_lt (hi_lt _)))) ?_
      refine RG.op _ _ rfl rfl (o_xor32 rfl rfl) ?_
      refine RG.op _ _ rfl rfl (o_assign (.v _) rfl) ?_
      refine RG.nil (h17 _ ?_)
      refine WC.region ?_
      refine RG.op _ _ rfl rfl (o_move (.v _) rfl) ?_
      refine RG.op _ _ rfl rfl (o_shl32 4 rfl rfl (by decide)) ?_
      refine RG.op _ _ rfl rfl (o_move (.v _) rfl) ?_
      refine RG.op _ _ rfl rfl (o_shr32 28 rfl rfl (by decide)) ?_
      refine RG.op _ _ rfl rfl (o_move (.v _) rfl) ?_
      refine RG.op _ _ rfl rfl (o_and8 (y := 15#8) rfl rfl) ?_
      refine RG.op _ _ rfl rfl (o_8to32 rfl Try.underlying5 Try.underlying42) ?_
      refine RG.op _ _ rfl rfl (o_xor32 rfl rfl) ?_
      refine RG.op _ _ rfl rfl (o_ix_arr rfl rfl Try.underlying78 (sz_of Ty.inf42) (by omega) (Int.ofNat_lt.2 (nib_lt (lo_lt _)))) ?_
      refine RG.op _ _ rfl rfl (o_load_ptr rfl Try.underlying42 rfl rfl rfl (tab_at (nib_lt (lo_lt _)))) ?_
      refine RG.op _ _ rfl rfl (o_xor32 rfl rfl) ?_
      refine RG.op _ _ rfl rfl (o_assign (.v _) rfl) ?_
      refine RG.nil (hcc _ ?_)
      refine WC.region ?_
      first | refine RG.op _ _ rfl rfl (o_add rfl rfl (by omega) (by omega)) ?_ | refine RG.op _ _ rfl rfl (o_bin _ rfl rfl rfl) ?_
      refine RG.op _ _ rfl rfl (o_move (.v _) rfl) ?_
      refine RG.nil (Exists.intro (k + 1) ⟨by omega, by omega, ?_⟩)
      exact .mk' ⟨⟨rfl, .v _⟩, ⟨congrArg U32 (fold_step (by omega) _).symm, .v _⟩, trivial⟩ (by repeat (first | refine same_updO rfl ?_ | refine same_updN ?_ | refine same_updL rfl ?_ | exact same_forget rfl (same_refl _ _) | refine same_forget rfl ?_)) rfl ⟨Nat.le_refl _, trivial⟩ ⟨okv_map _ _, trivial⟩
    · have hk' := of_decide_eq_false hc
      obtain rfl : k = l.length := by omega
      refine WC.exit (ha _ ?_)
      refine WC.seq fun F18 h18 => ?_
      refine WC.region ?_
      refine RG.op _ _ rfl rfl (o_move (.v _) rfl) ?_
      refine RG.op _ _ rfl rfl (o_not32 rfl) ?_
      refine RG.op _ _ rfl rfl (o_assign (.v _) rfl) ?_
      refine RG.nil (h18 _ ?_)
      refine WC.ret ?_
      exact Ends.one rfl (U32 (sumQ l)) (by rw [show sumQ l = ~~~ (foldQ (l.take l.length) 4294967295#32) by rw [List.take_length]; rfl]; exact .v _) rfl
end Go.Proofs.Ytmkljbcjgobjfaa
