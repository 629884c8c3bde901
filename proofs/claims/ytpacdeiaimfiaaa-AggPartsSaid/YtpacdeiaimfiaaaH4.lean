/-
  Layer agg: averages. No condition but a state's size.
-/
import Derived.Test.YtpacdeiaimfiaaaH3
import Derived.Test.YtpacdeiaimfiaaaG5
import Derived.Test.YtpacdeiaimfiaaaDlU
set_option linter.unusedSimpArgs false
set_option linter.unusedVariables false
namespace Go.Proofs.Ytpacdeiaimfiaaa
open Go.RowKit Go.DL
set_option maxRecDepth 8000
section
variable {C : Ctx} {env : Nat → D} {H : Heap} {dst : Option Nat} {ty t : TypeId} {pos : String} {after : Array Edge} {gu : Option (Nat × Bool)} {X : Operand}
theorem not_nat (a : Nat) (ha : a ≤ 18446744073709551615) : 18446744073709551615 ^^^ a = 18446744073709551615 - a := by
  have h := BitVec.toNat_not (x := BitVec.ofNat 64 a)
  rw [BitVec.toNat_ofNat, Nat.mod_eq_of_lt (show a < 2 ^ 64 by omega)] at h
  have h2 : (~~~ (BitVec.ofNat 64 a)).toNat = 18446744073709551615 ^^^ a := by
    rw [← BitVec.allOnes_xor, BitVec.toNat_xor, BitVec.toNat_ofNat, Nat.mod_eq_of_lt (show a < 2 ^ 64 by omega)]; rfl
  rw [← h2, h]
theorem o_notU {a : Nat} (hx : ev env X = N64 a) (ha : a ≤ 18446744073709551615) : OpD Try.prog C ⟨dst, .unOp .xor t X, ty, pos, after, gu⟩ env H (N64 (18446744073709551615 - a)) H := by
  refine OpD.same fun K β ac w _ h _ => ⟨.int .u64 ((18446744073709551615 - a : Nat) : Int), ?_, .v _ _, .v _⟩
  have h1 := h X (by simp [Op.operands])
  rw [hx] at h1
  have e0 := bitsU (fun _ _ => BitVec.toNat_xor _ _) (fun _ _ h1 h2 => Nat.xor_lt_two_pow h1 h2) (Nat.le_refl 18446744073709551615) ha
  have e : Op.intBits .xor .u64 18446744073709551615 a = .pure (.int .u64 ((18446744073709551615 - a : Nat) : Int)) := by
    show Sem.pure (Value.int .u64 (IntKind.u64.wrap ((BitVec.ofInt 64 (18446744073709551615 : Int) ^^^ BitVec.ofInt 64 (a : Int)).toNat : Int))) = _
    rw [← not_nat a ha, ← e0]; rfl
  have e1 : (if IntKind.u64.signed = true then (-1 : Int) else IntKind.u64.max) = 18446744073709551615 := by decide
  simp only [execOp, h1.v_inv, Op.unary, e1, e]
  simp
theorem o_negW {a : Int} (hx : ev env X = I64 a) : OpD Try.prog C ⟨dst, .unOp .neg t X, ty, pos, after, gu⟩ env H (I64 (IntKind.i64.wrap (0 - a))) H := by
  refine OpD.same fun K β ac w _ h _ => ⟨.int .i64 (IntKind.i64.wrap (0 - a)), ?_, .v _ _, .v _⟩
  have h1 := h X (by simp [Op.operands])
  rw [hx] at h1
  have e : Op.intArith .sub .i64 0 a = .pure (.int .i64 (IntKind.i64.wrap (0 - a))) := rfl
  simp [execOp, h1.v_inv]
  simp [Op.unary, e]
end
set_option maxHeartbeats 4000000 in
theorem minus_c (z : Int) (hz : -B104 ≤ z ∧ z ≤ B104) : Fun Try.prog 51 [.agg (WD z)] (· = .agg (WD (-z))) := by
  have h1 := hiW_lt z
  have h2 := loW_lt z
  have e1 : (18446744073709551615 - loW z + 1 + 0) % 18446744073709551616 = loW (-z) := by unfold loW; omega
  have e2 : (18446744073709551615 - hiW z + (18446744073709551615 - loW z + 1 + 0) / 18446744073709551616) % 18446744073709551616 = hiW (-z) := by unfold hiW loW; omega
  refine Fun.of Try.func51 rfl (Nat.le_of_ble_eq_true rfl) fun C => ?_
  refine WC.seq fun Fh1_ h1_ => ?_
  refine WC.region ?_
  refine RG.op _ _ rfl rfl (o_box (d := .agg [_, _]) rfl rfl) ?_
  refine RG.op _ _ rfl rfl (o_alloc (z_of Ty.inf56) rfl) ?_
  refine RG.nil (h1_ _ ?_)
  refine WC.seq fun Fh2_ h2_ => ?_
  refine WC.region ?_
  refine RG.op _ _ rfl rfl (o_ixn_arr 1 rfl rfl Try.underlying56 (sz_of Ty.inf54) (by first | omega | exact ubyte _ | (simp only [LS] <;> omega)) (by first | omega | exact ubyte _ | (simp only [LS] <;> omega))) ?_
  refine RG.op _ _ rfl rfl (o_load_ptr rfl Try.underlying54 rfl rfl rfl rfl) ?_
  refine RG.op _ _ rfl rfl (o_notU rfl (by omega)) ?_
  refine RG.op _ _ rfl rfl (o_add64E (y := 1) (c := 0) rfl rfl rfl (by omega) (by omega) (by decide) e1 rfl) ?_
  refine RG.op _ _ rfl rfl (o_move (.tup _) rfl) ?_
  refine RG.op _ _ rfl rfl (o_extract rfl rfl) ?_
  refine RG.op _ _ rfl rfl (o_extract rfl rfl) ?_
  refine RG.op _ _ rfl rfl (o_assign (.v _) rfl) ?_
  refine RG.op _ _ rfl rfl (o_assign (.v _) rfl) ?_
  refine RG.nil (h2_ _ ?_)
  refine WC.seq fun Fh3_ h3_ => ?_
  refine WC.region ?_
  refine RG.op _ _ rfl rfl (o_ixn_arr 0 rfl rfl Try.underlying56 (sz_of Ty.inf54) (by first | omega | exact ubyte _ | (simp only [LS] <;> omega)) (by first | omega | exact ubyte _ | (simp only [LS] <;> omega))) ?_
  refine RG.op _ _ rfl rfl (o_load_ptr rfl Try.underlying54 rfl rfl rfl rfl) ?_
  refine RG.op _ _ rfl rfl (o_notU rfl (by omega)) ?_
  refine RG.op _ _ rfl rfl (o_move (.v _) rfl) ?_
  refine RG.op _ _ rfl rfl ((o_addU rfl rfl).cast (congrArg N64 e2)) ?_
  refine RG.op _ _ rfl rfl (o_move (.v _) rfl) ?_
  refine RG.op _ _ rfl rfl (o_buildA (cs := [(.v _), (.v _)]) Try.underlying56 Ty.inf56 (sz_of Ty.inf54) rfl) ?_
  refine RG.op _ _ rfl rfl (o_store (d := (.agg [_, _])) rfl rfl rfl rfl (sz_of Ty.inf56) (Nat.le_of_ble_eq_true rfl) rfl) ?_
  refine RG.nil (h3_ _ ?_)
  refine WC.ret ?_
  exact Ends.r1 rfl (.agg rfl Try.underlying56 rfl (sz_of Ty.inf56) rfl rfl rfl) (.pure' (by exact pu_of rfl)) (rfl)
theorem ediv_of {z q r n : Int} (hn : 0 < n) (h : r + n * q = z) (h1 : 0 ≤ r) (h2 : r < n) : z / n = q := ((Int.ediv_emod_unique hn).2 ⟨h, h1, h2⟩).1
theorem neg_div {z : Int} {m n : Nat} (hn : 0 < n) (hm : z = -(m : Int)) : (m % n = 0 → z / n = -((m / n : Nat) : Int)) ∧ (m % n ≠ 0 → z / n = -((m / n + 1 : Nat) : Int)) := by
  have h1 := Nat.div_add_mod m n
  have h2 := Nat.mod_lt m hn
  have h3 : ((n * (m / n) : Nat) : Int) = (n : Int) * ((m / n : Nat) : Int) := Int.natCast_mul _ _
  constructor
  · intro h
    refine ediv_of (r := 0) (by omega) ?_ (by omega) (by omega)
    rw [Int.mul_neg, ← h3]; omega
  · intro h
    refine ediv_of (r := (n : Int) - (m % n : Nat)) (by omega) ?_ (by omega) (by omega)
    rw [Int.natCast_add, Int.mul_neg, Int.mul_add, ← h3]; omega
theorem wrap_sgn {q : Nat} (h : q ≤ 9223372036854775808) : IntKind.i64.wrap (0 - sgn q) = -(q : Int) := by
  rw [IntKind.wrap_i64]; unfold sgn; split <;> omega
theorem div_t (hi lo y m : Nat) (hm : hi * 18446744073709551616 + lo = m) (hyl : y < 18446744073709551616) (hlo : lo < 18446744073709551616) (hhi : hi < y) : Fun Try.prog 52 [N64 hi, N64 lo, N64 y] (· = .tup [N64 (m / y), N64 (m % y)]) := by
  rw [← hm]; exact div_c hi lo y hyl hlo hhi
set_option maxHeartbeats 4000000 in
theorem overN_c (z : Int) (n : Nat) (hn : 0 < n) (hn2 : n ≤ 1099511627776) (h0 : z < 0) (hz1 : -(n * 9223372036854775808 : Int) ≤ z) (hzB : -B104 ≤ z ∧ z ≤ B104) : Fun Try.prog 44 [.agg (WD z), N64 n] (· = I64 (z / n)) := by
  have hzB' : -B104 ≤ -z ∧ -z ≤ B104 := by unfold B104 at *; omega
  obtain ⟨m, hm⟩ : ∃ m : Nat, z = -(m : Int) := ⟨(-z).toNat, by omega⟩
  have hhl : hiW (-z) * 18446744073709551616 + loW (-z) = m := by unfold hiW loW B104 at *; omega
  have hlt : hiW (-z) < n := by unfold hiW B104 at *; omega
  obtain ⟨g1, g2⟩ := neg_div hn hm
  have hmq : m / n ≤ 9223372036854775808 := by
    have : m / n < 9223372036854775809 := (Nat.div_lt_iff_lt_mul hn).2 (by omega)
    omega
  have hmr : m % n ≠ 0 → m / n + 1 ≤ 9223372036854775808 := fun h => by
    have h1 := Nat.div_add_mod m n
    have : m / n < 9223372036854775808 := (Nat.div_lt_iff_lt_mul hn).2 (by
      rcases Nat.lt_or_ge m (9223372036854775808 * n) with h3 | h3
      · exact h3
      · exfalso; apply h
        rw [show m = 9223372036854775808 * n by omega]; exact Nat.mul_mod_left _ _)
    omega
  refine Fun.of Try.func44 rfl (Nat.le_of_ble_eq_true rfl) fun C => ?_
  refine WC.seq fun Fh1_ h1_ => ?_
  refine WC.region ?_
  refine RG.op _ _ rfl rfl (o_box (d := .agg [_, _]) rfl rfl) ?_
  refine RG.op _ _ rfl rfl (o_assign (.v _) rfl) ?_
  refine RG.nil (h1_ _ ?_)
  refine WC.seq fun Fh2_ h2_ => ?_
  refine WC.seq fun Fh3_ h3_ => ?_
  refine WC.region ?_
  refine RG.op _ _ rfl rfl (o_load_ptr_L (xs := [_, _]) rfl Try.underlying56 rfl (sz_of Ty.inf56) rfl rfl rfl rfl) ?_
  refine RG.op _ _ rfl rfl (o_call Ty.cal50 (neg_c _ (by assumption)) ⟨.inl rfl, trivial⟩ (by exact pua rfl)) ?_
  refine RG.nil (h3_ _ ?_)
  refine WC.cond _ rfl (fun c1 => ?_) (fun c1 => ?_)
  ·
    have p1 := c1
    try simp only [CN] at p1
    refine WC.seq fun Fh4_ h4_ => ?_
    refine WC.region ?_
    refine RG.op _ _ rfl rfl (o_load_ptr_L (xs := [_, _]) rfl Try.underlying56 rfl (sz_of Ty.inf56) rfl rfl rfl rfl) ?_
    refine RG.op _ _ rfl rfl (o_call Ty.cal51 (minus_c _ (by assumption)) ⟨.inl rfl, trivial⟩ (by exact pua rfl)) ?_
    refine RG.op _ _ rfl rfl (o_alloc (z_of Ty.inf56) rfl) ?_
    refine RG.op _ _ rfl rfl (o_store (d := (.agg [_, _])) rfl rfl rfl rfl (sz_of Ty.inf56) (Nat.le_of_ble_eq_true rfl) rfl) ?_
    refine RG.nil (h4_ _ ?_)
    refine WC.seq fun Fh5_ h5_ => ?_
    refine WC.region ?_
    refine RG.op _ _ rfl rfl (o_ixn_arr 0 rfl rfl Try.underlying56 (sz_of Ty.inf54) (by first | omega | exact ubyte _ | (simp only [LS] <;> omega)) (by first | omega | exact ubyte _ | (simp only [LS] <;> omega))) ?_
    refine RG.op _ _ rfl rfl (o_load_ptr rfl Try.underlying54 rfl rfl rfl rfl) ?_
    refine RG.op _ _ rfl rfl (o_ixn_arr 1 rfl rfl Try.underlying56 (sz_of Ty.inf54) (by first | omega | exact ubyte _ | (simp only [LS] <;> omega)) (by first | omega | exact ubyte _ | (simp only [LS] <;> omega))) ?_
    refine RG.op _ _ rfl rfl (o_load_ptr rfl Try.underlying54 rfl rfl rfl rfl) ?_
    refine RG.op _ _ rfl rfl (o_move (.v _) rfl) ?_
    refine RG.op _ _ rfl rfl (o_call Ty.cal52 (div_t _ _ n m hhl (by omega) (loW_lt _) hlt) ⟨.inl rfl, .inl rfl, .inl rfl, trivial⟩ (by exact pua rfl)) ?_
    refine RG.op _ _ rfl rfl (o_move (.tup _) rfl) ?_
    refine RG.op _ _ rfl rfl (o_extract rfl rfl) ?_
    refine RG.op _ _ rfl rfl (o_extract rfl rfl) ?_
    refine RG.op _ _ rfl rfl (o_assign (.v _) rfl) ?_
    refine RG.op _ _ rfl rfl (o_assign (.v _) rfl) ?_
    refine RG.nil (h5_ _ ?_)
    refine WC.seq fun Fh6_ h6_ => ?_
    refine WC.seq fun Fh7_ h7_ => ?_
    refine WC.region ?_
    refine RG.op _ _ rfl rfl (o_move (.v _) rfl) ?_
    refine RG.op _ _ rfl rfl (o_gtI rfl rfl) ?_
    refine RG.nil (h7_ _ ?_)
    refine WC.cond _ rfl (fun c4 => ?_) (fun c4 => ?_)
    ·
      have p4 := c4
      try simp only [CN] at p4
      have hr0 : m % n ≠ 0 := by have a := c4; simp at a; omega
      have hr1 := hmr hr0
      have hr2 : (m / n + 1) % 18446744073709551616 = m / n + 1 := Nat.mod_eq_of_lt (Nat.lt_of_le_of_lt hr1 (by decide))
      refine WC.region ?_
      refine RG.op _ _ rfl rfl (o_move (.v _) rfl) ?_
      refine RG.op _ _ rfl rfl ((o_addU (a := m / n) (b := 1) rfl rfl).cast (d' := N64 (m / n + 1)) (congrArg N64 hr2)) ?_
      refine RG.op _ _ rfl rfl (o_assign (.v _) rfl) ?_
      refine RG.nil (h6_ _ ?_)
      refine WC.seq fun Fh8_ h8_ => ?_
      refine WC.region ?_
      refine RG.op _ _ rfl rfl (o_move (.v _) rfl) ?_
      refine RG.op _ _ rfl rfl (o_UtoI64 rfl (by first | omega | exact ubyte _ | (simp only [LS] <;> omega)) Try.underlying54 Try.underlying2) ?_
      refine RG.op _ _ rfl rfl (o_negW rfl) ?_
      refine RG.op _ _ rfl rfl (o_assign (.v _) rfl) ?_
      refine RG.nil (h8_ _ ?_)
      refine WC.ret ?_
      exact Ends.r1 rfl (.tmp _ (.v _) rfl) (.v _) (congrArg I64 (by rw [wrap_sgn (by omega), g2 hr0]))
    ·
      have p4 := c4
      try simp only [CN] at p4
      have hr0 : m % n = 0 := by have a := c4; simp at a; omega
      refine WC.skip (h6_ _ ?_)
      refine WC.seq fun Fh9_ h9_ => ?_
      refine WC.region ?_
      refine RG.op _ _ rfl rfl (o_move (.v _) rfl) ?_
      refine RG.op _ _ rfl rfl (o_UtoI64 rfl (by first | omega | exact ubyte _ | (simp only [LS] <;> omega)) Try.underlying54 Try.underlying2) ?_
      refine RG.op _ _ rfl rfl (o_negW rfl) ?_
      refine RG.op _ _ rfl rfl (o_assign (.v _) rfl) ?_
      refine RG.nil (h9_ _ ?_)
      refine WC.ret ?_
      exact Ends.r1 rfl (.tmp _ (.v _) rfl) (.v _) (congrArg I64 (by rw [wrap_sgn (by omega), g1 hr0]))
  ·
    have p1 := c1
    try simp only [CN] at p1
    omega
set_option maxHeartbeats 4000000 in
theorem overP_c (z : Int) (n : Nat) (hn : 0 < n) (hn2 : n ≤ 1099511627776) (h0 : 0 ≤ z) (hz1 : z ≤ n * 9223372036854775807) (hzB : -B104 ≤ z ∧ z ≤ B104) : Fun Try.prog 44 [.agg (WD z), N64 n] (· = I64 (z / n)) := by
  obtain ⟨m, hm⟩ : ∃ m : Nat, z = (m : Int) := ⟨z.toNat, by omega⟩
  have hhl : hiW z * 18446744073709551616 + loW z = m := by unfold hiW loW B104 at *; omega
  have hlt : hiW z < n := by unfold hiW B104 at *; omega
  have hmq : m / n < 9223372036854775808 := (Nat.div_lt_iff_lt_mul hn).2 (by omega)
  refine Fun.of Try.func44 rfl (Nat.le_of_ble_eq_true rfl) fun C => ?_
  refine WC.seq fun Fh1_ h1_ => ?_
  refine WC.region ?_
  refine RG.op _ _ rfl rfl (o_box (d := .agg [_, _]) rfl rfl) ?_
  refine RG.op _ _ rfl rfl (o_assign (.v _) rfl) ?_
  refine RG.nil (h1_ _ ?_)
  refine WC.seq fun Fh2_ h2_ => ?_
  refine WC.seq fun Fh3_ h3_ => ?_
  refine WC.region ?_
  refine RG.op _ _ rfl rfl (o_load_ptr_L (xs := [_, _]) rfl Try.underlying56 rfl (sz_of Ty.inf56) rfl rfl rfl rfl) ?_
  refine RG.op _ _ rfl rfl (o_call Ty.cal50 (neg_c _ (by assumption)) ⟨.inl rfl, trivial⟩ (by exact pua rfl)) ?_
  refine RG.nil (h3_ _ ?_)
  refine WC.cond _ rfl (fun c1 => ?_) (fun c1 => ?_)
  ·
    have p1 := c1
    try simp only [CN] at p1
    omega
  ·
    have p1 := c1
    try simp only [CN] at p1
    refine WC.skip (h2_ _ ?_)
    refine WC.seq fun Fh4_ h4_ => ?_
    refine WC.region ?_
    refine RG.op _ _ rfl rfl (o_ixn_arr 0 rfl rfl Try.underlying56 (sz_of Ty.inf54) (by first | omega | exact ubyte _ | (simp only [LS] <;> omega)) (by first | omega | exact ubyte _ | (simp only [LS] <;> omega))) ?_
    refine RG.op _ _ rfl rfl (o_load_ptr rfl Try.underlying54 rfl rfl rfl rfl) ?_
    refine RG.op _ _ rfl rfl (o_ixn_arr 1 rfl rfl Try.underlying56 (sz_of Ty.inf54) (by first | omega | exact ubyte _ | (simp only [LS] <;> omega)) (by first | omega | exact ubyte _ | (simp only [LS] <;> omega))) ?_
    refine RG.op _ _ rfl rfl (o_load_ptr rfl Try.underlying54 rfl rfl rfl rfl) ?_
    refine RG.op _ _ rfl rfl (o_move (.v _) rfl) ?_
    refine RG.op _ _ rfl rfl (o_call Ty.cal52 (div_t _ _ n m hhl (by omega) (loW_lt _) hlt) ⟨.inl rfl, .inl rfl, .inl rfl, trivial⟩ (by exact pua rfl)) ?_
    refine RG.op _ _ rfl rfl (o_move (.tup _) rfl) ?_
    refine RG.op _ _ rfl rfl (o_extract rfl rfl) ?_
    refine RG.op _ _ rfl rfl (o_extract rfl rfl) ?_
    refine RG.op _ _ rfl rfl (o_assign (.v _) rfl) ?_
    refine RG.op _ _ rfl rfl (o_assign (.v _) rfl) ?_
    refine RG.nil (h4_ _ ?_)
    refine WC.seq fun Fh5_ h5_ => ?_
    refine WC.region ?_
    refine RG.op _ _ rfl rfl (o_move (.v _) rfl) ?_
    refine RG.op _ _ rfl rfl (o_UtoI64 rfl (by first | omega | exact ubyte _ | (simp only [LS] <;> omega)) Try.underlying54 Try.underlying2) ?_
    refine RG.op _ _ rfl rfl (o_assign (.v _) rfl) ?_
    refine RG.nil (h5_ _ ?_)
    refine WC.ret ?_
    exact Ends.r1 rfl (.tmp _ (.v _) rfl) (.v _) (congrArg I64 (by unfold sgn; rw [if_pos hmq, hm]; exact (Int.natCast_ediv m n).symm))
theorem over_c (z : Int) (n : Nat) (hn : 0 < n) (hn2 : n ≤ 1099511627776) (hz1 : -(n * 9223372036854775808 : Int) ≤ z) (hz2 : z ≤ n * 9223372036854775807) : Fun Try.prog 44 [.agg (WD z), N64 n] (· = I64 (z / n)) := by
  have hzB : -B104 ≤ z ∧ z ≤ B104 := by unfold B104; omega
  rcases Int.lt_or_le z 0 with h | h
  · exact overN_c z n hn hn2 h hz1 hzB
  · exact overP_c z n hn hn2 h hz2 hzB
def midM (s : St) : Val × Int := if s.n = 0 then (z0, 0) else (⟨2, s.z / s.n, []⟩, 0)
set_option maxHeartbeats 4000000 in
theorem middle_c (s : St) (ar : Int) (f1 f2 f3 : Nat) (hr : Room s) : FunM Try.prog 29 [.ptr 0 0 0] [stb s ar f1 f2 f3] (AQ s ar f1 f2 f3 (midM s)) := by
  obtain ⟨r1, r2, r3⟩ := hr
  refine FunM.of Try.func29 rfl (Nat.le_of_ble_eq_true rfl) fun C => ?_
  refine WC.seq fun Fh1_ h1_ => ?_
  refine WC.region ?_
  refine RG.op _ _ rfl rfl (o_alloc (z_of Ty.inf23) rfl) ?_
  refine RG.op _ _ rfl rfl (o_assign (.v _) rfl) ?_
  refine RG.nil (h1_ _ ?_)
  refine WC.seq fun Fh2_ h2_ => ?_
  refine WC.seq fun Fh3_ h3_ => ?_
  refine WC.region ?_
  refine RG.op _ _ rfl rfl (o_move (.ptr _ _ _) rfl) ?_
  refine RG.op _ _ rfl rfl (o_nilP rfl) ?_
  refine RG.op _ _ rfl rfl (o_fld_ptr rfl Try.underlying58 rfl (sz_of Ty.inf4) (by decide)) ?_
  refine RG.op _ _ rfl rfl (o_load_ptr rfl Try.underlying4 rfl rfl rfl rfl) ?_
  refine RG.nil (h3_ _ ?_)
  refine WC.cond _ rfl (fun c1 => ?_) (fun c1 => ?_)
  ·
    have p1 := c1
    try simp only [CN] at p1
    cases c1
  ·
    have p1 := c1
    try simp only [CN] at p1
    refine WC.skip (h2_ _ ?_)
    refine WC.seq fun Fh4_ h4_ => ?_
    refine WC.seq fun Fh5_ h5_ => ?_
    refine WC.region ?_
    refine RG.op _ _ rfl rfl (o_move (.ptr _ _ _) rfl) ?_
    refine RG.op _ _ rfl rfl (o_nilP rfl) ?_
    refine RG.op _ _ rfl rfl (o_fld_ptr rfl Try.underlying58 rfl (sz_of Ty.inf54) (by decide)) ?_
    refine RG.op _ _ rfl rfl (o_load_ptr rfl Try.underlying54 rfl rfl rfl rfl) ?_
    refine RG.op _ _ rfl rfl (o_eqI rfl rfl) ?_
    refine RG.nil (h5_ _ ?_)
    refine WC.cond _ rfl (fun c3 => ?_) (fun c3 => ?_)
    ·
      have p3 := c3
      try simp only [CN] at p3
      refine WC.seq fun Fh6_ h6_ => ?_
      refine WC.region ?_
      refine RG.op _ _ rfl rfl (o_build (cs := [B8 0, I64 0, S []]) Try.underlying23 Ty.inf23 (Ty.pl23 Try.underlying23) rfl) ?_
      refine RG.op _ _ rfl rfl (o_store (d := (.agg [_, _, _])) rfl rfl rfl rfl (sz_of Ty.inf23) (Nat.le_of_ble_eq_true rfl) rfl) ?_
      refine RG.op _ _ rfl rfl (o_assign (.v _) rfl) ?_
      refine RG.nil (h6_ _ ?_)
      refine WC.ret ?_
      first | refine endM.mk 1 [_] rfl rfl (by repeat (first | exact trivial | refine And.intro (one_ok (.own _ _ _ _ _ (Nat.le_refl _))) ?_ | refine And.intro (okp (by repeat (first | exact pu_bytes _ | exact pu_nil | exact pu_vs rfl | exact pu_map (fun _ => .v _) _ | exact pu_vals _ | refine pu_app ?_ ?_ | refine pu_cons (by exact pu_of rfl) ?_))) ?_)) ?_ | (simp only [thenQ, blkQ, noGo]; refine endM.mk 1 [_] rfl rfl (by repeat (first | exact trivial | refine And.intro (one_ok (.own _ _ _ _ _ (Nat.le_refl _))) ?_ | refine And.intro (okp (by repeat (first | exact pu_bytes _ | exact pu_nil | exact pu_vs rfl | exact pu_map (fun _ => .v _) _ | exact pu_vals _ | refine pu_app ?_ ?_ | refine pu_cons (by exact pu_of rfl) ?_))) ?_)) ?_)
      exact EndsM.r2 rfl (.agg rfl Try.underlying23 rfl (sz_of Ty.inf23) rfl rfl rfl) (.tmp _ (.v _) rfl) (by first | exact .own _ _ _ _ _ (Nat.le_refl _) | exact .v _ | exact .ptr _ _ _ (Nat.le_refl _) | exact Pure'.ok (by exact pu_of rfl) _ | exact .tup _ (by repeat (first | exact ok_nil | refine ok_cons (by first | exact .own _ _ _ _ _ (Nat.le_refl _) | exact .ptr _ _ _ (Nat.le_refl _) | exact .v _ | exact Pure'.ok (by exact pu_of rfl) _) ?_))) (⟨by rw [show midM s = (z0, 0) by unfold midM; rw [if_pos (by omega)]]; rfl, rfl⟩)
    ·
      have p3 := c3
      try simp only [CN] at p3
      refine WC.skip (h4_ _ ?_)
      refine WC.seq fun Fh7_ h7_ => ?_
      refine WC.drawnB [0] (by kernel_rfl) ?_
      refine PG.op _ rfl rfl rfl (fun _ hH => o_move (.ptr _ _ _) rfl) ?_
      refine PG.op _ rfl rfl rfl (fun _ hH => o_nilP rfl) ?_
      refine PG.op _ rfl rfl rfl (fun _ hH => o_fld_ptr rfl Try.underlying58 rfl (sz_of Ty.inf56) (by decide)) ?_
      refine PG.op _ rfl rfl rfl (fun _ hH => o_load_ptr_L (xs := [_, _]) rfl Try.underlying56 rfl (sz_of Ty.inf56) (keepB hH rfl rfl) rfl rfl rfl) ?_
      refine PG.op _ rfl rfl rfl (fun _ hH => o_move (.ptr _ _ _) rfl) ?_
      refine PG.op _ rfl rfl rfl (fun _ hH => o_nilP rfl) ?_
      refine PG.op _ rfl rfl rfl (fun _ hH => o_fld_ptr rfl Try.underlying58 rfl (sz_of Ty.inf54) (by decide)) ?_
      refine PG.op _ rfl rfl rfl (fun _ hH => o_load_ptr rfl Try.underlying54 rfl (keepB hH rfl rfl) rfl rfl) ?_
      refine PG.op _ rfl rfl rfl (fun _ hH => o_call Ty.cal44 (over_c s.z s.n (by omega) r1 r2 r3) ⟨.inl rfl, .inl rfl, trivial⟩ (by exact pua rfl)) ?_
      refine PG.op _ rfl rfl rfl (fun _ hH => o_build (cs := [(B8 2), (.v _), S []]) Try.underlying23 Ty.inf23 (Ty.pl23 Try.underlying23) rfl) ?_
      refine PG.opm _ _ rfl rfl rfl (o_store (d := (.agg [_, _, _])) rfl rfl rfl rfl (sz_of Ty.inf23) (Nat.le_of_ble_eq_true rfl) rfl) ?_
      refine PG.op _ rfl rfl rfl (fun _ hH => o_assign (.v _) rfl) ?_
      refine PG.nil ⟨by kernel_rfl, List.forall_mem_cons.2 ⟨noHs rfl, List.forall_mem_cons.2 ⟨noHs rfl, List.forall_mem_cons.2 ⟨noHs rfl, List.forall_mem_cons.2 ⟨noHs rfl, List.forall_mem_cons.2 ⟨noHs rfl, List.forall_mem_cons.2 ⟨noHs rfl, List.forall_mem_cons.2 ⟨noHs rfl, List.forall_mem_cons.2 ⟨noHs rfl, List.forall_mem_cons.2 ⟨noHs rfl, List.forall_mem_cons.2 ⟨noHs rfl, List.forall_mem_cons.2 ⟨fun _ => rfl, List.forall_mem_cons.2 ⟨noHs rfl, List.forall_mem_nil _⟩⟩⟩⟩⟩⟩⟩⟩⟩⟩⟩⟩, (h7_ _ ?_)⟩
      refine WC.ret ?_
      first | refine endM.mk 1 [_] rfl rfl (by repeat (first | exact trivial | refine And.intro (one_ok (.own _ _ _ _ _ (Nat.le_refl _))) ?_ | refine And.intro (okp (by repeat (first | exact pu_bytes _ | exact pu_nil | exact pu_vs rfl | exact pu_map (fun _ => .v _) _ | exact pu_vals _ | refine pu_app ?_ ?_ | refine pu_cons (by exact pu_of rfl) ?_))) ?_)) ?_ | (simp only [thenQ, blkQ, noGo]; refine endM.mk 1 [_] rfl rfl (by repeat (first | exact trivial | refine And.intro (one_ok (.own _ _ _ _ _ (Nat.le_refl _))) ?_ | refine And.intro (okp (by repeat (first | exact pu_bytes _ | exact pu_nil | exact pu_vs rfl | exact pu_map (fun _ => .v _) _ | exact pu_vals _ | refine pu_app ?_ ?_ | refine pu_cons (by exact pu_of rfl) ?_))) ?_)) ?_)
      exact EndsM.r2 rfl (.agg rfl Try.underlying23 rfl (sz_of Ty.inf23) rfl rfl rfl) (.tmp _ (.v _) rfl) (by first | exact .own _ _ _ _ _ (Nat.le_refl _) | exact .v _ | exact .ptr _ _ _ (Nat.le_refl _) | exact Pure'.ok (by exact pu_of rfl) _ | exact .tup _ (by repeat (first | exact ok_nil | refine ok_cons (by first | exact .own _ _ _ _ _ (Nat.le_refl _) | exact .ptr _ _ _ (Nat.le_refl _) | exact .v _ | exact Pure'.ok (by exact pu_of rfl) _) ?_))) (⟨by rw [show midM s = (⟨2, s.z / s.n, []⟩, 0) by unfold midM; rw [if_neg (by omega)]]; rfl, rfl⟩)
end Go.Proofs.Ytpacdeiaimfiaaa
