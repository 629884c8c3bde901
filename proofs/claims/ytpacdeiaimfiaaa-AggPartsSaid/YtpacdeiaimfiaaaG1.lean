/-
  Layer agg: values held against each other; whole numbers of 128 bits. No condition but a number's size.
-/
import Derived.Test.YtpacdeiaimfiaaaRows
import Derived.Test.YtpacdeiaimfiaaaTy
import Derived.Test.YtpacdeiaimfiaaaDlU
import Derived.Test.YtpacdeiaimfiaaaDlNc
import Derived.Test.YtpacdeiaimfiaaaDlFl
import Derived.Laws.Externs
import Derived.Lib.Bytealg
import Derived.Shelf.Spec.BitsCarry
import Derived.Test.YtpacdeiaimfiaaaDlU
set_option linter.unusedSimpArgs false
set_option linter.unusedVariables false
namespace Go.Proofs.Ytpacdeiaimfiaaa
open Go.RowKit Go.DL

section
variable {C : Ctx} {env : Nat → D} {H : Heap} {dst : Option Nat} {ty : TypeId} {pos : String} {after : Array Edge} {gu : Option (Nat × Bool)} {X Y Z : Operand}
theorem cmp_run (a b : List UInt8) (w : World) : (callFunc 47 #[.string (strB a), .string (strB b)]).run Try.prog w = .ok (.value (.int .i64 (Lib.compareBytes a b))) w := by
  rw [run_callFunc_extern (fn := Try.f47) (e := Extern.BytealgCompare.compare) Try.func47 (by kernel_rfl) (by kernel_rfl) (by kernel_rfl) (by kernel_rfl), Lib.run_compareString]; rfl
theorem o_cmpS {a b : List UInt8} {ats : Array TypeId} (hx : ev env X = S a) (hy : ev env Y = S b) : OpD Try.prog C ⟨dst, .call { callee := .value (.func 47), args := #[X, Y], argTypes := ats }, ty, pos, after, gu⟩ env H (I64 (Lib.compareBytes a b)) H := by
  refine OpD.same fun K β ac w _ h _ => ⟨.int .i64 (Lib.compareBytes a b), ?_, .v _ _, .v _⟩
  have h1 := h X (by simp [Op.operands, Call.operands])
  have h2 := h Y (by simp [Op.operands, Call.operands])
  rw [hx] at h1; rw [hy] at h2
  have e0 : ac.eval (.func 47) = .func (.func 47) #[] #[] := rfl
  simp [execOp, resolve, e0, Deferred.ofValue, invoke, h1.v_inv, h2.v_inv, cmp_run]
theorem add_run (x y c : Nat) (hx : x < 18446744073709551616) (hy : y < 18446744073709551616) (hc : c ≤ 1) (w : World) : (callFunc 48 #[.int .u64 x, .int .u64 y, .int .u64 c]).run Try.prog w = .ok (.value (.tuple #[.int .u64 (((x + y + c) % 18446744073709551616 : Nat) : Int), .int .u64 (((x + y + c) / 18446744073709551616 : Nat) : Int)])) w := by
  rw [run_callFunc_extern (fn := Try.f48) (e := add64Entry) Try.func48 (by kernel_rfl) (by kernel_rfl) (by kernel_rfl) (by kernel_rfl), run_add64 x y c (by omega) (by omega) (by omega) (by omega)]
  simp only [Result.andThen]
  congr 5 <;> omega
theorem o_add64 {x y c : Nat} {ats : Array TypeId} (hx : ev env X = N64 x) (hy : ev env Y = N64 y) (hz : ev env Z = N64 c) (h1 : x < 18446744073709551616) (h2 : y < 18446744073709551616) (h3 : c ≤ 1) : OpD Try.prog C ⟨dst, .call { callee := .value (.func 48), args := #[X, Y, Z], argTypes := ats }, ty, pos, after, gu⟩ env H (.tup [N64 ((x + y + c) % 18446744073709551616), N64 ((x + y + c) / 18446744073709551616)]) H := by
  refine OpD.same fun K β ac w _ h _ => ⟨.tuple #[.int .u64 (((x + y + c) % 18446744073709551616 : Nat) : Int), .int .u64 (((x + y + c) / 18446744073709551616 : Nat) : Int)], ?_, ?_, .tup _ (by simp; exact ⟨.v _, .v _⟩)⟩
  · have k1 := h X (by simp [Op.operands, Call.operands])
    have k2 := h Y (by simp [Op.operands, Call.operands])
    have k3 := h Z (by simp [Op.operands, Call.operands])
    rw [hx] at k1; rw [hy] at k2; rw [hz] at k3
    have e0 : ac.eval (.func 48) = .func (.func 48) #[] #[] := rfl
    simp [execOp, resolve, e0, Deferred.ofValue, invoke, k1.v_inv, k2.v_inv, k3.v_inv, add_run x y c h1 h2 h3]
  · refine .tup _ [_, _] [_, _] rfl fun j u d hu hd => ?_
    rcases j with _ | _ | j
    · cases hu; cases hd; exact .v _ _
    · cases hu; cases hd; exact .v _ _
    · simp at hu
theorem o_add64E {x y c s k : Nat} {ats : Array TypeId} (hx : ev env X = N64 x) (hy : ev env Y = N64 y) (hz : ev env Z = N64 c) (h1 : x < 18446744073709551616) (h2 : y < 18446744073709551616) (h3 : c ≤ 1) (e1 : (x + y + c) % 18446744073709551616 = s) (e2 : (x + y + c) / 18446744073709551616 = k) : OpD Try.prog C ⟨dst, .call { callee := .value (.func 48), args := #[X, Y, Z], argTypes := ats }, ty, pos, after, gu⟩ env H (.tup [N64 s, N64 k]) H := by
  subst e1 e2; exact o_add64 hx hy hz h1 h2 h3
end

abbrev B104 : Int := 20282409603651670423947251286016
def hiW (z : Int) : Nat := ((z / 18446744073709551616) % 18446744073709551616).toNat
def loW (z : Int) : Nat := (z % 18446744073709551616).toNat
theorem hiW_lt (z : Int) : hiW z < 18446744073709551616 := by unfold hiW; omega
theorem loW_lt (z : Int) : loW z < 18446744073709551616 := by unfold loW; omega
abbrev WD (z : Int) : List D := [N64 (hiW z), N64 (loW z)]
set_option maxHeartbeats 4000000 in
theorem widen_c (v : Int) (hv : -9223372036854775808 ≤ v ∧ v ≤ 9223372036854775807) : Fun Try.prog 43 [I64 v] (· = .agg (WD v)) := by
  refine Fun.of Try.func43 rfl (Nat.le_of_ble_eq_true rfl) fun C => ?_
  refine WC.seq fun Fh1_ h1_ => ?_
  refine WC.region ?_
  refine RG.op _ _ rfl rfl (o_alloc (z_of Ty.inf56) rfl) ?_
  refine RG.nil (h1_ _ ?_)
  refine WC.seq fun Fh2_ h2_ => ?_
  refine WC.region ?_
  refine RG.op _ _ rfl rfl (o_move (.v _) rfl) ?_
  refine RG.op _ _ rfl rfl (o_bin (.int .i64 (v.fdiv 9223372036854775808)) rfl rfl (shr_run (n := 63) (by decide))) ?_
  refine RG.op _ _ rfl rfl (o_i64toU rfl Try.underlying2 Try.underlying54) ?_
  refine RG.op _ _ rfl rfl (o_move (.v _) rfl) ?_
  refine RG.op _ _ rfl rfl (o_i64toU rfl Try.underlying2 Try.underlying54) ?_
  refine RG.op _ _ rfl rfl (o_buildA (cs := [(.v _), (.v _)]) Try.underlying56 Ty.inf56 (sz_of Ty.inf54) rfl) ?_
  refine RG.op _ _ rfl rfl (o_store (d := (.agg [_, _])) rfl rfl rfl rfl (sz_of Ty.inf56) (Nat.le_of_ble_eq_true rfl) rfl) ?_
  refine RG.nil (h2_ _ ?_)
  refine WC.ret ?_
  exact Ends.r1 rfl (.agg rfl Try.underlying56 rfl (sz_of Ty.inf56) rfl rfl rfl) (.pure' (by exact pu_of rfl)) ((by rw [Int.fdiv_eq_ediv_of_nonneg _ (by decide), show ((v / 9223372036854775808) % 18446744073709551616).toNat = hiW v by unfold hiW; omega]; rfl))
set_option maxHeartbeats 4000000 in
theorem neg_c (z : Int) (hz : -B104 ≤ z ∧ z ≤ B104) : Fun Try.prog 50 [.agg (WD z)] (· = Bo (decide (z < 0))) := by
  have h1 := hiW_lt z
  refine Fun.of Try.func50 rfl (Nat.le_of_ble_eq_true rfl) fun C => ?_
  refine WC.seq fun Fh1_ h1_ => ?_
  refine WC.region ?_
  refine RG.op _ _ rfl rfl (o_box (d := .agg [_, _]) rfl rfl) ?_
  refine RG.op _ _ rfl rfl (o_assign (.v _) rfl) ?_
  refine RG.nil (h1_ _ ?_)
  refine WC.seq fun Fh2_ h2_ => ?_
  refine WC.region ?_
  refine RG.op _ _ rfl rfl (o_ixn_arr 0 rfl rfl Try.underlying56 (sz_of Ty.inf54) (by first | omega | exact ubyte _ | (simp only [LS] <;> omega)) (by first | omega | exact ubyte _ | (simp only [LS] <;> omega))) ?_
  refine RG.op _ _ rfl rfl (o_load_ptr rfl Try.underlying54 rfl rfl rfl rfl) ?_
  refine RG.op _ _ rfl rfl (o_shrU (n := 63) rfl rfl (by show _ ≤ 64; (first | omega | (simp only [LS] <;> omega)))) ?_
  refine RG.op _ _ rfl rfl (o_eqI rfl rfl) ?_
  refine RG.op _ _ rfl rfl (o_assign (.v _) rfl) ?_
  refine RG.nil (h2_ _ ?_)
  refine WC.ret ?_
  exact Ends.r1 rfl (.tmp _ (.v _) rfl) (.v _) (congrArg Bo (by rw [decide_eq_decide]; unfold hiW B104 at *; omega))
theorem plus_eq {x y : Int} (hx : -B104 ≤ x ∧ x ≤ B104) (hy : -B104 ≤ y ∧ y ≤ B104) (hxy : -B104 ≤ x + y ∧ x + y ≤ B104) : (decide (x < 0) != decide (y < 0) || decide (x + y < 0) == decide (x < 0)) = true := by
  by_cases a : x < 0 <;> by_cases a2 : y < 0 <;> by_cases a3 : x + y < 0 <;> simp [a, a2, a3] <;> omega
set_option maxHeartbeats 4000000 in
theorem plus_c (x y : Int) (hx : -B104 ≤ x ∧ x ≤ B104) (hy : -B104 ≤ y ∧ y ≤ B104) (hxy : -B104 ≤ x + y ∧ x + y ≤ B104) : Fun Try.prog 49 [.agg (WD x), .agg (WD y)] (· = .tup [.agg (WD (x + y)), Bo true]) := by
  have h1 := hiW_lt x
  have h2 := hiW_lt y
  have h3 := loW_lt x
  have h4 := loW_lt y
  have e1 : (loW x + loW y + 0) % 18446744073709551616 = loW (x + y) := by unfold loW; omega
  have e2 : (hiW x + hiW y + (loW x + loW y + 0) / 18446744073709551616) % 18446744073709551616 = hiW (x + y) := by unfold hiW loW; omega
  refine Fun.of Try.func49 rfl (Nat.le_of_ble_eq_true rfl) fun C => ?_
  refine WC.seq fun Fh1_ h1_ => ?_
  refine WC.region ?_
  refine RG.op _ _ rfl rfl (o_box (d := .agg [_, _]) rfl rfl) ?_
  refine RG.op _ _ rfl rfl (o_box (d := .agg [_, _]) rfl rfl) ?_
  refine RG.op _ _ rfl rfl (o_alloc (z_of Ty.inf56) rfl) ?_
  refine RG.op _ _ rfl rfl (o_assign (.v _) rfl) ?_
  refine RG.nil (h1_ _ ?_)
  refine WC.seq fun Fh2_ h2_ => ?_
  refine WC.region ?_
  refine RG.op _ _ rfl rfl (o_ixn_arr 1 rfl rfl Try.underlying56 (sz_of Ty.inf54) (by first | omega | exact ubyte _ | (simp only [LS] <;> omega)) (by first | omega | exact ubyte _ | (simp only [LS] <;> omega))) ?_
  refine RG.op _ _ rfl rfl (o_load_ptr rfl Try.underlying54 rfl rfl rfl rfl) ?_
  refine RG.op _ _ rfl rfl (o_ixn_arr 1 rfl rfl Try.underlying56 (sz_of Ty.inf54) (by first | omega | exact ubyte _ | (simp only [LS] <;> omega)) (by first | omega | exact ubyte _ | (simp only [LS] <;> omega))) ?_
  refine RG.op _ _ rfl rfl (o_load_ptr rfl Try.underlying54 rfl rfl rfl rfl) ?_
  refine RG.op _ _ rfl rfl (o_add64E (c := 0) rfl rfl rfl h3 h4 (by decide) e1 rfl) ?_
  refine RG.op _ _ rfl rfl (o_move (.tup _) rfl) ?_
  refine RG.op _ _ rfl rfl (o_extract rfl rfl) ?_
  refine RG.op _ _ rfl rfl (o_extract rfl rfl) ?_
  refine RG.op _ _ rfl rfl (o_assign (.v _) rfl) ?_
  refine RG.op _ _ rfl rfl (o_assign (.v _) rfl) ?_
  refine RG.nil (h2_ _ ?_)
  refine WC.seq fun Fh3_ h3_ => ?_
  refine WC.region ?_
  refine RG.op _ _ rfl rfl (o_ixn_arr 0 rfl rfl Try.underlying56 (sz_of Ty.inf54) (by first | omega | exact ubyte _ | (simp only [LS] <;> omega)) (by first | omega | exact ubyte _ | (simp only [LS] <;> omega))) ?_
  refine RG.op _ _ rfl rfl (o_load_ptr rfl Try.underlying54 rfl rfl rfl rfl) ?_
  refine RG.op _ _ rfl rfl (o_ixn_arr 0 rfl rfl Try.underlying56 (sz_of Ty.inf54) (by first | omega | exact ubyte _ | (simp only [LS] <;> omega)) (by first | omega | exact ubyte _ | (simp only [LS] <;> omega))) ?_
  refine RG.op _ _ rfl rfl (o_load_ptr rfl Try.underlying54 rfl rfl rfl rfl) ?_
  refine RG.op _ _ rfl rfl (o_move (.v _) rfl) ?_
  refine RG.op _ _ rfl rfl (o_add64E (c := (loW x + loW y + 0) / 18446744073709551616) rfl rfl rfl h1 h2 (by omega) e2 rfl) ?_
  refine RG.op _ _ rfl rfl (o_move (.tup _) rfl) ?_
  refine RG.op _ _ rfl rfl (o_extract rfl rfl) ?_
  refine RG.op _ _ rfl rfl (o_extract rfl rfl) ?_
  refine RG.op _ _ rfl rfl (o_assign (.v _) rfl) ?_
  refine RG.op _ _ rfl rfl (o_assign (.v _) rfl) ?_
  refine RG.nil (h3_ _ ?_)
  refine WC.seq fun Fh4_ h4_ => ?_
  refine WC.region ?_
  refine RG.op _ _ rfl rfl (o_move (.v _) rfl) ?_
  refine RG.op _ _ rfl rfl (o_move (.v _) rfl) ?_
  refine RG.op _ _ rfl rfl (o_buildA (cs := [(.v _), (.v _)]) Try.underlying56 Ty.inf56 (sz_of Ty.inf54) rfl) ?_
  refine RG.op _ _ rfl rfl (o_alloc (z_of Ty.inf56) rfl) ?_
  refine RG.op _ _ rfl rfl (o_store (d := (.agg [_, _])) rfl rfl rfl rfl (sz_of Ty.inf56) (Nat.le_of_ble_eq_true rfl) rfl) ?_
  refine RG.nil (h4_ _ ?_)
  refine WC.seq fun Fh5_ h5_ => ?_
  refine WC.drawnLk (by kernel_rfl) ?_
  refine PL.opl _ rfl rfl rfl (o_load_ptr_L (xs := [_, _]) rfl Try.underlying56 rfl (sz_of Ty.inf56) rfl rfl rfl rfl) ?_
  refine PL.opl _ rfl rfl rfl (o_load_ptr_L (xs := [_, _]) rfl Try.underlying56 rfl (sz_of Ty.inf56) rfl rfl rfl rfl) ?_
  refine PL.op _ rfl rfl rfl ((fun _ => o_call Ty.cal50 (neg_c _ (by assumption)) ⟨.inl rfl, trivial⟩ (by exact pua rfl))) ?_
  refine PL.opl _ rfl rfl rfl (o_load_ptr_L (xs := [_, _]) rfl Try.underlying56 rfl (sz_of Ty.inf56) rfl rfl rfl rfl) ?_
  refine PL.op _ rfl rfl rfl ((fun _ => o_call Ty.cal50 (neg_c _ (by assumption)) ⟨.inl rfl, trivial⟩ (by exact pua rfl))) ?_
  refine PL.op _ rfl rfl rfl ((fun _ => o_neb rfl rfl Try.underlying4)) ?_
  refine PL.op _ rfl rfl rfl ((fun _ => o_move (.v _) rfl)) ?_
  refine PL.opl1 _ _ _ _ _ rfl rfl rfl rfl rfl rfl (fun hb => o_load_ptr_L (xs := [_, _]) rfl Try.underlying56 rfl (sz_of Ty.inf56) rfl rfl rfl rfl) ?_
  refine PL.opg1 _ _ _ _ _ rfl rfl rfl rfl rfl rfl (fun hb => (fun _ => o_call Ty.cal50 (neg_c _ (by assumption)) ⟨.inl (gdT hb), trivial⟩ (by exact pua rfl))) ?_
  refine PL.opl1 _ _ _ _ _ rfl rfl rfl rfl rfl rfl (fun hb => o_load_ptr_L (xs := [_, _]) rfl Try.underlying56 rfl (sz_of Ty.inf56) rfl rfl rfl rfl) ?_
  refine PL.opg1 _ _ _ _ _ rfl rfl rfl rfl rfl rfl (fun hb => (fun _ => o_call Ty.cal50 (neg_c _ (by assumption)) ⟨.inl (gdT hb), trivial⟩ (by exact pua rfl))) ?_
  refine PL.opg1 _ _ _ _ _ rfl rfl rfl rfl rfl rfl (fun hb => (fun _ => o_eqb (gdT hb) (gdT hb) Try.underlying4)) ?_
  refine PL.op _ rfl rfl rfl ((fun _ => o_or _ _ rfl rfl rfl)) ?_
  refine PL.opm _ _ rfl rfl rfl (o_store (d := (.agg [_, _])) rfl rfl rfl rfl (sz_of Ty.inf56) (Nat.le_of_ble_eq_true rfl) rfl) ?_
  refine PL.op _ rfl rfl rfl ((fun _ => o_assign (.v _) rfl)) ?_
  refine PL.nil ⟨by kernel_rfl, by kernel_rfl, (h5_ _ ?_)⟩
  refine WC.ret ?_
  exact Ends.r2 rfl (.agg rfl Try.underlying56 rfl (sz_of Ty.inf56) rfl rfl rfl) (.tmp _ (.v _) rfl) (.pure' (by exact pu_of rfl)) (.v _) (congrArg (fun b : Bool => D.tup [D.agg (WD (x + y)), Bo b]) (plus_eq hx hy hxy))
end Go.Proofs.Ytpacdeiaimfiaaa
