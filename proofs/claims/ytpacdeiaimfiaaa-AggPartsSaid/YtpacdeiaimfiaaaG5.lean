/-
  Layer agg: what a state answers: how many, the sum, what is kept. No condition but a state's size.
-/
import Derived.Test.YtpacdeiaimfiaaaG4
import Derived.Test.YtpacdeiaimfiaaaDlWd
import Derived.Test.YtpacdeiaimfiaaaDlU
set_option linter.unusedSimpArgs false
set_option linter.unusedVariables false
namespace Go.Proofs.Ytpacdeiaimfiaaa
open Go.RowKit Go.DL
section
variable (s : St) (ar : Int) (f1 f2 f3 : Nat)
/-- An answer, and how it went. -/
abbrev AD (p : Val × Int) : D := .tup [VD p.1, I64 p.2]
abbrev AQ (s : St) (ar : Int) (f1 f2 f3 : Nat) (p : Val × Int) : DOut → Heap → Prop := fun o H' => o = .ret (AD p) ∧ H' = [stb s ar f1 f2 f3]
set_option maxHeartbeats 4000000 in
theorem number_c (hr : Room s) : FunM Try.prog 25 [.ptr 0 0 0] [stb s ar f1 f2 f3] (AQ s ar f1 f2 f3 (⟨2, s.n, []⟩, 0)) := by
  obtain ⟨r1, r2, r3⟩ := hr
  refine FunM.of Try.func25 rfl (Nat.le_of_ble_eq_true rfl) fun C => ?_
  refine WC.seq fun Fh1_ h1_ => ?_
  refine WC.region ?_
  refine RG.op _ _ rfl rfl (o_alloc (z_of Ty.inf23) rfl) ?_
  refine RG.op _ _ rfl rfl (o_assign (.v _) rfl) ?_
  refine RG.nil (h1_ _ ?_)
  refine WC.seq fun Fh2_ h2_ => ?_
  refine WC.seq fun Fh3_ h3_ => ?_
  refine WC.region ?_
  refine RG.op _ _ rfl rfl (o_move (.ptr _ _ _) rfl) ?_
  refine RG.op _ _ rfl rfl (o_nilP rfl) ?_
  refine RG.op _ _ rfl rfl (o_fld_ptr rfl Try.underlying58 rfl (sz_of Ty.inf4) (by decide)) ?_
  refine RG.op _ _ rfl rfl (o_load_ptr rfl Try.underlying4 rfl rfl rfl rfl) ?_
  refine RG.op _ _ rfl rfl (o_move (.v _) rfl) ?_
  refine RG.opg1 _ _ _ _ _ rfl rfl rfl rfl rfl (fun hb => o_move (.ptr _ _ _) rfl) ?_
  refine RG.opg1 _ _ _ _ _ rfl rfl rfl rfl rfl (fun hb => o_nilP (gdT hb)) ?_
  refine RG.opg1 _ _ _ _ _ rfl rfl rfl rfl rfl (fun hb => o_fld_ptr (gdT hb) Try.underlying58 rfl (sz_of Ty.inf54) (by decide)) ?_
  refine RG.opg1 _ _ _ _ _ rfl rfl rfl rfl rfl (fun hb => o_load_ptr (gdT hb) Try.underlying54 rfl rfl rfl rfl) ?_
  refine RG.opg1 _ _ _ _ _ rfl rfl rfl rfl rfl (fun hb => o_geI (gdT hb) rfl) ?_
  refine RG.op _ _ rfl rfl (o_or _ _ rfl rfl rfl) ?_
  refine RG.nil (h3_ _ ?_)
  refine WC.cond _ rfl (fun c1 => ?_) (fun c1 => ?_)
  ·
    have p1 := c1
    try simp only [CN] at p1
    refine WC.seq fun Fh4_ h4_ => ?_
    refine WC.region ?_
    refine RG.op _ _ rfl rfl (o_build (cs := [B8 0, I64 0, S []]) Try.underlying23 Ty.inf23 (Ty.pl23 Try.underlying23) rfl) ?_
    refine RG.op _ _ rfl rfl (o_store (d := (.agg [_, _, _])) rfl rfl rfl rfl (sz_of Ty.inf23) (Nat.le_of_ble_eq_true rfl) rfl) ?_
    refine RG.op _ _ rfl rfl (o_assign (.v _) rfl) ?_
    refine RG.nil (h4_ _ ?_)
    refine WC.ret ?_
    first | refine endM.mk 1 [_] rfl rfl (by repeat (first | exact trivial | refine And.intro (one_ok (.own _ _ _ _ _ (Nat.le_refl _))) ?_ | refine And.intro (okp (by repeat (first | exact pu_bytes _ | exact pu_nil | exact pu_vs rfl | exact pu_map (fun _ => .v _) _ | exact pu_vals _ | refine pu_app ?_ ?_ | refine pu_cons (by exact pu_of rfl) ?_))) ?_)) ?_ | (simp only [thenQ, blkQ, noGo]; refine endM.mk 1 [_] rfl rfl (by repeat (first | exact trivial | refine And.intro (one_ok (.own _ _ _ _ _ (Nat.le_refl _))) ?_ | refine And.intro (okp (by repeat (first | exact pu_bytes _ | exact pu_nil | exact pu_vs rfl | exact pu_map (fun _ => .v _) _ | exact pu_vals _ | refine pu_app ?_ ?_ | refine pu_cons (by exact pu_of rfl) ?_))) ?_)) ?_)
    exact EndsM.r2 rfl (.agg rfl Try.underlying23 rfl (sz_of Ty.inf23) rfl rfl rfl) (.tmp _ (.v _) rfl) (by first | exact .own _ _ _ _ _ (Nat.le_refl _) | exact .v _ | exact .ptr _ _ _ (Nat.le_refl _) | exact Pure'.ok (by exact pu_of rfl) _ | exact .tup _ (by repeat (first | exact ok_nil | refine ok_cons (by first | exact .own _ _ _ _ _ (Nat.le_refl _) | exact .ptr _ _ _ (Nat.le_refl _) | exact .v _ | exact Pure'.ok (by exact pu_of rfl) _) ?_))) (absurd (show (9223372036854775808 : Int) ≤ s.n by simpa using c1) (by omega))
  ·
    have p1 := c1
    try simp only [CN] at p1
    refine WC.skip (h2_ _ ?_)
    refine WC.seq fun Fh5_ h5_ => ?_
    refine WC.region ?_
    refine RG.op _ _ rfl rfl (o_move (.ptr _ _ _) rfl) ?_
    refine RG.op _ _ rfl rfl (o_nilP rfl) ?_
    refine RG.op _ _ rfl rfl (o_fld_ptr rfl Try.underlying58 rfl (sz_of Ty.inf54) (by decide)) ?_
    refine RG.op _ _ rfl rfl (o_load_ptr rfl Try.underlying54 rfl rfl rfl rfl) ?_
    refine RG.op _ _ rfl rfl (o_UtoI64 rfl (by first | omega | exact ubyte _ | (simp only [LS] <;> omega)) Try.underlying54 Try.underlying2) ?_
    refine RG.op _ _ rfl rfl (o_build (cs := [(B8 2), (.v _), S []]) Try.underlying23 Ty.inf23 (Ty.pl23 Try.underlying23) rfl) ?_
    refine RG.op _ _ rfl rfl (o_store (d := (.agg [_, _, _])) rfl rfl rfl rfl (sz_of Ty.inf23) (Nat.le_of_ble_eq_true rfl) rfl) ?_
    refine RG.op _ _ rfl rfl (o_assign (.v _) rfl) ?_
    refine RG.nil (h5_ _ ?_)
    refine WC.ret ?_
    first | refine endM.mk 1 [_] rfl rfl (by repeat (first | exact trivial | refine And.intro (one_ok (.own _ _ _ _ _ (Nat.le_refl _))) ?_ | refine And.intro (okp (by repeat (first | exact pu_bytes _ | exact pu_nil | exact pu_vs rfl | exact pu_map (fun _ => .v _) _ | exact pu_vals _ | refine pu_app ?_ ?_ | refine pu_cons (by exact pu_of rfl) ?_))) ?_)) ?_ | (simp only [thenQ, blkQ, noGo]; refine endM.mk 1 [_] rfl rfl (by repeat (first | exact trivial | refine And.intro (one_ok (.own _ _ _ _ _ (Nat.le_refl _))) ?_ | refine And.intro (okp (by repeat (first | exact pu_bytes _ | exact pu_nil | exact pu_vs rfl | exact pu_map (fun _ => .v _) _ | exact pu_vals _ | refine pu_app ?_ ?_ | refine pu_cons (by exact pu_of rfl) ?_))) ?_)) ?_)
    exact EndsM.r2 rfl (.agg rfl Try.underlying23 rfl (sz_of Ty.inf23) rfl rfl rfl) (.tmp _ (.v _) rfl) (by first | exact .own _ _ _ _ _ (Nat.le_refl _) | exact .v _ | exact .ptr _ _ _ (Nat.le_refl _) | exact Pure'.ok (by exact pu_of rfl) _ | exact .tup _ (by repeat (first | exact ok_nil | refine ok_cons (by first | exact .own _ _ _ _ _ (Nat.le_refl _) | exact .ptr _ _ _ (Nat.le_refl _) | exact .v _ | exact Pure'.ok (by exact pu_of rfl) _) ?_))) (⟨by rw [show (s.n : Int) = sgn s.n by unfold sgn; rw [if_pos (by omega)]]; rfl, rfl⟩)
theorem sgn_in (n : Nat) (h : n < 18446744073709551616) : -9223372036854775808 ≤ sgn n ∧ sgn n ≤ 9223372036854775807 := by unfold sgn; split <;> omega
theorem wide_same (z : Int) (h : -B104 ≤ z ∧ z ≤ B104) : (hiW z = hiW (sgn (loW z)) ∧ loW z = loW (sgn (loW z))) ↔ -9223372036854775808 ≤ z ∧ z ≤ 9223372036854775807 := by
  have h1 : loW z = loW (sgn (loW z)) := by unfold sgn; split <;> (unfold loW at *; omega)
  constructor
  · rintro ⟨h2, _⟩
    unfold sgn at h2; split at h2 <;> (unfold hiW loW B104 at *; omega)
  · intro h2
    refine ⟨?_, h1⟩
    unfold sgn; split <;> (unfold hiW loW at *; omega)
theorem wide_sgn (z : Int) (h : -9223372036854775808 ≤ z ∧ z ≤ 9223372036854775807) : sgn (loW z) = z := by
  unfold sgn; split <;> (unfold loW at *; omega)
def totM (s : St) : Val × Int := if s.z < -9223372036854775808 ∨ 9223372036854775807 < s.z then (z0, 43) else if s.n = 0 then (z0, 0) else (⟨2, s.z, []⟩, 0)
set_option maxHeartbeats 4000000 in
theorem total_c (hr : Room s) : FunM Try.prog 28 [.ptr 0 0 0] [stb s ar f1 f2 f3] (AQ s ar f1 f2 f3 (totM s)) := by
  obtain ⟨r1, r2, r3⟩ := hr
  have z1 : -B104 ≤ s.z ∧ s.z ≤ B104 := by unfold B104; omega
  have h1 := hiW_lt s.z
  have h2 := loW_lt s.z
  have h3 := wide_same s.z z1
  refine FunM.of Try.func28 rfl (Nat.le_of_ble_eq_true rfl) fun C => ?_
  refine WC.seq fun Fh1_ h1_ => ?_
  refine WC.region ?_
  refine RG.op _ _ rfl rfl (o_alloc (z_of Ty.inf23) rfl) ?_
  refine RG.op _ _ rfl rfl (o_assign (.v _) rfl) ?_
  refine RG.nil (h1_ _ ?_)
  refine WC.seq fun Fh2_ h2_ => ?_
  refine WC.seq fun Fh3_ h3_ => ?_
  refine WC.drawn1 (by kernel_rfl) ?_
  refine PG.op _ rfl rfl rfl (by rintro _ rfl; exact o_move (.ptr _ _ _) rfl) ?_
  refine PG.op _ rfl rfl rfl (by rintro _ rfl; exact o_nilP rfl) ?_
  refine PG.op _ rfl rfl rfl (by rintro _ rfl; exact o_fld_ptr rfl Try.underlying58 rfl (sz_of Ty.inf4) (by decide)) ?_
  refine PG.op _ rfl rfl rfl (by rintro _ rfl; exact o_load_ptr rfl Try.underlying4 rfl rfl rfl rfl) ?_
  refine PG.op _ rfl rfl rfl (by rintro _ rfl; exact o_move (.v _) rfl) ?_
  refine PG.opg1 _ _ _ _ _ rfl rfl rfl rfl rfl rfl (fun hb => (by rintro _ rfl; exact o_move (.ptr _ _ _) rfl)) ?_
  refine PG.opg1 _ _ _ _ _ rfl rfl rfl rfl rfl rfl (fun hb => (by rintro _ rfl; exact o_nilP (gdT hb))) ?_
  refine PG.opg1 _ _ _ _ _ rfl rfl rfl rfl rfl rfl (fun hb => (by rintro _ rfl; exact o_fld_ptr (gdT hb) Try.underlying58 rfl (sz_of Ty.inf56) (by decide))) ?_
  refine PG.opg1 _ _ _ _ _ rfl rfl rfl rfl rfl rfl (fun hb => (by rintro _ rfl; exact o_load_ptr_L (xs := [_, _]) (gdT hb) Try.underlying56 rfl (sz_of Ty.inf56) rfl rfl rfl rfl)) ?_
  refine PG.opg1 _ _ _ _ _ rfl rfl rfl rfl rfl rfl (fun hb => (by rintro _ rfl; exact o_move (.ptr _ _ _) rfl)) ?_
  refine PG.opg1 _ _ _ _ _ rfl rfl rfl rfl rfl rfl (fun hb => (by rintro _ rfl; exact o_nilP (gdT hb))) ?_
  refine PG.opg1 _ _ _ _ _ rfl rfl rfl rfl rfl rfl (fun hb => (by rintro _ rfl; exact o_fld_ptr (gdT hb) Try.underlying58 rfl (sz_of Ty.inf56) (by decide))) ?_
  refine PG.opg1 _ _ _ _ _ rfl rfl rfl rfl rfl rfl (fun hb => (by rintro _ rfl; exact o_ixn_arr 1 (gdT hb) rfl Try.underlying56 (sz_of Ty.inf54) (by first | omega | exact ubyte _ | (have hb' := hb; simp only [CN] at hb'; omega) | (simp only [LS] <;> omega) | (have hb' := hb; simp only [CN] at hb'; simp only [LS]; omega)) (by first | omega | exact ubyte _ | (have hb' := hb; simp only [CN] at hb'; omega) | (simp only [LS] <;> omega) | (have hb' := hb; simp only [CN] at hb'; simp only [LS]; omega)))) ?_
  refine PG.opg1 _ _ _ _ _ rfl rfl rfl rfl rfl rfl (fun hb => (by rintro _ rfl; exact o_load_ptr (gdT hb) Try.underlying54 rfl rfl rfl rfl)) ?_
  refine PG.opg1 _ _ _ _ _ rfl rfl rfl rfl rfl rfl (fun hb => (by rintro _ rfl; exact o_UtoI64 (gdT hb) (by first | omega | exact ubyte _ | (have hb' := hb; simp only [CN] at hb'; omega) | (simp only [LS] <;> omega) | (have hb' := hb; simp only [CN] at hb'; simp only [LS]; omega)) Try.underlying54 Try.underlying2)) ?_
  refine PG.opg1 _ _ _ _ _ rfl rfl rfl rfl rfl rfl (fun hb => (by rintro _ rfl; exact o_call Ty.cal43 (widen_c _ (sgn_in _ (loW_lt _))) ⟨.inl (gdT hb), trivial⟩ (by exact pua rfl))) ?_
  refine PG.opg1 _ _ _ _ _ rfl rfl rfl rfl rfl rfl (fun hb => (by rintro _ rfl; exact o_neW (gdT hb) (gdT hb))) ?_
  refine PG.op _ rfl rfl rfl (by rintro _ rfl; exact o_or _ _ rfl rfl rfl) ?_
  refine PG.nil ⟨by kernel_rfl, rfl, (h3_ _ ?_)⟩
  refine WC.cond _ rfl (fun c1 => ?_) (fun c1 => ?_)
  ·
    have p1 := c1
    try simp only [CN] at p1
    have hz : ¬ (-9223372036854775808 ≤ s.z ∧ s.z ≤ 9223372036854775807) := by rw [← h3]; have a := c1; simp only [Bool.not_and, Bool.or_eq_true, Bool.false_eq_true, false_or, Bool.not_eq_true', decide_eq_false_iff_not] at a; rintro ⟨x, y⟩; rcases a with a | a; exact a x; exact a y
    refine WC.seq fun Fh4_ h4_ => ?_
    refine WC.region ?_
    refine RG.op _ _ rfl rfl (o_build (cs := [B8 0, I64 0, S []]) Try.underlying23 Ty.inf23 (Ty.pl23 Try.underlying23) rfl) ?_
    refine RG.op _ _ rfl rfl (o_store (d := (.agg [_, _, _])) rfl rfl rfl rfl (sz_of Ty.inf23) (Nat.le_of_ble_eq_true rfl) rfl) ?_
    refine RG.op _ _ rfl rfl (o_assign (.v _) rfl) ?_
    refine RG.nil (h4_ _ ?_)
    refine WC.ret ?_
    first | refine endM.mk 1 [_] rfl rfl (by repeat (first | exact trivial | refine And.intro (one_ok (.own _ _ _ _ _ (Nat.le_refl _))) ?_ | refine And.intro (okp (by repeat (first | exact pu_bytes _ | exact pu_nil | exact pu_vs rfl | exact pu_map (fun _ => .v _) _ | exact pu_vals _ | refine pu_app ?_ ?_ | refine pu_cons (by exact pu_of rfl) ?_))) ?_)) ?_ | (simp only [thenQ, blkQ, noGo]; refine endM.mk 1 [_] rfl rfl (by repeat (first | exact trivial | refine And.intro (one_ok (.own _ _ _ _ _ (Nat.le_refl _))) ?_ | refine And.intro (okp (by repeat (first | exact pu_bytes _ | exact pu_nil | exact pu_vs rfl | exact pu_map (fun _ => .v _) _ | exact pu_vals _ | refine pu_app ?_ ?_ | refine pu_cons (by exact pu_of rfl) ?_))) ?_)) ?_)
    exact EndsM.r2 rfl (.agg rfl Try.underlying23 rfl (sz_of Ty.inf23) rfl rfl rfl) (.tmp _ (.v _) rfl) (by first | exact .own _ _ _ _ _ (Nat.le_refl _) | exact .v _ | exact .ptr _ _ _ (Nat.le_refl _) | exact Pure'.ok (by exact pu_of rfl) _ | exact .tup _ (by repeat (first | exact ok_nil | refine ok_cons (by first | exact .own _ _ _ _ _ (Nat.le_refl _) | exact .ptr _ _ _ (Nat.le_refl _) | exact .v _ | exact Pure'.ok (by exact pu_of rfl) _) ?_))) (⟨by rw [show totM s = (z0, 43) by unfold totM; rw [if_pos (by omega)]]; rfl, rfl⟩)
  ·
    have p1 := c1
    try simp only [CN] at p1
    have hz : -9223372036854775808 ≤ s.z ∧ s.z ≤ 9223372036854775807 := by rw [← h3]; simpa using c1
    refine WC.skip (h2_ _ ?_)
    refine WC.seq fun Fh5_ h5_ => ?_
    refine WC.seq fun Fh6_ h6_ => ?_
    refine WC.region ?_
    refine RG.op _ _ rfl rfl (o_move (.ptr _ _ _) rfl) ?_
    refine RG.op _ _ rfl rfl (o_nilP rfl) ?_
    refine RG.op _ _ rfl rfl (o_fld_ptr rfl Try.underlying58 rfl (sz_of Ty.inf54) (by decide)) ?_
    refine RG.op _ _ rfl rfl (o_load_ptr rfl Try.underlying54 rfl rfl rfl rfl) ?_
    refine RG.op _ _ rfl rfl (o_eqI rfl rfl) ?_
    refine RG.nil (h6_ _ ?_)
    refine WC.cond _ rfl (fun c3 => ?_) (fun c3 => ?_)
    ·
      have p3 := c3
      try simp only [CN] at p3
      refine WC.seq fun Fh7_ h7_ => ?_
      refine WC.region ?_
      refine RG.op _ _ rfl rfl (o_build (cs := [B8 0, I64 0, S []]) Try.underlying23 Ty.inf23 (Ty.pl23 Try.underlying23) rfl) ?_
      refine RG.op _ _ rfl rfl (o_store (d := (.agg [_, _, _])) rfl rfl rfl rfl (sz_of Ty.inf23) (Nat.le_of_ble_eq_true rfl) rfl) ?_
      refine RG.op _ _ rfl rfl (o_assign (.v _) rfl) ?_
      refine RG.nil (h7_ _ ?_)
      refine WC.ret ?_
      first | refine endM.mk 1 [_] rfl rfl (by repeat (first | exact trivial | refine And.intro (one_ok (.own _ _ _ _ _ (Nat.le_refl _))) ?_ | refine And.intro (okp (by repeat (first | exact pu_bytes _ | exact pu_nil | exact pu_vs rfl | exact pu_map (fun _ => .v _) _ | exact pu_vals _ | refine pu_app ?_ ?_ | refine pu_cons (by exact pu_of rfl) ?_))) ?_)) ?_ | (simp only [thenQ, blkQ, noGo]; refine endM.mk 1 [_] rfl rfl (by repeat (first | exact trivial | refine And.intro (one_ok (.own _ _ _ _ _ (Nat.le_refl _))) ?_ | refine And.intro (okp (by repeat (first | exact pu_bytes _ | exact pu_nil | exact pu_vs rfl | exact pu_map (fun _ => .v _) _ | exact pu_vals _ | refine pu_app ?_ ?_ | refine pu_cons (by exact pu_of rfl) ?_))) ?_)) ?_)
      exact EndsM.r2 rfl (.agg rfl Try.underlying23 rfl (sz_of Ty.inf23) rfl rfl rfl) (.tmp _ (.v _) rfl) (by first | exact .own _ _ _ _ _ (Nat.le_refl _) | exact .v _ | exact .ptr _ _ _ (Nat.le_refl _) | exact Pure'.ok (by exact pu_of rfl) _ | exact .tup _ (by repeat (first | exact ok_nil | refine ok_cons (by first | exact .own _ _ _ _ _ (Nat.le_refl _) | exact .ptr _ _ _ (Nat.le_refl _) | exact .v _ | exact Pure'.ok (by exact pu_of rfl) _) ?_))) (⟨by rw [show totM s = (z0, 0) by unfold totM; rw [if_neg (by omega), if_pos (by omega)]]; rfl, rfl⟩)
    ·
      have p3 := c3
      try simp only [CN] at p3
      refine WC.skip (h5_ _ ?_)
      refine WC.seq fun Fh8_ h8_ => ?_
      refine WC.region ?_
      refine RG.op _ _ rfl rfl (o_move (.ptr _ _ _) rfl) ?_
      refine RG.op _ _ rfl rfl (o_nilP rfl) ?_
      refine RG.op _ _ rfl rfl (o_fld_ptr rfl Try.underlying58 rfl (sz_of Ty.inf56) (by decide)) ?_
      refine RG.op _ _ rfl rfl (o_ixn_arr 1 rfl rfl Try.underlying56 (sz_of Ty.inf54) (by first | omega | exact ubyte _ | (simp only [LS] <;> omega)) (by first | omega | exact ubyte _ | (simp only [LS] <;> omega))) ?_
      refine RG.op _ _ rfl rfl (o_load_ptr rfl Try.underlying54 rfl rfl rfl rfl) ?_
      refine RG.op _ _ rfl rfl (o_UtoI64 rfl (by first | omega | exact ubyte _ | (simp only [LS] <;> omega)) Try.underlying54 Try.underlying2) ?_
      refine RG.op _ _ rfl rfl (o_build (cs := [(B8 2), (.v _), S []]) Try.underlying23 Ty.inf23 (Ty.pl23 Try.underlying23) rfl) ?_
      refine RG.op _ _ rfl rfl (o_store (d := (.agg [_, _, _])) rfl rfl rfl rfl (sz_of Ty.inf23) (Nat.le_of_ble_eq_true rfl) rfl) ?_
      refine RG.op _ _ rfl rfl (o_assign (.v _) rfl) ?_
      refine RG.nil (h8_ _ ?_)
      refine WC.ret ?_
      first | refine endM.mk 1 [_] rfl rfl (by repeat (first | exact trivial | refine And.intro (one_ok (.own _ _ _ _ _ (Nat.le_refl _))) ?_ | refine And.intro (okp (by repeat (first | exact pu_bytes _ | exact pu_nil | exact pu_vs rfl | exact pu_map (fun _ => .v _) _ | exact pu_vals _ | refine pu_app ?_ ?_ | refine pu_cons (by exact pu_of rfl) ?_))) ?_)) ?_ | (simp only [thenQ, blkQ, noGo]; refine endM.mk 1 [_] rfl rfl (by repeat (first | exact trivial | refine And.intro (one_ok (.own _ _ _ _ _ (Nat.le_refl _))) ?_ | refine And.intro (okp (by repeat (first | exact pu_bytes _ | exact pu_nil | exact pu_vs rfl | exact pu_map (fun _ => .v _) _ | exact pu_vals _ | refine pu_app ?_ ?_ | refine pu_cons (by exact pu_of rfl) ?_))) ?_)) ?_)
      exact EndsM.r2 rfl (.agg rfl Try.underlying23 rfl (sz_of Ty.inf23) rfl rfl rfl) (.tmp _ (.v _) rfl) (by first | exact .own _ _ _ _ _ (Nat.le_refl _) | exact .v _ | exact .ptr _ _ _ (Nat.le_refl _) | exact Pure'.ok (by exact pu_of rfl) _ | exact .tup _ (by repeat (first | exact ok_nil | refine ok_cons (by first | exact .own _ _ _ _ _ (Nat.le_refl _) | exact .ptr _ _ _ (Nat.le_refl _) | exact .v _ | exact Pure'.ok (by exact pu_of rfl) _) ?_))) (⟨by rw [show totM s = (⟨2, sgn (loW s.z), []⟩, 0) by rw [wide_sgn _ hz]; unfold totM; rw [if_neg (by omega), if_neg (by omega)]]; rfl, rfl⟩)
def pkM (s : St) : Val × Int := if s.has = true then (s.best, 0) else (z0, 0)
set_option maxHeartbeats 4000000 in
theorem picked_c : FunM Try.prog 32 [.ptr 0 0 0] [stb s ar f1 f2 f3] (AQ s ar f1 f2 f3 (pkM s)) := by
  refine FunM.of Try.func32 rfl (Nat.le_of_ble_eq_true rfl) fun C => ?_
  refine WC.seq fun Fh1_ h1_ => ?_
  refine WC.region ?_
  refine RG.op _ _ rfl rfl (o_alloc (z_of Ty.inf23) rfl) ?_
  refine RG.op _ _ rfl rfl (o_assign (.v _) rfl) ?_
  refine RG.nil (h1_ _ ?_)
  refine WC.seq fun Fh2_ h2_ => ?_
  refine WC.seq fun Fh3_ h3_ => ?_
  refine WC.region ?_
  refine RG.op _ _ rfl rfl (o_move (.ptr _ _ _) rfl) ?_
  refine RG.op _ _ rfl rfl (o_nilP rfl) ?_
  refine RG.op _ _ rfl rfl (o_fld_ptr rfl Try.underlying58 rfl (sz_of Ty.inf4) (by decide)) ?_
  refine RG.op _ _ rfl rfl (o_load_ptr rfl Try.underlying4 rfl rfl rfl rfl) ?_
  refine RG.op _ _ rfl rfl (o_not rfl) ?_
  refine RG.nil (h3_ _ ?_)
  refine WC.cond _ rfl (fun c1 => ?_) (fun c1 => ?_)
  ·
    have p1 := c1
    try simp only [CN] at p1
    refine WC.seq fun Fh4_ h4_ => ?_
    refine WC.region ?_
    refine RG.op _ _ rfl rfl (o_build (cs := [B8 0, I64 0, S []]) Try.underlying23 Ty.inf23 (Ty.pl23 Try.underlying23) rfl) ?_
    refine RG.op _ _ rfl rfl (o_store (d := (.agg [_, _, _])) rfl rfl rfl rfl (sz_of Ty.inf23) (Nat.le_of_ble_eq_true rfl) rfl) ?_
    refine RG.op _ _ rfl rfl (o_assign (.v _) rfl) ?_
    refine RG.nil (h4_ _ ?_)
    refine WC.ret ?_
    first | refine endM.mk 1 [_] rfl rfl (by repeat (first | exact trivial | refine And.intro (one_ok (.own _ _ _ _ _ (Nat.le_refl _))) ?_ | refine And.intro (okp (by repeat (first | exact pu_bytes _ | exact pu_nil | exact pu_vs rfl | exact pu_map (fun _ => .v _) _ | exact pu_vals _ | refine pu_app ?_ ?_ | refine pu_cons (by exact pu_of rfl) ?_))) ?_)) ?_ | (simp only [thenQ, blkQ, noGo]; refine endM.mk 1 [_] rfl rfl (by repeat (first | exact trivial | refine And.intro (one_ok (.own _ _ _ _ _ (Nat.le_refl _))) ?_ | refine And.intro (okp (by repeat (first | exact pu_bytes _ | exact pu_nil | exact pu_vs rfl | exact pu_map (fun _ => .v _) _ | exact pu_vals _ | refine pu_app ?_ ?_ | refine pu_cons (by exact pu_of rfl) ?_))) ?_)) ?_)
    exact EndsM.r2 rfl (.agg rfl Try.underlying23 rfl (sz_of Ty.inf23) rfl rfl rfl) (.tmp _ (.v _) rfl) (by first | exact .own _ _ _ _ _ (Nat.le_refl _) | exact .v _ | exact .ptr _ _ _ (Nat.le_refl _) | exact Pure'.ok (by exact pu_of rfl) _ | exact .tup _ (by repeat (first | exact ok_nil | refine ok_cons (by first | exact .own _ _ _ _ _ (Nat.le_refl _) | exact .ptr _ _ _ (Nat.le_refl _) | exact .v _ | exact Pure'.ok (by exact pu_of rfl) _) ?_))) (⟨by rw [show pkM s = (z0, 0) by unfold pkM; rw [if_neg (by simpa using c1)]]; rfl, rfl⟩)
  ·
    have p1 := c1
    try simp only [CN] at p1
    refine WC.skip (h2_ _ ?_)
    refine WC.seq fun Fh5_ h5_ => ?_
    refine WC.region ?_
    refine RG.op _ _ rfl rfl (o_move (.ptr _ _ _) rfl) ?_
    refine RG.op _ _ rfl rfl (o_nilP rfl) ?_
    refine RG.op _ _ rfl rfl (o_fld_ptr rfl Try.underlying58 rfl (sz_of Ty.inf23) (by decide)) ?_
    refine RG.op _ _ rfl rfl (o_load_ptr_L (xs := [_, _, _]) rfl Try.underlying23 rfl (sz_of Ty.inf23) rfl rfl rfl rfl) ?_
    refine RG.op _ _ rfl rfl (o_store (d := (.agg [_, _, _])) rfl rfl rfl rfl (sz_of Ty.inf23) (Nat.le_of_ble_eq_true rfl) rfl) ?_
    refine RG.op _ _ rfl rfl (o_assign (.v _) rfl) ?_
    refine RG.nil (h5_ _ ?_)
    refine WC.ret ?_
    first | refine endM.mk 1 [_] rfl rfl (by repeat (first | exact trivial | refine And.intro (one_ok (.own _ _ _ _ _ (Nat.le_refl _))) ?_ | refine And.intro (okp (by repeat (first | exact pu_bytes _ | exact pu_nil | exact pu_vs rfl | exact pu_map (fun _ => .v _) _ | exact pu_vals _ | refine pu_app ?_ ?_ | refine pu_cons (by exact pu_of rfl) ?_))) ?_)) ?_ | (simp only [thenQ, blkQ, noGo]; refine endM.mk 1 [_] rfl rfl (by repeat (first | exact trivial | refine And.intro (one_ok (.own _ _ _ _ _ (Nat.le_refl _))) ?_ | refine And.intro (okp (by repeat (first | exact pu_bytes _ | exact pu_nil | exact pu_vs rfl | exact pu_map (fun _ => .v _) _ | exact pu_vals _ | refine pu_app ?_ ?_ | refine pu_cons (by exact pu_of rfl) ?_))) ?_)) ?_)
    exact EndsM.r2 rfl (.agg rfl Try.underlying23 rfl (sz_of Ty.inf23) rfl rfl rfl) (.tmp _ (.v _) rfl) (by first | exact .own _ _ _ _ _ (Nat.le_refl _) | exact .v _ | exact .ptr _ _ _ (Nat.le_refl _) | exact Pure'.ok (by exact pu_of rfl) _ | exact .tup _ (by repeat (first | exact ok_nil | refine ok_cons (by first | exact .own _ _ _ _ _ (Nat.le_refl _) | exact .ptr _ _ _ (Nat.le_refl _) | exact .v _ | exact Pure'.ok (by exact pu_of rfl) _) ?_))) (⟨by rw [show pkM s = (s.best, 0) by unfold pkM; rw [if_pos (by simpa using c1)]]; rfl, rfl⟩)
end
end Go.Proofs.Ytpacdeiaimfiaaa
