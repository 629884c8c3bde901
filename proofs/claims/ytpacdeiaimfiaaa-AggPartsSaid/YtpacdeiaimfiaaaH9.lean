/-
  Layer agg: AggNil. No condition.
-/
import Derived.Test.YtpacdeiaimfiaaaH8
import Derived.Test.YtpacdeiaimfiaaaDlU
set_option linter.unusedSimpArgs false
set_option linter.unusedVariables false
namespace Go.Proofs.Ytpacdeiaimfiaaa
open Go.RowKit Go.DL
set_option maxRecDepth 8000
section
variable (s o : St) (ar : Int) (f1 f2 f3 : Nat) (ar' : Int) (g1 g2 g3 : Nat)
set_option maxHeartbeats 4000000 in
theorem nilAddP_c : FunM Try.prog 10 [.v (.pointer none), .ptr 0 0 0] [stb s ar f1 f2 f3] (fun o H' => o = .ret (I64 8) ∧ H' = [stb s ar f1 f2 f3]) := by
  refine FunM.of Try.func10 rfl (Nat.le_of_ble_eq_true rfl) fun C => ?_
  refine WC.seq fun Fh1_ h1_ => ?_
  refine WC.region ?_
  refine RG.op _ _ rfl rfl (o_assign (.v _) rfl) ?_
  refine RG.nil (h1_ _ ?_)
  refine WC.seq fun Fh2_ h2_ => ?_
  refine WC.seq fun Fh3_ h3_ => ?_
  refine WC.region ?_
  refine RG.op _ _ rfl rfl (o_move (.v _) rfl) ?_
  refine RG.op _ _ rfl rfl (o_eqNN rfl rfl Try.underlying24) ?_
  refine RG.op _ _ rfl rfl (o_move (.v _) rfl) ?_
  refine RG.opg1 _ _ _ _ _ rfl rfl rfl rfl rfl (fun hb => o_move (.ptr _ _ _) rfl) ?_
  refine RG.opg1 _ _ _ _ _ rfl rfl rfl rfl rfl (fun hb => OpD.off (.v (.bool false)) hb) ?_
  refine RG.op _ _ rfl rfl (o_or true false rfl rfl rfl) ?_
  refine RG.nil (h3_ _ ?_)
  refine WC.cond _ rfl (fun c1 => ?_) (fun c1 => ?_)
  ·
    have p1 := c1
    try simp only [CN] at p1
    refine WC.seq fun Fh4_ h4_ => ?_
    refine WC.region ?_
    refine RG.op _ _ rfl rfl (o_assign (.v _) rfl) ?_
    refine RG.nil (h4_ _ ?_)
    refine WC.ret ?_
    first | refine endM.mk 1 [_] rfl rfl (by repeat (first | exact trivial | refine And.intro (one_ok (.own _ _ _ _ _ (Nat.le_refl _))) ?_ | refine And.intro (okp (by repeat (first | exact pu_bytes _ | exact pu_nil | exact pu_vs rfl | exact pu_map (fun _ => .v _) _ | exact pu_vals _ | refine pu_app ?_ ?_ | refine pu_cons (by exact pu_of rfl) ?_))) ?_)) ?_ | (simp only [thenQ, blkQ, noGo]; refine endM.mk 1 [_] rfl rfl (by repeat (first | exact trivial | refine And.intro (one_ok (.own _ _ _ _ _ (Nat.le_refl _))) ?_ | refine And.intro (okp (by repeat (first | exact pu_bytes _ | exact pu_nil | exact pu_vs rfl | exact pu_map (fun _ => .v _) _ | exact pu_vals _ | refine pu_app ?_ ?_ | refine pu_cons (by exact pu_of rfl) ?_))) ?_)) ?_)
    exact EndsM.r1 rfl (.tmp _ (.v _) rfl) (by first | exact .own _ _ _ _ _ (Nat.le_refl _) | exact .v _ | exact .ptr _ _ _ (Nat.le_refl _) | exact Pure'.ok (by exact pu_of rfl) _ | exact .tup _ (by repeat (first | exact ok_nil | refine ok_cons (by first | exact .own _ _ _ _ _ (Nat.le_refl _) | exact .ptr _ _ _ (Nat.le_refl _) | exact .v _ | exact Pure'.ok (by exact pu_of rfl) _) ?_))) (⟨rfl, rfl⟩)
  ·
    have p1 := c1
    try simp only [CN] at p1
    cases c1
end
theorem add_zero (op : UInt8) : addM op (st0 op) (st0 op) = st0 op := by
  unfold addM; repeat' split
  all_goals first | rfl | (rename_i h; exact absurd h Bool.false_ne_true)
theorem add00 (op op' : UInt8) (hc : aggB op = true) : FunM Try.prog 10 [.ptr 0 0 0, .adr (stc (st0 op') (arN op') (fN1 op') (fN2 op') (fN3 op'))] [sb op (st0 op)] (fun p H' => p = .ret (I64 (if op = op' then 0 else 1)) ∧ H' = [sb op (st0 op)]) := by
  by_cases h : op = op'
  · subst h
    rw [if_pos rfl]
    have := add_s op op (st0 op) (st0 op) hc (st0_room op) (st0_room op) (by show 0 + 0 ≤ 1099511627776; omega) rfl
    rwa [add_zero] at this
  · rw [if_neg h]
    exact addBad_c (st0 op) (st0 op') (arN op) (fN1 op) (fN2 op) (fN3 op) (arN op') (fN1 op') (fN2 op') (fN3 op') h
section
variable (op other : UInt8) (v : Val)
set_option maxRecDepth 20000 in
set_option maxHeartbeats 4000000 in
theorem nilA_c (h1 : aggB op = true) (h2 : aggB other = true) : Fun Try.prog 3 [B8 op, B8 other, VD v] (· = Bo true) := by
  refine Fun.of Try.func3 rfl (Nat.le_of_ble_eq_true rfl) fun C => ?_
  refine WC.seq fun Fh1_ h1_ => ?_
  refine WC.region ?_
  refine RG.op _ _ rfl rfl (o_box (d := .agg [_, _, _]) rfl rfl) ?_
  refine RG.op _ _ rfl rfl (o_assign (.v _) rfl) ?_
  refine RG.nil (h1_ _ ?_)
  refine WC.seq fun Fh2_ h2_ => ?_
  refine WC.region ?_
  refine RG.op _ _ rfl rfl (o_assign (.v _) rfl) ?_
  refine RG.nil (h2_ _ ?_)
  refine WC.seq fun Fh3_ h3_ => ?_
  refine WC.region ?_
  refine RG.op _ _ rfl rfl (o_move (.v _) rfl) ?_
  refine RG.op _ _ rfl rfl (o_load_ptr_L (xs := [_, _, _]) rfl Try.underlying23 rfl (sz_of Ty.inf23) rfl rfl rfl rfl) ?_
  refine RG.op _ _ rfl rfl (o_load_ptr_L (xs := [_, _, _]) rfl Try.underlying23 rfl (sz_of Ty.inf23) rfl rfl rfl rfl) ?_
  refine RG.op _ _ rfl rfl (o_call Ty.cal7 (feedNil_c _ _) ⟨.inl rfl, .inl rfl, .inl rfl, trivial⟩ (by exact pua rfl)) ?_
  refine RG.nil (h3_ _ ?_)
  refine WC.seq fun Fh4_ h4_ => ?_
  refine WC.region ?_
  refine RG.op _ _ rfl rfl (o_move (.v _) rfl) ?_
  refine RG.op _ _ rfl rfl (o_call Ty.cal8 (answerNil_c) ⟨.inl rfl, trivial⟩ (by exact pua rfl)) ?_
  refine RG.op _ _ rfl rfl (o_move (.tup _) rfl) ?_
  refine RG.op _ _ rfl rfl (o_extract rfl rfl) ?_
  refine RG.op _ _ rfl rfl (o_extract rfl rfl) ?_
  refine RG.op _ _ rfl rfl (o_alloc (z_of Ty.inf23) rfl) ?_
  refine RG.op _ _ rfl rfl (o_store (d := (.agg [_, _, _])) rfl rfl rfl rfl (sz_of Ty.inf23) (Nat.le_of_ble_eq_true rfl) rfl) ?_
  refine RG.op _ _ rfl rfl (o_assign (.v _) rfl) ?_
  refine RG.nil (h4_ _ ?_)
  refine WC.seq fun Fh5_ h5_ => ?_
  refine WC.region ?_
  refine RG.op _ _ rfl rfl (o_move (.v _) rfl) ?_
  refine RG.op _ _ rfl rfl (OpX.d (x_call Ty.cal9 (new_at op h1 3 rfl) ⟨.inl rfl, trivial⟩) (VLe.le (by repeat (first | exact trivial | refine And.intro (Nat.le_refl _) ?_ | refine And.intro trivial ?_ | refine And.intro (by show _ ≤ _; (first | omega | (simp only [LS] <;> omega))) ?_)))) ?_
  refine RG.op _ _ rfl rfl (o_move (.tup _) rfl) ?_
  refine RG.op _ _ rfl rfl (o_extract rfl rfl) ?_
  refine RG.op _ _ rfl rfl (o_extract rfl rfl) ?_
  refine RG.op _ _ rfl rfl (o_assign (.ptr _ _ _) rfl) ?_
  refine RG.op _ _ rfl rfl (o_assign (.v _) rfl) ?_
  refine RG.nil (h5_ _ ?_)
  refine WC.seq fun Fh6_ h6_ => ?_
  refine WC.region ?_
  refine RG.op _ _ rfl rfl (o_move (.v _) rfl) ?_
  refine RG.op _ _ rfl rfl (OpX.d (x_call Ty.cal9 (new_at other h2 5 rfl) ⟨.inl rfl, trivial⟩) (VLe.le (by repeat (first | exact trivial | refine And.intro (Nat.le_refl _) ?_ | refine And.intro trivial ?_ | refine And.intro (by show _ ≤ _; (first | omega | (simp only [LS] <;> omega))) ?_)))) ?_
  refine RG.op _ _ rfl rfl (o_move (.tup _) rfl) ?_
  refine RG.op _ _ rfl rfl (o_extract rfl rfl) ?_
  refine RG.op _ _ rfl rfl (o_extract rfl rfl) ?_
  refine RG.op _ _ rfl rfl (o_assign (.ptr _ _ _) rfl) ?_
  refine RG.op _ _ rfl rfl (o_assign (.v _) rfl) ?_
  refine RG.nil (h6_ _ ?_)
  refine WC.seq fun Fh7_ h7_ => ?_
  refine WC.seq fun Fh8_ h8_ => ?_
  refine WC.frz 5 _ [(12, .adr (stc (st0 other) (arN other) (fN1 other) (fN2 other) (fN3 other)))] rfl (by repeat (first | exact pu_bytes _ | exact pu_nil | exact pu_vs rfl | exact pu_map (fun _ => .v _) _ | exact pu_vals _ | refine pu_app ?_ ?_ | refine pu_cons (by exact pu_of rfl) ?_)) ⟨.ptr 0, trivial⟩ ?_
  refine WC.region ?_
  refine RG.op _ _ rfl rfl (o_move (.v _) rfl) ?_
  refine RG.op _ _ rfl rfl (o_move (.ptr _ _ _) rfl) ?_
  refine RG.op _ _ rfl rfl (OpX.d (x_call Ty.cal10 (FunM.frame (ds := [.v (.pointer none), .ptr 3 0 0]) [3] [_] [_] [] (nilAddP_c (st0 op) (arN op) (fN1 op) (fN2 op) (fN3 op)) (by decide) ⟨rfl, trivial⟩ ⟨.pure (by repeat (first | exact pu_bytes _ | exact pu_nil | exact pu_vs rfl | exact pu_map (fun _ => .v _) _ | exact pu_vals _ | refine pu_app ?_ ?_ | refine pu_cons (by exact pu_of rfl) ?_)), trivial⟩ ⟨.pure _ (by exact pu_of rfl), .ptr _ _ _ rfl, trivial⟩ rfl ⟨.pure (by repeat (first | exact pu_bytes _ | exact pu_nil | exact pu_vs rfl | exact pu_map (fun _ => .v _) _ | exact pu_vals _ | refine pu_app ?_ ?_ | refine pu_cons (by exact pu_of rfl) ?_)), trivial⟩ (.pure _ (by exact pu_of rfl)) rfl) ⟨.inl rfl, .inl rfl, trivial⟩) (VLe.le (by repeat (first | exact trivial | refine And.intro (Nat.le_refl _) ?_ | refine And.intro trivial ?_ | refine And.intro (by show _ ≤ _; (first | omega | (simp only [LS] <;> omega))) ?_)))) ?_
  refine RG.op _ _ rfl rfl (o_neI rfl rfl) ?_
  refine RG.op _ _ rfl rfl (o_move (.v _) rfl) ?_
  refine RG.opg1 _ _ _ _ _ rfl rfl rfl rfl rfl (fun hb => o_move (.ptr _ _ _) rfl) ?_
  refine RG.opg1 _ _ _ _ _ rfl rfl rfl rfl rfl (fun hb => OpX.d (x_call Ty.cal10 (FunM.frame (ds := [.ptr 3 0 0, .v (.pointer none)]) [3] [_] [_] [] (addNil_c (st0 op) (arN op) (fN1 op) (fN2 op) (fN3 op)) (by decide) ⟨rfl, trivial⟩ ⟨.pure (by repeat (first | exact pu_bytes _ | exact pu_nil | exact pu_vs rfl | exact pu_map (fun _ => .v _) _ | exact pu_vals _ | refine pu_app ?_ ?_ | refine pu_cons (by exact pu_of rfl) ?_)), trivial⟩ ⟨.ptr _ _ _ rfl, .pure _ (by exact pu_of rfl), trivial⟩ rfl ⟨.pure (by repeat (first | exact pu_bytes _ | exact pu_nil | exact pu_vs rfl | exact pu_map (fun _ => .v _) _ | exact pu_vals _ | refine pu_app ?_ ?_ | refine pu_cons (by exact pu_of rfl) ?_)), trivial⟩ (.pure _ (by exact pu_of rfl)) rfl) ⟨.inl (gdT hb), .inl rfl, trivial⟩) (VLe.le (by repeat (first | exact trivial | refine And.intro (Nat.le_refl _) ?_ | refine And.intro trivial ?_ | refine And.intro (by show _ ≤ _; (first | omega | (simp only [LS] <;> omega))) ?_)))) ?_
  refine RG.opg1 _ _ _ _ _ rfl rfl rfl rfl rfl (fun hb => o_neI (gdT hb) rfl) ?_
  refine RG.op _ _ rfl rfl (o_or _ _ rfl rfl rfl) ?_
  refine RG.op _ _ rfl rfl (o_move (.v _) rfl) ?_
  refine RG.opg1 _ _ _ _ _ rfl rfl rfl rfl rfl (fun hb => o_move (.v _) rfl) ?_
  refine RG.opg1 _ _ _ _ _ rfl rfl rfl rfl rfl (fun hb => o_call Ty.cal11 (cloneNil_c) ⟨.inl (gdT hb), trivial⟩ (by exact pua rfl)) ?_
  refine RG.opg1 _ _ _ _ _ rfl rfl rfl rfl rfl (fun hb => o_neNN (gdT hb) rfl Try.underlying24) ?_
  refine RG.op _ _ rfl rfl (o_or _ _ rfl rfl rfl) ?_
  refine RG.op _ _ rfl rfl (o_move (.v _) rfl) ?_
  refine RG.opg1 _ _ _ _ _ rfl rfl rfl rfl rfl (fun hb => o_load_ptr_L (xs := [_, _, _]) rfl Try.underlying23 rfl (sz_of Ty.inf23) rfl rfl rfl rfl) ?_
  refine RG.opg1 _ _ _ _ _ rfl rfl rfl rfl rfl (fun hb => o_build (cs := [B8 0, I64 0, S []]) Try.underlying23 Ty.inf23 (Ty.pl23 Try.underlying23) rfl) ?_
  refine RG.opg1 _ _ _ _ _ rfl rfl rfl rfl rfl (fun hb => o_neV Ty.fs23 (gdT hb) (gdT hb)) ?_
  refine RG.op _ _ rfl rfl (o_or _ _ rfl rfl rfl) ?_
  refine RG.op _ _ rfl rfl (o_move (.v _) rfl) ?_
  refine RG.opg1 _ _ _ _ _ rfl rfl rfl rfl rfl (fun hb => o_move (.v _) rfl) ?_
  refine RG.opg1 _ _ _ _ _ rfl rfl rfl rfl rfl (fun hb => o_neI (gdT hb) rfl) ?_
  refine RG.op _ _ rfl rfl (o_or _ _ rfl rfl rfl) ?_
  refine RG.nil (h8_ _ ?_)
  refine WC.cond _ rfl (fun c6 => ?_) (fun c6 => ?_)
  ·
    have p6 := c6
    try simp only [CN] at p6
    exact absurd c6 (by decide)
  ·
    have p6 := c6
    try simp only [CN] at p6
    refine WC.skip (h7_ _ ?_)
    refine WC.seq fun Fh9_ h9_ => ?_
    refine WC.region ?_
    refine RG.op _ _ rfl rfl (o_move (.v _) rfl) ?_
    refine RG.op _ _ rfl rfl (o_neI rfl rfl) ?_
    refine RG.op _ _ rfl rfl (o_move (.v _) rfl) ?_
    refine RG.opg1 _ _ _ _ _ rfl rfl rfl rfl rfl (fun hb => o_move (.v _) rfl) ?_
    refine RG.opg1 _ _ _ _ _ rfl rfl rfl rfl rfl (fun hb => o_neI (gdT hb) rfl) ?_
    refine RG.op _ _ rfl rfl (o_or _ _ rfl rfl rfl) ?_
    refine RG.op _ _ rfl rfl (o_move (.v _) rfl) ?_
    refine RG.opg1 _ _ _ _ _ rfl rfl rfl rfl rfl (fun hb => o_move (.ptr _ _ _) rfl) ?_
    refine RG.opg1 _ _ _ _ _ rfl rfl rfl rfl rfl (fun hb => o_move (.adr _) rfl) ?_
    refine RG.opg1 _ _ _ _ _ rfl rfl rfl rfl rfl (fun hb => OpX.d (x_call Ty.cal10 (FunM.frame (ds := [.ptr 3 0 0, .adr (stc (st0 other) (arN other) (fN1 other) (fN2 other) (fN3 other))]) [3] [_] [_] [] (add00 op other h1) (by decide) ⟨rfl, trivial⟩ ⟨.pure (by repeat (first | exact pu_bytes _ | exact pu_nil | exact pu_vs rfl | exact pu_map (fun _ => .v _) _ | exact pu_vals _ | refine pu_app ?_ ?_ | refine pu_cons (by exact pu_of rfl) ?_)), trivial⟩ ⟨.ptr _ _ _ rfl, .pure _ (by exact pu_of rfl), trivial⟩ rfl ⟨.pure (by repeat (first | exact pu_bytes _ | exact pu_nil | exact pu_vs rfl | exact pu_map (fun _ => .v _) _ | exact pu_vals _ | refine pu_app ?_ ?_ | refine pu_cons (by exact pu_of rfl) ?_)), trivial⟩ (.pure _ (by exact pu_of rfl)) rfl) ⟨.inl (gdT hb), .inl (gdT hb), trivial⟩) (VLe.le (by repeat (first | exact trivial | refine And.intro (Nat.le_refl _) ?_ | refine And.intro trivial ?_ | refine And.intro (by show _ ≤ _; (first | omega | (simp only [LS] <;> omega))) ?_)))) ?_
    refine RG.opg1 _ _ _ _ _ rfl rfl rfl rfl rfl (fun hb => o_eqI (gdT hb) rfl) ?_
    refine RG.opg1 _ _ _ _ _ rfl rfl rfl rfl rfl (fun hb => o_move (.v _) rfl) ?_
    refine RG.opg1 _ _ _ _ _ rfl rfl rfl rfl rfl (fun hb => o_move (.v _) rfl) ?_
    refine RG.opg1 _ _ _ _ _ rfl rfl rfl rfl rfl (fun hb => o_eqB (gdT hb) (gdT hb)) ?_
    refine RG.opg1 _ _ _ _ _ rfl rfl rfl rfl rfl (fun hb => o_eqb (gdT hb) (gdT hb) Try.underlying4) ?_
    refine RG.op _ _ rfl rfl (o_or _ _ rfl rfl rfl) ?_
    refine RG.op _ _ rfl rfl (o_move (.v _) rfl) ?_
    refine RG.opg1 _ _ _ _ _ rfl rfl rfl rfl rfl (fun hb => o_call Ty.cal12 (wakes_c) trivial (by exact pua rfl)) ?_
    refine RG.op _ _ rfl rfl (o_and _ _ rfl rfl rfl) ?_
    refine RG.op _ _ rfl rfl (o_assign (.v _) rfl) ?_
    refine RG.nil (h9_ _ ?_)
    refine WC.ret ?_
    exact Ends.r1 rfl (.tmp _ (.v _) rfl) (.v _) (congrArg Bo (by by_cases h : op = other <;> simp [h]))
set_option maxRecDepth 20000 in
set_option maxHeartbeats 4000000 in
theorem nilB_c (h1 : aggB op = true) (h2 : aggB other = false) : Fun Try.prog 3 [B8 op, B8 other, VD v] (· = Bo true) := by
  refine Fun.of Try.func3 rfl (Nat.le_of_ble_eq_true rfl) fun C => ?_
  refine WC.seq fun Fh1_ h1_ => ?_
  refine WC.region ?_
  refine RG.op _ _ rfl rfl (o_box (d := .agg [_, _, _]) rfl rfl) ?_
  refine RG.op _ _ rfl rfl (o_assign (.v _) rfl) ?_
  refine RG.nil (h1_ _ ?_)
  refine WC.seq fun Fh2_ h2_ => ?_
  refine WC.region ?_
  refine RG.op _ _ rfl rfl (o_assign (.v _) rfl) ?_
  refine RG.nil (h2_ _ ?_)
  refine WC.seq fun Fh3_ h3_ => ?_
  refine WC.region ?_
  refine RG.op _ _ rfl rfl (o_move (.v _) rfl) ?_
  refine RG.op _ _ rfl rfl (o_load_ptr_L (xs := [_, _, _]) rfl Try.underlying23 rfl (sz_of Ty.inf23) rfl rfl rfl rfl) ?_
  refine RG.op _ _ rfl rfl (o_load_ptr_L (xs := [_, _, _]) rfl Try.underlying23 rfl (sz_of Ty.inf23) rfl rfl rfl rfl) ?_
  refine RG.op _ _ rfl rfl (o_call Ty.cal7 (feedNil_c _ _) ⟨.inl rfl, .inl rfl, .inl rfl, trivial⟩ (by exact pua rfl)) ?_
  refine RG.nil (h3_ _ ?_)
  refine WC.seq fun Fh4_ h4_ => ?_
  refine WC.region ?_
  refine RG.op _ _ rfl rfl (o_move (.v _) rfl) ?_
  refine RG.op _ _ rfl rfl (o_call Ty.cal8 (answerNil_c) ⟨.inl rfl, trivial⟩ (by exact pua rfl)) ?_
  refine RG.op _ _ rfl rfl (o_move (.tup _) rfl) ?_
  refine RG.op _ _ rfl rfl (o_extract rfl rfl) ?_
  refine RG.op _ _ rfl rfl (o_extract rfl rfl) ?_
  refine RG.op _ _ rfl rfl (o_alloc (z_of Ty.inf23) rfl) ?_
  refine RG.op _ _ rfl rfl (o_store (d := (.agg [_, _, _])) rfl rfl rfl rfl (sz_of Ty.inf23) (Nat.le_of_ble_eq_true rfl) rfl) ?_
  refine RG.op _ _ rfl rfl (o_assign (.v _) rfl) ?_
  refine RG.nil (h4_ _ ?_)
  refine WC.seq fun Fh5_ h5_ => ?_
  refine WC.region ?_
  refine RG.op _ _ rfl rfl (o_move (.v _) rfl) ?_
  refine RG.op _ _ rfl rfl (OpX.d (x_call Ty.cal9 (new_at op h1 3 rfl) ⟨.inl rfl, trivial⟩) (VLe.le (by repeat (first | exact trivial | refine And.intro (Nat.le_refl _) ?_ | refine And.intro trivial ?_ | refine And.intro (by show _ ≤ _; (first | omega | (simp only [LS] <;> omega))) ?_)))) ?_
  refine RG.op _ _ rfl rfl (o_move (.tup _) rfl) ?_
  refine RG.op _ _ rfl rfl (o_extract rfl rfl) ?_
  refine RG.op _ _ rfl rfl (o_extract rfl rfl) ?_
  refine RG.op _ _ rfl rfl (o_assign (.ptr _ _ _) rfl) ?_
  refine RG.op _ _ rfl rfl (o_assign (.v _) rfl) ?_
  refine RG.nil (h5_ _ ?_)
  refine WC.seq fun Fh6_ h6_ => ?_
  refine WC.region ?_
  refine RG.op _ _ rfl rfl (o_move (.v _) rfl) ?_
  refine RG.op _ _ rfl rfl (o_call Ty.cal9 (newBad_c other h2) ⟨.inl rfl, trivial⟩ (by exact pua rfl)) ?_
  refine RG.op _ _ rfl rfl (o_move (.tup _) rfl) ?_
  refine RG.op _ _ rfl rfl (o_extract rfl rfl) ?_
  refine RG.op _ _ rfl rfl (o_extract rfl rfl) ?_
  refine RG.op _ _ rfl rfl (o_assign (.v _) rfl) ?_
  refine RG.op _ _ rfl rfl (o_assign (.v _) rfl) ?_
  refine RG.nil (h6_ _ ?_)
  refine WC.seq fun Fh7_ h7_ => ?_
  refine WC.seq fun Fh8_ h8_ => ?_
  refine WC.region ?_
  refine RG.op _ _ rfl rfl (o_move (.v _) rfl) ?_
  refine RG.op _ _ rfl rfl (o_move (.ptr _ _ _) rfl) ?_
  refine RG.op _ _ rfl rfl (OpX.d (x_call Ty.cal10 (FunM.frame (ds := [.v (.pointer none), .ptr 3 0 0]) [3] [_] [_] [] (nilAddP_c (st0 op) (arN op) (fN1 op) (fN2 op) (fN3 op)) (by decide) ⟨rfl, trivial⟩ ⟨.pure (by repeat (first | exact pu_bytes _ | exact pu_nil | exact pu_vs rfl | exact pu_map (fun _ => .v _) _ | exact pu_vals _ | refine pu_app ?_ ?_ | refine pu_cons (by exact pu_of rfl) ?_)), trivial⟩ ⟨.pure _ (by exact pu_of rfl), .ptr _ _ _ rfl, trivial⟩ rfl ⟨.pure (by repeat (first | exact pu_bytes _ | exact pu_nil | exact pu_vs rfl | exact pu_map (fun _ => .v _) _ | exact pu_vals _ | refine pu_app ?_ ?_ | refine pu_cons (by exact pu_of rfl) ?_)), trivial⟩ (.pure _ (by exact pu_of rfl)) rfl) ⟨.inl rfl, .inl rfl, trivial⟩) (VLe.le (by repeat (first | exact trivial | refine And.intro (Nat.le_refl _) ?_ | refine And.intro trivial ?_ | refine And.intro (by show _ ≤ _; (first | omega | (simp only [LS] <;> omega))) ?_)))) ?_
  refine RG.op _ _ rfl rfl (o_neI rfl rfl) ?_
  refine RG.op _ _ rfl rfl (o_move (.v _) rfl) ?_
  refine RG.opg1 _ _ _ _ _ rfl rfl rfl rfl rfl (fun hb => o_move (.ptr _ _ _) rfl) ?_
  refine RG.opg1 _ _ _ _ _ rfl rfl rfl rfl rfl (fun hb => OpX.d (x_call Ty.cal10 (FunM.frame (ds := [.ptr 3 0 0, .v (.pointer none)]) [3] [_] [_] [] (addNil_c (st0 op) (arN op) (fN1 op) (fN2 op) (fN3 op)) (by decide) ⟨rfl, trivial⟩ ⟨.pure (by repeat (first | exact pu_bytes _ | exact pu_nil | exact pu_vs rfl | exact pu_map (fun _ => .v _) _ | exact pu_vals _ | refine pu_app ?_ ?_ | refine pu_cons (by exact pu_of rfl) ?_)), trivial⟩ ⟨.ptr _ _ _ rfl, .pure _ (by exact pu_of rfl), trivial⟩ rfl ⟨.pure (by repeat (first | exact pu_bytes _ | exact pu_nil | exact pu_vs rfl | exact pu_map (fun _ => .v _) _ | exact pu_vals _ | refine pu_app ?_ ?_ | refine pu_cons (by exact pu_of rfl) ?_)), trivial⟩ (.pure _ (by exact pu_of rfl)) rfl) ⟨.inl (gdT hb), .inl rfl, trivial⟩) (VLe.le (by repeat (first | exact trivial | refine And.intro (Nat.le_refl _) ?_ | refine And.intro trivial ?_ | refine And.intro (by show _ ≤ _; (first | omega | (simp only [LS] <;> omega))) ?_)))) ?_
  refine RG.opg1 _ _ _ _ _ rfl rfl rfl rfl rfl (fun hb => o_neI (gdT hb) rfl) ?_
  refine RG.op _ _ rfl rfl (o_or _ _ rfl rfl rfl) ?_
  refine RG.op _ _ rfl rfl (o_move (.v _) rfl) ?_
  refine RG.opg1 _ _ _ _ _ rfl rfl rfl rfl rfl (fun hb => o_move (.v _) rfl) ?_
  refine RG.opg1 _ _ _ _ _ rfl rfl rfl rfl rfl (fun hb => o_call Ty.cal11 (cloneNil_c) ⟨.inl (gdT hb), trivial⟩ (by exact pua rfl)) ?_
  refine RG.opg1 _ _ _ _ _ rfl rfl rfl rfl rfl (fun hb => o_neNN (gdT hb) rfl Try.underlying24) ?_
  refine RG.op _ _ rfl rfl (o_or _ _ rfl rfl rfl) ?_
  refine RG.op _ _ rfl rfl (o_move (.v _) rfl) ?_
  refine RG.opg1 _ _ _ _ _ rfl rfl rfl rfl rfl (fun hb => o_load_ptr_L (xs := [_, _, _]) rfl Try.underlying23 rfl (sz_of Ty.inf23) rfl rfl rfl rfl) ?_
  refine RG.opg1 _ _ _ _ _ rfl rfl rfl rfl rfl (fun hb => o_build (cs := [B8 0, I64 0, S []]) Try.underlying23 Ty.inf23 (Ty.pl23 Try.underlying23) rfl) ?_
  refine RG.opg1 _ _ _ _ _ rfl rfl rfl rfl rfl (fun hb => o_neV Ty.fs23 (gdT hb) (gdT hb)) ?_
  refine RG.op _ _ rfl rfl (o_or _ _ rfl rfl rfl) ?_
  refine RG.op _ _ rfl rfl (o_move (.v _) rfl) ?_
  refine RG.opg1 _ _ _ _ _ rfl rfl rfl rfl rfl (fun hb => o_move (.v _) rfl) ?_
  refine RG.opg1 _ _ _ _ _ rfl rfl rfl rfl rfl (fun hb => o_neI (gdT hb) rfl) ?_
  refine RG.op _ _ rfl rfl (o_or _ _ rfl rfl rfl) ?_
  refine RG.nil (h8_ _ ?_)
  refine WC.cond _ rfl (fun c6 => ?_) (fun c6 => ?_)
  ·
    have p6 := c6
    try simp only [CN] at p6
    exact absurd c6 (by decide)
  ·
    have p6 := c6
    try simp only [CN] at p6
    refine WC.skip (h7_ _ ?_)
    refine WC.seq fun Fh9_ h9_ => ?_
    refine WC.region ?_
    refine RG.op _ _ rfl rfl (o_move (.v _) rfl) ?_
    refine RG.op _ _ rfl rfl (o_neI rfl rfl) ?_
    refine RG.op _ _ rfl rfl (o_move (.v _) rfl) ?_
    refine RG.opg1 _ _ _ _ _ rfl rfl rfl rfl rfl (fun hb => o_move (.v _) rfl) ?_
    refine RG.opg1 _ _ _ _ _ rfl rfl rfl rfl rfl (fun hb => o_neI (gdT hb) rfl) ?_
    refine RG.op _ _ rfl rfl (o_or _ _ rfl rfl rfl) ?_
    refine RG.op _ _ rfl rfl (o_move (.v _) rfl) ?_
    refine RG.opg1 _ _ _ _ _ rfl rfl rfl rfl rfl (fun hb => OpD.off (.v .nilFunc) hb) ?_
    refine RG.opg1 _ _ _ _ _ rfl rfl rfl rfl rfl (fun hb => OpD.off (.v .nilFunc) hb) ?_
    refine RG.opg1 _ _ _ _ _ rfl rfl rfl rfl rfl (fun hb => OpD.off (.v (.int .i64 0)) hb) ?_
    refine RG.opg1 _ _ _ _ _ rfl rfl rfl rfl rfl (fun hb => OpD.off (.v (.bool false)) hb) ?_
    refine RG.opg1 _ _ _ _ _ rfl rfl rfl rfl rfl (fun hb => OpD.off (.v (.int .u8 0)) hb) ?_
    refine RG.opg1 _ _ _ _ _ rfl rfl rfl rfl rfl (fun hb => OpD.off (.v (.int .u8 0)) hb) ?_
    refine RG.opg1 _ _ _ _ _ rfl rfl rfl rfl rfl (fun hb => OpD.off (.v (.bool false)) hb) ?_
    refine RG.opg1 _ _ _ _ _ rfl rfl rfl rfl rfl (fun hb => OpD.off (.v (.bool false)) hb) ?_
    refine RG.op _ _ rfl rfl (o_or true false rfl rfl rfl) ?_
    refine RG.op _ _ rfl rfl (o_move (.v _) rfl) ?_
    refine RG.opg1 _ _ _ _ _ rfl rfl rfl rfl rfl (fun hb => o_call Ty.cal12 (wakes_c) trivial (by exact pua rfl)) ?_
    refine RG.op _ _ rfl rfl (o_and _ _ rfl rfl rfl) ?_
    refine RG.op _ _ rfl rfl (o_assign (.v _) rfl) ?_
    refine RG.nil (h9_ _ ?_)
    refine WC.ret ?_
    exact Ends.r1 rfl (.tmp _ (.v _) rfl) (.v _) (congrArg Bo (by decide))
set_option maxRecDepth 20000 in
set_option maxHeartbeats 4000000 in
theorem nilC_c (h1 : aggB op = false) (h2 : aggB other = true) : Fun Try.prog 3 [B8 op, B8 other, VD v] (· = Bo true) := by
  refine Fun.of Try.func3 rfl (Nat.le_of_ble_eq_true rfl) fun C => ?_
  refine WC.seq fun Fh1_ h1_ => ?_
  refine WC.region ?_
  refine RG.op _ _ rfl rfl (o_box (d := .agg [_, _, _]) rfl rfl) ?_
  refine RG.op _ _ rfl rfl (o_assign (.v _) rfl) ?_
  refine RG.nil (h1_ _ ?_)
  refine WC.seq fun Fh2_ h2_ => ?_
  refine WC.region ?_
  refine RG.op _ _ rfl rfl (o_assign (.v _) rfl) ?_
  refine RG.nil (h2_ _ ?_)
  refine WC.seq fun Fh3_ h3_ => ?_
  refine WC.region ?_
  refine RG.op _ _ rfl rfl (o_move (.v _) rfl) ?_
  refine RG.op _ _ rfl rfl (o_load_ptr_L (xs := [_, _, _]) rfl Try.underlying23 rfl (sz_of Ty.inf23) rfl rfl rfl rfl) ?_
  refine RG.op _ _ rfl rfl (o_load_ptr_L (xs := [_, _, _]) rfl Try.underlying23 rfl (sz_of Ty.inf23) rfl rfl rfl rfl) ?_
  refine RG.op _ _ rfl rfl (o_call Ty.cal7 (feedNil_c _ _) ⟨.inl rfl, .inl rfl, .inl rfl, trivial⟩ (by exact pua rfl)) ?_
  refine RG.nil (h3_ _ ?_)
  refine WC.seq fun Fh4_ h4_ => ?_
  refine WC.region ?_
  refine RG.op _ _ rfl rfl (o_move (.v _) rfl) ?_
  refine RG.op _ _ rfl rfl (o_call Ty.cal8 (answerNil_c) ⟨.inl rfl, trivial⟩ (by exact pua rfl)) ?_
  refine RG.op _ _ rfl rfl (o_move (.tup _) rfl) ?_
  refine RG.op _ _ rfl rfl (o_extract rfl rfl) ?_
  refine RG.op _ _ rfl rfl (o_extract rfl rfl) ?_
  refine RG.op _ _ rfl rfl (o_alloc (z_of Ty.inf23) rfl) ?_
  refine RG.op _ _ rfl rfl (o_store (d := (.agg [_, _, _])) rfl rfl rfl rfl (sz_of Ty.inf23) (Nat.le_of_ble_eq_true rfl) rfl) ?_
  refine RG.op _ _ rfl rfl (o_assign (.v _) rfl) ?_
  refine RG.nil (h4_ _ ?_)
  refine WC.seq fun Fh5_ h5_ => ?_
  refine WC.region ?_
  refine RG.op _ _ rfl rfl (o_move (.v _) rfl) ?_
  refine RG.op _ _ rfl rfl (o_call Ty.cal9 (newBad_c op h1) ⟨.inl rfl, trivial⟩ (by exact pua rfl)) ?_
  refine RG.op _ _ rfl rfl (o_move (.tup _) rfl) ?_
  refine RG.op _ _ rfl rfl (o_extract rfl rfl) ?_
  refine RG.op _ _ rfl rfl (o_extract rfl rfl) ?_
  refine RG.op _ _ rfl rfl (o_assign (.v _) rfl) ?_
  refine RG.op _ _ rfl rfl (o_assign (.v _) rfl) ?_
  refine RG.nil (h5_ _ ?_)
  refine WC.seq fun Fh6_ h6_ => ?_
  refine WC.region ?_
  refine RG.op _ _ rfl rfl (o_move (.v _) rfl) ?_
  refine RG.op _ _ rfl rfl (OpX.d (x_call Ty.cal9 (new_at other h2 3 rfl) ⟨.inl rfl, trivial⟩) (VLe.le (by repeat (first | exact trivial | refine And.intro (Nat.le_refl _) ?_ | refine And.intro trivial ?_ | refine And.intro (by show _ ≤ _; (first | omega | (simp only [LS] <;> omega))) ?_)))) ?_
  refine RG.op _ _ rfl rfl (o_move (.tup _) rfl) ?_
  refine RG.op _ _ rfl rfl (o_extract rfl rfl) ?_
  refine RG.op _ _ rfl rfl (o_extract rfl rfl) ?_
  refine RG.op _ _ rfl rfl (o_assign (.ptr _ _ _) rfl) ?_
  refine RG.op _ _ rfl rfl (o_assign (.v _) rfl) ?_
  refine RG.nil (h6_ _ ?_)
  refine WC.seq fun Fh7_ h7_ => ?_
  refine WC.seq fun Fh8_ h8_ => ?_
  refine WC.region ?_
  refine RG.op _ _ rfl rfl (o_move (.v _) rfl) ?_
  refine RG.op _ _ rfl rfl (o_move (.v _) rfl) ?_
  refine RG.op _ _ rfl rfl (o_call Ty.cal10 nilAdd_c ⟨.inl rfl, .inl rfl, trivial⟩ (by exact pua rfl)) ?_
  refine RG.op _ _ rfl rfl (o_neI rfl rfl) ?_
  refine RG.op _ _ rfl rfl (o_move (.v _) rfl) ?_
  refine RG.opg1 _ _ _ _ _ rfl rfl rfl rfl rfl (fun hb => o_move (.v _) rfl) ?_
  refine RG.opg1 _ _ _ _ _ rfl rfl rfl rfl rfl (fun hb => o_call Ty.cal10 nilAdd_c ⟨.inl (gdT hb), .inl rfl, trivial⟩ (by exact pua rfl)) ?_
  refine RG.opg1 _ _ _ _ _ rfl rfl rfl rfl rfl (fun hb => o_neI (gdT hb) rfl) ?_
  refine RG.op _ _ rfl rfl (o_or _ _ rfl rfl rfl) ?_
  refine RG.op _ _ rfl rfl (o_move (.v _) rfl) ?_
  refine RG.opg1 _ _ _ _ _ rfl rfl rfl rfl rfl (fun hb => o_move (.v _) rfl) ?_
  refine RG.opg1 _ _ _ _ _ rfl rfl rfl rfl rfl (fun hb => o_call Ty.cal11 (cloneNil_c) ⟨.inl (gdT hb), trivial⟩ (by exact pua rfl)) ?_
  refine RG.opg1 _ _ _ _ _ rfl rfl rfl rfl rfl (fun hb => o_neNN (gdT hb) rfl Try.underlying24) ?_
  refine RG.op _ _ rfl rfl (o_or _ _ rfl rfl rfl) ?_
  refine RG.op _ _ rfl rfl (o_move (.v _) rfl) ?_
  refine RG.opg1 _ _ _ _ _ rfl rfl rfl rfl rfl (fun hb => o_load_ptr_L (xs := [_, _, _]) rfl Try.underlying23 rfl (sz_of Ty.inf23) rfl rfl rfl rfl) ?_
  refine RG.opg1 _ _ _ _ _ rfl rfl rfl rfl rfl (fun hb => o_build (cs := [B8 0, I64 0, S []]) Try.underlying23 Ty.inf23 (Ty.pl23 Try.underlying23) rfl) ?_
  refine RG.opg1 _ _ _ _ _ rfl rfl rfl rfl rfl (fun hb => o_neV Ty.fs23 (gdT hb) (gdT hb)) ?_
  refine RG.op _ _ rfl rfl (o_or _ _ rfl rfl rfl) ?_
  refine RG.op _ _ rfl rfl (o_move (.v _) rfl) ?_
  refine RG.opg1 _ _ _ _ _ rfl rfl rfl rfl rfl (fun hb => o_move (.v _) rfl) ?_
  refine RG.opg1 _ _ _ _ _ rfl rfl rfl rfl rfl (fun hb => o_neI (gdT hb) rfl) ?_
  refine RG.op _ _ rfl rfl (o_or _ _ rfl rfl rfl) ?_
  refine RG.nil (h8_ _ ?_)
  refine WC.cond _ rfl (fun c6 => ?_) (fun c6 => ?_)
  ·
    have p6 := c6
    try simp only [CN] at p6
    exact absurd c6 (by decide)
  ·
    have p6 := c6
    try simp only [CN] at p6
    refine WC.skip (h7_ _ ?_)
    refine WC.seq fun Fh9_ h9_ => ?_
    refine WC.region ?_
    refine RG.op _ _ rfl rfl (o_move (.v _) rfl) ?_
    refine RG.op _ _ rfl rfl (o_neI rfl rfl) ?_
    refine RG.op _ _ rfl rfl (o_move (.v _) rfl) ?_
    refine RG.opg1 _ _ _ _ _ rfl rfl rfl rfl rfl (fun hb => OpD.off (.v (.int .i64 0)) hb) ?_
    refine RG.opg1 _ _ _ _ _ rfl rfl rfl rfl rfl (fun hb => OpD.off (.v (.bool false)) hb) ?_
    refine RG.op _ _ rfl rfl (o_or true false rfl rfl rfl) ?_
    refine RG.op _ _ rfl rfl (o_move (.v _) rfl) ?_
    refine RG.opg1 _ _ _ _ _ rfl rfl rfl rfl rfl (fun hb => OpD.off (.v .nilFunc) hb) ?_
    refine RG.opg1 _ _ _ _ _ rfl rfl rfl rfl rfl (fun hb => OpD.off (.v .nilFunc) hb) ?_
    refine RG.opg1 _ _ _ _ _ rfl rfl rfl rfl rfl (fun hb => OpD.off (.v (.int .i64 0)) hb) ?_
    refine RG.opg1 _ _ _ _ _ rfl rfl rfl rfl rfl (fun hb => OpD.off (.v (.bool false)) hb) ?_
    refine RG.opg1 _ _ _ _ _ rfl rfl rfl rfl rfl (fun hb => OpD.off (.v (.int .u8 0)) hb) ?_
    refine RG.opg1 _ _ _ _ _ rfl rfl rfl rfl rfl (fun hb => OpD.off (.v (.int .u8 0)) hb) ?_
    refine RG.opg1 _ _ _ _ _ rfl rfl rfl rfl rfl (fun hb => OpD.off (.v (.bool false)) hb) ?_
    refine RG.opg1 _ _ _ _ _ rfl rfl rfl rfl rfl (fun hb => OpD.off (.v (.bool false)) hb) ?_
    refine RG.op _ _ rfl rfl (o_or true false rfl rfl rfl) ?_
    refine RG.op _ _ rfl rfl (o_move (.v _) rfl) ?_
    refine RG.opg1 _ _ _ _ _ rfl rfl rfl rfl rfl (fun hb => o_call Ty.cal12 (wakes_c) trivial (by exact pua rfl)) ?_
    refine RG.op _ _ rfl rfl (o_and _ _ rfl rfl rfl) ?_
    refine RG.op _ _ rfl rfl (o_assign (.v _) rfl) ?_
    refine RG.nil (h9_ _ ?_)
    refine WC.ret ?_
    exact Ends.r1 rfl (.tmp _ (.v _) rfl) (.v _) (congrArg Bo (by decide))
set_option maxRecDepth 20000 in
set_option maxHeartbeats 4000000 in
theorem nilD_c (h1 : aggB op = false) (h2 : aggB other = false) : Fun Try.prog 3 [B8 op, B8 other, VD v] (· = Bo true) := by
  refine Fun.of Try.func3 rfl (Nat.le_of_ble_eq_true rfl) fun C => ?_
  refine WC.seq fun Fh1_ h1_ => ?_
  refine WC.region ?_
  refine RG.op _ _ rfl rfl (o_box (d := .agg [_, _, _]) rfl rfl) ?_
  refine RG.op _ _ rfl rfl (o_assign (.v _) rfl) ?_
  refine RG.nil (h1_ _ ?_)
  refine WC.seq fun Fh2_ h2_ => ?_
  refine WC.region ?_
  refine RG.op _ _ rfl rfl (o_assign (.v _) rfl) ?_
  refine RG.nil (h2_ _ ?_)
  refine WC.seq fun Fh3_ h3_ => ?_
  refine WC.region ?_
  refine RG.op _ _ rfl rfl (o_move (.v _) rfl) ?_
  refine RG.op _ _ rfl rfl (o_load_ptr_L (xs := [_, _, _]) rfl Try.underlying23 rfl (sz_of Ty.inf23) rfl rfl rfl rfl) ?_
  refine RG.op _ _ rfl rfl (o_load_ptr_L (xs := [_, _, _]) rfl Try.underlying23 rfl (sz_of Ty.inf23) rfl rfl rfl rfl) ?_
  refine RG.op _ _ rfl rfl (o_call Ty.cal7 (feedNil_c _ _) ⟨.inl rfl, .inl rfl, .inl rfl, trivial⟩ (by exact pua rfl)) ?_
  refine RG.nil (h3_ _ ?_)
  refine WC.seq fun Fh4_ h4_ => ?_
  refine WC.region ?_
  refine RG.op _ _ rfl rfl (o_move (.v _) rfl) ?_
  refine RG.op _ _ rfl rfl (o_call Ty.cal8 (answerNil_c) ⟨.inl rfl, trivial⟩ (by exact pua rfl)) ?_
  refine RG.op _ _ rfl rfl (o_move (.tup _) rfl) ?_
  refine RG.op _ _ rfl rfl (o_extract rfl rfl) ?_
  refine RG.op _ _ rfl rfl (o_extract rfl rfl) ?_
  refine RG.op _ _ rfl rfl (o_alloc (z_of Ty.inf23) rfl) ?_
  refine RG.op _ _ rfl rfl (o_store (d := (.agg [_, _, _])) rfl rfl rfl rfl (sz_of Ty.inf23) (Nat.le_of_ble_eq_true rfl) rfl) ?_
  refine RG.op _ _ rfl rfl (o_assign (.v _) rfl) ?_
  refine RG.nil (h4_ _ ?_)
  refine WC.seq fun Fh5_ h5_ => ?_
  refine WC.region ?_
  refine RG.op _ _ rfl rfl (o_move (.v _) rfl) ?_
  refine RG.op _ _ rfl rfl (o_call Ty.cal9 (newBad_c op h1) ⟨.inl rfl, trivial⟩ (by exact pua rfl)) ?_
  refine RG.op _ _ rfl rfl (o_move (.tup _) rfl) ?_
  refine RG.op _ _ rfl rfl (o_extract rfl rfl) ?_
  refine RG.op _ _ rfl rfl (o_extract rfl rfl) ?_
  refine RG.op _ _ rfl rfl (o_assign (.v _) rfl) ?_
  refine RG.op _ _ rfl rfl (o_assign (.v _) rfl) ?_
  refine RG.nil (h5_ _ ?_)
  refine WC.seq fun Fh6_ h6_ => ?_
  refine WC.region ?_
  refine RG.op _ _ rfl rfl (o_move (.v _) rfl) ?_
  refine RG.op _ _ rfl rfl (o_call Ty.cal9 (newBad_c other h2) ⟨.inl rfl, trivial⟩ (by exact pua rfl)) ?_
  refine RG.op _ _ rfl rfl (o_move (.tup _) rfl) ?_
  refine RG.op _ _ rfl rfl (o_extract rfl rfl) ?_
  refine RG.op _ _ rfl rfl (o_extract rfl rfl) ?_
  refine RG.op _ _ rfl rfl (o_assign (.v _) rfl) ?_
  refine RG.op _ _ rfl rfl (o_assign (.v _) rfl) ?_
  refine RG.nil (h6_ _ ?_)
  refine WC.seq fun Fh7_ h7_ => ?_
  refine WC.seq fun Fh8_ h8_ => ?_
  refine WC.region ?_
  refine RG.op _ _ rfl rfl (o_move (.v _) rfl) ?_
  refine RG.op _ _ rfl rfl (o_move (.v _) rfl) ?_
  refine RG.op _ _ rfl rfl (o_call Ty.cal10 nilAdd_c ⟨.inl rfl, .inl rfl, trivial⟩ (by exact pua rfl)) ?_
  refine RG.op _ _ rfl rfl (o_neI rfl rfl) ?_
  refine RG.op _ _ rfl rfl (o_move (.v _) rfl) ?_
  refine RG.opg1 _ _ _ _ _ rfl rfl rfl rfl rfl (fun hb => o_move (.v _) rfl) ?_
  refine RG.opg1 _ _ _ _ _ rfl rfl rfl rfl rfl (fun hb => o_call Ty.cal10 nilAdd_c ⟨.inl (gdT hb), .inl rfl, trivial⟩ (by exact pua rfl)) ?_
  refine RG.opg1 _ _ _ _ _ rfl rfl rfl rfl rfl (fun hb => o_neI (gdT hb) rfl) ?_
  refine RG.op _ _ rfl rfl (o_or _ _ rfl rfl rfl) ?_
  refine RG.op _ _ rfl rfl (o_move (.v _) rfl) ?_
  refine RG.opg1 _ _ _ _ _ rfl rfl rfl rfl rfl (fun hb => o_move (.v _) rfl) ?_
  refine RG.opg1 _ _ _ _ _ rfl rfl rfl rfl rfl (fun hb => o_call Ty.cal11 (cloneNil_c) ⟨.inl (gdT hb), trivial⟩ (by exact pua rfl)) ?_
  refine RG.opg1 _ _ _ _ _ rfl rfl rfl rfl rfl (fun hb => o_neNN (gdT hb) rfl Try.underlying24) ?_
  refine RG.op _ _ rfl rfl (o_or _ _ rfl rfl rfl) ?_
  refine RG.op _ _ rfl rfl (o_move (.v _) rfl) ?_
  refine RG.opg1 _ _ _ _ _ rfl rfl rfl rfl rfl (fun hb => o_load_ptr_L (xs := [_, _, _]) rfl Try.underlying23 rfl (sz_of Ty.inf23) rfl rfl rfl rfl) ?_
  refine RG.opg1 _ _ _ _ _ rfl rfl rfl rfl rfl (fun hb => o_build (cs := [B8 0, I64 0, S []]) Try.underlying23 Ty.inf23 (Ty.pl23 Try.underlying23) rfl) ?_
  refine RG.opg1 _ _ _ _ _ rfl rfl rfl rfl rfl (fun hb => o_neV Ty.fs23 (gdT hb) (gdT hb)) ?_
  refine RG.op _ _ rfl rfl (o_or _ _ rfl rfl rfl) ?_
  refine RG.op _ _ rfl rfl (o_move (.v _) rfl) ?_
  refine RG.opg1 _ _ _ _ _ rfl rfl rfl rfl rfl (fun hb => o_move (.v _) rfl) ?_
  refine RG.opg1 _ _ _ _ _ rfl rfl rfl rfl rfl (fun hb => o_neI (gdT hb) rfl) ?_
  refine RG.op _ _ rfl rfl (o_or _ _ rfl rfl rfl) ?_
  refine RG.nil (h8_ _ ?_)
  refine WC.cond _ rfl (fun c6 => ?_) (fun c6 => ?_)
  ·
    have p6 := c6
    try simp only [CN] at p6
    exact absurd c6 (by decide)
  ·
    have p6 := c6
    try simp only [CN] at p6
    refine WC.skip (h7_ _ ?_)
    refine WC.seq fun Fh9_ h9_ => ?_
    refine WC.region ?_
    refine RG.op _ _ rfl rfl (o_move (.v _) rfl) ?_
    refine RG.op _ _ rfl rfl (o_neI rfl rfl) ?_
    refine RG.op _ _ rfl rfl (o_move (.v _) rfl) ?_
    refine RG.opg1 _ _ _ _ _ rfl rfl rfl rfl rfl (fun hb => OpD.off (.v (.int .i64 0)) hb) ?_
    refine RG.opg1 _ _ _ _ _ rfl rfl rfl rfl rfl (fun hb => OpD.off (.v (.bool false)) hb) ?_
    refine RG.op _ _ rfl rfl (o_or true false rfl rfl rfl) ?_
    refine RG.op _ _ rfl rfl (o_move (.v _) rfl) ?_
    refine RG.opg1 _ _ _ _ _ rfl rfl rfl rfl rfl (fun hb => OpD.off (.v .nilFunc) hb) ?_
    refine RG.opg1 _ _ _ _ _ rfl rfl rfl rfl rfl (fun hb => OpD.off (.v .nilFunc) hb) ?_
    refine RG.opg1 _ _ _ _ _ rfl rfl rfl rfl rfl (fun hb => OpD.off (.v (.int .i64 0)) hb) ?_
    refine RG.opg1 _ _ _ _ _ rfl rfl rfl rfl rfl (fun hb => OpD.off (.v (.bool false)) hb) ?_
    refine RG.opg1 _ _ _ _ _ rfl rfl rfl rfl rfl (fun hb => OpD.off (.v (.int .u8 0)) hb) ?_
    refine RG.opg1 _ _ _ _ _ rfl rfl rfl rfl rfl (fun hb => OpD.off (.v (.int .u8 0)) hb) ?_
    refine RG.opg1 _ _ _ _ _ rfl rfl rfl rfl rfl (fun hb => OpD.off (.v (.bool false)) hb) ?_
    refine RG.opg1 _ _ _ _ _ rfl rfl rfl rfl rfl (fun hb => OpD.off (.v (.bool false)) hb) ?_
    refine RG.op _ _ rfl rfl (o_or true false rfl rfl rfl) ?_
    refine RG.op _ _ rfl rfl (o_move (.v _) rfl) ?_
    refine RG.opg1 _ _ _ _ _ rfl rfl rfl rfl rfl (fun hb => o_call Ty.cal12 (wakes_c) trivial (by exact pua rfl)) ?_
    refine RG.op _ _ rfl rfl (o_and _ _ rfl rfl rfl) ?_
    refine RG.op _ _ rfl rfl (o_assign (.v _) rfl) ?_
    refine RG.nil (h9_ _ ?_)
    refine WC.ret ?_
    exact Ends.r1 rfl (.tmp _ (.v _) rfl) (.v _) (congrArg Bo (by decide))
theorem nil_c : Fun Try.prog 3 [B8 op, B8 other, VD v] (· = Bo true) := by
  cases h1 : aggB op <;> cases h2 : aggB other
  · exact nilD_c op other v h1 h2
  · exact nilC_c op other v h1 h2
  · exact nilB_c op other v h1 h2
  · exact nilA_c op other v h1 h2
end
end Go.Proofs.Ytpacdeiaimfiaaa
