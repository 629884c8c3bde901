/-
  Layer agg: what each aggregate does with what comes, with another one's state, and in the end. No condition but a state's size.
-/
import Derived.Test.YtpacdeiaimfiaaaG3
import Derived.Test.YtpacdeiaimfiaaaDlU
set_option linter.unusedSimpArgs false
set_option linter.unusedVariables false
namespace Go.Proofs.Ytpacdeiaimfiaaa
open Go.RowKit Go.DL

section
variable (s o : St) (ar : Int) (f1 f2 f3 : Nat) (ar' : Int) (g1 g2 g3 : Nat) (a b : Val)
abbrev FQ (s : St) (ar : Int) (f1 f2 f3 : Nat) : DOut → Heap → Prop := fun o H' => o = .ret (.tup []) ∧ H' = [stb s ar f1 f2 f3]
set_option maxHeartbeats 4000000 in
theorem feedAny_c (hr : Room s) (hr1 : Room (moreM 1 0 s)) : FunM Try.prog 23 [.ptr 0 0 0, VD a, VD b] [stb s ar f1 f2 f3] (FQ (moreM 1 0 s) ar f1 f2 f3) := by
  refine FunM.of Try.func23 rfl (Nat.le_of_ble_eq_true rfl) fun C => ?_
  refine WC.seq fun Fh1_ h1_ => ?_
  refine WC.region ?_
  refine RG.op _ _ rfl rfl (o_box (d := .agg [_, _, _]) rfl rfl) ?_
  refine RG.op _ _ rfl rfl (o_box (d := .agg [_, _, _]) rfl rfl) ?_
  refine RG.nil (h1_ _ ?_)
  refine WC.region ?_
  refine RG.op _ _ rfl rfl (o_move (.ptr _ _ _) rfl) ?_
  refine RG.op _ _ rfl rfl (o_buildA (cs := [_, _]) Try.underlying56 Ty.inf56 (sz_of Ty.inf54) rfl) ?_
  refine RG.op _ _ rfl rfl (OpX.d (x_call Ty.cal42 (FunM.frame (ds := [_, _, _]) [0] [_] [_] [] (more_c s ar f1 f2 f3 1 0 hr hr1 ⟨by decide, by decide⟩) (by decide) ⟨rfl, trivial⟩ ⟨.pure (by repeat (first | exact pu_bytes _ | exact pu_nil | exact pu_vs rfl | exact pu_map (fun _ => .v _) _ | exact pu_vals _ | refine pu_app ?_ ?_ | refine pu_cons (by exact pu_of rfl) ?_)), trivial⟩ ⟨.ptr _ _ _ rfl, .pure _ (by exact pu_of rfl), .pure _ (by exact pu_of rfl), trivial⟩ rfl ⟨.pure (by repeat (first | exact pu_bytes _ | exact pu_nil | exact pu_vs rfl | exact pu_map (fun _ => .v _) _ | exact pu_vals _ | refine pu_app ?_ ?_ | refine pu_cons (by exact pu_of rfl) ?_)), trivial⟩ (.pure _ (by exact pu_of rfl)) rfl) ⟨.inl rfl, .inl (rfl : _ = (N64 1)), .inl rfl, trivial⟩) (VLe.le (by repeat (first | exact trivial | refine And.intro (Nat.le_refl _) ?_ | refine And.intro trivial ?_ | refine And.intro (by show _ ≤ _; (first | omega | (simp only [LS] <;> omega))) ?_)))) ?_
  refine RG.nil ?_
  first | refine endM.mkN 1 [_] rfl rfl (by repeat (first | exact trivial | refine And.intro (one_ok (.own _ _ _ _ _ (Nat.le_refl _))) ?_ | refine And.intro (okp (by repeat (first | exact pu_bytes _ | exact pu_nil | exact pu_vs rfl | exact pu_map (fun _ => .v _) _ | exact pu_vals _ | refine pu_app ?_ ?_ | refine pu_cons (by exact pu_of rfl) ?_))) ?_)) ?_ | (simp only [thenQ, blkQ, noGo, if_true]; refine endM.mkN 1 [_] rfl rfl (by repeat (first | exact trivial | refine And.intro (one_ok (.own _ _ _ _ _ (Nat.le_refl _))) ?_ | refine And.intro (okp (by repeat (first | exact pu_bytes _ | exact pu_nil | exact pu_vs rfl | exact pu_map (fun _ => .v _) _ | exact pu_vals _ | refine pu_app ?_ ?_ | refine pu_cons (by exact pu_of rfl) ?_))) ?_)) ?_)
  exact EndsM.r0 rfl   (⟨rfl, rfl⟩)
set_option maxHeartbeats 4000000 in
theorem feedSome_c (hr : Room s) (hr1 : Room (moreM 1 0 s)) : FunM Try.prog 26 [.ptr 0 0 0, VD a, VD b] [stb s ar f1 f2 f3] (FQ (if a.k = 0 then s else moreM 1 0 s) ar f1 f2 f3) := by
  refine FunM.of Try.func26 rfl (Nat.le_of_ble_eq_true rfl) fun C => ?_
  refine WC.seq fun Fh1_ h1_ => ?_
  refine WC.region ?_
  refine RG.op _ _ rfl rfl (o_box (d := .agg [_, _, _]) rfl rfl) ?_
  refine RG.op _ _ rfl rfl (o_box (d := .agg [_, _, _]) rfl rfl) ?_
  refine RG.nil (h1_ _ ?_)
  refine WC.seq fun Fh2_ h2_ => ?_
  refine WC.region ?_
  refine RG.op _ _ rfl rfl (o_fld_ptr rfl Try.underlying23 rfl (sz_of Ty.inf5) (by decide)) ?_
  refine RG.op _ _ rfl rfl (o_load_ptr rfl Try.underlying5 rfl rfl rfl rfl) ?_
  refine RG.op _ _ rfl rfl (o_neB (b := 0) rfl rfl) ?_
  refine RG.nil (h2_ _ ?_)
  refine WC.cond _ rfl (fun c1 => ?_) (fun c1 => ?_)
  ·
    have p1 := c1
    try simp only [CN] at p1
    refine WC.region ?_
    refine RG.op _ _ rfl rfl (o_move (.ptr _ _ _) rfl) ?_
    refine RG.op _ _ rfl rfl (o_buildA (cs := [_, _]) Try.underlying56 Ty.inf56 (sz_of Ty.inf54) rfl) ?_
    refine RG.op _ _ rfl rfl (OpX.d (x_call Ty.cal42 (FunM.frame (ds := [_, _, _]) [0] [_] [_] [] (more_c s ar f1 f2 f3 1 0 hr hr1 ⟨by decide, by decide⟩) (by decide) ⟨rfl, trivial⟩ ⟨.pure (by repeat (first | exact pu_bytes _ | exact pu_nil | exact pu_vs rfl | exact pu_map (fun _ => .v _) _ | exact pu_vals _ | refine pu_app ?_ ?_ | refine pu_cons (by exact pu_of rfl) ?_)), trivial⟩ ⟨.ptr _ _ _ rfl, .pure _ (by exact pu_of rfl), .pure _ (by exact pu_of rfl), trivial⟩ rfl ⟨.pure (by repeat (first | exact pu_bytes _ | exact pu_nil | exact pu_vs rfl | exact pu_map (fun _ => .v _) _ | exact pu_vals _ | refine pu_app ?_ ?_ | refine pu_cons (by exact pu_of rfl) ?_)), trivial⟩ (.pure _ (by exact pu_of rfl)) rfl) ⟨.inl rfl, .inl (rfl : _ = (N64 1)), .inl rfl, trivial⟩) (VLe.le (by repeat (first | exact trivial | refine And.intro (Nat.le_refl _) ?_ | refine And.intro trivial ?_ | refine And.intro (by show _ ≤ _; (first | omega | (simp only [LS] <;> omega))) ?_)))) ?_
    refine RG.nil ?_
    first | refine endM.mkN 1 [_] rfl rfl (by repeat (first | exact trivial | refine And.intro (one_ok (.own _ _ _ _ _ (Nat.le_refl _))) ?_ | refine And.intro (okp (by repeat (first | exact pu_bytes _ | exact pu_nil | exact pu_vs rfl | exact pu_map (fun _ => .v _) _ | exact pu_vals _ | refine pu_app ?_ ?_ | refine pu_cons (by exact pu_of rfl) ?_))) ?_)) ?_ | (simp only [thenQ, blkQ, noGo, if_true]; refine endM.mkN 1 [_] rfl rfl (by repeat (first | exact trivial | refine And.intro (one_ok (.own _ _ _ _ _ (Nat.le_refl _))) ?_ | refine And.intro (okp (by repeat (first | exact pu_bytes _ | exact pu_nil | exact pu_vs rfl | exact pu_map (fun _ => .v _) _ | exact pu_vals _ | refine pu_app ?_ ?_ | refine pu_cons (by exact pu_of rfl) ?_))) ?_)) ?_)
    exact EndsM.r0 rfl   (⟨rfl, by rw [if_neg p1]⟩)
  ·
    have p1 := c1
    try simp only [CN] at p1
    refine WC.skip ?_
    first | refine endM.mkN 1 [_] rfl rfl (by repeat (first | exact trivial | refine And.intro (one_ok (.own _ _ _ _ _ (Nat.le_refl _))) ?_ | refine And.intro (okp (by repeat (first | exact pu_bytes _ | exact pu_nil | exact pu_vs rfl | exact pu_map (fun _ => .v _) _ | exact pu_vals _ | refine pu_app ?_ ?_ | refine pu_cons (by exact pu_of rfl) ?_))) ?_)) ?_ | (simp only [thenQ, blkQ, noGo, if_true]; refine endM.mkN 1 [_] rfl rfl (by repeat (first | exact trivial | refine And.intro (one_ok (.own _ _ _ _ _ (Nat.le_refl _))) ?_ | refine And.intro (okp (by repeat (first | exact pu_bytes _ | exact pu_nil | exact pu_vs rfl | exact pu_map (fun _ => .v _) _ | exact pu_vals _ | refine pu_app ?_ ?_ | refine pu_cons (by exact pu_of rfl) ?_))) ?_)) ?_)
    exact EndsM.r0 rfl   (⟨rfl, by rw [if_pos p1]⟩)
set_option maxHeartbeats 4000000 in
theorem feedInt_c (hr : Room s) (ha : -9223372036854775808 ≤ a.i ∧ a.i ≤ 9223372036854775807) (hr1 : a.k = 2 → Room (moreM 1 a.i s)) : FunM Try.prog 27 [.ptr 0 0 0, VD a, VD b] [stb s ar f1 f2 f3] (FQ (if a.k = 2 then moreM 1 a.i s else s) ar f1 f2 f3) := by
  refine FunM.of Try.func27 rfl (Nat.le_of_ble_eq_true rfl) fun C => ?_
  refine WC.seq fun Fh1_ h1_ => ?_
  refine WC.region ?_
  refine RG.op _ _ rfl rfl (o_box (d := .agg [_, _, _]) rfl rfl) ?_
  refine RG.op _ _ rfl rfl (o_box (d := .agg [_, _, _]) rfl rfl) ?_
  refine RG.nil (h1_ _ ?_)
  refine WC.seq fun Fh2_ h2_ => ?_
  refine WC.region ?_
  refine RG.op _ _ rfl rfl (o_fld_ptr rfl Try.underlying23 rfl (sz_of Ty.inf5) (by decide)) ?_
  refine RG.op _ _ rfl rfl (o_load_ptr rfl Try.underlying5 rfl rfl rfl rfl) ?_
  refine RG.op _ _ rfl rfl (o_eqB (b := 2) rfl rfl) ?_
  refine RG.nil (h2_ _ ?_)
  refine WC.cond _ rfl (fun c1 => ?_) (fun c1 => ?_)
  ·
    have p1 := c1
    try simp only [CN] at p1
    refine WC.region ?_
    refine RG.op _ _ rfl rfl (o_move (.ptr _ _ _) rfl) ?_
    refine RG.op _ _ rfl rfl (o_fld_ptr rfl Try.underlying23 rfl (sz_of Ty.inf2) (by decide)) ?_
    refine RG.op _ _ rfl rfl (o_load_ptr rfl Try.underlying2 rfl rfl rfl rfl) ?_
    refine RG.op _ _ rfl rfl (o_call Ty.cal43 (widen_c _ ha) ⟨.inl rfl, trivial⟩ (by exact pua rfl)) ?_
    refine RG.op _ _ rfl rfl (OpX.d (x_call Ty.cal42 (FunM.frame (ds := [_, _, _]) [0] [_] [_] [] (more_c s ar f1 f2 f3 1 a.i hr (hr1 p1) (by unfold B104; omega)) (by decide) ⟨rfl, trivial⟩ ⟨.pure (by repeat (first | exact pu_bytes _ | exact pu_nil | exact pu_vs rfl | exact pu_map (fun _ => .v _) _ | exact pu_vals _ | refine pu_app ?_ ?_ | refine pu_cons (by exact pu_of rfl) ?_)), trivial⟩ ⟨.ptr _ _ _ rfl, .pure _ (by exact pu_of rfl), .pure _ (by exact pu_of rfl), trivial⟩ rfl ⟨.pure (by repeat (first | exact pu_bytes _ | exact pu_nil | exact pu_vs rfl | exact pu_map (fun _ => .v _) _ | exact pu_vals _ | refine pu_app ?_ ?_ | refine pu_cons (by exact pu_of rfl) ?_)), trivial⟩ (.pure _ (by exact pu_of rfl)) rfl) ⟨.inl rfl, .inl (rfl : _ = (N64 1)), .inl rfl, trivial⟩) (VLe.le (by repeat (first | exact trivial | refine And.intro (Nat.le_refl _) ?_ | refine And.intro trivial ?_ | refine And.intro (by show _ ≤ _; (first | omega | (simp only [LS] <;> omega))) ?_)))) ?_
    refine RG.nil ?_
    first | refine endM.mkN 1 [_] rfl rfl (by repeat (first | exact trivial | refine And.intro (one_ok (.own _ _ _ _ _ (Nat.le_refl _))) ?_ | refine And.intro (okp (by repeat (first | exact pu_bytes _ | exact pu_nil | exact pu_vs rfl | exact pu_map (fun _ => .v _) _ | exact pu_vals _ | refine pu_app ?_ ?_ | refine pu_cons (by exact pu_of rfl) ?_))) ?_)) ?_ | (simp only [thenQ, blkQ, noGo, if_true]; refine endM.mkN 1 [_] rfl rfl (by repeat (first | exact trivial | refine And.intro (one_ok (.own _ _ _ _ _ (Nat.le_refl _))) ?_ | refine And.intro (okp (by repeat (first | exact pu_bytes _ | exact pu_nil | exact pu_vs rfl | exact pu_map (fun _ => .v _) _ | exact pu_vals _ | refine pu_app ?_ ?_ | refine pu_cons (by exact pu_of rfl) ?_))) ?_)) ?_)
    exact EndsM.r0 rfl   (⟨rfl, by rw [if_pos p1]⟩)
  ·
    have p1 := c1
    try simp only [CN] at p1
    refine WC.skip ?_
    first | refine endM.mkN 1 [_] rfl rfl (by repeat (first | exact trivial | refine And.intro (one_ok (.own _ _ _ _ _ (Nat.le_refl _))) ?_ | refine And.intro (okp (by repeat (first | exact pu_bytes _ | exact pu_nil | exact pu_vs rfl | exact pu_map (fun _ => .v _) _ | exact pu_vals _ | refine pu_app ?_ ?_ | refine pu_cons (by exact pu_of rfl) ?_))) ?_)) ?_ | (simp only [thenQ, blkQ, noGo, if_true]; refine endM.mkN 1 [_] rfl rfl (by repeat (first | exact trivial | refine And.intro (one_ok (.own _ _ _ _ _ (Nat.le_refl _))) ?_ | refine And.intro (okp (by repeat (first | exact pu_bytes _ | exact pu_nil | exact pu_vs rfl | exact pu_map (fun _ => .v _) _ | exact pu_vals _ | refine pu_app ?_ ?_ | refine pu_cons (by exact pu_of rfl) ?_))) ?_)) ?_)
    exact EndsM.r0 rfl   (⟨rfl, by rw [if_neg p1]⟩)
set_option maxHeartbeats 4000000 in
theorem feedLess_c : FunM Try.prog 30 [.ptr 0 0 0, VD a, VD b] [stb s ar f1 f2 f3] (FQ (if a.k = 0 then s else pickM (-1) a z0 s) ar f1 f2 f3) := by
  refine FunM.of Try.func30 rfl (Nat.le_of_ble_eq_true rfl) fun C => ?_
  refine WC.seq fun Fh1_ h1_ => ?_
  refine WC.region ?_
  refine RG.op _ _ rfl rfl (o_box (d := .agg [_, _, _]) rfl rfl) ?_
  refine RG.op _ _ rfl rfl (o_box (d := .agg [_, _, _]) rfl rfl) ?_
  refine RG.nil (h1_ _ ?_)
  refine WC.seq fun Fh2_ h2_ => ?_
  refine WC.region ?_
  refine RG.op _ _ rfl rfl (o_fld_ptr rfl Try.underlying23 rfl (sz_of Ty.inf5) (by decide)) ?_
  refine RG.op _ _ rfl rfl (o_load_ptr rfl Try.underlying5 rfl rfl rfl rfl) ?_
  refine RG.op _ _ rfl rfl (o_neB (b := 0) rfl rfl) ?_
  refine RG.nil (h2_ _ ?_)
  refine WC.cond _ rfl (fun c1 => ?_) (fun c1 => ?_)
  ·
    have p1 := c1
    try simp only [CN] at p1
    refine WC.region ?_
    refine RG.op _ _ rfl rfl (o_move (.ptr _ _ _) rfl) ?_
    refine RG.op _ _ rfl rfl (o_load_ptr_L (xs := [_, _, _]) rfl Try.underlying23 rfl (sz_of Ty.inf23) rfl rfl rfl rfl) ?_
    refine RG.op _ _ rfl rfl (o_build (cs := [B8 0, I64 0, S []]) Try.underlying23 Ty.inf23 (Ty.pl23 Try.underlying23) rfl) ?_
    refine RG.op _ _ rfl rfl (OpX.d (x_call Ty.cal45 (FunM.frame (ds := [_, _, _, _]) [0] [_] [_] [] (pick_c s ar f1 f2 f3 (-1) a z0) (by decide) ⟨rfl, trivial⟩ ⟨.pure (by repeat (first | exact pu_bytes _ | exact pu_nil | exact pu_vs rfl | exact pu_map (fun _ => .v _) _ | exact pu_vals _ | refine pu_app ?_ ?_ | refine pu_cons (by exact pu_of rfl) ?_)), trivial⟩ ⟨.ptr _ _ _ rfl, .pure _ (by exact pu_of rfl), .pure _ (by exact pu_of rfl), .pure _ (by exact pu_of rfl), trivial⟩ rfl ⟨.pure (by repeat (first | exact pu_bytes _ | exact pu_nil | exact pu_vs rfl | exact pu_map (fun _ => .v _) _ | exact pu_vals _ | refine pu_app ?_ ?_ | refine pu_cons (by exact pu_of rfl) ?_)), trivial⟩ (.pure _ (by exact pu_of rfl)) rfl) ⟨.inl rfl, .inl rfl, .inl rfl, .inl rfl, trivial⟩) (VLe.le (by repeat (first | exact trivial | refine And.intro (Nat.le_refl _) ?_ | refine And.intro trivial ?_ | refine And.intro (by show _ ≤ _; (first | omega | (simp only [LS] <;> omega))) ?_)))) ?_
    refine RG.nil ?_
    first | refine endM.mkN 1 [_] rfl rfl (by repeat (first | exact trivial | refine And.intro (one_ok (.own _ _ _ _ _ (Nat.le_refl _))) ?_ | refine And.intro (okp (by repeat (first | exact pu_bytes _ | exact pu_nil | exact pu_vs rfl | exact pu_map (fun _ => .v _) _ | exact pu_vals _ | refine pu_app ?_ ?_ | refine pu_cons (by exact pu_of rfl) ?_))) ?_)) ?_ | (simp only [thenQ, blkQ, noGo, if_true]; refine endM.mkN 1 [_] rfl rfl (by repeat (first | exact trivial | refine And.intro (one_ok (.own _ _ _ _ _ (Nat.le_refl _))) ?_ | refine And.intro (okp (by repeat (first | exact pu_bytes _ | exact pu_nil | exact pu_vs rfl | exact pu_map (fun _ => .v _) _ | exact pu_vals _ | refine pu_app ?_ ?_ | refine pu_cons (by exact pu_of rfl) ?_))) ?_)) ?_)
    exact EndsM.r0 rfl   (⟨rfl, by rw [if_neg p1]⟩)
  ·
    have p1 := c1
    try simp only [CN] at p1
    refine WC.skip ?_
    first | refine endM.mkN 1 [_] rfl rfl (by repeat (first | exact trivial | refine And.intro (one_ok (.own _ _ _ _ _ (Nat.le_refl _))) ?_ | refine And.intro (okp (by repeat (first | exact pu_bytes _ | exact pu_nil | exact pu_vs rfl | exact pu_map (fun _ => .v _) _ | exact pu_vals _ | refine pu_app ?_ ?_ | refine pu_cons (by exact pu_of rfl) ?_))) ?_)) ?_ | (simp only [thenQ, blkQ, noGo, if_true]; refine endM.mkN 1 [_] rfl rfl (by repeat (first | exact trivial | refine And.intro (one_ok (.own _ _ _ _ _ (Nat.le_refl _))) ?_ | refine And.intro (okp (by repeat (first | exact pu_bytes _ | exact pu_nil | exact pu_vs rfl | exact pu_map (fun _ => .v _) _ | exact pu_vals _ | refine pu_app ?_ ?_ | refine pu_cons (by exact pu_of rfl) ?_))) ?_)) ?_)
    exact EndsM.r0 rfl   (⟨rfl, by rw [if_pos p1]⟩)
set_option maxHeartbeats 4000000 in
theorem feedMore_c : FunM Try.prog 33 [.ptr 0 0 0, VD a, VD b] [stb s ar f1 f2 f3] (FQ (if a.k = 0 then s else pickM 1 a z0 s) ar f1 f2 f3) := by
  refine FunM.of Try.func33 rfl (Nat.le_of_ble_eq_true rfl) fun C => ?_
  refine WC.seq fun Fh1_ h1_ => ?_
  refine WC.region ?_
  refine RG.op _ _ rfl rfl (o_box (d := .agg [_, _, _]) rfl rfl) ?_
  refine RG.op _ _ rfl rfl (o_box (d := .agg [_, _, _]) rfl rfl) ?_
  refine RG.nil (h1_ _ ?_)
  refine WC.seq fun Fh2_ h2_ => ?_
  refine WC.region ?_
  refine RG.op _ _ rfl rfl (o_fld_ptr rfl Try.underlying23 rfl (sz_of Ty.inf5) (by decide)) ?_
  refine RG.op _ _ rfl rfl (o_load_ptr rfl Try.underlying5 rfl rfl rfl rfl) ?_
  refine RG.op _ _ rfl rfl (o_neB (b := 0) rfl rfl) ?_
  refine RG.nil (h2_ _ ?_)
  refine WC.cond _ rfl (fun c1 => ?_) (fun c1 => ?_)
  ·
    have p1 := c1
    try simp only [CN] at p1
    refine WC.region ?_
    refine RG.op _ _ rfl rfl (o_move (.ptr _ _ _) rfl) ?_
    refine RG.op _ _ rfl rfl (o_load_ptr_L (xs := [_, _, _]) rfl Try.underlying23 rfl (sz_of Ty.inf23) rfl rfl rfl rfl) ?_
    refine RG.op _ _ rfl rfl (o_build (cs := [B8 0, I64 0, S []]) Try.underlying23 Ty.inf23 (Ty.pl23 Try.underlying23) rfl) ?_
    refine RG.op _ _ rfl rfl (OpX.d (x_call Ty.cal45 (FunM.frame (ds := [_, _, _, _]) [0] [_] [_] [] (pick_c s ar f1 f2 f3 1 a z0) (by decide) ⟨rfl, trivial⟩ ⟨.pure (by repeat (first | exact pu_bytes _ | exact pu_nil | exact pu_vs rfl | exact pu_map (fun _ => .v _) _ | exact pu_vals _ | refine pu_app ?_ ?_ | refine pu_cons (by exact pu_of rfl) ?_)), trivial⟩ ⟨.ptr _ _ _ rfl, .pure _ (by exact pu_of rfl), .pure _ (by exact pu_of rfl), .pure _ (by exact pu_of rfl), trivial⟩ rfl ⟨.pure (by repeat (first | exact pu_bytes _ | exact pu_nil | exact pu_vs rfl | exact pu_map (fun _ => .v _) _ | exact pu_vals _ | refine pu_app ?_ ?_ | refine pu_cons (by exact pu_of rfl) ?_)), trivial⟩ (.pure _ (by exact pu_of rfl)) rfl) ⟨.inl rfl, .inl rfl, .inl rfl, .inl rfl, trivial⟩) (VLe.le (by repeat (first | exact trivial | refine And.intro (Nat.le_refl _) ?_ | refine And.intro trivial ?_ | refine And.intro (by show _ ≤ _; (first | omega | (simp only [LS] <;> omega))) ?_)))) ?_
    refine RG.nil ?_
    first | refine endM.mkN 1 [_] rfl rfl (by repeat (first | exact trivial | refine And.intro (one_ok (.own _ _ _ _ _ (Nat.le_refl _))) ?_ | refine And.intro (okp (by repeat (first | exact pu_bytes _ | exact pu_nil | exact pu_vs rfl | exact pu_map (fun _ => .v _) _ | exact pu_vals _ | refine pu_app ?_ ?_ | refine pu_cons (by exact pu_of rfl) ?_))) ?_)) ?_ | (simp only [thenQ, blkQ, noGo, if_true]; refine endM.mkN 1 [_] rfl rfl (by repeat (first | exact trivial | refine And.intro (one_ok (.own _ _ _ _ _ (Nat.le_refl _))) ?_ | refine And.intro (okp (by repeat (first | exact pu_bytes _ | exact pu_nil | exact pu_vs rfl | exact pu_map (fun _ => .v _) _ | exact pu_vals _ | refine pu_app ?_ ?_ | refine pu_cons (by exact pu_of rfl) ?_))) ?_)) ?_)
    exact EndsM.r0 rfl   (⟨rfl, by rw [if_neg p1]⟩)
  ·
    have p1 := c1
    try simp only [CN] at p1
    refine WC.skip ?_
    first | refine endM.mkN 1 [_] rfl rfl (by repeat (first | exact trivial | refine And.intro (one_ok (.own _ _ _ _ _ (Nat.le_refl _))) ?_ | refine And.intro (okp (by repeat (first | exact pu_bytes _ | exact pu_nil | exact pu_vs rfl | exact pu_map (fun _ => .v _) _ | exact pu_vals _ | refine pu_app ?_ ?_ | refine pu_cons (by exact pu_of rfl) ?_))) ?_)) ?_ | (simp only [thenQ, blkQ, noGo, if_true]; refine endM.mkN 1 [_] rfl rfl (by repeat (first | exact trivial | refine And.intro (one_ok (.own _ _ _ _ _ (Nat.le_refl _))) ?_ | refine And.intro (okp (by repeat (first | exact pu_bytes _ | exact pu_nil | exact pu_vs rfl | exact pu_map (fun _ => .v _) _ | exact pu_vals _ | refine pu_app ?_ ?_ | refine pu_cons (by exact pu_of rfl) ?_))) ?_)) ?_)
    exact EndsM.r0 rfl   (⟨rfl, by rw [if_pos p1]⟩)
set_option maxHeartbeats 4000000 in
theorem feedFirst_c : FunM Try.prog 35 [.ptr 0 0 0, VD a, VD b] [stb s ar f1 f2 f3] (FQ (if b.k = 2 then pickM (-1) a b s else s) ar f1 f2 f3) := by
  refine FunM.of Try.func35 rfl (Nat.le_of_ble_eq_true rfl) fun C => ?_
  refine WC.seq fun Fh1_ h1_ => ?_
  refine WC.region ?_
  refine RG.op _ _ rfl rfl (o_box (d := .agg [_, _, _]) rfl rfl) ?_
  refine RG.op _ _ rfl rfl (o_box (d := .agg [_, _, _]) rfl rfl) ?_
  refine RG.nil (h1_ _ ?_)
  refine WC.seq fun Fh2_ h2_ => ?_
  refine WC.region ?_
  refine RG.op _ _ rfl rfl (o_fld_ptr rfl Try.underlying23 rfl (sz_of Ty.inf5) (by decide)) ?_
  refine RG.op _ _ rfl rfl (o_load_ptr rfl Try.underlying5 rfl rfl rfl rfl) ?_
  refine RG.op _ _ rfl rfl (o_eqB (b := 2) rfl rfl) ?_
  refine RG.nil (h2_ _ ?_)
  refine WC.cond _ rfl (fun c1 => ?_) (fun c1 => ?_)
  ·
    have p1 := c1
    try simp only [CN] at p1
    refine WC.region ?_
    refine RG.op _ _ rfl rfl (o_move (.ptr _ _ _) rfl) ?_
    refine RG.op _ _ rfl rfl (o_load_ptr_L (xs := [_, _, _]) rfl Try.underlying23 rfl (sz_of Ty.inf23) rfl rfl rfl rfl) ?_
    refine RG.op _ _ rfl rfl (o_load_ptr_L (xs := [_, _, _]) rfl Try.underlying23 rfl (sz_of Ty.inf23) rfl rfl rfl rfl) ?_
    refine RG.op _ _ rfl rfl (OpX.d (x_call Ty.cal45 (FunM.frame (ds := [_, _, _, _]) [0] [_] [_] [] (pick_c s ar f1 f2 f3 (-1) a b) (by decide) ⟨rfl, trivial⟩ ⟨.pure (by repeat (first | exact pu_bytes _ | exact pu_nil | exact pu_vs rfl | exact pu_map (fun _ => .v _) _ | exact pu_vals _ | refine pu_app ?_ ?_ | refine pu_cons (by exact pu_of rfl) ?_)), trivial⟩ ⟨.ptr _ _ _ rfl, .pure _ (by exact pu_of rfl), .pure _ (by exact pu_of rfl), .pure _ (by exact pu_of rfl), trivial⟩ rfl ⟨.pure (by repeat (first | exact pu_bytes _ | exact pu_nil | exact pu_vs rfl | exact pu_map (fun _ => .v _) _ | exact pu_vals _ | refine pu_app ?_ ?_ | refine pu_cons (by exact pu_of rfl) ?_)), trivial⟩ (.pure _ (by exact pu_of rfl)) rfl) ⟨.inl rfl, .inl rfl, .inl rfl, .inl rfl, trivial⟩) (VLe.le (by repeat (first | exact trivial | refine And.intro (Nat.le_refl _) ?_ | refine And.intro trivial ?_ | refine And.intro (by show _ ≤ _; (first | omega | (simp only [LS] <;> omega))) ?_)))) ?_
    refine RG.nil ?_
    first | refine endM.mkN 1 [_] rfl rfl (by repeat (first | exact trivial | refine And.intro (one_ok (.own _ _ _ _ _ (Nat.le_refl _))) ?_ | refine And.intro (okp (by repeat (first | exact pu_bytes _ | exact pu_nil | exact pu_vs rfl | exact pu_map (fun _ => .v _) _ | exact pu_vals _ | refine pu_app ?_ ?_ | refine pu_cons (by exact pu_of rfl) ?_))) ?_)) ?_ | (simp only [thenQ, blkQ, noGo, if_true]; refine endM.mkN 1 [_] rfl rfl (by repeat (first | exact trivial | refine And.intro (one_ok (.own _ _ _ _ _ (Nat.le_refl _))) ?_ | refine And.intro (okp (by repeat (first | exact pu_bytes _ | exact pu_nil | exact pu_vs rfl | exact pu_map (fun _ => .v _) _ | exact pu_vals _ | refine pu_app ?_ ?_ | refine pu_cons (by exact pu_of rfl) ?_))) ?_)) ?_)
    exact EndsM.r0 rfl   (⟨rfl, by rw [if_pos p1]⟩)
  ·
    have p1 := c1
    try simp only [CN] at p1
    refine WC.skip ?_
    first | refine endM.mkN 1 [_] rfl rfl (by repeat (first | exact trivial | refine And.intro (one_ok (.own _ _ _ _ _ (Nat.le_refl _))) ?_ | refine And.intro (okp (by repeat (first | exact pu_bytes _ | exact pu_nil | exact pu_vs rfl | exact pu_map (fun _ => .v _) _ | exact pu_vals _ | refine pu_app ?_ ?_ | refine pu_cons (by exact pu_of rfl) ?_))) ?_)) ?_ | (simp only [thenQ, blkQ, noGo, if_true]; refine endM.mkN 1 [_] rfl rfl (by repeat (first | exact trivial | refine And.intro (one_ok (.own _ _ _ _ _ (Nat.le_refl _))) ?_ | refine And.intro (okp (by repeat (first | exact pu_bytes _ | exact pu_nil | exact pu_vs rfl | exact pu_map (fun _ => .v _) _ | exact pu_vals _ | refine pu_app ?_ ?_ | refine pu_cons (by exact pu_of rfl) ?_))) ?_)) ?_)
    exact EndsM.r0 rfl   (⟨rfl, by rw [if_neg p1]⟩)
set_option maxHeartbeats 4000000 in
theorem feedLast_c : FunM Try.prog 37 [.ptr 0 0 0, VD a, VD b] [stb s ar f1 f2 f3] (FQ (if b.k = 2 then pickM 1 a b s else s) ar f1 f2 f3) := by
  refine FunM.of Try.func37 rfl (Nat.le_of_ble_eq_true rfl) fun C => ?_
  refine WC.seq fun Fh1_ h1_ => ?_
  refine WC.region ?_
  refine RG.op _ _ rfl rfl (o_box (d := .agg [_, _, _]) rfl rfl) ?_
  refine RG.op _ _ rfl rfl (o_box (d := .agg [_, _, _]) rfl rfl) ?_
  refine RG.nil (h1_ _ ?_)
  refine WC.seq fun Fh2_ h2_ => ?_
  refine WC.region ?_
  refine RG.op _ _ rfl rfl (o_fld_ptr rfl Try.underlying23 rfl (sz_of Ty.inf5) (by decide)) ?_
  refine RG.op _ _ rfl rfl (o_load_ptr rfl Try.underlying5 rfl rfl rfl rfl) ?_
  refine RG.op _ _ rfl rfl (o_eqB (b := 2) rfl rfl) ?_
  refine RG.nil (h2_ _ ?_)
  refine WC.cond _ rfl (fun c1 => ?_) (fun c1 => ?_)
  ·
    have p1 := c1
    try simp only [CN] at p1
    refine WC.region ?_
    refine RG.op _ _ rfl rfl (o_move (.ptr _ _ _) rfl) ?_
    refine RG.op _ _ rfl rfl (o_load_ptr_L (xs := [_, _, _]) rfl Try.underlying23 rfl (sz_of Ty.inf23) rfl rfl rfl rfl) ?_
    refine RG.op _ _ rfl rfl (o_load_ptr_L (xs := [_, _, _]) rfl Try.underlying23 rfl (sz_of Ty.inf23) rfl rfl rfl rfl) ?_
    refine RG.op _ _ rfl rfl (OpX.d (x_call Ty.cal45 (FunM.frame (ds := [_, _, _, _]) [0] [_] [_] [] (pick_c s ar f1 f2 f3 1 a b) (by decide) ⟨rfl, trivial⟩ ⟨.pure (by repeat (first | exact pu_bytes _ | exact pu_nil | exact pu_vs rfl | exact pu_map (fun _ => .v _) _ | exact pu_vals _ | refine pu_app ?_ ?_ | refine pu_cons (by exact pu_of rfl) ?_)), trivial⟩ ⟨.ptr _ _ _ rfl, .pure _ (by exact pu_of rfl), .pure _ (by exact pu_of rfl), .pure _ (by exact pu_of rfl), trivial⟩ rfl ⟨.pure (by repeat (first | exact pu_bytes _ | exact pu_nil | exact pu_vs rfl | exact pu_map (fun _ => .v _) _ | exact pu_vals _ | refine pu_app ?_ ?_ | refine pu_cons (by exact pu_of rfl) ?_)), trivial⟩ (.pure _ (by exact pu_of rfl)) rfl) ⟨.inl rfl, .inl rfl, .inl rfl, .inl rfl, trivial⟩) (VLe.le (by repeat (first | exact trivial | refine And.intro (Nat.le_refl _) ?_ | refine And.intro trivial ?_ | refine And.intro (by show _ ≤ _; (first | omega | (simp only [LS] <;> omega))) ?_)))) ?_
    refine RG.nil ?_
    first | refine endM.mkN 1 [_] rfl rfl (by repeat (first | exact trivial | refine And.intro (one_ok (.own _ _ _ _ _ (Nat.le_refl _))) ?_ | refine And.intro (okp (by repeat (first | exact pu_bytes _ | exact pu_nil | exact pu_vs rfl | exact pu_map (fun _ => .v _) _ | exact pu_vals _ | refine pu_app ?_ ?_ | refine pu_cons (by exact pu_of rfl) ?_))) ?_)) ?_ | (simp only [thenQ, blkQ, noGo, if_true]; refine endM.mkN 1 [_] rfl rfl (by repeat (first | exact trivial | refine And.intro (one_ok (.own _ _ _ _ _ (Nat.le_refl _))) ?_ | refine And.intro (okp (by repeat (first | exact pu_bytes _ | exact pu_nil | exact pu_vs rfl | exact pu_map (fun _ => .v _) _ | exact pu_vals _ | refine pu_app ?_ ?_ | refine pu_cons (by exact pu_of rfl) ?_))) ?_)) ?_)
    exact EndsM.r0 rfl   (⟨rfl, by rw [if_pos p1]⟩)
  ·
    have p1 := c1
    try simp only [CN] at p1
    refine WC.skip ?_
    first | refine endM.mkN 1 [_] rfl rfl (by repeat (first | exact trivial | refine And.intro (one_ok (.own _ _ _ _ _ (Nat.le_refl _))) ?_ | refine And.intro (okp (by repeat (first | exact pu_bytes _ | exact pu_nil | exact pu_vs rfl | exact pu_map (fun _ => .v _) _ | exact pu_vals _ | refine pu_app ?_ ?_ | refine pu_cons (by exact pu_of rfl) ?_))) ?_)) ?_ | (simp only [thenQ, blkQ, noGo, if_true]; refine endM.mkN 1 [_] rfl rfl (by repeat (first | exact trivial | refine And.intro (one_ok (.own _ _ _ _ _ (Nat.le_refl _))) ?_ | refine And.intro (okp (by repeat (first | exact pu_bytes _ | exact pu_nil | exact pu_vs rfl | exact pu_map (fun _ => .v _) _ | exact pu_vals _ | refine pu_app ?_ ?_ | refine pu_cons (by exact pu_of rfl) ?_))) ?_)) ?_)
    exact EndsM.r0 rfl   (⟨rfl, by rw [if_neg p1]⟩)
set_option maxHeartbeats 4000000 in
theorem addSum_c (hr : Room s) (ho : Room o) (hr1 : Room (moreM o.n o.z s)) : FunM Try.prog 24 [.ptr 0 0 0, .adr (stc o ar' g1 g2 g3)] [stb s ar f1 f2 f3] (FQ (moreM o.n o.z s) ar f1 f2 f3) := by
  refine FunM.of Try.func24 rfl (Nat.le_of_ble_eq_true rfl) fun C => ?_
  refine WC.seq fun Fh1_ h1_ => ?_
  refine WC.region ?_
  refine RG.op _ _ rfl rfl (o_move (.ptr _ _ _) rfl) ?_
  refine RG.op _ _ rfl rfl (o_move (.ptr _ _ _) rfl) ?_
  refine RG.op _ _ rfl rfl (o_nilP rfl) ?_
  refine RG.op _ _ rfl rfl (o_fld_ptr rfl Try.underlying58 rfl (sz_of Ty.inf4) (by decide)) ?_
  refine RG.op _ _ rfl rfl (o_load_ptr rfl Try.underlying4 rfl rfl rfl rfl) ?_
  refine RG.op _ _ rfl rfl (o_move (.v _) rfl) ?_
  refine RG.opg1 _ _ _ _ _ rfl rfl rfl rfl rfl (fun hb => o_move (.adr _) rfl) ?_
  refine RG.opg1 _ _ _ _ _ rfl rfl rfl rfl rfl (fun hb => o_nilA (gdT hb)) ?_
  refine RG.opg1 _ _ _ _ _ rfl rfl rfl rfl rfl (fun hb => o_fld_adr (gdT hb) Try.underlying58 rfl (sz_of Ty.inf4) (by decide)) ?_
  refine RG.opg1 _ _ _ _ _ rfl rfl rfl rfl rfl (fun hb => o_load_adr (gdT hb) Try.underlying4 rfl rfl) ?_
  refine RG.op _ _ rfl rfl (o_or _ _ rfl rfl rfl) ?_
  refine RG.op _ _ rfl rfl (o_nilP rfl) ?_
  refine RG.op _ _ rfl rfl (o_fld_ptr rfl Try.underlying58 rfl (sz_of Ty.inf4) (by decide)) ?_
  refine RG.op _ _ rfl rfl (o_store (d := (.v _)) rfl rfl rfl rfl (sz_of Ty.inf4) (Nat.le_of_ble_eq_true rfl) rfl) ?_
  refine RG.nil (h1_ _ ?_)
  refine WC.drawn2 (by kernel_rfl) ?_
  refine PG.op _ rfl rfl rfl (fun _ _ => o_move (.ptr _ _ _) rfl) ?_
  refine PG.op _ rfl rfl rfl (fun _ _ => o_move (.adr _) rfl) ?_
  refine PG.op _ rfl rfl rfl (fun _ _ => o_nilA rfl) ?_
  refine PG.op _ rfl rfl rfl (fun _ _ => o_fld_adr rfl Try.underlying58 rfl (sz_of Ty.inf54) (by decide)) ?_
  refine PG.op _ rfl rfl rfl (fun _ _ => o_load_adr rfl Try.underlying54 rfl rfl) ?_
  refine PG.op _ rfl rfl rfl (fun _ _ => o_move (.adr _) rfl) ?_
  refine PG.op _ rfl rfl rfl (fun _ _ => o_nilA rfl) ?_
  refine PG.op _ rfl rfl rfl (fun _ _ => o_fld_adr rfl Try.underlying58 rfl (sz_of Ty.inf56) (by decide)) ?_
  refine PG.op _ rfl rfl rfl (fun _ _ => o_load_adr_L (xs := [_, _]) rfl Try.underlying56 rfl (sz_of Ty.inf56) rfl) ?_
  refine PG.opm _ _ rfl rfl rfl (OpX.d (x_call Ty.cal42 (FunM.frame (ds := [_, _, _]) [0] [_] [_] [] (more_c s ar f1 f2 f3 o.n o.z hr hr1 (by obtain ⟨q1, q2, q3⟩ := ho; unfold B104; omega)) (by decide) ⟨rfl, trivial⟩ ⟨.pure (by repeat (first | exact pu_bytes _ | exact pu_nil | exact pu_vs rfl | exact pu_map (fun _ => .v _) _ | exact pu_vals _ | refine pu_app ?_ ?_ | refine pu_cons (by exact pu_of rfl) ?_)), trivial⟩ ⟨.ptr _ _ _ rfl, .pure _ (by exact pu_of rfl), .pure _ (by exact pu_of rfl), trivial⟩ rfl ⟨.pure (by repeat (first | exact pu_bytes _ | exact pu_nil | exact pu_vs rfl | exact pu_map (fun _ => .v _) _ | exact pu_vals _ | refine pu_app ?_ ?_ | refine pu_cons (by exact pu_of rfl) ?_)), trivial⟩ (.pure _ (by exact pu_of rfl)) rfl) ⟨.inl rfl, .inl rfl, .inl rfl, trivial⟩) (VLe.le (by repeat (first | exact trivial | refine And.intro (Nat.le_refl _) ?_ | refine And.intro trivial ?_ | refine And.intro (by show _ ≤ _; (first | omega | (simp only [LS] <;> omega))) ?_)))) ?_
  refine PG.nil ⟨by kernel_rfl, trivial, ?_⟩
  first | refine endM.mkN 1 [_] rfl rfl (by repeat (first | exact trivial | refine And.intro (one_ok (.own _ _ _ _ _ (Nat.le_refl _))) ?_ | refine And.intro (okp (by repeat (first | exact pu_bytes _ | exact pu_nil | exact pu_vs rfl | exact pu_map (fun _ => .v _) _ | exact pu_vals _ | refine pu_app ?_ ?_ | refine pu_cons (by exact pu_of rfl) ?_))) ?_)) ?_ | (simp only [thenQ, blkQ, noGo, if_true]; refine endM.mkN 1 [_] rfl rfl (by repeat (first | exact trivial | refine And.intro (one_ok (.own _ _ _ _ _ (Nat.le_refl _))) ?_ | refine And.intro (okp (by repeat (first | exact pu_bytes _ | exact pu_nil | exact pu_vs rfl | exact pu_map (fun _ => .v _) _ | exact pu_vals _ | refine pu_app ?_ ?_ | refine pu_cons (by exact pu_of rfl) ?_))) ?_)) ?_)
  exact EndsM.r0 rfl   (⟨rfl, rfl⟩)
set_option maxHeartbeats 4000000 in
theorem addPick_c (d : Int) : FunM Try.prog 46 [.ptr 0 0 0, .adr (stc o ar' g1 g2 g3), I64 d] [stb s ar f1 f2 f3] (FQ (if o.has = true then pickM d o.best o.by' s else s) ar f1 f2 f3) := by
  refine FunM.of Try.func46 rfl (Nat.le_of_ble_eq_true rfl) fun C => ?_
  refine WC.seq fun Fh1_ h1_ => ?_
  refine WC.region ?_
  refine RG.op _ _ rfl rfl (o_move (.adr _) rfl) ?_
  refine RG.op _ _ rfl rfl (o_nilA rfl) ?_
  refine RG.op _ _ rfl rfl (o_fld_adr rfl Try.underlying58 rfl (sz_of Ty.inf4) (by decide)) ?_
  refine RG.op _ _ rfl rfl (o_load_adr rfl Try.underlying4 rfl rfl) ?_
  refine RG.nil (h1_ _ ?_)
  refine WC.cond _ rfl (fun c0 => ?_) (fun c0 => ?_)
  ·
    have p0 := c0
    try simp only [CN] at p0
    refine WC.drawn2 (by kernel_rfl) ?_
    refine PG.op _ rfl rfl rfl (fun _ _ => o_move (.ptr _ _ _) rfl) ?_
    refine PG.op _ rfl rfl rfl (fun _ _ => o_move (.adr _) rfl) ?_
    refine PG.op _ rfl rfl rfl (fun _ _ => o_nilA rfl) ?_
    refine PG.op _ rfl rfl rfl (fun _ _ => o_fld_adr rfl Try.underlying58 rfl (sz_of Ty.inf23) (by decide)) ?_
    refine PG.op _ rfl rfl rfl (fun _ _ => o_load_adr_L (xs := [_, _, _]) rfl Try.underlying23 rfl (sz_of Ty.inf23) rfl) ?_
    refine PG.op _ rfl rfl rfl (fun _ _ => o_move (.adr _) rfl) ?_
    refine PG.op _ rfl rfl rfl (fun _ _ => o_nilA rfl) ?_
    refine PG.op _ rfl rfl rfl (fun _ _ => o_fld_adr rfl Try.underlying58 rfl (sz_of Ty.inf23) (by decide)) ?_
    refine PG.op _ rfl rfl rfl (fun _ _ => o_load_adr_L (xs := [_, _, _]) rfl Try.underlying23 rfl (sz_of Ty.inf23) rfl) ?_
    refine PG.op _ rfl rfl rfl (fun _ _ => o_move (.v _) rfl) ?_
    refine PG.opm _ _ rfl rfl rfl (OpX.d (x_call Ty.cal45 (FunM.frame (ds := [_, _, _, _]) [0] [_] [_] [] (pick_c s ar f1 f2 f3 d o.best o.by') (by decide) ⟨rfl, trivial⟩ ⟨.pure (by repeat (first | exact pu_bytes _ | exact pu_nil | exact pu_vs rfl | exact pu_map (fun _ => .v _) _ | exact pu_vals _ | refine pu_app ?_ ?_ | refine pu_cons (by exact pu_of rfl) ?_)), trivial⟩ ⟨.ptr _ _ _ rfl, .pure _ (by exact pu_of rfl), .pure _ (by exact pu_of rfl), .pure _ (by exact pu_of rfl), trivial⟩ rfl ⟨.pure (by repeat (first | exact pu_bytes _ | exact pu_nil | exact pu_vs rfl | exact pu_map (fun _ => .v _) _ | exact pu_vals _ | refine pu_app ?_ ?_ | refine pu_cons (by exact pu_of rfl) ?_)), trivial⟩ (.pure _ (by exact pu_of rfl)) rfl) ⟨.inl rfl, .inl rfl, .inl rfl, .inl rfl, trivial⟩) (VLe.le (by repeat (first | exact trivial | refine And.intro (Nat.le_refl _) ?_ | refine And.intro trivial ?_ | refine And.intro (by show _ ≤ _; (first | omega | (simp only [LS] <;> omega))) ?_)))) ?_
    refine PG.nil ⟨by kernel_rfl, trivial, ?_⟩
    first | refine endM.mkN 1 [_] rfl rfl (by repeat (first | exact trivial | refine And.intro (one_ok (.own _ _ _ _ _ (Nat.le_refl _))) ?_ | refine And.intro (okp (by repeat (first | exact pu_bytes _ | exact pu_nil | exact pu_vs rfl | exact pu_map (fun _ => .v _) _ | exact pu_vals _ | refine pu_app ?_ ?_ | refine pu_cons (by exact pu_of rfl) ?_))) ?_)) ?_ | (simp only [thenQ, blkQ, noGo, if_true]; refine endM.mkN 1 [_] rfl rfl (by repeat (first | exact trivial | refine And.intro (one_ok (.own _ _ _ _ _ (Nat.le_refl _))) ?_ | refine And.intro (okp (by repeat (first | exact pu_bytes _ | exact pu_nil | exact pu_vs rfl | exact pu_map (fun _ => .v _) _ | exact pu_vals _ | refine pu_app ?_ ?_ | refine pu_cons (by exact pu_of rfl) ?_))) ?_)) ?_)
    exact EndsM.r0 rfl   (⟨rfl, by rw [if_pos c0]⟩)
  ·
    have p0 := c0
    try simp only [CN] at p0
    refine WC.skip ?_
    first | refine endM.mkN 1 [_] rfl rfl (by repeat (first | exact trivial | refine And.intro (one_ok (.own _ _ _ _ _ (Nat.le_refl _))) ?_ | refine And.intro (okp (by repeat (first | exact pu_bytes _ | exact pu_nil | exact pu_vs rfl | exact pu_map (fun _ => .v _) _ | exact pu_vals _ | refine pu_app ?_ ?_ | refine pu_cons (by exact pu_of rfl) ?_))) ?_)) ?_ | (simp only [thenQ, blkQ, noGo, if_true]; refine endM.mkN 1 [_] rfl rfl (by repeat (first | exact trivial | refine And.intro (one_ok (.own _ _ _ _ _ (Nat.le_refl _))) ?_ | refine And.intro (okp (by repeat (first | exact pu_bytes _ | exact pu_nil | exact pu_vs rfl | exact pu_map (fun _ => .v _) _ | exact pu_vals _ | refine pu_app ?_ ?_ | refine pu_cons (by exact pu_of rfl) ?_))) ?_)) ?_)
    exact EndsM.r0 rfl   (⟨rfl, by rw [if_neg (by simpa using c0)]⟩)
set_option maxHeartbeats 4000000 in
theorem addLess_c : FunM Try.prog 31 [.ptr 0 0 0, .adr (stc o ar' g1 g2 g3)] [stb s ar f1 f2 f3] (FQ (if o.has = true then pickM (-1) o.best o.by' s else s) ar f1 f2 f3) := by
  refine FunM.of Try.func31 rfl (Nat.le_of_ble_eq_true rfl) fun C => ?_
  refine WC.region ?_
  refine RG.op _ _ rfl rfl (o_move (.ptr _ _ _) rfl) ?_
  refine RG.op _ _ rfl rfl (o_move (.adr _) rfl) ?_
  refine RG.op _ _ rfl rfl (OpX.d (x_call Ty.cal46 (FunM.frame (ds := [_, _, _]) [0] [_] [_] [] (addPick_c s o ar f1 f2 f3 ar' g1 g2 g3 (-1)) (by decide) ⟨rfl, trivial⟩ ⟨.pure (by repeat (first | exact pu_bytes _ | exact pu_nil | exact pu_vs rfl | exact pu_map (fun _ => .v _) _ | exact pu_vals _ | refine pu_app ?_ ?_ | refine pu_cons (by exact pu_of rfl) ?_)), trivial⟩ ⟨.ptr _ _ _ rfl, .pure _ (by exact pu_of rfl), .pure _ (by exact pu_of rfl), trivial⟩ rfl ⟨.pure (by repeat (first | exact pu_bytes _ | exact pu_nil | exact pu_vs rfl | exact pu_map (fun _ => .v _) _ | exact pu_vals _ | refine pu_app ?_ ?_ | refine pu_cons (by exact pu_of rfl) ?_)), trivial⟩ (.pure _ (by exact pu_of rfl)) rfl) ⟨.inl rfl, .inl rfl, .inl rfl, trivial⟩) (VLe.le (by repeat (first | exact trivial | refine And.intro (Nat.le_refl _) ?_ | refine And.intro trivial ?_ | refine And.intro (by show _ ≤ _; (first | omega | (simp only [LS] <;> omega))) ?_)))) ?_
  refine RG.nil ?_
  first | refine endM.mkN 1 [_] rfl rfl (by repeat (first | exact trivial | refine And.intro (one_ok (.own _ _ _ _ _ (Nat.le_refl _))) ?_ | refine And.intro (okp (by repeat (first | exact pu_bytes _ | exact pu_nil | exact pu_vs rfl | exact pu_map (fun _ => .v _) _ | exact pu_vals _ | refine pu_app ?_ ?_ | refine pu_cons (by exact pu_of rfl) ?_))) ?_)) ?_ | (simp only [thenQ, blkQ, noGo, if_true]; refine endM.mkN 1 [_] rfl rfl (by repeat (first | exact trivial | refine And.intro (one_ok (.own _ _ _ _ _ (Nat.le_refl _))) ?_ | refine And.intro (okp (by repeat (first | exact pu_bytes _ | exact pu_nil | exact pu_vs rfl | exact pu_map (fun _ => .v _) _ | exact pu_vals _ | refine pu_app ?_ ?_ | refine pu_cons (by exact pu_of rfl) ?_))) ?_)) ?_)
  exact EndsM.r0 rfl   (⟨rfl, rfl⟩)
set_option maxHeartbeats 4000000 in
theorem addFirst_c : FunM Try.prog 36 [.ptr 0 0 0, .adr (stc o ar' g1 g2 g3)] [stb s ar f1 f2 f3] (FQ (if o.has = true then pickM (-1) o.best o.by' s else s) ar f1 f2 f3) := by
  refine FunM.of Try.func36 rfl (Nat.le_of_ble_eq_true rfl) fun C => ?_
  refine WC.region ?_
  refine RG.op _ _ rfl rfl (o_move (.ptr _ _ _) rfl) ?_
  refine RG.op _ _ rfl rfl (o_move (.adr _) rfl) ?_
  refine RG.op _ _ rfl rfl (OpX.d (x_call Ty.cal46 (FunM.frame (ds := [_, _, _]) [0] [_] [_] [] (addPick_c s o ar f1 f2 f3 ar' g1 g2 g3 (-1)) (by decide) ⟨rfl, trivial⟩ ⟨.pure (by repeat (first | exact pu_bytes _ | exact pu_nil | exact pu_vs rfl | exact pu_map (fun _ => .v _) _ | exact pu_vals _ | refine pu_app ?_ ?_ | refine pu_cons (by exact pu_of rfl) ?_)), trivial⟩ ⟨.ptr _ _ _ rfl, .pure _ (by exact pu_of rfl), .pure _ (by exact pu_of rfl), trivial⟩ rfl ⟨.pure (by repeat (first | exact pu_bytes _ | exact pu_nil | exact pu_vs rfl | exact pu_map (fun _ => .v _) _ | exact pu_vals _ | refine pu_app ?_ ?_ | refine pu_cons (by exact pu_of rfl) ?_)), trivial⟩ (.pure _ (by exact pu_of rfl)) rfl) ⟨.inl rfl, .inl rfl, .inl rfl, trivial⟩) (VLe.le (by repeat (first | exact trivial | refine And.intro (Nat.le_refl _) ?_ | refine And.intro trivial ?_ | refine And.intro (by show _ ≤ _; (first | omega | (simp only [LS] <;> omega))) ?_)))) ?_
  refine RG.nil ?_
  first | refine endM.mkN 1 [_] rfl rfl (by repeat (first | exact trivial | refine And.intro (one_ok (.own _ _ _ _ _ (Nat.le_refl _))) ?_ | refine And.intro (okp (by repeat (first | exact pu_bytes _ | exact pu_nil | exact pu_vs rfl | exact pu_map (fun _ => .v _) _ | exact pu_vals _ | refine pu_app ?_ ?_ | refine pu_cons (by exact pu_of rfl) ?_))) ?_)) ?_ | (simp only [thenQ, blkQ, noGo, if_true]; refine endM.mkN 1 [_] rfl rfl (by repeat (first | exact trivial | refine And.intro (one_ok (.own _ _ _ _ _ (Nat.le_refl _))) ?_ | refine And.intro (okp (by repeat (first | exact pu_bytes _ | exact pu_nil | exact pu_vs rfl | exact pu_map (fun _ => .v _) _ | exact pu_vals _ | refine pu_app ?_ ?_ | refine pu_cons (by exact pu_of rfl) ?_))) ?_)) ?_)
  exact EndsM.r0 rfl   (⟨rfl, rfl⟩)
set_option maxHeartbeats 4000000 in
theorem addMore_c : FunM Try.prog 34 [.ptr 0 0 0, .adr (stc o ar' g1 g2 g3)] [stb s ar f1 f2 f3] (FQ (if o.has = true then pickM 1 o.best o.by' s else s) ar f1 f2 f3) := by
  refine FunM.of Try.func34 rfl (Nat.le_of_ble_eq_true rfl) fun C => ?_
  refine WC.region ?_
  refine RG.op _ _ rfl rfl (o_move (.ptr _ _ _) rfl) ?_
  refine RG.op _ _ rfl rfl (o_move (.adr _) rfl) ?_
  refine RG.op _ _ rfl rfl (OpX.d (x_call Ty.cal46 (FunM.frame (ds := [_, _, _]) [0] [_] [_] [] (addPick_c s o ar f1 f2 f3 ar' g1 g2 g3 1) (by decide) ⟨rfl, trivial⟩ ⟨.pure (by repeat (first | exact pu_bytes _ | exact pu_nil | exact pu_vs rfl | exact pu_map (fun _ => .v _) _ | exact pu_vals _ | refine pu_app ?_ ?_ | refine pu_cons (by exact pu_of rfl) ?_)), trivial⟩ ⟨.ptr _ _ _ rfl, .pure _ (by exact pu_of rfl), .pure _ (by exact pu_of rfl), trivial⟩ rfl ⟨.pure (by repeat (first | exact pu_bytes _ | exact pu_nil | exact pu_vs rfl | exact pu_map (fun _ => .v _) _ | exact pu_vals _ | refine pu_app ?_ ?_ | refine pu_cons (by exact pu_of rfl) ?_)), trivial⟩ (.pure _ (by exact pu_of rfl)) rfl) ⟨.inl rfl, .inl rfl, .inl rfl, trivial⟩) (VLe.le (by repeat (first | exact trivial | refine And.intro (Nat.le_refl _) ?_ | refine And.intro trivial ?_ | refine And.intro (by show _ ≤ _; (first | omega | (simp only [LS] <;> omega))) ?_)))) ?_
  refine RG.nil ?_
  first | refine endM.mkN 1 [_] rfl rfl (by repeat (first | exact trivial | refine And.intro (one_ok (.own _ _ _ _ _ (Nat.le_refl _))) ?_ | refine And.intro (okp (by repeat (first | exact pu_bytes _ | exact pu_nil | exact pu_vs rfl | exact pu_map (fun _ => .v _) _ | exact pu_vals _ | refine pu_app ?_ ?_ | refine pu_cons (by exact pu_of rfl) ?_))) ?_)) ?_ | (simp only [thenQ, blkQ, noGo, if_true]; refine endM.mkN 1 [_] rfl rfl (by repeat (first | exact trivial | refine And.intro (one_ok (.own _ _ _ _ _ (Nat.le_refl _))) ?_ | refine And.intro (okp (by repeat (first | exact pu_bytes _ | exact pu_nil | exact pu_vs rfl | exact pu_map (fun _ => .v _) _ | exact pu_vals _ | refine pu_app ?_ ?_ | refine pu_cons (by exact pu_of rfl) ?_))) ?_)) ?_)
  exact EndsM.r0 rfl   (⟨rfl, rfl⟩)
set_option maxHeartbeats 4000000 in
theorem addLast_c : FunM Try.prog 38 [.ptr 0 0 0, .adr (stc o ar' g1 g2 g3)] [stb s ar f1 f2 f3] (FQ (if o.has = true then pickM 1 o.best o.by' s else s) ar f1 f2 f3) := by
  refine FunM.of Try.func38 rfl (Nat.le_of_ble_eq_true rfl) fun C => ?_
  refine WC.region ?_
  refine RG.op _ _ rfl rfl (o_move (.ptr _ _ _) rfl) ?_
  refine RG.op _ _ rfl rfl (o_move (.adr _) rfl) ?_
  refine RG.op _ _ rfl rfl (OpX.d (x_call Ty.cal46 (FunM.frame (ds := [_, _, _]) [0] [_] [_] [] (addPick_c s o ar f1 f2 f3 ar' g1 g2 g3 1) (by decide) ⟨rfl, trivial⟩ ⟨.pure (by repeat (first | exact pu_bytes _ | exact pu_nil | exact pu_vs rfl | exact pu_map (fun _ => .v _) _ | exact pu_vals _ | refine pu_app ?_ ?_ | refine pu_cons (by exact pu_of rfl) ?_)), trivial⟩ ⟨.ptr _ _ _ rfl, .pure _ (by exact pu_of rfl), .pure _ (by exact pu_of rfl), trivial⟩ rfl ⟨.pure (by repeat (first | exact pu_bytes _ | exact pu_nil | exact pu_vs rfl | exact pu_map (fun _ => .v _) _ | exact pu_vals _ | refine pu_app ?_ ?_ | refine pu_cons (by exact pu_of rfl) ?_)), trivial⟩ (.pure _ (by exact pu_of rfl)) rfl) ⟨.inl rfl, .inl rfl, .inl rfl, trivial⟩) (VLe.le (by repeat (first | exact trivial | refine And.intro (Nat.le_refl _) ?_ | refine And.intro trivial ?_ | refine And.intro (by show _ ≤ _; (first | omega | (simp only [LS] <;> omega))) ?_)))) ?_
  refine RG.nil ?_
  first | refine endM.mkN 1 [_] rfl rfl (by repeat (first | exact trivial | refine And.intro (one_ok (.own _ _ _ _ _ (Nat.le_refl _))) ?_ | refine And.intro (okp (by repeat (first | exact pu_bytes _ | exact pu_nil | exact pu_vs rfl | exact pu_map (fun _ => .v _) _ | exact pu_vals _ | refine pu_app ?_ ?_ | refine pu_cons (by exact pu_of rfl) ?_))) ?_)) ?_ | (simp only [thenQ, blkQ, noGo, if_true]; refine endM.mkN 1 [_] rfl rfl (by repeat (first | exact trivial | refine And.intro (one_ok (.own _ _ _ _ _ (Nat.le_refl _))) ?_ | refine And.intro (okp (by repeat (first | exact pu_bytes _ | exact pu_nil | exact pu_vs rfl | exact pu_map (fun _ => .v _) _ | exact pu_vals _ | refine pu_app ?_ ?_ | refine pu_cons (by exact pu_of rfl) ?_))) ?_)) ?_)
  exact EndsM.r0 rfl   (⟨rfl, rfl⟩)
end
end Go.Proofs.Ytpacdeiaimfiaaa
