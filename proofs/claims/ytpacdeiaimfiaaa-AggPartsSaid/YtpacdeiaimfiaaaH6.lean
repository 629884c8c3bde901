/-
  Layer agg: states made, fed, added, asked. No condition but a state's size.
-/
import Derived.Test.YtpacdeiaimfiaaaH5
import Derived.Test.YtpacdeiaimfiaaaDlU
set_option linter.unusedSimpArgs false
set_option linter.unusedVariables false
namespace Go.Proofs.Ytpacdeiaimfiaaa
open Go.RowKit Go.DL
set_option maxRecDepth 8000
def st0 (op : UInt8) : St := ⟨op, 0, 0, false, z0, z0⟩
/-- A state of an aggregate. -/
abbrev sb (op : UInt8) (s : St) : Option Blk := stb s (arN op) (fN1 op) (fN2 op) (fN3 op)
abbrev wb (op : UInt8) : Option Blk := some ⟨[I64 (arN op), fnD (fN1 op), fnD (fN2 op), fnD (fN3 op)], 53, false, 0⟩
set_option maxHeartbeats 4000000 in
theorem new_c (op : UInt8) (hc : aggB op = true) : FunM Try.prog 9 [B8 op] [] (fun o H' => o = .ret (.tup [.ptr 1 0 0, I64 0]) ∧ H' = [wb op, sb op (st0 op)]) := by
  refine FunM.of Try.func9 rfl (Nat.le_of_ble_eq_true rfl) fun C => ?_
  refine WC.seq fun Fh1_ h1_ => ?_
  refine WC.region ?_
  refine RG.op _ _ rfl rfl (o_assign (.v _) rfl) ?_
  refine RG.op _ _ rfl rfl (o_assign (.v _) rfl) ?_
  refine RG.nil (h1_ _ ?_)
  refine WC.seq fun Fh2_ h2_ => ?_
  refine WC.region ?_
  refine RG.op _ _ rfl rfl (o_call Ty.cal18 (table_c) trivial (by exact pua rfl)) ?_
  refine RG.op _ _ rfl rfl (o_move (.v _) rfl) ?_
  refine RG.op _ _ rfl rfl (look_hit hc rfl rfl) ?_
  refine RG.op _ _ rfl rfl (o_move (.tup _) rfl) ?_
  refine RG.op _ _ rfl rfl (o_extract rfl rfl) ?_
  refine RG.op _ _ rfl rfl (o_extract rfl rfl) ?_
  refine RG.op _ _ rfl rfl (o_alloc (z_of Ty.inf53) rfl) ?_
  refine RG.op _ _ rfl rfl (o_store (d := (.agg [_, _, _, _])) rfl rfl rfl rfl (sz_of Ty.inf53) (Nat.le_of_ble_eq_true rfl) rfl) ?_
  refine RG.op _ _ rfl rfl (o_assign (.v _) rfl) ?_
  refine RG.nil (h2_ _ ?_)
  refine WC.seq fun Fh3_ h3_ => ?_
  refine WC.seq fun Fh4_ h4_ => ?_
  refine WC.region ?_
  refine RG.op _ _ rfl rfl (o_move (.v _) rfl) ?_
  refine RG.op _ _ rfl rfl (o_not rfl) ?_
  refine RG.nil (h4_ _ ?_)
  refine WC.cond _ rfl (fun c2 => ?_) (fun c2 => ?_)
  ·
    have p2 := c2
    try simp only [CN] at p2
    cases c2
  ·
    have p2 := c2
    try simp only [CN] at p2
    refine WC.skip (h3_ _ ?_)
    refine WC.seq fun Fh5_ h5_ => ?_
    refine WC.region ?_
    refine RG.op _ _ rfl rfl (o_move (.v _) rfl) ?_
    refine RG.op _ _ rfl rfl (o_load_ptr_L (xs := [_, _, _, _]) rfl Try.underlying53 rfl (sz_of Ty.inf53) rfl rfl rfl rfl) ?_
    refine RG.op _ _ rfl rfl (o_build (cs := [(.v _), N64 0, N64 0, N64 0, Bo false, Bo false, B8 0, I64 0, S [], B8 0, I64 0, S [], _, _, _, _]) Try.underlying58 Ty.inf58 (Ty.pl58 Try.underlying58) rfl) ?_
    refine RG.op _ _ rfl rfl (o_box (d := .agg [_, _, _, _, _, _, _, _, _, _, _, _, _, _, _, _]) rfl rfl) ?_
    refine RG.op _ _ rfl rfl (o_assign (.ptr _ _ _) rfl) ?_
    refine RG.op _ _ rfl rfl (o_assign (.v _) rfl) ?_
    refine RG.nil (h5_ _ ?_)
    refine WC.ret ?_
    first | refine endM.mk (H0 := []) 2 [_, _] rfl rfl (by repeat (first | exact trivial | refine And.intro (one_ok (.own _ _ _ _ _ (Nat.le_refl _))) ?_ | refine And.intro (okp (by repeat (first | exact pu_bytes _ | exact pu_nil | exact pu_vs rfl | exact pu_map (fun _ => .v _) _ | exact pu_vals _ | refine pu_app ?_ ?_ | refine pu_cons (by exact pu_of rfl) ?_))) ?_)) ?_ | (simp only [thenQ, blkQ, noGo]; refine endM.mk (H0 := []) 2 [_, _] rfl rfl (by repeat (first | exact trivial | refine And.intro (one_ok (.own _ _ _ _ _ (Nat.le_refl _))) ?_ | refine And.intro (okp (by repeat (first | exact pu_bytes _ | exact pu_nil | exact pu_vs rfl | exact pu_map (fun _ => .v _) _ | exact pu_vals _ | refine pu_app ?_ ?_ | refine pu_cons (by exact pu_of rfl) ?_))) ?_)) ?_) | refine endM.mk 2 [_, _] rfl rfl (by repeat (first | exact trivial | refine And.intro (one_ok (.own _ _ _ _ _ (Nat.le_refl _))) ?_ | refine And.intro (okp (by repeat (first | exact pu_bytes _ | exact pu_nil | exact pu_vs rfl | exact pu_map (fun _ => .v _) _ | exact pu_vals _ | refine pu_app ?_ ?_ | refine pu_cons (by exact pu_of rfl) ?_))) ?_)) ?_
    exact EndsM.r2 rfl (.tmp _ (.ptr _ _ _) rfl) (.tmp _ (.v _) rfl) (by first | exact .own _ _ _ _ _ (Nat.le_refl _) | exact .v _ | exact .ptr _ _ _ (Nat.le_refl _) | exact Pure'.ok (by exact pu_of rfl) _ | exact .tup _ (by repeat (first | exact ok_nil | refine ok_cons (by first | exact .own _ _ _ _ _ (Nat.le_refl _) | exact .ptr _ _ _ (Nat.le_refl _) | exact .v _ | exact Pure'.ok (by exact pu_of rfl) _) ?_))) (⟨rfl, rfl⟩)
set_option maxHeartbeats 4000000 in
theorem newBad_c (op : UInt8) (hc : aggB op = false) : Fun Try.prog 9 [B8 op] (· = .tup [.v (.pointer none), I64 1]) := by
  refine Fun.of Try.func9 rfl (Nat.le_of_ble_eq_true rfl) fun C => ?_
  refine WC.seq fun Fh1_ h1_ => ?_
  refine WC.region ?_
  refine RG.op _ _ rfl rfl (o_assign (.v _) rfl) ?_
  refine RG.op _ _ rfl rfl (o_assign (.v _) rfl) ?_
  refine RG.nil (h1_ _ ?_)
  refine WC.seq fun Fh2_ h2_ => ?_
  refine WC.region ?_
  refine RG.op _ _ rfl rfl (o_call Ty.cal18 (table_c) trivial (by exact pua rfl)) ?_
  refine RG.op _ _ rfl rfl (o_move (.v _) rfl) ?_
  refine RG.op _ _ rfl rfl (look_miss hc rfl rfl) ?_
  refine RG.op _ _ rfl rfl (o_move (.tup _) rfl) ?_
  refine RG.op _ _ rfl rfl (o_extract rfl rfl) ?_
  refine RG.op _ _ rfl rfl (o_extract rfl rfl) ?_
  refine RG.op _ _ rfl rfl (o_alloc (z_of Ty.inf53) rfl) ?_
  refine RG.op _ _ rfl rfl (o_store (d := (.agg [_, _, _, _])) rfl rfl rfl rfl (sz_of Ty.inf53) (Nat.le_of_ble_eq_true rfl) rfl) ?_
  refine RG.op _ _ rfl rfl (o_assign (.v _) rfl) ?_
  refine RG.nil (h2_ _ ?_)
  refine WC.seq fun Fh3_ h3_ => ?_
  refine WC.seq fun Fh4_ h4_ => ?_
  refine WC.region ?_
  refine RG.op _ _ rfl rfl (o_move (.v _) rfl) ?_
  refine RG.op _ _ rfl rfl (o_not rfl) ?_
  refine RG.nil (h4_ _ ?_)
  refine WC.cond _ rfl (fun c2 => ?_) (fun c2 => ?_)
  ·
    have p2 := c2
    try simp only [CN] at p2
    refine WC.seq fun Fh5_ h5_ => ?_
    refine WC.region ?_
    refine RG.op _ _ rfl rfl (o_assign (.v _) rfl) ?_
    refine RG.op _ _ rfl rfl (o_assign (.v _) rfl) ?_
    refine RG.nil (h5_ _ ?_)
    refine WC.ret ?_
    exact Ends.r2 rfl (.tmp _ (.v _) rfl) (.tmp _ (.v _) rfl) (.v _) (.v _) (rfl)
  ·
    have p2 := c2
    try simp only [CN] at p2
    cases c2
set_option maxHeartbeats 4000000 in
theorem isT_c (op : UInt8) (hc : aggB op = true) : Fun Try.prog 14 [B8 op] (· = Bo true) := by
  refine Fun.of Try.func14 rfl (Nat.le_of_ble_eq_true rfl) fun C => ?_
  refine WC.seq fun Fh1_ h1_ => ?_
  refine WC.region ?_
  refine RG.op _ _ rfl rfl (o_assign (.v _) rfl) ?_
  refine RG.nil (h1_ _ ?_)
  refine WC.seq fun Fh2_ h2_ => ?_
  refine WC.region ?_
  refine RG.op _ _ rfl rfl (o_call Ty.cal18 (table_c) trivial (by exact pua rfl)) ?_
  refine RG.op _ _ rfl rfl (o_move (.v _) rfl) ?_
  refine RG.op _ _ rfl rfl (look_hit hc rfl rfl) ?_
  refine RG.op _ _ rfl rfl (o_move (.tup _) rfl) ?_
  refine RG.op _ _ rfl rfl (o_extract rfl rfl) ?_
  refine RG.op _ _ rfl rfl (o_extract rfl rfl) ?_
  refine RG.op _ _ rfl rfl (o_alloc (z_of Ty.inf53) rfl) ?_
  refine RG.op _ _ rfl rfl (o_store (d := (.agg [_, _, _, _])) rfl rfl rfl rfl (sz_of Ty.inf53) (Nat.le_of_ble_eq_true rfl) rfl) ?_
  refine RG.op _ _ rfl rfl (o_assign (.v _) rfl) ?_
  refine RG.nil (h2_ _ ?_)
  refine WC.seq fun Fh3_ h3_ => ?_
  refine WC.region ?_
  refine RG.op _ _ rfl rfl (o_move (.v _) rfl) ?_
  refine RG.op _ _ rfl rfl (o_assign (.v _) rfl) ?_
  refine RG.nil (h3_ _ ?_)
  refine WC.ret ?_
  exact Ends.r1 rfl (.tmp _ (.v _) rfl) (.v _) (rfl)
set_option maxHeartbeats 4000000 in
theorem isF_c (op : UInt8) (hc : aggB op = false) : Fun Try.prog 14 [B8 op] (· = Bo false) := by
  refine Fun.of Try.func14 rfl (Nat.le_of_ble_eq_true rfl) fun C => ?_
  refine WC.seq fun Fh1_ h1_ => ?_
  refine WC.region ?_
  refine RG.op _ _ rfl rfl (o_assign (.v _) rfl) ?_
  refine RG.nil (h1_ _ ?_)
  refine WC.seq fun Fh2_ h2_ => ?_
  refine WC.region ?_
  refine RG.op _ _ rfl rfl (o_call Ty.cal18 (table_c) trivial (by exact pua rfl)) ?_
  refine RG.op _ _ rfl rfl (o_move (.v _) rfl) ?_
  refine RG.op _ _ rfl rfl (look_miss hc rfl rfl) ?_
  refine RG.op _ _ rfl rfl (o_move (.tup _) rfl) ?_
  refine RG.op _ _ rfl rfl (o_extract rfl rfl) ?_
  refine RG.op _ _ rfl rfl (o_extract rfl rfl) ?_
  refine RG.op _ _ rfl rfl (o_alloc (z_of Ty.inf53) rfl) ?_
  refine RG.op _ _ rfl rfl (o_store (d := (.agg [_, _, _, _])) rfl rfl rfl rfl (sz_of Ty.inf53) (Nat.le_of_ble_eq_true rfl) rfl) ?_
  refine RG.op _ _ rfl rfl (o_assign (.v _) rfl) ?_
  refine RG.nil (h2_ _ ?_)
  refine WC.seq fun Fh3_ h3_ => ?_
  refine WC.region ?_
  refine RG.op _ _ rfl rfl (o_move (.v _) rfl) ?_
  refine RG.op _ _ rfl rfl (o_assign (.v _) rfl) ?_
  refine RG.nil (h3_ _ ?_)
  refine WC.ret ?_
  exact Ends.r1 rfl (.tmp _ (.v _) rfl) (.v _) (rfl)
theorem is_c (op : UInt8) : Fun Try.prog 14 [B8 op] (· = Bo (aggB op)) := by
  cases hc : aggB op with
  | true => exact isT_c op hc
  | false => exact isF_c op hc
set_option maxHeartbeats 4000000 in
theorem args_c (op : UInt8) (hc : aggB op = true) : Fun Try.prog 19 [B8 op] (· = I64 (arN op)) := by
  refine Fun.of Try.func19 rfl (Nat.le_of_ble_eq_true rfl) fun C => ?_
  refine WC.seq fun Fh1_ h1_ => ?_
  refine WC.region ?_
  refine RG.op _ _ rfl rfl (o_assign (.v _) rfl) ?_
  refine RG.nil (h1_ _ ?_)
  refine WC.seq fun Fh2_ h2_ => ?_
  refine WC.region ?_
  refine RG.op _ _ rfl rfl (o_call Ty.cal18 (table_c) trivial (by exact pua rfl)) ?_
  refine RG.op _ _ rfl rfl (o_move (.v _) rfl) ?_
  refine RG.op _ _ rfl rfl (look_hit (ok := false) hc rfl rfl) ?_
  refine RG.op _ _ rfl rfl (o_field rfl Try.underlying53 rfl Try.underlying3 rfl rfl) ?_
  refine RG.op _ _ rfl rfl (o_assign (.v _) rfl) ?_
  refine RG.nil (h2_ _ ?_)
  refine WC.ret ?_
  exact Ends.r1 rfl (.tmp _ (.v _) rfl) (.v _) (rfl)
section
variable (s s' o : St) (ar : Int) (f1 f2 f3 : Nat) (ar' : Int) (g1 g2 g3 : Nat) (a b : Val)
set_option maxHeartbeats 4000000 in
theorem feed_c (hcal : DL.Callee Try.prog f1) (hf : FunM Try.prog f1 [.ptr 0 0 0, VD a, VD b] [stb s ar f1 f2 f3] (FQ s' ar f1 f2 f3)) : FunM Try.prog 7 [.ptr 0 0 0, VD a, VD b] [stb s ar f1 f2 f3] (FQ s' ar f1 f2 f3) := by
  refine FunM.of Try.func7 rfl (Nat.le_of_ble_eq_true rfl) fun C => ?_
  refine WC.seq fun Fh1_ h1_ => ?_
  refine WC.region ?_
  refine RG.op _ _ rfl rfl (o_box (d := .agg [_, _, _]) rfl rfl) ?_
  refine RG.op _ _ rfl rfl (o_box (d := .agg [_, _, _]) rfl rfl) ?_
  refine RG.nil (h1_ _ ?_)
  refine WC.seq fun Fh2_ h2_ => ?_
  refine WC.seq fun Fh3_ h3_ => ?_
  refine WC.region ?_
  refine RG.op _ _ rfl rfl (o_move (.ptr _ _ _) rfl) ?_
  refine RG.op _ _ rfl rfl (o_eqNP rfl rfl Try.underlying24) ?_
  refine RG.op _ _ rfl rfl (o_move (.v _) rfl) ?_
  refine RG.opg1 _ _ _ _ _ rfl rfl rfl rfl rfl (fun hb => o_move (.ptr _ _ _) rfl) ?_
  refine RG.opg1 _ _ _ _ _ rfl rfl rfl rfl rfl (fun hb => o_nilP (gdT hb)) ?_
  refine RG.opg1 _ _ _ _ _ rfl rfl rfl rfl rfl (fun hb => o_fld_ptr (gdT hb) Try.underlying58 rfl (sz_of Ty.inf53) (by decide)) ?_
  refine RG.opg1 _ _ _ _ _ rfl rfl rfl rfl rfl (fun hb => o_fld_ptr (gdT hb) Try.underlying53 rfl (sz_of Ty.inf49) (by decide)) ?_
  refine RG.opg1 _ _ _ _ _ rfl rfl rfl rfl rfl (fun hb => o_load_ptr (gdT hb) Try.underlying49 rfl rfl rfl rfl) ?_
  refine RG.opg1 _ _ _ _ _ rfl rfl rfl rfl rfl (fun hb => o_eqNF (gdT hb) rfl Try.underlying49) ?_
  refine RG.op _ _ rfl rfl (o_or _ _ rfl rfl rfl) ?_
  refine RG.nil (h3_ _ ?_)
  refine WC.cond _ rfl (fun c1 => ?_) (fun c1 => ?_)
  ·
    have p1 := c1
    try simp only [CN] at p1
    cases c1
  ·
    have p1 := c1
    try simp only [CN] at p1
    refine WC.skip (h2_ _ ?_)
    refine WC.drawnLk (by kernel_rfl) ?_
    refine PL.op _ rfl rfl rfl ((fun _ => o_move (.ptr _ _ _) rfl)) ?_
    refine PL.op _ rfl rfl rfl ((fun _ => o_nilP rfl)) ?_
    refine PL.op _ rfl rfl rfl ((fun _ => o_fld_ptr rfl Try.underlying58 rfl (sz_of Ty.inf53) (by decide))) ?_
    refine PL.op _ rfl rfl rfl ((fun _ => o_fld_ptr rfl Try.underlying53 rfl (sz_of Ty.inf49) (by decide))) ?_
    refine PL.opl _ rfl rfl rfl (o_load_ptr rfl Try.underlying49 rfl rfl rfl rfl) ?_
    refine PL.op _ rfl rfl rfl ((fun _ => o_move (.ptr _ _ _) rfl)) ?_
    refine PL.opl _ rfl rfl rfl (o_load_ptr_L (xs := [_, _, _]) rfl Try.underlying23 rfl (sz_of Ty.inf23) rfl rfl rfl rfl) ?_
    refine PL.opl _ rfl rfl rfl (o_load_ptr_L (xs := [_, _, _]) rfl Try.underlying23 rfl (sz_of Ty.inf23) rfl rfl rfl rfl) ?_
    refine PL.opm _ _ rfl rfl rfl (OpX.d (x_callV (cs := []) (ds := [.ptr 0 0 0, VD a, VD b]) (.inr ⟨rfl, rfl⟩) hcal (FunM.frame (ds := [.ptr 0 0 0, VD a, VD b]) [0] [_] [_] [] hf (by decide) ⟨rfl, trivial⟩ ⟨.pure (by repeat (first | exact pu_bytes _ | exact pu_nil | exact pu_vs rfl | exact pu_map (fun _ => .v _) _ | exact pu_vals _ | refine pu_app ?_ ?_ | refine pu_cons (by exact pu_of rfl) ?_)), trivial⟩ ⟨.ptr _ _ _ rfl, .pure _ (by exact pu_of rfl), .pure _ (by exact pu_of rfl), trivial⟩ rfl ⟨.pure (by repeat (first | exact pu_bytes _ | exact pu_nil | exact pu_vs rfl | exact pu_map (fun _ => .v _) _ | exact pu_vals _ | refine pu_app ?_ ?_ | refine pu_cons (by exact pu_of rfl) ?_)), trivial⟩ (.pure _ (by exact pu_of rfl)) rfl) ⟨.inl rfl, .inl rfl, .inl rfl, trivial⟩) (VLe.le (by repeat (first | exact trivial | refine And.intro (Nat.le_refl _) ?_ | refine And.intro trivial ?_ | refine And.intro (by show _ ≤ _; (first | omega | (simp only [LS] <;> omega))) ?_)))) ?_
    refine PL.nil ⟨by kernel_rfl, by kernel_rfl, ?_⟩
    first | refine endM.mkN 1 [_] rfl rfl (by repeat (first | exact trivial | refine And.intro (one_ok (.own _ _ _ _ _ (Nat.le_refl _))) ?_ | refine And.intro (okp (by repeat (first | exact pu_bytes _ | exact pu_nil | exact pu_vs rfl | exact pu_map (fun _ => .v _) _ | exact pu_vals _ | refine pu_app ?_ ?_ | refine pu_cons (by exact pu_of rfl) ?_))) ?_)) ?_ | (simp only [thenQ, blkQ, noGo, if_true]; refine endM.mkN 1 [_] rfl rfl (by repeat (first | exact trivial | refine And.intro (one_ok (.own _ _ _ _ _ (Nat.le_refl _))) ?_ | refine And.intro (okp (by repeat (first | exact pu_bytes _ | exact pu_nil | exact pu_vs rfl | exact pu_map (fun _ => .v _) _ | exact pu_vals _ | refine pu_app ?_ ?_ | refine pu_cons (by exact pu_of rfl) ?_))) ?_)) ?_)
    exact EndsM.r0 rfl   (⟨rfl, rfl⟩)
set_option maxHeartbeats 4000000 in
theorem feedNil_c : Fun Try.prog 7 [.v (.pointer none), VD a, VD b] (· = .tup []) := by
  refine Fun.of Try.func7 rfl (Nat.le_of_ble_eq_true rfl) fun C => ?_
  refine WC.seq fun Fh1_ h1_ => ?_
  refine WC.region ?_
  refine RG.op _ _ rfl rfl (o_box (d := .agg [_, _, _]) rfl rfl) ?_
  refine RG.op _ _ rfl rfl (o_box (d := .agg [_, _, _]) rfl rfl) ?_
  refine RG.nil (h1_ _ ?_)
  refine WC.seq fun Fh2_ h2_ => ?_
  refine WC.seq fun Fh3_ h3_ => ?_
  refine WC.region ?_
  refine RG.op _ _ rfl rfl (o_move (.v _) rfl) ?_
  refine RG.op _ _ rfl rfl (o_eqNN rfl rfl Try.underlying24) ?_
  refine RG.op _ _ rfl rfl (o_move (.v _) rfl) ?_
  refine RG.opg1 _ _ _ _ _ rfl rfl rfl rfl rfl (fun hb => o_move (.v _) rfl) ?_
  refine RG.opg1 _ _ _ _ _ rfl rfl rfl rfl rfl (fun hb => OpD.off (.v .nilFunc) hb) ?_
  refine RG.opg1 _ _ _ _ _ rfl rfl rfl rfl rfl (fun hb => OpD.off (.v .nilFunc) hb) ?_
  refine RG.opg1 _ _ _ _ _ rfl rfl rfl rfl rfl (fun hb => OpD.off (.v .nilFunc) hb) ?_
  refine RG.opg1 _ _ _ _ _ rfl rfl rfl rfl rfl (fun hb => OpD.off (.v .nilFunc) hb) ?_
  refine RG.opg1 _ _ _ _ _ rfl rfl rfl rfl rfl (fun hb => OpD.off (.v (.bool false)) hb) ?_
  refine RG.op _ _ rfl rfl (o_or true false rfl rfl rfl) ?_
  refine RG.nil (h3_ _ ?_)
  refine WC.cond _ rfl (fun c1 => ?_) (fun c1 => ?_)
  ·
    have p1 := c1
    try simp only [CN] at p1
    refine WC.ret ?_
    exact Ends.r0 rfl   (rfl)
  ·
    have p1 := c1
    try simp only [CN] at p1
    cases c1
set_option maxHeartbeats 4000000 in
theorem answer_c (p : Val × Int) (hcal : DL.Callee Try.prog f3) (hf : FunM Try.prog f3 [.ptr 0 0 0] [stb s ar f1 f2 f3] (AQ s ar f1 f2 f3 p)) : FunM Try.prog 8 [.ptr 0 0 0] [stb s ar f1 f2 f3] (AQ s ar f1 f2 f3 p) := by
  refine FunM.of Try.func8 rfl (Nat.le_of_ble_eq_true rfl) fun C => ?_
  refine WC.seq fun Fh1_ h1_ => ?_
  refine WC.region ?_
  refine RG.op _ _ rfl rfl (o_alloc (z_of Ty.inf23) rfl) ?_
  refine RG.op _ _ rfl rfl (o_assign (.v _) rfl) ?_
  refine RG.nil (h1_ _ ?_)
  refine WC.seq fun Fh2_ h2_ => ?_
  refine WC.seq fun Fh3_ h3_ => ?_
  refine WC.region ?_
  refine RG.op _ _ rfl rfl (o_move (.ptr _ _ _) rfl) ?_
  refine RG.op _ _ rfl rfl (o_eqNP rfl rfl Try.underlying24) ?_
  refine RG.op _ _ rfl rfl (o_move (.v _) rfl) ?_
  refine RG.opg1 _ _ _ _ _ rfl rfl rfl rfl rfl (fun hb => o_move (.ptr _ _ _) rfl) ?_
  refine RG.opg1 _ _ _ _ _ rfl rfl rfl rfl rfl (fun hb => o_nilP (gdT hb)) ?_
  refine RG.opg1 _ _ _ _ _ rfl rfl rfl rfl rfl (fun hb => o_fld_ptr (gdT hb) Try.underlying58 rfl (sz_of Ty.inf53) (by decide)) ?_
  refine RG.opg1 _ _ _ _ _ rfl rfl rfl rfl rfl (fun hb => o_fld_ptr (gdT hb) Try.underlying53 rfl (sz_of Ty.inf51) (by decide)) ?_
  refine RG.opg1 _ _ _ _ _ rfl rfl rfl rfl rfl (fun hb => o_load_ptr (gdT hb) Try.underlying51 rfl rfl rfl rfl) ?_
  refine RG.opg1 _ _ _ _ _ rfl rfl rfl rfl rfl (fun hb => o_eqNF (gdT hb) rfl Try.underlying51) ?_
  refine RG.op _ _ rfl rfl (o_or _ _ rfl rfl rfl) ?_
  refine RG.nil (h3_ _ ?_)
  refine WC.cond _ rfl (fun c1 => ?_) (fun c1 => ?_)
  ·
    have p1 := c1
    try simp only [CN] at p1
    cases c1
  ·
    have p1 := c1
    try simp only [CN] at p1
    refine WC.skip (h2_ _ ?_)
    refine WC.seq fun Fh4_ h4_ => ?_
    refine WC.region ?_
    refine RG.op _ _ rfl rfl (o_move (.ptr _ _ _) rfl) ?_
    refine RG.op _ _ rfl rfl (o_nilP rfl) ?_
    refine RG.op _ _ rfl rfl (o_fld_ptr rfl Try.underlying58 rfl (sz_of Ty.inf53) (by decide)) ?_
    refine RG.op _ _ rfl rfl (o_fld_ptr rfl Try.underlying53 rfl (sz_of Ty.inf51) (by decide)) ?_
    refine RG.op _ _ rfl rfl (o_load_ptr rfl Try.underlying51 rfl rfl rfl rfl) ?_
    refine RG.op _ _ rfl rfl (o_move (.ptr _ _ _) rfl) ?_
    refine RG.op _ _ rfl rfl (OpX.d (x_callV (cs := []) (ds := [.ptr 0 0 0]) (.inr ⟨rfl, rfl⟩) hcal (FunM.frame (ds := [.ptr 0 0 0]) [0] [_] [_] [] hf (by decide) ⟨rfl, trivial⟩ ⟨.pure (by repeat (first | exact pu_bytes _ | exact pu_nil | exact pu_vs rfl | exact pu_map (fun _ => .v _) _ | exact pu_vals _ | refine pu_app ?_ ?_ | refine pu_cons (by exact pu_of rfl) ?_)), trivial⟩ ⟨.ptr _ _ _ rfl, trivial⟩ rfl ⟨.pure (by repeat (first | exact pu_bytes _ | exact pu_nil | exact pu_vs rfl | exact pu_map (fun _ => .v _) _ | exact pu_vals _ | refine pu_app ?_ ?_ | refine pu_cons (by exact pu_of rfl) ?_)), trivial⟩ (.pure _ (by exact pu_of rfl)) rfl) ⟨.inl rfl, trivial⟩) (VLe.le (by repeat (first | exact trivial | refine And.intro (Nat.le_refl _) ?_ | refine And.intro trivial ?_ | refine And.intro (by show _ ≤ _; (first | omega | (simp only [LS] <;> omega))) ?_)))) ?_
    refine RG.op _ _ rfl rfl (o_extract rfl rfl) ?_
    refine RG.op _ _ rfl rfl (o_extract rfl rfl) ?_
    refine RG.op _ _ rfl rfl (o_store (d := (.agg [_, _, _])) rfl rfl rfl rfl (sz_of Ty.inf23) (Nat.le_of_ble_eq_true rfl) rfl) ?_
    refine RG.op _ _ rfl rfl (o_assign (.v _) rfl) ?_
    refine RG.nil (h4_ _ ?_)
    refine WC.ret ?_
    first | refine endM.mk 1 [_] rfl rfl (by repeat (first | exact trivial | refine And.intro (one_ok (.own _ _ _ _ _ (Nat.le_refl _))) ?_ | refine And.intro (okp (by repeat (first | exact pu_bytes _ | exact pu_nil | exact pu_vs rfl | exact pu_map (fun _ => .v _) _ | exact pu_vals _ | refine pu_app ?_ ?_ | refine pu_cons (by exact pu_of rfl) ?_))) ?_)) ?_ | (simp only [thenQ, blkQ, noGo]; refine endM.mk 1 [_] rfl rfl (by repeat (first | exact trivial | refine And.intro (one_ok (.own _ _ _ _ _ (Nat.le_refl _))) ?_ | refine And.intro (okp (by repeat (first | exact pu_bytes _ | exact pu_nil | exact pu_vs rfl | exact pu_map (fun _ => .v _) _ | exact pu_vals _ | refine pu_app ?_ ?_ | refine pu_cons (by exact pu_of rfl) ?_))) ?_)) ?_)
    exact EndsM.r2 rfl (.agg rfl Try.underlying23 rfl (sz_of Ty.inf23) rfl rfl rfl) (.tmp _ (.v _) rfl) (by first | exact .own _ _ _ _ _ (Nat.le_refl _) | exact .v _ | exact .ptr _ _ _ (Nat.le_refl _) | exact Pure'.ok (by exact pu_of rfl) _ | exact .tup _ (by repeat (first | exact ok_nil | refine ok_cons (by first | exact .own _ _ _ _ _ (Nat.le_refl _) | exact .ptr _ _ _ (Nat.le_refl _) | exact .v _ | exact Pure'.ok (by exact pu_of rfl) _) ?_))) (⟨rfl, rfl⟩)
set_option maxHeartbeats 4000000 in
theorem answerNil_c : Fun Try.prog 8 [.v (.pointer none)] (· = .tup [VD z0, I64 8]) := by
  refine Fun.of Try.func8 rfl (Nat.le_of_ble_eq_true rfl) fun C => ?_
  refine WC.seq fun Fh1_ h1_ => ?_
  refine WC.region ?_
  refine RG.op _ _ rfl rfl (o_alloc (z_of Ty.inf23) rfl) ?_
  refine RG.op _ _ rfl rfl (o_assign (.v _) rfl) ?_
  refine RG.nil (h1_ _ ?_)
  refine WC.seq fun Fh2_ h2_ => ?_
  refine WC.seq fun Fh3_ h3_ => ?_
  refine WC.region ?_
  refine RG.op _ _ rfl rfl (o_move (.v _) rfl) ?_
  refine RG.op _ _ rfl rfl (o_eqNN rfl rfl Try.underlying24) ?_
  refine RG.op _ _ rfl rfl (o_move (.v _) rfl) ?_
  refine RG.opg1 _ _ _ _ _ rfl rfl rfl rfl rfl (fun hb => o_move (.v _) rfl) ?_
  refine RG.opg1 _ _ _ _ _ rfl rfl rfl rfl rfl (fun hb => OpD.off (.v .nilFunc) hb) ?_
  refine RG.opg1 _ _ _ _ _ rfl rfl rfl rfl rfl (fun hb => OpD.off (.v .nilFunc) hb) ?_
  refine RG.opg1 _ _ _ _ _ rfl rfl rfl rfl rfl (fun hb => OpD.off (.v .nilFunc) hb) ?_
  refine RG.opg1 _ _ _ _ _ rfl rfl rfl rfl rfl (fun hb => OpD.off (.v .nilFunc) hb) ?_
  refine RG.opg1 _ _ _ _ _ rfl rfl rfl rfl rfl (fun hb => OpD.off (.v (.bool false)) hb) ?_
  refine RG.op _ _ rfl rfl (o_or true false rfl rfl rfl) ?_
  refine RG.nil (h3_ _ ?_)
  refine WC.cond _ rfl (fun c1 => ?_) (fun c1 => ?_)
  ·
    have p1 := c1
    try simp only [CN] at p1
    refine WC.seq fun Fh4_ h4_ => ?_
    refine WC.region ?_
    refine RG.op _ _ rfl rfl (o_build (cs := [B8 0, I64 0, S []]) Try.underlying23 Ty.inf23 (Ty.pl23 Try.underlying23) rfl) ?_
    refine RG.op _ _ rfl rfl (o_store (d := (.agg [_, _, _])) rfl rfl rfl rfl (sz_of Ty.inf23) (Nat.le_of_ble_eq_true rfl) rfl) ?_
    refine RG.op _ _ rfl rfl (o_assign (.v _) rfl) ?_
    refine RG.nil (h4_ _ ?_)
    refine WC.ret ?_
    exact Ends.r2 rfl (.agg rfl Try.underlying23 rfl (sz_of Ty.inf23) rfl rfl rfl) (.tmp _ (.v _) rfl) (.pure' (by exact pu_of rfl)) (.v _) (rfl)
  ·
    have p1 := c1
    try simp only [CN] at p1
    cases c1
set_option maxHeartbeats 4000000 in
theorem add_c (hcal : DL.Callee Try.prog f2) (ho : s.op = o.op) (hf : FunM Try.prog f2 [.ptr 0 0 0, .adr (stc o ar' g1 g2 g3)] [stb s ar f1 f2 f3] (FQ s' ar f1 f2 f3)) : FunM Try.prog 10 [.ptr 0 0 0, .adr (stc o ar' g1 g2 g3)] [stb s ar f1 f2 f3] (fun o H' => o = .ret (I64 0) ∧ H' = [stb s' ar f1 f2 f3]) := by
  refine FunM.of Try.func10 rfl (Nat.le_of_ble_eq_true rfl) fun C => ?_
  refine WC.seq fun Fh1_ h1_ => ?_
  refine WC.region ?_
  refine RG.op _ _ rfl rfl (o_assign (.v _) rfl) ?_
  refine RG.nil (h1_ _ ?_)
  refine WC.seq fun Fh2_ h2_ => ?_
  refine WC.seq fun Fh3_ h3_ => ?_
  refine WC.region ?_
  refine RG.op _ _ rfl rfl (o_move (.ptr _ _ _) rfl) ?_
  refine RG.op _ _ rfl rfl (o_eqNP rfl rfl Try.underlying24) ?_
  refine RG.op _ _ rfl rfl (o_move (.v _) rfl) ?_
  refine RG.opg1 _ _ _ _ _ rfl rfl rfl rfl rfl (fun hb => o_move (.adr _) rfl) ?_
  refine RG.opg1 _ _ _ _ _ rfl rfl rfl rfl rfl (fun hb => o_eqNA (gdT hb) rfl Try.underlying24) ?_
  refine RG.op _ _ rfl rfl (o_or _ _ rfl rfl rfl) ?_
  refine RG.nil (h3_ _ ?_)
  refine WC.cond _ rfl (fun c1 => ?_) (fun c1 => ?_)
  ·
    have p1 := c1
    try simp only [CN] at p1
    cases c1
  ·
    have p1 := c1
    try simp only [CN] at p1
    refine WC.skip (h2_ _ ?_)
    refine WC.seq fun Fh4_ h4_ => ?_
    refine WC.seq fun Fh5_ h5_ => ?_
    refine WC.drawn1 (by kernel_rfl) ?_
    refine PG.op _ rfl rfl rfl (by rintro _ rfl; exact o_move (.ptr _ _ _) rfl) ?_
    refine PG.op _ rfl rfl rfl (by rintro _ rfl; exact o_nilP rfl) ?_
    refine PG.op _ rfl rfl rfl (by rintro _ rfl; exact o_fld_ptr rfl Try.underlying58 rfl (sz_of Ty.inf5) (by decide)) ?_
    refine PG.op _ rfl rfl rfl (by rintro _ rfl; exact o_load_ptr rfl Try.underlying5 rfl rfl rfl rfl) ?_
    refine PG.op _ rfl rfl rfl (by rintro _ rfl; exact o_move (.adr _) rfl) ?_
    refine PG.op _ rfl rfl rfl (by rintro _ rfl; exact o_nilA rfl) ?_
    refine PG.op _ rfl rfl rfl (by rintro _ rfl; exact o_fld_adr rfl Try.underlying58 rfl (sz_of Ty.inf5) (by decide)) ?_
    refine PG.op _ rfl rfl rfl (by rintro _ rfl; exact o_load_adr rfl Try.underlying5 rfl rfl) ?_
    refine PG.op _ rfl rfl rfl (by rintro _ rfl; exact o_neB rfl rfl) ?_
    refine PG.op _ rfl rfl rfl (by rintro _ rfl; exact o_move (.v _) rfl) ?_
    refine PG.opg1 _ _ _ _ _ rfl rfl rfl rfl rfl rfl (fun hb => (by rintro _ rfl; exact o_move (.ptr _ _ _) rfl)) ?_
    refine PG.opg1 _ _ _ _ _ rfl rfl rfl rfl rfl rfl (fun hb => (by rintro _ rfl; exact o_nilP (gdT hb))) ?_
    refine PG.opg1 _ _ _ _ _ rfl rfl rfl rfl rfl rfl (fun hb => (by rintro _ rfl; exact o_fld_ptr (gdT hb) Try.underlying58 rfl (sz_of Ty.inf53) (by decide))) ?_
    refine PG.opg1 _ _ _ _ _ rfl rfl rfl rfl rfl rfl (fun hb => (by rintro _ rfl; exact o_fld_ptr (gdT hb) Try.underlying53 rfl (sz_of Ty.inf50) (by decide))) ?_
    refine PG.opg1 _ _ _ _ _ rfl rfl rfl rfl rfl rfl (fun hb => (by rintro _ rfl; exact o_load_ptr (gdT hb) Try.underlying50 rfl rfl rfl rfl)) ?_
    refine PG.opg1 _ _ _ _ _ rfl rfl rfl rfl rfl rfl (fun hb => (by rintro _ rfl; exact o_eqNF (gdT hb) rfl Try.underlying50)) ?_
    refine PG.op _ rfl rfl rfl (by rintro _ rfl; exact o_or _ _ rfl rfl rfl) ?_
    refine PG.nil ⟨by kernel_rfl, rfl, (h5_ _ ?_)⟩
    refine WC.cond _ rfl (fun c3 => ?_) (fun c3 => ?_)
    ·
      have p3 := c3
      try simp only [CN] at p3
      (rw [ho] at c3; simp at c3)
    ·
      have p3 := c3
      try simp only [CN] at p3
      refine WC.skip (h4_ _ ?_)
      refine WC.seq fun Fh6_ h6_ => ?_
      refine WC.region ?_
      refine RG.op _ _ rfl rfl (o_move (.ptr _ _ _) rfl) ?_
      refine RG.op _ _ rfl rfl (o_nilP rfl) ?_
      refine RG.op _ _ rfl rfl (o_fld_ptr rfl Try.underlying58 rfl (sz_of Ty.inf53) (by decide)) ?_
      refine RG.op _ _ rfl rfl (o_fld_ptr rfl Try.underlying53 rfl (sz_of Ty.inf50) (by decide)) ?_
      refine RG.op _ _ rfl rfl (o_load_ptr rfl Try.underlying50 rfl rfl rfl rfl) ?_
      refine RG.op _ _ rfl rfl (o_move (.ptr _ _ _) rfl) ?_
      refine RG.op _ _ rfl rfl (o_move (.adr _) rfl) ?_
      refine RG.op _ _ rfl rfl (OpX.d (x_callV (cs := []) (ds := [.ptr 0 0 0, .adr (stc o ar' g1 g2 g3)]) (.inr ⟨rfl, rfl⟩) hcal (FunM.frame (ds := [.ptr 0 0 0, .adr (stc o ar' g1 g2 g3)]) [0] [_] [_] [] hf (by decide) ⟨rfl, trivial⟩ ⟨.pure (by repeat (first | exact pu_bytes _ | exact pu_nil | exact pu_vs rfl | exact pu_map (fun _ => .v _) _ | exact pu_vals _ | refine pu_app ?_ ?_ | refine pu_cons (by exact pu_of rfl) ?_)), trivial⟩ ⟨.ptr _ _ _ rfl, .pure _ (by exact pu_of rfl), trivial⟩ rfl ⟨.pure (by repeat (first | exact pu_bytes _ | exact pu_nil | exact pu_vs rfl | exact pu_map (fun _ => .v _) _ | exact pu_vals _ | refine pu_app ?_ ?_ | refine pu_cons (by exact pu_of rfl) ?_)), trivial⟩ (.pure _ (by exact pu_of rfl)) rfl) ⟨.inl rfl, .inl rfl, trivial⟩) (VLe.le (by repeat (first | exact trivial | refine And.intro (Nat.le_refl _) ?_ | refine And.intro trivial ?_ | refine And.intro (by show _ ≤ _; (first | omega | (simp only [LS] <;> omega))) ?_)))) ?_
      refine RG.nil (h6_ _ ?_)
      refine WC.seq fun Fh7_ h7_ => ?_
      refine WC.region ?_
      refine RG.op _ _ rfl rfl (o_assign (.v _) rfl) ?_
      refine RG.nil (h7_ _ ?_)
      refine WC.ret ?_
      first | refine endM.mk 1 [_] rfl rfl (by repeat (first | exact trivial | refine And.intro (one_ok (.own _ _ _ _ _ (Nat.le_refl _))) ?_ | refine And.intro (okp (by repeat (first | exact pu_bytes _ | exact pu_nil | exact pu_vs rfl | exact pu_map (fun _ => .v _) _ | exact pu_vals _ | refine pu_app ?_ ?_ | refine pu_cons (by exact pu_of rfl) ?_))) ?_)) ?_ | (simp only [thenQ, blkQ, noGo]; refine endM.mk 1 [_] rfl rfl (by repeat (first | exact trivial | refine And.intro (one_ok (.own _ _ _ _ _ (Nat.le_refl _))) ?_ | refine And.intro (okp (by repeat (first | exact pu_bytes _ | exact pu_nil | exact pu_vs rfl | exact pu_map (fun _ => .v _) _ | exact pu_vals _ | refine pu_app ?_ ?_ | refine pu_cons (by exact pu_of rfl) ?_))) ?_)) ?_)
      exact EndsM.r1 rfl (.tmp _ (.v _) rfl) (by first | exact .own _ _ _ _ _ (Nat.le_refl _) | exact .v _ | exact .ptr _ _ _ (Nat.le_refl _) | exact Pure'.ok (by exact pu_of rfl) _ | exact .tup _ (by repeat (first | exact ok_nil | refine ok_cons (by first | exact .own _ _ _ _ _ (Nat.le_refl _) | exact .ptr _ _ _ (Nat.le_refl _) | exact .v _ | exact Pure'.ok (by exact pu_of rfl) _) ?_))) (⟨rfl, rfl⟩)
set_option maxHeartbeats 4000000 in
theorem addBad_c (ho : s.op ≠ o.op) : FunM Try.prog 10 [.ptr 0 0 0, .adr (stc o ar' g1 g2 g3)] [stb s ar f1 f2 f3] (fun o H' => o = .ret (I64 1) ∧ H' = [stb s ar f1 f2 f3]) := by
  refine FunM.of Try.func10 rfl (Nat.le_of_ble_eq_true rfl) fun C => ?_
  refine WC.seq fun Fh1_ h1_ => ?_
  refine WC.region ?_
  refine RG.op _ _ rfl rfl (o_assign (.v _) rfl) ?_
  refine RG.nil (h1_ _ ?_)
  refine WC.seq fun Fh2_ h2_ => ?_
  refine WC.seq fun Fh3_ h3_ => ?_
  refine WC.region ?_
  refine RG.op _ _ rfl rfl (o_move (.ptr _ _ _) rfl) ?_
  refine RG.op _ _ rfl rfl (o_eqNP rfl rfl Try.underlying24) ?_
  refine RG.op _ _ rfl rfl (o_move (.v _) rfl) ?_
  refine RG.opg1 _ _ _ _ _ rfl rfl rfl rfl rfl (fun hb => o_move (.adr _) rfl) ?_
  refine RG.opg1 _ _ _ _ _ rfl rfl rfl rfl rfl (fun hb => o_eqNA (gdT hb) rfl Try.underlying24) ?_
  refine RG.op _ _ rfl rfl (o_or _ _ rfl rfl rfl) ?_
  refine RG.nil (h3_ _ ?_)
  refine WC.cond _ rfl (fun c1 => ?_) (fun c1 => ?_)
  ·
    have p1 := c1
    try simp only [CN] at p1
    cases c1
  ·
    have p1 := c1
    try simp only [CN] at p1
    refine WC.skip (h2_ _ ?_)
    refine WC.seq fun Fh4_ h4_ => ?_
    refine WC.seq fun Fh5_ h5_ => ?_
    refine WC.drawn1 (by kernel_rfl) ?_
    refine PG.op _ rfl rfl rfl (by rintro _ rfl; exact o_move (.ptr _ _ _) rfl) ?_
    refine PG.op _ rfl rfl rfl (by rintro _ rfl; exact o_nilP rfl) ?_
    refine PG.op _ rfl rfl rfl (by rintro _ rfl; exact o_fld_ptr rfl Try.underlying58 rfl (sz_of Ty.inf5) (by decide)) ?_
    refine PG.op _ rfl rfl rfl (by rintro _ rfl; exact o_load_ptr rfl Try.underlying5 rfl rfl rfl rfl) ?_
    refine PG.op _ rfl rfl rfl (by rintro _ rfl; exact o_move (.adr _) rfl) ?_
    refine PG.op _ rfl rfl rfl (by rintro _ rfl; exact o_nilA rfl) ?_
    refine PG.op _ rfl rfl rfl (by rintro _ rfl; exact o_fld_adr rfl Try.underlying58 rfl (sz_of Ty.inf5) (by decide)) ?_
    refine PG.op _ rfl rfl rfl (by rintro _ rfl; exact o_load_adr rfl Try.underlying5 rfl rfl) ?_
    refine PG.op _ rfl rfl rfl (by rintro _ rfl; exact o_neB rfl rfl) ?_
    refine PG.op _ rfl rfl rfl (by rintro _ rfl; exact o_move (.v _) rfl) ?_
    refine PG.opg1 _ _ _ _ _ rfl rfl rfl rfl rfl rfl (fun hb => (by rintro _ rfl; exact o_move (.ptr _ _ _) rfl)) ?_
    refine PG.opg1 _ _ _ _ _ rfl rfl rfl rfl rfl rfl (fun hb => (by rintro _ rfl; exact o_nilP (gdT hb))) ?_
    refine PG.opg1 _ _ _ _ _ rfl rfl rfl rfl rfl rfl (fun hb => (by rintro _ rfl; exact o_fld_ptr (gdT hb) Try.underlying58 rfl (sz_of Ty.inf53) (by decide))) ?_
    refine PG.opg1 _ _ _ _ _ rfl rfl rfl rfl rfl rfl (fun hb => (by rintro _ rfl; exact o_fld_ptr (gdT hb) Try.underlying53 rfl (sz_of Ty.inf50) (by decide))) ?_
    refine PG.opg1 _ _ _ _ _ rfl rfl rfl rfl rfl rfl (fun hb => (by rintro _ rfl; exact o_load_ptr (gdT hb) Try.underlying50 rfl rfl rfl rfl)) ?_
    refine PG.opg1 _ _ _ _ _ rfl rfl rfl rfl rfl rfl (fun hb => (by rintro _ rfl; exact o_eqNF (gdT hb) rfl Try.underlying50)) ?_
    refine PG.op _ rfl rfl rfl (by rintro _ rfl; exact o_or _ _ rfl rfl rfl) ?_
    refine PG.nil ⟨by kernel_rfl, rfl, (h5_ _ ?_)⟩
    refine WC.cond _ rfl (fun c3 => ?_) (fun c3 => ?_)
    ·
      have p3 := c3
      try simp only [CN] at p3
      refine WC.seq fun Fh6_ h6_ => ?_
      refine WC.region ?_
      refine RG.op _ _ rfl rfl (o_assign (.v _) rfl) ?_
      refine RG.nil (h6_ _ ?_)
      refine WC.ret ?_
      first | refine endM.mk 1 [_] rfl rfl (by repeat (first | exact trivial | refine And.intro (one_ok (.own _ _ _ _ _ (Nat.le_refl _))) ?_ | refine And.intro (okp (by repeat (first | exact pu_bytes _ | exact pu_nil | exact pu_vs rfl | exact pu_map (fun _ => .v _) _ | exact pu_vals _ | refine pu_app ?_ ?_ | refine pu_cons (by exact pu_of rfl) ?_))) ?_)) ?_ | (simp only [thenQ, blkQ, noGo]; refine endM.mk 1 [_] rfl rfl (by repeat (first | exact trivial | refine And.intro (one_ok (.own _ _ _ _ _ (Nat.le_refl _))) ?_ | refine And.intro (okp (by repeat (first | exact pu_bytes _ | exact pu_nil | exact pu_vs rfl | exact pu_map (fun _ => .v _) _ | exact pu_vals _ | refine pu_app ?_ ?_ | refine pu_cons (by exact pu_of rfl) ?_))) ?_)) ?_)
      exact EndsM.r1 rfl (.tmp _ (.v _) rfl) (by first | exact .own _ _ _ _ _ (Nat.le_refl _) | exact .v _ | exact .ptr _ _ _ (Nat.le_refl _) | exact Pure'.ok (by exact pu_of rfl) _ | exact .tup _ (by repeat (first | exact ok_nil | refine ok_cons (by first | exact .own _ _ _ _ _ (Nat.le_refl _) | exact .ptr _ _ _ (Nat.le_refl _) | exact .v _ | exact Pure'.ok (by exact pu_of rfl) _) ?_))) (⟨rfl, rfl⟩)
    ·
      have p3 := c3
      try simp only [CN] at p3
      (simp at c3; exact (ho c3).elim)
set_option maxHeartbeats 4000000 in
theorem addNil_c : FunM Try.prog 10 [.ptr 0 0 0, .v (.pointer none)] [stb s ar f1 f2 f3] (fun o H' => o = .ret (I64 8) ∧ H' = [stb s ar f1 f2 f3]) := by
  refine FunM.of Try.func10 rfl (Nat.le_of_ble_eq_true rfl) fun C => ?_
  refine WC.seq fun Fh1_ h1_ => ?_
  refine WC.region ?_
  refine RG.op _ _ rfl rfl (o_assign (.v _) rfl) ?_
  refine RG.nil (h1_ _ ?_)
  refine WC.seq fun Fh2_ h2_ => ?_
  refine WC.seq fun Fh3_ h3_ => ?_
  refine WC.region ?_
  refine RG.op _ _ rfl rfl (o_move (.ptr _ _ _) rfl) ?_
  refine RG.op _ _ rfl rfl (o_eqNP rfl rfl Try.underlying24) ?_
  refine RG.op _ _ rfl rfl (o_move (.v _) rfl) ?_
  refine RG.opg1 _ _ _ _ _ rfl rfl rfl rfl rfl (fun hb => o_move (.v _) rfl) ?_
  refine RG.opg1 _ _ _ _ _ rfl rfl rfl rfl rfl (fun hb => o_eqNN (gdT hb) rfl Try.underlying24) ?_
  refine RG.op _ _ rfl rfl (o_or _ _ rfl rfl rfl) ?_
  refine RG.nil (h3_ _ ?_)
  refine WC.cond _ rfl (fun c1 => ?_) (fun c1 => ?_)
  ·
    have p1 := c1
    try simp only [CN] at p1
    refine WC.seq fun Fh4_ h4_ => ?_
    refine WC.region ?_
    refine RG.op _ _ rfl rfl (o_assign (.v _) rfl) ?_
    refine RG.nil (h4_ _ ?_)
    refine WC.ret ?_
    first | refine endM.mk 1 [_] rfl rfl (by repeat (first | exact trivial | refine And.intro (one_ok (.own _ _ _ _ _ (Nat.le_refl _))) ?_ | refine And.intro (okp (by repeat (first | exact pu_bytes _ | exact pu_nil | exact pu_vs rfl | exact pu_map (fun _ => .v _) _ | exact pu_vals _ | refine pu_app ?_ ?_ | refine pu_cons (by exact pu_of rfl) ?_))) ?_)) ?_ | (simp only [thenQ, blkQ, noGo]; refine endM.mk 1 [_] rfl rfl (by repeat (first | exact trivial | refine And.intro (one_ok (.own _ _ _ _ _ (Nat.le_refl _))) ?_ | refine And.intro (okp (by repeat (first | exact pu_bytes _ | exact pu_nil | exact pu_vs rfl | exact pu_map (fun _ => .v _) _ | exact pu_vals _ | refine pu_app ?_ ?_ | refine pu_cons (by exact pu_of rfl) ?_))) ?_)) ?_)
    exact EndsM.r1 rfl (.tmp _ (.v _) rfl) (by first | exact .own _ _ _ _ _ (Nat.le_refl _) | exact .v _ | exact .ptr _ _ _ (Nat.le_refl _) | exact Pure'.ok (by exact pu_of rfl) _ | exact .tup _ (by repeat (first | exact ok_nil | refine ok_cons (by first | exact .own _ _ _ _ _ (Nat.le_refl _) | exact .ptr _ _ _ (Nat.le_refl _) | exact .v _ | exact Pure'.ok (by exact pu_of rfl) _) ?_))) (⟨rfl, rfl⟩)
  ·
    have p1 := c1
    try simp only [CN] at p1
    cases c1
set_option maxHeartbeats 4000000 in
theorem nilAdd_c : Fun Try.prog 10 [.v (.pointer none), .v (.pointer none)] (· = I64 8) := by
  refine Fun.of Try.func10 rfl (Nat.le_of_ble_eq_true rfl) fun C => ?_
  refine WC.seq fun Fh1_ h1_ => ?_
  refine WC.region ?_
  refine RG.op _ _ rfl rfl (o_assign (.v _) rfl) ?_
  refine RG.nil (h1_ _ ?_)
  refine WC.seq fun Fh2_ h2_ => ?_
  refine WC.seq fun Fh3_ h3_ => ?_
  refine WC.region ?_
  refine RG.op _ _ rfl rfl (o_move (.v _) rfl) ?_
  refine RG.op _ _ rfl rfl (o_eqNN rfl rfl Try.underlying24) ?_
  refine RG.op _ _ rfl rfl (o_move (.v _) rfl) ?_
  refine RG.opg1 _ _ _ _ _ rfl rfl rfl rfl rfl (fun hb => o_move (.v _) rfl) ?_
  refine RG.opg1 _ _ _ _ _ rfl rfl rfl rfl rfl (fun hb => OpD.off (.v (.bool false)) hb) ?_
  refine RG.op _ _ rfl rfl (o_or true false rfl rfl rfl) ?_
  refine RG.nil (h3_ _ ?_)
  refine WC.cond _ rfl (fun c1 => ?_) (fun c1 => ?_)
  ·
    have p1 := c1
    try simp only [CN] at p1
    refine WC.seq fun Fh4_ h4_ => ?_
    refine WC.region ?_
    refine RG.op _ _ rfl rfl (o_assign (.v _) rfl) ?_
    refine RG.nil (h4_ _ ?_)
    refine WC.ret ?_
    exact Ends.r1 rfl (.tmp _ (.v _) rfl) (.v _) (rfl)
  ·
    have p1 := c1
    try simp only [CN] at p1
    cases c1
set_option maxHeartbeats 4000000 in
theorem nilAddA_c : Fun Try.prog 10 [.v (.pointer none), .adr (stc o ar' g1 g2 g3)] (· = I64 8) := by
  refine Fun.of Try.func10 rfl (Nat.le_of_ble_eq_true rfl) fun C => ?_
  refine WC.seq fun Fh1_ h1_ => ?_
  refine WC.region ?_
  refine RG.op _ _ rfl rfl (o_assign (.v _) rfl) ?_
  refine RG.nil (h1_ _ ?_)
  refine WC.seq fun Fh2_ h2_ => ?_
  refine WC.seq fun Fh3_ h3_ => ?_
  refine WC.region ?_
  refine RG.op _ _ rfl rfl (o_move (.v _) rfl) ?_
  refine RG.op _ _ rfl rfl (o_eqNN rfl rfl Try.underlying24) ?_
  refine RG.op _ _ rfl rfl (o_move (.v _) rfl) ?_
  refine RG.opg1 _ _ _ _ _ rfl rfl rfl rfl rfl (fun hb => o_move (.adr _) rfl) ?_
  refine RG.opg1 _ _ _ _ _ rfl rfl rfl rfl rfl (fun hb => OpD.off (.v (.bool false)) hb) ?_
  refine RG.op _ _ rfl rfl (o_or true false rfl rfl rfl) ?_
  refine RG.nil (h3_ _ ?_)
  refine WC.cond _ rfl (fun c1 => ?_) (fun c1 => ?_)
  ·
    have p1 := c1
    try simp only [CN] at p1
    refine WC.seq fun Fh4_ h4_ => ?_
    refine WC.region ?_
    refine RG.op _ _ rfl rfl (o_assign (.v _) rfl) ?_
    refine RG.nil (h4_ _ ?_)
    refine WC.ret ?_
    exact Ends.r1 rfl (.tmp _ (.v _) rfl) (.v _) (rfl)
  ·
    have p1 := c1
    try simp only [CN] at p1
    cases c1
set_option maxHeartbeats 4000000 in
theorem cloneNil_c : Fun Try.prog 11 [.v (.pointer none)] (· = .v (.pointer none)) := by
  refine Fun.of Try.func11 rfl (Nat.le_of_ble_eq_true rfl) fun C => ?_
  refine WC.seq fun Fh1_ h1_ => ?_
  refine WC.region ?_
  refine RG.op _ _ rfl rfl (o_assign (.v _) rfl) ?_
  refine RG.nil (h1_ _ ?_)
  refine WC.seq fun Fh2_ h2_ => ?_
  refine WC.seq fun Fh3_ h3_ => ?_
  refine WC.region ?_
  refine RG.op _ _ rfl rfl (o_move (.v _) rfl) ?_
  refine RG.op _ _ rfl rfl (o_eqNN rfl rfl Try.underlying24) ?_
  refine RG.nil (h3_ _ ?_)
  refine WC.cond _ rfl (fun c1 => ?_) (fun c1 => ?_)
  ·
    have p1 := c1
    try simp only [CN] at p1
    refine WC.seq fun Fh4_ h4_ => ?_
    refine WC.region ?_
    refine RG.op _ _ rfl rfl (o_assign (.v _) rfl) ?_
    refine RG.nil (h4_ _ ?_)
    refine WC.ret ?_
    exact Ends.r1 rfl (.tmp _ (.v _) rfl) (.v _) (rfl)
  ·
    have p1 := c1
    try simp only [CN] at p1
    cases c1
end
end Go.Proofs.Ytpacdeiaimfiaaa
