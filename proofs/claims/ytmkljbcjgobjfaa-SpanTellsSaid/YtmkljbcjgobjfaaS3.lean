/-
  Whole buckets and the examples of spans, by data. No condition but a width's.
-/
import Derived.Test.YtmkljbcjgobjfaaS2
set_option linter.unusedSimpArgs false
set_option linter.unusedVariables false
namespace Go.Proofs.Ytmkljbcjgobjfaa
open Go.RowKit Go.DL

abbrev fnV (F : FuncId) : D := .v (.func (.func F) #[] #[])
set_option maxHeartbeats 4000000 in
theorem end_c {F : FuncId} {t n z : Int} (hF : DL.Callee Try.prog F) (h : Fun Try.prog F [I64 t, I64 n] (· = I64 z)) : Fun Try.prog 68 [fnV F, I64 t, .adr [I64 n]] (· = I64 z) := by
  refine Fun.of Try.func68 rfl (Nat.le_of_ble_eq_true rfl) fun C => ?_
  refine WC.seq fun Fh1_ h1_ => ?_
  refine WC.region ?_
  refine RG.op _ _ rfl rfl (o_assign (.v _) rfl) ?_
  refine RG.nil (h1_ _ ?_)
  refine WC.seq fun Fh2_ h2_ => ?_
  refine WC.region ?_
  refine RG.op _ _ rfl rfl (o_move (.v _) rfl) ?_
  refine RG.op _ _ rfl rfl (o_move (.v _) rfl) ?_
  refine RG.op _ _ rfl rfl (o_load_adr rfl Try.underlying2 rfl rfl) ?_
  refine RG.op _ _ rfl rfl (o_callV (ds := [I64 t, I64 n]) (cs := []) (.inr ⟨rfl, rfl⟩) hF h ⟨.inl rfl, .inl rfl, trivial⟩ (by repeat (first | exact trivial | refine And.intro (by first | exact .v _ | exact .rd _ _ | exact .adr _ | exact .mp _ _ | exact .agg _ (by repeat (first | exact pu_bytes _ | exact pu_nil | exact pu_vs rfl | exact pu_map (fun _ => .v _) _ | exact pu_vals _ | refine pu_app ?_ ?_ | refine pu_cons (by first | exact .v _ | exact .rd _ _ | exact .adr _ | exact .mp _ _ | exact .agg _ (pu_vs rfl)) ?_)) | exact .tup _ (by repeat (first | exact pu_bytes _ | exact pu_nil | exact pu_vs rfl | exact pu_map (fun _ => .v _) _ | exact pu_vals _ | refine pu_app ?_ ?_ | refine pu_cons (by first | exact .v _ | exact .rd _ _ | exact .adr _ | exact .mp _ _ | exact .agg _ (pu_vs rfl)) ?_)) | exact .fn _ _ (by repeat (first | exact pu_bytes _ | exact pu_nil | exact pu_vs rfl | exact pu_map (fun _ => .v _) _ | exact pu_vals _ | refine pu_app ?_ ?_ | refine pu_cons (by first | exact .v _ | exact .rd _ _ | exact .adr _ | exact .mp _ _ | exact .agg _ (pu_vs rfl)) ?_)) | exact .iface _ _ (.v _) | exact .iface _ _ (.agg _ (by repeat (first | exact pu_bytes _ | exact pu_nil | exact pu_vs rfl | exact pu_map (fun _ => .v _) _ | exact pu_vals _ | refine pu_app ?_ ?_ | refine pu_cons (by first | exact .v _ | exact .rd _ _ | exact .adr _ | exact .mp _ _ | exact .agg _ (pu_vs rfl)) ?_)))) ?_))) ?_
  refine RG.op _ _ rfl rfl (o_assign (.v _) rfl) ?_
  refine RG.nil (h2_ _ ?_)
  refine WC.ret ?_
  exact Ends.r1 rfl (.tmp _ (.v _) rfl) (.v _) (rfl)
def whA (z1 z2 : Int → Int → Int) (a b n : Int) : Int := bif emptyB a b then 0 else gA (z1 a n) (z2 b n)
def whB (z1 z2 : Int → Int → Int) (a b n : Int) : Int := bif emptyB a b then 0 else gB (z1 a n) (z2 b n)
def whEA (z1 z2 : Int → Int → Int) (a b n : Int) : Int := if wrongE n [a, b] = 0 then whA z1 z2 a b n else 0
def whEB (z1 z2 : Int → Int → Int) (a b n : Int) : Int := if wrongE n [a, b] = 0 then whB z1 z2 a b n else 0
set_option maxHeartbeats 4000000 in
theorem whole_c {G1 G2 : FuncId} (z1 z2 : Int → Int → Int) (a b n : Int) (hG1 : DL.Callee Try.prog G1) (hG2 : DL.Callee Try.prog G2) (q1 : Fit a → Wid n → Fun Try.prog G1 [I64 a, I64 n] (· = I64 (z1 a n))) (q2 : Fit b → Wid n → Fun Try.prog G2 [I64 b, I64 n] (· = I64 (z2 b n))) :
    Fun Try.prog 59 [SP a b, I64 n, fnV G1, fnV G2] (· = .tup [SP (whEA z1 z2 a b n) (whEB z1 z2 a b n), I64 (wrongE n [a, b])]) := by
  refine Fun.of Try.func59 rfl (Nat.le_of_ble_eq_true rfl) fun C => ?_
  refine WC.seq fun Fh1_ h1_ => ?_
  refine WC.region ?_
  refine RG.op _ _ rfl rfl (o_box (d := .agg [_, _]) rfl rfl) ?_
  refine RG.op _ _ rfl rfl (o_box (d := .v _) rfl rfl) ?_
  refine RG.op _ _ rfl rfl (o_alloc (z_of Ty.inf50) rfl) ?_
  refine RG.op _ _ rfl rfl (o_assign (.v _) rfl) ?_
  refine RG.nil (h1_ _ ?_)
  refine WC.seq fun Fh2_ h2_ => ?_
  refine WC.seq fun Fh3_ h3_ => ?_
  refine WC.region ?_
  refine RG.op _ _ rfl rfl (o_load_ptr rfl Try.underlying2 rfl rfl rfl rfl) ?_
  refine RG.op _ _ rfl rfl (o_fld_ptr rfl Try.underlying50 rfl (sz_of Ty.inf2) (by decide)) ?_
  refine RG.op _ _ rfl rfl (o_load_ptr rfl Try.underlying2 rfl rfl rfl rfl) ?_
  refine RG.op _ _ rfl rfl (o_fld_ptr rfl Try.underlying50 rfl (sz_of Ty.inf2) (by decide)) ?_
  refine RG.op _ _ rfl rfl (o_load_ptr rfl Try.underlying2 rfl rfl rfl rfl) ?_
  refine RG.op _ _ rfl rfl (o_litP (cs := [(.v _), (.v _)]) Try.underlying81 Ty.inf2 rfl rfl rfl rfl (by repeat (first | exact pu_bytes _ | exact pu_nil | exact pu_vs rfl | exact pu_map (fun _ => .v _) _ | exact pu_vals _ | refine pu_app ?_ ?_ | refine pu_cons (by first | exact .v _ | exact .rd _ _ | exact .adr _ | exact .mp _ _ | exact .agg _ (by repeat (first | exact pu_bytes _ | exact pu_nil | exact pu_vs rfl | exact pu_map (fun _ => .v _) _ | exact pu_vals _ | refine pu_app ?_ ?_ | refine pu_cons (by first | exact .v _ | exact .rd _ _ | exact .adr _ | exact .mp _ _ | exact .agg _ (pu_vs rfl)) ?_)) | exact .tup _ (by repeat (first | exact pu_bytes _ | exact pu_nil | exact pu_vs rfl | exact pu_map (fun _ => .v _) _ | exact pu_vals _ | refine pu_app ?_ ?_ | refine pu_cons (by first | exact .v _ | exact .rd _ _ | exact .adr _ | exact .mp _ _ | exact .agg _ (pu_vs rfl)) ?_)) | exact .fn _ _ (by repeat (first | exact pu_bytes _ | exact pu_nil | exact pu_vs rfl | exact pu_map (fun _ => .v _) _ | exact pu_vals _ | refine pu_app ?_ ?_ | refine pu_cons (by first | exact .v _ | exact .rd _ _ | exact .adr _ | exact .mp _ _ | exact .agg _ (pu_vs rfl)) ?_)) | exact .iface _ _ (.v _) | exact .iface _ _ (.agg _ (by repeat (first | exact pu_bytes _ | exact pu_nil | exact pu_vs rfl | exact pu_map (fun _ => .v _) _ | exact pu_vals _ | refine pu_app ?_ ?_ | refine pu_cons (by first | exact .v _ | exact .rd _ _ | exact .adr _ | exact .mp _ _ | exact .agg _ (pu_vs rfl)) ?_)))) ?_))) ?_
  first | refine RG.op _ _ rfl rfl (o_call Ty.cal56 (check_c _ _ (by first | omega | exact ubyte _ | (simp only [bytesD_len, zeros_len, flatMap_len vc_len, List.length_append, List.length_take, List.length_drop, List.length_map, List.length_nil, List.length_cons, List.length_replicate, List.length_reverse, List.length_set, List.length_range, strB_size] <;> omega))) ⟨.inl rfl, .inl rfl, trivial⟩ (by repeat (first | exact trivial | refine And.intro (by first | exact .v _ | exact .rd _ _ | exact .adr _ | exact .mp _ _ | exact .agg _ (by repeat (first | exact pu_bytes _ | exact pu_nil | exact pu_vs rfl | exact pu_map (fun _ => .v _) _ | exact pu_vals _ | refine pu_app ?_ ?_ | refine pu_cons (by first | exact .v _ | exact .rd _ _ | exact .adr _ | exact .mp _ _ | exact .agg _ (pu_vs rfl)) ?_)) | exact .tup _ (by repeat (first | exact pu_bytes _ | exact pu_nil | exact pu_vs rfl | exact pu_map (fun _ => .v _) _ | exact pu_vals _ | refine pu_app ?_ ?_ | refine pu_cons (by first | exact .v _ | exact .rd _ _ | exact .adr _ | exact .mp _ _ | exact .agg _ (pu_vs rfl)) ?_)) | exact .fn _ _ (by repeat (first | exact pu_bytes _ | exact pu_nil | exact pu_vs rfl | exact pu_map (fun _ => .v _) _ | exact pu_vals _ | refine pu_app ?_ ?_ | refine pu_cons (by first | exact .v _ | exact .rd _ _ | exact .adr _ | exact .mp _ _ | exact .agg _ (pu_vs rfl)) ?_)) | exact .iface _ _ (.v _) | exact .iface _ _ (.agg _ (by repeat (first | exact pu_bytes _ | exact pu_nil | exact pu_vs rfl | exact pu_map (fun _ => .v _) _ | exact pu_vals _ | refine pu_app ?_ ?_ | refine pu_cons (by first | exact .v _ | exact .rd _ _ | exact .adr _ | exact .mp _ _ | exact .agg _ (pu_vs rfl)) ?_)))) ?_))) ?_ | refine RG.op _ _ rfl rfl (o_call Ty.cal56 (check_c _ [_] (by first | omega | exact ubyte _ | (simp only [bytesD_len, zeros_len, flatMap_len vc_len, List.length_append, List.length_take, List.length_drop, List.length_map, List.length_nil, List.length_cons, List.length_replicate, List.length_reverse, List.length_set, List.length_range, strB_size] <;> omega))) ⟨.inl rfl, .inl rfl, trivial⟩ (by repeat (first | exact trivial | refine And.intro (by first | exact .v _ | exact .rd _ _ | exact .adr _ | exact .mp _ _ | exact .agg _ (by repeat (first | exact pu_bytes _ | exact pu_nil | exact pu_vs rfl | exact pu_map (fun _ => .v _) _ | exact pu_vals _ | refine pu_app ?_ ?_ | refine pu_cons (by first | exact .v _ | exact .rd _ _ | exact .adr _ | exact .mp _ _ | exact .agg _ (pu_vs rfl)) ?_)) | exact .tup _ (by repeat (first | exact pu_bytes _ | exact pu_nil | exact pu_vs rfl | exact pu_map (fun _ => .v _) _ | exact pu_vals _ | refine pu_app ?_ ?_ | refine pu_cons (by first | exact .v _ | exact .rd _ _ | exact .adr _ | exact .mp _ _ | exact .agg _ (pu_vs rfl)) ?_)) | exact .fn _ _ (by repeat (first | exact pu_bytes _ | exact pu_nil | exact pu_vs rfl | exact pu_map (fun _ => .v _) _ | exact pu_vals _ | refine pu_app ?_ ?_ | refine pu_cons (by first | exact .v _ | exact .rd _ _ | exact .adr _ | exact .mp _ _ | exact .agg _ (pu_vs rfl)) ?_)) | exact .iface _ _ (.v _) | exact .iface _ _ (.agg _ (by repeat (first | exact pu_bytes _ | exact pu_nil | exact pu_vs rfl | exact pu_map (fun _ => .v _) _ | exact pu_vals _ | refine pu_app ?_ ?_ | refine pu_cons (by first | exact .v _ | exact .rd _ _ | exact .adr _ | exact .mp _ _ | exact .agg _ (pu_vs rfl)) ?_)))) ?_))) ?_ | refine RG.op _ _ rfl rfl (o_call Ty.cal56 (check_c _ [_, _] (by first | omega | exact ubyte _ | (simp only [bytesD_len, zeros_len, flatMap_len vc_len, List.length_append, List.length_take, List.length_drop, List.length_map, List.length_nil, List.length_cons, List.length_replicate, List.length_reverse, List.length_set, List.length_range, strB_size] <;> omega))) ⟨.inl rfl, .inl rfl, trivial⟩ (by repeat (first | exact trivial | refine And.intro (by first | exact .v _ | exact .rd _ _ | exact .adr _ | exact .mp _ _ | exact .agg _ (by repeat (first | exact pu_bytes _ | exact pu_nil | exact pu_vs rfl | exact pu_map (fun _ => .v _) _ | exact pu_vals _ | refine pu_app ?_ ?_ | refine pu_cons (by first | exact .v _ | exact .rd _ _ | exact .adr _ | exact .mp _ _ | exact .agg _ (pu_vs rfl)) ?_)) | exact .tup _ (by repeat (first | exact pu_bytes _ | exact pu_nil | exact pu_vs rfl | exact pu_map (fun _ => .v _) _ | exact pu_vals _ | refine pu_app ?_ ?_ | refine pu_cons (by first | exact .v _ | exact .rd _ _ | exact .adr _ | exact .mp _ _ | exact .agg _ (pu_vs rfl)) ?_)) | exact .fn _ _ (by repeat (first | exact pu_bytes _ | exact pu_nil | exact pu_vs rfl | exact pu_map (fun _ => .v _) _ | exact pu_vals _ | refine pu_app ?_ ?_ | refine pu_cons (by first | exact .v _ | exact .rd _ _ | exact .adr _ | exact .mp _ _ | exact .agg _ (pu_vs rfl)) ?_)) | exact .iface _ _ (.v _) | exact .iface _ _ (.agg _ (by repeat (first | exact pu_bytes _ | exact pu_nil | exact pu_vs rfl | exact pu_map (fun _ => .v _) _ | exact pu_vals _ | refine pu_app ?_ ?_ | refine pu_cons (by first | exact .v _ | exact .rd _ _ | exact .adr _ | exact .mp _ _ | exact .agg _ (pu_vs rfl)) ?_)))) ?_))) ?_
  refine RG.op _ _ rfl rfl (o_assign (.v _) rfl) ?_
  refine RG.nil (h3_ _ ?_)
  refine WC.seq fun Fh4_ h4_ => ?_
  refine WC.region ?_
  refine RG.op _ _ rfl rfl (o_move (.v _) rfl) ?_
  refine RG.op _ _ rfl rfl (o_neI rfl rfl) ?_
  refine RG.nil (h4_ _ ?_)
  refine WC.cond _ rfl (fun c2 => ?_) (fun c2 => ?_)
  ·
    have p2 := c2
    try simp only [decide_eq_true_eq, decide_eq_false_iff_not, Bool.and_eq_true, Bool.or_eq_true, Bool.not_eq_true', Bool.not_eq_false', Bool.and_eq_false_iff, Bool.or_eq_false_iff, beq_iff_eq, bne_iff_ne, beq_eq_false_iff_ne, bne_eq_false_iff_eq, Int.not_lt, Int.not_le, ne_eq, Decidable.not_not] at p2
    refine WC.seq fun Fh5_ h5_ => ?_
    refine WC.region ?_
    refine RG.op _ _ rfl rfl (o_build (cs := [I64 0, I64 0]) Try.underlying50 Ty.inf50 (Ty.pl50 Try.underlying50) rfl) ?_
    refine RG.op _ _ rfl rfl (o_move (.v _) rfl) ?_
    refine RG.op _ _ rfl rfl (o_store (d := (.agg [_, _])) rfl rfl rfl rfl (sz_of Ty.inf50) (Nat.le_of_ble_eq_true rfl) rfl) ?_
    refine RG.op _ _ rfl rfl (o_assign (.v _) rfl) ?_
    refine RG.nil (h5_ _ ?_)
    refine WC.ret ?_
    exact Ends.r2 rfl (.agg rfl Try.underlying50 rfl (sz_of Ty.inf50) rfl rfl rfl) (.tmp _ (.v _) rfl) (.pure' (by first | exact .v _ | exact .rd _ _ | exact .adr _ | exact .mp _ _ | exact .agg _ (by repeat (first | exact pu_bytes _ | exact pu_nil | exact pu_vs rfl | exact pu_map (fun _ => .v _) _ | exact pu_vals _ | refine pu_app ?_ ?_ | refine pu_cons (by first | exact .v _ | exact .rd _ _ | exact .adr _ | exact .mp _ _ | exact .agg _ (pu_vs rfl)) ?_)) | exact .tup _ (by repeat (first | exact pu_bytes _ | exact pu_nil | exact pu_vs rfl | exact pu_map (fun _ => .v _) _ | exact pu_vals _ | refine pu_app ?_ ?_ | refine pu_cons (by first | exact .v _ | exact .rd _ _ | exact .adr _ | exact .mp _ _ | exact .agg _ (pu_vs rfl)) ?_)) | exact .fn _ _ (by repeat (first | exact pu_bytes _ | exact pu_nil | exact pu_vs rfl | exact pu_map (fun _ => .v _) _ | exact pu_vals _ | refine pu_app ?_ ?_ | refine pu_cons (by first | exact .v _ | exact .rd _ _ | exact .adr _ | exact .mp _ _ | exact .agg _ (pu_vs rfl)) ?_)) | exact .iface _ _ (.v _) | exact .iface _ _ (.agg _ (by repeat (first | exact pu_bytes _ | exact pu_nil | exact pu_vs rfl | exact pu_map (fun _ => .v _) _ | exact pu_vals _ | refine pu_app ?_ ?_ | refine pu_cons (by first | exact .v _ | exact .rd _ _ | exact .adr _ | exact .mp _ _ | exact .agg _ (pu_vs rfl)) ?_))))) (.v _) (show D.tup [SP 0 0, I64 (wrongE n [a, b])] = _ by unfold whEA whEB; rw [if_neg p2, if_neg p2])
  ·
    have p2 := c2
    try simp only [decide_eq_true_eq, decide_eq_false_iff_not, Bool.and_eq_true, Bool.or_eq_true, Bool.not_eq_true', Bool.not_eq_false', Bool.and_eq_false_iff, Bool.or_eq_false_iff, beq_iff_eq, bne_iff_ne, beq_eq_false_iff_ne, bne_eq_false_iff_eq, Int.not_lt, Int.not_le, ne_eq, Decidable.not_not] at p2
    have hw := wrong_ok p2
    have hwid := hw.1
    have hfa := hw.2 a (by simp)
    have hfb := hw.2 b (by simp)
    refine WC.skip (h2_ _ ?_)
    refine WC.seq fun Fh6_ h6_ => ?_
    refine WC.seq fun Fh7_ h7_ => ?_
    refine WC.region ?_
    refine RG.op _ _ rfl rfl (o_load_ptr_L (xs := [_, _]) rfl Try.underlying50 rfl (sz_of Ty.inf50) rfl rfl rfl rfl) ?_
    refine RG.op _ _ rfl rfl (o_call Ty.cal42 (empty_c _ _) ⟨.inl rfl, trivial⟩ (by repeat (first | exact trivial | refine And.intro (by first | exact .v _ | exact .rd _ _ | exact .adr _ | exact .mp _ _ | exact .agg _ (by repeat (first | exact pu_bytes _ | exact pu_nil | exact pu_vs rfl | exact pu_map (fun _ => .v _) _ | exact pu_vals _ | refine pu_app ?_ ?_ | refine pu_cons (by first | exact .v _ | exact .rd _ _ | exact .adr _ | exact .mp _ _ | exact .agg _ (pu_vs rfl)) ?_)) | exact .tup _ (by repeat (first | exact pu_bytes _ | exact pu_nil | exact pu_vs rfl | exact pu_map (fun _ => .v _) _ | exact pu_vals _ | refine pu_app ?_ ?_ | refine pu_cons (by first | exact .v _ | exact .rd _ _ | exact .adr _ | exact .mp _ _ | exact .agg _ (pu_vs rfl)) ?_)) | exact .fn _ _ (by repeat (first | exact pu_bytes _ | exact pu_nil | exact pu_vs rfl | exact pu_map (fun _ => .v _) _ | exact pu_vals _ | refine pu_app ?_ ?_ | refine pu_cons (by first | exact .v _ | exact .rd _ _ | exact .adr _ | exact .mp _ _ | exact .agg _ (pu_vs rfl)) ?_)) | exact .iface _ _ (.v _) | exact .iface _ _ (.agg _ (by repeat (first | exact pu_bytes _ | exact pu_nil | exact pu_vs rfl | exact pu_map (fun _ => .v _) _ | exact pu_vals _ | refine pu_app ?_ ?_ | refine pu_cons (by first | exact .v _ | exact .rd _ _ | exact .adr _ | exact .mp _ _ | exact .agg _ (pu_vs rfl)) ?_)))) ?_))) ?_
    refine RG.nil (h7_ _ ?_)
    refine WC.cond _ rfl (fun c4 => ?_) (fun c4 => ?_)
    ·
      have p4 := c4
      try simp only [decide_eq_true_eq, decide_eq_false_iff_not, Bool.and_eq_true, Bool.or_eq_true, Bool.not_eq_true', Bool.not_eq_false', Bool.and_eq_false_iff, Bool.or_eq_false_iff, beq_iff_eq, bne_iff_ne, beq_eq_false_iff_ne, bne_eq_false_iff_eq, Int.not_lt, Int.not_le, ne_eq, Decidable.not_not] at p4
      refine WC.seq fun Fh8_ h8_ => ?_
      refine WC.region ?_
      refine RG.op _ _ rfl rfl (o_build (cs := [I64 0, I64 0]) Try.underlying50 Ty.inf50 (Ty.pl50 Try.underlying50) rfl) ?_
      refine RG.op _ _ rfl rfl (o_store (d := (.agg [_, _])) rfl rfl rfl rfl (sz_of Ty.inf50) (Nat.le_of_ble_eq_true rfl) rfl) ?_
      refine RG.op _ _ rfl rfl (o_assign (.v _) rfl) ?_
      refine RG.nil (h8_ _ ?_)
      refine WC.ret ?_
      exact Ends.r2 rfl (.agg rfl Try.underlying50 rfl (sz_of Ty.inf50) rfl rfl rfl) (.tmp _ (.v _) rfl) (.pure' (by first | exact .v _ | exact .rd _ _ | exact .adr _ | exact .mp _ _ | exact .agg _ (by repeat (first | exact pu_bytes _ | exact pu_nil | exact pu_vs rfl | exact pu_map (fun _ => .v _) _ | exact pu_vals _ | refine pu_app ?_ ?_ | refine pu_cons (by first | exact .v _ | exact .rd _ _ | exact .adr _ | exact .mp _ _ | exact .agg _ (pu_vs rfl)) ?_)) | exact .tup _ (by repeat (first | exact pu_bytes _ | exact pu_nil | exact pu_vs rfl | exact pu_map (fun _ => .v _) _ | exact pu_vals _ | refine pu_app ?_ ?_ | refine pu_cons (by first | exact .v _ | exact .rd _ _ | exact .adr _ | exact .mp _ _ | exact .agg _ (pu_vs rfl)) ?_)) | exact .fn _ _ (by repeat (first | exact pu_bytes _ | exact pu_nil | exact pu_vs rfl | exact pu_map (fun _ => .v _) _ | exact pu_vals _ | refine pu_app ?_ ?_ | refine pu_cons (by first | exact .v _ | exact .rd _ _ | exact .adr _ | exact .mp _ _ | exact .agg _ (pu_vs rfl)) ?_)) | exact .iface _ _ (.v _) | exact .iface _ _ (.agg _ (by repeat (first | exact pu_bytes _ | exact pu_nil | exact pu_vs rfl | exact pu_map (fun _ => .v _) _ | exact pu_vals _ | refine pu_app ?_ ?_ | refine pu_cons (by first | exact .v _ | exact .rd _ _ | exact .adr _ | exact .mp _ _ | exact .agg _ (pu_vs rfl)) ?_))))) (.v _) (show D.tup [SP 0 0, I64 0] = _ by unfold whEA whEB whA whB; rw [if_pos p2, if_pos p2, p2, c4]; rfl)
    ·
      have p4 := c4
      try simp only [decide_eq_true_eq, decide_eq_false_iff_not, Bool.and_eq_true, Bool.or_eq_true, Bool.not_eq_true', Bool.not_eq_false', Bool.and_eq_false_iff, Bool.or_eq_false_iff, beq_iff_eq, bne_iff_ne, beq_eq_false_iff_ne, bne_eq_false_iff_eq, Int.not_lt, Int.not_le, ne_eq, Decidable.not_not] at p4
      refine WC.skip (h6_ _ ?_)
      refine WC.seq fun Fh9_ h9_ => ?_
      refine WC.frz 1 _ [(5, .adr [I64 n])] rfl (by repeat (first | exact pu_bytes _ | exact pu_nil | exact pu_vs rfl | exact pu_map (fun _ => .v _) _ | exact pu_vals _ | refine pu_app ?_ ?_ | refine pu_cons (by first | exact .v _ | exact .rd _ _ | exact .adr _ | exact .mp _ _ | exact .agg _ (by repeat (first | exact pu_bytes _ | exact pu_nil | exact pu_vs rfl | exact pu_map (fun _ => .v _) _ | exact pu_vals _ | refine pu_app ?_ ?_ | refine pu_cons (by first | exact .v _ | exact .rd _ _ | exact .adr _ | exact .mp _ _ | exact .agg _ (pu_vs rfl)) ?_)) | exact .tup _ (by repeat (first | exact pu_bytes _ | exact pu_nil | exact pu_vs rfl | exact pu_map (fun _ => .v _) _ | exact pu_vals _ | refine pu_app ?_ ?_ | refine pu_cons (by first | exact .v _ | exact .rd _ _ | exact .adr _ | exact .mp _ _ | exact .agg _ (pu_vs rfl)) ?_)) | exact .fn _ _ (by repeat (first | exact pu_bytes _ | exact pu_nil | exact pu_vs rfl | exact pu_map (fun _ => .v _) _ | exact pu_vals _ | refine pu_app ?_ ?_ | refine pu_cons (by first | exact .v _ | exact .rd _ _ | exact .adr _ | exact .mp _ _ | exact .agg _ (pu_vs rfl)) ?_)) | exact .iface _ _ (.v _) | exact .iface _ _ (.agg _ (by repeat (first | exact pu_bytes _ | exact pu_nil | exact pu_vs rfl | exact pu_map (fun _ => .v _) _ | exact pu_vals _ | refine pu_app ?_ ?_ | refine pu_cons (by first | exact .v _ | exact .rd _ _ | exact .adr _ | exact .mp _ _ | exact .agg _ (pu_vs rfl)) ?_)))) ?_)) ⟨.ptr 0, trivial⟩ ?_
      refine WC.region ?_
      refine RG.op _ _ rfl rfl (o_makeFunc) ?_
      refine RG.op _ _ rfl rfl (o_assign (.fn _ _) rfl) ?_
      refine RG.nil (h9_ _ ?_)
      refine WC.seq fun Fh10_ h10_ => ?_
      refine WC.drawn3 (fun H => H[0]? = some (some ⟨[I64 a, I64 b], 50, false, 0⟩)) (by kernel_rfl) (rfl) ?_
      refine PG.op _ rfl rfl rfl (fun _ hH => o_move (.fn _ _) rfl) ?_
      refine PG.op _ rfl rfl rfl (fun _ hH => o_move (.v _) rfl) ?_
      refine PG.op _ rfl rfl rfl (fun _ hH => o_fld_ptr rfl Try.underlying50 rfl (sz_of Ty.inf2) (by decide)) ?_
      refine PG.op _ rfl rfl rfl (fun _ hH => o_load_ptr rfl Try.underlying2 rfl hH rfl rfl) ?_
      refine PG.op _ rfl rfl rfl (fun _ hH => o_callV (ds := [fnV G1, I64 a]) (cs := [.adr [I64 n]]) (.inl rfl) Ty.cal68 (end_c hG1 (q1 hfa hwid)) ⟨.inl rfl, .inl rfl, trivial⟩ (by repeat (first | exact trivial | refine And.intro (by first | exact .v _ | exact .rd _ _ | exact .adr _ | exact .mp _ _ | exact .agg _ (by repeat (first | exact pu_bytes _ | exact pu_nil | exact pu_vs rfl | exact pu_map (fun _ => .v _) _ | exact pu_vals _ | refine pu_app ?_ ?_ | refine pu_cons (by first | exact .v _ | exact .rd _ _ | exact .adr _ | exact .mp _ _ | exact .agg _ (pu_vs rfl)) ?_)) | exact .tup _ (by repeat (first | exact pu_bytes _ | exact pu_nil | exact pu_vs rfl | exact pu_map (fun _ => .v _) _ | exact pu_vals _ | refine pu_app ?_ ?_ | refine pu_cons (by first | exact .v _ | exact .rd _ _ | exact .adr _ | exact .mp _ _ | exact .agg _ (pu_vs rfl)) ?_)) | exact .fn _ _ (by repeat (first | exact pu_bytes _ | exact pu_nil | exact pu_vs rfl | exact pu_map (fun _ => .v _) _ | exact pu_vals _ | refine pu_app ?_ ?_ | refine pu_cons (by first | exact .v _ | exact .rd _ _ | exact .adr _ | exact .mp _ _ | exact .agg _ (pu_vs rfl)) ?_)) | exact .iface _ _ (.v _) | exact .iface _ _ (.agg _ (by repeat (first | exact pu_bytes _ | exact pu_nil | exact pu_vs rfl | exact pu_map (fun _ => .v _) _ | exact pu_vals _ | refine pu_app ?_ ?_ | refine pu_cons (by first | exact .v _ | exact .rd _ _ | exact .adr _ | exact .mp _ _ | exact .agg _ (pu_vs rfl)) ?_)))) ?_))) ?_
      refine PG.op _ rfl rfl rfl (fun _ hH => o_move (.fn _ _) rfl) ?_
      refine PG.op _ rfl rfl rfl (fun _ hH => o_move (.v _) rfl) ?_
      refine PG.op _ rfl rfl rfl (fun _ hH => o_fld_ptr rfl Try.underlying50 rfl (sz_of Ty.inf2) (by decide)) ?_
      refine PG.op _ rfl rfl rfl (fun _ hH => o_load_ptr rfl Try.underlying2 rfl hH rfl rfl) ?_
      refine PG.op _ rfl rfl rfl (fun _ hH => o_callV (ds := [fnV G2, I64 b]) (cs := [.adr [I64 n]]) (.inl rfl) Ty.cal68 (end_c hG2 (q2 hfb hwid)) ⟨.inl rfl, .inl rfl, trivial⟩ (by repeat (first | exact trivial | refine And.intro (by first | exact .v _ | exact .rd _ _ | exact .adr _ | exact .mp _ _ | exact .agg _ (by repeat (first | exact pu_bytes _ | exact pu_nil | exact pu_vs rfl | exact pu_map (fun _ => .v _) _ | exact pu_vals _ | refine pu_app ?_ ?_ | refine pu_cons (by first | exact .v _ | exact .rd _ _ | exact .adr _ | exact .mp _ _ | exact .agg _ (pu_vs rfl)) ?_)) | exact .tup _ (by repeat (first | exact pu_bytes _ | exact pu_nil | exact pu_vs rfl | exact pu_map (fun _ => .v _) _ | exact pu_vals _ | refine pu_app ?_ ?_ | refine pu_cons (by first | exact .v _ | exact .rd _ _ | exact .adr _ | exact .mp _ _ | exact .agg _ (pu_vs rfl)) ?_)) | exact .fn _ _ (by repeat (first | exact pu_bytes _ | exact pu_nil | exact pu_vs rfl | exact pu_map (fun _ => .v _) _ | exact pu_vals _ | refine pu_app ?_ ?_ | refine pu_cons (by first | exact .v _ | exact .rd _ _ | exact .adr _ | exact .mp _ _ | exact .agg _ (pu_vs rfl)) ?_)) | exact .iface _ _ (.v _) | exact .iface _ _ (.agg _ (by repeat (first | exact pu_bytes _ | exact pu_nil | exact pu_vs rfl | exact pu_map (fun _ => .v _) _ | exact pu_vals _ | refine pu_app ?_ ?_ | refine pu_cons (by first | exact .v _ | exact .rd _ _ | exact .adr _ | exact .mp _ _ | exact .agg _ (pu_vs rfl)) ?_)))) ?_))) ?_
      refine PG.op _ rfl rfl rfl (fun _ hH => o_build (cs := [(.v _), (.v _)]) Try.underlying50 Ty.inf50 (Ty.pl50 Try.underlying50) rfl) ?_
      refine PG.op _ rfl rfl rfl (fun _ hH => o_call Ty.cal61 (orZero_c _ _) ⟨.inl rfl, trivial⟩ (by repeat (first | exact trivial | refine And.intro (by first | exact .v _ | exact .rd _ _ | exact .adr _ | exact .mp _ _ | exact .agg _ (by repeat (first | exact pu_bytes _ | exact pu_nil | exact pu_vs rfl | exact pu_map (fun _ => .v _) _ | exact pu_vals _ | refine pu_app ?_ ?_ | refine pu_cons (by first | exact .v _ | exact .rd _ _ | exact .adr _ | exact .mp _ _ | exact .agg _ (pu_vs rfl)) ?_)) | exact .tup _ (by repeat (first | exact pu_bytes _ | exact pu_nil | exact pu_vs rfl | exact pu_map (fun _ => .v _) _ | exact pu_vals _ | refine pu_app ?_ ?_ | refine pu_cons (by first | exact .v _ | exact .rd _ _ | exact .adr _ | exact .mp _ _ | exact .agg _ (pu_vs rfl)) ?_)) | exact .fn _ _ (by repeat (first | exact pu_bytes _ | exact pu_nil | exact pu_vs rfl | exact pu_map (fun _ => .v _) _ | exact pu_vals _ | refine pu_app ?_ ?_ | refine pu_cons (by first | exact .v _ | exact .rd _ _ | exact .adr _ | exact .mp _ _ | exact .agg _ (pu_vs rfl)) ?_)) | exact .iface _ _ (.v _) | exact .iface _ _ (.agg _ (by repeat (first | exact pu_bytes _ | exact pu_nil | exact pu_vs rfl | exact pu_map (fun _ => .v _) _ | exact pu_vals _ | refine pu_app ?_ ?_ | refine pu_cons (by first | exact .v _ | exact .rd _ _ | exact .adr _ | exact .mp _ _ | exact .agg _ (pu_vs rfl)) ?_)))) ?_))) ?_
      refine PG.opm _ _ rfl rfl rfl (o_store (d := (.agg [_, _])) rfl rfl rfl rfl (sz_of Ty.inf50) (Nat.le_of_ble_eq_true rfl) rfl) ?_
      refine PG.op _ rfl rfl rfl (fun _ hH => o_assign (.v _) rfl) ?_
      refine PG.nil ⟨by kernel_rfl, List.forall_mem_cons.2 ⟨noHs rfl, List.forall_mem_cons.2 ⟨noHs rfl, List.forall_mem_cons.2 ⟨noHs rfl, List.forall_mem_cons.2 ⟨noHs rfl, List.forall_mem_cons.2 ⟨noHs rfl, List.forall_mem_cons.2 ⟨noHs rfl, List.forall_mem_cons.2 ⟨noHs rfl, List.forall_mem_cons.2 ⟨noHs rfl, List.forall_mem_cons.2 ⟨noHs rfl, List.forall_mem_cons.2 ⟨noHs rfl, List.forall_mem_cons.2 ⟨noHs rfl, List.forall_mem_cons.2 ⟨noHs rfl, List.forall_mem_cons.2 ⟨fun _ => rfl, List.forall_mem_cons.2 ⟨noHs rfl, List.forall_mem_nil _⟩⟩⟩⟩⟩⟩⟩⟩⟩⟩⟩⟩⟩⟩, (h10_ _ ?_)⟩
      refine WC.ret ?_
      exact Ends.r2 rfl (.agg rfl Try.underlying50 rfl (sz_of Ty.inf50) rfl rfl rfl) (.tmp _ (.v _) rfl) (.pure' (by first | exact .v _ | exact .rd _ _ | exact .adr _ | exact .mp _ _ | exact .agg _ (by repeat (first | exact pu_bytes _ | exact pu_nil | exact pu_vs rfl | exact pu_map (fun _ => .v _) _ | exact pu_vals _ | refine pu_app ?_ ?_ | refine pu_cons (by first | exact .v _ | exact .rd _ _ | exact .adr _ | exact .mp _ _ | exact .agg _ (pu_vs rfl)) ?_)) | exact .tup _ (by repeat (first | exact pu_bytes _ | exact pu_nil | exact pu_vs rfl | exact pu_map (fun _ => .v _) _ | exact pu_vals _ | refine pu_app ?_ ?_ | refine pu_cons (by first | exact .v _ | exact .rd _ _ | exact .adr _ | exact .mp _ _ | exact .agg _ (pu_vs rfl)) ?_)) | exact .fn _ _ (by repeat (first | exact pu_bytes _ | exact pu_nil | exact pu_vs rfl | exact pu_map (fun _ => .v _) _ | exact pu_vals _ | refine pu_app ?_ ?_ | refine pu_cons (by first | exact .v _ | exact .rd _ _ | exact .adr _ | exact .mp _ _ | exact .agg _ (pu_vs rfl)) ?_)) | exact .iface _ _ (.v _) | exact .iface _ _ (.agg _ (by repeat (first | exact pu_bytes _ | exact pu_nil | exact pu_vs rfl | exact pu_map (fun _ => .v _) _ | exact pu_vals _ | refine pu_app ?_ ?_ | refine pu_cons (by first | exact .v _ | exact .rd _ _ | exact .adr _ | exact .mp _ _ | exact .agg _ (pu_vs rfl)) ?_))))) (.v _) (show D.tup [goodD (z1 a n) (z2 b n), I64 0] = _ by unfold whEA whEB whA whB; rw [if_pos p2, if_pos p2, p2, c4]; rfl)
set_option maxHeartbeats 4000000 in
theorem Out_c (a b n : Int) : Fun Try.prog 34 [SP a b, I64 n] (· = .tup [SP (whEA floorZ ceilZ a b n) (whEB floorZ ceilZ a b n), I64 (wrongE n [a, b])]) := by
  refine Fun.of Try.func34 rfl (Nat.le_of_ble_eq_true rfl) fun C => ?_
  refine WC.seq fun Fh1_ h1_ => ?_
  refine WC.region ?_
  refine RG.op _ _ rfl rfl (o_box (d := .agg [_, _]) rfl rfl) ?_
  refine RG.op _ _ rfl rfl (o_alloc (z_of Ty.inf50) rfl) ?_
  refine RG.op _ _ rfl rfl (o_assign (.v _) rfl) ?_
  refine RG.nil (h1_ _ ?_)
  refine WC.seq fun Fh2_ h2_ => ?_
  refine WC.region ?_
  refine RG.op _ _ rfl rfl (o_load_ptr_L (xs := [_, _]) rfl Try.underlying50 rfl (sz_of Ty.inf50) rfl rfl rfl rfl) ?_
  refine RG.op _ _ rfl rfl (o_move (.v _) rfl) ?_
  refine RG.op _ _ rfl rfl (o_call Ty.cal59 (whole_c floorZ ceilZ a b n Ty.cal57 Ty.cal58 (fun h w => floor_c _ _ h w) (fun h w => ceil_c _ _ h w)) ⟨.inl rfl, .inl rfl, .inl rfl, .inl rfl, trivial⟩ (by repeat (first | exact trivial | refine And.intro (by first | exact .v _ | exact .rd _ _ | exact .adr _ | exact .mp _ _ | exact .agg _ (by repeat (first | exact pu_bytes _ | exact pu_nil | exact pu_vs rfl | exact pu_map (fun _ => .v _) _ | exact pu_vals _ | refine pu_app ?_ ?_ | refine pu_cons (by first | exact .v _ | exact .rd _ _ | exact .adr _ | exact .mp _ _ | exact .agg _ (pu_vs rfl)) ?_)) | exact .tup _ (by repeat (first | exact pu_bytes _ | exact pu_nil | exact pu_vs rfl | exact pu_map (fun _ => .v _) _ | exact pu_vals _ | refine pu_app ?_ ?_ | refine pu_cons (by first | exact .v _ | exact .rd _ _ | exact .adr _ | exact .mp _ _ | exact .agg _ (pu_vs rfl)) ?_)) | exact .fn _ _ (by repeat (first | exact pu_bytes _ | exact pu_nil | exact pu_vs rfl | exact pu_map (fun _ => .v _) _ | exact pu_vals _ | refine pu_app ?_ ?_ | refine pu_cons (by first | exact .v _ | exact .rd _ _ | exact .adr _ | exact .mp _ _ | exact .agg _ (pu_vs rfl)) ?_)) | exact .iface _ _ (.v _) | exact .iface _ _ (.agg _ (by repeat (first | exact pu_bytes _ | exact pu_nil | exact pu_vs rfl | exact pu_map (fun _ => .v _) _ | exact pu_vals _ | refine pu_app ?_ ?_ | refine pu_cons (by first | exact .v _ | exact .rd _ _ | exact .adr _ | exact .mp _ _ | exact .agg _ (pu_vs rfl)) ?_)))) ?_))) ?_
  refine RG.op _ _ rfl rfl (o_extract rfl rfl) ?_
  refine RG.op _ _ rfl rfl (o_extract rfl rfl) ?_
  refine RG.op _ _ rfl rfl (o_store (d := (.agg [_, _])) rfl rfl rfl rfl (sz_of Ty.inf50) (Nat.le_of_ble_eq_true rfl) rfl) ?_
  refine RG.op _ _ rfl rfl (o_assign (.v _) rfl) ?_
  refine RG.nil (h2_ _ ?_)
  refine WC.ret ?_
  exact Ends.r2 rfl (.agg rfl Try.underlying50 rfl (sz_of Ty.inf50) rfl rfl rfl) (.tmp _ (.v _) rfl) (.pure' (by first | exact .v _ | exact .rd _ _ | exact .adr _ | exact .mp _ _ | exact .agg _ (by repeat (first | exact pu_bytes _ | exact pu_nil | exact pu_vs rfl | exact pu_map (fun _ => .v _) _ | exact pu_vals _ | refine pu_app ?_ ?_ | refine pu_cons (by first | exact .v _ | exact .rd _ _ | exact .adr _ | exact .mp _ _ | exact .agg _ (pu_vs rfl)) ?_)) | exact .tup _ (by repeat (first | exact pu_bytes _ | exact pu_nil | exact pu_vs rfl | exact pu_map (fun _ => .v _) _ | exact pu_vals _ | refine pu_app ?_ ?_ | refine pu_cons (by first | exact .v _ | exact .rd _ _ | exact .adr _ | exact .mp _ _ | exact .agg _ (pu_vs rfl)) ?_)) | exact .fn _ _ (by repeat (first | exact pu_bytes _ | exact pu_nil | exact pu_vs rfl | exact pu_map (fun _ => .v _) _ | exact pu_vals _ | refine pu_app ?_ ?_ | refine pu_cons (by first | exact .v _ | exact .rd _ _ | exact .adr _ | exact .mp _ _ | exact .agg _ (pu_vs rfl)) ?_)) | exact .iface _ _ (.v _) | exact .iface _ _ (.agg _ (by repeat (first | exact pu_bytes _ | exact pu_nil | exact pu_vs rfl | exact pu_map (fun _ => .v _) _ | exact pu_vals _ | refine pu_app ?_ ?_ | refine pu_cons (by first | exact .v _ | exact .rd _ _ | exact .adr _ | exact .mp _ _ | exact .agg _ (pu_vs rfl)) ?_))))) (.v _) (rfl)
set_option maxHeartbeats 4000000 in
theorem In_c (a b n : Int) : Fun Try.prog 35 [SP a b, I64 n] (· = .tup [SP (whEA ceilZ floorZ a b n) (whEB ceilZ floorZ a b n), I64 (wrongE n [a, b])]) := by
  refine Fun.of Try.func35 rfl (Nat.le_of_ble_eq_true rfl) fun C => ?_
  refine WC.seq fun Fh1_ h1_ => ?_
  refine WC.region ?_
  refine RG.op _ _ rfl rfl (o_box (d := .agg [_, _]) rfl rfl) ?_
  refine RG.op _ _ rfl rfl (o_alloc (z_of Ty.inf50) rfl) ?_
  refine RG.op _ _ rfl rfl (o_assign (.v _) rfl) ?_
  refine RG.nil (h1_ _ ?_)
  refine WC.seq fun Fh2_ h2_ => ?_
  refine WC.region ?_
  refine RG.op _ _ rfl rfl (o_load_ptr_L (xs := [_, _]) rfl Try.underlying50 rfl (sz_of Ty.inf50) rfl rfl rfl rfl) ?_
  refine RG.op _ _ rfl rfl (o_move (.v _) rfl) ?_
  refine RG.op _ _ rfl rfl (o_call Ty.cal59 (whole_c ceilZ floorZ a b n Ty.cal58 Ty.cal57 (fun h w => ceil_c _ _ h w) (fun h w => floor_c _ _ h w)) ⟨.inl rfl, .inl rfl, .inl rfl, .inl rfl, trivial⟩ (by repeat (first | exact trivial | refine And.intro (by first | exact .v _ | exact .rd _ _ | exact .adr _ | exact .mp _ _ | exact .agg _ (by repeat (first | exact pu_bytes _ | exact pu_nil | exact pu_vs rfl | exact pu_map (fun _ => .v _) _ | exact pu_vals _ | refine pu_app ?_ ?_ | refine pu_cons (by first | exact .v _ | exact .rd _ _ | exact .adr _ | exact .mp _ _ | exact .agg _ (pu_vs rfl)) ?_)) | exact .tup _ (by repeat (first | exact pu_bytes _ | exact pu_nil | exact pu_vs rfl | exact pu_map (fun _ => .v _) _ | exact pu_vals _ | refine pu_app ?_ ?_ | refine pu_cons (by first | exact .v _ | exact .rd _ _ | exact .adr _ | exact .mp _ _ | exact .agg _ (pu_vs rfl)) ?_)) | exact .fn _ _ (by repeat (first | exact pu_bytes _ | exact pu_nil | exact pu_vs rfl | exact pu_map (fun _ => .v _) _ | exact pu_vals _ | refine pu_app ?_ ?_ | refine pu_cons (by first | exact .v _ | exact .rd _ _ | exact .adr _ | exact .mp _ _ | exact .agg _ (pu_vs rfl)) ?_)) | exact .iface _ _ (.v _) | exact .iface _ _ (.agg _ (by repeat (first | exact pu_bytes _ | exact pu_nil | exact pu_vs rfl | exact pu_map (fun _ => .v _) _ | exact pu_vals _ | refine pu_app ?_ ?_ | refine pu_cons (by first | exact .v _ | exact .rd _ _ | exact .adr _ | exact .mp _ _ | exact .agg _ (pu_vs rfl)) ?_)))) ?_))) ?_
  refine RG.op _ _ rfl rfl (o_extract rfl rfl) ?_
  refine RG.op _ _ rfl rfl (o_extract rfl rfl) ?_
  refine RG.op _ _ rfl rfl (o_store (d := (.agg [_, _])) rfl rfl rfl rfl (sz_of Ty.inf50) (Nat.le_of_ble_eq_true rfl) rfl) ?_
  refine RG.op _ _ rfl rfl (o_assign (.v _) rfl) ?_
  refine RG.nil (h2_ _ ?_)
  refine WC.ret ?_
  exact Ends.r2 rfl (.agg rfl Try.underlying50 rfl (sz_of Ty.inf50) rfl rfl rfl) (.tmp _ (.v _) rfl) (.pure' (by first | exact .v _ | exact .rd _ _ | exact .adr _ | exact .mp _ _ | exact .agg _ (by repeat (first | exact pu_bytes _ | exact pu_nil | exact pu_vs rfl | exact pu_map (fun _ => .v _) _ | exact pu_vals _ | refine pu_app ?_ ?_ | refine pu_cons (by first | exact .v _ | exact .rd _ _ | exact .adr _ | exact .mp _ _ | exact .agg _ (pu_vs rfl)) ?_)) | exact .tup _ (by repeat (first | exact pu_bytes _ | exact pu_nil | exact pu_vs rfl | exact pu_map (fun _ => .v _) _ | exact pu_vals _ | refine pu_app ?_ ?_ | refine pu_cons (by first | exact .v _ | exact .rd _ _ | exact .adr _ | exact .mp _ _ | exact .agg _ (pu_vs rfl)) ?_)) | exact .fn _ _ (by repeat (first | exact pu_bytes _ | exact pu_nil | exact pu_vs rfl | exact pu_map (fun _ => .v _) _ | exact pu_vals _ | refine pu_app ?_ ?_ | refine pu_cons (by first | exact .v _ | exact .rd _ _ | exact .adr _ | exact .mp _ _ | exact .agg _ (pu_vs rfl)) ?_)) | exact .iface _ _ (.v _) | exact .iface _ _ (.agg _ (by repeat (first | exact pu_bytes _ | exact pu_nil | exact pu_vs rfl | exact pu_map (fun _ => .v _) _ | exact pu_vals _ | refine pu_app ?_ ?_ | refine pu_cons (by first | exact .v _ | exact .rd _ _ | exact .adr _ | exact .mp _ _ | exact .agg _ (pu_vs rfl)) ?_))))) (.v _) (rfl)
set_option maxHeartbeats 4000000 in
theorem rOut_c (a b n : Int) (hfa : Fit a) (hfb : Fit b) (hwid : Wid n) : Fun Try.prog 36 [SP a b, I64 n] (· = SP (whA floorZ ceilZ a b n) (whB floorZ ceilZ a b n)) := by
  refine Fun.of Try.func36 rfl (Nat.le_of_ble_eq_true rfl) fun C => ?_
  refine WC.seq fun Fh1_ h1_ => ?_
  refine WC.region ?_
  refine RG.op _ _ rfl rfl (o_box (d := .agg [_, _]) rfl rfl) ?_
  refine RG.op _ _ rfl rfl (o_alloc (z_of Ty.inf50) rfl) ?_
  refine RG.nil (h1_ _ ?_)
  refine WC.seq fun Fh2_ h2_ => ?_
  refine WC.seq fun Fh3_ h3_ => ?_
  refine WC.region ?_
  refine RG.op _ _ rfl rfl (o_fld_ptr rfl Try.underlying50 rfl (sz_of Ty.inf2) (by decide)) ?_
  refine RG.op _ _ rfl rfl (o_load_ptr rfl Try.underlying2 rfl rfl rfl rfl) ?_
  refine RG.op _ _ rfl rfl (o_fld_ptr rfl Try.underlying50 rfl (sz_of Ty.inf2) (by decide)) ?_
  refine RG.op _ _ rfl rfl (o_load_ptr rfl Try.underlying2 rfl rfl rfl rfl) ?_
  refine RG.op _ _ rfl rfl (o_leI rfl rfl) ?_
  refine RG.nil (h3_ _ ?_)
  refine WC.cond _ rfl (fun c1 => ?_) (fun c1 => ?_)
  ·
    have p1 := c1
    try simp only [decide_eq_true_eq, decide_eq_false_iff_not, Bool.and_eq_true, Bool.or_eq_true, Bool.not_eq_true', Bool.not_eq_false', Bool.and_eq_false_iff, Bool.or_eq_false_iff, beq_iff_eq, bne_iff_ne, beq_eq_false_iff_ne, bne_eq_false_iff_eq, Int.not_lt, Int.not_le, ne_eq, Decidable.not_not] at p1
    refine WC.seq fun Fh4_ h4_ => ?_
    refine WC.region ?_
    refine RG.op _ _ rfl rfl (o_build (cs := [I64 0, I64 0]) Try.underlying50 Ty.inf50 (Ty.pl50 Try.underlying50) rfl) ?_
    refine RG.op _ _ rfl rfl (o_store (d := (.agg [_, _])) rfl rfl rfl rfl (sz_of Ty.inf50) (Nat.le_of_ble_eq_true rfl) rfl) ?_
    refine RG.nil (h4_ _ ?_)
    refine WC.ret ?_
    exact Ends.r1 rfl (.agg rfl Try.underlying50 rfl (sz_of Ty.inf50) rfl rfl rfl) (.pure' (by first | exact .v _ | exact .rd _ _ | exact .adr _ | exact .mp _ _ | exact .agg _ (by repeat (first | exact pu_bytes _ | exact pu_nil | exact pu_vs rfl | exact pu_map (fun _ => .v _) _ | exact pu_vals _ | refine pu_app ?_ ?_ | refine pu_cons (by first | exact .v _ | exact .rd _ _ | exact .adr _ | exact .mp _ _ | exact .agg _ (pu_vs rfl)) ?_)) | exact .tup _ (by repeat (first | exact pu_bytes _ | exact pu_nil | exact pu_vs rfl | exact pu_map (fun _ => .v _) _ | exact pu_vals _ | refine pu_app ?_ ?_ | refine pu_cons (by first | exact .v _ | exact .rd _ _ | exact .adr _ | exact .mp _ _ | exact .agg _ (pu_vs rfl)) ?_)) | exact .fn _ _ (by repeat (first | exact pu_bytes _ | exact pu_nil | exact pu_vs rfl | exact pu_map (fun _ => .v _) _ | exact pu_vals _ | refine pu_app ?_ ?_ | refine pu_cons (by first | exact .v _ | exact .rd _ _ | exact .adr _ | exact .mp _ _ | exact .agg _ (pu_vs rfl)) ?_)) | exact .iface _ _ (.v _) | exact .iface _ _ (.agg _ (by repeat (first | exact pu_bytes _ | exact pu_nil | exact pu_vs rfl | exact pu_map (fun _ => .v _) _ | exact pu_vals _ | refine pu_app ?_ ?_ | refine pu_cons (by first | exact .v _ | exact .rd _ _ | exact .adr _ | exact .mp _ _ | exact .agg _ (pu_vs rfl)) ?_))))) (show SP 0 0 = _ by unfold whA whB; rw [show emptyB a b = true from c1]; rfl)
  ·
    have p1 := c1
    try simp only [decide_eq_true_eq, decide_eq_false_iff_not, Bool.and_eq_true, Bool.or_eq_true, Bool.not_eq_true', Bool.not_eq_false', Bool.and_eq_false_iff, Bool.or_eq_false_iff, beq_iff_eq, bne_iff_ne, beq_eq_false_iff_ne, bne_eq_false_iff_eq, Int.not_lt, Int.not_le, ne_eq, Decidable.not_not] at p1
    refine WC.skip (h2_ _ ?_)
    refine WC.seq fun Fh5_ h5_ => ?_
    refine WC.drawn3 (fun H => H[0]? = some (some ⟨[I64 a, I64 b], 50, false, 0⟩)) (by kernel_rfl) (rfl) ?_
    refine PG.op _ rfl rfl rfl (fun _ hH => o_fld_ptr rfl Try.underlying50 rfl (sz_of Ty.inf2) (by decide)) ?_
    refine PG.op _ rfl rfl rfl (fun _ hH => o_load_ptr rfl Try.underlying2 rfl hH rfl rfl) ?_
    refine PG.op _ rfl rfl rfl (fun _ hH => o_move (.v _) rfl) ?_
    refine PG.op _ rfl rfl rfl (fun _ hH => o_call Ty.cal32 (rfloor_c _ _ (by assumption) (by assumption)) ⟨.inl rfl, .inl rfl, trivial⟩ (by repeat (first | exact trivial | refine And.intro (by first | exact .v _ | exact .rd _ _ | exact .adr _ | exact .mp _ _ | exact .agg _ (by repeat (first | exact pu_bytes _ | exact pu_nil | exact pu_vs rfl | exact pu_map (fun _ => .v _) _ | exact pu_vals _ | refine pu_app ?_ ?_ | refine pu_cons (by first | exact .v _ | exact .rd _ _ | exact .adr _ | exact .mp _ _ | exact .agg _ (pu_vs rfl)) ?_)) | exact .tup _ (by repeat (first | exact pu_bytes _ | exact pu_nil | exact pu_vs rfl | exact pu_map (fun _ => .v _) _ | exact pu_vals _ | refine pu_app ?_ ?_ | refine pu_cons (by first | exact .v _ | exact .rd _ _ | exact .adr _ | exact .mp _ _ | exact .agg _ (pu_vs rfl)) ?_)) | exact .fn _ _ (by repeat (first | exact pu_bytes _ | exact pu_nil | exact pu_vs rfl | exact pu_map (fun _ => .v _) _ | exact pu_vals _ | refine pu_app ?_ ?_ | refine pu_cons (by first | exact .v _ | exact .rd _ _ | exact .adr _ | exact .mp _ _ | exact .agg _ (pu_vs rfl)) ?_)) | exact .iface _ _ (.v _) | exact .iface _ _ (.agg _ (by repeat (first | exact pu_bytes _ | exact pu_nil | exact pu_vs rfl | exact pu_map (fun _ => .v _) _ | exact pu_vals _ | refine pu_app ?_ ?_ | refine pu_cons (by first | exact .v _ | exact .rd _ _ | exact .adr _ | exact .mp _ _ | exact .agg _ (pu_vs rfl)) ?_)))) ?_))) ?_
    refine PG.op _ rfl rfl rfl (fun _ hH => o_fld_ptr rfl Try.underlying50 rfl (sz_of Ty.inf2) (by decide)) ?_
    refine PG.op _ rfl rfl rfl (fun _ hH => o_load_ptr rfl Try.underlying2 rfl hH rfl rfl) ?_
    refine PG.op _ rfl rfl rfl (fun _ hH => o_move (.v _) rfl) ?_
    refine PG.op _ rfl rfl rfl (fun _ hH => o_call Ty.cal33 (rceil_c _ _ (by assumption) (by assumption)) ⟨.inl rfl, .inl rfl, trivial⟩ (by repeat (first | exact trivial | refine And.intro (by first | exact .v _ | exact .rd _ _ | exact .adr _ | exact .mp _ _ | exact .agg _ (by repeat (first | exact pu_bytes _ | exact pu_nil | exact pu_vs rfl | exact pu_map (fun _ => .v _) _ | exact pu_vals _ | refine pu_app ?_ ?_ | refine pu_cons (by first | exact .v _ | exact .rd _ _ | exact .adr _ | exact .mp _ _ | exact .agg _ (pu_vs rfl)) ?_)) | exact .tup _ (by repeat (first | exact pu_bytes _ | exact pu_nil | exact pu_vs rfl | exact pu_map (fun _ => .v _) _ | exact pu_vals _ | refine pu_app ?_ ?_ | refine pu_cons (by first | exact .v _ | exact .rd _ _ | exact .adr _ | exact .mp _ _ | exact .agg _ (pu_vs rfl)) ?_)) | exact .fn _ _ (by repeat (first | exact pu_bytes _ | exact pu_nil | exact pu_vs rfl | exact pu_map (fun _ => .v _) _ | exact pu_vals _ | refine pu_app ?_ ?_ | refine pu_cons (by first | exact .v _ | exact .rd _ _ | exact .adr _ | exact .mp _ _ | exact .agg _ (pu_vs rfl)) ?_)) | exact .iface _ _ (.v _) | exact .iface _ _ (.agg _ (by repeat (first | exact pu_bytes _ | exact pu_nil | exact pu_vs rfl | exact pu_map (fun _ => .v _) _ | exact pu_vals _ | refine pu_app ?_ ?_ | refine pu_cons (by first | exact .v _ | exact .rd _ _ | exact .adr _ | exact .mp _ _ | exact .agg _ (pu_vs rfl)) ?_)))) ?_))) ?_
    refine PG.op _ rfl rfl rfl (fun _ hH => o_call Ty.cal60 (good_c _ _) ⟨.inl rfl, .inl rfl, trivial⟩ (by repeat (first | exact trivial | refine And.intro (by first | exact .v _ | exact .rd _ _ | exact .adr _ | exact .mp _ _ | exact .agg _ (by repeat (first | exact pu_bytes _ | exact pu_nil | exact pu_vs rfl | exact pu_map (fun _ => .v _) _ | exact pu_vals _ | refine pu_app ?_ ?_ | refine pu_cons (by first | exact .v _ | exact .rd _ _ | exact .adr _ | exact .mp _ _ | exact .agg _ (pu_vs rfl)) ?_)) | exact .tup _ (by repeat (first | exact pu_bytes _ | exact pu_nil | exact pu_vs rfl | exact pu_map (fun _ => .v _) _ | exact pu_vals _ | refine pu_app ?_ ?_ | refine pu_cons (by first | exact .v _ | exact .rd _ _ | exact .adr _ | exact .mp _ _ | exact .agg _ (pu_vs rfl)) ?_)) | exact .fn _ _ (by repeat (first | exact pu_bytes _ | exact pu_nil | exact pu_vs rfl | exact pu_map (fun _ => .v _) _ | exact pu_vals _ | refine pu_app ?_ ?_ | refine pu_cons (by first | exact .v _ | exact .rd _ _ | exact .adr _ | exact .mp _ _ | exact .agg _ (pu_vs rfl)) ?_)) | exact .iface _ _ (.v _) | exact .iface _ _ (.agg _ (by repeat (first | exact pu_bytes _ | exact pu_nil | exact pu_vs rfl | exact pu_map (fun _ => .v _) _ | exact pu_vals _ | refine pu_app ?_ ?_ | refine pu_cons (by first | exact .v _ | exact .rd _ _ | exact .adr _ | exact .mp _ _ | exact .agg _ (pu_vs rfl)) ?_)))) ?_))) ?_
    refine PG.opm _ _ rfl rfl rfl (o_store (d := (.agg [_, _])) rfl rfl rfl rfl (sz_of Ty.inf50) (Nat.le_of_ble_eq_true rfl) rfl) ?_
    refine PG.nil ⟨by kernel_rfl, List.forall_mem_cons.2 ⟨noHs rfl, List.forall_mem_cons.2 ⟨noHs rfl, List.forall_mem_cons.2 ⟨noHs rfl, List.forall_mem_cons.2 ⟨noHs rfl, List.forall_mem_cons.2 ⟨noHs rfl, List.forall_mem_cons.2 ⟨noHs rfl, List.forall_mem_cons.2 ⟨noHs rfl, List.forall_mem_cons.2 ⟨noHs rfl, List.forall_mem_cons.2 ⟨noHs rfl, List.forall_mem_cons.2 ⟨fun _ => rfl, List.forall_mem_nil _⟩⟩⟩⟩⟩⟩⟩⟩⟩⟩, (h5_ _ ?_)⟩
    refine WC.ret ?_
    exact Ends.r1 rfl (.agg rfl Try.underlying50 rfl (sz_of Ty.inf50) rfl rfl rfl) (.pure' (by first | exact .v _ | exact .rd _ _ | exact .adr _ | exact .mp _ _ | exact .agg _ (by repeat (first | exact pu_bytes _ | exact pu_nil | exact pu_vs rfl | exact pu_map (fun _ => .v _) _ | exact pu_vals _ | refine pu_app ?_ ?_ | refine pu_cons (by first | exact .v _ | exact .rd _ _ | exact .adr _ | exact .mp _ _ | exact .agg _ (pu_vs rfl)) ?_)) | exact .tup _ (by repeat (first | exact pu_bytes _ | exact pu_nil | exact pu_vs rfl | exact pu_map (fun _ => .v _) _ | exact pu_vals _ | refine pu_app ?_ ?_ | refine pu_cons (by first | exact .v _ | exact .rd _ _ | exact .adr _ | exact .mp _ _ | exact .agg _ (pu_vs rfl)) ?_)) | exact .fn _ _ (by repeat (first | exact pu_bytes _ | exact pu_nil | exact pu_vs rfl | exact pu_map (fun _ => .v _) _ | exact pu_vals _ | refine pu_app ?_ ?_ | refine pu_cons (by first | exact .v _ | exact .rd _ _ | exact .adr _ | exact .mp _ _ | exact .agg _ (pu_vs rfl)) ?_)) | exact .iface _ _ (.v _) | exact .iface _ _ (.agg _ (by repeat (first | exact pu_bytes _ | exact pu_nil | exact pu_vs rfl | exact pu_map (fun _ => .v _) _ | exact pu_vals _ | refine pu_app ?_ ?_ | refine pu_cons (by first | exact .v _ | exact .rd _ _ | exact .adr _ | exact .mp _ _ | exact .agg _ (pu_vs rfl)) ?_))))) (show goodD (floorZ a n) (ceilZ b n) = _ by unfold whA whB; rw [show emptyB a b = false from c1]; rfl)
set_option maxHeartbeats 4000000 in
theorem rIn_c (a b n : Int) (hfa : Fit a) (hfb : Fit b) (hwid : Wid n) : Fun Try.prog 37 [SP a b, I64 n] (· = SP (whA ceilZ floorZ a b n) (whB ceilZ floorZ a b n)) := by
  refine Fun.of Try.func37 rfl (Nat.le_of_ble_eq_true rfl) fun C => ?_
  refine WC.seq fun Fh1_ h1_ => ?_
  refine WC.region ?_
  refine RG.op _ _ rfl rfl (o_box (d := .agg [_, _]) rfl rfl) ?_
  refine RG.op _ _ rfl rfl (o_alloc (z_of Ty.inf50) rfl) ?_
  refine RG.nil (h1_ _ ?_)
  refine WC.seq fun Fh2_ h2_ => ?_
  refine WC.seq fun Fh3_ h3_ => ?_
  refine WC.region ?_
  refine RG.op _ _ rfl rfl (o_fld_ptr rfl Try.underlying50 rfl (sz_of Ty.inf2) (by decide)) ?_
  refine RG.op _ _ rfl rfl (o_load_ptr rfl Try.underlying2 rfl rfl rfl rfl) ?_
  refine RG.op _ _ rfl rfl (o_fld_ptr rfl Try.underlying50 rfl (sz_of Ty.inf2) (by decide)) ?_
  refine RG.op _ _ rfl rfl (o_load_ptr rfl Try.underlying2 rfl rfl rfl rfl) ?_
  refine RG.op _ _ rfl rfl (o_leI rfl rfl) ?_
  refine RG.nil (h3_ _ ?_)
  refine WC.cond _ rfl (fun c1 => ?_) (fun c1 => ?_)
  ·
    have p1 := c1
    try simp only [decide_eq_true_eq, decide_eq_false_iff_not, Bool.and_eq_true, Bool.or_eq_true, Bool.not_eq_true', Bool.not_eq_false', Bool.and_eq_false_iff, Bool.or_eq_false_iff, beq_iff_eq, bne_iff_ne, beq_eq_false_iff_ne, bne_eq_false_iff_eq, Int.not_lt, Int.not_le, ne_eq, Decidable.not_not] at p1
    refine WC.seq fun Fh4_ h4_ => ?_
    refine WC.region ?_
    refine RG.op _ _ rfl rfl (o_build (cs := [I64 0, I64 0]) Try.underlying50 Ty.inf50 (Ty.pl50 Try.underlying50) rfl) ?_
    refine RG.op _ _ rfl rfl (o_store (d := (.agg [_, _])) rfl rfl rfl rfl (sz_of Ty.inf50) (Nat.le_of_ble_eq_true rfl) rfl) ?_
    refine RG.nil (h4_ _ ?_)
    refine WC.ret ?_
    exact Ends.r1 rfl (.agg rfl Try.underlying50 rfl (sz_of Ty.inf50) rfl rfl rfl) (.pure' (by first | exact .v _ | exact .rd _ _ | exact .adr _ | exact .mp _ _ | exact .agg _ (by repeat (first | exact pu_bytes _ | exact pu_nil | exact pu_vs rfl | exact pu_map (fun _ => .v _) _ | exact pu_vals _ | refine pu_app ?_ ?_ | refine pu_cons (by first | exact .v _ | exact .rd _ _ | exact .adr _ | exact .mp _ _ | exact .agg _ (pu_vs rfl)) ?_)) | exact .tup _ (by repeat (first | exact pu_bytes _ | exact pu_nil | exact pu_vs rfl | exact pu_map (fun _ => .v _) _ | exact pu_vals _ | refine pu_app ?_ ?_ | refine pu_cons (by first | exact .v _ | exact .rd _ _ | exact .adr _ | exact .mp _ _ | exact .agg _ (pu_vs rfl)) ?_)) | exact .fn _ _ (by repeat (first | exact pu_bytes _ | exact pu_nil | exact pu_vs rfl | exact pu_map (fun _ => .v _) _ | exact pu_vals _ | refine pu_app ?_ ?_ | refine pu_cons (by first | exact .v _ | exact .rd _ _ | exact .adr _ | exact .mp _ _ | exact .agg _ (pu_vs rfl)) ?_)) | exact .iface _ _ (.v _) | exact .iface _ _ (.agg _ (by repeat (first | exact pu_bytes _ | exact pu_nil | exact pu_vs rfl | exact pu_map (fun _ => .v _) _ | exact pu_vals _ | refine pu_app ?_ ?_ | refine pu_cons (by first | exact .v _ | exact .rd _ _ | exact .adr _ | exact .mp _ _ | exact .agg _ (pu_vs rfl)) ?_))))) (show SP 0 0 = _ by unfold whA whB; rw [show emptyB a b = true from c1]; rfl)
  ·
    have p1 := c1
    try simp only [decide_eq_true_eq, decide_eq_false_iff_not, Bool.and_eq_true, Bool.or_eq_true, Bool.not_eq_true', Bool.not_eq_false', Bool.and_eq_false_iff, Bool.or_eq_false_iff, beq_iff_eq, bne_iff_ne, beq_eq_false_iff_ne, bne_eq_false_iff_eq, Int.not_lt, Int.not_le, ne_eq, Decidable.not_not] at p1
    refine WC.skip (h2_ _ ?_)
    refine WC.seq fun Fh5_ h5_ => ?_
    refine WC.drawn3 (fun H => H[0]? = some (some ⟨[I64 a, I64 b], 50, false, 0⟩)) (by kernel_rfl) (rfl) ?_
    refine PG.op _ rfl rfl rfl (fun _ hH => o_fld_ptr rfl Try.underlying50 rfl (sz_of Ty.inf2) (by decide)) ?_
    refine PG.op _ rfl rfl rfl (fun _ hH => o_load_ptr rfl Try.underlying2 rfl hH rfl rfl) ?_
    refine PG.op _ rfl rfl rfl (fun _ hH => o_move (.v _) rfl) ?_
    refine PG.op _ rfl rfl rfl (fun _ hH => o_call Ty.cal33 (rceil_c _ _ (by assumption) (by assumption)) ⟨.inl rfl, .inl rfl, trivial⟩ (by repeat (first | exact trivial | refine And.intro (by first | exact .v _ | exact .rd _ _ | exact .adr _ | exact .mp _ _ | exact .agg _ (by repeat (first | exact pu_bytes _ | exact pu_nil | exact pu_vs rfl | exact pu_map (fun _ => .v _) _ | exact pu_vals _ | refine pu_app ?_ ?_ | refine pu_cons (by first | exact .v _ | exact .rd _ _ | exact .adr _ | exact .mp _ _ | exact .agg _ (pu_vs rfl)) ?_)) | exact .tup _ (by repeat (first | exact pu_bytes _ | exact pu_nil | exact pu_vs rfl | exact pu_map (fun _ => .v _) _ | exact pu_vals _ | refine pu_app ?_ ?_ | refine pu_cons (by first | exact .v _ | exact .rd _ _ | exact .adr _ | exact .mp _ _ | exact .agg _ (pu_vs rfl)) ?_)) | exact .fn _ _ (by repeat (first | exact pu_bytes _ | exact pu_nil | exact pu_vs rfl | exact pu_map (fun _ => .v _) _ | exact pu_vals _ | refine pu_app ?_ ?_ | refine pu_cons (by first | exact .v _ | exact .rd _ _ | exact .adr _ | exact .mp _ _ | exact .agg _ (pu_vs rfl)) ?_)) | exact .iface _ _ (.v _) | exact .iface _ _ (.agg _ (by repeat (first | exact pu_bytes _ | exact pu_nil | exact pu_vs rfl | exact pu_map (fun _ => .v _) _ | exact pu_vals _ | refine pu_app ?_ ?_ | refine pu_cons (by first | exact .v _ | exact .rd _ _ | exact .adr _ | exact .mp _ _ | exact .agg _ (pu_vs rfl)) ?_)))) ?_))) ?_
    refine PG.op _ rfl rfl rfl (fun _ hH => o_fld_ptr rfl Try.underlying50 rfl (sz_of Ty.inf2) (by decide)) ?_
    refine PG.op _ rfl rfl rfl (fun _ hH => o_load_ptr rfl Try.underlying2 rfl hH rfl rfl) ?_
    refine PG.op _ rfl rfl rfl (fun _ hH => o_move (.v _) rfl) ?_
    refine PG.op _ rfl rfl rfl (fun _ hH => o_call Ty.cal32 (rfloor_c _ _ (by assumption) (by assumption)) ⟨.inl rfl, .inl rfl, trivial⟩ (by repeat (first | exact trivial | refine And.intro (by first | exact .v _ | exact .rd _ _ | exact .adr _ | exact .mp _ _ | exact .agg _ (by repeat (first | exact pu_bytes _ | exact pu_nil | exact pu_vs rfl | exact pu_map (fun _ => .v _) _ | exact pu_vals _ | refine pu_app ?_ ?_ | refine pu_cons (by first | exact .v _ | exact .rd _ _ | exact .adr _ | exact .mp _ _ | exact .agg _ (pu_vs rfl)) ?_)) | exact .tup _ (by repeat (first | exact pu_bytes _ | exact pu_nil | exact pu_vs rfl | exact pu_map (fun _ => .v _) _ | exact pu_vals _ | refine pu_app ?_ ?_ | refine pu_cons (by first | exact .v _ | exact .rd _ _ | exact .adr _ | exact .mp _ _ | exact .agg _ (pu_vs rfl)) ?_)) | exact .fn _ _ (by repeat (first | exact pu_bytes _ | exact pu_nil | exact pu_vs rfl | exact pu_map (fun _ => .v _) _ | exact pu_vals _ | refine pu_app ?_ ?_ | refine pu_cons (by first | exact .v _ | exact .rd _ _ | exact .adr _ | exact .mp _ _ | exact .agg _ (pu_vs rfl)) ?_)) | exact .iface _ _ (.v _) | exact .iface _ _ (.agg _ (by repeat (first | exact pu_bytes _ | exact pu_nil | exact pu_vs rfl | exact pu_map (fun _ => .v _) _ | exact pu_vals _ | refine pu_app ?_ ?_ | refine pu_cons (by first | exact .v _ | exact .rd _ _ | exact .adr _ | exact .mp _ _ | exact .agg _ (pu_vs rfl)) ?_)))) ?_))) ?_
    refine PG.op _ rfl rfl rfl (fun _ hH => o_call Ty.cal60 (good_c _ _) ⟨.inl rfl, .inl rfl, trivial⟩ (by repeat (first | exact trivial | refine And.intro (by first | exact .v _ | exact .rd _ _ | exact .adr _ | exact .mp _ _ | exact .agg _ (by repeat (first | exact pu_bytes _ | exact pu_nil | exact pu_vs rfl | exact pu_map (fun _ => .v _) _ | exact pu_vals _ | refine pu_app ?_ ?_ | refine pu_cons (by first | exact .v _ | exact .rd _ _ | exact .adr _ | exact .mp _ _ | exact .agg _ (pu_vs rfl)) ?_)) | exact .tup _ (by repeat (first | exact pu_bytes _ | exact pu_nil | exact pu_vs rfl | exact pu_map (fun _ => .v _) _ | exact pu_vals _ | refine pu_app ?_ ?_ | refine pu_cons (by first | exact .v _ | exact .rd _ _ | exact .adr _ | exact .mp _ _ | exact .agg _ (pu_vs rfl)) ?_)) | exact .fn _ _ (by repeat (first | exact pu_bytes _ | exact pu_nil | exact pu_vs rfl | exact pu_map (fun _ => .v _) _ | exact pu_vals _ | refine pu_app ?_ ?_ | refine pu_cons (by first | exact .v _ | exact .rd _ _ | exact .adr _ | exact .mp _ _ | exact .agg _ (pu_vs rfl)) ?_)) | exact .iface _ _ (.v _) | exact .iface _ _ (.agg _ (by repeat (first | exact pu_bytes _ | exact pu_nil | exact pu_vs rfl | exact pu_map (fun _ => .v _) _ | exact pu_vals _ | refine pu_app ?_ ?_ | refine pu_cons (by first | exact .v _ | exact .rd _ _ | exact .adr _ | exact .mp _ _ | exact .agg _ (pu_vs rfl)) ?_)))) ?_))) ?_
    refine PG.opm _ _ rfl rfl rfl (o_store (d := (.agg [_, _])) rfl rfl rfl rfl (sz_of Ty.inf50) (Nat.le_of_ble_eq_true rfl) rfl) ?_
    refine PG.nil ⟨by kernel_rfl, List.forall_mem_cons.2 ⟨noHs rfl, List.forall_mem_cons.2 ⟨noHs rfl, List.forall_mem_cons.2 ⟨noHs rfl, List.forall_mem_cons.2 ⟨noHs rfl, List.forall_mem_cons.2 ⟨noHs rfl, List.forall_mem_cons.2 ⟨noHs rfl, List.forall_mem_cons.2 ⟨noHs rfl, List.forall_mem_cons.2 ⟨noHs rfl, List.forall_mem_cons.2 ⟨noHs rfl, List.forall_mem_cons.2 ⟨fun _ => rfl, List.forall_mem_nil _⟩⟩⟩⟩⟩⟩⟩⟩⟩⟩, (h5_ _ ?_)⟩
    refine WC.ret ?_
    exact Ends.r1 rfl (.agg rfl Try.underlying50 rfl (sz_of Ty.inf50) rfl rfl rfl) (.pure' (by first | exact .v _ | exact .rd _ _ | exact .adr _ | exact .mp _ _ | exact .agg _ (by repeat (first | exact pu_bytes _ | exact pu_nil | exact pu_vs rfl | exact pu_map (fun _ => .v _) _ | exact pu_vals _ | refine pu_app ?_ ?_ | refine pu_cons (by first | exact .v _ | exact .rd _ _ | exact .adr _ | exact .mp _ _ | exact .agg _ (pu_vs rfl)) ?_)) | exact .tup _ (by repeat (first | exact pu_bytes _ | exact pu_nil | exact pu_vs rfl | exact pu_map (fun _ => .v _) _ | exact pu_vals _ | refine pu_app ?_ ?_ | refine pu_cons (by first | exact .v _ | exact .rd _ _ | exact .adr _ | exact .mp _ _ | exact .agg _ (pu_vs rfl)) ?_)) | exact .fn _ _ (by repeat (first | exact pu_bytes _ | exact pu_nil | exact pu_vs rfl | exact pu_map (fun _ => .v _) _ | exact pu_vals _ | refine pu_app ?_ ?_ | refine pu_cons (by first | exact .v _ | exact .rd _ _ | exact .adr _ | exact .mp _ _ | exact .agg _ (pu_vs rfl)) ?_)) | exact .iface _ _ (.v _) | exact .iface _ _ (.agg _ (by repeat (first | exact pu_bytes _ | exact pu_nil | exact pu_vs rfl | exact pu_map (fun _ => .v _) _ | exact pu_vals _ | refine pu_app ?_ ?_ | refine pu_cons (by first | exact .v _ | exact .rd _ _ | exact .adr _ | exact .mp _ _ | exact .agg _ (pu_vs rfl)) ?_))))) (show goodD (ceilZ a n) (floorZ b n) = _ by unfold whA whB; rw [show emptyB a b = false from c1]; rfl)
set_option maxHeartbeats 4000000 in
theorem wakes_c : Fun Try.prog 46 [] (· = Bo true) := by
  refine Fun.of Try.func46 rfl (Nat.le_of_ble_eq_true rfl) fun C => ?_
  refine WC.seq fun Fh1_ h1_ => ?_
  refine WC.region ?_
  refine RG.op _ _ rfl rfl (o_assign (.v _) rfl) ?_
  refine RG.nil (h1_ _ ?_)
  refine WC.seq fun Fh2_ h2_ => ?_
  refine WC.region ?_
  refine RG.op _ _ rfl rfl (o_call Ty.cal29 (Floor_c _ _) ⟨.inl rfl, .inl rfl, trivial⟩ (by repeat (first | exact trivial | refine And.intro (by first | exact .v _ | exact .rd _ _ | exact .adr _ | exact .mp _ _ | exact .agg _ (by repeat (first | exact pu_bytes _ | exact pu_nil | exact pu_vs rfl | exact pu_map (fun _ => .v _) _ | exact pu_vals _ | refine pu_app ?_ ?_ | refine pu_cons (by first | exact .v _ | exact .rd _ _ | exact .adr _ | exact .mp _ _ | exact .agg _ (pu_vs rfl)) ?_)) | exact .tup _ (by repeat (first | exact pu_bytes _ | exact pu_nil | exact pu_vs rfl | exact pu_map (fun _ => .v _) _ | exact pu_vals _ | refine pu_app ?_ ?_ | refine pu_cons (by first | exact .v _ | exact .rd _ _ | exact .adr _ | exact .mp _ _ | exact .agg _ (pu_vs rfl)) ?_)) | exact .fn _ _ (by repeat (first | exact pu_bytes _ | exact pu_nil | exact pu_vs rfl | exact pu_map (fun _ => .v _) _ | exact pu_vals _ | refine pu_app ?_ ?_ | refine pu_cons (by first | exact .v _ | exact .rd _ _ | exact .adr _ | exact .mp _ _ | exact .agg _ (pu_vs rfl)) ?_)) | exact .iface _ _ (.v _) | exact .iface _ _ (.agg _ (by repeat (first | exact pu_bytes _ | exact pu_nil | exact pu_vs rfl | exact pu_map (fun _ => .v _) _ | exact pu_vals _ | refine pu_app ?_ ?_ | refine pu_cons (by first | exact .v _ | exact .rd _ _ | exact .adr _ | exact .mp _ _ | exact .agg _ (pu_vs rfl)) ?_)))) ?_))) ?_
  refine RG.op _ _ rfl rfl (o_move (.tup _) rfl) ?_
  refine RG.op _ _ rfl rfl (o_extract rfl rfl) ?_
  refine RG.op _ _ rfl rfl (o_extract rfl rfl) ?_
  refine RG.op _ _ rfl rfl (o_assign (.v _) rfl) ?_
  refine RG.op _ _ rfl rfl (o_assign (.v _) rfl) ?_
  refine RG.nil (h2_ _ ?_)
  refine WC.seq fun Fh3_ h3_ => ?_
  refine WC.region ?_
  refine RG.op _ _ rfl rfl (o_build (cs := [(.v _), (.v _)]) Try.underlying50 Ty.inf50 (Ty.pl50 Try.underlying50) rfl) ?_
  refine RG.op _ _ rfl rfl (o_call Ty.cal34 (Out_c _ _ _) ⟨.inl rfl, .inl rfl, trivial⟩ (by repeat (first | exact trivial | refine And.intro (by first | exact .v _ | exact .rd _ _ | exact .adr _ | exact .mp _ _ | exact .agg _ (by repeat (first | exact pu_bytes _ | exact pu_nil | exact pu_vs rfl | exact pu_map (fun _ => .v _) _ | exact pu_vals _ | refine pu_app ?_ ?_ | refine pu_cons (by first | exact .v _ | exact .rd _ _ | exact .adr _ | exact .mp _ _ | exact .agg _ (pu_vs rfl)) ?_)) | exact .tup _ (by repeat (first | exact pu_bytes _ | exact pu_nil | exact pu_vs rfl | exact pu_map (fun _ => .v _) _ | exact pu_vals _ | refine pu_app ?_ ?_ | refine pu_cons (by first | exact .v _ | exact .rd _ _ | exact .adr _ | exact .mp _ _ | exact .agg _ (pu_vs rfl)) ?_)) | exact .fn _ _ (by repeat (first | exact pu_bytes _ | exact pu_nil | exact pu_vs rfl | exact pu_map (fun _ => .v _) _ | exact pu_vals _ | refine pu_app ?_ ?_ | refine pu_cons (by first | exact .v _ | exact .rd _ _ | exact .adr _ | exact .mp _ _ | exact .agg _ (pu_vs rfl)) ?_)) | exact .iface _ _ (.v _) | exact .iface _ _ (.agg _ (by repeat (first | exact pu_bytes _ | exact pu_nil | exact pu_vs rfl | exact pu_map (fun _ => .v _) _ | exact pu_vals _ | refine pu_app ?_ ?_ | refine pu_cons (by first | exact .v _ | exact .rd _ _ | exact .adr _ | exact .mp _ _ | exact .agg _ (pu_vs rfl)) ?_)))) ?_))) ?_
  refine RG.op _ _ rfl rfl (o_move (.tup _) rfl) ?_
  refine RG.op _ _ rfl rfl (o_extract rfl rfl) ?_
  refine RG.op _ _ rfl rfl (o_extract rfl rfl) ?_
  refine RG.op _ _ rfl rfl (o_alloc (z_of Ty.inf50) rfl) ?_
  refine RG.op _ _ rfl rfl (o_store (d := (.agg [_, _])) rfl rfl rfl rfl (sz_of Ty.inf50) (Nat.le_of_ble_eq_true rfl) rfl) ?_
  refine RG.op _ _ rfl rfl (o_assign (.v _) rfl) ?_
  refine RG.nil (h3_ _ ?_)
  refine WC.seq fun Fh4_ h4_ => ?_
  refine WC.region ?_
  refine RG.op _ _ rfl rfl (o_build (cs := [(.v _), (.v _)]) Try.underlying50 Ty.inf50 (Ty.pl50 Try.underlying50) rfl) ?_
  refine RG.op _ _ rfl rfl (o_call Ty.cal35 (In_c _ _ _) ⟨.inl rfl, .inl rfl, trivial⟩ (by repeat (first | exact trivial | refine And.intro (by first | exact .v _ | exact .rd _ _ | exact .adr _ | exact .mp _ _ | exact .agg _ (by repeat (first | exact pu_bytes _ | exact pu_nil | exact pu_vs rfl | exact pu_map (fun _ => .v _) _ | exact pu_vals _ | refine pu_app ?_ ?_ | refine pu_cons (by first | exact .v _ | exact .rd _ _ | exact .adr _ | exact .mp _ _ | exact .agg _ (pu_vs rfl)) ?_)) | exact .tup _ (by repeat (first | exact pu_bytes _ | exact pu_nil | exact pu_vs rfl | exact pu_map (fun _ => .v _) _ | exact pu_vals _ | refine pu_app ?_ ?_ | refine pu_cons (by first | exact .v _ | exact .rd _ _ | exact .adr _ | exact .mp _ _ | exact .agg _ (pu_vs rfl)) ?_)) | exact .fn _ _ (by repeat (first | exact pu_bytes _ | exact pu_nil | exact pu_vs rfl | exact pu_map (fun _ => .v _) _ | exact pu_vals _ | refine pu_app ?_ ?_ | refine pu_cons (by first | exact .v _ | exact .rd _ _ | exact .adr _ | exact .mp _ _ | exact .agg _ (pu_vs rfl)) ?_)) | exact .iface _ _ (.v _) | exact .iface _ _ (.agg _ (by repeat (first | exact pu_bytes _ | exact pu_nil | exact pu_vs rfl | exact pu_map (fun _ => .v _) _ | exact pu_vals _ | refine pu_app ?_ ?_ | refine pu_cons (by first | exact .v _ | exact .rd _ _ | exact .adr _ | exact .mp _ _ | exact .agg _ (pu_vs rfl)) ?_)))) ?_))) ?_
  refine RG.op _ _ rfl rfl (o_move (.tup _) rfl) ?_
  refine RG.op _ _ rfl rfl (o_extract rfl rfl) ?_
  refine RG.op _ _ rfl rfl (o_extract rfl rfl) ?_
  refine RG.op _ _ rfl rfl (o_alloc (z_of Ty.inf50) rfl) ?_
  refine RG.op _ _ rfl rfl (o_store (d := (.agg [_, _])) rfl rfl rfl rfl (sz_of Ty.inf50) (Nat.le_of_ble_eq_true rfl) rfl) ?_
  refine RG.op _ _ rfl rfl (o_assign (.v _) rfl) ?_
  refine RG.nil (h4_ _ ?_)
  refine WC.seq fun Fh5_ h5_ => ?_
  refine WC.region ?_
  refine RG.op _ _ rfl rfl (o_call Ty.cal29 (Floor_c _ _) ⟨.inl rfl, .inl rfl, trivial⟩ (by repeat (first | exact trivial | refine And.intro (by first | exact .v _ | exact .rd _ _ | exact .adr _ | exact .mp _ _ | exact .agg _ (by repeat (first | exact pu_bytes _ | exact pu_nil | exact pu_vs rfl | exact pu_map (fun _ => .v _) _ | exact pu_vals _ | refine pu_app ?_ ?_ | refine pu_cons (by first | exact .v _ | exact .rd _ _ | exact .adr _ | exact .mp _ _ | exact .agg _ (pu_vs rfl)) ?_)) | exact .tup _ (by repeat (first | exact pu_bytes _ | exact pu_nil | exact pu_vs rfl | exact pu_map (fun _ => .v _) _ | exact pu_vals _ | refine pu_app ?_ ?_ | refine pu_cons (by first | exact .v _ | exact .rd _ _ | exact .adr _ | exact .mp _ _ | exact .agg _ (pu_vs rfl)) ?_)) | exact .fn _ _ (by repeat (first | exact pu_bytes _ | exact pu_nil | exact pu_vs rfl | exact pu_map (fun _ => .v _) _ | exact pu_vals _ | refine pu_app ?_ ?_ | refine pu_cons (by first | exact .v _ | exact .rd _ _ | exact .adr _ | exact .mp _ _ | exact .agg _ (pu_vs rfl)) ?_)) | exact .iface _ _ (.v _) | exact .iface _ _ (.agg _ (by repeat (first | exact pu_bytes _ | exact pu_nil | exact pu_vs rfl | exact pu_map (fun _ => .v _) _ | exact pu_vals _ | refine pu_app ?_ ?_ | refine pu_cons (by first | exact .v _ | exact .rd _ _ | exact .adr _ | exact .mp _ _ | exact .agg _ (pu_vs rfl)) ?_)))) ?_))) ?_
  refine RG.op _ _ rfl rfl (o_move (.tup _) rfl) ?_
  refine RG.op _ _ rfl rfl (o_extract rfl rfl) ?_
  refine RG.op _ _ rfl rfl (o_extract rfl rfl) ?_
  refine RG.op _ _ rfl rfl (o_assign (.v _) rfl) ?_
  refine RG.op _ _ rfl rfl (o_assign (.v _) rfl) ?_
  refine RG.nil (h5_ _ ?_)
  refine WC.seq fun Fh6_ h6_ => ?_
  refine WC.region ?_
  refine RG.op _ _ rfl rfl (o_move (.v _) rfl) ?_
  refine RG.op _ _ rfl rfl (o_eqI rfl rfl) ?_
  refine RG.op _ _ rfl rfl (o_move (.v _) rfl) ?_
  refine RG.opg1 _ _ _ _ _ rfl rfl rfl rfl rfl (fun hb => o_move (.v _) rfl) ?_
  refine RG.opg1 _ _ _ _ _ rfl rfl rfl rfl rfl (fun hb => o_eqI (gdT hb) rfl) ?_
  refine RG.op _ _ rfl rfl (o_and _ _ rfl rfl rfl) ?_
  refine RG.op _ _ rfl rfl (o_move (.v _) rfl) ?_
  refine RG.opg1 _ _ _ _ _ rfl rfl rfl rfl rfl (fun hb => o_load_ptr_L (xs := [_, _]) rfl Try.underlying50 rfl (sz_of Ty.inf50) rfl rfl rfl rfl) ?_
  refine RG.opg1 _ _ _ _ _ rfl rfl rfl rfl rfl (fun hb => o_build (cs := [(.v _), (.v _)]) Try.underlying50 Ty.inf50 (Ty.pl50 Try.underlying50) rfl) ?_
  refine RG.opg1 _ _ _ _ _ rfl rfl rfl rfl rfl (fun hb => o_eqS Ty.fs50 (gdT hb) (gdT hb) rfl) ?_
  refine RG.op _ _ rfl rfl (o_and _ _ rfl rfl rfl) ?_
  refine RG.op _ _ rfl rfl (o_move (.v _) rfl) ?_
  refine RG.opg1 _ _ _ _ _ rfl rfl rfl rfl rfl (fun hb => o_move (.v _) rfl) ?_
  refine RG.opg1 _ _ _ _ _ rfl rfl rfl rfl rfl (fun hb => o_eqI (gdT hb) rfl) ?_
  refine RG.op _ _ rfl rfl (o_and _ _ rfl rfl rfl) ?_
  refine RG.op _ _ rfl rfl (o_move (.v _) rfl) ?_
  refine RG.opg1 _ _ _ _ _ rfl rfl rfl rfl rfl (fun hb => o_load_ptr_L (xs := [_, _]) rfl Try.underlying50 rfl (sz_of Ty.inf50) rfl rfl rfl rfl) ?_
  refine RG.opg1 _ _ _ _ _ rfl rfl rfl rfl rfl (fun hb => o_build (cs := [(.v _), (.v _)]) Try.underlying50 Ty.inf50 (Ty.pl50 Try.underlying50) rfl) ?_
  refine RG.opg1 _ _ _ _ _ rfl rfl rfl rfl rfl (fun hb => o_eqS Ty.fs50 (gdT hb) (gdT hb) rfl) ?_
  refine RG.op _ _ rfl rfl (o_and _ _ rfl rfl rfl) ?_
  refine RG.op _ _ rfl rfl (o_move (.v _) rfl) ?_
  refine RG.opg1 _ _ _ _ _ rfl rfl rfl rfl rfl (fun hb => o_move (.v _) rfl) ?_
  refine RG.opg1 _ _ _ _ _ rfl rfl rfl rfl rfl (fun hb => o_eqI (gdT hb) rfl) ?_
  refine RG.op _ _ rfl rfl (o_and _ _ rfl rfl rfl) ?_
  refine RG.op _ _ rfl rfl (o_move (.v _) rfl) ?_
  refine RG.opg1 _ _ _ _ _ rfl rfl rfl rfl rfl (fun hb => o_move (.v _) rfl) ?_
  refine RG.opg1 _ _ _ _ _ rfl rfl rfl rfl rfl (fun hb => o_eqI (gdT hb) rfl) ?_
  refine RG.op _ _ rfl rfl (o_and _ _ rfl rfl rfl) ?_
  refine RG.op _ _ rfl rfl (o_move (.v _) rfl) ?_
  refine RG.opg1 _ _ _ _ _ rfl rfl rfl rfl rfl (fun hb => o_call Ty.cal38 (time_c _) ⟨.inl rfl, trivial⟩ (by repeat (first | exact trivial | refine And.intro (by first | exact .v _ | exact .rd _ _ | exact .adr _ | exact .mp _ _ | exact .agg _ (by repeat (first | exact pu_bytes _ | exact pu_nil | exact pu_vs rfl | exact pu_map (fun _ => .v _) _ | exact pu_vals _ | refine pu_app ?_ ?_ | refine pu_cons (by first | exact .v _ | exact .rd _ _ | exact .adr _ | exact .mp _ _ | exact .agg _ (pu_vs rfl)) ?_)) | exact .tup _ (by repeat (first | exact pu_bytes _ | exact pu_nil | exact pu_vs rfl | exact pu_map (fun _ => .v _) _ | exact pu_vals _ | refine pu_app ?_ ?_ | refine pu_cons (by first | exact .v _ | exact .rd _ _ | exact .adr _ | exact .mp _ _ | exact .agg _ (pu_vs rfl)) ?_)) | exact .fn _ _ (by repeat (first | exact pu_bytes _ | exact pu_nil | exact pu_vs rfl | exact pu_map (fun _ => .v _) _ | exact pu_vals _ | refine pu_app ?_ ?_ | refine pu_cons (by first | exact .v _ | exact .rd _ _ | exact .adr _ | exact .mp _ _ | exact .agg _ (pu_vs rfl)) ?_)) | exact .iface _ _ (.v _) | exact .iface _ _ (.agg _ (by repeat (first | exact pu_bytes _ | exact pu_nil | exact pu_vs rfl | exact pu_map (fun _ => .v _) _ | exact pu_vals _ | refine pu_app ?_ ?_ | refine pu_cons (by first | exact .v _ | exact .rd _ _ | exact .adr _ | exact .mp _ _ | exact .agg _ (pu_vs rfl)) ?_)))) ?_))) ?_
  refine RG.op _ _ rfl rfl (o_and _ _ rfl rfl rfl) ?_
  refine RG.op _ _ rfl rfl (o_move (.v _) rfl) ?_
  refine RG.opg1 _ _ _ _ _ rfl rfl rfl rfl rfl (fun hb => o_call Ty.cal40 (width_c _) ⟨.inl rfl, trivial⟩ (by repeat (first | exact trivial | refine And.intro (by first | exact .v _ | exact .rd _ _ | exact .adr _ | exact .mp _ _ | exact .agg _ (by repeat (first | exact pu_bytes _ | exact pu_nil | exact pu_vs rfl | exact pu_map (fun _ => .v _) _ | exact pu_vals _ | refine pu_app ?_ ?_ | refine pu_cons (by first | exact .v _ | exact .rd _ _ | exact .adr _ | exact .mp _ _ | exact .agg _ (pu_vs rfl)) ?_)) | exact .tup _ (by repeat (first | exact pu_bytes _ | exact pu_nil | exact pu_vs rfl | exact pu_map (fun _ => .v _) _ | exact pu_vals _ | refine pu_app ?_ ?_ | refine pu_cons (by first | exact .v _ | exact .rd _ _ | exact .adr _ | exact .mp _ _ | exact .agg _ (pu_vs rfl)) ?_)) | exact .fn _ _ (by repeat (first | exact pu_bytes _ | exact pu_nil | exact pu_vs rfl | exact pu_map (fun _ => .v _) _ | exact pu_vals _ | refine pu_app ?_ ?_ | refine pu_cons (by first | exact .v _ | exact .rd _ _ | exact .adr _ | exact .mp _ _ | exact .agg _ (pu_vs rfl)) ?_)) | exact .iface _ _ (.v _) | exact .iface _ _ (.agg _ (by repeat (first | exact pu_bytes _ | exact pu_nil | exact pu_vs rfl | exact pu_map (fun _ => .v _) _ | exact pu_vals _ | refine pu_app ?_ ?_ | refine pu_cons (by first | exact .v _ | exact .rd _ _ | exact .adr _ | exact .mp _ _ | exact .agg _ (pu_vs rfl)) ?_)))) ?_))) ?_
  refine RG.opg1 _ _ _ _ _ rfl rfl rfl rfl rfl (fun hb => o_not (gdT hb)) ?_
  refine RG.op _ _ rfl rfl (o_and _ _ rfl rfl rfl) ?_
  refine RG.op _ _ rfl rfl (o_assign (.v _) rfl) ?_
  refine RG.nil (h6_ _ ?_)
  refine WC.ret ?_
  exact Ends.r1 rfl (.tmp _ (.v _) rfl) (.v _) (congrArg Bo (by decide +kernel))
end Go.Proofs.Ytmkljbcjgobjfaa
