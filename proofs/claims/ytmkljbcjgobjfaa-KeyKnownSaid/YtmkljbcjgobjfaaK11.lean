/-
  Layer key: the document's Parse. No condition.
-/
import Derived.Test.YtmkljbcjgobjfaaK10
set_option linter.unusedSimpArgs false
set_option linter.unusedVariables false
namespace Go.Proofs.Ytmkljbcjgobjfaa
open Go.RowKit Go.DL

theorem sub_half (u : Nat) : N64 ((u + (18446744073709551616 - 9223372036854775808)) % 18446744073709551616) = N64 ((u + 9223372036854775808) % 18446744073709551616) := by simp only [Nat.reduceSub]
set_option maxHeartbeats 4000000 in
theorem rparse_c (b : List UInt8) (hb : b.length ≤ 1099511627776) : Fun Try.prog 21 [rdB b] (· = rp (parseM b)) := by
  refine Fun.of Try.func21 rfl (Nat.le_of_ble_eq_true rfl) fun C => ?_
  refine WC.seq fun Fh1_ h1_ => ?_
  refine WC.region ?_
  refine RG.op _ _ rfl rfl (o_assign (.v _) rfl) ?_
  refine RG.op _ _ rfl rfl (o_assign (.v _) rfl) ?_
  refine RG.nil (h1_ _ ?_)
  refine WC.seq fun Fh2_ h2_ => ?_
  refine WC.region ?_
  refine RG.op _ _ rfl rfl (o_nil 41 3) ?_
  refine RG.nil (h2_ _ ?_)
  refine WC.seq fun Fh3_ h3_ => ?_
  refine WC.region ?_
  refine RG.op _ _ rfl rfl (o_assign (.v _) rfl) ?_
  refine RG.nil (h3_ _ ?_)
  refine WC.seq fun Fh4_ h4_ => ?_
  refine WC.block ?_
  refine WC.loopU [2, 3, 4, 5, 6, 7, 8, 9, 10, 11, 12, 13, 14, 15, 16, 17, 18, 19, 20, 21, 22, 23, 24, 25, 26, 27, 28, 29, 30, 31, 32, 33, 34, 35, 36, 37, 38, 39, 40, 41, 42, 43, 44, 45, 46, 47, 48, 49, 50, 51, 52, 53, 54, 55, 56, 57, 58, 59, 60, 61, 62, 63, 64, 65, 66, 67, 68, 69, 70, 71, 72, 73, 74, 75, 76, 77, 78, 79, 80, 81, 82, 83, 84, 85, 86, 87, 88, 89, 90, 91, 92, 93, 94, 95, 96, 97, 98, 99, 100, 101] (fun (p : List Val × Nat) => [(5, I64 ((p.2 : Nat) : Int)), (4, ow 0 p.1.length 3)]) (fun (p : List Val × Nat) => [(0, tb 41 p.1.length (p.1.flatMap vc))]) (fun (p : List Val × Nat) => p.2 ≤ b.length ∧ p.1.length ≤ p.2 ∧ parseM b = addL p.1 (parseM (b.drop p.2))) (fun (p : List Val × Nat) => b.length - p.2) ([], 0) ⟨Nat.zero_le _, Nat.zero_le _, by rw [List.drop_zero]; cases parseM b <;> rfl⟩ ?lpa5_ ?lpb6_
  case lpa5_ =>
    exact .mk' ⟨⟨rfl, .v _⟩, ⟨ow_eq (by simp), (by first | exact .own _ _ _ _ _ (Nat.le_refl _) | exact .ptr _ _ _ (Nat.le_refl _) | exact .omp _ _ (Nat.le_refl _))⟩, trivial⟩ (same_refl _ _) (rfl) (by repeat (first | exact trivial | refine And.intro (Nat.le_refl _) ?_ | refine And.intro trivial ?_ | refine And.intro (by show _ ≤ _; (first | omega | (simp only [bytesD_len, zeros_len, flatMap_len vc_len, List.length_append, List.length_take, List.length_drop, List.length_map, List.length_nil, List.length_cons, List.length_replicate, List.length_reverse, List.length_set, List.length_range, strB_size] <;> omega))) ?_)) (by repeat (first | exact trivial | refine And.intro (okp (by repeat (first | exact pu_bytes _ | exact pu_nil | exact pu_vs rfl | exact pu_map (fun _ => .v _) _ | exact pu_vals _ | refine pu_app ?_ ?_ | refine pu_cons (by first | exact .v _ | exact .rd _ _ | exact .adr _ | exact .mp _ _ | exact .agg _ (by repeat (first | exact pu_bytes _ | exact pu_nil | exact pu_vs rfl | exact pu_map (fun _ => .v _) _ | exact pu_vals _ | refine pu_app ?_ ?_ | refine pu_cons (by first | exact .v _ | exact .rd _ _ | exact .adr _ | exact .mp _ _ | exact .agg _ (pu_vs rfl)) ?_)) | exact .tup _ (by repeat (first | exact pu_bytes _ | exact pu_nil | exact pu_vs rfl | exact pu_map (fun _ => .v _) _ | exact pu_vals _ | refine pu_app ?_ ?_ | refine pu_cons (by first | exact .v _ | exact .rd _ _ | exact .adr _ | exact .mp _ _ | exact .agg _ (pu_vs rfl)) ?_)) | exact .fn _ _ (by repeat (first | exact pu_bytes _ | exact pu_nil | exact pu_vs rfl | exact pu_map (fun _ => .v _) _ | exact pu_vals _ | refine pu_app ?_ ?_ | refine pu_cons (by first | exact .v _ | exact .rd _ _ | exact .adr _ | exact .mp _ _ | exact .agg _ (pu_vs rfl)) ?_)) | exact .iface _ _ (.v _) | exact .iface _ _ (.agg _ (by repeat (first | exact pu_bytes _ | exact pu_nil | exact pu_vs rfl | exact pu_map (fun _ => .v _) _ | exact pu_vals _ | refine pu_app ?_ ?_ | refine pu_cons (by first | exact .v _ | exact .rd _ _ | exact .adr _ | exact .mp _ _ | exact .agg _ (pu_vs rfl)) ?_)))) ?_))) ?_))
  case lpb6_ =>
    rintro p hI
    obtain ⟨hp1, hp2, hp3⟩ := id hI
    refine WC.seq fun Fh7_ h7_ => ?_
    refine WC.seq fun Fh8_ h8_ => ?_
    refine WC.region ?_
    refine RG.op _ _ rfl rfl (o_move (.v _) rfl) ?_
    refine RG.op _ _ rfl rfl (o_move (.rd _ _) rfl) ?_
    refine RG.op _ _ rfl rfl (o_len_rd rfl Try.underlying22) ?_
    refine RG.op _ _ rfl rfl (o_ltI rfl rfl) ?_
    refine RG.nil (h8_ _ ?_)
    refine WC.cond _ rfl (fun c3 => ?_) (fun c3 => ?_)
    ·
      have p3 := c3
      try simp only [decide_eq_true_eq, decide_eq_false_iff_not, Bool.and_eq_true, Bool.or_eq_true, Bool.not_eq_true', Bool.not_eq_false', Bool.and_eq_false_iff, Bool.or_eq_false_iff, beq_iff_eq, bne_iff_ne, beq_eq_false_iff_ne, bne_eq_false_iff_eq, Int.not_lt, Int.not_le, ne_eq, Decidable.not_not] at p3
      have hlt : p.2 < b.length := by omega
      refine WC.skip (h7_ _ ?_)
      refine WC.block ?_
      refine WC.seq fun Fh9_ h9_ => ?_
      refine WC.region ?_
      refine RG.op _ _ rfl rfl (o_move (.rd _ _) rfl) ?_
      refine RG.op _ _ rfl rfl (o_move (.v _) rfl) ?_
      refine RG.op _ _ rfl rfl (o_ixn_M p.2 rfl rfl Try.underlying22 (sz_of Ty.inf5) (by first | omega | exact ubyte _ | (simp only [bytesD_len, zeros_len, flatMap_len vc_len, List.length_append, List.length_take, List.length_drop, List.length_map, List.length_nil, List.length_cons, List.length_replicate, List.length_reverse, List.length_set, List.length_range, strB_size] <;> omega)) (by first | omega | exact ubyte _ | (simp only [bytesD_len, zeros_len, flatMap_len vc_len, List.length_append, List.length_take, List.length_drop, List.length_map, List.length_nil, List.length_cons, List.length_replicate, List.length_reverse, List.length_set, List.length_range, strB_size] <;> omega))) ?_
      refine RG.op _ _ rfl rfl (o_load_adr rfl Try.underlying5 rfl rfl) ?_
      refine RG.op _ _ rfl rfl (o_assign (.v _) rfl) ?_
      refine RG.nil (h9_ _ ?_)
      refine WC.seq fun Fh10_ h10_ => ?_
      refine WC.region ?_
      refine RG.op _ _ rfl rfl (o_move (.v _) rfl) ?_
      refine RG.op _ _ rfl rfl (o_add rfl rfl (by first | omega | exact ubyte _ | (simp only [bytesD_len, zeros_len, flatMap_len vc_len, List.length_append, List.length_take, List.length_drop, List.length_map, List.length_nil, List.length_cons, List.length_replicate, List.length_reverse, List.length_set, List.length_range, strB_size] <;> omega)) (by first | omega | exact ubyte _ | (simp only [bytesD_len, zeros_len, flatMap_len vc_len, List.length_append, List.length_take, List.length_drop, List.length_map, List.length_nil, List.length_cons, List.length_replicate, List.length_reverse, List.length_set, List.length_range, strB_size] <;> omega))) ?_
      refine RG.op _ _ rfl rfl (o_assign (.v _) rfl) ?_
      refine RG.nil (h10_ _ ?_)
      refine WC.seq fun Fh11_ h11_ => ?_
      refine WC.region ?_
      refine RG.op _ _ rfl rfl (o_move (.v _) rfl) ?_
      refine RG.nil (h11_ _ ?_)
      refine WC.block ?_
      refine WC.seq fun Fh12_ h12_ => ?_
      refine WC.region ?_
      refine RG.op _ _ rfl rfl (o_eqB (b := 1) rfl rfl) ?_
      refine RG.op _ _ rfl rfl (o_assign (.v _) rfl) ?_
      refine RG.nil (h12_ _ ?_)
      refine WC.cond _ rfl (fun c8 => ?_) (fun c8 => ?_)
      ·
        have p8 := c8
        try simp only [decide_eq_true_eq, decide_eq_false_iff_not, Bool.and_eq_true, Bool.or_eq_true, Bool.not_eq_true', Bool.not_eq_false', Bool.and_eq_false_iff, Bool.or_eq_false_iff, beq_iff_eq, bne_iff_ne, beq_eq_false_iff_ne, bne_eq_false_iff_eq, Int.not_lt, Int.not_le, ne_eq, Decidable.not_not] at p8
        refine WC.region ?_
        refine RG.op _ _ rfl rfl (o_move (.own _ _ _ _ _) rfl) ?_
        refine RG.op _ _ rfl rfl (o_build (cs := [B8 0, I64 0, S []]) Try.underlying41 Ty.inf41 (Ty.pl41 Try.underlying41) rfl) ?_
        refine RG.op _ _ rfl rfl (o_litP (cs := [_, _, _]) Try.underlying23 Ty.inf41 rfl rfl rfl rfl (by repeat (first | exact pu_bytes _ | exact pu_nil | exact pu_vs rfl | exact pu_map (fun _ => .v _) _ | exact pu_vals _ | refine pu_app ?_ ?_ | refine pu_cons (by first | exact .v _ | exact .rd _ _ | exact .adr _ | exact .mp _ _ | exact .agg _ (by repeat (first | exact pu_bytes _ | exact pu_nil | exact pu_vs rfl | exact pu_map (fun _ => .v _) _ | exact pu_vals _ | refine pu_app ?_ ?_ | refine pu_cons (by first | exact .v _ | exact .rd _ _ | exact .adr _ | exact .mp _ _ | exact .agg _ (pu_vs rfl)) ?_)) | exact .tup _ (by repeat (first | exact pu_bytes _ | exact pu_nil | exact pu_vs rfl | exact pu_map (fun _ => .v _) _ | exact pu_vals _ | refine pu_app ?_ ?_ | refine pu_cons (by first | exact .v _ | exact .rd _ _ | exact .adr _ | exact .mp _ _ | exact .agg _ (pu_vs rfl)) ?_)) | exact .fn _ _ (by repeat (first | exact pu_bytes _ | exact pu_nil | exact pu_vs rfl | exact pu_map (fun _ => .v _) _ | exact pu_vals _ | refine pu_app ?_ ?_ | refine pu_cons (by first | exact .v _ | exact .rd _ _ | exact .adr _ | exact .mp _ _ | exact .agg _ (pu_vs rfl)) ?_)) | exact .iface _ _ (.v _) | exact .iface _ _ (.agg _ (by repeat (first | exact pu_bytes _ | exact pu_nil | exact pu_vs rfl | exact pu_map (fun _ => .v _) _ | exact pu_vals _ | refine pu_app ?_ ?_ | refine pu_cons (by first | exact .v _ | exact .rd _ _ | exact .adr _ | exact .mp _ _ | exact .agg _ (pu_vs rfl)) ?_)))) ?_))) ?_
        refine RG.op _ _ rfl rfl (o_appT (Elem.of Try.underlying23 Ty.inf41 rfl (by decide)) rfl rfl rfl (by first | omega | exact ubyte _ | (simp only [bytesD_len, zeros_len, flatMap_len vc_len, List.length_append, List.length_take, List.length_drop, List.length_map, List.length_nil, List.length_cons, List.length_replicate, List.length_reverse, List.length_set, List.length_range, strB_size] <;> omega)) (by first | omega | exact ubyte _ | (simp only [bytesD_len, zeros_len, flatMap_len vc_len, List.length_append, List.length_take, List.length_drop, List.length_map, List.length_nil, List.length_cons, List.length_replicate, List.length_reverse, List.length_set, List.length_range, strB_size] <;> omega)) (by repeat (first | exact bytesD_one _ | exact one_nil | exact one_map (fun _ => rfl) _ | exact one_vals _ | refine one_app ?_ ?_ | refine one_cons rfl ?_)) (by first | omega | exact ubyte _ | (simp only [bytesD_len, zeros_len, flatMap_len vc_len, List.length_append, List.length_take, List.length_drop, List.length_map, List.length_nil, List.length_cons, List.length_replicate, List.length_reverse, List.length_set, List.length_range, strB_size] <;> omega)) (by first | omega | exact ubyte _ | (simp only [bytesD_len, zeros_len, flatMap_len vc_len, List.length_append, List.length_take, List.length_drop, List.length_map, List.length_nil, List.length_cons, List.length_replicate, List.length_reverse, List.length_set, List.length_range, strB_size] <;> omega))) ?_
        refine RG.op _ _ rfl rfl (o_assign (.own _ _ _ _ _) rfl) ?_
        refine RG.nil (Exists.intro ((p.1 ++ [⟨0, 0, []⟩], p.2 + 1)) ⟨⟨by show _ ≤ _; omega, by simp; omega, step_ok hp3 hlt (one1 hlt p8) (by omega)⟩, (by show _ < _; omega), ?_⟩)
        exact .mk' ⟨⟨rfl, .v _⟩, ⟨ow_eq (by simp), (by first | exact .own _ _ _ _ _ (Nat.le_refl _) | exact .ptr _ _ _ (Nat.le_refl _) | exact .omp _ _ (Nat.le_refl _))⟩, trivial⟩ (by repeat (first | with_reducible exact same_refl _ _ | with_reducible refine same_updO (by with_unfolding_all exact rfl) ?_ | with_reducible refine same_updN ?_ | with_reducible refine same_updL (by with_unfolding_all exact rfl) ?_ | with_reducible refine same_forget (by with_unfolding_all exact rfl) ?_)) (congrArg (fun c => [c]) (tb_eq (by simp) (flat_snoc p.1 ⟨0, 0, []⟩))) (by repeat (first | exact trivial | refine And.intro (Nat.le_refl _) ?_ | refine And.intro trivial ?_ | refine And.intro (by show _ ≤ _; (first | omega | (simp only [bytesD_len, zeros_len, flatMap_len vc_len, List.length_append, List.length_take, List.length_drop, List.length_map, List.length_nil, List.length_cons, List.length_replicate, List.length_reverse, List.length_set, List.length_range, strB_size] <;> omega))) ?_)) (by repeat (first | exact trivial | refine And.intro (okp (by repeat (first | exact pu_bytes _ | exact pu_nil | exact pu_vs rfl | exact pu_map (fun _ => .v _) _ | exact pu_vals _ | refine pu_app ?_ ?_ | refine pu_cons (by first | exact .v _ | exact .rd _ _ | exact .adr _ | exact .mp _ _ | exact .agg _ (by repeat (first | exact pu_bytes _ | exact pu_nil | exact pu_vs rfl | exact pu_map (fun _ => .v _) _ | exact pu_vals _ | refine pu_app ?_ ?_ | refine pu_cons (by first | exact .v _ | exact .rd _ _ | exact .adr _ | exact .mp _ _ | exact .agg _ (pu_vs rfl)) ?_)) | exact .tup _ (by repeat (first | exact pu_bytes _ | exact pu_nil | exact pu_vs rfl | exact pu_map (fun _ => .v _) _ | exact pu_vals _ | refine pu_app ?_ ?_ | refine pu_cons (by first | exact .v _ | exact .rd _ _ | exact .adr _ | exact .mp _ _ | exact .agg _ (pu_vs rfl)) ?_)) | exact .fn _ _ (by repeat (first | exact pu_bytes _ | exact pu_nil | exact pu_vs rfl | exact pu_map (fun _ => .v _) _ | exact pu_vals _ | refine pu_app ?_ ?_ | refine pu_cons (by first | exact .v _ | exact .rd _ _ | exact .adr _ | exact .mp _ _ | exact .agg _ (pu_vs rfl)) ?_)) | exact .iface _ _ (.v _) | exact .iface _ _ (.agg _ (by repeat (first | exact pu_bytes _ | exact pu_nil | exact pu_vs rfl | exact pu_map (fun _ => .v _) _ | exact pu_vals _ | refine pu_app ?_ ?_ | refine pu_cons (by first | exact .v _ | exact .rd _ _ | exact .adr _ | exact .mp _ _ | exact .agg _ (pu_vs rfl)) ?_)))) ?_))) ?_))
      ·
        have p8 := c8
        try simp only [decide_eq_true_eq, decide_eq_false_iff_not, Bool.and_eq_true, Bool.or_eq_true, Bool.not_eq_true', Bool.not_eq_false', Bool.and_eq_false_iff, Bool.or_eq_false_iff, beq_iff_eq, bne_iff_ne, beq_eq_false_iff_ne, bne_eq_false_iff_eq, Int.not_lt, Int.not_le, ne_eq, Decidable.not_not] at p8
        refine WC.seq fun Fh13_ h13_ => ?_
        refine WC.region ?_
        refine RG.op _ _ rfl rfl (o_eqB (b := 2) rfl rfl) ?_
        refine RG.op _ _ rfl rfl (o_assign (.v _) rfl) ?_
        refine RG.nil (h13_ _ ?_)
        refine WC.cond _ rfl (fun c10 => ?_) (fun c10 => ?_)
        ·
          have p10 := c10
          try simp only [decide_eq_true_eq, decide_eq_false_iff_not, Bool.and_eq_true, Bool.or_eq_true, Bool.not_eq_true', Bool.not_eq_false', Bool.and_eq_false_iff, Bool.or_eq_false_iff, beq_iff_eq, bne_iff_ne, beq_eq_false_iff_ne, bne_eq_false_iff_eq, Int.not_lt, Int.not_le, ne_eq, Decidable.not_not] at p10
          refine WC.seq fun Fh14_ h14_ => ?_
          refine WC.seq fun Fh15_ h15_ => ?_
          refine WC.region ?_
          refine RG.op _ _ rfl rfl (o_move (.v _) rfl) ?_
          refine RG.op _ _ rfl rfl (o_move (.rd _ _) rfl) ?_
          refine RG.op _ _ rfl rfl (o_len_rd rfl Try.underlying22) ?_
          refine RG.op _ _ rfl rfl (o_eqI rfl rfl) ?_
          refine RG.nil (h15_ _ ?_)
          refine WC.cond _ rfl (fun c11 => ?_) (fun c11 => ?_)
          ·
            have p11 := c11
            try simp only [decide_eq_true_eq, decide_eq_false_iff_not, Bool.and_eq_true, Bool.or_eq_true, Bool.not_eq_true', Bool.not_eq_false', Bool.and_eq_false_iff, Bool.or_eq_false_iff, beq_iff_eq, bne_iff_ne, beq_eq_false_iff_ne, bne_eq_false_iff_eq, Int.not_lt, Int.not_le, ne_eq, Decidable.not_not] at p11
            refine WC.seq fun Fh16_ h16_ => ?_
            refine WC.region ?_
            refine RG.op _ _ rfl rfl (o_assign (.v _) rfl) ?_
            refine RG.op _ _ rfl rfl (o_assign (.v _) rfl) ?_
            refine RG.nil (h16_ _ ?_)
            refine WC.ret ?_
            exact Ends.r2 rfl (.tmp _ (.v _) rfl) (.tmp _ (.v _) rfl) .nilr (.v _) (by rw [step_err hp3 hlt (one2a hlt p10 (by omega))]; rfl)
          ·
            have p11 := c11
            try simp only [decide_eq_true_eq, decide_eq_false_iff_not, Bool.and_eq_true, Bool.or_eq_true, Bool.not_eq_true', Bool.not_eq_false', Bool.and_eq_false_iff, Bool.or_eq_false_iff, beq_iff_eq, bne_iff_ne, beq_eq_false_iff_ne, bne_eq_false_iff_eq, Int.not_lt, Int.not_le, ne_eq, Decidable.not_not] at p11
            have hlt2 : p.2 + 1 < b.length := by omega
            refine WC.skip (h14_ _ ?_)
            refine WC.seq fun Fh17_ h17_ => ?_
            refine WC.seq fun Fh18_ h18_ => ?_
            refine WC.region ?_
            refine RG.op _ _ rfl rfl (o_move (.rd _ _) rfl) ?_
            refine RG.op _ _ rfl rfl (o_move (.v _) rfl) ?_
            refine RG.op _ _ rfl rfl (o_ixn_M (p.2 + 1) rfl rfl Try.underlying22 (sz_of Ty.inf5) (by first | omega | exact ubyte _ | (simp only [bytesD_len, zeros_len, flatMap_len vc_len, List.length_append, List.length_take, List.length_drop, List.length_map, List.length_nil, List.length_cons, List.length_replicate, List.length_reverse, List.length_set, List.length_range, strB_size] <;> omega)) (by first | omega | exact ubyte _ | (simp only [bytesD_len, zeros_len, flatMap_len vc_len, List.length_append, List.length_take, List.length_drop, List.length_map, List.length_nil, List.length_cons, List.length_replicate, List.length_reverse, List.length_set, List.length_range, strB_size] <;> omega))) ?_
            refine RG.op _ _ rfl rfl (o_load_adr rfl Try.underlying5 rfl rfl) ?_
            refine RG.op _ _ rfl rfl (o_gtB (b := 1) rfl rfl) ?_
            refine RG.nil (h18_ _ ?_)
            refine WC.cond _ rfl (fun c13 => ?_) (fun c13 => ?_)
            ·
              have p13 := c13
              try simp only [decide_eq_true_eq, decide_eq_false_iff_not, Bool.and_eq_true, Bool.or_eq_true, Bool.not_eq_true', Bool.not_eq_false', Bool.and_eq_false_iff, Bool.or_eq_false_iff, beq_iff_eq, bne_iff_ne, beq_eq_false_iff_ne, bne_eq_false_iff_eq, Int.not_lt, Int.not_le, ne_eq, Decidable.not_not] at p13
              refine WC.seq fun Fh19_ h19_ => ?_
              refine WC.region ?_
              refine RG.op _ _ rfl rfl (o_assign (.v _) rfl) ?_
              refine RG.op _ _ rfl rfl (o_assign (.v _) rfl) ?_
              refine RG.nil (h19_ _ ?_)
              refine WC.ret ?_
              exact Ends.r2 rfl (.tmp _ (.v _) rfl) (.tmp _ (.v _) rfl) .nilr (.v _) (by rw [step_err hp3 hlt (one2b hlt2 p10 (by have e : (1 : UInt8).toNat = 1 := rfl; omega))]; rfl)
            ·
              have p13 := c13
              try simp only [decide_eq_true_eq, decide_eq_false_iff_not, Bool.and_eq_true, Bool.or_eq_true, Bool.not_eq_true', Bool.not_eq_false', Bool.and_eq_false_iff, Bool.or_eq_false_iff, beq_iff_eq, bne_iff_ne, beq_eq_false_iff_ne, bne_eq_false_iff_eq, Int.not_lt, Int.not_le, ne_eq, Decidable.not_not] at p13
              refine WC.skip (h17_ _ ?_)
              refine WC.seq fun Fh20_ h20_ => ?_
              refine WC.region ?_
              refine RG.op _ _ rfl rfl (o_move (.own _ _ _ _ _) rfl) ?_
              refine RG.op _ _ rfl rfl (o_move (.rd _ _) rfl) ?_
              refine RG.op _ _ rfl rfl (o_move (.v _) rfl) ?_
              refine RG.op _ _ rfl rfl (o_ixn_M (p.2 + 1) rfl rfl Try.underlying22 (sz_of Ty.inf5) (by first | omega | exact ubyte _ | (simp only [bytesD_len, zeros_len, flatMap_len vc_len, List.length_append, List.length_take, List.length_drop, List.length_map, List.length_nil, List.length_cons, List.length_replicate, List.length_reverse, List.length_set, List.length_range, strB_size] <;> omega)) (by first | omega | exact ubyte _ | (simp only [bytesD_len, zeros_len, flatMap_len vc_len, List.length_append, List.length_take, List.length_drop, List.length_map, List.length_nil, List.length_cons, List.length_replicate, List.length_reverse, List.length_set, List.length_range, strB_size] <;> omega))) ?_
              refine RG.op _ _ rfl rfl (o_load_adr rfl Try.underlying5 rfl rfl) ?_
              refine RG.op _ _ rfl rfl (o_BtoI rfl Try.underlying5 Try.underlying2) ?_
              refine RG.op _ _ rfl rfl (o_build (cs := [(B8 1), (.v _), S []]) Try.underlying41 Ty.inf41 (Ty.pl41 Try.underlying41) rfl) ?_
              refine RG.op _ _ rfl rfl (o_litP (cs := [_, _, _]) Try.underlying23 Ty.inf41 rfl rfl rfl rfl (by repeat (first | exact pu_bytes _ | exact pu_nil | exact pu_vs rfl | exact pu_map (fun _ => .v _) _ | exact pu_vals _ | refine pu_app ?_ ?_ | refine pu_cons (by first | exact .v _ | exact .rd _ _ | exact .adr _ | exact .mp _ _ | exact .agg _ (by repeat (first | exact pu_bytes _ | exact pu_nil | exact pu_vs rfl | exact pu_map (fun _ => .v _) _ | exact pu_vals _ | refine pu_app ?_ ?_ | refine pu_cons (by first | exact .v _ | exact .rd _ _ | exact .adr _ | exact .mp _ _ | exact .agg _ (pu_vs rfl)) ?_)) | exact .tup _ (by repeat (first | exact pu_bytes _ | exact pu_nil | exact pu_vs rfl | exact pu_map (fun _ => .v _) _ | exact pu_vals _ | refine pu_app ?_ ?_ | refine pu_cons (by first | exact .v _ | exact .rd _ _ | exact .adr _ | exact .mp _ _ | exact .agg _ (pu_vs rfl)) ?_)) | exact .fn _ _ (by repeat (first | exact pu_bytes _ | exact pu_nil | exact pu_vs rfl | exact pu_map (fun _ => .v _) _ | exact pu_vals _ | refine pu_app ?_ ?_ | refine pu_cons (by first | exact .v _ | exact .rd _ _ | exact .adr _ | exact .mp _ _ | exact .agg _ (pu_vs rfl)) ?_)) | exact .iface _ _ (.v _) | exact .iface _ _ (.agg _ (by repeat (first | exact pu_bytes _ | exact pu_nil | exact pu_vs rfl | exact pu_map (fun _ => .v _) _ | exact pu_vals _ | refine pu_app ?_ ?_ | refine pu_cons (by first | exact .v _ | exact .rd _ _ | exact .adr _ | exact .mp _ _ | exact .agg _ (pu_vs rfl)) ?_)))) ?_))) ?_
              refine RG.op _ _ rfl rfl (o_appT (Elem.of Try.underlying23 Ty.inf41 rfl (by decide)) rfl rfl rfl (by first | omega | exact ubyte _ | (simp only [bytesD_len, zeros_len, flatMap_len vc_len, List.length_append, List.length_take, List.length_drop, List.length_map, List.length_nil, List.length_cons, List.length_replicate, List.length_reverse, List.length_set, List.length_range, strB_size] <;> omega)) (by first | omega | exact ubyte _ | (simp only [bytesD_len, zeros_len, flatMap_len vc_len, List.length_append, List.length_take, List.length_drop, List.length_map, List.length_nil, List.length_cons, List.length_replicate, List.length_reverse, List.length_set, List.length_range, strB_size] <;> omega)) (by repeat (first | exact bytesD_one _ | exact one_nil | exact one_map (fun _ => rfl) _ | exact one_vals _ | refine one_app ?_ ?_ | refine one_cons rfl ?_)) (by first | omega | exact ubyte _ | (simp only [bytesD_len, zeros_len, flatMap_len vc_len, List.length_append, List.length_take, List.length_drop, List.length_map, List.length_nil, List.length_cons, List.length_replicate, List.length_reverse, List.length_set, List.length_range, strB_size] <;> omega)) (by first | omega | exact ubyte _ | (simp only [bytesD_len, zeros_len, flatMap_len vc_len, List.length_append, List.length_take, List.length_drop, List.length_map, List.length_nil, List.length_cons, List.length_replicate, List.length_reverse, List.length_set, List.length_range, strB_size] <;> omega))) ?_
              refine RG.op _ _ rfl rfl (o_assign (.own _ _ _ _ _) rfl) ?_
              refine RG.nil (h20_ _ ?_)
              refine WC.region ?_
              refine RG.op _ _ rfl rfl (o_move (.v _) rfl) ?_
              refine RG.op _ _ rfl rfl (o_add rfl rfl (by first | omega | exact ubyte _ | (simp only [bytesD_len, zeros_len, flatMap_len vc_len, List.length_append, List.length_take, List.length_drop, List.length_map, List.length_nil, List.length_cons, List.length_replicate, List.length_reverse, List.length_set, List.length_range, strB_size] <;> omega)) (by first | omega | exact ubyte _ | (simp only [bytesD_len, zeros_len, flatMap_len vc_len, List.length_append, List.length_take, List.length_drop, List.length_map, List.length_nil, List.length_cons, List.length_replicate, List.length_reverse, List.length_set, List.length_range, strB_size] <;> omega))) ?_
              refine RG.op _ _ rfl rfl (o_assign (.v _) rfl) ?_
              refine RG.nil (Exists.intro ((p.1 ++ [⟨1, ((b[p.2 + 1]'hlt2).toNat : Int), []⟩], p.2 + 2)) ⟨⟨by show _ ≤ _; omega, by simp; omega, step_ok hp3 hlt (one2c hlt2 p10 (by have e : (1 : UInt8).toNat = 1 := rfl; omega)) (by omega)⟩, (by show _ < _; omega), ?_⟩)
              exact .mk' ⟨⟨rfl, .v _⟩, ⟨ow_eq (by simp), (by first | exact .own _ _ _ _ _ (Nat.le_refl _) | exact .ptr _ _ _ (Nat.le_refl _) | exact .omp _ _ (Nat.le_refl _))⟩, trivial⟩ (by repeat (first | with_reducible exact same_refl _ _ | with_reducible refine same_updO (by with_unfolding_all exact rfl) ?_ | with_reducible refine same_updN ?_ | with_reducible refine same_updL (by with_unfolding_all exact rfl) ?_ | with_reducible refine same_forget (by with_unfolding_all exact rfl) ?_)) (congrArg (fun c => [c]) (tb_eq (by simp) (flat_snoc p.1 ⟨1, ((b[p.2 + 1]'hlt2).toNat : Int), []⟩))) (by repeat (first | exact trivial | refine And.intro (Nat.le_refl _) ?_ | refine And.intro trivial ?_ | refine And.intro (by show _ ≤ _; (first | omega | (simp only [bytesD_len, zeros_len, flatMap_len vc_len, List.length_append, List.length_take, List.length_drop, List.length_map, List.length_nil, List.length_cons, List.length_replicate, List.length_reverse, List.length_set, List.length_range, strB_size] <;> omega))) ?_)) (by repeat (first | exact trivial | refine And.intro (okp (by repeat (first | exact pu_bytes _ | exact pu_nil | exact pu_vs rfl | exact pu_map (fun _ => .v _) _ | exact pu_vals _ | refine pu_app ?_ ?_ | refine pu_cons (by first | exact .v _ | exact .rd _ _ | exact .adr _ | exact .mp _ _ | exact .agg _ (by repeat (first | exact pu_bytes _ | exact pu_nil | exact pu_vs rfl | exact pu_map (fun _ => .v _) _ | exact pu_vals _ | refine pu_app ?_ ?_ | refine pu_cons (by first | exact .v _ | exact .rd _ _ | exact .adr _ | exact .mp _ _ | exact .agg _ (pu_vs rfl)) ?_)) | exact .tup _ (by repeat (first | exact pu_bytes _ | exact pu_nil | exact pu_vs rfl | exact pu_map (fun _ => .v _) _ | exact pu_vals _ | refine pu_app ?_ ?_ | refine pu_cons (by first | exact .v _ | exact .rd _ _ | exact .adr _ | exact .mp _ _ | exact .agg _ (pu_vs rfl)) ?_)) | exact .fn _ _ (by repeat (first | exact pu_bytes _ | exact pu_nil | exact pu_vs rfl | exact pu_map (fun _ => .v _) _ | exact pu_vals _ | refine pu_app ?_ ?_ | refine pu_cons (by first | exact .v _ | exact .rd _ _ | exact .adr _ | exact .mp _ _ | exact .agg _ (pu_vs rfl)) ?_)) | exact .iface _ _ (.v _) | exact .iface _ _ (.agg _ (by repeat (first | exact pu_bytes _ | exact pu_nil | exact pu_vs rfl | exact pu_map (fun _ => .v _) _ | exact pu_vals _ | refine pu_app ?_ ?_ | refine pu_cons (by first | exact .v _ | exact .rd _ _ | exact .adr _ | exact .mp _ _ | exact .agg _ (pu_vs rfl)) ?_)))) ?_))) ?_))
        ·
          have p10 := c10
          try simp only [decide_eq_true_eq, decide_eq_false_iff_not, Bool.and_eq_true, Bool.or_eq_true, Bool.not_eq_true', Bool.not_eq_false', Bool.and_eq_false_iff, Bool.or_eq_false_iff, beq_iff_eq, bne_iff_ne, beq_eq_false_iff_ne, bne_eq_false_iff_eq, Int.not_lt, Int.not_le, ne_eq, Decidable.not_not] at p10
          refine WC.seq fun Fh21_ h21_ => ?_
          refine WC.region ?_
          refine RG.op _ _ rfl rfl (o_eqB (b := 3) rfl rfl) ?_
          refine RG.op _ _ rfl rfl (o_assign (.v _) rfl) ?_
          refine RG.nil (h21_ _ ?_)
          refine WC.cond _ rfl (fun c17 => ?_) (fun c17 => ?_)
          ·
            have p17 := c17
            try simp only [decide_eq_true_eq, decide_eq_false_iff_not, Bool.and_eq_true, Bool.or_eq_true, Bool.not_eq_true', Bool.not_eq_false', Bool.and_eq_false_iff, Bool.or_eq_false_iff, beq_iff_eq, bne_iff_ne, beq_eq_false_iff_ne, bne_eq_false_iff_eq, Int.not_lt, Int.not_le, ne_eq, Decidable.not_not] at p17
            refine WC.seq fun Fh22_ h22_ => ?_
            refine WC.seq fun Fh23_ h23_ => ?_
            refine WC.region ?_
            refine RG.op _ _ rfl rfl (o_move (.rd _ _) rfl) ?_
            refine RG.op _ _ rfl rfl (o_len_rd rfl Try.underlying22) ?_
            refine RG.op _ _ rfl rfl (o_move (.v _) rfl) ?_
            refine RG.op _ _ rfl rfl (o_sub rfl rfl (by first | omega | exact ubyte _ | (simp only [bytesD_len, zeros_len, flatMap_len vc_len, List.length_append, List.length_take, List.length_drop, List.length_map, List.length_nil, List.length_cons, List.length_replicate, List.length_reverse, List.length_set, List.length_range, strB_size] <;> omega)) (by first | omega | exact ubyte _ | (simp only [bytesD_len, zeros_len, flatMap_len vc_len, List.length_append, List.length_take, List.length_drop, List.length_map, List.length_nil, List.length_cons, List.length_replicate, List.length_reverse, List.length_set, List.length_range, strB_size] <;> omega))) ?_
            refine RG.op _ _ rfl rfl (o_ltI rfl rfl) ?_
            refine RG.nil (h23_ _ ?_)
            refine WC.cond _ rfl (fun c18 => ?_) (fun c18 => ?_)
            ·
              have p18 := c18
              try simp only [decide_eq_true_eq, decide_eq_false_iff_not, Bool.and_eq_true, Bool.or_eq_true, Bool.not_eq_true', Bool.not_eq_false', Bool.and_eq_false_iff, Bool.or_eq_false_iff, beq_iff_eq, bne_iff_ne, beq_eq_false_iff_ne, bne_eq_false_iff_eq, Int.not_lt, Int.not_le, ne_eq, Decidable.not_not] at p18
              refine WC.seq fun Fh24_ h24_ => ?_
              refine WC.region ?_
              refine RG.op _ _ rfl rfl (o_assign (.v _) rfl) ?_
              refine RG.op _ _ rfl rfl (o_assign (.v _) rfl) ?_
              refine RG.nil (h24_ _ ?_)
              refine WC.ret ?_
              exact Ends.r2 rfl (.tmp _ (.v _) rfl) (.tmp _ (.v _) rfl) .nilr (.v _) (by rw [step_err hp3 hlt (one3a hlt p17 (by omega))]; rfl)
            ·
              have p18 := c18
              try simp only [decide_eq_true_eq, decide_eq_false_iff_not, Bool.and_eq_true, Bool.or_eq_true, Bool.not_eq_true', Bool.not_eq_false', Bool.and_eq_false_iff, Bool.or_eq_false_iff, beq_iff_eq, bne_iff_ne, beq_eq_false_iff_ne, bne_eq_false_iff_eq, Int.not_lt, Int.not_le, ne_eq, Decidable.not_not] at p18
              refine WC.skip (h22_ _ ?_)
              refine WC.seq fun Fh25_ h25_ => ?_
              refine WC.region ?_
              refine RG.op _ _ rfl rfl (o_assign (N64 0) rfl) ?_
              refine RG.nil (h25_ _ ?_)
              refine WC.seq fun Fh26_ h26_ => ?_
              refine WC.seq fun Fh27_ h27_ => ?_
              refine WC.region ?_
              refine RG.op _ _ rfl rfl (o_assign (.v _) rfl) ?_
              refine RG.nil (h27_ _ ?_)
              refine WC.block ?_
              refine WC.loopU [7, 8, 58, 59, 60, 61, 62, 63, 64, 65, 66, 67, 68, 69, 70, 71] (fun (k : Nat) => [(8, I64 ((k : Nat) : Int)), (7, N64 (numU ((b.drop (p.2 + 1)).take k)))]) (fun (k : Nat) => []) (fun (k : Nat) => k ≤ 8) (fun (k : Nat) => 8 - k) 0 (by first | omega | exact ubyte _ | (simp only [bytesD_len, zeros_len, flatMap_len vc_len, List.length_append, List.length_take, List.length_drop, List.length_map, List.length_nil, List.length_cons, List.length_replicate, List.length_reverse, List.length_set, List.length_range, strB_size] <;> omega)) ?lpa28_ ?lpb29_
              case lpa28_ =>
                exact .mk' ⟨⟨rfl, .v _⟩, ⟨rfl, .v _⟩, trivial⟩ (same_refl _ _) (rfl) (by repeat (first | exact trivial | refine And.intro (Nat.le_refl _) ?_ | refine And.intro trivial ?_ | refine And.intro (by show _ ≤ _; (first | omega | (simp only [bytesD_len, zeros_len, flatMap_len vc_len, List.length_append, List.length_take, List.length_drop, List.length_map, List.length_nil, List.length_cons, List.length_replicate, List.length_reverse, List.length_set, List.length_range, strB_size] <;> omega))) ?_)) (by repeat (first | exact trivial | refine And.intro (okp (by repeat (first | exact pu_bytes _ | exact pu_nil | exact pu_vs rfl | exact pu_map (fun _ => .v _) _ | exact pu_vals _ | refine pu_app ?_ ?_ | refine pu_cons (by first | exact .v _ | exact .rd _ _ | exact .adr _ | exact .mp _ _ | exact .agg _ (by repeat (first | exact pu_bytes _ | exact pu_nil | exact pu_vs rfl | exact pu_map (fun _ => .v _) _ | exact pu_vals _ | refine pu_app ?_ ?_ | refine pu_cons (by first | exact .v _ | exact .rd _ _ | exact .adr _ | exact .mp _ _ | exact .agg _ (pu_vs rfl)) ?_)) | exact .tup _ (by repeat (first | exact pu_bytes _ | exact pu_nil | exact pu_vs rfl | exact pu_map (fun _ => .v _) _ | exact pu_vals _ | refine pu_app ?_ ?_ | refine pu_cons (by first | exact .v _ | exact .rd _ _ | exact .adr _ | exact .mp _ _ | exact .agg _ (pu_vs rfl)) ?_)) | exact .fn _ _ (by repeat (first | exact pu_bytes _ | exact pu_nil | exact pu_vs rfl | exact pu_map (fun _ => .v _) _ | exact pu_vals _ | refine pu_app ?_ ?_ | refine pu_cons (by first | exact .v _ | exact .rd _ _ | exact .adr _ | exact .mp _ _ | exact .agg _ (pu_vs rfl)) ?_)) | exact .iface _ _ (.v _) | exact .iface _ _ (.agg _ (by repeat (first | exact pu_bytes _ | exact pu_nil | exact pu_vs rfl | exact pu_map (fun _ => .v _) _ | exact pu_vals _ | refine pu_app ?_ ?_ | refine pu_cons (by first | exact .v _ | exact .rd _ _ | exact .adr _ | exact .mp _ _ | exact .agg _ (pu_vs rfl)) ?_)))) ?_))) ?_))
              case lpb29_ =>
                rintro k hI
                refine WC.seq fun Fh30_ h30_ => ?_
                refine WC.seq fun Fh31_ h31_ => ?_
                refine WC.region ?_
                refine RG.op _ _ rfl rfl (o_move (.v _) rfl) ?_
                refine RG.op _ _ rfl rfl (o_ltI rfl rfl) ?_
                refine RG.nil (h31_ _ ?_)
                refine WC.cond _ rfl (fun c22 => ?_) (fun c22 => ?_)
                ·
                  have p22 := c22
                  try simp only [decide_eq_true_eq, decide_eq_false_iff_not, Bool.and_eq_true, Bool.or_eq_true, Bool.not_eq_true', Bool.not_eq_false', Bool.and_eq_false_iff, Bool.or_eq_false_iff, beq_iff_eq, bne_iff_ne, beq_eq_false_iff_ne, bne_eq_false_iff_eq, Int.not_lt, Int.not_le, ne_eq, Decidable.not_not] at p22
                  have hk : k < (b.drop (p.2 + 1)).length := by rw [List.length_drop]; omega
                  have hk2 : p.2 + 1 + k < b.length := by omega
                  have h9 := UInt8.toNat_lt (b[p.2 + 1 + k]'hk2)
                  have hu := num_lt7 (b.drop (p.2 + 1)) k (by omega) (by omega)
                  refine WC.skip (h30_ _ ?_)
                  refine WC.seq fun Fh32_ h32_ => ?_
                  refine WC.block ?_
                  refine WC.region ?_
                  refine RG.op _ _ rfl rfl (o_move (.v _) rfl) ?_
                  refine RG.op _ _ rfl rfl (o_mulU (b := 256) rfl rfl) ?_
                  refine RG.op _ _ rfl rfl (o_move (.rd _ _) rfl) ?_
                  refine RG.op _ _ rfl rfl (o_move (.v _) rfl) ?_
                  refine RG.op _ _ rfl rfl (o_move (.v _) rfl) ?_
                  refine RG.op _ _ rfl rfl (o_add rfl rfl (by first | omega | exact ubyte _ | (simp only [bytesD_len, zeros_len, flatMap_len vc_len, List.length_append, List.length_take, List.length_drop, List.length_map, List.length_nil, List.length_cons, List.length_replicate, List.length_reverse, List.length_set, List.length_range, strB_size] <;> omega)) (by first | omega | exact ubyte _ | (simp only [bytesD_len, zeros_len, flatMap_len vc_len, List.length_append, List.length_take, List.length_drop, List.length_map, List.length_nil, List.length_cons, List.length_replicate, List.length_reverse, List.length_set, List.length_range, strB_size] <;> omega))) ?_
                  refine RG.op _ _ rfl rfl (o_ixn_M ((p.2 + 1) + k) rfl rfl Try.underlying22 (sz_of Ty.inf5) (by first | omega | exact ubyte _ | (simp only [bytesD_len, zeros_len, flatMap_len vc_len, List.length_append, List.length_take, List.length_drop, List.length_map, List.length_nil, List.length_cons, List.length_replicate, List.length_reverse, List.length_set, List.length_range, strB_size] <;> omega)) (by first | omega | exact ubyte _ | (simp only [bytesD_len, zeros_len, flatMap_len vc_len, List.length_append, List.length_take, List.length_drop, List.length_map, List.length_nil, List.length_cons, List.length_replicate, List.length_reverse, List.length_set, List.length_range, strB_size] <;> omega))) ?_
                  refine RG.op _ _ rfl rfl (o_load_adr rfl Try.underlying5 rfl rfl) ?_
                  refine RG.op _ _ rfl rfl (o_BtoU rfl Try.underlying5 Try.underlying74) ?_
                  refine RG.op _ _ rfl rfl (o_addU rfl rfl) ?_
                  refine RG.op _ _ rfl rfl (o_assign (.v _) rfl) ?_
                  refine RG.nil (h32_ _ ?_)
                  refine WC.region ?_
                  refine RG.op _ _ rfl rfl (o_move (.v _) rfl) ?_
                  refine RG.op _ _ rfl rfl (o_add rfl rfl (by first | omega | exact ubyte _ | (simp only [bytesD_len, zeros_len, flatMap_len vc_len, List.length_append, List.length_take, List.length_drop, List.length_map, List.length_nil, List.length_cons, List.length_replicate, List.length_reverse, List.length_set, List.length_range, strB_size] <;> omega)) (by first | omega | exact ubyte _ | (simp only [bytesD_len, zeros_len, flatMap_len vc_len, List.length_append, List.length_take, List.length_drop, List.length_map, List.length_nil, List.length_cons, List.length_replicate, List.length_reverse, List.length_set, List.length_range, strB_size] <;> omega))) ?_
                  refine RG.op _ _ rfl rfl (o_assign (.v _) rfl) ?_
                  refine RG.nil (Exists.intro (k + 1) ⟨by first | omega | (simp only [bytesD_len, zeros_len, flatMap_len vc_len, List.length_append, List.length_take, List.length_drop, List.length_map, List.length_nil, List.length_cons, List.length_replicate, List.length_reverse, List.length_set, List.length_range, strB_size] <;> omega), by first | omega | (simp only [bytesD_len, zeros_len, flatMap_len vc_len, List.length_append, List.length_take, List.length_drop, List.length_map, List.length_nil, List.length_cons, List.length_replicate, List.length_reverse, List.length_set, List.length_range, strB_size] <;> omega), ?_⟩)
                  exact .mk' ⟨⟨rfl, .v _⟩, ⟨congrArg N64 (by rw [num_step hk, List.getElem_drop]; omega), .v _⟩, trivial⟩ (by repeat (first | with_reducible exact same_refl _ _ | with_reducible refine same_updO (by with_unfolding_all exact rfl) ?_ | with_reducible refine same_updN ?_ | with_reducible refine same_updL (by with_unfolding_all exact rfl) ?_ | with_reducible refine same_forget (by with_unfolding_all exact rfl) ?_)) (rfl) (by repeat (first | exact trivial | refine And.intro (Nat.le_refl _) ?_ | refine And.intro trivial ?_ | refine And.intro (by show _ ≤ _; (first | omega | (simp only [bytesD_len, zeros_len, flatMap_len vc_len, List.length_append, List.length_take, List.length_drop, List.length_map, List.length_nil, List.length_cons, List.length_replicate, List.length_reverse, List.length_set, List.length_range, strB_size] <;> omega))) ?_)) (by repeat (first | exact trivial | refine And.intro (okp (by repeat (first | exact pu_bytes _ | exact pu_nil | exact pu_vs rfl | exact pu_map (fun _ => .v _) _ | exact pu_vals _ | refine pu_app ?_ ?_ | refine pu_cons (by first | exact .v _ | exact .rd _ _ | exact .adr _ | exact .mp _ _ | exact .agg _ (by repeat (first | exact pu_bytes _ | exact pu_nil | exact pu_vs rfl | exact pu_map (fun _ => .v _) _ | exact pu_vals _ | refine pu_app ?_ ?_ | refine pu_cons (by first | exact .v _ | exact .rd _ _ | exact .adr _ | exact .mp _ _ | exact .agg _ (pu_vs rfl)) ?_)) | exact .tup _ (by repeat (first | exact pu_bytes _ | exact pu_nil | exact pu_vs rfl | exact pu_map (fun _ => .v _) _ | exact pu_vals _ | refine pu_app ?_ ?_ | refine pu_cons (by first | exact .v _ | exact .rd _ _ | exact .adr _ | exact .mp _ _ | exact .agg _ (pu_vs rfl)) ?_)) | exact .fn _ _ (by repeat (first | exact pu_bytes _ | exact pu_nil | exact pu_vs rfl | exact pu_map (fun _ => .v _) _ | exact pu_vals _ | refine pu_app ?_ ?_ | refine pu_cons (by first | exact .v _ | exact .rd _ _ | exact .adr _ | exact .mp _ _ | exact .agg _ (pu_vs rfl)) ?_)) | exact .iface _ _ (.v _) | exact .iface _ _ (.agg _ (by repeat (first | exact pu_bytes _ | exact pu_nil | exact pu_vs rfl | exact pu_map (fun _ => .v _) _ | exact pu_vals _ | refine pu_app ?_ ?_ | refine pu_cons (by first | exact .v _ | exact .rd _ _ | exact .adr _ | exact .mp _ _ | exact .agg _ (pu_vs rfl)) ?_)))) ?_))) ?_))
                ·
                  have p22 := c22
                  try simp only [decide_eq_true_eq, decide_eq_false_iff_not, Bool.and_eq_true, Bool.or_eq_true, Bool.not_eq_true', Bool.not_eq_false', Bool.and_eq_false_iff, Bool.or_eq_false_iff, beq_iff_eq, bne_iff_ne, beq_eq_false_iff_ne, bne_eq_false_iff_eq, Int.not_lt, Int.not_le, ne_eq, Decidable.not_not] at p22
                  refine WC.exit (h26_ _ ?_)
                  refine WC.seq fun Fh33_ h33_ => ?_
                  have hk8 : k = 8 := by omega
                  subst hk8
                  have hu := num_lt8 (b.drop (p.2 + 1)) 8 (by rw [List.length_drop]; omega) (by omega)
                  refine WC.region ?_
                  refine RG.op _ _ rfl rfl (o_move (.own _ _ _ _ _) rfl) ?_
                  refine RG.op _ _ rfl rfl (o_move (.v _) rfl) ?_
                  refine RG.op _ _ rfl rfl ((o_subU (b := 9223372036854775808) rfl rfl (by first | omega | exact ubyte _ | (simp only [bytesD_len, zeros_len, flatMap_len vc_len, List.length_append, List.length_take, List.length_drop, List.length_map, List.length_nil, List.length_cons, List.length_replicate, List.length_reverse, List.length_set, List.length_range, strB_size] <;> omega))).cast (sub_half _)) ?_
                  refine RG.op _ _ rfl rfl (o_UtoI64 rfl (by first | omega | exact ubyte _ | (simp only [bytesD_len, zeros_len, flatMap_len vc_len, List.length_append, List.length_take, List.length_drop, List.length_map, List.length_nil, List.length_cons, List.length_replicate, List.length_reverse, List.length_set, List.length_range, strB_size] <;> omega)) Try.underlying74 Try.underlying2) ?_
                  refine RG.op _ _ rfl rfl (o_build (cs := [(B8 2), (.v _), S []]) Try.underlying41 Ty.inf41 (Ty.pl41 Try.underlying41) rfl) ?_
                  refine RG.op _ _ rfl rfl (o_litP (cs := [_, _, _]) Try.underlying23 Ty.inf41 rfl rfl rfl rfl (by repeat (first | exact pu_bytes _ | exact pu_nil | exact pu_vs rfl | exact pu_map (fun _ => .v _) _ | exact pu_vals _ | refine pu_app ?_ ?_ | refine pu_cons (by first | exact .v _ | exact .rd _ _ | exact .adr _ | exact .mp _ _ | exact .agg _ (by repeat (first | exact pu_bytes _ | exact pu_nil | exact pu_vs rfl | exact pu_map (fun _ => .v _) _ | exact pu_vals _ | refine pu_app ?_ ?_ | refine pu_cons (by first | exact .v _ | exact .rd _ _ | exact .adr _ | exact .mp _ _ | exact .agg _ (pu_vs rfl)) ?_)) | exact .tup _ (by repeat (first | exact pu_bytes _ | exact pu_nil | exact pu_vs rfl | exact pu_map (fun _ => .v _) _ | exact pu_vals _ | refine pu_app ?_ ?_ | refine pu_cons (by first | exact .v _ | exact .rd _ _ | exact .adr _ | exact .mp _ _ | exact .agg _ (pu_vs rfl)) ?_)) | exact .fn _ _ (by repeat (first | exact pu_bytes _ | exact pu_nil | exact pu_vs rfl | exact pu_map (fun _ => .v _) _ | exact pu_vals _ | refine pu_app ?_ ?_ | refine pu_cons (by first | exact .v _ | exact .rd _ _ | exact .adr _ | exact .mp _ _ | exact .agg _ (pu_vs rfl)) ?_)) | exact .iface _ _ (.v _) | exact .iface _ _ (.agg _ (by repeat (first | exact pu_bytes _ | exact pu_nil | exact pu_vs rfl | exact pu_map (fun _ => .v _) _ | exact pu_vals _ | refine pu_app ?_ ?_ | refine pu_cons (by first | exact .v _ | exact .rd _ _ | exact .adr _ | exact .mp _ _ | exact .agg _ (pu_vs rfl)) ?_)))) ?_))) ?_
                  refine RG.op _ _ rfl rfl (o_appT (Elem.of Try.underlying23 Ty.inf41 rfl (by decide)) rfl rfl rfl (by first | omega | exact ubyte _ | (simp only [bytesD_len, zeros_len, flatMap_len vc_len, List.length_append, List.length_take, List.length_drop, List.length_map, List.length_nil, List.length_cons, List.length_replicate, List.length_reverse, List.length_set, List.length_range, strB_size] <;> omega)) (by first | omega | exact ubyte _ | (simp only [bytesD_len, zeros_len, flatMap_len vc_len, List.length_append, List.length_take, List.length_drop, List.length_map, List.length_nil, List.length_cons, List.length_replicate, List.length_reverse, List.length_set, List.length_range, strB_size] <;> omega)) (by repeat (first | exact bytesD_one _ | exact one_nil | exact one_map (fun _ => rfl) _ | exact one_vals _ | refine one_app ?_ ?_ | refine one_cons rfl ?_)) (by first | omega | exact ubyte _ | (simp only [bytesD_len, zeros_len, flatMap_len vc_len, List.length_append, List.length_take, List.length_drop, List.length_map, List.length_nil, List.length_cons, List.length_replicate, List.length_reverse, List.length_set, List.length_range, strB_size] <;> omega)) (by first | omega | exact ubyte _ | (simp only [bytesD_len, zeros_len, flatMap_len vc_len, List.length_append, List.length_take, List.length_drop, List.length_map, List.length_nil, List.length_cons, List.length_replicate, List.length_reverse, List.length_set, List.length_range, strB_size] <;> omega))) ?_
                  refine RG.op _ _ rfl rfl (o_assign (.own _ _ _ _ _) rfl) ?_
                  refine RG.nil (h33_ _ ?_)
                  refine WC.region ?_
                  refine RG.op _ _ rfl rfl (o_move (.v _) rfl) ?_
                  refine RG.op _ _ rfl rfl (o_add rfl rfl (by first | omega | exact ubyte _ | (simp only [bytesD_len, zeros_len, flatMap_len vc_len, List.length_append, List.length_take, List.length_drop, List.length_map, List.length_nil, List.length_cons, List.length_replicate, List.length_reverse, List.length_set, List.length_range, strB_size] <;> omega)) (by first | omega | exact ubyte _ | (simp only [bytesD_len, zeros_len, flatMap_len vc_len, List.length_append, List.length_take, List.length_drop, List.length_map, List.length_nil, List.length_cons, List.length_replicate, List.length_reverse, List.length_set, List.length_range, strB_size] <;> omega))) ?_
                  refine RG.op _ _ rfl rfl (o_assign (.v _) rfl) ?_
                  refine RG.nil (Exists.intro ((p.1 ++ [⟨2, unI (numU ((b.drop (p.2 + 1)).take 8)), []⟩], p.2 + 9)) ⟨⟨by show _ ≤ _; omega, by simp; omega, step_ok hp3 hlt (one3b hlt p17 (by omega)) (by omega)⟩, (by show _ < _; omega), ?_⟩)
                  exact .mk' ⟨⟨rfl, .v _⟩, ⟨ow_eq (by simp), (by first | exact .own _ _ _ _ _ (Nat.le_refl _) | exact .ptr _ _ _ (Nat.le_refl _) | exact .omp _ _ (Nat.le_refl _))⟩, trivial⟩ (by repeat (first | with_reducible exact same_refl _ _ | with_reducible refine same_updO (by with_unfolding_all exact rfl) ?_ | with_reducible refine same_updN ?_ | with_reducible refine same_updL (by with_unfolding_all exact rfl) ?_ | with_reducible refine same_forget (by with_unfolding_all exact rfl) ?_)) (congrArg (fun c => [c]) (tb_eq (by simp) (by simp only [List.flatMap_append, List.flatMap_cons, List.flatMap_nil, List.append_nil, vc, unI]))) (by repeat (first | exact trivial | refine And.intro (Nat.le_refl _) ?_ | refine And.intro trivial ?_ | refine And.intro (by show _ ≤ _; (first | omega | (simp only [bytesD_len, zeros_len, flatMap_len vc_len, List.length_append, List.length_take, List.length_drop, List.length_map, List.length_nil, List.length_cons, List.length_replicate, List.length_reverse, List.length_set, List.length_range, strB_size] <;> omega))) ?_)) (by repeat (first | exact trivial | refine And.intro (okp (by repeat (first | exact pu_bytes _ | exact pu_nil | exact pu_vs rfl | exact pu_map (fun _ => .v _) _ | exact pu_vals _ | refine pu_app ?_ ?_ | refine pu_cons (by first | exact .v _ | exact .rd _ _ | exact .adr _ | exact .mp _ _ | exact .agg _ (by repeat (first | exact pu_bytes _ | exact pu_nil | exact pu_vs rfl | exact pu_map (fun _ => .v _) _ | exact pu_vals _ | refine pu_app ?_ ?_ | refine pu_cons (by first | exact .v _ | exact .rd _ _ | exact .adr _ | exact .mp _ _ | exact .agg _ (pu_vs rfl)) ?_)) | exact .tup _ (by repeat (first | exact pu_bytes _ | exact pu_nil | exact pu_vs rfl | exact pu_map (fun _ => .v _) _ | exact pu_vals _ | refine pu_app ?_ ?_ | refine pu_cons (by first | exact .v _ | exact .rd _ _ | exact .adr _ | exact .mp _ _ | exact .agg _ (pu_vs rfl)) ?_)) | exact .fn _ _ (by repeat (first | exact pu_bytes _ | exact pu_nil | exact pu_vs rfl | exact pu_map (fun _ => .v _) _ | exact pu_vals _ | refine pu_app ?_ ?_ | refine pu_cons (by first | exact .v _ | exact .rd _ _ | exact .adr _ | exact .mp _ _ | exact .agg _ (pu_vs rfl)) ?_)) | exact .iface _ _ (.v _) | exact .iface _ _ (.agg _ (by repeat (first | exact pu_bytes _ | exact pu_nil | exact pu_vs rfl | exact pu_map (fun _ => .v _) _ | exact pu_vals _ | refine pu_app ?_ ?_ | refine pu_cons (by first | exact .v _ | exact .rd _ _ | exact .adr _ | exact .mp _ _ | exact .agg _ (pu_vs rfl)) ?_)))) ?_))) ?_))
          ·
            have p17 := c17
            try simp only [decide_eq_true_eq, decide_eq_false_iff_not, Bool.and_eq_true, Bool.or_eq_true, Bool.not_eq_true', Bool.not_eq_false', Bool.and_eq_false_iff, Bool.or_eq_false_iff, beq_iff_eq, bne_iff_ne, beq_eq_false_iff_ne, bne_eq_false_iff_eq, Int.not_lt, Int.not_le, ne_eq, Decidable.not_not] at p17
            refine WC.seq fun Fh34_ h34_ => ?_
            refine WC.region ?_
            refine RG.op _ _ rfl rfl (o_eqB (b := 4) rfl rfl) ?_
            refine RG.op _ _ rfl rfl (o_assign (.v _) rfl) ?_
            refine RG.nil (h34_ _ ?_)
            refine WC.cond _ rfl (fun c27 => ?_) (fun c27 => ?_)
            ·
              have p27 := c27
              try simp only [decide_eq_true_eq, decide_eq_false_iff_not, Bool.and_eq_true, Bool.or_eq_true, Bool.not_eq_true', Bool.not_eq_false', Bool.and_eq_false_iff, Bool.or_eq_false_iff, beq_iff_eq, bne_iff_ne, beq_eq_false_iff_ne, bne_eq_false_iff_eq, Int.not_lt, Int.not_le, ne_eq, Decidable.not_not] at p27
              refine WC.seq fun Fh35_ h35_ => ?_
              have hn := tN_le (b.drop (p.2 + 1))
              rw [List.length_drop] at hn
              refine WC.region ?_
              refine RG.op _ _ rfl rfl (o_move (.rd _ _) rfl) ?_
              refine RG.op _ _ rfl rfl (o_move (.v _) rfl) ?_
              refine RG.op _ _ rfl rfl (o_dropM (p.2 + 1) rfl rfl Try.underlying22 (sz_of Ty.inf5) (by first | omega | exact ubyte _ | (simp only [bytesD_len, zeros_len, flatMap_len vc_len, List.length_append, List.length_take, List.length_drop, List.length_map, List.length_nil, List.length_cons, List.length_replicate, List.length_reverse, List.length_set, List.length_range, strB_size] <;> omega)) (by first | omega | exact ubyte _ | (simp only [bytesD_len, zeros_len, flatMap_len vc_len, List.length_append, List.length_take, List.length_drop, List.length_map, List.length_nil, List.length_cons, List.length_replicate, List.length_reverse, List.length_set, List.length_range, strB_size] <;> omega))) ?_
              refine RG.op _ _ rfl rfl (o_call Ty.cal52 (rtext_c _ (by first | omega | exact ubyte _ | (simp only [bytesD_len, zeros_len, flatMap_len vc_len, List.length_append, List.length_take, List.length_drop, List.length_map, List.length_nil, List.length_cons, List.length_replicate, List.length_reverse, List.length_set, List.length_range, strB_size] <;> omega))) ⟨.inl rfl, trivial⟩ (by repeat (first | exact trivial | refine And.intro (by first | exact .v _ | exact .rd _ _ | exact .adr _ | exact .mp _ _ | exact .agg _ (by repeat (first | exact pu_bytes _ | exact pu_nil | exact pu_vs rfl | exact pu_map (fun _ => .v _) _ | exact pu_vals _ | refine pu_app ?_ ?_ | refine pu_cons (by first | exact .v _ | exact .rd _ _ | exact .adr _ | exact .mp _ _ | exact .agg _ (pu_vs rfl)) ?_)) | exact .tup _ (by repeat (first | exact pu_bytes _ | exact pu_nil | exact pu_vs rfl | exact pu_map (fun _ => .v _) _ | exact pu_vals _ | refine pu_app ?_ ?_ | refine pu_cons (by first | exact .v _ | exact .rd _ _ | exact .adr _ | exact .mp _ _ | exact .agg _ (pu_vs rfl)) ?_)) | exact .fn _ _ (by repeat (first | exact pu_bytes _ | exact pu_nil | exact pu_vs rfl | exact pu_map (fun _ => .v _) _ | exact pu_vals _ | refine pu_app ?_ ?_ | refine pu_cons (by first | exact .v _ | exact .rd _ _ | exact .adr _ | exact .mp _ _ | exact .agg _ (pu_vs rfl)) ?_)) | exact .iface _ _ (.v _) | exact .iface _ _ (.agg _ (by repeat (first | exact pu_bytes _ | exact pu_nil | exact pu_vs rfl | exact pu_map (fun _ => .v _) _ | exact pu_vals _ | refine pu_app ?_ ?_ | refine pu_cons (by first | exact .v _ | exact .rd _ _ | exact .adr _ | exact .mp _ _ | exact .agg _ (pu_vs rfl)) ?_)))) ?_))) ?_
              refine RG.op _ _ rfl rfl (o_move (.tup _) rfl) ?_
              refine RG.op _ _ rfl rfl (o_extract rfl rfl) ?_
              refine RG.op _ _ rfl rfl (o_extract rfl rfl) ?_
              refine RG.op _ _ rfl rfl (o_extract rfl rfl) ?_
              refine RG.op _ _ rfl rfl (o_assign (.v _) rfl) ?_
              refine RG.op _ _ rfl rfl (o_assign (.v _) rfl) ?_
              refine RG.op _ _ rfl rfl (o_assign (.v _) rfl) ?_
              refine RG.nil (h35_ _ ?_)
              refine WC.seq fun Fh36_ h36_ => ?_
              refine WC.seq fun Fh37_ h37_ => ?_
              refine WC.region ?_
              refine RG.op _ _ rfl rfl (o_move (.v _) rfl) ?_
              refine RG.op _ _ rfl rfl (o_neI rfl rfl) ?_
              refine RG.nil (h37_ _ ?_)
              refine WC.cond _ rfl (fun c29 => ?_) (fun c29 => ?_)
              ·
                have p29 := c29
                try simp only [decide_eq_true_eq, decide_eq_false_iff_not, Bool.and_eq_true, Bool.or_eq_true, Bool.not_eq_true', Bool.not_eq_false', Bool.and_eq_false_iff, Bool.or_eq_false_iff, beq_iff_eq, bne_iff_ne, beq_eq_false_iff_ne, bne_eq_false_iff_eq, Int.not_lt, Int.not_le, ne_eq, Decidable.not_not] at p29
                refine WC.seq fun Fh38_ h38_ => ?_
                refine WC.region ?_
                refine RG.op _ _ rfl rfl (o_move (.v _) rfl) ?_
                refine RG.op _ _ rfl rfl (o_assign (.v _) rfl) ?_
                refine RG.op _ _ rfl rfl (o_assign (.v _) rfl) ?_
                refine RG.nil (h38_ _ ?_)
                refine WC.ret ?_
                exact Ends.r2 rfl (.tmp _ (.v _) rfl) (.tmp _ (.v _) rfl) .nilr (.v _) (by rw [step_err hp3 hlt (one4a hlt p27 p29)]; rfl)
              ·
                have p29 := c29
                try simp only [decide_eq_true_eq, decide_eq_false_iff_not, Bool.and_eq_true, Bool.or_eq_true, Bool.not_eq_true', Bool.not_eq_false', Bool.and_eq_false_iff, Bool.or_eq_false_iff, beq_iff_eq, bne_iff_ne, beq_eq_false_iff_ne, bne_eq_false_iff_eq, Int.not_lt, Int.not_le, ne_eq, Decidable.not_not] at p29
                refine WC.skip (h36_ _ ?_)
                refine WC.seq fun Fh39_ h39_ => ?_
                refine WC.region ?_
                refine RG.op _ _ rfl rfl (o_move (.own _ _ _ _ _) rfl) ?_
                refine RG.op _ _ rfl rfl (o_move (.v _) rfl) ?_
                refine RG.op _ _ rfl rfl (o_build (cs := [(B8 3), I64 0, (.v _)]) Try.underlying41 Ty.inf41 (Ty.pl41 Try.underlying41) rfl) ?_
                refine RG.op _ _ rfl rfl (o_litP (cs := [_, _, _]) Try.underlying23 Ty.inf41 rfl rfl rfl rfl (by repeat (first | exact pu_bytes _ | exact pu_nil | exact pu_vs rfl | exact pu_map (fun _ => .v _) _ | exact pu_vals _ | refine pu_app ?_ ?_ | refine pu_cons (by first | exact .v _ | exact .rd _ _ | exact .adr _ | exact .mp _ _ | exact .agg _ (by repeat (first | exact pu_bytes _ | exact pu_nil | exact pu_vs rfl | exact pu_map (fun _ => .v _) _ | exact pu_vals _ | refine pu_app ?_ ?_ | refine pu_cons (by first | exact .v _ | exact .rd _ _ | exact .adr _ | exact .mp _ _ | exact .agg _ (pu_vs rfl)) ?_)) | exact .tup _ (by repeat (first | exact pu_bytes _ | exact pu_nil | exact pu_vs rfl | exact pu_map (fun _ => .v _) _ | exact pu_vals _ | refine pu_app ?_ ?_ | refine pu_cons (by first | exact .v _ | exact .rd _ _ | exact .adr _ | exact .mp _ _ | exact .agg _ (pu_vs rfl)) ?_)) | exact .fn _ _ (by repeat (first | exact pu_bytes _ | exact pu_nil | exact pu_vs rfl | exact pu_map (fun _ => .v _) _ | exact pu_vals _ | refine pu_app ?_ ?_ | refine pu_cons (by first | exact .v _ | exact .rd _ _ | exact .adr _ | exact .mp _ _ | exact .agg _ (pu_vs rfl)) ?_)) | exact .iface _ _ (.v _) | exact .iface _ _ (.agg _ (by repeat (first | exact pu_bytes _ | exact pu_nil | exact pu_vs rfl | exact pu_map (fun _ => .v _) _ | exact pu_vals _ | refine pu_app ?_ ?_ | refine pu_cons (by first | exact .v _ | exact .rd _ _ | exact .adr _ | exact .mp _ _ | exact .agg _ (pu_vs rfl)) ?_)))) ?_))) ?_
                refine RG.op _ _ rfl rfl (o_appT (Elem.of Try.underlying23 Ty.inf41 rfl (by decide)) rfl rfl rfl (by first | omega | exact ubyte _ | (simp only [bytesD_len, zeros_len, flatMap_len vc_len, List.length_append, List.length_take, List.length_drop, List.length_map, List.length_nil, List.length_cons, List.length_replicate, List.length_reverse, List.length_set, List.length_range, strB_size] <;> omega)) (by first | omega | exact ubyte _ | (simp only [bytesD_len, zeros_len, flatMap_len vc_len, List.length_append, List.length_take, List.length_drop, List.length_map, List.length_nil, List.length_cons, List.length_replicate, List.length_reverse, List.length_set, List.length_range, strB_size] <;> omega)) (by repeat (first | exact bytesD_one _ | exact one_nil | exact one_map (fun _ => rfl) _ | exact one_vals _ | refine one_app ?_ ?_ | refine one_cons rfl ?_)) (by first | omega | exact ubyte _ | (simp only [bytesD_len, zeros_len, flatMap_len vc_len, List.length_append, List.length_take, List.length_drop, List.length_map, List.length_nil, List.length_cons, List.length_replicate, List.length_reverse, List.length_set, List.length_range, strB_size] <;> omega)) (by first | omega | exact ubyte _ | (simp only [bytesD_len, zeros_len, flatMap_len vc_len, List.length_append, List.length_take, List.length_drop, List.length_map, List.length_nil, List.length_cons, List.length_replicate, List.length_reverse, List.length_set, List.length_range, strB_size] <;> omega))) ?_
                refine RG.op _ _ rfl rfl (o_assign (.own _ _ _ _ _) rfl) ?_
                refine RG.nil (h39_ _ ?_)
                refine WC.region ?_
                refine RG.op _ _ rfl rfl (o_move (.v _) rfl) ?_
                refine RG.op _ _ rfl rfl (o_move (.v _) rfl) ?_
                refine RG.op _ _ rfl rfl (o_add rfl rfl (by first | omega | exact ubyte _ | (simp only [bytesD_len, zeros_len, flatMap_len vc_len, List.length_append, List.length_take, List.length_drop, List.length_map, List.length_nil, List.length_cons, List.length_replicate, List.length_reverse, List.length_set, List.length_range, strB_size] <;> omega)) (by first | omega | exact ubyte _ | (simp only [bytesD_len, zeros_len, flatMap_len vc_len, List.length_append, List.length_take, List.length_drop, List.length_map, List.length_nil, List.length_cons, List.length_replicate, List.length_reverse, List.length_set, List.length_range, strB_size] <;> omega))) ?_
                refine RG.op _ _ rfl rfl (o_assign (.v _) rfl) ?_
                refine RG.nil (Exists.intro ((p.1 ++ [⟨3, 0, tS (textM (b.drop (p.2 + 1)))⟩], p.2 + (tN (textM (b.drop (p.2 + 1))) + 1))) ⟨⟨by show _ ≤ _; omega, by simp; omega, step_ok hp3 hlt (one4b hlt p27 p29) (by omega)⟩, (by show _ < _; omega), ?_⟩)
                exact .mk' ⟨⟨congrArg I64 (by omega), .v _⟩, ⟨ow_eq (by simp), (by first | exact .own _ _ _ _ _ (Nat.le_refl _) | exact .ptr _ _ _ (Nat.le_refl _) | exact .omp _ _ (Nat.le_refl _))⟩, trivial⟩ (by repeat (first | with_reducible exact same_refl _ _ | with_reducible refine same_updO (by with_unfolding_all exact rfl) ?_ | with_reducible refine same_updN ?_ | with_reducible refine same_updL (by with_unfolding_all exact rfl) ?_ | with_reducible refine same_forget (by with_unfolding_all exact rfl) ?_)) (congrArg (fun c => [c]) (tb_eq (by simp) (flat_snoc p.1 ⟨3, 0, tS (textM (b.drop (p.2 + 1)))⟩))) (by repeat (first | exact trivial | refine And.intro (Nat.le_refl _) ?_ | refine And.intro trivial ?_ | refine And.intro (by show _ ≤ _; (first | omega | (simp only [bytesD_len, zeros_len, flatMap_len vc_len, List.length_append, List.length_take, List.length_drop, List.length_map, List.length_nil, List.length_cons, List.length_replicate, List.length_reverse, List.length_set, List.length_range, strB_size] <;> omega))) ?_)) (by repeat (first | exact trivial | refine And.intro (okp (by repeat (first | exact pu_bytes _ | exact pu_nil | exact pu_vs rfl | exact pu_map (fun _ => .v _) _ | exact pu_vals _ | refine pu_app ?_ ?_ | refine pu_cons (by first | exact .v _ | exact .rd _ _ | exact .adr _ | exact .mp _ _ | exact .agg _ (by repeat (first | exact pu_bytes _ | exact pu_nil | exact pu_vs rfl | exact pu_map (fun _ => .v _) _ | exact pu_vals _ | refine pu_app ?_ ?_ | refine pu_cons (by first | exact .v _ | exact .rd _ _ | exact .adr _ | exact .mp _ _ | exact .agg _ (pu_vs rfl)) ?_)) | exact .tup _ (by repeat (first | exact pu_bytes _ | exact pu_nil | exact pu_vs rfl | exact pu_map (fun _ => .v _) _ | exact pu_vals _ | refine pu_app ?_ ?_ | refine pu_cons (by first | exact .v _ | exact .rd _ _ | exact .adr _ | exact .mp _ _ | exact .agg _ (pu_vs rfl)) ?_)) | exact .fn _ _ (by repeat (first | exact pu_bytes _ | exact pu_nil | exact pu_vs rfl | exact pu_map (fun _ => .v _) _ | exact pu_vals _ | refine pu_app ?_ ?_ | refine pu_cons (by first | exact .v _ | exact .rd _ _ | exact .adr _ | exact .mp _ _ | exact .agg _ (pu_vs rfl)) ?_)) | exact .iface _ _ (.v _) | exact .iface _ _ (.agg _ (by repeat (first | exact pu_bytes _ | exact pu_nil | exact pu_vs rfl | exact pu_map (fun _ => .v _) _ | exact pu_vals _ | refine pu_app ?_ ?_ | refine pu_cons (by first | exact .v _ | exact .rd _ _ | exact .adr _ | exact .mp _ _ | exact .agg _ (pu_vs rfl)) ?_)))) ?_))) ?_))
            ·
              have p27 := c27
              try simp only [decide_eq_true_eq, decide_eq_false_iff_not, Bool.and_eq_true, Bool.or_eq_true, Bool.not_eq_true', Bool.not_eq_false', Bool.and_eq_false_iff, Bool.or_eq_false_iff, beq_iff_eq, bne_iff_ne, beq_eq_false_iff_ne, bne_eq_false_iff_eq, Int.not_lt, Int.not_le, ne_eq, Decidable.not_not] at p27
              refine WC.seq fun Fh40_ h40_ => ?_
              refine WC.region ?_
              refine RG.op _ _ rfl rfl (o_assign (.v _) rfl) ?_
              refine RG.op _ _ rfl rfl (o_assign (.v _) rfl) ?_
              refine RG.nil (h40_ _ ?_)
              refine WC.ret ?_
              exact Ends.r2 rfl (.tmp _ (.v _) rfl) (.tmp _ (.v _) rfl) .nilr (.v _) (by rw [step_err hp3 hlt (one5 hlt p8 p10 p17 p27)]; rfl)
    ·
      have p3 := c3
      try simp only [decide_eq_true_eq, decide_eq_false_iff_not, Bool.and_eq_true, Bool.or_eq_true, Bool.not_eq_true', Bool.not_eq_false', Bool.and_eq_false_iff, Bool.or_eq_false_iff, beq_iff_eq, bne_iff_ne, beq_eq_false_iff_ne, bne_eq_false_iff_eq, Int.not_lt, Int.not_le, ne_eq, Decidable.not_not] at p3
      refine WC.exit (h4_ _ ?_)
      refine WC.seq fun Fh41_ h41_ => ?_
      refine WC.region ?_
      refine RG.op _ _ rfl rfl (o_move (.own _ _ _ _ _) rfl) ?_
      refine RG.op _ _ rfl rfl (o_assign (.own _ _ _ _ _) rfl) ?_
      refine RG.op _ _ rfl rfl (o_assign (.v _) rfl) ?_
      refine RG.nil (h41_ _ ?_)
      refine WC.ret ?_
      exact Ends.r2 rfl (.tmp _ (.own _ _ _ _ _) rfl) (.tmp _ (.v _) rfl) (.tb rfl (by repeat (first | exact pu_bytes _ | exact pu_nil | exact pu_vs rfl | exact pu_map (fun _ => .v _) _ | exact pu_vals _ | refine pu_app ?_ ?_ | refine pu_cons (by first | exact .v _ | exact .rd _ _ | exact .adr _ | exact .mp _ _ | exact .agg _ (by repeat (first | exact pu_bytes _ | exact pu_nil | exact pu_vs rfl | exact pu_map (fun _ => .v _) _ | exact pu_vals _ | refine pu_app ?_ ?_ | refine pu_cons (by first | exact .v _ | exact .rd _ _ | exact .adr _ | exact .mp _ _ | exact .agg _ (pu_vs rfl)) ?_)) | exact .tup _ (by repeat (first | exact pu_bytes _ | exact pu_nil | exact pu_vs rfl | exact pu_map (fun _ => .v _) _ | exact pu_vals _ | refine pu_app ?_ ?_ | refine pu_cons (by first | exact .v _ | exact .rd _ _ | exact .adr _ | exact .mp _ _ | exact .agg _ (pu_vs rfl)) ?_)) | exact .fn _ _ (by repeat (first | exact pu_bytes _ | exact pu_nil | exact pu_vs rfl | exact pu_map (fun _ => .v _) _ | exact pu_vals _ | refine pu_app ?_ ?_ | refine pu_cons (by first | exact .v _ | exact .rd _ _ | exact .adr _ | exact .mp _ _ | exact .agg _ (pu_vs rfl)) ?_)) | exact .iface _ _ (.v _) | exact .iface _ _ (.agg _ (by repeat (first | exact pu_bytes _ | exact pu_nil | exact pu_vs rfl | exact pu_map (fun _ => .v _) _ | exact pu_vals _ | refine pu_app ?_ ?_ | refine pu_cons (by first | exact .v _ | exact .rd _ _ | exact .adr _ | exact .mp _ _ | exact .agg _ (pu_vs rfl)) ?_)))) ?_))) (.v _) (by rw [hp3, parse_nil (by rw [List.length_drop]; omega)]; exact congrArg (fun c => D.tup [c, I64 0]) (rd_eq (n' := (p.1 ++ []).length) (cs' := (p.1 ++ []).flatMap vc) (by rw [List.append_nil]) (by rw [List.append_nil])))
end Go.Proofs.Ytmkljbcjgobjfaa
