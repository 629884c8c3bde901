/-
  Layer key: the document's bytes of a value and of a row. No condition.
-/
import Derived.Test.YtmkljbcjgobjfaaK3
set_option linter.unusedSimpArgs false
set_option linter.unusedVariables false
namespace Go.Proofs.Ytmkljbcjgobjfaa
open Go.RowKit Go.DL

def esc1 (c : UInt8) : List UInt8 := bif c == 0 then [0, 255] else [c]
def escM (t : List UInt8) : List UInt8 := t.flatMap esc1
/-- A value's bytes. -/
def oneM (v : Val) : List UInt8 := (v.k + 1) :: (bif v.k == 1 then [UInt8.ofNat (v.i % 256).toNat] else bif v.k == 2 then hi8 (((v.i % 18446744073709551616).toNat + 9223372036854775808) % 18446744073709551616) else bif v.k == 3 then escM v.t ++ [0, 1] else [])
theorem esc1_len (c : UInt8) : (esc1 c).length ≤ 2 := by unfold esc1; cases c == 0 <;> simp
theorem escM_len : ∀ t : List UInt8, (escM t).length ≤ 2 * t.length
  | [] => by simp [escM]
  | c :: t => by
    have h1 := escM_len t
    have h2 := esc1_len c
    simp only [escM, List.flatMap_cons, List.length_append, List.length_cons] at *
    omega
theorem esc_step {t : List UInt8} {k : Nat} (h : k < t.length) : escM (t.take (k + 1)) = escM (t.take k) ++ esc1 t[k] := by
  unfold escM
  rw [List.take_succ_eq_append_getElem h, List.flatMap_append]; simp
theorem oneM_len (v : Val) : (oneM v).length ≤ 2 * v.t.length + 11 := by
  have := escM_len v.t
  unfold oneM
  cases v.k == 1 <;> cases v.k == 2 <;> cases v.k == 3 <;> simp [hi8_len] <;> omega
set_option maxHeartbeats 4000000 in
theorem one_c (k : UInt8) (i : Int) (t : List UInt8) (ht : t.length ≤ 1099511627776) : Fun Try.prog 50 [VD ⟨k, i, t⟩] (· = rdB (oneM ⟨k, i, t⟩)) := by
  refine Fun.of Try.func50 rfl (Nat.le_of_ble_eq_true rfl) fun C => ?_
  refine WC.seq fun Fh1_ h1_ => ?_
  refine WC.region ?_
  refine RG.op _ _ rfl rfl (o_box (d := .agg [_, _, _]) rfl rfl) ?_
  refine RG.op _ _ rfl rfl (o_assign (.v _) rfl) ?_
  refine RG.nil (h1_ _ ?_)
  refine WC.seq fun Fh2_ h2_ => ?_
  refine WC.region ?_
  refine RG.op _ _ rfl rfl (o_fld_ptr rfl Try.underlying41 rfl (sz_of Ty.inf5) (by decide)) ?_
  refine RG.op _ _ rfl rfl (o_load_ptr rfl Try.underlying5 rfl rfl rfl rfl) ?_
  refine RG.op _ _ rfl rfl (o_addB (b := 1) rfl rfl) ?_
  refine RG.op _ _ rfl rfl (o_litV (cs := [(.v _)]) 1 Try.underlying22 Ty.inf5 rfl rfl rfl rfl rfl rfl) ?_
  refine RG.op _ _ rfl rfl (o_assign (.own _ _ _ _ _) rfl) ?_
  refine RG.nil (h2_ _ ?_)
  refine WC.seq fun Fh3_ h3_ => ?_
  refine WC.seq fun Fh4_ h4_ => ?_
  refine WC.region ?_
  refine RG.op _ _ rfl rfl (o_fld_ptr rfl Try.underlying41 rfl (sz_of Ty.inf5) (by decide)) ?_
  refine RG.op _ _ rfl rfl (o_load_ptr rfl Try.underlying5 rfl rfl rfl rfl) ?_
  refine RG.nil (h4_ _ ?_)
  refine WC.block ?_
  refine WC.seq fun Fh5_ h5_ => ?_
  refine WC.region ?_
  refine RG.op _ _ rfl rfl (o_eqB (b := 1) rfl rfl) ?_
  refine RG.op _ _ rfl rfl (o_assign (.v _) rfl) ?_
  refine RG.nil (h5_ _ ?_)
  refine WC.cond _ rfl (fun c3 => ?_) (fun c3 => ?_)
  ·
    have p3 := c3
    try simp only [decide_eq_true_eq, decide_eq_false_iff_not, Bool.and_eq_true, Bool.or_eq_true, Bool.not_eq_true', Bool.not_eq_false', Bool.and_eq_false_iff, Bool.or_eq_false_iff, beq_iff_eq, bne_iff_ne, beq_eq_false_iff_ne, bne_eq_false_iff_eq, Int.not_lt, Int.not_le, ne_eq, Decidable.not_not] at p3
    refine WC.region ?_
    refine RG.op _ _ rfl rfl (o_move (.own _ _ _ _ _) rfl) ?_
    refine RG.op _ _ rfl rfl (o_fld_ptr rfl Try.underlying41 rfl (sz_of Ty.inf2) (by decide)) ?_
    refine RG.op _ _ rfl rfl (o_load_ptr rfl Try.underlying2 rfl rfl rfl rfl) ?_
    refine RG.op _ _ rfl rfl (o_ItoB rfl Try.underlying2 Try.underlying5) ?_
    refine RG.op _ _ rfl rfl (o_litP (cs := [(.v _)]) Try.underlying22 Ty.inf5 rfl rfl rfl rfl (by repeat (first | exact pu_bytes _ | exact pu_nil | exact pu_vs rfl | exact pu_map (fun _ => .v _) _ | exact pu_vals _ | refine pu_app ?_ ?_ | refine pu_cons (by first | exact .v _ | exact .rd _ _ | exact .adr _ | exact .mp _ _ | exact .agg _ (by repeat (first | exact pu_bytes _ | exact pu_nil | exact pu_vs rfl | exact pu_map (fun _ => .v _) _ | exact pu_vals _ | refine pu_app ?_ ?_ | refine pu_cons (by first | exact .v _ | exact .rd _ _ | exact .adr _ | exact .mp _ _ | exact .agg _ (pu_vs rfl)) ?_)) | exact .tup _ (by repeat (first | exact pu_bytes _ | exact pu_nil | exact pu_vs rfl | exact pu_map (fun _ => .v _) _ | exact pu_vals _ | refine pu_app ?_ ?_ | refine pu_cons (by first | exact .v _ | exact .rd _ _ | exact .adr _ | exact .mp _ _ | exact .agg _ (pu_vs rfl)) ?_)) | exact .fn _ _ (by repeat (first | exact pu_bytes _ | exact pu_nil | exact pu_vs rfl | exact pu_map (fun _ => .v _) _ | exact pu_vals _ | refine pu_app ?_ ?_ | refine pu_cons (by first | exact .v _ | exact .rd _ _ | exact .adr _ | exact .mp _ _ | exact .agg _ (pu_vs rfl)) ?_)) | exact .iface _ _ (.v _) | exact .iface _ _ (.agg _ (by repeat (first | exact pu_bytes _ | exact pu_nil | exact pu_vs rfl | exact pu_map (fun _ => .v _) _ | exact pu_vals _ | refine pu_app ?_ ?_ | refine pu_cons (by first | exact .v _ | exact .rd _ _ | exact .adr _ | exact .mp _ _ | exact .agg _ (pu_vs rfl)) ?_)))) ?_))) ?_
    refine RG.op _ _ rfl rfl (o_appT (Elem.of Try.underlying22 Ty.inf5 rfl (by decide)) rfl rfl rfl (by first | omega | exact ubyte _ | (simp only [bytesD_len, zeros_len, flatMap_len vc_len, List.length_append, List.length_take, List.length_drop, List.length_map, List.length_nil, List.length_cons, List.length_replicate, List.length_reverse, List.length_set, List.length_range, strB_size, hi8_len] <;> omega)) (by first | omega | exact ubyte _ | (simp only [bytesD_len, zeros_len, flatMap_len vc_len, List.length_append, List.length_take, List.length_drop, List.length_map, List.length_nil, List.length_cons, List.length_replicate, List.length_reverse, List.length_set, List.length_range, strB_size, hi8_len] <;> omega)) (by repeat (first | exact bytesD_one _ | exact one_nil | exact one_map (fun _ => rfl) _ | exact one_vals _ | refine one_app ?_ ?_ | refine one_cons rfl ?_)) (by first | omega | exact ubyte _ | (simp only [bytesD_len, zeros_len, flatMap_len vc_len, List.length_append, List.length_take, List.length_drop, List.length_map, List.length_nil, List.length_cons, List.length_replicate, List.length_reverse, List.length_set, List.length_range, strB_size, hi8_len] <;> omega)) (by first | omega | exact ubyte _ | (simp only [bytesD_len, zeros_len, flatMap_len vc_len, List.length_append, List.length_take, List.length_drop, List.length_map, List.length_nil, List.length_cons, List.length_replicate, List.length_reverse, List.length_set, List.length_range, strB_size, hi8_len] <;> omega))) ?_
    refine RG.op _ _ rfl rfl (o_assign (.own _ _ _ _ _) rfl) ?_
    refine RG.nil (h3_ _ ?_)
    refine WC.seq fun Fh6_ h6_ => ?_
    refine WC.region ?_
    refine RG.op _ _ rfl rfl (o_move (.own _ _ _ _ _) rfl) ?_
    refine RG.op _ _ rfl rfl (o_assign (.own _ _ _ _ _) rfl) ?_
    refine RG.nil (h6_ _ ?_)
    refine WC.ret ?_
    exact Ends.r1 rfl (.tmp _ (.own _ _ _ _ _) rfl) (.tb rfl (by repeat (first | exact pu_bytes _ | exact pu_nil | exact pu_vs rfl | exact pu_map (fun _ => .v _) _ | exact pu_vals _ | refine pu_app ?_ ?_ | refine pu_cons (by first | exact .v _ | exact .rd _ _ | exact .adr _ | exact .mp _ _ | exact .agg _ (by repeat (first | exact pu_bytes _ | exact pu_nil | exact pu_vs rfl | exact pu_map (fun _ => .v _) _ | exact pu_vals _ | refine pu_app ?_ ?_ | refine pu_cons (by first | exact .v _ | exact .rd _ _ | exact .adr _ | exact .mp _ _ | exact .agg _ (pu_vs rfl)) ?_)) | exact .tup _ (by repeat (first | exact pu_bytes _ | exact pu_nil | exact pu_vs rfl | exact pu_map (fun _ => .v _) _ | exact pu_vals _ | refine pu_app ?_ ?_ | refine pu_cons (by first | exact .v _ | exact .rd _ _ | exact .adr _ | exact .mp _ _ | exact .agg _ (pu_vs rfl)) ?_)) | exact .fn _ _ (by repeat (first | exact pu_bytes _ | exact pu_nil | exact pu_vs rfl | exact pu_map (fun _ => .v _) _ | exact pu_vals _ | refine pu_app ?_ ?_ | refine pu_cons (by first | exact .v _ | exact .rd _ _ | exact .adr _ | exact .mp _ _ | exact .agg _ (pu_vs rfl)) ?_)) | exact .iface _ _ (.v _) | exact .iface _ _ (.agg _ (by repeat (first | exact pu_bytes _ | exact pu_nil | exact pu_vs rfl | exact pu_map (fun _ => .v _) _ | exact pu_vals _ | refine pu_app ?_ ?_ | refine pu_cons (by first | exact .v _ | exact .rd _ _ | exact .adr _ | exact .mp _ _ | exact .agg _ (pu_vs rfl)) ?_)))) ?_))) (by have e3 : (k == 1) = true := c3; unfold oneM; simp only [e3, cond_true]; rfl)
  ·
    have p3 := c3
    try simp only [decide_eq_true_eq, decide_eq_false_iff_not, Bool.and_eq_true, Bool.or_eq_true, Bool.not_eq_true', Bool.not_eq_false', Bool.and_eq_false_iff, Bool.or_eq_false_iff, beq_iff_eq, bne_iff_ne, beq_eq_false_iff_ne, bne_eq_false_iff_eq, Int.not_lt, Int.not_le, ne_eq, Decidable.not_not] at p3
    refine WC.seq fun Fh7_ h7_ => ?_
    refine WC.region ?_
    refine RG.op _ _ rfl rfl (o_eqB (b := 2) rfl rfl) ?_
    refine RG.op _ _ rfl rfl (o_assign (.v _) rfl) ?_
    refine RG.nil (h7_ _ ?_)
    refine WC.cond _ rfl (fun c5 => ?_) (fun c5 => ?_)
    ·
      have p5 := c5
      try simp only [decide_eq_true_eq, decide_eq_false_iff_not, Bool.and_eq_true, Bool.or_eq_true, Bool.not_eq_true', Bool.not_eq_false', Bool.and_eq_false_iff, Bool.or_eq_false_iff, beq_iff_eq, bne_iff_ne, beq_eq_false_iff_ne, bne_eq_false_iff_eq, Int.not_lt, Int.not_le, ne_eq, Decidable.not_not] at p5
      refine WC.region ?_
      refine RG.op _ _ rfl rfl (o_move (.own _ _ _ _ _) rfl) ?_
      refine RG.op _ _ rfl rfl (o_fld_ptr rfl Try.underlying41 rfl (sz_of Ty.inf2) (by decide)) ?_
      refine RG.op _ _ rfl rfl (o_load_ptr rfl Try.underlying2 rfl rfl rfl rfl) ?_
      refine RG.op _ _ rfl rfl (o_i64toU rfl Try.underlying2 Try.underlying74) ?_
      refine RG.op _ _ rfl rfl (o_addU (b := 9223372036854775808) rfl rfl) ?_
      refine RG.op _ _ rfl rfl (o_call Ty.cal62 (high_c _ (by first | omega | exact ubyte _ | (simp only [bytesD_len, zeros_len, flatMap_len vc_len, List.length_append, List.length_take, List.length_drop, List.length_map, List.length_nil, List.length_cons, List.length_replicate, List.length_reverse, List.length_set, List.length_range, strB_size, hi8_len] <;> omega))) ⟨.inl rfl, trivial⟩ (by repeat (first | exact trivial | refine And.intro (by first | exact .v _ | exact .rd _ _ | exact .adr _ | exact .mp _ _ | exact .agg _ (by repeat (first | exact pu_bytes _ | exact pu_nil | exact pu_vs rfl | exact pu_map (fun _ => .v _) _ | exact pu_vals _ | refine pu_app ?_ ?_ | refine pu_cons (by first | exact .v _ | exact .rd _ _ | exact .adr _ | exact .mp _ _ | exact .agg _ (pu_vs rfl)) ?_)) | exact .tup _ (by repeat (first | exact pu_bytes _ | exact pu_nil | exact pu_vs rfl | exact pu_map (fun _ => .v _) _ | exact pu_vals _ | refine pu_app ?_ ?_ | refine pu_cons (by first | exact .v _ | exact .rd _ _ | exact .adr _ | exact .mp _ _ | exact .agg _ (pu_vs rfl)) ?_)) | exact .fn _ _ (by repeat (first | exact pu_bytes _ | exact pu_nil | exact pu_vs rfl | exact pu_map (fun _ => .v _) _ | exact pu_vals _ | refine pu_app ?_ ?_ | refine pu_cons (by first | exact .v _ | exact .rd _ _ | exact .adr _ | exact .mp _ _ | exact .agg _ (pu_vs rfl)) ?_)) | exact .iface _ _ (.v _) | exact .iface _ _ (.agg _ (by repeat (first | exact pu_bytes _ | exact pu_nil | exact pu_vs rfl | exact pu_map (fun _ => .v _) _ | exact pu_vals _ | refine pu_app ?_ ?_ | refine pu_cons (by first | exact .v _ | exact .rd _ _ | exact .adr _ | exact .mp _ _ | exact .agg _ (pu_vs rfl)) ?_)))) ?_))) ?_
      refine RG.op _ _ rfl rfl (o_appT (Elem.of Try.underlying22 Ty.inf5 rfl (by decide)) rfl rfl rfl (by first | omega | exact ubyte _ | (simp only [bytesD_len, zeros_len, flatMap_len vc_len, List.length_append, List.length_take, List.length_drop, List.length_map, List.length_nil, List.length_cons, List.length_replicate, List.length_reverse, List.length_set, List.length_range, strB_size, hi8_len] <;> omega)) (by first | omega | exact ubyte _ | (simp only [bytesD_len, zeros_len, flatMap_len vc_len, List.length_append, List.length_take, List.length_drop, List.length_map, List.length_nil, List.length_cons, List.length_replicate, List.length_reverse, List.length_set, List.length_range, strB_size, hi8_len] <;> omega)) (by repeat (first | exact bytesD_one _ | exact one_nil | exact one_map (fun _ => rfl) _ | exact one_vals _ | refine one_app ?_ ?_ | refine one_cons rfl ?_)) (by first | omega | exact ubyte _ | (simp only [bytesD_len, zeros_len, flatMap_len vc_len, List.length_append, List.length_take, List.length_drop, List.length_map, List.length_nil, List.length_cons, List.length_replicate, List.length_reverse, List.length_set, List.length_range, strB_size, hi8_len] <;> omega)) (by first | omega | exact ubyte _ | (simp only [bytesD_len, zeros_len, flatMap_len vc_len, List.length_append, List.length_take, List.length_drop, List.length_map, List.length_nil, List.length_cons, List.length_replicate, List.length_reverse, List.length_set, List.length_range, strB_size, hi8_len] <;> omega))) ?_
      refine RG.op _ _ rfl rfl (o_assign (.own _ _ _ _ _) rfl) ?_
      refine RG.nil (h3_ _ ?_)
      refine WC.seq fun Fh8_ h8_ => ?_
      refine WC.region ?_
      refine RG.op _ _ rfl rfl (o_move (.own _ _ _ _ _) rfl) ?_
      refine RG.op _ _ rfl rfl (o_assign (.own _ _ _ _ _) rfl) ?_
      refine RG.nil (h8_ _ ?_)
      refine WC.ret ?_
      exact Ends.r1 rfl (.tmp _ (.own _ _ _ _ _) rfl) (.tb rfl (by repeat (first | exact pu_bytes _ | exact pu_nil | exact pu_vs rfl | exact pu_map (fun _ => .v _) _ | exact pu_vals _ | refine pu_app ?_ ?_ | refine pu_cons (by first | exact .v _ | exact .rd _ _ | exact .adr _ | exact .mp _ _ | exact .agg _ (by repeat (first | exact pu_bytes _ | exact pu_nil | exact pu_vs rfl | exact pu_map (fun _ => .v _) _ | exact pu_vals _ | refine pu_app ?_ ?_ | refine pu_cons (by first | exact .v _ | exact .rd _ _ | exact .adr _ | exact .mp _ _ | exact .agg _ (pu_vs rfl)) ?_)) | exact .tup _ (by repeat (first | exact pu_bytes _ | exact pu_nil | exact pu_vs rfl | exact pu_map (fun _ => .v _) _ | exact pu_vals _ | refine pu_app ?_ ?_ | refine pu_cons (by first | exact .v _ | exact .rd _ _ | exact .adr _ | exact .mp _ _ | exact .agg _ (pu_vs rfl)) ?_)) | exact .fn _ _ (by repeat (first | exact pu_bytes _ | exact pu_nil | exact pu_vs rfl | exact pu_map (fun _ => .v _) _ | exact pu_vals _ | refine pu_app ?_ ?_ | refine pu_cons (by first | exact .v _ | exact .rd _ _ | exact .adr _ | exact .mp _ _ | exact .agg _ (pu_vs rfl)) ?_)) | exact .iface _ _ (.v _) | exact .iface _ _ (.agg _ (by repeat (first | exact pu_bytes _ | exact pu_nil | exact pu_vs rfl | exact pu_map (fun _ => .v _) _ | exact pu_vals _ | refine pu_app ?_ ?_ | refine pu_cons (by first | exact .v _ | exact .rd _ _ | exact .adr _ | exact .mp _ _ | exact .agg _ (pu_vs rfl)) ?_)))) ?_))) (by have e3 : (k == 1) = false := c3; have e5 : (k == 2) = true := c5; unfold oneM; simp only [e3, e5, cond_true, cond_false]; exact rd_eq (by simp only [List.length_cons]; omega) rfl)
    ·
      have p5 := c5
      try simp only [decide_eq_true_eq, decide_eq_false_iff_not, Bool.and_eq_true, Bool.or_eq_true, Bool.not_eq_true', Bool.not_eq_false', Bool.and_eq_false_iff, Bool.or_eq_false_iff, beq_iff_eq, bne_iff_ne, beq_eq_false_iff_ne, bne_eq_false_iff_eq, Int.not_lt, Int.not_le, ne_eq, Decidable.not_not] at p5
      refine WC.seq fun Fh9_ h9_ => ?_
      refine WC.region ?_
      refine RG.op _ _ rfl rfl (o_eqB (b := 3) rfl rfl) ?_
      refine RG.op _ _ rfl rfl (o_assign (.v _) rfl) ?_
      refine RG.nil (h9_ _ ?_)
      refine WC.cond _ rfl (fun c7 => ?_) (fun c7 => ?_)
      ·
        have p7 := c7
        try simp only [decide_eq_true_eq, decide_eq_false_iff_not, Bool.and_eq_true, Bool.or_eq_true, Bool.not_eq_true', Bool.not_eq_false', Bool.and_eq_false_iff, Bool.or_eq_false_iff, beq_iff_eq, bne_iff_ne, beq_eq_false_iff_ne, bne_eq_false_iff_eq, Int.not_lt, Int.not_le, ne_eq, Decidable.not_not] at p7
        refine WC.seq fun Fh10_ h10_ => ?_
        refine WC.seq fun Fh11_ h11_ => ?_
        refine WC.region ?_
        refine RG.op _ _ rfl rfl (o_assign (.v _) rfl) ?_
        refine RG.nil (h11_ _ ?_)
        refine WC.block ?_
        refine WC.loopU [3, 4, 30, 31, 32, 33, 34, 35, 36, 37, 38, 39, 40, 41, 42, 43, 44, 45, 46, 47, 48, 49, 50, 51] (fun (m : Nat) => [(4, I64 ((m : Nat) : Int)), (3, ow 1 (1 + (escM (t.take m)).length) 1)]) (fun (m : Nat) => [(1, tb 5 (1 + (escM (t.take m)).length) (B8 (k + 1) :: bytesD (escM (t.take m))))]) (fun (m : Nat) => m ≤ t.length) (fun (m : Nat) => t.length - m) 0 (by first | omega | exact ubyte _ | (simp only [bytesD_len, zeros_len, flatMap_len vc_len, List.length_append, List.length_take, List.length_drop, List.length_map, List.length_nil, List.length_cons, List.length_replicate, List.length_reverse, List.length_set, List.length_range, strB_size, hi8_len] <;> omega)) ?lpa12_ ?lpb13_
        case lpa12_ =>
          exact .mk' ⟨⟨rfl, .v _⟩, ⟨ow_eq (by simp [escM]), (by first | exact .own _ _ _ _ _ (Nat.le_refl _) | exact .ptr _ _ _ (Nat.le_refl _) | exact .omp _ _ (Nat.le_refl _))⟩, trivial⟩ (same_refl _ _) (congrArg (fun c => [some _, c]) (tb_eq (by simp [escM]) (by simp [escM, bytesD]))) (by repeat (first | exact trivial | refine And.intro (Nat.le_refl _) ?_ | refine And.intro trivial ?_ | refine And.intro (by show _ ≤ _; (first | omega | (simp only [bytesD_len, zeros_len, flatMap_len vc_len, List.length_append, List.length_take, List.length_drop, List.length_map, List.length_nil, List.length_cons, List.length_replicate, List.length_reverse, List.length_set, List.length_range, strB_size, hi8_len] <;> omega))) ?_)) (by repeat (first | exact trivial | refine And.intro (okp (by repeat (first | exact pu_bytes _ | exact pu_nil | exact pu_vs rfl | exact pu_map (fun _ => .v _) _ | exact pu_vals _ | refine pu_app ?_ ?_ | refine pu_cons (by first | exact .v _ | exact .rd _ _ | exact .adr _ | exact .mp _ _ | exact .agg _ (by repeat (first | exact pu_bytes _ | exact pu_nil | exact pu_vs rfl | exact pu_map (fun _ => .v _) _ | exact pu_vals _ | refine pu_app ?_ ?_ | refine pu_cons (by first | exact .v _ | exact .rd _ _ | exact .adr _ | exact .mp _ _ | exact .agg _ (pu_vs rfl)) ?_)) | exact .tup _ (by repeat (first | exact pu_bytes _ | exact pu_nil | exact pu_vs rfl | exact pu_map (fun _ => .v _) _ | exact pu_vals _ | refine pu_app ?_ ?_ | refine pu_cons (by first | exact .v _ | exact .rd _ _ | exact .adr _ | exact .mp _ _ | exact .agg _ (pu_vs rfl)) ?_)) | exact .fn _ _ (by repeat (first | exact pu_bytes _ | exact pu_nil | exact pu_vs rfl | exact pu_map (fun _ => .v _) _ | exact pu_vals _ | refine pu_app ?_ ?_ | refine pu_cons (by first | exact .v _ | exact .rd _ _ | exact .adr _ | exact .mp _ _ | exact .agg _ (pu_vs rfl)) ?_)) | exact .iface _ _ (.v _) | exact .iface _ _ (.agg _ (by repeat (first | exact pu_bytes _ | exact pu_nil | exact pu_vs rfl | exact pu_map (fun _ => .v _) _ | exact pu_vals _ | refine pu_app ?_ ?_ | refine pu_cons (by first | exact .v _ | exact .rd _ _ | exact .adr _ | exact .mp _ _ | exact .agg _ (pu_vs rfl)) ?_)))) ?_))) ?_))
        case lpb13_ =>
          rintro m hI
          have hm := escM_len (t.take m)
          rw [List.length_take] at hm
          refine WC.seq fun Fh14_ h14_ => ?_
          refine WC.seq fun Fh15_ h15_ => ?_
          refine WC.region ?_
          refine RG.op _ _ rfl rfl (o_move (.v _) rfl) ?_
          refine RG.op _ _ rfl rfl (o_fld_ptr rfl Try.underlying41 rfl (sz_of Ty.inf9) (by decide)) ?_
          refine RG.op _ _ rfl rfl (o_load_ptr rfl Try.underlying9 rfl rfl rfl rfl) ?_
          refine RG.op _ _ rfl rfl (o_lenS rfl Try.underlying9) ?_
          refine RG.op _ _ rfl rfl (o_ltI rfl rfl) ?_
          refine RG.nil (h15_ _ ?_)
          refine WC.cond _ rfl (fun c9 => ?_) (fun c9 => ?_)
          ·
            have p9 := c9
            try simp only [decide_eq_true_eq, decide_eq_false_iff_not, Bool.and_eq_true, Bool.or_eq_true, Bool.not_eq_true', Bool.not_eq_false', Bool.and_eq_false_iff, Bool.or_eq_false_iff, beq_iff_eq, bne_iff_ne, beq_eq_false_iff_ne, bne_eq_false_iff_eq, Int.not_lt, Int.not_le, ne_eq, Decidable.not_not] at p9
            have hmt : m < t.length := by omega
            refine WC.skip (h14_ _ ?_)
            refine WC.seq fun Fh16_ h16_ => ?_
            refine WC.block ?_
            refine WC.seq fun Fh17_ h17_ => ?_
            refine WC.region ?_
            refine RG.op _ _ rfl rfl (o_move (.own _ _ _ _ _) rfl) ?_
            refine RG.op _ _ rfl rfl (o_fld_ptr rfl Try.underlying41 rfl (sz_of Ty.inf9) (by decide)) ?_
            refine RG.op _ _ rfl rfl (o_load_ptr rfl Try.underlying9 rfl rfl rfl rfl) ?_
            refine RG.op _ _ rfl rfl (o_move (.v _) rfl) ?_
            refine RG.op _ _ rfl rfl (o_ixS m rfl rfl Try.underlying9 (by first | omega | exact ubyte _ | (simp only [bytesD_len, zeros_len, flatMap_len vc_len, List.length_append, List.length_take, List.length_drop, List.length_map, List.length_nil, List.length_cons, List.length_replicate, List.length_reverse, List.length_set, List.length_range, strB_size, hi8_len] <;> omega)) (by first | omega | exact ubyte _ | (simp only [bytesD_len, zeros_len, flatMap_len vc_len, List.length_append, List.length_take, List.length_drop, List.length_map, List.length_nil, List.length_cons, List.length_replicate, List.length_reverse, List.length_set, List.length_range, strB_size, hi8_len] <;> omega))) ?_
            refine RG.op _ _ rfl rfl (o_litP (cs := [(.v _)]) Try.underlying22 Ty.inf5 rfl rfl rfl rfl (by repeat (first | exact pu_bytes _ | exact pu_nil | exact pu_vs rfl | exact pu_map (fun _ => .v _) _ | exact pu_vals _ | refine pu_app ?_ ?_ | refine pu_cons (by first | exact .v _ | exact .rd _ _ | exact .adr _ | exact .mp _ _ | exact .agg _ (by repeat (first | exact pu_bytes _ | exact pu_nil | exact pu_vs rfl | exact pu_map (fun _ => .v _) _ | exact pu_vals _ | refine pu_app ?_ ?_ | refine pu_cons (by first | exact .v _ | exact .rd _ _ | exact .adr _ | exact .mp _ _ | exact .agg _ (pu_vs rfl)) ?_)) | exact .tup _ (by repeat (first | exact pu_bytes _ | exact pu_nil | exact pu_vs rfl | exact pu_map (fun _ => .v _) _ | exact pu_vals _ | refine pu_app ?_ ?_ | refine pu_cons (by first | exact .v _ | exact .rd _ _ | exact .adr _ | exact .mp _ _ | exact .agg _ (pu_vs rfl)) ?_)) | exact .fn _ _ (by repeat (first | exact pu_bytes _ | exact pu_nil | exact pu_vs rfl | exact pu_map (fun _ => .v _) _ | exact pu_vals _ | refine pu_app ?_ ?_ | refine pu_cons (by first | exact .v _ | exact .rd _ _ | exact .adr _ | exact .mp _ _ | exact .agg _ (pu_vs rfl)) ?_)) | exact .iface _ _ (.v _) | exact .iface _ _ (.agg _ (by repeat (first | exact pu_bytes _ | exact pu_nil | exact pu_vs rfl | exact pu_map (fun _ => .v _) _ | exact pu_vals _ | refine pu_app ?_ ?_ | refine pu_cons (by first | exact .v _ | exact .rd _ _ | exact .adr _ | exact .mp _ _ | exact .agg _ (pu_vs rfl)) ?_)))) ?_))) ?_
            refine RG.op _ _ rfl rfl (o_appT (Elem.of Try.underlying22 Ty.inf5 rfl (by decide)) rfl rfl rfl (by first | omega | exact ubyte _ | (simp only [bytesD_len, zeros_len, flatMap_len vc_len, List.length_append, List.length_take, List.length_drop, List.length_map, List.length_nil, List.length_cons, List.length_replicate, List.length_reverse, List.length_set, List.length_range, strB_size, hi8_len] <;> omega)) (by first | omega | exact ubyte _ | (simp only [bytesD_len, zeros_len, flatMap_len vc_len, List.length_append, List.length_take, List.length_drop, List.length_map, List.length_nil, List.length_cons, List.length_replicate, List.length_reverse, List.length_set, List.length_range, strB_size, hi8_len] <;> omega)) (by repeat (first | exact bytesD_one _ | exact one_nil | exact one_map (fun _ => rfl) _ | exact one_vals _ | refine one_app ?_ ?_ | refine one_cons rfl ?_)) (by first | omega | exact ubyte _ | (simp only [bytesD_len, zeros_len, flatMap_len vc_len, List.length_append, List.length_take, List.length_drop, List.length_map, List.length_nil, List.length_cons, List.length_replicate, List.length_reverse, List.length_set, List.length_range, strB_size, hi8_len] <;> omega)) (by first | omega | exact ubyte _ | (simp only [bytesD_len, zeros_len, flatMap_len vc_len, List.length_append, List.length_take, List.length_drop, List.length_map, List.length_nil, List.length_cons, List.length_replicate, List.length_reverse, List.length_set, List.length_range, strB_size, hi8_len] <;> omega))) ?_
            refine RG.op _ _ rfl rfl (o_assign (.own _ _ _ _ _) rfl) ?_
            refine RG.nil (h17_ _ ?_)
            refine WC.seq fun Fh18_ h18_ => ?_
            refine WC.region ?_
            refine RG.op _ _ rfl rfl (o_fld_ptr rfl Try.underlying41 rfl (sz_of Ty.inf9) (by decide)) ?_
            refine RG.op _ _ rfl rfl (o_load_ptr rfl Try.underlying9 rfl rfl rfl rfl) ?_
            refine RG.op _ _ rfl rfl (o_move (.v _) rfl) ?_
            refine RG.op _ _ rfl rfl (o_ixS m rfl rfl Try.underlying9 (by first | omega | exact ubyte _ | (simp only [bytesD_len, zeros_len, flatMap_len vc_len, List.length_append, List.length_take, List.length_drop, List.length_map, List.length_nil, List.length_cons, List.length_replicate, List.length_reverse, List.length_set, List.length_range, strB_size, hi8_len] <;> omega)) (by first | omega | exact ubyte _ | (simp only [bytesD_len, zeros_len, flatMap_len vc_len, List.length_append, List.length_take, List.length_drop, List.length_map, List.length_nil, List.length_cons, List.length_replicate, List.length_reverse, List.length_set, List.length_range, strB_size, hi8_len] <;> omega))) ?_
            refine RG.op _ _ rfl rfl (o_eqB (b := 0) rfl rfl) ?_
            refine RG.nil (h18_ _ ?_)
            refine WC.cond _ rfl (fun c12 => ?_) (fun c12 => ?_)
            ·
              have p12 := c12
              try simp only [decide_eq_true_eq, decide_eq_false_iff_not, Bool.and_eq_true, Bool.or_eq_true, Bool.not_eq_true', Bool.not_eq_false', Bool.and_eq_false_iff, Bool.or_eq_false_iff, beq_iff_eq, bne_iff_ne, beq_eq_false_iff_ne, bne_eq_false_iff_eq, Int.not_lt, Int.not_le, ne_eq, Decidable.not_not] at p12
              refine WC.region ?_
              refine RG.op _ _ rfl rfl (o_move (.own _ _ _ _ _) rfl) ?_
              refine RG.op _ _ rfl rfl (o_litP (cs := [(B8 255)]) Try.underlying22 Ty.inf5 rfl rfl rfl rfl (by repeat (first | exact pu_bytes _ | exact pu_nil | exact pu_vs rfl | exact pu_map (fun _ => .v _) _ | exact pu_vals _ | refine pu_app ?_ ?_ | refine pu_cons (by first | exact .v _ | exact .rd _ _ | exact .adr _ | exact .mp _ _ | exact .agg _ (by repeat (first | exact pu_bytes _ | exact pu_nil | exact pu_vs rfl | exact pu_map (fun _ => .v _) _ | exact pu_vals _ | refine pu_app ?_ ?_ | refine pu_cons (by first | exact .v _ | exact .rd _ _ | exact .adr _ | exact .mp _ _ | exact .agg _ (pu_vs rfl)) ?_)) | exact .tup _ (by repeat (first | exact pu_bytes _ | exact pu_nil | exact pu_vs rfl | exact pu_map (fun _ => .v _) _ | exact pu_vals _ | refine pu_app ?_ ?_ | refine pu_cons (by first | exact .v _ | exact .rd _ _ | exact .adr _ | exact .mp _ _ | exact .agg _ (pu_vs rfl)) ?_)) | exact .fn _ _ (by repeat (first | exact pu_bytes _ | exact pu_nil | exact pu_vs rfl | exact pu_map (fun _ => .v _) _ | exact pu_vals _ | refine pu_app ?_ ?_ | refine pu_cons (by first | exact .v _ | exact .rd _ _ | exact .adr _ | exact .mp _ _ | exact .agg _ (pu_vs rfl)) ?_)) | exact .iface _ _ (.v _) | exact .iface _ _ (.agg _ (by repeat (first | exact pu_bytes _ | exact pu_nil | exact pu_vs rfl | exact pu_map (fun _ => .v _) _ | exact pu_vals _ | refine pu_app ?_ ?_ | refine pu_cons (by first | exact .v _ | exact .rd _ _ | exact .adr _ | exact .mp _ _ | exact .agg _ (pu_vs rfl)) ?_)))) ?_))) ?_
              refine RG.op _ _ rfl rfl (o_appT (Elem.of Try.underlying22 Ty.inf5 rfl (by decide)) rfl rfl rfl (by first | omega | exact ubyte _ | (simp only [bytesD_len, zeros_len, flatMap_len vc_len, List.length_append, List.length_take, List.length_drop, List.length_map, List.length_nil, List.length_cons, List.length_replicate, List.length_reverse, List.length_set, List.length_range, strB_size, hi8_len] <;> omega)) (by first | omega | exact ubyte _ | (simp only [bytesD_len, zeros_len, flatMap_len vc_len, List.length_append, List.length_take, List.length_drop, List.length_map, List.length_nil, List.length_cons, List.length_replicate, List.length_reverse, List.length_set, List.length_range, strB_size, hi8_len] <;> omega)) (by repeat (first | exact bytesD_one _ | exact one_nil | exact one_map (fun _ => rfl) _ | exact one_vals _ | refine one_app ?_ ?_ | refine one_cons rfl ?_)) (by first | omega | exact ubyte _ | (simp only [bytesD_len, zeros_len, flatMap_len vc_len, List.length_append, List.length_take, List.length_drop, List.length_map, List.length_nil, List.length_cons, List.length_replicate, List.length_reverse, List.length_set, List.length_range, strB_size, hi8_len] <;> omega)) (by first | omega | exact ubyte _ | (simp only [bytesD_len, zeros_len, flatMap_len vc_len, List.length_append, List.length_take, List.length_drop, List.length_map, List.length_nil, List.length_cons, List.length_replicate, List.length_reverse, List.length_set, List.length_range, strB_size, hi8_len] <;> omega))) ?_
              refine RG.op _ _ rfl rfl (o_assign (.own _ _ _ _ _) rfl) ?_
              refine RG.nil (h16_ _ ?_)
              refine WC.region ?_
              refine RG.op _ _ rfl rfl (o_move (.v _) rfl) ?_
              refine RG.op _ _ rfl rfl (o_add rfl rfl (by first | omega | exact ubyte _ | (simp only [bytesD_len, zeros_len, flatMap_len vc_len, List.length_append, List.length_take, List.length_drop, List.length_map, List.length_nil, List.length_cons, List.length_replicate, List.length_reverse, List.length_set, List.length_range, strB_size, hi8_len] <;> omega)) (by first | omega | exact ubyte _ | (simp only [bytesD_len, zeros_len, flatMap_len vc_len, List.length_append, List.length_take, List.length_drop, List.length_map, List.length_nil, List.length_cons, List.length_replicate, List.length_reverse, List.length_set, List.length_range, strB_size, hi8_len] <;> omega))) ?_
              refine RG.op _ _ rfl rfl (o_assign (.v _) rfl) ?_
              refine RG.nil (Exists.intro (m + 1) ⟨by first | omega | (simp only [bytesD_len, zeros_len, flatMap_len vc_len, List.length_append, List.length_take, List.length_drop, List.length_map, List.length_nil, List.length_cons, List.length_replicate, List.length_reverse, List.length_set, List.length_range, strB_size, hi8_len] <;> omega), by first | omega | (simp only [bytesD_len, zeros_len, flatMap_len vc_len, List.length_append, List.length_take, List.length_drop, List.length_map, List.length_nil, List.length_cons, List.length_replicate, List.length_reverse, List.length_set, List.length_range, strB_size, hi8_len] <;> omega), ?_⟩)
              exact .mk' ⟨⟨rfl, .v _⟩, ⟨ow_eq (by rw [esc_step hmt, esc1, show (t[m] == 0) = true from c12, List.length_append]; simp only [cond_true, List.length_cons, List.length_nil]; omega), (by first | exact .own _ _ _ _ _ (Nat.le_refl _) | exact .ptr _ _ _ (Nat.le_refl _) | exact .omp _ _ (Nat.le_refl _))⟩, trivial⟩ (by repeat (first | with_reducible exact same_refl _ _ | with_reducible refine same_updO (by with_unfolding_all exact rfl) ?_ | with_reducible refine same_updN ?_ | with_reducible refine same_updL (by with_unfolding_all exact rfl) ?_ | with_reducible refine same_forget (by with_unfolding_all exact rfl) ?_)) (congrArg (fun c => [some _, c]) (tb_eq (by rw [esc_step hmt, esc1, show (t[m] == 0) = true from c12, List.length_append]; simp only [cond_true, List.length_cons, List.length_nil]; omega) (by rw [esc_step hmt, esc1, show (t[m] == 0) = true from c12, bytesD_app]; have e : t[m] = 0 := p12; simp [bytesD, e]))) (by repeat (first | exact trivial | refine And.intro (Nat.le_refl _) ?_ | refine And.intro trivial ?_ | refine And.intro (by show _ ≤ _; (first | omega | (simp only [bytesD_len, zeros_len, flatMap_len vc_len, List.length_append, List.length_take, List.length_drop, List.length_map, List.length_nil, List.length_cons, List.length_replicate, List.length_reverse, List.length_set, List.length_range, strB_size, hi8_len] <;> omega))) ?_)) (by repeat (first | exact trivial | refine And.intro (okp (by repeat (first | exact pu_bytes _ | exact pu_nil | exact pu_vs rfl | exact pu_map (fun _ => .v _) _ | exact pu_vals _ | refine pu_app ?_ ?_ | refine pu_cons (by first | exact .v _ | exact .rd _ _ | exact .adr _ | exact .mp _ _ | exact .agg _ (by repeat (first | exact pu_bytes _ | exact pu_nil | exact pu_vs rfl | exact pu_map (fun _ => .v _) _ | exact pu_vals _ | refine pu_app ?_ ?_ | refine pu_cons (by first | exact .v _ | exact .rd _ _ | exact .adr _ | exact .mp _ _ | exact .agg _ (pu_vs rfl)) ?_)) | exact .tup _ (by repeat (first | exact pu_bytes _ | exact pu_nil | exact pu_vs rfl | exact pu_map (fun _ => .v _) _ | exact pu_vals _ | refine pu_app ?_ ?_ | refine pu_cons (by first | exact .v _ | exact .rd _ _ | exact .adr _ | exact .mp _ _ | exact .agg _ (pu_vs rfl)) ?_)) | exact .fn _ _ (by repeat (first | exact pu_bytes _ | exact pu_nil | exact pu_vs rfl | exact pu_map (fun _ => .v _) _ | exact pu_vals _ | refine pu_app ?_ ?_ | refine pu_cons (by first | exact .v _ | exact .rd _ _ | exact .adr _ | exact .mp _ _ | exact .agg _ (pu_vs rfl)) ?_)) | exact .iface _ _ (.v _) | exact .iface _ _ (.agg _ (by repeat (first | exact pu_bytes _ | exact pu_nil | exact pu_vs rfl | exact pu_map (fun _ => .v _) _ | exact pu_vals _ | refine pu_app ?_ ?_ | refine pu_cons (by first | exact .v _ | exact .rd _ _ | exact .adr _ | exact .mp _ _ | exact .agg _ (pu_vs rfl)) ?_)))) ?_))) ?_))
            ·
              have p12 := c12
              try simp only [decide_eq_true_eq, decide_eq_false_iff_not, Bool.and_eq_true, Bool.or_eq_true, Bool.not_eq_true', Bool.not_eq_false', Bool.and_eq_false_iff, Bool.or_eq_false_iff, beq_iff_eq, bne_iff_ne, beq_eq_false_iff_ne, bne_eq_false_iff_eq, Int.not_lt, Int.not_le, ne_eq, Decidable.not_not] at p12
              refine WC.skip (h16_ _ ?_)
              refine WC.region ?_
              refine RG.op _ _ rfl rfl (o_move (.v _) rfl) ?_
              refine RG.op _ _ rfl rfl (o_add rfl rfl (by first | omega | exact ubyte _ | (simp only [bytesD_len, zeros_len, flatMap_len vc_len, List.length_append, List.length_take, List.length_drop, List.length_map, List.length_nil, List.length_cons, List.length_replicate, List.length_reverse, List.length_set, List.length_range, strB_size, hi8_len] <;> omega)) (by first | omega | exact ubyte _ | (simp only [bytesD_len, zeros_len, flatMap_len vc_len, List.length_append, List.length_take, List.length_drop, List.length_map, List.length_nil, List.length_cons, List.length_replicate, List.length_reverse, List.length_set, List.length_range, strB_size, hi8_len] <;> omega))) ?_
              refine RG.op _ _ rfl rfl (o_assign (.v _) rfl) ?_
              refine RG.nil (Exists.intro (m + 1) ⟨by first | omega | (simp only [bytesD_len, zeros_len, flatMap_len vc_len, List.length_append, List.length_take, List.length_drop, List.length_map, List.length_nil, List.length_cons, List.length_replicate, List.length_reverse, List.length_set, List.length_range, strB_size, hi8_len] <;> omega), by first | omega | (simp only [bytesD_len, zeros_len, flatMap_len vc_len, List.length_append, List.length_take, List.length_drop, List.length_map, List.length_nil, List.length_cons, List.length_replicate, List.length_reverse, List.length_set, List.length_range, strB_size, hi8_len] <;> omega), ?_⟩)
              exact .mk' ⟨⟨rfl, .v _⟩, ⟨ow_eq (by rw [esc_step hmt, esc1, show (t[m] == 0) = false from c12, List.length_append]; simp only [cond_false, List.length_cons, List.length_nil]; omega), (by first | exact .own _ _ _ _ _ (Nat.le_refl _) | exact .ptr _ _ _ (Nat.le_refl _) | exact .omp _ _ (Nat.le_refl _))⟩, trivial⟩ (by repeat (first | with_reducible exact same_refl _ _ | with_reducible refine same_updO (by with_unfolding_all exact rfl) ?_ | with_reducible refine same_updN ?_ | with_reducible refine same_updL (by with_unfolding_all exact rfl) ?_ | with_reducible refine same_forget (by with_unfolding_all exact rfl) ?_)) (congrArg (fun c => [some _, c]) (tb_eq (by rw [esc_step hmt, esc1, show (t[m] == 0) = false from c12, List.length_append]; simp only [cond_false, List.length_cons, List.length_nil]; omega) (by rw [esc_step hmt, esc1, show (t[m] == 0) = false from c12, bytesD_app]; rfl))) (by repeat (first | exact trivial | refine And.intro (Nat.le_refl _) ?_ | refine And.intro trivial ?_ | refine And.intro (by show _ ≤ _; (first | omega | (simp only [bytesD_len, zeros_len, flatMap_len vc_len, List.length_append, List.length_take, List.length_drop, List.length_map, List.length_nil, List.length_cons, List.length_replicate, List.length_reverse, List.length_set, List.length_range, strB_size, hi8_len] <;> omega))) ?_)) (by repeat (first | exact trivial | refine And.intro (okp (by repeat (first | exact pu_bytes _ | exact pu_nil | exact pu_vs rfl | exact pu_map (fun _ => .v _) _ | exact pu_vals _ | refine pu_app ?_ ?_ | refine pu_cons (by first | exact .v _ | exact .rd _ _ | exact .adr _ | exact .mp _ _ | exact .agg _ (by repeat (first | exact pu_bytes _ | exact pu_nil | exact pu_vs rfl | exact pu_map (fun _ => .v _) _ | exact pu_vals _ | refine pu_app ?_ ?_ | refine pu_cons (by first | exact .v _ | exact .rd _ _ | exact .adr _ | exact .mp _ _ | exact .agg _ (pu_vs rfl)) ?_)) | exact .tup _ (by repeat (first | exact pu_bytes _ | exact pu_nil | exact pu_vs rfl | exact pu_map (fun _ => .v _) _ | exact pu_vals _ | refine pu_app ?_ ?_ | refine pu_cons (by first | exact .v _ | exact .rd _ _ | exact .adr _ | exact .mp _ _ | exact .agg _ (pu_vs rfl)) ?_)) | exact .fn _ _ (by repeat (first | exact pu_bytes _ | exact pu_nil | exact pu_vs rfl | exact pu_map (fun _ => .v _) _ | exact pu_vals _ | refine pu_app ?_ ?_ | refine pu_cons (by first | exact .v _ | exact .rd _ _ | exact .adr _ | exact .mp _ _ | exact .agg _ (pu_vs rfl)) ?_)) | exact .iface _ _ (.v _) | exact .iface _ _ (.agg _ (by repeat (first | exact pu_bytes _ | exact pu_nil | exact pu_vs rfl | exact pu_map (fun _ => .v _) _ | exact pu_vals _ | refine pu_app ?_ ?_ | refine pu_cons (by first | exact .v _ | exact .rd _ _ | exact .adr _ | exact .mp _ _ | exact .agg _ (pu_vs rfl)) ?_)))) ?_))) ?_))
          ·
            have p9 := c9
            try simp only [decide_eq_true_eq, decide_eq_false_iff_not, Bool.and_eq_true, Bool.or_eq_true, Bool.not_eq_true', Bool.not_eq_false', Bool.and_eq_false_iff, Bool.or_eq_false_iff, beq_iff_eq, bne_iff_ne, beq_eq_false_iff_ne, bne_eq_false_iff_eq, Int.not_lt, Int.not_le, ne_eq, Decidable.not_not] at p9
            refine WC.exit (h10_ _ ?_)
            refine WC.region ?_
            refine RG.op _ _ rfl rfl (o_move (.own _ _ _ _ _) rfl) ?_
            refine RG.op _ _ rfl rfl (o_litP (cs := [(B8 0), (B8 1)]) Try.underlying22 Ty.inf5 rfl rfl rfl rfl (by repeat (first | exact pu_bytes _ | exact pu_nil | exact pu_vs rfl | exact pu_map (fun _ => .v _) _ | exact pu_vals _ | refine pu_app ?_ ?_ | refine pu_cons (by first | exact .v _ | exact .rd _ _ | exact .adr _ | exact .mp _ _ | exact .agg _ (by repeat (first | exact pu_bytes _ | exact pu_nil | exact pu_vs rfl | exact pu_map (fun _ => .v _) _ | exact pu_vals _ | refine pu_app ?_ ?_ | refine pu_cons (by first | exact .v _ | exact .rd _ _ | exact .adr _ | exact .mp _ _ | exact .agg _ (pu_vs rfl)) ?_)) | exact .tup _ (by repeat (first | exact pu_bytes _ | exact pu_nil | exact pu_vs rfl | exact pu_map (fun _ => .v _) _ | exact pu_vals _ | refine pu_app ?_ ?_ | refine pu_cons (by first | exact .v _ | exact .rd _ _ | exact .adr _ | exact .mp _ _ | exact .agg _ (pu_vs rfl)) ?_)) | exact .fn _ _ (by repeat (first | exact pu_bytes _ | exact pu_nil | exact pu_vs rfl | exact pu_map (fun _ => .v _) _ | exact pu_vals _ | refine pu_app ?_ ?_ | refine pu_cons (by first | exact .v _ | exact .rd _ _ | exact .adr _ | exact .mp _ _ | exact .agg _ (pu_vs rfl)) ?_)) | exact .iface _ _ (.v _) | exact .iface _ _ (.agg _ (by repeat (first | exact pu_bytes _ | exact pu_nil | exact pu_vs rfl | exact pu_map (fun _ => .v _) _ | exact pu_vals _ | refine pu_app ?_ ?_ | refine pu_cons (by first | exact .v _ | exact .rd _ _ | exact .adr _ | exact .mp _ _ | exact .agg _ (pu_vs rfl)) ?_)))) ?_))) ?_
            refine RG.op _ _ rfl rfl (o_appT (Elem.of Try.underlying22 Ty.inf5 rfl (by decide)) rfl rfl rfl (by first | omega | exact ubyte _ | (simp only [bytesD_len, zeros_len, flatMap_len vc_len, List.length_append, List.length_take, List.length_drop, List.length_map, List.length_nil, List.length_cons, List.length_replicate, List.length_reverse, List.length_set, List.length_range, strB_size, hi8_len] <;> omega)) (by first | omega | exact ubyte _ | (simp only [bytesD_len, zeros_len, flatMap_len vc_len, List.length_append, List.length_take, List.length_drop, List.length_map, List.length_nil, List.length_cons, List.length_replicate, List.length_reverse, List.length_set, List.length_range, strB_size, hi8_len] <;> omega)) (by repeat (first | exact bytesD_one _ | exact one_nil | exact one_map (fun _ => rfl) _ | exact one_vals _ | refine one_app ?_ ?_ | refine one_cons rfl ?_)) (by first | omega | exact ubyte _ | (simp only [bytesD_len, zeros_len, flatMap_len vc_len, List.length_append, List.length_take, List.length_drop, List.length_map, List.length_nil, List.length_cons, List.length_replicate, List.length_reverse, List.length_set, List.length_range, strB_size, hi8_len] <;> omega)) (by first | omega | exact ubyte _ | (simp only [bytesD_len, zeros_len, flatMap_len vc_len, List.length_append, List.length_take, List.length_drop, List.length_map, List.length_nil, List.length_cons, List.length_replicate, List.length_reverse, List.length_set, List.length_range, strB_size, hi8_len] <;> omega))) ?_
            refine RG.op _ _ rfl rfl (o_assign (.own _ _ _ _ _) rfl) ?_
            refine RG.nil (h3_ _ ?_)
            refine WC.seq fun Fh19_ h19_ => ?_
            refine WC.region ?_
            refine RG.op _ _ rfl rfl (o_move (.own _ _ _ _ _) rfl) ?_
            refine RG.op _ _ rfl rfl (o_assign (.own _ _ _ _ _) rfl) ?_
            refine RG.nil (h19_ _ ?_)
            refine WC.ret ?_
            exact Ends.r1 rfl (.tmp _ (.own _ _ _ _ _) rfl) (.tb rfl (by repeat (first | exact pu_bytes _ | exact pu_nil | exact pu_vs rfl | exact pu_map (fun _ => .v _) _ | exact pu_vals _ | refine pu_app ?_ ?_ | refine pu_cons (by first | exact .v _ | exact .rd _ _ | exact .adr _ | exact .mp _ _ | exact .agg _ (by repeat (first | exact pu_bytes _ | exact pu_nil | exact pu_vs rfl | exact pu_map (fun _ => .v _) _ | exact pu_vals _ | refine pu_app ?_ ?_ | refine pu_cons (by first | exact .v _ | exact .rd _ _ | exact .adr _ | exact .mp _ _ | exact .agg _ (pu_vs rfl)) ?_)) | exact .tup _ (by repeat (first | exact pu_bytes _ | exact pu_nil | exact pu_vs rfl | exact pu_map (fun _ => .v _) _ | exact pu_vals _ | refine pu_app ?_ ?_ | refine pu_cons (by first | exact .v _ | exact .rd _ _ | exact .adr _ | exact .mp _ _ | exact .agg _ (pu_vs rfl)) ?_)) | exact .fn _ _ (by repeat (first | exact pu_bytes _ | exact pu_nil | exact pu_vs rfl | exact pu_map (fun _ => .v _) _ | exact pu_vals _ | refine pu_app ?_ ?_ | refine pu_cons (by first | exact .v _ | exact .rd _ _ | exact .adr _ | exact .mp _ _ | exact .agg _ (pu_vs rfl)) ?_)) | exact .iface _ _ (.v _) | exact .iface _ _ (.agg _ (by repeat (first | exact pu_bytes _ | exact pu_nil | exact pu_vs rfl | exact pu_map (fun _ => .v _) _ | exact pu_vals _ | refine pu_app ?_ ?_ | refine pu_cons (by first | exact .v _ | exact .rd _ _ | exact .adr _ | exact .mp _ _ | exact .agg _ (pu_vs rfl)) ?_)))) ?_))) (by have e3 : (k == 1) = false := c3; have e5 : (k == 2) = false := c5; have e7 : (k == 3) = true := c7; have em : m = t.length := (by omega); subst em; unfold oneM; simp only [e3, e5, e7, cond_true, cond_false]; rw [List.take_length]; exact rd_eq (by simp only [List.length_cons, List.length_append, List.length_nil]; omega) (by simp [bytesD]))
      ·
        have p7 := c7
        try simp only [decide_eq_true_eq, decide_eq_false_iff_not, Bool.and_eq_true, Bool.or_eq_true, Bool.not_eq_true', Bool.not_eq_false', Bool.and_eq_false_iff, Bool.or_eq_false_iff, beq_iff_eq, bne_iff_ne, beq_eq_false_iff_ne, bne_eq_false_iff_eq, Int.not_lt, Int.not_le, ne_eq, Decidable.not_not] at p7
        refine WC.skip (h3_ _ ?_)
        refine WC.seq fun Fh20_ h20_ => ?_
        refine WC.region ?_
        refine RG.op _ _ rfl rfl (o_move (.own _ _ _ _ _) rfl) ?_
        refine RG.op _ _ rfl rfl (o_assign (.own _ _ _ _ _) rfl) ?_
        refine RG.nil (h20_ _ ?_)
        refine WC.ret ?_
        exact Ends.r1 rfl (.tmp _ (.own _ _ _ _ _) rfl) (.tb rfl (by repeat (first | exact pu_bytes _ | exact pu_nil | exact pu_vs rfl | exact pu_map (fun _ => .v _) _ | exact pu_vals _ | refine pu_app ?_ ?_ | refine pu_cons (by first | exact .v _ | exact .rd _ _ | exact .adr _ | exact .mp _ _ | exact .agg _ (by repeat (first | exact pu_bytes _ | exact pu_nil | exact pu_vs rfl | exact pu_map (fun _ => .v _) _ | exact pu_vals _ | refine pu_app ?_ ?_ | refine pu_cons (by first | exact .v _ | exact .rd _ _ | exact .adr _ | exact .mp _ _ | exact .agg _ (pu_vs rfl)) ?_)) | exact .tup _ (by repeat (first | exact pu_bytes _ | exact pu_nil | exact pu_vs rfl | exact pu_map (fun _ => .v _) _ | exact pu_vals _ | refine pu_app ?_ ?_ | refine pu_cons (by first | exact .v _ | exact .rd _ _ | exact .adr _ | exact .mp _ _ | exact .agg _ (pu_vs rfl)) ?_)) | exact .fn _ _ (by repeat (first | exact pu_bytes _ | exact pu_nil | exact pu_vs rfl | exact pu_map (fun _ => .v _) _ | exact pu_vals _ | refine pu_app ?_ ?_ | refine pu_cons (by first | exact .v _ | exact .rd _ _ | exact .adr _ | exact .mp _ _ | exact .agg _ (pu_vs rfl)) ?_)) | exact .iface _ _ (.v _) | exact .iface _ _ (.agg _ (by repeat (first | exact pu_bytes _ | exact pu_nil | exact pu_vs rfl | exact pu_map (fun _ => .v _) _ | exact pu_vals _ | refine pu_app ?_ ?_ | refine pu_cons (by first | exact .v _ | exact .rd _ _ | exact .adr _ | exact .mp _ _ | exact .agg _ (pu_vs rfl)) ?_)))) ?_))) (by have e3 : (k == 1) = false := c3; have e5 : (k == 2) = false := c5; have e7 : (k == 3) = false := c7; unfold oneM; simp only [e3, e5, e7, cond_false]; rfl)
theorem one_cv (v : Val) (ht : v.t.length ≤ 1099511627776) : Fun Try.prog 50 [VD v] (· = rdB (oneM v)) := one_c v.k v.i v.t ht
/-- A row's bytes behind others; nothing where a value may not be. -/
def appM (b : List UInt8) (l : List Val) : Option (List UInt8) := bif l.all mayM then some (b ++ l.flatMap oneM) else none
def resA (o : Option (List UInt8)) : D := .tup [rdB (o.getD []), I64 (bif o.isSome then 0 else 1)]
/-- How many bytes a row may have, at most. -/
def szM (l : List Val) : Nat := (l.map fun v => 2 * v.t.length + 11).sum
theorem szM_step {l : List Val} {k : Nat} (h : k < l.length) : szM (l.take (k + 1)) = szM (l.take k) + (2 * l[k].t.length + 11) := by
  unfold szM
  rw [List.take_succ_eq_append_getElem h, List.map_append, List.sum_append]; simp
theorem szM_take (l : List Val) (k : Nat) : szM (l.take k) ≤ szM l := by
  conv => rhs; rw [← List.take_append_drop k l]
  unfold szM
  rw [List.map_append, List.sum_append]; omega
theorem szM_ge (l : List Val) : 11 * l.length ≤ szM l := by
  induction l with
  | nil => simp [szM]
  | cons v l ih => simp only [szM, List.map_cons, List.sum_cons, List.length_cons] at *; omega
theorem ones_len (l : List Val) : (l.flatMap oneM).length ≤ szM l := by
  induction l with
  | nil => simp
  | cons v l ih =>
    have := oneM_len v
    simp only [szM, List.flatMap_cons, List.length_append, List.map_cons, List.sum_cons] at *; omega
theorem ones_step {l : List Val} {k : Nat} (h : k < l.length) : (l.take (k + 1)).flatMap oneM = (l.take k).flatMap oneM ++ oneM l[k] := by
  rw [List.take_succ_eq_append_getElem h, List.flatMap_append]; simp
set_option maxHeartbeats 4000000 in
theorem rapp_c (b : List UInt8) (l : List Val) (hs : b.length + szM l ≤ 1099511627776) : Fun Try.prog 17 [rdB b, rdV l] (· = resA (appM b l)) := by
  refine Fun.of Try.func17 rfl (Nat.le_of_ble_eq_true rfl) fun C => ?_
  refine WC.seq fun Fh1_ h1_ => ?_
  have hl := szM_ge l
  refine WC.region ?_
  refine RG.op _ _ rfl rfl (o_assign (.v _) rfl) ?_
  refine RG.op _ _ rfl rfl (o_assign (.v _) rfl) ?_
  refine RG.nil (h1_ _ ?_)
  refine WC.seq fun Fh2_ h2_ => ?_
  refine WC.region ?_
  refine RG.op _ _ rfl rfl (o_litV (cs := []) 0 Try.underlying22 Ty.inf5 rfl rfl rfl rfl rfl rfl) ?_
  refine RG.op _ _ rfl rfl (o_move (.rd _ _) rfl) ?_
  refine RG.op _ _ rfl rfl (o_appT (Elem.of Try.underlying22 Ty.inf5 rfl (by decide)) rfl rfl rfl (by first | omega | exact ubyte _ | (simp only [bytesD_len, zeros_len, flatMap_len vc_len, List.length_append, List.length_take, List.length_drop, List.length_map, List.length_nil, List.length_cons, List.length_replicate, List.length_reverse, List.length_set, List.length_range, strB_size, hi8_len] <;> omega)) (by first | omega | exact ubyte _ | (simp only [bytesD_len, zeros_len, flatMap_len vc_len, List.length_append, List.length_take, List.length_drop, List.length_map, List.length_nil, List.length_cons, List.length_replicate, List.length_reverse, List.length_set, List.length_range, strB_size, hi8_len] <;> omega)) (by repeat (first | exact bytesD_one _ | exact one_nil | exact one_map (fun _ => rfl) _ | exact one_vals _ | refine one_app ?_ ?_ | refine one_cons rfl ?_)) (by first | omega | exact ubyte _ | (simp only [bytesD_len, zeros_len, flatMap_len vc_len, List.length_append, List.length_take, List.length_drop, List.length_map, List.length_nil, List.length_cons, List.length_replicate, List.length_reverse, List.length_set, List.length_range, strB_size, hi8_len] <;> omega)) (by first | omega | exact ubyte _ | (simp only [bytesD_len, zeros_len, flatMap_len vc_len, List.length_append, List.length_take, List.length_drop, List.length_map, List.length_nil, List.length_cons, List.length_replicate, List.length_reverse, List.length_set, List.length_range, strB_size, hi8_len] <;> omega))) ?_
  refine RG.op _ _ rfl rfl (o_assign (.own _ _ _ _ _) rfl) ?_
  refine RG.nil (h2_ _ ?_)
  refine WC.seq fun Fh3_ h3_ => ?_
  refine WC.seq fun Fh4_ h4_ => ?_
  refine WC.region ?_
  refine RG.op _ _ rfl rfl (o_assign (.v _) rfl) ?_
  refine RG.nil (h4_ _ ?_)
  refine WC.block ?_
  refine WC.loopU [4, 5, 6, 7, 11, 12, 13, 14, 15, 16, 17, 18, 19, 20, 21, 22, 23, 24, 25, 26, 27, 28, 29] (fun (k : Nat) => [(7, I64 ((k : Nat) : Int)), (6, ow 0 (b.length + ((l.take k).flatMap oneM).length) 1)]) (fun (k : Nat) => [(0, tb 5 (b.length + ((l.take k).flatMap oneM).length) (bytesD (b ++ (l.take k).flatMap oneM)))]) (fun (k : Nat) => k ≤ l.length ∧ (l.take k).all mayM = true) (fun (k : Nat) => l.length - k) 0 ⟨by omega, rfl⟩ ?lpa5_ ?lpb6_
  case lpa5_ =>
    exact .mk' ⟨⟨rfl, .v _⟩, ⟨ow_eq (by simp), (by first | exact .own _ _ _ _ _ (Nat.le_refl _) | exact .ptr _ _ _ (Nat.le_refl _) | exact .omp _ _ (Nat.le_refl _))⟩, trivial⟩ (same_refl _ _) (congrArg (fun c => [c]) (tb_eq (by simp) (by simp [bytesD]))) (by repeat (first | exact trivial | refine And.intro (Nat.le_refl _) ?_ | refine And.intro trivial ?_ | refine And.intro (by show _ ≤ _; (first | omega | (simp only [bytesD_len, zeros_len, flatMap_len vc_len, List.length_append, List.length_take, List.length_drop, List.length_map, List.length_nil, List.length_cons, List.length_replicate, List.length_reverse, List.length_set, List.length_range, strB_size, hi8_len] <;> omega))) ?_)) (by repeat (first | exact trivial | refine And.intro (okp (by repeat (first | exact pu_bytes _ | exact pu_nil | exact pu_vs rfl | exact pu_map (fun _ => .v _) _ | exact pu_vals _ | refine pu_app ?_ ?_ | refine pu_cons (by first | exact .v _ | exact .rd _ _ | exact .adr _ | exact .mp _ _ | exact .agg _ (by repeat (first | exact pu_bytes _ | exact pu_nil | exact pu_vs rfl | exact pu_map (fun _ => .v _) _ | exact pu_vals _ | refine pu_app ?_ ?_ | refine pu_cons (by first | exact .v _ | exact .rd _ _ | exact .adr _ | exact .mp _ _ | exact .agg _ (pu_vs rfl)) ?_)) | exact .tup _ (by repeat (first | exact pu_bytes _ | exact pu_nil | exact pu_vs rfl | exact pu_map (fun _ => .v _) _ | exact pu_vals _ | refine pu_app ?_ ?_ | refine pu_cons (by first | exact .v _ | exact .rd _ _ | exact .adr _ | exact .mp _ _ | exact .agg _ (pu_vs rfl)) ?_)) | exact .fn _ _ (by repeat (first | exact pu_bytes _ | exact pu_nil | exact pu_vs rfl | exact pu_map (fun _ => .v _) _ | exact pu_vals _ | refine pu_app ?_ ?_ | refine pu_cons (by first | exact .v _ | exact .rd _ _ | exact .adr _ | exact .mp _ _ | exact .agg _ (pu_vs rfl)) ?_)) | exact .iface _ _ (.v _) | exact .iface _ _ (.agg _ (by repeat (first | exact pu_bytes _ | exact pu_nil | exact pu_vs rfl | exact pu_map (fun _ => .v _) _ | exact pu_vals _ | refine pu_app ?_ ?_ | refine pu_cons (by first | exact .v _ | exact .rd _ _ | exact .adr _ | exact .mp _ _ | exact .agg _ (pu_vs rfl)) ?_)))) ?_))) ?_))
  case lpb6_ =>
    rintro k hI
    obtain ⟨hk, ha⟩ := id hI
    have h1 := ones_len (l.take k)
    refine WC.seq fun Fh7_ h7_ => ?_
    refine WC.seq fun Fh8_ h8_ => ?_
    refine WC.region ?_
    refine RG.op _ _ rfl rfl (o_move (.v _) rfl) ?_
    refine RG.op _ _ rfl rfl (o_move (.rd _ _) rfl) ?_
    refine RG.op _ _ rfl rfl (o_len_rd rfl Try.underlying23) ?_
    refine RG.op _ _ rfl rfl (o_ltI rfl rfl) ?_
    refine RG.nil (h8_ _ ?_)
    refine WC.cond _ rfl (fun c3 => ?_) (fun c3 => ?_)
    ·
      have p3 := c3
      try simp only [decide_eq_true_eq, decide_eq_false_iff_not, Bool.and_eq_true, Bool.or_eq_true, Bool.not_eq_true', Bool.not_eq_false', Bool.and_eq_false_iff, Bool.or_eq_false_iff, beq_iff_eq, bne_iff_ne, beq_eq_false_iff_ne, bne_eq_false_iff_eq, Int.not_lt, Int.not_le, ne_eq, Decidable.not_not] at p3
      have hkl : k < l.length := by omega
      have h2 := szM_step hkl
      have h3 := szM_take l (k + 1)
      have h4 := oneM_len l[k]
      refine WC.skip (h7_ _ ?_)
      refine WC.seq fun Fh9_ h9_ => ?_
      refine WC.block ?_
      refine WC.seq fun Fh10_ h10_ => ?_
      refine WC.seq fun Fh11_ h11_ => ?_
      have h5 : l[k].t.length ≤ 1099511627776 := by omega
      refine WC.region ?_
      refine RG.op _ _ rfl rfl (o_move (.rd _ _) rfl) ?_
      refine RG.op _ _ rfl rfl (o_move (.v _) rfl) ?_
      refine RG.op _ _ rfl rfl (o_ixn_L k vc_len rfl rfl rfl Try.underlying23 (sz_of Ty.inf41) (by first | omega | exact ubyte _ | (simp only [bytesD_len, zeros_len, flatMap_len vc_len, List.length_append, List.length_take, List.length_drop, List.length_map, List.length_nil, List.length_cons, List.length_replicate, List.length_reverse, List.length_set, List.length_range, strB_size, hi8_len] <;> omega)) (by first | omega | exact ubyte _ | (simp only [bytesD_len, zeros_len, flatMap_len vc_len, List.length_append, List.length_take, List.length_drop, List.length_map, List.length_nil, List.length_cons, List.length_replicate, List.length_reverse, List.length_set, List.length_range, strB_size, hi8_len] <;> omega))) ?_
      refine RG.op _ _ rfl rfl (o_load_adr_L (xs := [_, _, _]) rfl Try.underlying41 rfl (sz_of Ty.inf41) rfl) ?_
      first | refine RG.op _ _ rfl rfl (o_call Ty.cal49 (may_cv _) ⟨.inl rfl, trivial⟩ (by repeat (first | exact trivial | refine And.intro (by first | exact .v _ | exact .rd _ _ | exact .adr _ | exact .mp _ _ | exact .agg _ (by repeat (first | exact pu_bytes _ | exact pu_nil | exact pu_vs rfl | exact pu_map (fun _ => .v _) _ | exact pu_vals _ | refine pu_app ?_ ?_ | refine pu_cons (by first | exact .v _ | exact .rd _ _ | exact .adr _ | exact .mp _ _ | exact .agg _ (pu_vs rfl)) ?_)) | exact .tup _ (by repeat (first | exact pu_bytes _ | exact pu_nil | exact pu_vs rfl | exact pu_map (fun _ => .v _) _ | exact pu_vals _ | refine pu_app ?_ ?_ | refine pu_cons (by first | exact .v _ | exact .rd _ _ | exact .adr _ | exact .mp _ _ | exact .agg _ (pu_vs rfl)) ?_)) | exact .fn _ _ (by repeat (first | exact pu_bytes _ | exact pu_nil | exact pu_vs rfl | exact pu_map (fun _ => .v _) _ | exact pu_vals _ | refine pu_app ?_ ?_ | refine pu_cons (by first | exact .v _ | exact .rd _ _ | exact .adr _ | exact .mp _ _ | exact .agg _ (pu_vs rfl)) ?_)) | exact .iface _ _ (.v _) | exact .iface _ _ (.agg _ (by repeat (first | exact pu_bytes _ | exact pu_nil | exact pu_vs rfl | exact pu_map (fun _ => .v _) _ | exact pu_vals _ | refine pu_app ?_ ?_ | refine pu_cons (by first | exact .v _ | exact .rd _ _ | exact .adr _ | exact .mp _ _ | exact .agg _ (pu_vs rfl)) ?_)))) ?_))) ?_ | refine RG.op _ _ rfl rfl (o_call Ty.cal49 (may_c _ _ _) ⟨.inl rfl, trivial⟩ (by repeat (first | exact trivial | refine And.intro (by first | exact .v _ | exact .rd _ _ | exact .adr _ | exact .mp _ _ | exact .agg _ (by repeat (first | exact pu_bytes _ | exact pu_nil | exact pu_vs rfl | exact pu_map (fun _ => .v _) _ | exact pu_vals _ | refine pu_app ?_ ?_ | refine pu_cons (by first | exact .v _ | exact .rd _ _ | exact .adr _ | exact .mp _ _ | exact .agg _ (pu_vs rfl)) ?_)) | exact .tup _ (by repeat (first | exact pu_bytes _ | exact pu_nil | exact pu_vs rfl | exact pu_map (fun _ => .v _) _ | exact pu_vals _ | refine pu_app ?_ ?_ | refine pu_cons (by first | exact .v _ | exact .rd _ _ | exact .adr _ | exact .mp _ _ | exact .agg _ (pu_vs rfl)) ?_)) | exact .fn _ _ (by repeat (first | exact pu_bytes _ | exact pu_nil | exact pu_vs rfl | exact pu_map (fun _ => .v _) _ | exact pu_vals _ | refine pu_app ?_ ?_ | refine pu_cons (by first | exact .v _ | exact .rd _ _ | exact .adr _ | exact .mp _ _ | exact .agg _ (pu_vs rfl)) ?_)) | exact .iface _ _ (.v _) | exact .iface _ _ (.agg _ (by repeat (first | exact pu_bytes _ | exact pu_nil | exact pu_vs rfl | exact pu_map (fun _ => .v _) _ | exact pu_vals _ | refine pu_app ?_ ?_ | refine pu_cons (by first | exact .v _ | exact .rd _ _ | exact .adr _ | exact .mp _ _ | exact .agg _ (pu_vs rfl)) ?_)))) ?_))) ?_
      refine RG.op _ _ rfl rfl (o_not rfl) ?_
      refine RG.nil (h11_ _ ?_)
      refine WC.cond _ rfl (fun c5 => ?_) (fun c5 => ?_)
      ·
        have p5 := c5
        try simp only [decide_eq_true_eq, decide_eq_false_iff_not, Bool.and_eq_true, Bool.or_eq_true, Bool.not_eq_true', Bool.not_eq_false', Bool.and_eq_false_iff, Bool.or_eq_false_iff, beq_iff_eq, bne_iff_ne, beq_eq_false_iff_ne, bne_eq_false_iff_eq, Int.not_lt, Int.not_le, ne_eq, Decidable.not_not] at p5
        refine WC.seq fun Fh12_ h12_ => ?_
        refine WC.region ?_
        refine RG.op _ _ rfl rfl (o_assign (.v _) rfl) ?_
        refine RG.op _ _ rfl rfl (o_assign (.v _) rfl) ?_
        refine RG.nil (h12_ _ ?_)
        refine WC.ret ?_
        exact Ends.r2 rfl (.tmp _ (.v _) rfl) (.tmp _ (.v _) rfl) .nilr (.v _) (by unfold appM; rw [all_stop hkl (show mayM l[k] = false by simpa using c5)]; rfl)
      ·
        have p5 := c5
        try simp only [decide_eq_true_eq, decide_eq_false_iff_not, Bool.and_eq_true, Bool.or_eq_true, Bool.not_eq_true', Bool.not_eq_false', Bool.and_eq_false_iff, Bool.or_eq_false_iff, beq_iff_eq, bne_iff_ne, beq_eq_false_iff_ne, bne_eq_false_iff_eq, Int.not_lt, Int.not_le, ne_eq, Decidable.not_not] at p5
        refine WC.skip (h10_ _ ?_)
        refine WC.region ?_
        refine RG.op _ _ rfl rfl (o_move (.own _ _ _ _ _) rfl) ?_
        refine RG.op _ _ rfl rfl (o_move (.rd _ _) rfl) ?_
        refine RG.op _ _ rfl rfl (o_move (.v _) rfl) ?_
        refine RG.op _ _ rfl rfl (o_ixn_L k vc_len rfl rfl rfl Try.underlying23 (sz_of Ty.inf41) (by first | omega | exact ubyte _ | (simp only [bytesD_len, zeros_len, flatMap_len vc_len, List.length_append, List.length_take, List.length_drop, List.length_map, List.length_nil, List.length_cons, List.length_replicate, List.length_reverse, List.length_set, List.length_range, strB_size, hi8_len] <;> omega)) (by first | omega | exact ubyte _ | (simp only [bytesD_len, zeros_len, flatMap_len vc_len, List.length_append, List.length_take, List.length_drop, List.length_map, List.length_nil, List.length_cons, List.length_replicate, List.length_reverse, List.length_set, List.length_range, strB_size, hi8_len] <;> omega))) ?_
        refine RG.op _ _ rfl rfl (o_load_adr_L (xs := [_, _, _]) rfl Try.underlying41 rfl (sz_of Ty.inf41) rfl) ?_
        refine RG.op _ _ rfl rfl (o_call Ty.cal50 (one_cv _ (by first | omega | exact ubyte _ | (simp only [bytesD_len, zeros_len, flatMap_len vc_len, List.length_append, List.length_take, List.length_drop, List.length_map, List.length_nil, List.length_cons, List.length_replicate, List.length_reverse, List.length_set, List.length_range, strB_size, hi8_len] <;> omega))) ⟨.inl rfl, trivial⟩ (by repeat (first | exact trivial | refine And.intro (by first | exact .v _ | exact .rd _ _ | exact .adr _ | exact .mp _ _ | exact .agg _ (by repeat (first | exact pu_bytes _ | exact pu_nil | exact pu_vs rfl | exact pu_map (fun _ => .v _) _ | exact pu_vals _ | refine pu_app ?_ ?_ | refine pu_cons (by first | exact .v _ | exact .rd _ _ | exact .adr _ | exact .mp _ _ | exact .agg _ (pu_vs rfl)) ?_)) | exact .tup _ (by repeat (first | exact pu_bytes _ | exact pu_nil | exact pu_vs rfl | exact pu_map (fun _ => .v _) _ | exact pu_vals _ | refine pu_app ?_ ?_ | refine pu_cons (by first | exact .v _ | exact .rd _ _ | exact .adr _ | exact .mp _ _ | exact .agg _ (pu_vs rfl)) ?_)) | exact .fn _ _ (by repeat (first | exact pu_bytes _ | exact pu_nil | exact pu_vs rfl | exact pu_map (fun _ => .v _) _ | exact pu_vals _ | refine pu_app ?_ ?_ | refine pu_cons (by first | exact .v _ | exact .rd _ _ | exact .adr _ | exact .mp _ _ | exact .agg _ (pu_vs rfl)) ?_)) | exact .iface _ _ (.v _) | exact .iface _ _ (.agg _ (by repeat (first | exact pu_bytes _ | exact pu_nil | exact pu_vs rfl | exact pu_map (fun _ => .v _) _ | exact pu_vals _ | refine pu_app ?_ ?_ | refine pu_cons (by first | exact .v _ | exact .rd _ _ | exact .adr _ | exact .mp _ _ | exact .agg _ (pu_vs rfl)) ?_)))) ?_))) ?_
        refine RG.op _ _ rfl rfl (o_appT (Elem.of Try.underlying22 Ty.inf5 rfl (by decide)) rfl rfl rfl (by first | omega | exact ubyte _ | (simp only [bytesD_len, zeros_len, flatMap_len vc_len, List.length_append, List.length_take, List.length_drop, List.length_map, List.length_nil, List.length_cons, List.length_replicate, List.length_reverse, List.length_set, List.length_range, strB_size, hi8_len] <;> omega)) (by first | omega | exact ubyte _ | (simp only [bytesD_len, zeros_len, flatMap_len vc_len, List.length_append, List.length_take, List.length_drop, List.length_map, List.length_nil, List.length_cons, List.length_replicate, List.length_reverse, List.length_set, List.length_range, strB_size, hi8_len] <;> omega)) (by repeat (first | exact bytesD_one _ | exact one_nil | exact one_map (fun _ => rfl) _ | exact one_vals _ | refine one_app ?_ ?_ | refine one_cons rfl ?_)) (by first | omega | exact ubyte _ | (simp only [bytesD_len, zeros_len, flatMap_len vc_len, List.length_append, List.length_take, List.length_drop, List.length_map, List.length_nil, List.length_cons, List.length_replicate, List.length_reverse, List.length_set, List.length_range, strB_size, hi8_len] <;> omega)) (by first | omega | exact ubyte _ | (simp only [bytesD_len, zeros_len, flatMap_len vc_len, List.length_append, List.length_take, List.length_drop, List.length_map, List.length_nil, List.length_cons, List.length_replicate, List.length_reverse, List.length_set, List.length_range, strB_size, hi8_len] <;> omega))) ?_
        refine RG.op _ _ rfl rfl (o_assign (.own _ _ _ _ _) rfl) ?_
        refine RG.nil (h9_ _ ?_)
        refine WC.region ?_
        refine RG.op _ _ rfl rfl (o_move (.v _) rfl) ?_
        refine RG.op _ _ rfl rfl (o_add rfl rfl (by first | omega | exact ubyte _ | (simp only [bytesD_len, zeros_len, flatMap_len vc_len, List.length_append, List.length_take, List.length_drop, List.length_map, List.length_nil, List.length_cons, List.length_replicate, List.length_reverse, List.length_set, List.length_range, strB_size, hi8_len] <;> omega)) (by first | omega | exact ubyte _ | (simp only [bytesD_len, zeros_len, flatMap_len vc_len, List.length_append, List.length_take, List.length_drop, List.length_map, List.length_nil, List.length_cons, List.length_replicate, List.length_reverse, List.length_set, List.length_range, strB_size, hi8_len] <;> omega))) ?_
        refine RG.op _ _ rfl rfl (o_assign (.v _) rfl) ?_
        refine RG.nil (Exists.intro (k + 1) ⟨⟨by omega, all_step hkl ha p5⟩, by first | omega | (simp only [bytesD_len, zeros_len, flatMap_len vc_len, List.length_append, List.length_take, List.length_drop, List.length_map, List.length_nil, List.length_cons, List.length_replicate, List.length_reverse, List.length_set, List.length_range, strB_size, hi8_len] <;> omega), ?_⟩)
        exact .mk' ⟨⟨rfl, .v _⟩, ⟨ow_eq (by rw [ones_step hkl, List.length_append]; omega), (by first | exact .own _ _ _ _ _ (Nat.le_refl _) | exact .ptr _ _ _ (Nat.le_refl _) | exact .omp _ _ (Nat.le_refl _))⟩, trivial⟩ (by repeat (first | with_reducible exact same_refl _ _ | with_reducible refine same_updO (by with_unfolding_all exact rfl) ?_ | with_reducible refine same_updN ?_ | with_reducible refine same_updL (by with_unfolding_all exact rfl) ?_ | with_reducible refine same_forget (by with_unfolding_all exact rfl) ?_)) (congrArg (fun c => [c]) (tb_eq (by rw [ones_step hkl, List.length_append]; omega) (by rw [ones_step hkl, ← List.append_assoc]; exact (bytesD_app _ _).symm))) (by repeat (first | exact trivial | refine And.intro (Nat.le_refl _) ?_ | refine And.intro trivial ?_ | refine And.intro (by show _ ≤ _; (first | omega | (simp only [bytesD_len, zeros_len, flatMap_len vc_len, List.length_append, List.length_take, List.length_drop, List.length_map, List.length_nil, List.length_cons, List.length_replicate, List.length_reverse, List.length_set, List.length_range, strB_size, hi8_len] <;> omega))) ?_)) (by repeat (first | exact trivial | refine And.intro (okp (by repeat (first | exact pu_bytes _ | exact pu_nil | exact pu_vs rfl | exact pu_map (fun _ => .v _) _ | exact pu_vals _ | refine pu_app ?_ ?_ | refine pu_cons (by first | exact .v _ | exact .rd _ _ | exact .adr _ | exact .mp _ _ | exact .agg _ (by repeat (first | exact pu_bytes _ | exact pu_nil | exact pu_vs rfl | exact pu_map (fun _ => .v _) _ | exact pu_vals _ | refine pu_app ?_ ?_ | refine pu_cons (by first | exact .v _ | exact .rd _ _ | exact .adr _ | exact .mp _ _ | exact .agg _ (pu_vs rfl)) ?_)) | exact .tup _ (by repeat (first | exact pu_bytes _ | exact pu_nil | exact pu_vs rfl | exact pu_map (fun _ => .v _) _ | exact pu_vals _ | refine pu_app ?_ ?_ | refine pu_cons (by first | exact .v _ | exact .rd _ _ | exact .adr _ | exact .mp _ _ | exact .agg _ (pu_vs rfl)) ?_)) | exact .fn _ _ (by repeat (first | exact pu_bytes _ | exact pu_nil | exact pu_vs rfl | exact pu_map (fun _ => .v _) _ | exact pu_vals _ | refine pu_app ?_ ?_ | refine pu_cons (by first | exact .v _ | exact .rd _ _ | exact .adr _ | exact .mp _ _ | exact .agg _ (pu_vs rfl)) ?_)) | exact .iface _ _ (.v _) | exact .iface _ _ (.agg _ (by repeat (first | exact pu_bytes _ | exact pu_nil | exact pu_vs rfl | exact pu_map (fun _ => .v _) _ | exact pu_vals _ | refine pu_app ?_ ?_ | refine pu_cons (by first | exact .v _ | exact .rd _ _ | exact .adr _ | exact .mp _ _ | exact .agg _ (pu_vs rfl)) ?_)))) ?_))) ?_))
    ·
      have p3 := c3
      try simp only [decide_eq_true_eq, decide_eq_false_iff_not, Bool.and_eq_true, Bool.or_eq_true, Bool.not_eq_true', Bool.not_eq_false', Bool.and_eq_false_iff, Bool.or_eq_false_iff, beq_iff_eq, bne_iff_ne, beq_eq_false_iff_ne, bne_eq_false_iff_eq, Int.not_lt, Int.not_le, ne_eq, Decidable.not_not] at p3
      refine WC.exit (h3_ _ ?_)
      refine WC.seq fun Fh13_ h13_ => ?_
      refine WC.region ?_
      refine RG.op _ _ rfl rfl (o_move (.own _ _ _ _ _) rfl) ?_
      refine RG.op _ _ rfl rfl (o_assign (.own _ _ _ _ _) rfl) ?_
      refine RG.op _ _ rfl rfl (o_assign (.v _) rfl) ?_
      refine RG.nil (h13_ _ ?_)
      refine WC.ret ?_
      exact Ends.r2 rfl (.tmp _ (.own _ _ _ _ _) rfl) (.tmp _ (.v _) rfl) (.tb rfl (by repeat (first | exact pu_bytes _ | exact pu_nil | exact pu_vs rfl | exact pu_map (fun _ => .v _) _ | exact pu_vals _ | refine pu_app ?_ ?_ | refine pu_cons (by first | exact .v _ | exact .rd _ _ | exact .adr _ | exact .mp _ _ | exact .agg _ (by repeat (first | exact pu_bytes _ | exact pu_nil | exact pu_vs rfl | exact pu_map (fun _ => .v _) _ | exact pu_vals _ | refine pu_app ?_ ?_ | refine pu_cons (by first | exact .v _ | exact .rd _ _ | exact .adr _ | exact .mp _ _ | exact .agg _ (pu_vs rfl)) ?_)) | exact .tup _ (by repeat (first | exact pu_bytes _ | exact pu_nil | exact pu_vs rfl | exact pu_map (fun _ => .v _) _ | exact pu_vals _ | refine pu_app ?_ ?_ | refine pu_cons (by first | exact .v _ | exact .rd _ _ | exact .adr _ | exact .mp _ _ | exact .agg _ (pu_vs rfl)) ?_)) | exact .fn _ _ (by repeat (first | exact pu_bytes _ | exact pu_nil | exact pu_vs rfl | exact pu_map (fun _ => .v _) _ | exact pu_vals _ | refine pu_app ?_ ?_ | refine pu_cons (by first | exact .v _ | exact .rd _ _ | exact .adr _ | exact .mp _ _ | exact .agg _ (pu_vs rfl)) ?_)) | exact .iface _ _ (.v _) | exact .iface _ _ (.agg _ (by repeat (first | exact pu_bytes _ | exact pu_nil | exact pu_vs rfl | exact pu_map (fun _ => .v _) _ | exact pu_vals _ | refine pu_app ?_ ?_ | refine pu_cons (by first | exact .v _ | exact .rd _ _ | exact .adr _ | exact .mp _ _ | exact .agg _ (pu_vs rfl)) ?_)))) ?_))) (.v _) (by have e : k = l.length := (by omega); subst e; rw [List.take_length] at ha ⊢; unfold appM; rw [ha]; exact congrArg (fun c => D.tup [c, I64 0]) (rd_eq (n' := (b ++ l.flatMap oneM).length) (by rw [List.length_append]) rfl))
end Go.Proofs.Ytmkljbcjgobjfaa
