/-
  Layer agg: AggBounds. No condition.
-/
import Derived.Test.YtpacdeiaimfiaaaH11
import Derived.Test.YtpacdeiaimfiaaaDlU
set_option linter.unusedSimpArgs false
set_option linter.unusedVariables false
namespace Go.Proofs.Ytpacdeiaimfiaaa
open Go.RowKit Go.DL
set_option maxRecDepth 8000

def B50 (l : List Int) : Prop := ∀ x ∈ l, -1125899906842624 ≤ x ∧ x ≤ 1125899906842624
theorem b50_take {l : List Int} {k : Nat} (h : k < l.length) (h1 : B50 (l.take k)) (h2 : -1125899906842624 ≤ l[k] ∧ l[k] ≤ 1125899906842624) : B50 (l.take (k + 1)) := by
  intro x hx
  rw [List.take_succ_eq_append_getElem h] at hx
  rcases List.mem_append.1 hx with hx | hx
  · exact h1 x hx
  · simp at hx; subst hx; exact h2
theorem b50_of {l : List Int} {k : Nat} (h : k < l.length) (c : (decide (l[k] < -1125899906842624) || decide (l.getD k 0 > 1125899906842624)) = false) : -1125899906842624 ≤ l[k] ∧ l[k] ≤ 1125899906842624 := by
  rw [show l.getD k 0 = l[k] by simp [List.getD, h]] at c
  simp only [Bool.or_eq_false_iff, decide_eq_false_iff_not] at c
  omega
theorem qs_take {l : List Int} {k : Nat} (h : k < l.length) : qs (l.take (k + 1)) = qs (l.take k) ++ [qv l[k]] := by
  show (l.take (k + 1)).map qv = (l.take k).map qv ++ [qv l[k]]
  rw [List.take_succ_eq_append_getElem h, List.map_append]; rfl
set_option maxRecDepth 20000 in
set_option maxHeartbeats 4000000 in
theorem bounds_c (l : List Int) (hl : l.length ≤ 9223372036854775807) : Fun Try.prog 5 [rdI l] (· = Bo true) := by
  refine Fun.of Try.func5 rfl (Nat.le_of_ble_eq_true rfl) fun C => ?_
  refine WC.seq fun Fh1_ h1_ => ?_
  refine WC.region ?_
  refine RG.op _ _ rfl rfl (o_assign (.v _) rfl) ?_
  refine RG.nil (h1_ _ ?_)
  refine WC.seq fun Fh2_ h2_ => ?_
  refine WC.seq fun Fh3_ h3_ => ?_
  refine WC.region ?_
  refine RG.op _ _ rfl rfl (o_move (.rd _ _) rfl) ?_
  refine RG.op _ _ rfl rfl (o_len_rd rfl Try.underlying44) ?_
  refine RG.op _ _ rfl rfl (o_gtI rfl rfl) ?_
  refine RG.nil (h3_ _ ?_)
  refine WC.cond _ rfl (fun c1 => ?_) (fun c1 => ?_)
  ·
    have p1 := c1
    try simp only [CN] at p1
    refine WC.seq fun Fh4_ h4_ => ?_
    refine WC.region ?_
    refine RG.op _ _ rfl rfl (o_call Ty.cal12 (wakes_c) trivial (by exact pua rfl)) ?_
    refine RG.op _ _ rfl rfl (o_assign (.v _) rfl) ?_
    refine RG.nil (h4_ _ ?_)
    refine WC.ret ?_
    exact Ends.r1 rfl (.tmp _ (.v _) rfl) (.v _) (rfl)
  ·
    have p1 := c1
    try simp only [CN] at p1
    have hl3 : l.length ≤ 300 := by omega
    refine WC.skip (h2_ _ ?_)
    refine WC.seq fun Fh5_ h5_ => ?_
    refine WC.region ?_
    refine RG.op _ _ rfl rfl (o_nil 42 6) ?_
    refine RG.nil (h5_ _ ?_)
    refine WC.seq fun Fh6_ h6_ => ?_
    refine WC.seq fun Fh7_ h7_ => ?_
    refine WC.region ?_
    refine RG.op _ _ rfl rfl (o_assign (.v _) rfl) ?_
    refine RG.nil (h7_ _ ?_)
    refine WC.block ?_
    refine WC.loopU [2, 3, 4, 21, 22, 23, 24, 25, 26, 27, 28, 29, 30, 31, 32, 33, 34, 35, 36, 37, 38, 39, 40, 41, 42, 43, 44, 45, 46, 47, 48] (fun (k : Nat) => [(4, I64 ((k : Nat) : Int)), (3, ow 0 k 6)]) (fun (k : Nat) => [(0, tb 42 k ((qs (l.take k)).flatMap pv))]) (fun (k : Nat) => k ≤ l.length ∧ B50 (l.take k)) (fun (k : Nat) => l.length - k) 0 ⟨Nat.zero_le _, fun x hx => by simp at hx⟩ ?lpa8_ ?lpb9_
    case lpa8_ =>
      exact .mk' ⟨⟨rfl, .v _⟩, ⟨rfl, (by first | exact .own _ _ _ _ _ (Nat.le_refl _) | exact .ptr _ _ _ (Nat.le_refl _) | exact .omp _ _ (Nat.le_refl _))⟩, trivial⟩ (same_refl _ _) (rfl) (by repeat (first | exact trivial | refine And.intro (Nat.le_refl _) ?_ | refine And.intro trivial ?_ | refine And.intro (by show _ ≤ _; (first | omega | (simp only [LS, len_pvs, qs_len] <;> omega))) ?_)) (by repeat (first | exact trivial | refine And.intro (one_ok (.own _ _ _ _ _ (Nat.le_refl _))) ?_ | refine And.intro (okp (by repeat (first | exact pu_pvs _ | exact pu_bytes _ | exact pu_nil | exact pu_vs rfl | exact pu_map (fun _ => .v _) _ | exact pu_vals _ | refine pu_app ?_ ?_ | refine pu_cons (by exact pu_of rfl) ?_))) ?_))
    case lpb9_ =>
      rintro k hI
      have hk1 := hI.1
      have hk2 := hI.2
      refine WC.seq fun Fh10_ h10_ => ?_
      refine WC.seq fun Fh11_ h11_ => ?_
      refine WC.region ?_
      refine RG.op _ _ rfl rfl (o_move (.v _) rfl) ?_
      refine RG.op _ _ rfl rfl (o_move (.rd _ _) rfl) ?_
      refine RG.op _ _ rfl rfl (o_len_rd rfl Try.underlying44) ?_
      refine RG.op _ _ rfl rfl (o_ltI rfl rfl) ?_
      refine RG.nil (h11_ _ ?_)
      refine WC.cond _ rfl (fun c5 => ?_) (fun c5 => ?_)
      ·
        have p5 := c5
        try simp only [CN] at p5
        have hkl : k < l.length := by omega
        refine WC.skip (h10_ _ ?_)
        refine WC.seq fun Fh12_ h12_ => ?_
        refine WC.block ?_
        refine WC.seq fun Fh13_ h13_ => ?_
        refine WC.seq fun Fh14_ h14_ => ?_
        refine WC.region ?_
        refine RG.op _ _ rfl rfl (o_move (.rd _ _) rfl) ?_
        refine RG.op _ _ rfl rfl (o_move (.v _) rfl) ?_
        refine RG.op _ _ rfl rfl (o_ixn_M k rfl rfl Try.underlying44 (sz_of Ty.inf2) (by first | omega | exact ubyte _ | (simp only [LS, len_pvs, qs_len] <;> omega)) (by first | omega | exact ubyte _ | (simp only [LS, len_pvs, qs_len] <;> omega))) ?_
        refine RG.op _ _ rfl rfl (o_load_adr rfl Try.underlying2 rfl rfl) ?_
        refine RG.op _ _ rfl rfl (o_ltI rfl rfl) ?_
        refine RG.op _ _ rfl rfl (o_move (.v _) rfl) ?_
        refine RG.opg1 _ _ _ _ _ rfl rfl rfl rfl rfl (fun hb => o_move (.rd _ _) rfl) ?_
        refine RG.opg1 _ _ _ _ _ rfl rfl rfl rfl rfl (fun hb => o_move (.v _) rfl) ?_
        refine RG.opg1 _ _ _ _ _ rfl rfl rfl rfl rfl (fun hb => o_ixn_MZ (0 : Int) k (gdT hb) (gdT hb) Try.underlying44 (sz_of Ty.inf2) (by first | omega | exact ubyte _ | (have hb' := hb; simp only [CN] at hb'; omega) | (simp only [LS, len_pvs, qs_len] <;> omega) | (have hb' := hb; simp only [CN] at hb'; simp only [LS, len_pvs, qs_len]; omega)) (by first | omega | exact ubyte _ | (have hb' := hb; simp only [CN] at hb'; omega) | (simp only [LS, len_pvs, qs_len] <;> omega) | (have hb' := hb; simp only [CN] at hb'; simp only [LS, len_pvs, qs_len]; omega))) ?_
        refine RG.opg1 _ _ _ _ _ rfl rfl rfl rfl rfl (fun hb => o_load_adr (gdT hb) Try.underlying2 rfl rfl) ?_
        refine RG.opg1 _ _ _ _ _ rfl rfl rfl rfl rfl (fun hb => o_gtI (gdT hb) rfl) ?_
        refine RG.op _ _ rfl rfl (o_or _ _ rfl rfl rfl) ?_
        refine RG.nil (h14_ _ ?_)
        refine WC.cond _ rfl (fun c7 => ?_) (fun c7 => ?_)
        ·
          have p7 := c7
          try simp only [CN] at p7
          refine WC.seq fun Fh15_ h15_ => ?_
          refine WC.region ?_
          refine RG.op _ _ rfl rfl (o_call Ty.cal12 (wakes_c) trivial (by exact pua rfl)) ?_
          refine RG.op _ _ rfl rfl (o_assign (.v _) rfl) ?_
          refine RG.nil (h15_ _ ?_)
          refine WC.ret ?_
          exact Ends.r1 rfl (.tmp _ (.v _) rfl) (.v _) (rfl)
        ·
          have p7 := c7
          try simp only [CN] at p7
          have hx50 : -1125899906842624 ≤ l[k]'hkl ∧ l[k]'hkl ≤ 1125899906842624 := b50_of hkl c7
          refine WC.skip (h13_ _ ?_)
          refine WC.region ?_
          refine RG.op _ _ rfl rfl (o_move (.own _ _ _ _ _) rfl) ?_
          refine RG.op _ _ rfl rfl (o_move (.rd _ _) rfl) ?_
          refine RG.op _ _ rfl rfl (o_move (.v _) rfl) ?_
          refine RG.op _ _ rfl rfl (o_ixn_M k rfl rfl Try.underlying44 (sz_of Ty.inf2) (by first | omega | exact ubyte _ | (simp only [LS, len_pvs, qs_len] <;> omega)) (by first | omega | exact ubyte _ | (simp only [LS, len_pvs, qs_len] <;> omega))) ?_
          refine RG.op _ _ rfl rfl (o_load_adr rfl Try.underlying2 rfl rfl) ?_
          refine RG.op _ _ rfl rfl (o_call Ty.cal16 (numb_c _) ⟨.inl rfl, trivial⟩ (by exact pua rfl)) ?_
          refine RG.op _ _ rfl rfl (o_build (cs := [_, _, _, B8 0, I64 0, S []]) Try.underlying42 Ty.inf42 (Ty.pl42 Try.underlying42) rfl) ?_
          refine RG.op _ _ rfl rfl (o_litP (cs := [_, _, _, _, _, _]) Try.underlying35 Ty.inf42 rfl rfl rfl rfl (by repeat (first | exact pu_pvs _ | exact pu_bytes _ | exact pu_nil | exact pu_vs rfl | exact pu_map (fun _ => .v _) _ | exact pu_vals _ | refine pu_app ?_ ?_ | refine pu_cons (by exact pu_of rfl) ?_))) ?_
          refine RG.op _ _ rfl rfl (o_appT (Elem.of Try.underlying35 Ty.inf42 rfl (by decide)) rfl rfl rfl (by first | omega | exact ubyte _ | (simp only [LS, len_pvs, qs_len] <;> omega)) (by first | omega | exact ubyte _ | (simp only [LS, len_pvs, qs_len] <;> omega)) (by repeat (first | exact bytesD_one _ | exact one_nil | exact one_map (fun _ => rfl) _ | exact one_vals _ | exact one_pvs _ | refine one_app ?_ ?_ | refine one_cons rfl ?_)) (by first | omega | exact ubyte _ | (simp only [LS, len_pvs, qs_len] <;> omega)) (by first | omega | exact ubyte _ | (simp only [LS, len_pvs, qs_len] <;> omega))) ?_
          refine RG.op _ _ rfl rfl (o_assign (.own _ _ _ _ _) rfl) ?_
          refine RG.nil (h12_ _ ?_)
          refine WC.region ?_
          refine RG.op _ _ rfl rfl (o_move (.v _) rfl) ?_
          refine RG.op _ _ rfl rfl (o_add rfl rfl (by first | omega | exact ubyte _ | (simp only [LS, len_pvs, qs_len] <;> omega)) (by first | omega | exact ubyte _ | (simp only [LS, len_pvs, qs_len] <;> omega))) ?_
          refine RG.op _ _ rfl rfl (o_assign (.v _) rfl) ?_
          refine RG.nil (Exists.intro (k + 1) ⟨⟨by omega, b50_take hkl hk2 hx50⟩, by first | omega | (simp only [LS, len_pvs, qs_len] <;> omega), ?_⟩)
          exact .mk' ⟨⟨rfl, .v _⟩, ⟨rfl, (by first | exact .own _ _ _ _ _ (Nat.le_refl _) | exact .ptr _ _ _ (Nat.le_refl _) | exact .omp _ _ (Nat.le_refl _))⟩, trivial⟩ (by repeat (first | with_reducible exact same_refl _ _ | with_reducible refine same_updO (by with_unfolding_all exact rfl) ?_ | with_reducible refine same_updN ?_ | with_reducible refine same_updL (by with_unfolding_all exact rfl) ?_ | with_reducible refine same_forget (by with_unfolding_all exact rfl) ?_)) (congrArg (fun c => [c]) (tb_eq rfl (by rw [qs_take hkl]; simp; rfl))) (by repeat (first | exact trivial | refine And.intro (Nat.le_refl _) ?_ | refine And.intro trivial ?_ | refine And.intro (by show _ ≤ _; (first | omega | (simp only [LS, len_pvs, qs_len] <;> omega))) ?_)) (by repeat (first | exact trivial | refine And.intro (one_ok (.own _ _ _ _ _ (Nat.le_refl _))) ?_ | refine And.intro (okp (by repeat (first | exact pu_pvs _ | exact pu_bytes _ | exact pu_nil | exact pu_vs rfl | exact pu_map (fun _ => .v _) _ | exact pu_vals _ | refine pu_app ?_ ?_ | refine pu_cons (by exact pu_of rfl) ?_))) ?_))
      ·
        have p5 := c5
        try simp only [CN] at p5
        have hke : k = l.length := by omega
        have hb : B50 l := by rw [hke, List.take_length] at hk2; exact hk2
        subst hke
        obtain ⟨vs, va, vx, vy, hB⟩ := bnd l hl3 hb
        have hql : (qs l).length ≤ 1099511627776 := by rw [qs_len]; omega
        have hqi := qs_in hb
        refine WC.exit (h6_ _ ?_)
        refine WC.seq fun Fh16_ h16_ => ?_
        refine WC.frz 0 _ [(3, rdQ (qs l))] rfl (by repeat (first | exact pu_pvs _ | exact pu_bytes _ | exact pu_nil | exact pu_vs rfl | exact pu_map (fun _ => .v _) _ | exact pu_vals _ | refine pu_app ?_ ?_ | refine pu_cons (by exact pu_of rfl) ?_)) ⟨.rowE rfl (by first | rfl | omega | (simp; done) | (simp; omega)) (by first | rfl | simp [bytesD]), trivial⟩ ?_
        refine WC.region ?_
        refine RG.op _ _ rfl rfl (o_move (.rd _ _) rfl) ?_
        refine RG.op _ _ rfl rfl (OpX.d (x_call Ty.cal15 (fed_at 22 (qs l) rfl hql hqi 2 rfl) ⟨.inl rfl, .inl rfl, trivial⟩) (hle2 _ _ _)) ?_
        refine RG.op _ _ rfl rfl (OpD.cast (d' := AD (iV l.length, 0)) (OpX.d (x_call Ty.cal8 (ans_at 22 (foldF 22 (qs l)) rfl (foldF_room hql hqi).1 2 rfl) ⟨.inl rfl, trivial⟩) (HLe.refl _)) (congrArg AD hB.cnt)) ?_
        refine RG.op _ _ rfl rfl (o_move (.tup _) rfl) ?_
        refine RG.op _ _ rfl rfl (o_extract rfl rfl) ?_
        refine RG.op _ _ rfl rfl (o_extract rfl rfl) ?_
        refine RG.op _ _ rfl rfl (o_alloc (z_of Ty.inf23) rfl) ?_
        refine RG.op _ _ rfl rfl (o_store (d := (.agg [_, _, _])) rfl rfl rfl rfl (sz_of Ty.inf23) (Nat.le_of_ble_eq_true rfl) rfl) ?_
        refine RG.op _ _ rfl rfl (o_assign (.v _) rfl) ?_
        refine RG.nil (h16_ _ ?_)
        refine WC.seq fun Fh17_ h17_ => ?_
        refine WC.reH [none, wb 22, sb 22 (foldF 22 (qs l)), some ⟨vc (iV l.length), 23, false, 0⟩] rfl ?_
        refine WC.region ?_
        refine RG.op _ _ rfl rfl (o_move (.rd _ _) rfl) ?_
        refine RG.op _ _ rfl rfl (OpX.d (x_call Ty.cal15 (fed_at 23 (qs l) rfl hql hqi 5 rfl) ⟨.inl rfl, .inl rfl, trivial⟩) (hle2 _ _ _)) ?_
        refine RG.op _ _ rfl rfl (OpD.cast (d' := AD (vs, 0)) (OpX.d (x_call Ty.cal8 (ans_at 23 (foldF 23 (qs l)) rfl (foldF_room hql hqi).1 5 rfl) ⟨.inl rfl, trivial⟩) (HLe.refl _)) (congrArg AD hB.sum)) ?_
        refine RG.op _ _ rfl rfl (o_move (.tup _) rfl) ?_
        refine RG.op _ _ rfl rfl (o_extract rfl rfl) ?_
        refine RG.op _ _ rfl rfl (o_extract rfl rfl) ?_
        refine RG.op _ _ rfl rfl (o_alloc (z_of Ty.inf23) rfl) ?_
        refine RG.op _ _ rfl rfl (o_store (d := (.agg [_, _, _])) rfl rfl rfl rfl (sz_of Ty.inf23) (Nat.le_of_ble_eq_true rfl) rfl) ?_
        refine RG.op _ _ rfl rfl (o_assign (.v _) rfl) ?_
        refine RG.nil (h17_ _ ?_)
        refine WC.seq fun Fh18_ h18_ => ?_
        refine WC.reH [none, wb 22, sb 22 (foldF 22 (qs l)), some ⟨vc (iV l.length), 23, false, 0⟩, wb 23, sb 23 (foldF 23 (qs l)), some ⟨vc vs, 23, false, 0⟩] rfl ?_
        refine WC.region ?_
        refine RG.op _ _ rfl rfl (o_move (.rd _ _) rfl) ?_
        refine RG.op _ _ rfl rfl (OpX.d (x_call Ty.cal15 (fed_at 26 (qs l) rfl hql hqi 8 rfl) ⟨.inl rfl, .inl rfl, trivial⟩) (hle2 _ _ _)) ?_
        refine RG.op _ _ rfl rfl (OpD.cast (d' := AD (va, 0)) (OpX.d (x_call Ty.cal8 (ans_at 26 (foldF 26 (qs l)) rfl (foldF_room hql hqi).1 8 rfl) ⟨.inl rfl, trivial⟩) (HLe.refl _)) (congrArg AD hB.avg)) ?_
        refine RG.op _ _ rfl rfl (o_move (.tup _) rfl) ?_
        refine RG.op _ _ rfl rfl (o_extract rfl rfl) ?_
        refine RG.op _ _ rfl rfl (o_extract rfl rfl) ?_
        refine RG.op _ _ rfl rfl (o_alloc (z_of Ty.inf23) rfl) ?_
        refine RG.op _ _ rfl rfl (o_store (d := (.agg [_, _, _])) rfl rfl rfl rfl (sz_of Ty.inf23) (Nat.le_of_ble_eq_true rfl) rfl) ?_
        refine RG.op _ _ rfl rfl (o_assign (.v _) rfl) ?_
        refine RG.nil (h18_ _ ?_)
        refine WC.seq fun Fh19_ h19_ => ?_
        refine WC.reH [none, wb 22, sb 22 (foldF 22 (qs l)), some ⟨vc (iV l.length), 23, false, 0⟩, wb 23, sb 23 (foldF 23 (qs l)), some ⟨vc vs, 23, false, 0⟩, wb 26, sb 26 (foldF 26 (qs l)), some ⟨vc va, 23, false, 0⟩] rfl ?_
        refine WC.region ?_
        refine RG.op _ _ rfl rfl (o_move (.rd _ _) rfl) ?_
        refine RG.op _ _ rfl rfl (OpX.d (x_call Ty.cal15 (fed_at 24 (qs l) rfl hql hqi 11 rfl) ⟨.inl rfl, .inl rfl, trivial⟩) (hle2 _ _ _)) ?_
        refine RG.op _ _ rfl rfl (OpD.cast (d' := AD (vx, 0)) (OpX.d (x_call Ty.cal8 (ans_at 24 (foldF 24 (qs l)) rfl (foldF_room hql hqi).1 11 rfl) ⟨.inl rfl, trivial⟩) (HLe.refl _)) (congrArg AD hB.lo)) ?_
        refine RG.op _ _ rfl rfl (o_move (.tup _) rfl) ?_
        refine RG.op _ _ rfl rfl (o_extract rfl rfl) ?_
        refine RG.op _ _ rfl rfl (o_extract rfl rfl) ?_
        refine RG.op _ _ rfl rfl (o_alloc (z_of Ty.inf23) rfl) ?_
        refine RG.op _ _ rfl rfl (o_store (d := (.agg [_, _, _])) rfl rfl rfl rfl (sz_of Ty.inf23) (Nat.le_of_ble_eq_true rfl) rfl) ?_
        refine RG.op _ _ rfl rfl (o_assign (.v _) rfl) ?_
        refine RG.nil (h19_ _ ?_)
        refine WC.seq fun Fh20_ h20_ => ?_
        refine WC.reH [none, wb 22, sb 22 (foldF 22 (qs l)), some ⟨vc (iV l.length), 23, false, 0⟩, wb 23, sb 23 (foldF 23 (qs l)), some ⟨vc vs, 23, false, 0⟩, wb 26, sb 26 (foldF 26 (qs l)), some ⟨vc va, 23, false, 0⟩, wb 24, sb 24 (foldF 24 (qs l)), some ⟨vc vx, 23, false, 0⟩] rfl ?_
        refine WC.region ?_
        refine RG.op _ _ rfl rfl (o_move (.rd _ _) rfl) ?_
        refine RG.op _ _ rfl rfl (OpX.d (x_call Ty.cal15 (fed_at 25 (qs l) rfl hql hqi 14 rfl) ⟨.inl rfl, .inl rfl, trivial⟩) (hle2 _ _ _)) ?_
        refine RG.op _ _ rfl rfl (OpD.cast (d' := AD (vy, 0)) (OpX.d (x_call Ty.cal8 (ans_at 25 (foldF 25 (qs l)) rfl (foldF_room hql hqi).1 14 rfl) ⟨.inl rfl, trivial⟩) (HLe.refl _)) (congrArg AD hB.hi)) ?_
        refine RG.op _ _ rfl rfl (o_move (.tup _) rfl) ?_
        refine RG.op _ _ rfl rfl (o_extract rfl rfl) ?_
        refine RG.op _ _ rfl rfl (o_extract rfl rfl) ?_
        refine RG.op _ _ rfl rfl (o_alloc (z_of Ty.inf23) rfl) ?_
        refine RG.op _ _ rfl rfl (o_store (d := (.agg [_, _, _])) rfl rfl rfl rfl (sz_of Ty.inf23) (Nat.le_of_ble_eq_true rfl) rfl) ?_
        refine RG.op _ _ rfl rfl (o_assign (.v _) rfl) ?_
        refine RG.nil (h20_ _ ?_)
        refine WC.seq fun Fh21_ h21_ => ?_
        refine WC.seq fun Fh22_ h22_ => ?_
        refine WC.reH [none, wb 22, sb 22 (foldF 22 (qs l)), some ⟨vc (iV l.length), 23, false, 0⟩, wb 23, sb 23 (foldF 23 (qs l)), some ⟨vc vs, 23, false, 0⟩, wb 26, sb 26 (foldF 26 (qs l)), some ⟨vc va, 23, false, 0⟩, wb 24, sb 24 (foldF 24 (qs l)), some ⟨vc vx, 23, false, 0⟩, wb 25, sb 25 (foldF 25 (qs l)), some ⟨vc vy, 23, false, 0⟩] rfl ?_
        refine WC.region ?_
        refine RG.op _ _ rfl rfl (o_move (.v _) rfl) ?_
        refine RG.op _ _ rfl rfl (o_neI rfl rfl) ?_
        refine RG.op _ _ rfl rfl (o_move (.v _) rfl) ?_
        refine RG.opg1 _ _ _ _ _ rfl rfl rfl rfl rfl (fun hb => o_move (.v _) rfl) ?_
        refine RG.opg1 _ _ _ _ _ rfl rfl rfl rfl rfl (fun hb => o_neI (gdT hb) rfl) ?_
        refine RG.op _ _ rfl rfl (o_or _ _ rfl rfl rfl) ?_
        refine RG.op _ _ rfl rfl (o_move (.v _) rfl) ?_
        refine RG.opg1 _ _ _ _ _ rfl rfl rfl rfl rfl (fun hb => o_move (.v _) rfl) ?_
        refine RG.opg1 _ _ _ _ _ rfl rfl rfl rfl rfl (fun hb => o_neI (gdT hb) rfl) ?_
        refine RG.op _ _ rfl rfl (o_or _ _ rfl rfl rfl) ?_
        refine RG.op _ _ rfl rfl (o_move (.v _) rfl) ?_
        refine RG.opg1 _ _ _ _ _ rfl rfl rfl rfl rfl (fun hb => o_move (.v _) rfl) ?_
        refine RG.opg1 _ _ _ _ _ rfl rfl rfl rfl rfl (fun hb => o_neI (gdT hb) rfl) ?_
        refine RG.op _ _ rfl rfl (o_or _ _ rfl rfl rfl) ?_
        refine RG.op _ _ rfl rfl (o_move (.v _) rfl) ?_
        refine RG.opg1 _ _ _ _ _ rfl rfl rfl rfl rfl (fun hb => o_move (.v _) rfl) ?_
        refine RG.opg1 _ _ _ _ _ rfl rfl rfl rfl rfl (fun hb => o_neI (gdT hb) rfl) ?_
        refine RG.op _ _ rfl rfl (o_or _ _ rfl rfl rfl) ?_
        refine RG.op _ _ rfl rfl (o_move (.v _) rfl) ?_
        refine RG.opg1 _ _ _ _ _ rfl rfl rfl rfl rfl (fun hb => o_fld_ptr rfl Try.underlying23 rfl (sz_of Ty.inf2) (by decide)) ?_
        refine RG.opg1 _ _ _ _ _ rfl rfl rfl rfl rfl (fun hb => o_load_ptr (gdT hb) Try.underlying2 rfl rfl rfl rfl) ?_
        refine RG.opg1 _ _ _ _ _ rfl rfl rfl rfl rfl (fun hb => o_move (.rd _ _) rfl) ?_
        refine RG.opg1 _ _ _ _ _ rfl rfl rfl rfl rfl (fun hb => o_len_rd (gdT hb) Try.underlying44) ?_
        refine RG.opg1 _ _ _ _ _ rfl rfl rfl rfl rfl (fun hb => o_neI (gdT hb) (gdT hb)) ?_
        refine RG.op _ _ rfl rfl (o_or _ _ rfl rfl rfl) ?_
        refine RG.nil (h22_ _ ?_)
        refine WC.cond _ rfl (fun c15 => ?_) (fun c15 => ?_)
        ·
          have p15 := c15
          try simp only [CN] at p15
          exact absurd c15 (by simp [iV])
        ·
          have p15 := c15
          try simp only [CN] at p15
          refine WC.skip (h21_ _ ?_)
          refine WC.seq fun Fh23_ h23_ => ?_
          refine WC.seq fun Fh24_ h24_ => ?_
          refine WC.region ?_
          refine RG.op _ _ rfl rfl (o_move (.rd _ _) rfl) ?_
          refine RG.op _ _ rfl rfl (o_len_rd rfl Try.underlying44) ?_
          refine RG.op _ _ rfl rfl (o_eqI rfl rfl) ?_
          refine RG.nil (h24_ _ ?_)
          refine WC.cond _ rfl (fun c17 => ?_) (fun c17 => ?_)
          ·
            have p17 := c17
            try simp only [CN] at p17
            have hn := hB.none (Int.ofNat_inj.1 (of_decide_eq_true c17))
            refine WC.seq fun Fh25_ h25_ => ?_
            refine WC.region ?_
            refine RG.op _ _ rfl rfl (o_fld_ptr rfl Try.underlying23 rfl (sz_of Ty.inf5) (by decide)) ?_
            refine RG.op _ _ rfl rfl (o_load_ptr rfl Try.underlying5 rfl rfl rfl rfl) ?_
            refine RG.op _ _ rfl rfl (o_eqB (b := 0) rfl rfl) ?_
            refine RG.op _ _ rfl rfl (o_move (.v _) rfl) ?_
            refine RG.opg1 _ _ _ _ _ rfl rfl rfl rfl rfl (fun hb => o_fld_ptr rfl Try.underlying23 rfl (sz_of Ty.inf5) (by decide)) ?_
            refine RG.opg1 _ _ _ _ _ rfl rfl rfl rfl rfl (fun hb => o_load_ptr (gdT hb) Try.underlying5 rfl rfl rfl rfl) ?_
            refine RG.opg1 _ _ _ _ _ rfl rfl rfl rfl rfl (fun hb => o_eqB (b := 0) (gdT hb) rfl) ?_
            refine RG.op _ _ rfl rfl (o_and _ _ rfl rfl rfl) ?_
            refine RG.op _ _ rfl rfl (o_move (.v _) rfl) ?_
            refine RG.opg1 _ _ _ _ _ rfl rfl rfl rfl rfl (fun hb => o_fld_ptr rfl Try.underlying23 rfl (sz_of Ty.inf5) (by decide)) ?_
            refine RG.opg1 _ _ _ _ _ rfl rfl rfl rfl rfl (fun hb => o_load_ptr (gdT hb) Try.underlying5 rfl rfl rfl rfl) ?_
            refine RG.opg1 _ _ _ _ _ rfl rfl rfl rfl rfl (fun hb => o_eqB (b := 0) (gdT hb) rfl) ?_
            refine RG.op _ _ rfl rfl (o_and _ _ rfl rfl rfl) ?_
            refine RG.op _ _ rfl rfl (o_move (.v _) rfl) ?_
            refine RG.opg1 _ _ _ _ _ rfl rfl rfl rfl rfl (fun hb => o_fld_ptr rfl Try.underlying23 rfl (sz_of Ty.inf5) (by decide)) ?_
            refine RG.opg1 _ _ _ _ _ rfl rfl rfl rfl rfl (fun hb => o_load_ptr (gdT hb) Try.underlying5 rfl rfl rfl rfl) ?_
            refine RG.opg1 _ _ _ _ _ rfl rfl rfl rfl rfl (fun hb => o_eqB (b := 0) (gdT hb) rfl) ?_
            refine RG.op _ _ rfl rfl (o_and _ _ rfl rfl rfl) ?_
            refine RG.op _ _ rfl rfl (o_move (.v _) rfl) ?_
            refine RG.opg1 _ _ _ _ _ rfl rfl rfl rfl rfl (fun hb => o_call Ty.cal12 (wakes_c) trivial (by exact pua rfl)) ?_
            refine RG.op _ _ rfl rfl (o_and _ _ rfl rfl rfl) ?_
            refine RG.op _ _ rfl rfl (o_assign (.v _) rfl) ?_
            refine RG.nil (h25_ _ ?_)
            refine WC.ret ?_
            exact Ends.r1 rfl (.tmp _ (.v _) rfl) (.v _) (congrArg Bo (by rw [hn.1, hn.2.1, hn.2.2.1, hn.2.2.2]; rfl))
          ·
            have p17 := c17
            try simp only [CN] at p17
            have hS := hB.some fun h => of_decide_eq_false c17 (congrArg Int.ofNat h)
            refine WC.skip (h23_ _ ?_)
            refine WC.seq fun Fh26_ h26_ => ?_
            refine WC.region ?_
            refine RG.op _ _ rfl rfl (o_fld_ptr rfl Try.underlying23 rfl (sz_of Ty.inf2) (by decide)) ?_
            refine RG.op _ _ rfl rfl (o_load_ptr rfl Try.underlying2 rfl rfl rfl rfl) ?_
            refine RG.op _ _ rfl rfl (o_fld_ptr rfl Try.underlying23 rfl (sz_of Ty.inf2) (by decide)) ?_
            refine RG.op _ _ rfl rfl (o_load_ptr rfl Try.underlying2 rfl rfl rfl rfl) ?_
            refine RG.op _ _ rfl rfl (o_fld_ptr rfl Try.underlying23 rfl (sz_of Ty.inf2) (by decide)) ?_
            refine RG.op _ _ rfl rfl (o_load_ptr rfl Try.underlying2 rfl rfl rfl rfl) ?_
            refine RG.op _ _ rfl rfl (o_mul (a := va.i) (b := l.length) rfl rfl hS.m1 hS.m2) ?_
            refine RG.op _ _ rfl rfl (o_sub (a := vs.i) (b := va.i * l.length) rfl rfl hS.d1 hS.d2) ?_
            refine RG.op _ _ rfl rfl (o_assign (.v _) rfl) ?_
            refine RG.nil (h26_ _ ?_)
            refine WC.seq fun Fh27_ h27_ => ?_
            refine WC.seq fun Fh28_ h28_ => ?_
            refine WC.region ?_
            refine RG.op _ _ rfl rfl (o_assign (.v _) rfl) ?_
            refine RG.nil (h28_ _ ?_)
            refine WC.block ?_
            refine WC.loopU [2, 16, 136, 137, 138, 139, 140, 141, 142, 143, 144, 145, 146, 147, 148, 149, 150, 151, 152, 153, 154, 155, 156, 157, 158, 159] (fun (k : Nat) => [(16, I64 ((k : Nat) : Int))]) (fun (k : Nat) => []) (fun (k : Nat) => k ≤ (qs l).length) (fun (k : Nat) => (qs l).length - k) 0 (by first | omega | exact ubyte _ | (simp only [LS, len_pvs, qs_len] <;> omega)) ?lpa29_ ?lpb30_
            case lpa29_ =>
              exact .mk' ⟨⟨rfl, .v _⟩, trivial⟩ (same_refl _ _) (rfl) (by repeat (first | exact trivial | refine And.intro (Nat.le_refl _) ?_ | refine And.intro trivial ?_ | refine And.intro (by show _ ≤ _; (first | omega | (simp only [LS, len_pvs, qs_len] <;> omega))) ?_)) (by repeat (first | exact trivial | refine And.intro (one_ok (.own _ _ _ _ _ (Nat.le_refl _))) ?_ | refine And.intro (okp (by repeat (first | exact pu_pvs _ | exact pu_bytes _ | exact pu_nil | exact pu_vs rfl | exact pu_map (fun _ => .v _) _ | exact pu_vals _ | refine pu_app ?_ ?_ | refine pu_cons (by exact pu_of rfl) ?_))) ?_))
            case lpb30_ =>
              rintro k hI
              refine WC.seq fun Fh31_ h31_ => ?_
              refine WC.seq fun Fh32_ h32_ => ?_
              refine WC.region ?_
              refine RG.op _ _ rfl rfl (o_move (.v _) rfl) ?_
              refine RG.op _ _ rfl rfl (o_move (.rd _ _) rfl) ?_
              refine RG.op _ _ rfl rfl (o_len_rd rfl Try.underlying35) ?_
              refine RG.op _ _ rfl rfl (o_ltI rfl rfl) ?_
              refine RG.nil (h32_ _ ?_)
              refine WC.cond _ rfl (fun c21 => ?_) (fun c21 => ?_)
              ·
                have p21 := c21
                try simp only [CN] at p21
                have hkl : k < (qs l).length := by omega
                refine WC.skip (h31_ _ ?_)
                refine WC.seq fun Fh33_ h33_ => ?_
                refine WC.block ?_
                refine WC.seq fun Fh34_ h34_ => ?_
                refine WC.drawn1 (by kernel_rfl) ?_
                refine PG.op _ rfl rfl rfl (by rintro _ rfl; exact o_move (.rd _ _) rfl) ?_
                refine PG.op _ rfl rfl rfl (by rintro _ rfl; exact o_move (.v _) rfl) ?_
                refine PG.op _ rfl rfl rfl (by rintro _ rfl; exact o_ixn_L (l := qs l) (f := pv) k pv_len rfl rfl rfl Try.underlying35 (sz_of Ty.inf42) rfl hkl) ?_
                refine PG.op _ rfl rfl rfl (by rintro _ rfl; exact o_fld_adr rfl Try.underlying42 rfl (sz_of Ty.inf23) (by decide)) ?_
                refine PG.op _ rfl rfl rfl (by rintro _ rfl; exact o_load_adr_L (xs := [_, _, _]) rfl Try.underlying23 rfl (sz_of Ty.inf23) rfl) ?_
                refine PG.op _ rfl rfl rfl (by rintro _ rfl; exact o_load_ptr_L (xs := [_, _, _]) rfl Try.underlying23 rfl (sz_of Ty.inf23) rfl rfl rfl rfl) ?_
                refine PG.op _ rfl rfl rfl (by rintro _ rfl; exact (by exact o_call (ds := [VD ((qs l)[k]'hkl).1, VD vx]) Ty.cal17 (cmpV_c ((qs l)[k]'hkl).1 vx) ⟨.inl rfl, .inl rfl, trivial⟩ (by exact pua rfl))) ?_
                refine PG.op _ rfl rfl rfl (by rintro _ rfl; exact o_ltI rfl rfl) ?_
                refine PG.op _ rfl rfl rfl (by rintro _ rfl; exact o_move (.v _) rfl) ?_
                refine PG.opg1 _ _ _ _ _ rfl rfl rfl rfl rfl rfl (fun hb => (by rintro _ rfl; exact o_move (.rd _ _) rfl)) ?_
                refine PG.opg1 _ _ _ _ _ rfl rfl rfl rfl rfl rfl (fun hb => (by rintro _ rfl; exact o_move (.v _) rfl)) ?_
                refine PG.opg1 _ _ _ _ _ rfl rfl rfl rfl rfl rfl (fun hb => (by rintro _ rfl; exact o_ixn_LZ (z0, z0) (l := qs l) (f := pv) k pv_len rfl (gdT hb) (gdT hb) Try.underlying35 (sz_of Ty.inf42) rfl hkl)) ?_
                refine PG.opg1 _ _ _ _ _ rfl rfl rfl rfl rfl rfl (fun hb => (by rintro _ rfl; exact o_fld_adr (gdT hb) Try.underlying42 rfl (sz_of Ty.inf23) (by decide))) ?_
                refine PG.opg1 _ _ _ _ _ rfl rfl rfl rfl rfl rfl (fun hb => (by rintro _ rfl; exact o_load_adr_L (xs := [_, _, _]) (gdT hb) Try.underlying23 rfl (sz_of Ty.inf23) rfl)) ?_
                refine PG.opg1 _ _ _ _ _ rfl rfl rfl rfl rfl rfl (fun hb => (by rintro _ rfl; exact o_load_ptr_L (xs := [_, _, _]) rfl Try.underlying23 rfl (sz_of Ty.inf23) rfl rfl rfl rfl)) ?_
                refine PG.opg1 _ _ _ _ _ rfl rfl rfl rfl rfl rfl (fun hb => (by rintro _ rfl; exact (by exact o_call (ds := [VD ((qs l).getD k (z0, z0)).1, VD vy]) Ty.cal17 (cmpV_c ((qs l).getD k (z0, z0)).1 vy) ⟨.inl (gdT hb), .inl (gdT hb), trivial⟩ (by exact pua rfl)))) ?_
                refine PG.opg1 _ _ _ _ _ rfl rfl rfl rfl rfl rfl (fun hb => (by rintro _ rfl; exact o_gtI (gdT hb) rfl)) ?_
                refine PG.op _ rfl rfl rfl (by rintro _ rfl; exact o_or _ _ rfl rfl rfl) ?_
                refine PG.nil ⟨by kernel_rfl, rfl, (h34_ _ ?_)⟩
                refine WC.cond _ rfl (fun c23 => ?_) (fun c23 => ?_)
                ·
                  have p23 := c23
                  try simp only [CN] at p23
                  exact absurd ((hS.c k hkl).symm.trans c23) Bool.false_ne_true
                ·
                  have p23 := c23
                  try simp only [CN] at p23
                  refine WC.skip (h33_ _ ?_)
                  refine WC.region ?_
                  refine RG.op _ _ rfl rfl (o_move (.v _) rfl) ?_
                  refine RG.op _ _ rfl rfl (o_add rfl rfl (by first | omega | exact ubyte _ | (simp only [LS, len_pvs, qs_len] <;> omega)) (by first | omega | exact ubyte _ | (simp only [LS, len_pvs, qs_len] <;> omega))) ?_
                  refine RG.op _ _ rfl rfl (o_assign (.v _) rfl) ?_
                  refine RG.nil (Exists.intro (k + 1) ⟨by first | omega | (simp only [LS, len_pvs, qs_len] <;> omega), by first | omega | (simp only [LS, len_pvs, qs_len] <;> omega), ?_⟩)
                  exact .mk' ⟨⟨rfl, .v _⟩, trivial⟩ (by repeat (first | with_reducible exact same_refl _ _ | with_reducible refine same_updO (by with_unfolding_all exact rfl) ?_ | with_reducible refine same_updN ?_ | with_reducible refine same_updL (by with_unfolding_all exact rfl) ?_ | with_reducible refine same_forget (by with_unfolding_all exact rfl) ?_)) (rfl) (by repeat (first | exact trivial | refine And.intro (Nat.le_refl _) ?_ | refine And.intro trivial ?_ | refine And.intro (by show _ ≤ _; (first | omega | (simp only [LS, len_pvs, qs_len] <;> omega))) ?_)) (by repeat (first | exact trivial | refine And.intro (one_ok (.own _ _ _ _ _ (Nat.le_refl _))) ?_ | refine And.intro (okp (by repeat (first | exact pu_pvs _ | exact pu_bytes _ | exact pu_nil | exact pu_vs rfl | exact pu_map (fun _ => .v _) _ | exact pu_vals _ | refine pu_app ?_ ?_ | refine pu_cons (by exact pu_of rfl) ?_))) ?_))
              ·
                have p21 := c21
                try simp only [CN] at p21
                refine WC.exit (h27_ _ ?_)
                refine WC.seq fun Fh35_ h35_ => ?_
                refine WC.region ?_
                refine RG.op _ _ rfl rfl (o_move (.v _) rfl) ?_
                refine RG.op _ _ rfl rfl (o_geI rfl rfl) ?_
                refine RG.op _ _ rfl rfl (o_move (.v _) rfl) ?_
                refine RG.opg1 _ _ _ _ _ rfl rfl rfl rfl rfl (fun hb => o_move (.v _) rfl) ?_
                refine RG.opg1 _ _ _ _ _ rfl rfl rfl rfl rfl (fun hb => o_fld_ptr rfl Try.underlying23 rfl (sz_of Ty.inf2) (by decide)) ?_
                refine RG.opg1 _ _ _ _ _ rfl rfl rfl rfl rfl (fun hb => o_load_ptr (gdT hb) Try.underlying2 rfl rfl rfl rfl) ?_
                refine RG.opg1 _ _ _ _ _ rfl rfl rfl rfl rfl (fun hb => o_ltI (gdT hb) (gdT hb)) ?_
                refine RG.op _ _ rfl rfl (o_and _ _ rfl rfl rfl) ?_
                refine RG.op _ _ rfl rfl (o_move (.v _) rfl) ?_
                refine RG.opg1 _ _ _ _ _ rfl rfl rfl rfl rfl (fun hb => o_fld_ptr rfl Try.underlying23 rfl (sz_of Ty.inf2) (by decide)) ?_
                refine RG.opg1 _ _ _ _ _ rfl rfl rfl rfl rfl (fun hb => o_load_ptr (gdT hb) Try.underlying2 rfl rfl rfl rfl) ?_
                refine RG.opg1 _ _ _ _ _ rfl rfl rfl rfl rfl (fun hb => o_fld_ptr rfl Try.underlying23 rfl (sz_of Ty.inf2) (by decide)) ?_
                refine RG.opg1 _ _ _ _ _ rfl rfl rfl rfl rfl (fun hb => o_load_ptr (gdT hb) Try.underlying2 rfl rfl rfl rfl) ?_
                refine RG.opg1 _ _ _ _ _ rfl rfl rfl rfl rfl (fun hb => o_geI (gdT hb) (gdT hb)) ?_
                refine RG.op _ _ rfl rfl (o_and _ _ rfl rfl rfl) ?_
                refine RG.op _ _ rfl rfl (o_move (.v _) rfl) ?_
                refine RG.opg1 _ _ _ _ _ rfl rfl rfl rfl rfl (fun hb => o_fld_ptr rfl Try.underlying23 rfl (sz_of Ty.inf2) (by decide)) ?_
                refine RG.opg1 _ _ _ _ _ rfl rfl rfl rfl rfl (fun hb => o_load_ptr (gdT hb) Try.underlying2 rfl rfl rfl rfl) ?_
                refine RG.opg1 _ _ _ _ _ rfl rfl rfl rfl rfl (fun hb => o_fld_ptr rfl Try.underlying23 rfl (sz_of Ty.inf2) (by decide)) ?_
                refine RG.opg1 _ _ _ _ _ rfl rfl rfl rfl rfl (fun hb => o_load_ptr (gdT hb) Try.underlying2 rfl rfl rfl rfl) ?_
                refine RG.opg1 _ _ _ _ _ rfl rfl rfl rfl rfl (fun hb => o_leI (gdT hb) (gdT hb)) ?_
                refine RG.op _ _ rfl rfl (o_and _ _ rfl rfl rfl) ?_
                refine RG.op _ _ rfl rfl (o_move (.v _) rfl) ?_
                refine RG.opg1 _ _ _ _ _ rfl rfl rfl rfl rfl (fun hb => o_call Ty.cal12 (wakes_c) trivial (by exact pua rfl)) ?_
                refine RG.op _ _ rfl rfl (o_and _ _ rfl rfl rfl) ?_
                refine RG.op _ _ rfl rfl (o_assign (.v _) rfl) ?_
                refine RG.nil (h35_ _ ?_)
                refine WC.ret ?_
                exact Ends.r1 rfl (.tmp _ (.v _) rfl) (.v _) (congrArg Bo (by rw [decide_eq_true hS.r1, decide_eq_true (show vs.i - va.i * (l.length : Int) < (iV (l.length : Int)).i from hS.r2), decide_eq_true hS.r3, decide_eq_true hS.r4]; rfl))
theorem bounds_r (l : List Int) (hl : (∀ x ∈ l, -9223372036854775808 ≤ x ∧ x ≤ 9223372036854775807) ∧ l.length ≤ 9223372036854775807) : Fun Try.prog 5 [rdI l] (· = Bo true) := bounds_c l hl.2
end Go.Proofs.Ytpacdeiaimfiaaa
