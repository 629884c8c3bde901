/-
  Layer ints: the examples; law IntsPuts. No condition.
-/
import Derived.Test.YtbdibcpenihpdaaI6
import Derived.Test.YtbdibcpenihpdaaDlT
import Derived.Test.YtbdibcpenihpdaaDlK
import Derived.Test.YtbdibcpenihpdaaDlU
set_option linter.unusedSimpArgs false
set_option linter.unusedVariables false
namespace Go.Proofs.Ytbdibcpenihpdaa
open Go.RowKit Go.DL

abbrev ex5 : List Int := [10, 20, 30, 40]
noncomputable def g5 := evCallF EvT.tab (evC EvT.tab 100000) 28 [rdB [1, 20, 3, 0], I64 4] ⟨0, .nil, 0, 0⟩
theorem g5_is : (g5.map fun r => (r.1, (r.2.1.abs)[0]?)) = some (.ret (.tup [.own 0 4 0 4 1, I64 0]), some (some ⟨[I64 10, I64 20, I64 30, I64 40], 2, true, 4⟩)) := by kernel_rfl
theorem get5k : Fun Try.prog 28 [rdB [1, 20, 3, 0], I64 4] (· = .tup [rdI ex5, I64 0]) := by
  have h := g5_is
  cases hg : g5 with
  | none => rw [hg] at h; cases h
  | some r =>
    obtain ⟨o, H', c⟩ := r
    rw [hg] at h
    have h1 := Option.some.inj h
    have ho : o = .ret (.tup [.own 0 4 0 4 1, I64 0]) := congrArg Prod.fst h1
    have hH : (H'.abs)[0]? = some (some ⟨[I64 10, I64 20, I64 30, I64 40], 2, true, 4⟩) := congrArg Prod.snd h1
    obtain ⟨_, _, h3, _⟩ := evCallF_snd (evC_snd EvT.tab 100000) 28 [rdB [1, 20, 3, 0], I64 4] ⟨0, .nil, 0, 0⟩ _ _ _ hg
    refine FunM.fun (h3.mono fun o2 H'' ⟨k1, k2⟩ => ⟨.tup [.own 0 4 0 4 1, I64 0], .tup [rdI ex5, I64 0], k1.trans ho, ?_, rfl⟩)
    subst k2
    refine .tup _ _ rfl fun j c d hc hd => ?_
    match j, hc, hd with
    | 0, hc, hd =>
      cases hc; cases hd
      refine Frz.own 0 0 4 1 ⟨[I64 10, I64 20, I64 30, I64 40], 2, true, 4⟩ _ hH (by decide) fun j c d hc hd => ?_
      match j, hc, hd with
      | 0, hc, hd => cases hc; cases hd; exact .v _
      | 1, hc, hd => cases hc; cases hd; exact .v _
      | 2, hc, hd => cases hc; cases hd; exact .v _
      | 3, hc, hd => cases hc; cases hd; exact .v _
      | j + 4, hc, hd => cases hd
    | 1, hc, hd => cases hc; cases hd; exact .v _
    | j + 2, hc, hd => cases hd
set_option maxHeartbeats 4000000 in
theorem puts5_c : Fun Try.prog 27 [] (· = Bo true) := by
  refine Fun.of Try.func27 rfl (Nat.le_of_ble_eq_true rfl) fun C => ?_
  refine WC.seq fun Fh1_ h1_ => ?_
  refine WC.region ?_
  refine RG.op _ _ rfl rfl (o_assign (.v _) rfl) ?_
  refine RG.nil (h1_ _ ?_)
  refine WC.seq fun Fh2_ h2_ => ?_
  refine WC.region ?_
  refine RG.op _ _ rfl rfl (o_litP (cs := [(B8 1), (B8 20), (B8 3), (B8 0)]) Try.underlying22 Ty.inf5 rfl rfl rfl rfl (by repeat (first | exact pu_bytes _ | exact pu_nil | exact pu_vs rfl | exact pu_map (fun _ => .v _) _ | exact pu_vals _ | refine pu_app ?_ ?_ | refine pu_cons (by exact pu_of rfl) ?_))) ?_
  refine RG.op _ _ rfl rfl (o_call Ty.cal28 (get5k) ⟨.inl rfl, .inl rfl, trivial⟩ (by exact pua rfl)) ?_
  refine RG.op _ _ rfl rfl (o_move (.tup _) rfl) ?_
  refine RG.op _ _ rfl rfl (o_extract rfl rfl) ?_
  refine RG.op _ _ rfl rfl (o_extract rfl rfl) ?_
  refine RG.op _ _ rfl rfl (o_assign (.rd _ _) rfl) ?_
  refine RG.op _ _ rfl rfl (o_assign (.v _) rfl) ?_
  refine RG.nil (h2_ _ ?_)
  refine WC.seq fun Fh3_ h3_ => ?_
  refine WC.region ?_
  refine RG.op _ _ rfl rfl (o_litP (cs := [(.v _), (.v _), (.v _), (.v _)]) Try.underlying41 Ty.inf2 rfl rfl rfl rfl (by repeat (first | exact pu_bytes _ | exact pu_nil | exact pu_vs rfl | exact pu_map (fun _ => .v _) _ | exact pu_vals _ | refine pu_app ?_ ?_ | refine pu_cons (by exact pu_of rfl) ?_))) ?_
  refine RG.op _ _ rfl rfl (o_call Ty.cal24 (iputs_c ex5 (by decide)) ⟨.inl rfl, trivial⟩ (by exact pua rfl)) ?_
  refine RG.op _ _ rfl rfl (o_str_rd rfl Try.underlying22 Try.underlying5 Try.underlying9) ?_
  refine RG.op _ _ rfl rfl (o_eqS' (m := ([1, 20, 3, 0] : List UInt8)) rfl rfl) ?_
  refine RG.op _ _ rfl rfl (o_move (.v _) rfl) ?_
  refine RG.opg1 _ _ _ _ _ rfl rfl rfl rfl rfl (fun hb => o_move (.v _) rfl) ?_
  refine RG.opg1 _ _ _ _ _ rfl rfl rfl rfl rfl (fun hb => o_eqI (gdT hb) rfl) ?_
  refine RG.op _ _ rfl rfl (o_and _ _ rfl rfl rfl) ?_
  refine RG.op _ _ rfl rfl (o_move (.v _) rfl) ?_
  refine RG.opg1 _ _ _ _ _ rfl rfl rfl rfl rfl (fun hb => o_move (.rd _ _) rfl) ?_
  refine RG.opg1 _ _ _ _ _ rfl rfl rfl rfl rfl (fun hb => o_len_rd (gdT hb) Try.underlying41) ?_
  refine RG.opg1 _ _ _ _ _ rfl rfl rfl rfl rfl (fun hb => o_eqI (gdT hb) rfl) ?_
  refine RG.op _ _ rfl rfl (o_and _ _ rfl rfl rfl) ?_
  refine RG.op _ _ rfl rfl (o_move (.v _) rfl) ?_
  refine RG.opg1 _ _ _ _ _ rfl rfl rfl rfl rfl (fun hb => o_move (.rd _ _) rfl) ?_
  refine RG.opg1 _ _ _ _ _ rfl rfl rfl rfl rfl (fun hb => o_ixn_MZ (0 : Int) 3 (gdT hb) rfl Try.underlying41 (sz_of Ty.inf2) (by first | omega | exact ubyte _ | (have hb' := hb; simp only [CN] at hb'; omega) | (simp only [LS] <;> omega) | (have hb' := hb; simp only [CN] at hb'; simp only [LS]; omega)) (by first | omega | exact ubyte _ | (have hb' := hb; simp only [CN] at hb'; omega) | (simp only [LS] <;> omega) | (have hb' := hb; simp only [CN] at hb'; simp only [LS]; omega))) ?_
  refine RG.opg1 _ _ _ _ _ rfl rfl rfl rfl rfl (fun hb => o_load_adr (gdT hb) Try.underlying2 rfl rfl) ?_
  refine RG.opg1 _ _ _ _ _ rfl rfl rfl rfl rfl (fun hb => o_eqI (gdT hb) rfl) ?_
  refine RG.op _ _ rfl rfl (o_and _ _ rfl rfl rfl) ?_
  refine RG.op _ _ rfl rfl (o_assign (.v _) rfl) ?_
  refine RG.nil (h3_ _ ?_)
  refine WC.ret ?_
  exact Ends.r1 rfl (.tmp _ (.v _) rfl) (.v _) (congrArg Bo (by rw [show putI5 ex5 = [1, 20, 3, 0] from putP]; rfl))
set_option maxHeartbeats 4000000 in
theorem iputs_l (l : List Int) (hl : l.length ≤ 9223372036854775807) : Fun Try.prog 9 [rdI l] (· = Bo true) := by
  have hsame : putI5 l = (rN (cN l) 0).flatMap encP := by unfold putI5; rw [runs_same]
  refine Fun.of Try.func9 rfl (Nat.le_of_ble_eq_true rfl) fun C => ?_
  refine WC.seq fun Fh1_ h1_ => ?_
  refine WC.region ?_
  refine RG.op _ _ rfl rfl (o_assign (.v _) rfl) ?_
  refine RG.nil (h1_ _ ?_)
  refine WC.seq fun Fh2_ h2_ => ?_
  refine WC.seq fun Fh3_ h3_ => ?_
  refine WC.region ?_
  refine RG.op _ _ rfl rfl (o_move (.rd _ _) rfl) ?_
  refine RG.op _ _ rfl rfl (o_len_rd rfl Try.underlying41) ?_
  refine RG.op _ _ rfl rfl (o_gtI rfl rfl) ?_
  refine RG.nil (h3_ _ ?_)
  refine WC.cond _ rfl (fun c1 => ?_) (fun c1 => ?_)
  ·
    have p1 := c1
    try simp only [CN] at p1
    refine WC.seq fun Fh4_ h4_ => ?_
    refine WC.region ?_
    refine RG.op _ _ rfl rfl (o_assign (.v _) rfl) ?_
    refine RG.nil (h4_ _ ?_)
    refine WC.ret ?_
    exact Ends.r1 rfl (.tmp _ (.v _) rfl) (.v _) (rfl)
  ·
    have p1 := c1
    try simp only [CN] at p1
    refine WC.skip (h2_ _ ?_)
    refine WC.seq fun Fh5_ h5_ => ?_
    refine WC.region ?_
    refine RG.op _ _ rfl rfl (o_litV (cs := []) 0 Try.underlying41 Ty.inf2 rfl rfl rfl rfl rfl rfl) ?_
    refine RG.op _ _ rfl rfl (o_move (.rd _ _) rfl) ?_
    refine RG.op _ _ rfl rfl (o_appT (Elem.of Try.underlying41 Ty.inf2 rfl (by decide)) rfl rfl rfl (by first | omega | exact ubyte _ | (simp only [LS] <;> omega)) (by first | omega | exact ubyte _ | (simp only [LS] <;> omega)) (by repeat (first | exact bytesD_one _ | exact one_nil | exact one_map (fun _ => rfl) _ | exact one_vals _ | refine one_app ?_ ?_ | refine one_cons rfl ?_)) (by first | omega | exact ubyte _ | (simp only [LS] <;> omega)) (by first | omega | exact ubyte _ | (simp only [LS] <;> omega))) ?_
    refine RG.op _ _ rfl rfl (o_assign (.own _ _ _ _ _) rfl) ?_
    refine RG.nil (h5_ _ ?_)
    refine WC.seq fun Fh6_ h6_ => ?_
    refine WC.frz 0 _ [(3, rdI l)] rfl (by repeat (first | exact pu_bytes _ | exact pu_nil | exact pu_vs rfl | exact pu_map (fun _ => .v _) _ | exact pu_vals _ | refine pu_app ?_ ?_ | refine pu_cons (by exact pu_of rfl) ?_)) ⟨.rowE rfl (by first | rfl | simp) (by first | rfl | simp [bytesD]), trivial⟩ ?_
    refine WC.drawn1 (by kernel_rfl) ?_
    refine PG.op _ rfl rfl rfl (by rintro _ rfl; exact o_move (.rd _ _) rfl) ?_
    refine PG.op _ rfl rfl rfl (by rintro _ rfl; exact o_call Ty.cal24 (iputs_c _ (by first | omega | exact ubyte _ | (simp only [LS] <;> omega))) ⟨.inl rfl, trivial⟩ (by exact pua rfl)) ?_
    refine PG.op _ rfl rfl rfl (by rintro _ rfl; exact o_str_rd rfl Try.underlying22 Try.underlying5 Try.underlying9) ?_
    refine PG.op _ rfl rfl rfl (by rintro _ rfl; exact o_move (.rd _ _) rfl) ?_
    refine PG.op _ rfl rfl rfl (by rintro _ rfl; exact o_call Ty.cal25 (rput5_c _ (by first | omega | exact ubyte _ | (simp only [LS] <;> omega))) ⟨.inl rfl, trivial⟩ (by exact pua rfl)) ?_
    refine PG.op _ rfl rfl rfl (by rintro _ rfl; exact o_str_rd rfl Try.underlying22 Try.underlying5 Try.underlying9) ?_
    refine PG.op _ rfl rfl rfl (by rintro _ rfl; exact o_eqS' rfl rfl) ?_
    refine PG.op _ rfl rfl rfl (by rintro _ rfl; exact o_move (.v _) rfl) ?_
    refine PG.opg1 _ _ _ _ _ rfl rfl rfl rfl rfl rfl (fun hb => (by rintro _ rfl; exact o_move (.rd _ _) rfl)) ?_
    refine PG.opg1 _ _ _ _ _ rfl rfl rfl rfl rfl rfl (fun hb => (by rintro _ rfl; exact o_move (.rd _ _) rfl)) ?_
    refine PG.opg1 _ _ _ _ _ rfl rfl rfl rfl rfl rfl (fun hb => (by rintro _ rfl; exact o_call Ty.cal26 (same5_c _ _ (by first | omega | exact ubyte _ | (have hb' := hb; simp only [CN] at hb'; omega) | (simp only [LS] <;> omega) | (have hb' := hb; simp only [CN] at hb'; simp only [LS]; omega)) (by first | omega | exact ubyte _ | (have hb' := hb; simp only [CN] at hb'; omega) | (simp only [LS] <;> omega) | (have hb' := hb; simp only [CN] at hb'; simp only [LS]; omega))) ⟨.inl (gdT hb), .inl (gdT hb), trivial⟩ (by exact pua rfl))) ?_
    refine PG.op _ rfl rfl rfl (by rintro _ rfl; exact o_and _ _ rfl rfl rfl) ?_
    refine PG.op _ rfl rfl rfl (by rintro _ rfl; exact o_move (.v _) rfl) ?_
    refine PG.opg1 _ _ _ _ _ rfl rfl rfl rfl rfl rfl (fun hb => (by rintro _ rfl; exact o_call Ty.cal27 (puts5_c) trivial (by exact pua rfl))) ?_
    refine PG.op _ rfl rfl rfl (by rintro _ rfl; exact o_and _ _ rfl rfl rfl) ?_
    refine PG.op _ rfl rfl rfl (by rintro _ rfl; exact o_assign (.v _) rfl) ?_
    refine PG.nil ⟨by kernel_rfl, rfl, (h6_ _ ?_)⟩
    refine WC.ret ?_
    exact Ends.r1 rfl (.tmp _ (.v _) rfl) (.v _) (congrArg Bo (by rw [hsame]; simp))
theorem intsR0 : Rds Try.prog 41 (fun l : List Int => (∀ x ∈ l, -9223372036854775808 ≤ x ∧ x ≤ 9223372036854775807) ∧ l.length ≤ 9223372036854775807) (fun l => [D.rd l.length (l.flatMap fun n => [I64 n])]) := by exact Rds.slice Try.underlying41 rfl (Rds.i64 Try.underlying2)
theorem intsR : Rds Try.prog 41 (fun l : List Int => (∀ x ∈ l, -9223372036854775808 ≤ x ∧ x ≤ 9223372036854775807) ∧ l.length ≤ 9223372036854775807) (fun l => [rdI l]) := by
  have e : (fun l : List Int => [D.rd l.length (l.flatMap fun n => [I64 n])]) = fun l => [rdI l] := funext fun l => by
    show [D.rd l.length (l.flatMap fun n => [I64 n])] = [D.rd l.length (l.map I64)]
    rw [← List.map_eq_flatMap]
  rw [← e]; exact @intsR0
theorem iputs_r (l : List Int) (hl : (∀ x ∈ l, -9223372036854775808 ≤ x ∧ x ≤ 9223372036854775807) ∧ l.length ≤ 9223372036854775807) : Fun Try.prog 9 [rdI l] (· = Bo true) := iputs_l l hl.2
end Go.Proofs.Ytbdibcpenihpdaa
