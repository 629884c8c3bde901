/-
  Layer ints: the document's Put, by runs of all changes. No condition.
-/
import Derived.Test.YtbdibcpenihpdaaI4
import Derived.Test.YtbdibcpenihpdaaDlU
set_option linter.unusedSimpArgs false
set_option linter.unusedVariables false
namespace Go.Proofs.Ytbdibcpenihpdaa
open Go.RowKit Go.DL

/-- Runs, each told at its last one. -/
def rN : List Nat → Nat → List (Nat × Int)
  | [], _ => []
  | x :: r, n => if r.head? = some x then rN r (n + 1) else (n + 1, sgn x) :: rN r 0
def cN (l : List Int) : List Nat := chgs l l.length
theorem rN_on {c : List Nat} {i n : Nat} (h : i + 1 < c.length) (he : c.getD (i + 1) 0 = c.getD i 0) : rN (c.drop i) n = rN (c.drop (i + 1)) (n + 1) := by
  have h0 : i < c.length := by omega
  rw [List.drop_eq_getElem_cons h0, rN, if_pos]
  rw [List.head?_drop, List.getElem?_eq_getElem h]
  simpa [List.getD, h, h0] using he
theorem rN_emit {c : List Nat} {i n : Nat} (h0 : i < c.length) (he : i + 1 < c.length → ¬ c.getD (i + 1) 0 = c.getD i 0) : rN (c.drop i) n = (n + 1, sgn (c.getD i 0)) :: rN (c.drop (i + 1)) 0 := by
  rw [List.drop_eq_getElem_cons h0, rN, if_neg]
  · simp [List.getD, h0]
  · intro hh
    rw [List.head?_drop] at hh
    have h : i + 1 < c.length := (List.getElem?_eq_some_iff.1 hh).1
    rw [List.getElem?_eq_getElem h] at hh
    exact he h (by simpa [List.getD, h, h0] using hh)
theorem sgn_rng {n : Nat} (h : n ≤ 18446744073709551615) : -9223372036854775808 ≤ sgn n ∧ sgn n ≤ 9223372036854775807 := by unfold sgn; split <;> omega
theorem chg_le (l : List Int) (i : Nat) : chg l i ≤ 18446744073709551615 := sbN_le _ _
theorem cN_le (l : List Int) (i : Nat) : (cN l).getD i 0 ≤ 18446744073709551615 := by
  unfold cN chgs
  rw [List.getD_eq_getElem?_getD, List.getElem?_map]
  cases (List.range l.length)[i]? with
  | none => exact Nat.zero_le _
  | some j => exact chg_le l j
theorem cN_c (l : List Int) (hl : l.length ≤ 1099511627776) : Fun Try.prog 41 [rdI l] (· = rdU (cN l)) := changes_c l hl
set_option maxHeartbeats 4000000 in
theorem rput5_c (l : List Int) (hl : l.length ≤ 1099511627775) : Fun Try.prog 25 [rdI l] (· = rdB ((rN (cN l) 0).flatMap encP)) := by
  have hcl : (cN l).length = l.length := chgs_len _ _
  refine Fun.of Try.func25 rfl (Nat.le_of_ble_eq_true rfl) fun C => ?_
  refine WC.seq fun Fh1_ h1_ => ?_
  refine WC.region ?_
  refine RG.op _ _ rfl rfl (o_assign (.v _) rfl) ?_
  refine RG.nil (h1_ _ ?_)
  refine WC.seq fun Fh2_ h2_ => ?_
  refine WC.region ?_
  refine RG.op _ _ rfl rfl (o_move (.rd _ _) rfl) ?_
  refine RG.op _ _ rfl rfl (o_call Ty.cal41 (cN_c _ (by first | omega | exact ubyte _ | (simp only [LS] <;> omega))) ⟨.inl rfl, trivial⟩ (by exact pua rfl)) ?_
  refine RG.op _ _ rfl rfl (o_assign (.rd _ _) rfl) ?_
  refine RG.nil (h2_ _ ?_)
  refine WC.seq fun Fh3_ h3_ => ?_
  refine WC.region ?_
  refine RG.op _ _ rfl rfl (o_nil 5 1) ?_
  refine RG.nil (h3_ _ ?_)
  refine WC.seq fun Fh4_ h4_ => ?_
  refine WC.region ?_
  refine RG.op _ _ rfl rfl (o_assign (N64 0) rfl) ?_
  refine RG.nil (h4_ _ ?_)
  refine WC.seq fun Fh5_ h5_ => ?_
  refine WC.seq fun Fh6_ h6_ => ?_
  refine WC.region ?_
  refine RG.op _ _ rfl rfl (o_assign (.v _) rfl) ?_
  refine RG.nil (h6_ _ ?_)
  refine WC.block ?_
  refine WC.loopU [4, 5, 6, 9, 10, 11, 12, 13, 14, 15, 16, 17, 18, 19, 20, 21, 22, 23, 24, 25, 26, 27, 28, 29, 30, 31, 32, 33, 34, 35, 36, 37, 38, 39, 40, 41, 42, 43, 44, 45, 46] (fun (p : Nat × Nat × List (Nat × Int)) => [(6, I64 ((p.1 : Nat) : Int)), (5, N64 p.2.1), (4, ow 0 (p.2.2.flatMap encP).length 1)]) (fun (p : Nat × Nat × List (Nat × Int)) => [(0, tb 5 (p.2.2.flatMap encP).length (bytesD (p.2.2.flatMap encP)))]) (fun (p : Nat × Nat × List (Nat × Int)) => p.1 ≤ (cN l).length ∧ p.2.1 ≤ p.1 ∧ (p.2.2.flatMap encP).length ≤ 20 * p.1 ∧ rN (cN l) 0 = p.2.2 ++ rN ((cN l).drop p.1) p.2.1) (fun (p : Nat × Nat × List (Nat × Int)) => (cN l).length - p.1) (0, 0, []) ⟨Nat.zero_le _, Nat.le_refl _, Nat.le_refl _, rfl⟩ ?lpa7_ ?lpb8_
  case lpa7_ =>
    exact .mk' ⟨⟨rfl, .v _⟩, ⟨rfl, .v _⟩, ⟨rfl, (by first | exact .own _ _ _ _ _ (Nat.le_refl _) | exact .ptr _ _ _ (Nat.le_refl _) | exact .omp _ _ (Nat.le_refl _))⟩, trivial⟩ (same_refl _ _) (rfl) (by repeat (first | exact trivial | refine And.intro (Nat.le_refl _) ?_ | refine And.intro trivial ?_ | refine And.intro (by show _ ≤ _; (first | omega | (simp only [LS] <;> omega))) ?_)) (by repeat (first | exact trivial | refine And.intro (one_ok (.own _ _ _ _ _ (Nat.le_refl _))) ?_ | refine And.intro (okp (by repeat (first | exact pu_bytes _ | exact pu_nil | exact pu_vs rfl | exact pu_map (fun _ => .v _) _ | exact pu_vals _ | refine pu_app ?_ ?_ | refine pu_cons (by exact pu_of rfl) ?_))) ?_))
  case lpb8_ =>
    rintro p hI
    have hk1 := hI.1
    have hk2 := hI.2.1
    have hk3 := hI.2.2.1
    have hk4 := hI.2.2.2
    refine WC.seq fun Fh9_ h9_ => ?_
    refine WC.seq fun Fh10_ h10_ => ?_
    refine WC.region ?_
    refine RG.op _ _ rfl rfl (o_move (.v _) rfl) ?_
    refine RG.op _ _ rfl rfl (o_move (.rd _ _) rfl) ?_
    refine RG.op _ _ rfl rfl (o_len_rd rfl Try.underlying75) ?_
    refine RG.op _ _ rfl rfl (o_ltI rfl rfl) ?_
    refine RG.nil (h10_ _ ?_)
    refine WC.cond _ rfl (fun c5 => ?_) (fun c5 => ?_)
    ·
      have p5 := c5
      try simp only [CN] at p5
      have hlt : p.1 < (cN l).length := by omega
      have hg : (cN l)[p.1]'hlt = (cN l).getD p.1 0 := by simp [List.getD, hlt]
      have hc1 : (cN l)[p.1]'hlt ≤ 18446744073709551615 := by rw [hg]; exact cN_le l p.1
      have hc2 := sgn_rng hc1
      have hc3 := zig_le hc2.1 hc2.2
      have hc4 := encB_len10 hc3
      have hc5 := encB_len10 (u := p.2.1 + 1) (by omega)
      refine WC.skip (h9_ _ ?_)
      refine WC.seq fun Fh11_ h11_ => ?_
      refine WC.block ?_
      refine WC.seq fun Fh12_ h12_ => ?_
      refine WC.region ?_
      refine RG.op _ _ rfl rfl (o_move (.v _) rfl) ?_
      refine RG.op _ _ rfl rfl ((o_addU (b := 1) rfl rfl).cast (congrArg N64 (Nat.mod_eq_of_lt (by omega)))) ?_
      refine RG.op _ _ rfl rfl (o_assign (.v _) rfl) ?_
      refine RG.nil (h12_ _ ?_)
      refine WC.seq fun Fh13_ h13_ => ?_
      refine WC.seq fun Fh14_ h14_ => ?_
      refine WC.drawn1 (by kernel_rfl) ?_
      refine PG.op _ rfl rfl rfl (by rintro _ rfl; exact o_move (.v _) rfl) ?_
      refine PG.op _ rfl rfl rfl (by rintro _ rfl; exact o_add rfl rfl (by first | omega | exact ubyte _ | (simp only [LS] <;> omega)) (by first | omega | exact ubyte _ | (simp only [LS] <;> omega))) ?_
      refine PG.op _ rfl rfl rfl (by rintro _ rfl; exact o_move (.rd _ _) rfl) ?_
      refine PG.op _ rfl rfl rfl (by rintro _ rfl; exact o_len_rd rfl Try.underlying75) ?_
      refine PG.op _ rfl rfl rfl (by rintro _ rfl; exact o_ltI rfl rfl) ?_
      refine PG.op _ rfl rfl rfl (by rintro _ rfl; exact o_move (.v _) rfl) ?_
      refine PG.opg1 _ _ _ _ _ rfl rfl rfl rfl rfl rfl (fun hb => (by rintro _ rfl; exact o_move (.rd _ _) rfl)) ?_
      refine PG.opg1 _ _ _ _ _ rfl rfl rfl rfl rfl rfl (fun hb => (by rintro _ rfl; exact o_move (.v _) rfl)) ?_
      refine PG.opg1 _ _ _ _ _ rfl rfl rfl rfl rfl rfl (fun hb => (by rintro _ rfl; exact o_add (gdT hb) rfl (by first | omega | exact ubyte _ | (have hb' := hb; simp only [CN] at hb'; omega) | (simp only [LS] <;> omega) | (have hb' := hb; simp only [CN] at hb'; simp only [LS]; omega)) (by first | omega | exact ubyte _ | (have hb' := hb; simp only [CN] at hb'; omega) | (simp only [LS] <;> omega) | (have hb' := hb; simp only [CN] at hb'; simp only [LS]; omega)))) ?_
      refine PG.opg1 _ _ _ _ _ rfl rfl rfl rfl rfl rfl (fun hb => (by rintro _ rfl; exact o_ixn_MZ (0 : Nat) (p.1 + 1) (gdT hb) (gdT hb) Try.underlying75 (sz_of Ty.inf72) (by first | omega | exact ubyte _ | (have hb' := hb; simp only [CN] at hb'; omega) | (simp only [LS] <;> omega) | (have hb' := hb; simp only [CN] at hb'; simp only [LS]; omega)) (by first | omega | exact ubyte _ | (have hb' := hb; simp only [CN] at hb'; omega) | (simp only [LS] <;> omega) | (have hb' := hb; simp only [CN] at hb'; simp only [LS]; omega)))) ?_
      refine PG.opg1 _ _ _ _ _ rfl rfl rfl rfl rfl rfl (fun hb => (by rintro _ rfl; exact o_load_adr (gdT hb) Try.underlying72 rfl rfl)) ?_
      refine PG.opg1 _ _ _ _ _ rfl rfl rfl rfl rfl rfl (fun hb => (by rintro _ rfl; exact o_move (.rd _ _) rfl)) ?_
      refine PG.opg1 _ _ _ _ _ rfl rfl rfl rfl rfl rfl (fun hb => (by rintro _ rfl; exact o_move (.v _) rfl)) ?_
      refine PG.opg1 _ _ _ _ _ rfl rfl rfl rfl rfl rfl (fun hb => (by rintro _ rfl; exact o_ixn_MZ (0 : Nat) p.1 (gdT hb) (gdT hb) Try.underlying75 (sz_of Ty.inf72) (by first | omega | exact ubyte _ | (have hb' := hb; simp only [CN] at hb'; omega) | (simp only [LS] <;> omega) | (have hb' := hb; simp only [CN] at hb'; simp only [LS]; omega)) (by first | omega | exact ubyte _ | (have hb' := hb; simp only [CN] at hb'; omega) | (simp only [LS] <;> omega) | (have hb' := hb; simp only [CN] at hb'; simp only [LS]; omega)))) ?_
      refine PG.opg1 _ _ _ _ _ rfl rfl rfl rfl rfl rfl (fun hb => (by rintro _ rfl; exact o_load_adr (gdT hb) Try.underlying72 rfl rfl)) ?_
      refine PG.opg1 _ _ _ _ _ rfl rfl rfl rfl rfl rfl (fun hb => (by rintro _ rfl; exact o_eqI (gdT hb) (gdT hb))) ?_
      refine PG.op _ rfl rfl rfl (by rintro _ rfl; exact o_and _ _ rfl rfl rfl) ?_
      refine PG.nil ⟨by kernel_rfl, rfl, (h14_ _ ?_)⟩
      refine WC.cond _ rfl (fun c8 => ?_) (fun c8 => ?_)
      ·
        have p8 := c8
        try simp only [CN] at p8
        refine WC.exit (h11_ _ ?_)
        refine WC.region ?_
        refine RG.op _ _ rfl rfl (o_move (.v _) rfl) ?_
        refine RG.op _ _ rfl rfl (o_add rfl rfl (by first | omega | exact ubyte _ | (simp only [LS] <;> omega)) (by first | omega | exact ubyte _ | (simp only [LS] <;> omega))) ?_
        refine RG.op _ _ rfl rfl (o_assign (.v _) rfl) ?_
        refine RG.nil (Exists.intro ((p.1 + 1, p.2.1 + 1, p.2.2)) ⟨⟨by show p.1 + 1 ≤ _; omega, by show p.2.1 + 1 ≤ p.1 + 1; omega, (show (p.2.2.flatMap encP).length ≤ 20 * (p.1 + 1) by omega), by rw [hk4]; exact congrArg _ (rN_on (by omega) (by have := p8.2; omega))⟩, (by show _ < _; omega), ?_⟩)
        exact .mk' ⟨⟨rfl, .v _⟩, ⟨rfl, .v _⟩, ⟨rfl, (by first | exact .own _ _ _ _ _ (Nat.le_refl _) | exact .ptr _ _ _ (Nat.le_refl _) | exact .omp _ _ (Nat.le_refl _))⟩, trivial⟩ (by repeat (first | with_reducible exact same_refl _ _ | with_reducible refine same_updO (by with_unfolding_all exact rfl) ?_ | with_reducible refine same_updN ?_ | with_reducible refine same_updL (by with_unfolding_all exact rfl) ?_ | with_reducible refine same_forget (by with_unfolding_all exact rfl) ?_)) (rfl) (by repeat (first | exact trivial | refine And.intro (Nat.le_refl _) ?_ | refine And.intro trivial ?_ | refine And.intro (by show _ ≤ _; (first | omega | (simp only [LS] <;> omega))) ?_)) (by repeat (first | exact trivial | refine And.intro (one_ok (.own _ _ _ _ _ (Nat.le_refl _))) ?_ | refine And.intro (okp (by repeat (first | exact pu_bytes _ | exact pu_nil | exact pu_vs rfl | exact pu_map (fun _ => .v _) _ | exact pu_vals _ | refine pu_app ?_ ?_ | refine pu_cons (by exact pu_of rfl) ?_))) ?_))
      ·
        have p8 := c8
        try simp only [CN] at p8
        have hne : p.1 + 1 < (cN l).length → ¬ (cN l).getD (p.1 + 1) 0 = (cN l).getD p.1 0 := fun h h2 => by rcases p8 with h3 | h3; omega; exact h3 (by rw [h2])
        refine WC.skip (h13_ _ ?_)
        refine WC.seq fun Fh15_ h15_ => ?_
        refine WC.region ?_
        refine RG.op _ _ rfl rfl (o_move (.own _ _ _ _ _) rfl) ?_
        refine RG.op _ _ rfl rfl (o_move (.v _) rfl) ?_
        refine RG.op _ _ rfl rfl (o_call Ty.cal42 (rput_c _ (by first | omega | exact ubyte _ | (simp only [LS] <;> omega))) ⟨.inl rfl, trivial⟩ (by exact pua rfl)) ?_
        refine RG.op _ _ rfl rfl (o_appT (Elem.of Try.underlying22 Ty.inf5 rfl (by decide)) rfl rfl rfl (by first | omega | exact ubyte _ | (simp only [LS] <;> omega)) (by first | omega | exact ubyte _ | (simp only [LS] <;> omega)) (by repeat (first | exact bytesD_one _ | exact one_nil | exact one_map (fun _ => rfl) _ | exact one_vals _ | refine one_app ?_ ?_ | refine one_cons rfl ?_)) (by first | omega | exact ubyte _ | (simp only [LS] <;> omega)) (by first | omega | exact ubyte _ | (simp only [LS] <;> omega))) ?_
        refine RG.op _ _ rfl rfl (o_assign (.own _ _ _ _ _) rfl) ?_
        refine RG.nil (h15_ _ ?_)
        refine WC.seq fun Fh16_ h16_ => ?_
        refine WC.region ?_
        refine RG.op _ _ rfl rfl (o_move (.own _ _ _ _ _) rfl) ?_
        refine RG.op _ _ rfl rfl (o_move (.rd _ _) rfl) ?_
        refine RG.op _ _ rfl rfl (o_move (.v _) rfl) ?_
        refine RG.op _ _ rfl rfl (o_ixn_M p.1 rfl rfl Try.underlying75 (sz_of Ty.inf72) (by first | omega | exact ubyte _ | (simp only [LS] <;> omega)) (by first | omega | exact ubyte _ | (simp only [LS] <;> omega))) ?_
        refine RG.op _ _ rfl rfl (o_load_adr rfl Try.underlying72 rfl rfl) ?_
        refine RG.op _ _ rfl rfl (o_UtoI64 rfl (by first | omega | exact ubyte _ | (simp only [LS] <;> omega)) Try.underlying72 Try.underlying2) ?_
        refine RG.op _ _ rfl rfl (o_call Ty.cal43 (rzig_c _ (by first | omega | exact ubyte _ | (simp only [LS] <;> omega)) (by first | omega | exact ubyte _ | (simp only [LS] <;> omega))) ⟨.inl rfl, trivial⟩ (by exact pua rfl)) ?_
        refine RG.op _ _ rfl rfl (o_call Ty.cal42 (rput_c _ (by first | omega | exact ubyte _ | (simp only [LS] <;> omega))) ⟨.inl rfl, trivial⟩ (by exact pua rfl)) ?_
        refine RG.op _ _ rfl rfl (o_appT (Elem.of Try.underlying22 Ty.inf5 rfl (by decide)) rfl rfl rfl (by first | omega | exact ubyte _ | (simp only [LS] <;> omega)) (by first | omega | exact ubyte _ | (simp only [LS] <;> omega)) (by repeat (first | exact bytesD_one _ | exact one_nil | exact one_map (fun _ => rfl) _ | exact one_vals _ | refine one_app ?_ ?_ | refine one_cons rfl ?_)) (by first | omega | exact ubyte _ | (simp only [LS] <;> omega)) (by first | omega | exact ubyte _ | (simp only [LS] <;> omega))) ?_
        refine RG.op _ _ rfl rfl (o_assign (.own _ _ _ _ _) rfl) ?_
        refine RG.nil (h16_ _ ?_)
        refine WC.region ?_
        refine RG.op _ _ rfl rfl (o_assign (N64 0) rfl) ?_
        refine RG.nil (h11_ _ ?_)
        refine WC.region ?_
        refine RG.op _ _ rfl rfl (o_move (.v _) rfl) ?_
        refine RG.op _ _ rfl rfl (o_add rfl rfl (by first | omega | exact ubyte _ | (simp only [LS] <;> omega)) (by first | omega | exact ubyte _ | (simp only [LS] <;> omega))) ?_
        refine RG.op _ _ rfl rfl (o_assign (.v _) rfl) ?_
        refine RG.nil (Exists.intro ((p.1 + 1, 0, p.2.2 ++ [(p.2.1 + 1, sgn ((cN l)[p.1]'hlt))])) ⟨⟨by show p.1 + 1 ≤ _; omega, Nat.zero_le _, (show ((p.2.2 ++ [(p.2.1 + 1, sgn ((cN l)[p.1]'hlt))]).flatMap encP).length ≤ 20 * (p.1 + 1) by simp only [List.flatMap_append, List.flatMap_singleton, List.length_append, encP]; omega), by rw [hk4, rN_emit hlt hne, ← hg]; simp⟩, (by show _ < _; omega), ?_⟩)
        exact .mk' ⟨⟨rfl, .v _⟩, ⟨rfl, .v _⟩, ⟨ow_eq (by simp [encP]; omega), (by first | exact .own _ _ _ _ _ (Nat.le_refl _) | exact .ptr _ _ _ (Nat.le_refl _) | exact .omp _ _ (Nat.le_refl _))⟩, trivial⟩ (by repeat (first | with_reducible exact same_refl _ _ | with_reducible refine same_updO (by with_unfolding_all exact rfl) ?_ | with_reducible refine same_updN ?_ | with_reducible refine same_updL (by with_unfolding_all exact rfl) ?_ | with_reducible refine same_forget (by with_unfolding_all exact rfl) ?_)) (congrArg (fun c => [c]) (tb_eq (by simp [encP]; omega) (by simp [encP, bytesD_app]))) (by repeat (first | exact trivial | refine And.intro (Nat.le_refl _) ?_ | refine And.intro trivial ?_ | refine And.intro (by show _ ≤ _; (first | omega | (simp only [LS] <;> omega))) ?_)) (by repeat (first | exact trivial | refine And.intro (one_ok (.own _ _ _ _ _ (Nat.le_refl _))) ?_ | refine And.intro (okp (by repeat (first | exact pu_bytes _ | exact pu_nil | exact pu_vs rfl | exact pu_map (fun _ => .v _) _ | exact pu_vals _ | refine pu_app ?_ ?_ | refine pu_cons (by exact pu_of rfl) ?_))) ?_))
    ·
      have p5 := c5
      try simp only [CN] at p5
      refine WC.exit (h5_ _ ?_)
      refine WC.seq fun Fh17_ h17_ => ?_
      refine WC.region ?_
      refine RG.op _ _ rfl rfl (o_move (.own _ _ _ _ _) rfl) ?_
      refine RG.op _ _ rfl rfl (o_assign (.own _ _ _ _ _) rfl) ?_
      refine RG.nil (h17_ _ ?_)
      refine WC.ret ?_
      exact Ends.r1 rfl (.tmp _ (.own _ _ _ _ _) rfl) (.tb rfl (by repeat (first | exact pu_bytes _ | exact pu_nil | exact pu_vs rfl | exact pu_map (fun _ => .v _) _ | exact pu_vals _ | refine pu_app ?_ ?_ | refine pu_cons (by exact pu_of rfl) ?_))) (by have e : rN (cN l) 0 = p.2.2 := (by rw [hk4, List.drop_eq_nil_of_le (by omega), rN, List.append_nil]); rw [e])
end Go.Proofs.Ytbdibcpenihpdaa
