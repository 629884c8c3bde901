/-
  Layer key: the program's Append and After. No condition.
-/
import Derived.Test.YtbdibcpenihpdaaK5
import Derived.Test.YtbdibcpenihpdaaDlU
set_option linter.unusedSimpArgs false
set_option linter.unusedVariables false
namespace Go.Proofs.Ytbdibcpenihpdaa
open Go.RowKit Go.DL

theorem caseA {v : Val} (h : v = ⟨0, 0, []⟩) : mayM v = true ∧ oneM v = [1] := by subst h; exact ⟨rfl, rfl⟩
theorem caseB {v : Val} (h1 : v.k = 1) (h2 : v.t = []) (h3 : v.i = 0 ∨ v.i = 1) : mayM v = true ∧ oneM v = [2, UInt8.ofNat (v.i % 256).toNat] := by
  obtain ⟨k, i, t⟩ := v
  simp only at h1 h2 h3
  subst h1 h2
  rcases h3 with rfl | rfl <;> exact ⟨rfl, rfl⟩
theorem caseC {v : Val} (h1 : v.k = 2) (h2 : v.t = []) : mayM v = true ∧ oneM v = 3 :: hi8 (keyI v.i) := by
  obtain ⟨k, i, t⟩ := v
  simp only at h1 h2
  subst h1 h2
  exact ⟨rfl, rfl⟩
theorem caseD {v : Val} (h1 : v.k = 3) (h2 : v.i = 0) : mayM v = true ∧ oneM v = 4 :: (escM v.t ++ [0, 1]) := by
  obtain ⟨k, i, t⟩ := v
  simp only at h1 h2
  subst h1 h2
  exact ⟨rfl, rfl⟩
theorem caseE {v : Val} (hA : ¬ v = ⟨0, 0, []⟩) (hB : (¬ v.k = 1 ∨ ¬ v.t = []) ∨ ¬ v.i = 0 ∧ ¬ v.i = 1) (hC : ¬ v.k = 2 ∨ ¬ v.t = []) (hD : ¬ v.k = 3 ∨ ¬ v.i = 0) : mayM v = false := by
  obtain ⟨k, i, t⟩ := v
  simp only [Val.mk.injEq] at *
  cases h : mayM ⟨k, i, t⟩ with
  | false => rfl
  | true =>
    exfalso
    unfold mayM at h
    simp only [Bool.and_eq_true, Bool.not_eq_true', Bool.or_eq_false_iff, Bool.and_eq_false_iff, decide_eq_false_iff_not, Bool.or_eq_true, decide_eq_true_eq, beq_iff_eq, bne_eq_false_iff_eq, Bool.not_eq_false'] at h
    obtain ⟨⟨h1, h2⟩, h3⟩ := h
    have hk : k.toNat ≤ 3 := by have : (3 : UInt8).toNat = 3 := rfl; omega
    have h4 : k = 0 ∨ k = 1 ∨ k = 2 ∨ k = 3 := by
      have e : ∀ a b : UInt8, a.toNat = b.toNat → a = b := fun a b => UInt8.toNat_inj.1
      rcases (by omega : k.toNat = 0 ∨ k.toNat = 1 ∨ k.toNat = 2 ∨ k.toNat = 3) with h | h | h | h
      · exact .inl (e _ _ h)
      · exact .inr (.inl (e _ _ h))
      · exact .inr (.inr (.inl (e _ _ h)))
      · exact .inr (.inr (.inr (e _ _ h)))
    rcases h4 with rfl | rfl | rfl | rfl
    · rcases h2 with h2 | h2
      · cases h2
      · rcases h3 with (h3 | h3) | h3
        · cases h3
        · exact hA ⟨rfl, h3, h2⟩
        · cases h3.1
    · rcases h2 with h2 | h2
      · cases h2
      · rcases hB with (hB | hB) | hB
        · exact hB rfl
        · exact hB h2
        · rcases h3 with (h3 | h3) | h3
          · cases h3
          · exact hB.1 h3
          · exact hB.2 h3.2
    · rcases h2 with h2 | h2
      · cases h2
      · rcases hC with hC | hC
        · exact hC rfl
        · exact hC h2
    · have hD : ¬ i = 0 := by rcases hD with hD | hD; exact absurd rfl hD; exact hD
      apply hD
      rcases h3 with (h3 | h3) | h3
      · cases h3
      · exact h3
      · cases h3.1
set_option maxHeartbeats 4000000 in
theorem app_c (b : List UInt8) (l : List Val) (hs : b.length + szM l ≤ 1099511627776) : Fun Try.prog 54 [rdB b, rdV l] (· = resA (appM b l)) := by
  refine Fun.of Try.func54 rfl (Nat.le_of_ble_eq_true rfl) fun C => ?_
  refine WC.seq fun Fh1_ h1_ => ?_
  have hl := szM_ge l
  refine WC.region ?_
  refine RG.op _ _ rfl rfl (o_assign (.v _) rfl) ?_
  refine RG.op _ _ rfl rfl (o_assign (.v _) rfl) ?_
  refine RG.nil (h1_ _ ?_)
  refine WC.seq fun Fh2_ h2_ => ?_
  refine WC.region ?_
  refine RG.op _ _ rfl rfl (o_move (.rd _ _) rfl) ?_
  refine RG.op _ _ rfl rfl (o_len_rd rfl Try.underlying22) ?_
  refine RG.op _ _ rfl rfl (o_move (.rd _ _) rfl) ?_
  refine RG.op _ _ rfl rfl (o_len_rd rfl Try.underlying22) ?_
  refine RG.op _ _ rfl rfl (o_move (.rd _ _) rfl) ?_
  refine RG.op _ _ rfl rfl (o_len_rd rfl Try.underlying23) ?_
  refine RG.op _ _ rfl rfl (o_mul rfl rfl (by first | omega | exact ubyte _ | (simp only [LS, hi8_len] <;> omega)) (by first | omega | exact ubyte _ | (simp only [LS, hi8_len] <;> omega))) ?_
  refine RG.op _ _ rfl rfl (o_add rfl rfl (by first | omega | exact ubyte _ | (simp only [LS, hi8_len] <;> omega)) (by first | omega | exact ubyte _ | (simp only [LS, hi8_len] <;> omega))) ?_
  refine RG.op _ _ rfl rfl (o_makeT b.length b.length (b.length + (9 * l.length)) rfl rfl Try.underlying22 Ty.inf5 rfl rfl (by first | omega | exact ubyte _ | (simp only [LS, hi8_len] <;> omega)) (by first | omega | exact ubyte _ | (simp only [LS, hi8_len] <;> omega)) (by first | omega | exact ubyte _ | (simp only [LS, hi8_len] <;> omega)) (by first | omega | exact ubyte _ | (simp only [LS, hi8_len] <;> omega)) (by first | omega | exact ubyte _ | (simp only [LS, hi8_len] <;> omega))) ?_
  refine RG.op _ _ rfl rfl (o_assign (.own _ _ _ _ _) rfl) ?_
  refine RG.nil (h2_ _ ?_)
  refine WC.seq fun Fh3_ h3_ => ?_
  refine WC.region ?_
  refine RG.op _ _ rfl rfl (o_move (.own _ _ _ _ _) rfl) ?_
  refine RG.op _ _ rfl rfl (o_move (.rd _ _) rfl) ?_
  refine RG.op _ _ rfl rfl (o_copyA rfl rfl Try.underlying22 (sz_of Ty.inf5) rfl rfl (by first | omega | exact ubyte _ | (simp only [LS, hi8_len] <;> omega)) rfl (by first | omega | exact ubyte _ | (simp only [LS, hi8_len] <;> omega)) (by repeat (first | exact bytesD_one _ | exact one_nil | exact one_map (fun _ => rfl) _ | exact one_vals _ | refine one_app ?_ ?_ | refine one_cons rfl ?_))) ?_
  refine RG.nil (h3_ _ ?_)
  refine WC.seq fun Fh4_ h4_ => ?_
  refine WC.seq fun Fh5_ h5_ => ?_
  refine WC.region ?_
  refine RG.op _ _ rfl rfl (o_move (.rd _ _) rfl) ?_
  refine RG.op _ _ rfl rfl (o_len_rd rfl Try.underlying23) ?_
  refine RG.op _ _ rfl rfl (o_move (.v _) rfl) ?_
  refine RG.nil (h5_ _ ?_)
  refine WC.block ?_
  refine WC.loopU [4, 5, 6, 8, 23, 24, 25, 26, 27, 28, 29, 30, 31, 32, 33, 34, 35, 36, 37, 38, 39, 40, 41, 42, 43, 44, 45, 46, 47, 48, 49, 50, 51, 52, 53, 54, 55, 56, 57, 58, 59, 60, 61, 62, 63, 64, 65, 66, 67, 68, 69, 70, 71, 72, 73, 74, 75, 76, 77, 78, 79, 80, 81, 82, 83, 84, 85] (fun (k : Nat) => [(23, I64 ((k : Nat) : Int)), (6, ow 0 (b ++ (l.take k).flatMap oneM).length 1)]) (fun (k : Nat) => [(0, tb 5 (b ++ (l.take k).flatMap oneM).length (bytesD (b ++ (l.take k).flatMap oneM)))]) (fun (k : Nat) => k ≤ l.length ∧ (l.take k).all mayM = true) (fun (k : Nat) => l.length - k) 0 ⟨by omega, rfl⟩ ?lpa6_ ?lpb7_
  case lpa6_ =>
    exact .mk' ⟨⟨rfl, .v _⟩, ⟨ow_eq (by simp), (by first | exact .own _ _ _ _ _ (Nat.le_refl _) | exact .ptr _ _ _ (Nat.le_refl _) | exact .omp _ _ (Nat.le_refl _))⟩, trivial⟩ (same_refl _ _) (congrArg (fun c => [c]) (tb_eq (by simp) (by simp))) (by repeat (first | exact trivial | refine And.intro (Nat.le_refl _) ?_ | refine And.intro trivial ?_ | refine And.intro (by show _ ≤ _; (first | omega | (simp only [LS, hi8_len] <;> omega))) ?_)) (by repeat (first | exact trivial | refine And.intro (okp (by repeat (first | exact pu_bytes _ | exact pu_nil | exact pu_vs rfl | exact pu_map (fun _ => .v _) _ | exact pu_vals _ | refine pu_app ?_ ?_ | refine pu_cons (by exact pu_of rfl) ?_))) ?_))
  case lpb7_ =>
    rintro k hI
    obtain ⟨hk, ha⟩ := id hI
    have h1 := ones_len (l.take k)
    refine WC.seq fun Fh8_ h8_ => ?_
    refine WC.region ?_
    refine RG.op _ _ rfl rfl (o_ltI rfl rfl) ?_
    refine RG.nil (h8_ _ ?_)
    refine WC.seq fun Fh9_ h9_ => ?_
    refine WC.cond _ rfl (fun c4 => ?_) (fun c4 => ?_)
    ·
      have p4 := c4
      try simp only [CN] at p4
      have hkl : k < l.length := by omega
      have h2 := szM_step hkl
      have h3 := szM_take l (k + 1)
      have h4 := oneM_len l[k]
      refine WC.skip (h9_ _ ?_)
      refine WC.seq fun Fh10_ h10_ => ?_
      refine WC.block ?_
      refine WC.seq fun Fh11_ h11_ => ?_
      refine WC.region ?_
      refine RG.op _ _ rfl rfl (o_ixn_L k vc_len rfl rfl rfl Try.underlying23 (sz_of Ty.inf37) (by first | omega | exact ubyte _ | (simp only [LS, hi8_len] <;> omega)) (by first | omega | exact ubyte _ | (simp only [LS, hi8_len] <;> omega))) ?_
      refine RG.op _ _ rfl rfl (o_load_adr_L (xs := [_, _, _]) rfl Try.underlying37 rfl (sz_of Ty.inf37) rfl) ?_
      refine RG.op _ _ rfl rfl (o_alloc (z_of Ty.inf37) rfl) ?_
      refine RG.op _ _ rfl rfl (o_store (d := (.agg [_, _, _])) rfl rfl rfl rfl (sz_of Ty.inf37) (Nat.le_of_ble_eq_true rfl) rfl) ?_
      refine RG.nil (h11_ _ ?_)
      refine WC.block ?_
      refine WC.seq fun Fh12_ h12_ => ?_
      refine WC.region ?_
      refine RG.op _ _ rfl rfl (o_load_ptr_L (xs := [_, _, _]) rfl Try.underlying37 rfl (sz_of Ty.inf37) rfl rfl rfl rfl) ?_
      refine RG.op _ _ rfl rfl (o_build (cs := [B8 0, I64 0, S []]) Try.underlying37 Ty.inf37 (Ty.pl37 Try.underlying37) rfl) ?_
      refine RG.op _ _ rfl rfl (o_eqV Ty.fs37 rfl rfl) ?_
      refine RG.op _ _ rfl rfl (o_assign (.v _) rfl) ?_
      refine RG.nil (h12_ _ ?_)
      refine WC.cond _ rfl (fun c7 => ?_) (fun c7 => ?_)
      ·
        have p7 := c7
        try simp only [CN] at p7
        have hcase := caseA (v := l[k]) p7
        refine WC.region ?_
        refine RG.op _ _ rfl rfl (o_move (.own _ _ _ _ _) rfl) ?_
        refine RG.op _ _ rfl rfl (o_litP (cs := [(B8 1)]) Try.underlying22 Ty.inf5 rfl rfl rfl rfl (by repeat (first | exact pu_bytes _ | exact pu_nil | exact pu_vs rfl | exact pu_map (fun _ => .v _) _ | exact pu_vals _ | refine pu_app ?_ ?_ | refine pu_cons (by exact pu_of rfl) ?_))) ?_
        refine RG.op _ _ rfl rfl (o_appT (Elem.of Try.underlying22 Ty.inf5 rfl (by decide)) rfl rfl rfl (by first | omega | exact ubyte _ | (simp only [LS, hi8_len] <;> omega)) (by first | omega | exact ubyte _ | (simp only [LS, hi8_len] <;> omega)) (by repeat (first | exact bytesD_one _ | exact one_nil | exact one_map (fun _ => rfl) _ | exact one_vals _ | refine one_app ?_ ?_ | refine one_cons rfl ?_)) (by first | omega | exact ubyte _ | (simp only [LS, hi8_len] <;> omega)) (by first | omega | exact ubyte _ | (simp only [LS, hi8_len] <;> omega))) ?_
        refine RG.op _ _ rfl rfl (o_assign (.own _ _ _ _ _) rfl) ?_
        refine RG.nil (h10_ _ ?_)
        refine WC.region ?_
        refine RG.op _ _ rfl rfl (o_add rfl rfl (by first | omega | exact ubyte _ | (simp only [LS, hi8_len] <;> omega)) (by first | omega | exact ubyte _ | (simp only [LS, hi8_len] <;> omega))) ?_
        refine RG.op _ _ rfl rfl (o_move (.v _) rfl) ?_
        refine RG.nil (Exists.intro (k + 1) ⟨⟨by omega, all_step hkl ha hcase.1⟩, by first | omega | (simp only [LS, hi8_len] <;> omega), ?_⟩)
        exact .mk' ⟨⟨rfl, .v _⟩, ⟨ow_eq (by rw [ones_step hkl, hcase.2, ← List.append_assoc, List.length_append (bs := _ :: _)] <;> rfl), (by first | exact .own _ _ _ _ _ (Nat.le_refl _) | exact .ptr _ _ _ (Nat.le_refl _) | exact .omp _ _ (Nat.le_refl _))⟩, trivial⟩ (by repeat (first | with_reducible exact same_refl _ _ | with_reducible refine same_updO (by with_unfolding_all exact rfl) ?_ | with_reducible refine same_updN ?_ | with_reducible refine same_updL (by with_unfolding_all exact rfl) ?_ | with_reducible refine same_forget (by with_unfolding_all exact rfl) ?_)) (congrArg (fun c => [c]) (tb_eq (by rw [ones_step hkl, hcase.2, ← List.append_assoc, List.length_append (bs := _ :: _)] <;> rfl) (by rw [ones_step hkl, hcase.2, ← List.append_assoc] <;> first | rfl | exact (bytesD_app _ [1]).symm | exact (bytesD_app _ [2, UInt8.ofNat (l[k].i % 256).toNat]).symm))) (by repeat (first | exact trivial | refine And.intro (Nat.le_refl _) ?_ | refine And.intro trivial ?_ | refine And.intro (by show _ ≤ _; (first | omega | (simp only [LS, hi8_len] <;> omega))) ?_)) (by repeat (first | exact trivial | refine And.intro (okp (by repeat (first | exact pu_bytes _ | exact pu_nil | exact pu_vs rfl | exact pu_map (fun _ => .v _) _ | exact pu_vals _ | refine pu_app ?_ ?_ | refine pu_cons (by exact pu_of rfl) ?_))) ?_))
      ·
        have p7 := c7
        try simp only [CN] at p7
        refine WC.seq fun Fh13_ h13_ => ?_
        refine WC.region ?_
        refine RG.op _ _ rfl rfl (o_fld_ptr rfl Try.underlying37 rfl (sz_of Ty.inf5) (by decide)) ?_
        refine RG.op _ _ rfl rfl (o_load_ptr rfl Try.underlying5 rfl rfl rfl rfl) ?_
        refine RG.op _ _ rfl rfl (o_eqB (b := 1) rfl rfl) ?_
        refine RG.op _ _ rfl rfl (o_move (.v _) rfl) ?_
        refine RG.opg1 _ _ _ _ _ rfl rfl rfl rfl rfl (fun hb => o_fld_ptr rfl Try.underlying37 rfl (sz_of Ty.inf9) (by decide)) ?_
        refine RG.opg1 _ _ _ _ _ rfl rfl rfl rfl rfl (fun hb => o_load_ptr (gdT hb) Try.underlying9 rfl rfl rfl rfl) ?_
        refine RG.opg1 _ _ _ _ _ rfl rfl rfl rfl rfl (fun hb => o_eqS' (m := ([] : List UInt8)) (gdT hb) rfl) ?_
        refine RG.op _ _ rfl rfl (o_and _ _ rfl rfl rfl) ?_
        refine RG.op _ _ rfl rfl (o_move (.v _) rfl) ?_
        refine RG.opg1 _ _ _ _ _ rfl rfl rfl rfl rfl (fun hb => o_fld_ptr rfl Try.underlying37 rfl (sz_of Ty.inf2) (by decide)) ?_
        refine RG.opg1 _ _ _ _ _ rfl rfl rfl rfl rfl (fun hb => o_load_ptr (gdT hb) Try.underlying2 rfl rfl rfl rfl) ?_
        refine RG.opg1 _ _ _ _ _ rfl rfl rfl rfl rfl (fun hb => o_eqI (gdT hb) rfl) ?_
        refine RG.opg1 _ _ _ _ _ rfl rfl rfl rfl rfl (fun hb => o_move (.v _) (gdT hb)) ?_
        refine RG.opg2 _ _ _ _ _ _ rfl rfl rfl rfl rfl (fun hb => o_fld_ptr rfl Try.underlying37 rfl (sz_of Ty.inf2) (by decide)) ?_
        refine RG.opg2 _ _ _ _ _ _ rfl rfl rfl rfl rfl (fun hb => o_load_ptr (gdT hb) Try.underlying2 rfl rfl rfl rfl) ?_
        refine RG.opg2 _ _ _ _ _ _ rfl rfl rfl rfl rfl (fun hb => o_eqI (gdT hb) rfl) ?_
        refine RG.opg1 _ _ _ _ _ rfl rfl rfl rfl rfl (fun hb => o_or _ _ (gdT hb) rfl (gdS hb)) ?_
        refine RG.op _ _ rfl rfl (o_and _ _ rfl rfl rfl) ?_
        refine RG.op _ _ rfl rfl (o_assign (.v _) rfl) ?_
        refine RG.nil (h13_ _ ?_)
        refine WC.cond _ rfl (fun c9 => ?_) (fun c9 => ?_)
        ·
          have p9 := c9
          try simp only [CN] at p9
          have hcase := caseB (v := l[k]) p9.1.1 p9.1.2 p9.2
          refine WC.region ?_
          refine RG.op _ _ rfl rfl (o_move (.own _ _ _ _ _) rfl) ?_
          refine RG.op _ _ rfl rfl (o_fld_ptr rfl Try.underlying37 rfl (sz_of Ty.inf2) (by decide)) ?_
          refine RG.op _ _ rfl rfl (o_load_ptr rfl Try.underlying2 rfl rfl rfl rfl) ?_
          refine RG.op _ _ rfl rfl (o_ItoB rfl Try.underlying2 Try.underlying5) ?_
          refine RG.op _ _ rfl rfl (o_litP (cs := [(B8 2), (.v _)]) Try.underlying22 Ty.inf5 rfl rfl rfl rfl (by repeat (first | exact pu_bytes _ | exact pu_nil | exact pu_vs rfl | exact pu_map (fun _ => .v _) _ | exact pu_vals _ | refine pu_app ?_ ?_ | refine pu_cons (by exact pu_of rfl) ?_))) ?_
          refine RG.op _ _ rfl rfl (o_appT (Elem.of Try.underlying22 Ty.inf5 rfl (by decide)) rfl rfl rfl (by first | omega | exact ubyte _ | (simp only [LS, hi8_len] <;> omega)) (by first | omega | exact ubyte _ | (simp only [LS, hi8_len] <;> omega)) (by repeat (first | exact bytesD_one _ | exact one_nil | exact one_map (fun _ => rfl) _ | exact one_vals _ | refine one_app ?_ ?_ | refine one_cons rfl ?_)) (by first | omega | exact ubyte _ | (simp only [LS, hi8_len] <;> omega)) (by first | omega | exact ubyte _ | (simp only [LS, hi8_len] <;> omega))) ?_
          refine RG.op _ _ rfl rfl (o_assign (.own _ _ _ _ _) rfl) ?_
          refine RG.nil (h10_ _ ?_)
          refine WC.region ?_
          refine RG.op _ _ rfl rfl (o_add rfl rfl (by first | omega | exact ubyte _ | (simp only [LS, hi8_len] <;> omega)) (by first | omega | exact ubyte _ | (simp only [LS, hi8_len] <;> omega))) ?_
          refine RG.op _ _ rfl rfl (o_move (.v _) rfl) ?_
          refine RG.nil (Exists.intro (k + 1) ⟨⟨by omega, all_step hkl ha hcase.1⟩, by first | omega | (simp only [LS, hi8_len] <;> omega), ?_⟩)
          exact .mk' ⟨⟨rfl, .v _⟩, ⟨ow_eq (by rw [ones_step hkl, hcase.2, ← List.append_assoc, List.length_append (bs := _ :: _)] <;> rfl), (by first | exact .own _ _ _ _ _ (Nat.le_refl _) | exact .ptr _ _ _ (Nat.le_refl _) | exact .omp _ _ (Nat.le_refl _))⟩, trivial⟩ (by repeat (first | with_reducible exact same_refl _ _ | with_reducible refine same_updO (by with_unfolding_all exact rfl) ?_ | with_reducible refine same_updN ?_ | with_reducible refine same_updL (by with_unfolding_all exact rfl) ?_ | with_reducible refine same_forget (by with_unfolding_all exact rfl) ?_)) (congrArg (fun c => [c]) (tb_eq (by rw [ones_step hkl, hcase.2, ← List.append_assoc, List.length_append (bs := _ :: _)] <;> rfl) (by rw [ones_step hkl, hcase.2, ← List.append_assoc] <;> first | rfl | exact (bytesD_app _ [1]).symm | exact (bytesD_app _ [2, UInt8.ofNat (l[k].i % 256).toNat]).symm))) (by repeat (first | exact trivial | refine And.intro (Nat.le_refl _) ?_ | refine And.intro trivial ?_ | refine And.intro (by show _ ≤ _; (first | omega | (simp only [LS, hi8_len] <;> omega))) ?_)) (by repeat (first | exact trivial | refine And.intro (okp (by repeat (first | exact pu_bytes _ | exact pu_nil | exact pu_vs rfl | exact pu_map (fun _ => .v _) _ | exact pu_vals _ | refine pu_app ?_ ?_ | refine pu_cons (by exact pu_of rfl) ?_))) ?_))
        ·
          have p9 := c9
          try simp only [CN] at p9
          refine WC.seq fun Fh14_ h14_ => ?_
          refine WC.region ?_
          refine RG.op _ _ rfl rfl (o_fld_ptr rfl Try.underlying37 rfl (sz_of Ty.inf5) (by decide)) ?_
          refine RG.op _ _ rfl rfl (o_load_ptr rfl Try.underlying5 rfl rfl rfl rfl) ?_
          refine RG.op _ _ rfl rfl (o_eqB (b := 2) rfl rfl) ?_
          refine RG.op _ _ rfl rfl (o_move (.v _) rfl) ?_
          refine RG.opg1 _ _ _ _ _ rfl rfl rfl rfl rfl (fun hb => o_fld_ptr rfl Try.underlying37 rfl (sz_of Ty.inf9) (by decide)) ?_
          refine RG.opg1 _ _ _ _ _ rfl rfl rfl rfl rfl (fun hb => o_load_ptr (gdT hb) Try.underlying9 rfl rfl rfl rfl) ?_
          refine RG.opg1 _ _ _ _ _ rfl rfl rfl rfl rfl (fun hb => o_eqS' (m := ([] : List UInt8)) (gdT hb) rfl) ?_
          refine RG.op _ _ rfl rfl (o_and _ _ rfl rfl rfl) ?_
          refine RG.op _ _ rfl rfl (o_assign (.v _) rfl) ?_
          refine RG.nil (h14_ _ ?_)
          refine WC.cond _ rfl (fun c11 => ?_) (fun c11 => ?_)
          ·
            have p11 := c11
            try simp only [CN] at p11
            have hcase := caseC (v := l[k]) p11.1 p11.2
            refine WC.region ?_
            refine RG.op _ _ rfl rfl (o_move (.own _ _ _ _ _) rfl) ?_
            refine RG.op _ _ rfl rfl (o_fld_ptr rfl Try.underlying37 rfl (sz_of Ty.inf2) (by decide)) ?_
            refine RG.op _ _ rfl rfl (o_load_ptr rfl Try.underlying2 rfl rfl rfl rfl) ?_
            refine RG.opM _ _ rfl rfl (x_call Ty.cal57 (FunM.frame (ds := [_, _]) [0] [_] [_] [] (appendInt_c _ _ (by first | omega | exact ubyte _ | (simp only [LS, hi8_len] <;> omega))) (by decide) ⟨rfl, trivial⟩ ⟨.pure (by repeat (first | exact pu_bytes _ | exact pu_nil | exact pu_vs rfl | exact pu_map (fun _ => .v _) _ | exact pu_vals _ | refine pu_app ?_ ?_ | refine pu_cons (by exact pu_of rfl) ?_)), trivial⟩ ⟨.own _ _ _ _ _ rfl, .pure _ (by exact pu_of rfl), trivial⟩ rfl ⟨.pure (by repeat (first | exact pu_bytes _ | exact pu_nil | exact pu_vs rfl | exact pu_map (fun _ => .v _) _ | exact pu_vals _ | refine pu_app ?_ ?_ | refine pu_cons (by exact pu_of rfl) ?_)), trivial⟩ (.own _ _ _ _ _ rfl) rfl) ⟨.inl rfl, .inl rfl, trivial⟩) ?_
            refine RG.op _ _ rfl rfl (o_assign (.own _ _ _ _ _) rfl) ?_
            refine RG.nil (h10_ _ ?_)
            refine WC.region ?_
            refine RG.op _ _ rfl rfl (o_add rfl rfl (by first | omega | exact ubyte _ | (simp only [LS, hi8_len] <;> omega)) (by first | omega | exact ubyte _ | (simp only [LS, hi8_len] <;> omega))) ?_
            refine RG.op _ _ rfl rfl (o_move (.v _) rfl) ?_
            refine RG.nil (Exists.intro (k + 1) ⟨⟨by omega, all_step hkl ha hcase.1⟩, by first | omega | (simp only [LS, hi8_len] <;> omega), ?_⟩)
            exact .mk' ⟨⟨rfl, .v _⟩, ⟨ow_eq (by rw [ones_step hkl, hcase.2, ← List.append_assoc, List.length_append (bs := _ :: _)] <;> rfl), (by first | exact .own _ _ _ _ _ (Nat.le_refl _) | exact .ptr _ _ _ (Nat.le_refl _) | exact .omp _ _ (Nat.le_refl _))⟩, trivial⟩ (by repeat (first | with_reducible exact same_refl _ _ | with_reducible refine same_updO (by with_unfolding_all exact rfl) ?_ | with_reducible refine same_updN ?_ | with_reducible refine same_updL (by with_unfolding_all exact rfl) ?_ | with_reducible refine same_forget (by with_unfolding_all exact rfl) ?_)) (congrArg (fun c => [c]) (tb_eq (by rw [ones_step hkl, hcase.2, ← List.append_assoc, List.length_append (bs := _ :: _)] <;> rfl) (by rw [ones_step hkl, hcase.2, ← List.append_assoc] <;> first | rfl | exact (bytesD_app _ [1]).symm | exact (bytesD_app _ [2, UInt8.ofNat (l[k].i % 256).toNat]).symm))) (by repeat (first | exact trivial | refine And.intro (Nat.le_refl _) ?_ | refine And.intro trivial ?_ | refine And.intro (by show _ ≤ _; (first | omega | (simp only [LS, hi8_len] <;> omega))) ?_)) (by repeat (first | exact trivial | refine And.intro (okp (by repeat (first | exact pu_bytes _ | exact pu_nil | exact pu_vs rfl | exact pu_map (fun _ => .v _) _ | exact pu_vals _ | refine pu_app ?_ ?_ | refine pu_cons (by exact pu_of rfl) ?_))) ?_))
          ·
            have p11 := c11
            try simp only [CN] at p11
            refine WC.seq fun Fh15_ h15_ => ?_
            refine WC.region ?_
            refine RG.op _ _ rfl rfl (o_fld_ptr rfl Try.underlying37 rfl (sz_of Ty.inf5) (by decide)) ?_
            refine RG.op _ _ rfl rfl (o_load_ptr rfl Try.underlying5 rfl rfl rfl rfl) ?_
            refine RG.op _ _ rfl rfl (o_eqB (b := 3) rfl rfl) ?_
            refine RG.op _ _ rfl rfl (o_move (.v _) rfl) ?_
            refine RG.opg1 _ _ _ _ _ rfl rfl rfl rfl rfl (fun hb => o_fld_ptr rfl Try.underlying37 rfl (sz_of Ty.inf2) (by decide)) ?_
            refine RG.opg1 _ _ _ _ _ rfl rfl rfl rfl rfl (fun hb => o_load_ptr (gdT hb) Try.underlying2 rfl rfl rfl rfl) ?_
            refine RG.opg1 _ _ _ _ _ rfl rfl rfl rfl rfl (fun hb => o_eqI (gdT hb) rfl) ?_
            refine RG.op _ _ rfl rfl (o_and _ _ rfl rfl rfl) ?_
            refine RG.op _ _ rfl rfl (o_assign (.v _) rfl) ?_
            refine RG.nil (h15_ _ ?_)
            refine WC.cond _ rfl (fun c13 => ?_) (fun c13 => ?_)
            ·
              have p13 := c13
              try simp only [CN] at p13
              have hcase := caseD (v := l[k]) p13.1 p13.2
              refine WC.region ?_
              refine RG.op _ _ rfl rfl (o_move (.own _ _ _ _ _) rfl) ?_
              refine RG.op _ _ rfl rfl (o_fld_ptr rfl Try.underlying37 rfl (sz_of Ty.inf9) (by decide)) ?_
              refine RG.op _ _ rfl rfl (o_load_ptr rfl Try.underlying9 rfl rfl rfl rfl) ?_
              refine RG.opM _ _ rfl rfl (x_call Ty.cal58 (FunM.frame (ds := [_, _]) [0] [_] [_] [] (appendText_c _ _ (by first | omega | exact ubyte _ | (simp only [LS, hi8_len] <;> omega)) (by first | omega | exact ubyte _ | (simp only [LS, hi8_len] <;> omega))) (by decide) ⟨rfl, trivial⟩ ⟨.pure (by repeat (first | exact pu_bytes _ | exact pu_nil | exact pu_vs rfl | exact pu_map (fun _ => .v _) _ | exact pu_vals _ | refine pu_app ?_ ?_ | refine pu_cons (by exact pu_of rfl) ?_)), trivial⟩ ⟨.own _ _ _ _ _ rfl, .pure _ (by exact pu_of rfl), trivial⟩ rfl ⟨.pure (by repeat (first | exact pu_bytes _ | exact pu_nil | exact pu_vs rfl | exact pu_map (fun _ => .v _) _ | exact pu_vals _ | refine pu_app ?_ ?_ | refine pu_cons (by exact pu_of rfl) ?_)), trivial⟩ (.own _ _ _ _ _ rfl) rfl) ⟨.inl rfl, .inl rfl, trivial⟩) ?_
              refine RG.op _ _ rfl rfl (o_assign (.own _ _ _ _ _) rfl) ?_
              refine RG.nil (h10_ _ ?_)
              refine WC.region ?_
              refine RG.op _ _ rfl rfl (o_add rfl rfl (by first | omega | exact ubyte _ | (simp only [LS, hi8_len] <;> omega)) (by first | omega | exact ubyte _ | (simp only [LS, hi8_len] <;> omega))) ?_
              refine RG.op _ _ rfl rfl (o_move (.v _) rfl) ?_
              refine RG.nil (Exists.intro (k + 1) ⟨⟨by omega, all_step hkl ha hcase.1⟩, by first | omega | (simp only [LS, hi8_len] <;> omega), ?_⟩)
              exact .mk' ⟨⟨rfl, .v _⟩, ⟨ow_eq (by rw [ones_step hkl, hcase.2, ← List.append_assoc, List.length_append (bs := _ :: _)] <;> rfl), (by first | exact .own _ _ _ _ _ (Nat.le_refl _) | exact .ptr _ _ _ (Nat.le_refl _) | exact .omp _ _ (Nat.le_refl _))⟩, trivial⟩ (by repeat (first | with_reducible exact same_refl _ _ | with_reducible refine same_updO (by with_unfolding_all exact rfl) ?_ | with_reducible refine same_updN ?_ | with_reducible refine same_updL (by with_unfolding_all exact rfl) ?_ | with_reducible refine same_forget (by with_unfolding_all exact rfl) ?_)) (congrArg (fun c => [c]) (tb_eq (by rw [ones_step hkl, hcase.2, ← List.append_assoc, List.length_append (bs := _ :: _)] <;> rfl) (by rw [ones_step hkl, hcase.2, ← List.append_assoc] <;> first | rfl | exact (bytesD_app _ [1]).symm | exact (bytesD_app _ [2, UInt8.ofNat (l[k].i % 256).toNat]).symm))) (by repeat (first | exact trivial | refine And.intro (Nat.le_refl _) ?_ | refine And.intro trivial ?_ | refine And.intro (by show _ ≤ _; (first | omega | (simp only [LS, hi8_len] <;> omega))) ?_)) (by repeat (first | exact trivial | refine And.intro (okp (by repeat (first | exact pu_bytes _ | exact pu_nil | exact pu_vs rfl | exact pu_map (fun _ => .v _) _ | exact pu_vals _ | refine pu_app ?_ ?_ | refine pu_cons (by exact pu_of rfl) ?_))) ?_))
            ·
              have p13 := c13
              try simp only [CN] at p13
              refine WC.seq fun Fh16_ h16_ => ?_
              refine WC.region ?_
              refine RG.op _ _ rfl rfl (o_assign (.v _) rfl) ?_
              refine RG.op _ _ rfl rfl (o_assign (.v _) rfl) ?_
              refine RG.nil (h16_ _ ?_)
              refine WC.ret ?_
              exact Ends.r2 rfl (.tmp _ (.v _) rfl) (.tmp _ (.v _) rfl) .nilr (.v _) (by have hn := (caseE (v := l[k]) p7 p9 p11 p13); unfold appM; rw [all_stop hkl hn]; rfl)
    ·
      have p4 := c4
      try simp only [CN] at p4
      refine WC.exit (h4_ _ ?_)
      refine WC.seq fun Fh17_ h17_ => ?_
      refine WC.region ?_
      refine RG.op _ _ rfl rfl (o_move (.own _ _ _ _ _) rfl) ?_
      refine RG.op _ _ rfl rfl (o_assign (.own _ _ _ _ _) rfl) ?_
      refine RG.op _ _ rfl rfl (o_assign (.v _) rfl) ?_
      refine RG.nil (h17_ _ ?_)
      refine WC.ret ?_
      exact Ends.r2 rfl (.tmp _ (.own _ _ _ _ _) rfl) (.tmp _ (.v _) rfl) (.tb rfl (by repeat (first | exact pu_bytes _ | exact pu_nil | exact pu_vs rfl | exact pu_map (fun _ => .v _) _ | exact pu_vals _ | refine pu_app ?_ ?_ | refine pu_cons (by exact pu_of rfl) ?_))) (.v _) (by have e : k = l.length := (by omega); subst e; rw [List.take_length] at ha ⊢; unfold appM; rw [ha]; rfl)
end Go.Proofs.Ytbdibcpenihpdaa
