/-
  Layer varint: the program's Put, Get, Zig, Zag, and the document's. No condition.
-/
import Derived.Test.YtbdibcpenihpdaaV1
import Derived.Test.YtbdibcpenihpdaaDlU
set_option linter.unusedSimpArgs false
set_option linter.unusedVariables false
namespace Go.Proofs.Ytbdibcpenihpdaa
open Go.RowKit Go.DL

abbrev vr (r : Nat × Nat × Nat) : D := .tup [N64 r.1, I64 r.2.1, I64 r.2.2]
theorem vr_eq {a b : Nat} {m : Int} {n : Nat} {r : Nat × Nat × Nat} (h : r = (a, b, n)) (hm : m = (b : Int)) : D.tup [N64 a, I64 m, I64 n] = vr r := by subst h hm; rfl
set_option maxHeartbeats 4000000 in
theorem vput_c (b : List UInt8) (u : Nat) (hb : b.length ≤ 10995116277760) (hu : u ≤ 18446744073709551615) : Fun Try.prog 39 [rdB b, N64 u] (· = rdB (b ++ encB u)) := by
  refine Fun.of Try.func39 rfl (Nat.le_of_ble_eq_true rfl) fun C => ?_
  refine WC.seq fun Fh1_ h1_ => ?_
  refine WC.region ?_
  refine RG.op _ _ rfl rfl (o_assign (.v _) rfl) ?_
  refine RG.nil (h1_ _ ?_)
  refine WC.seq fun Fh2_ h2_ => ?_
  refine WC.region ?_
  refine RG.op _ _ rfl rfl (o_move (.rd _ _) rfl) ?_
  refine RG.op _ _ rfl rfl (o_len_rd rfl Try.underlying22) ?_
  refine RG.op _ _ rfl rfl (o_move (.rd _ _) rfl) ?_
  refine RG.op _ _ rfl rfl (o_len_rd rfl Try.underlying22) ?_
  refine RG.op _ _ rfl rfl (o_add rfl rfl (by first | omega | exact ubyte _ | (simp only [LS] <;> omega)) (by first | omega | exact ubyte _ | (simp only [LS] <;> omega))) ?_
  refine RG.op _ _ rfl rfl (o_makeT b.length b.length (b.length + 10) rfl rfl Try.underlying22 Ty.inf5 rfl rfl (by first | omega | exact ubyte _ | (simp only [LS] <;> omega)) (by first | omega | exact ubyte _ | (simp only [LS] <;> omega)) (by first | omega | exact ubyte _ | (simp only [LS] <;> omega)) (by first | omega | exact ubyte _ | (simp only [LS] <;> omega)) (by first | omega | exact ubyte _ | (simp only [LS] <;> omega))) ?_
  refine RG.op _ _ rfl rfl (o_assign (.own _ _ _ _ _) rfl) ?_
  refine RG.nil (h2_ _ ?_)
  refine WC.seq fun Fh3_ h3_ => ?_
  refine WC.region ?_
  refine RG.op _ _ rfl rfl (o_move (.own _ _ _ _ _) rfl) ?_
  refine RG.op _ _ rfl rfl (o_move (.rd _ _) rfl) ?_
  refine RG.op _ _ rfl rfl (o_copyA rfl rfl Try.underlying22 (sz_of Ty.inf5) rfl rfl (by first | omega | exact ubyte _ | (simp only [LS] <;> omega)) rfl (by first | omega | exact ubyte _ | (simp only [LS] <;> omega)) (by repeat (first | exact bytesD_one _ | exact one_nil | exact one_map (fun _ => rfl) _ | exact one_vals _ | refine one_app ?_ ?_ | refine one_cons rfl ?_))) ?_
  refine RG.nil (h3_ _ ?_)
  refine WC.seq fun Fh4_ h4_ => ?_
  refine WC.block ?_
  refine WC.loopU [1, 5, 15, 16, 17, 18, 19, 20, 21, 22, 23, 24] (fun (p : List UInt8 × Nat) => [(1, N64 p.2), (5, ow 0 (b.length + p.1.length) 1)]) (fun (p : List UInt8 × Nat) => [(0, tb 5 (b.length + p.1.length) (bytesD (b ++ p.1)))]) (fun (p : List UInt8 × Nat) => p.1 ++ encB p.2 = encB u ∧ p.2 ≤ u) (fun (p : List UInt8 × Nat) => p.2) ([], u) ⟨rfl, Nat.le_refl _⟩ ?lpa5_ ?lpb6_
  case lpa5_ =>
    exact .mk' ⟨⟨rfl, .v _⟩, ⟨ow_eq (by simp), (by first | exact .own _ _ _ _ _ (Nat.le_refl _) | exact .ptr _ _ _ (Nat.le_refl _) | exact .omp _ _ (Nat.le_refl _))⟩, trivial⟩ (same_refl _ _) (congrArg (fun c => [c]) (tb_eq (by simp) (by simp))) (by repeat (first | exact trivial | refine And.intro (Nat.le_refl _) ?_ | refine And.intro trivial ?_ | refine And.intro (by show _ ≤ _; (first | omega | (simp only [LS] <;> omega))) ?_)) (by repeat (first | exact trivial | refine And.intro (one_ok (.own _ _ _ _ _ (Nat.le_refl _))) ?_ | refine And.intro (okp (by repeat (first | exact pu_bytes _ | exact pu_nil | exact pu_vs rfl | exact pu_map (fun _ => .v _) _ | exact pu_vals _ | refine pu_app ?_ ?_ | refine pu_cons (by exact pu_of rfl) ?_))) ?_))
  case lpb6_ =>
    rintro p hI
    obtain ⟨he, hp⟩ := id hI
    have hl := enc_lt2 hu he
    refine WC.seq fun Fh7_ h7_ => ?_
    refine WC.seq fun Fh8_ h8_ => ?_
    refine WC.region ?_
    refine RG.op _ _ rfl rfl (o_move (.v _) rfl) ?_
    refine RG.op _ _ rfl rfl (o_geI rfl rfl) ?_
    refine RG.nil (h8_ _ ?_)
    refine WC.cond _ rfl (fun c3 => ?_) (fun c3 => ?_)
    ·
      have p3 := c3
      try simp only [CN] at p3
      refine WC.skip (h7_ _ ?_)
      refine WC.block ?_
      refine WC.seq fun Fh9_ h9_ => ?_
      refine WC.region ?_
      refine RG.op _ _ rfl rfl (o_move (.own _ _ _ _ _) rfl) ?_
      refine RG.op _ _ rfl rfl (o_move (.v _) rfl) ?_
      refine RG.op _ _ rfl rfl (o_UtoB rfl Try.underlying72 Try.underlying5) ?_
      refine RG.op _ _ rfl rfl (o_orB (b := 128) rfl rfl) ?_
      refine RG.op _ _ rfl rfl (o_litP (cs := [(.v _)]) Try.underlying22 Ty.inf5 rfl rfl rfl rfl (by repeat (first | exact pu_bytes _ | exact pu_nil | exact pu_vs rfl | exact pu_map (fun _ => .v _) _ | exact pu_vals _ | refine pu_app ?_ ?_ | refine pu_cons (by exact pu_of rfl) ?_))) ?_
      refine RG.op _ _ rfl rfl (o_appT (Elem.of Try.underlying22 Ty.inf5 rfl (by decide)) rfl rfl rfl (by first | omega | exact ubyte _ | (simp only [LS] <;> omega)) (by first | omega | exact ubyte _ | (simp only [LS] <;> omega)) (by repeat (first | exact bytesD_one _ | exact one_nil | exact one_map (fun _ => rfl) _ | exact one_vals _ | refine one_app ?_ ?_ | refine one_cons rfl ?_)) (by first | omega | exact ubyte _ | (simp only [LS] <;> omega)) (by first | omega | exact ubyte _ | (simp only [LS] <;> omega))) ?_
      refine RG.op _ _ rfl rfl (o_assign (.own _ _ _ _ _) rfl) ?_
      refine RG.nil (h9_ _ ?_)
      refine WC.region ?_
      refine RG.op _ _ rfl rfl (o_move (.v _) rfl) ?_
      refine RG.op _ _ rfl rfl (o_shrU (n := 7) rfl rfl (by show _ ≤ 64; (first | omega | (simp only [LS] <;> omega)))) ?_
      refine RG.op _ _ rfl rfl (o_assign (.v _) rfl) ?_
      refine RG.nil (Exists.intro ((p.1 ++ [UInt8.ofNat (p.2 % 128 + 128)], p.2 / 128)) ⟨⟨by rw [← he, encB_big (u := p.2) (by omega), List.append_assoc]; rfl, by show p.2 / 128 ≤ u; omega⟩, by show p.2 / 128 < p.2; omega, ?_⟩)
      exact .mk' ⟨⟨rfl, .v _⟩, ⟨ow_eq (by simp; omega), (by first | exact .own _ _ _ _ _ (Nat.le_refl _) | exact .ptr _ _ _ (Nat.le_refl _) | exact .omp _ _ (Nat.le_refl _))⟩, trivial⟩ (by repeat (first | with_reducible exact same_refl _ _ | with_reducible refine same_updO (by with_unfolding_all exact rfl) ?_ | with_reducible refine same_updN ?_ | with_reducible refine same_updL (by with_unfolding_all exact rfl) ?_ | with_reducible refine same_forget (by with_unfolding_all exact rfl) ?_)) (congrArg (fun c => [c]) (tb_eq (by simp; omega) (by rw [or_128, ← List.append_assoc]; exact (bytesD_app _ [_]).symm))) (by repeat (first | exact trivial | refine And.intro (Nat.le_refl _) ?_ | refine And.intro trivial ?_ | refine And.intro (by show _ ≤ _; (first | omega | (simp only [LS] <;> omega))) ?_)) (by repeat (first | exact trivial | refine And.intro (one_ok (.own _ _ _ _ _ (Nat.le_refl _))) ?_ | refine And.intro (okp (by repeat (first | exact pu_bytes _ | exact pu_nil | exact pu_vs rfl | exact pu_map (fun _ => .v _) _ | exact pu_vals _ | refine pu_app ?_ ?_ | refine pu_cons (by exact pu_of rfl) ?_))) ?_))
    ·
      have p3 := c3
      try simp only [CN] at p3
      refine WC.exit (h4_ _ ?_)
      refine WC.seq fun Fh10_ h10_ => ?_
      refine WC.region ?_
      refine RG.op _ _ rfl rfl (o_move (.own _ _ _ _ _) rfl) ?_
      refine RG.op _ _ rfl rfl (o_move (.v _) rfl) ?_
      refine RG.op _ _ rfl rfl (o_UtoB rfl Try.underlying72 Try.underlying5) ?_
      refine RG.op _ _ rfl rfl (o_litP (cs := [(.v _)]) Try.underlying22 Ty.inf5 rfl rfl rfl rfl (by repeat (first | exact pu_bytes _ | exact pu_nil | exact pu_vs rfl | exact pu_map (fun _ => .v _) _ | exact pu_vals _ | refine pu_app ?_ ?_ | refine pu_cons (by exact pu_of rfl) ?_))) ?_
      refine RG.op _ _ rfl rfl (o_appT (Elem.of Try.underlying22 Ty.inf5 rfl (by decide)) rfl rfl rfl (by first | omega | exact ubyte _ | (simp only [LS] <;> omega)) (by first | omega | exact ubyte _ | (simp only [LS] <;> omega)) (by repeat (first | exact bytesD_one _ | exact one_nil | exact one_map (fun _ => rfl) _ | exact one_vals _ | refine one_app ?_ ?_ | refine one_cons rfl ?_)) (by first | omega | exact ubyte _ | (simp only [LS] <;> omega)) (by first | omega | exact ubyte _ | (simp only [LS] <;> omega))) ?_
      refine RG.op _ _ rfl rfl (o_assign (.own _ _ _ _ _) rfl) ?_
      refine RG.nil (h10_ _ ?_)
      refine WC.ret ?_
      exact Ends.r1 rfl (.tmp _ (.own _ _ _ _ _) rfl) (.tb rfl (by repeat (first | exact pu_bytes _ | exact pu_nil | exact pu_vs rfl | exact pu_map (fun _ => .v _) _ | exact pu_vals _ | refine pu_app ?_ ?_ | refine pu_cons (by exact pu_of rfl) ?_))) (rd_eq (by rw [← he, encB_small (u := p.2) (by omega)]; simp; omega) (by rw [← he, encB_small (u := p.2) (by omega), ← List.append_assoc]; exact (bytesD_app _ [_]).symm))
set_option maxHeartbeats 4000000 in
theorem vzig_c (v : Int) (h1 : -9223372036854775808 ≤ v) (h2 : v ≤ 9223372036854775807) : Fun Try.prog 40 [I64 v] (· = N64 (zigN v)) := by
  refine Fun.of Try.func40 rfl (Nat.le_of_ble_eq_true rfl) fun C => ?_
  refine WC.seq fun Fh1_ h1_ => ?_
  refine WC.region ?_
  refine RG.op _ _ rfl rfl (o_assign (N64 0) rfl) ?_
  refine RG.nil (h1_ _ ?_)
  refine WC.seq fun Fh2_ h2_ => ?_
  refine WC.region ?_
  refine RG.op _ _ rfl rfl (o_move (.v _) rfl) ?_
  refine RG.op _ _ rfl rfl (o_i64toU rfl Try.underlying2 Try.underlying72) ?_
  refine RG.op _ _ rfl rfl (o_shlU (n := 1) rfl rfl (by first | omega | exact ubyte _ | (simp only [LS] <;> omega))) ?_
  refine RG.op _ _ rfl rfl (o_move (.v _) rfl) ?_
  refine RG.op _ _ rfl rfl (o_bin (.int .i64 (v.fdiv (2 ^ 63))) rfl rfl (shr_run (n := 63) (by decide))) ?_
  refine RG.op _ _ rfl rfl (o_i64toU rfl Try.underlying2 Try.underlying72) ?_
  refine RG.op _ _ rfl rfl (o_xorU rfl rfl (by first | omega | exact ubyte _ | (simp only [LS] <;> omega)) (by first | omega | exact ubyte _ | (simp only [LS] <;> omega))) ?_
  refine RG.op _ _ rfl rfl (o_assign (.v _) rfl) ?_
  refine RG.nil (h2_ _ ?_)
  refine WC.ret ?_
  exact Ends.r1 rfl (.tmp _ (.v _) rfl) (.v _) (congrArg N64 (zig_bits h1 h2))
set_option maxHeartbeats 4000000 in
theorem vzag_c (u : Nat) (hu : u ≤ 18446744073709551615) : Fun Try.prog 45 [N64 u] (· = I64 (zagI u)) := by
  refine Fun.of Try.func45 rfl (Nat.le_of_ble_eq_true rfl) fun C => ?_
  refine WC.seq fun Fh1_ h1_ => ?_
  refine WC.region ?_
  refine RG.op _ _ rfl rfl (o_assign (.v _) rfl) ?_
  refine RG.nil (h1_ _ ?_)
  refine WC.seq fun Fh2_ h2_ => ?_
  have hq : sgn (u &&& 1) = ((u % 2 : Nat) : Int) := by rw [and_1]; unfold sgn; rw [if_pos (by omega)]
  have ha1 : u &&& 1 ≤ 1 := by rw [and_1]; omega
  refine WC.region ?_
  refine RG.op _ _ rfl rfl (o_move (.v _) rfl) ?_
  refine RG.op _ _ rfl rfl (o_shrU (n := 1) rfl rfl (by show _ ≤ 64; (first | omega | (simp only [LS] <;> omega)))) ?_
  refine RG.op _ _ rfl rfl (o_UtoI64 rfl (by first | omega | exact ubyte _ | (simp only [LS] <;> omega)) Try.underlying72 Try.underlying2) ?_
  refine RG.op _ _ rfl rfl (o_move (.v _) rfl) ?_
  refine RG.op _ _ rfl rfl (o_andU (b := 1) rfl rfl (by first | omega | exact ubyte _ | (simp only [LS] <;> omega)) (by first | omega | exact ubyte _ | (simp only [LS] <;> omega))) ?_
  refine RG.op _ _ rfl rfl (o_UtoI64 rfl (by first | omega | exact ubyte _ | (simp only [LS] <;> omega)) Try.underlying72 Try.underlying2) ?_
  refine RG.op _ _ rfl rfl (o_neg rfl (by first | omega | exact ubyte _ | (simp only [LS] <;> omega)) (by first | omega | exact ubyte _ | (simp only [LS] <;> omega))) ?_
  refine RG.op _ _ rfl rfl (o_bin (.int .i64 (zagI u)) rfl rfl (zag_bits hu _)) ?_
  refine RG.op _ _ rfl rfl (o_assign (.v _) rfl) ?_
  refine RG.nil (h2_ _ ?_)
  refine WC.ret ?_
  exact Ends.r1 rfl (.tmp _ (.v _) rfl) (.v _) (rfl)
set_option maxHeartbeats 4000000 in
theorem vget_c (b : List UInt8) (hb : b.length ≤ 10995116277760) : Fun Try.prog 44 [rdB b] (· = vr (vget b)) := by
  refine Fun.of Try.func44 rfl (Nat.le_of_ble_eq_true rfl) fun C => ?_
  refine WC.seq fun Fh1_ h1_ => ?_
  refine WC.region ?_
  refine RG.op _ _ rfl rfl (o_assign (N64 0) rfl) ?_
  refine RG.op _ _ rfl rfl (o_assign (.v _) rfl) ?_
  refine RG.op _ _ rfl rfl (o_assign (.v _) rfl) ?_
  refine RG.nil (h1_ _ ?_)
  refine WC.seq fun Fh2_ h2_ => ?_
  refine WC.region ?_
  refine RG.op _ _ rfl rfl (o_assign (N64 0) rfl) ?_
  refine RG.nil (h2_ _ ?_)
  refine WC.seq fun Fh3_ h3_ => ?_
  refine WC.seq fun Fh4_ h4_ => ?_
  refine WC.region ?_
  refine RG.op _ _ rfl rfl (o_move (.v _) rfl) ?_
  refine RG.nil (h4_ _ ?_)
  refine WC.block ?_
  refine WC.loopU [2, 3, 4, 5, 6, 7, 8, 9, 10, 11, 12, 13, 14, 15, 16, 17, 18, 19, 20, 21, 22, 23, 24, 25, 26, 27, 28, 29, 30, 31, 32, 33, 34, 35, 36, 37, 38, 39, 40, 41, 42, 43, 44, 45] (fun (p : Nat × Nat) => [(8, I64 ((p.1 : Nat) : Int)), (5, N64 p.2)]) (fun (p : Nat × Nat) => []) (fun (p : Nat × Nat) => p.1 ≤ 10 ∧ p.1 ≤ b.length ∧ p.2 < 128 ^ p.1 ∧ vget b = getF (nats b) p.1 p.2 (10 - p.1)) (fun (p : Nat × Nat) => 10 - p.1) (0, 0) ⟨by omega, by omega, by decide, rfl⟩ ?lpa5_ ?lpb6_
  case lpa5_ =>
    exact .mk' ⟨⟨rfl, .v _⟩, ⟨rfl, .v _⟩, trivial⟩ (same_refl _ _) (rfl) (by repeat (first | exact trivial | refine And.intro (Nat.le_refl _) ?_ | refine And.intro trivial ?_ | refine And.intro (by show _ ≤ _; (first | omega | (simp only [LS] <;> omega))) ?_)) (by repeat (first | exact trivial | refine And.intro (one_ok (.own _ _ _ _ _ (Nat.le_refl _))) ?_ | refine And.intro (okp (by repeat (first | exact pu_bytes _ | exact pu_nil | exact pu_vs rfl | exact pu_map (fun _ => .v _) _ | exact pu_vals _ | refine pu_app ?_ ?_ | refine pu_cons (by exact pu_of rfl) ?_))) ?_))
  case lpb6_ =>
    rintro p hI
    obtain ⟨hk, hkb, ha, he⟩ := id hI
    refine WC.seq fun Fh7_ h7_ => ?_
    refine WC.region ?_
    refine RG.op _ _ rfl rfl (o_ltI rfl rfl) ?_
    refine RG.nil (h7_ _ ?_)
    refine WC.seq fun Fh8_ h8_ => ?_
    refine WC.cond _ rfl (fun c3 => ?_) (fun c3 => ?_)
    ·
      have p3 := c3
      try simp only [CN] at p3
      have h10 : p.1 < 10 := by omega
      refine WC.skip (h8_ _ ?_)
      refine WC.seq fun Fh9_ h9_ => ?_
      refine WC.block ?_
      refine WC.seq fun Fh10_ h10_ => ?_
      refine WC.region ?_
      refine RG.op _ _ rfl rfl (o_move (.v _) rfl) ?_
      refine RG.op _ _ rfl rfl (o_assign (.v _) rfl) ?_
      refine RG.nil (h10_ _ ?_)
      refine WC.seq fun Fh11_ h11_ => ?_
      refine WC.seq fun Fh12_ h12_ => ?_
      refine WC.region ?_
      refine RG.op _ _ rfl rfl (o_move (.v _) rfl) ?_
      refine RG.op _ _ rfl rfl (o_move (.rd _ _) rfl) ?_
      refine RG.op _ _ rfl rfl (o_len_rd rfl Try.underlying22) ?_
      refine RG.op _ _ rfl rfl (o_eqI rfl rfl) ?_
      refine RG.nil (h12_ _ ?_)
      refine WC.cond _ rfl (fun c5 => ?_) (fun c5 => ?_)
      ·
        have p5 := c5
        try simp only [CN] at p5
        refine WC.seq fun Fh13_ h13_ => ?_
        refine WC.region ?_
        refine RG.op _ _ rfl rfl (o_assign (N64 0) rfl) ?_
        refine RG.op _ _ rfl rfl (o_assign (.v _) rfl) ?_
        refine RG.op _ _ rfl rfl (o_assign (.v _) rfl) ?_
        refine RG.nil (h13_ _ ?_)
        refine WC.ret ?_
        exact Ends.r3 rfl (.tmp _ (.v _) rfl) (.tmp _ (.v _) rfl) (.tmp _ (.v _) rfl) (.v _) (.v _) (.v _) (vr_eq (by rw [he]; exact getF_end _ _ _ (by omega) (by rw [nats_len]; omega)) rfl)
      ·
        have p5 := c5
        try simp only [CN] at p5
        have hkb' : p.1 < b.length := by omega
        have n1 : (1 : UInt8).toNat = 1 := rfl
        have n128 : (128 : UInt8).toNat = 128 := rfl
        have hx := (b[p.1]'hkb').toNat_lt
        have hacc := (or_stepN (acc := p.2) (y := 0) (k := p.1) h10 (by decide) (fun _ => by decide) ha).2
        have h70 : 7 * p.1 ≤ 64 := by omega
        refine WC.skip (h11_ _ ?_)
        refine WC.seq fun Fh14_ h14_ => ?_
        refine WC.region ?_
        refine RG.op _ _ rfl rfl (o_move (.rd _ _) rfl) ?_
        refine RG.op _ _ rfl rfl (o_move (.v _) rfl) ?_
        refine RG.op _ _ rfl rfl (o_ixn_M p.1 rfl rfl Try.underlying22 (sz_of Ty.inf5) (by first | omega | exact ubyte _ | (simp only [LS] <;> omega)) (by first | omega | exact ubyte _ | (simp only [LS] <;> omega))) ?_
        refine RG.op _ _ rfl rfl (o_load_adr rfl Try.underlying5 rfl rfl) ?_
        refine RG.op _ _ rfl rfl (o_assign (.v _) rfl) ?_
        refine RG.nil (h14_ _ ?_)
        refine WC.seq fun Fh15_ h15_ => ?_
        refine WC.seq fun Fh16_ h16_ => ?_
        refine WC.region ?_
        refine RG.op _ _ rfl rfl (o_move (.v _) rfl) ?_
        refine RG.op _ _ rfl rfl (o_eqI rfl rfl) ?_
        refine RG.op _ _ rfl rfl (o_move (.v _) rfl) ?_
        refine RG.opg1 _ _ _ _ _ rfl rfl rfl rfl rfl (fun hb => o_move (.v _) rfl) ?_
        refine RG.opg1 _ _ _ _ _ rfl rfl rfl rfl rfl (fun hb => o_gtB (b := 1) (gdT hb) rfl) ?_
        refine RG.op _ _ rfl rfl (o_and _ _ rfl rfl rfl) ?_
        refine RG.nil (h16_ _ ?_)
        refine WC.cond _ rfl (fun c8 => ?_) (fun c8 => ?_)
        ·
          have p8 := c8
          try simp only [CN] at p8
          refine WC.seq fun Fh17_ h17_ => ?_
          refine WC.region ?_
          refine RG.op _ _ rfl rfl (o_assign (N64 0) rfl) ?_
          refine RG.op _ _ rfl rfl (o_assign (.v _) rfl) ?_
          refine RG.op _ _ rfl rfl (o_assign (.v _) rfl) ?_
          refine RG.nil (h17_ _ ?_)
          refine WC.ret ?_
          exact Ends.r3 rfl (.tmp _ (.v _) rfl) (.tmp _ (.v _) rfl) (.tmp _ (.v _) rfl) (.v _) (.v _) (.v _) (vr_eq (by rw [he]; exact getF_nine (by omega) (nats_at hkb') (by omega)) rfl)
        ·
          have p8 := c8
          try simp only [CN] at p8
          have h9 : p.1 = 9 → b[p.1].toNat % 128 ≤ 1 := fun h => by omega
          have h7k : 7 * ((p.1 : Int) % 18446744073709551616).toNat % 18446744073709551616 = 7 * p.1 := by omega
          refine WC.skip (h15_ _ ?_)
          refine WC.seq fun Fh18_ h18_ => ?_
          refine WC.region ?_
          refine RG.op _ _ rfl rfl (o_move (.v _) rfl) ?_
          refine RG.op _ _ rfl rfl (o_move (.v _) rfl) ?_
          refine RG.op _ _ rfl rfl (o_andB (b := 127) rfl rfl) ?_
          refine RG.op _ _ rfl rfl (o_BtoU rfl Try.underlying5 Try.underlying72) ?_
          refine RG.op _ _ rfl rfl (o_move (.v _) rfl) ?_
          refine RG.op _ _ rfl rfl (o_i64toU rfl Try.underlying3 Try.underlying59) ?_
          refine RG.op _ _ rfl rfl ((o_mulU (a := 7) rfl rfl).cast (congrArg N64 h7k)) ?_
          refine RG.op _ _ rfl rfl (o_shlU (n := 7 * p.1) rfl rfl h70) ?_
          refine RG.op _ _ rfl rfl (o_orU rfl rfl (Nat.le_of_lt_succ hacc) (Nat.le_of_lt_succ (Nat.mod_lt _ (by decide)))) ?_
          refine RG.op _ _ rfl rfl (o_assign (.v _) rfl) ?_
          refine RG.nil (h18_ _ ?_)
          refine WC.seq fun Fh19_ h19_ => ?_
          refine WC.seq fun Fh20_ h20_ => ?_
          clear h7k h70 hacc
          refine WC.region ?_
          refine RG.op _ _ rfl rfl (o_move (.v _) rfl) ?_
          refine RG.op _ _ rfl rfl (o_geB (b := 128) rfl rfl) ?_
          refine RG.nil (h20_ _ ?_)
          refine WC.cond _ rfl (fun c11 => ?_) (fun c11 => ?_)
          ·
            have p11 := c11
            try simp only [CN] at p11
            refine WC.exit (h9_ _ ?_)
            refine WC.region ?_
            refine RG.op _ _ rfl rfl (o_add rfl rfl (by first | omega | exact ubyte _ | (simp only [LS] <;> omega)) (by first | omega | exact ubyte _ | (simp only [LS] <;> omega))) ?_
            refine RG.op _ _ rfl rfl (o_move (.v _) rfl) ?_
            refine RG.nil (Exists.intro ((p.1 + 1, p.2 + b[p.1].toNat % 128 * 128 ^ p.1)) ⟨⟨by omega, by omega, acc_step (Nat.mod_lt _ (by omega)) ha, by rw [he]; exact getF_more (by omega) (nats_at hkb') (by omega)⟩, by omega, ?_⟩)
            exact .mk' ⟨⟨rfl, .v _⟩, ⟨congrArg N64 (by rw [and_127]; exact (or_stepN (y := b[p.1].toNat % 128) h10 (Nat.mod_lt _ (by decide)) h9 ha).1), .v _⟩, trivial⟩ (by repeat (first | with_reducible exact same_refl _ _ | with_reducible refine same_updO (by with_unfolding_all exact rfl) ?_ | with_reducible refine same_updN ?_ | with_reducible refine same_updL (by with_unfolding_all exact rfl) ?_ | with_reducible refine same_forget (by with_unfolding_all exact rfl) ?_)) (rfl) (by repeat (first | exact trivial | refine And.intro (Nat.le_refl _) ?_ | refine And.intro trivial ?_ | refine And.intro (by show _ ≤ _; (first | omega | (simp only [LS] <;> omega))) ?_)) (by repeat (first | exact trivial | refine And.intro (one_ok (.own _ _ _ _ _ (Nat.le_refl _))) ?_ | refine And.intro (okp (by repeat (first | exact pu_bytes _ | exact pu_nil | exact pu_vs rfl | exact pu_map (fun _ => .v _) _ | exact pu_vals _ | refine pu_app ?_ ?_ | refine pu_cons (by exact pu_of rfl) ?_))) ?_))
          ·
            have p11 := c11
            try simp only [CN] at p11
            refine WC.skip (h19_ _ ?_)
            refine WC.seq fun Fh21_ h21_ => ?_
            refine WC.seq fun Fh22_ h22_ => ?_
            refine WC.region ?_
            refine RG.op _ _ rfl rfl (o_move (.v _) rfl) ?_
            refine RG.op _ _ rfl rfl (o_eqB (b := 0) rfl rfl) ?_
            refine RG.op _ _ rfl rfl (o_move (.v _) rfl) ?_
            refine RG.opg1 _ _ _ _ _ rfl rfl rfl rfl rfl (fun hb => o_move (.v _) rfl) ?_
            refine RG.opg1 _ _ _ _ _ rfl rfl rfl rfl rfl (fun hb => o_gtI (gdT hb) rfl) ?_
            refine RG.op _ _ rfl rfl (o_and _ _ rfl rfl rfl) ?_
            refine RG.nil (h22_ _ ?_)
            refine WC.cond _ rfl (fun c12 => ?_) (fun c12 => ?_)
            ·
              have p12 := c12
              try simp only [CN] at p12
              refine WC.seq fun Fh23_ h23_ => ?_
              refine WC.region ?_
              refine RG.op _ _ rfl rfl (o_assign (N64 0) rfl) ?_
              refine RG.op _ _ rfl rfl (o_assign (.v _) rfl) ?_
              refine RG.op _ _ rfl rfl (o_assign (.v _) rfl) ?_
              refine RG.nil (h23_ _ ?_)
              refine WC.ret ?_
              exact Ends.r3 rfl (.tmp _ (.v _) rfl) (.tmp _ (.v _) rfl) (.tmp _ (.v _) rfl) (.v _) (.v _) (.v _) (vr_eq (by rw [he]; exact getF_zero h10 (nats_at hkb') (by rw [p12.1]; rfl) (by omega)) rfl)
            ·
              have p12 := c12
              try simp only [CN] at p12
              refine WC.skip (h21_ _ ?_)
              refine WC.seq fun Fh24_ h24_ => ?_
              refine WC.region ?_
              refine RG.op _ _ rfl rfl (o_move (.v _) rfl) ?_
              refine RG.op _ _ rfl rfl (o_move (.v _) rfl) ?_
              refine RG.op _ _ rfl rfl (o_add rfl rfl (by first | omega | exact ubyte _ | (simp only [LS] <;> omega)) (by first | omega | exact ubyte _ | (simp only [LS] <;> omega))) ?_
              refine RG.op _ _ rfl rfl (o_assign (.v _) rfl) ?_
              refine RG.op _ _ rfl rfl (o_assign (.v _) rfl) ?_
              refine RG.op _ _ rfl rfl (o_assign (.v _) rfl) ?_
              refine RG.nil (h24_ _ ?_)
              refine WC.ret ?_
              exact Ends.r3 rfl (.tmp _ (.v _) rfl) (.tmp _ (.v _) rfl) (.tmp _ (.v _) rfl) (.v _) (.v _) (.v _) (vr_eq (by rw [he]; exact (getF_done h10 (nats_at hkb') (by omega) (by omega) (fun h => by have : b[p.1] = 0 := UInt8.toNat_inj.1 h.1; rcases p12 with h1 | h1; exact h1 this; omega)).trans (by rw [and_127, (or_stepN (y := b[p.1].toNat % 128) h10 (Nat.mod_lt _ (by decide)) h9 ha).1])) (by omega))
    ·
      have p3 := c3
      try simp only [CN] at p3
      refine WC.exit (h3_ _ ?_)
      refine WC.seq fun Fh25_ h25_ => ?_
      refine WC.region ?_
      refine RG.op _ _ rfl rfl (o_assign (N64 0) rfl) ?_
      refine RG.op _ _ rfl rfl (o_assign (.v _) rfl) ?_
      refine RG.op _ _ rfl rfl (o_assign (.v _) rfl) ?_
      refine RG.nil (h25_ _ ?_)
      refine WC.ret ?_
      exact Ends.r3 rfl (.tmp _ (.v _) rfl) (.tmp _ (.v _) rfl) (.tmp _ (.v _) rfl) (.v _) (.v _) (.v _) (vr_eq (by rw [he, show p.1 = 10 by omega]; exact getF_ten _ _) rfl)
end Go.Proofs.Ytbdibcpenihpdaa
