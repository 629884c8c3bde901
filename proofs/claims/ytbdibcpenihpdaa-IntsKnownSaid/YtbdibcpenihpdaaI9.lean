/-
  Layer ints: the program's Get. No condition.
-/
import Derived.Test.YtbdibcpenihpdaaI8
import Derived.Test.YtbdibcpenihpdaaDlU
set_option linter.unusedSimpArgs false
set_option linter.unusedVariables false
namespace Go.Proofs.Ytbdibcpenihpdaa
open Go.RowKit Go.DL

set_option maxRecDepth 20000 in
set_option maxHeartbeats 4000000 in
theorem iget_c (b : List UInt8) (m : Nat) (hb : b.length ≤ 10995116277760) (hm : m ≤ 65536) : Fun Try.prog 28 [rdB b, I64 ((m : Nat) : Int)] (· = VI (gG b m 0 [])) := by
  refine Fun.of Try.func28 rfl (Nat.le_of_ble_eq_true rfl) fun C => ?_
  refine WC.seq fun Fh1_ h1_ => ?_
  refine WC.region ?_
  refine RG.op _ _ rfl rfl (o_assign (.v _) rfl) ?_
  refine RG.op _ _ rfl rfl (o_assign (.v _) rfl) ?_
  refine RG.nil (h1_ _ ?_)
  refine WC.seq fun Fh2_ h2_ => ?_
  refine WC.seq fun Fh3_ h3_ => ?_
  refine WC.region ?_
  refine RG.op _ _ rfl rfl (o_move (.v _) rfl) ?_
  refine RG.op _ _ rfl rfl (o_ltI rfl rfl) ?_
  refine RG.op _ _ rfl rfl (o_move (.v _) rfl) ?_
  refine RG.opg1 _ _ _ _ _ rfl rfl rfl rfl rfl (fun hb => o_move (.v _) rfl) ?_
  refine RG.opg1 _ _ _ _ _ rfl rfl rfl rfl rfl (fun hb => o_gtI (gdT hb) rfl) ?_
  refine RG.op _ _ rfl rfl (o_or _ _ rfl rfl rfl) ?_
  refine RG.nil (h3_ _ ?_)
  refine WC.cond _ rfl (fun c1 => ?_) (fun c1 => ?_)
  ·
    have p1 := c1
    try simp only [CN] at p1
    exfalso; omega
  ·
    have p1 := c1
    try simp only [CN] at p1
    refine WC.skip (h2_ _ ?_)
    refine WC.seq fun Fh4_ h4_ => ?_
    refine WC.region ?_
    refine RG.op _ _ rfl rfl (o_move (.v _) rfl) ?_
    refine RG.op _ _ rfl rfl (o_makeT 0 0 m rfl rfl Try.underlying41 Ty.inf2 rfl rfl (by first | omega | exact ubyte _ | (simp only [LS, nS_len] <;> omega)) (by first | omega | exact ubyte _ | (simp only [LS, nS_len] <;> omega)) (by first | omega | exact ubyte _ | (simp only [LS, nS_len] <;> omega)) (by first | omega | exact ubyte _ | (simp only [LS, nS_len] <;> omega)) (by first | omega | exact ubyte _ | (simp only [LS, nS_len] <;> omega))) ?_
    refine RG.op _ _ rfl rfl (o_assign (.own _ _ _ _ _) rfl) ?_
    refine RG.nil (h4_ _ ?_)
    refine WC.seq fun Fh5_ h5_ => ?_
    refine WC.region ?_
    refine RG.op _ _ rfl rfl (o_assign (.v _) rfl) ?_
    refine RG.op _ _ rfl rfl (o_assign (.v _) rfl) ?_
    refine RG.op _ _ rfl rfl (o_assign (.v _) rfl) ?_
    refine RG.nil (h5_ _ ?_)
    refine WC.seq fun Fh6_ h6_ => ?_
    refine WC.seq fun Fh7_ h7_ => ?_
    refine WC.region ?_
    refine RG.op _ _ rfl rfl (o_assign (.v _) rfl) ?_
    refine RG.nil (h7_ _ ?_)
    refine WC.block ?_
    refine WC.loopU [4, 5, 6, 7, 8, 9, 10, 11, 12, 13, 14, 15, 24, 25, 26, 27, 28, 29, 30, 31, 32, 33, 34, 35, 36, 37, 38, 39, 40, 41, 42, 43, 44, 45, 46, 47, 48, 49, 50, 51, 52, 53, 54, 55, 56, 57, 58, 59, 60, 61, 62, 63, 64, 65, 66, 67, 68, 69, 70, 71, 72, 73, 74, 75, 76, 77, 78, 79, 80, 81, 82, 83, 84, 85, 86, 87, 88, 89, 90, 91, 92, 93, 94, 95, 96, 97, 98, 99, 100, 101, 102, 103, 104, 105, 106, 107] (fun (p : Nat × List Int × Int) => [(10, I64 ((p.1 : Nat) : Int)), (6, ow 0 p.2.1.length 1), (7, I64 (nS p.2.1).2.1), (8, I64 (nS p.2.1).1), (9, I64 p.2.2)]) (fun (p : Nat × List Int × Int) => [(0, tb 2 p.2.1.length ((nS p.2.1).2.2.map I64))]) (fun (p : Nat × List Int × Int) => p.1 ≤ b.length ∧ p.2.1.length ≤ m ∧ (0 < p.2.1.length → p.2.1.getD (p.2.1.length - 1) 0 = p.2.2) ∧ gG b m 0 [] = gG b m p.1 p.2.1 ∧ (p.2.1.length = m → p.1 < b.length → m = 0) ∧ (m = 0 → p.1 = 0)) (fun (p : Nat × List Int × Int) => m - p.2.1.length) (0, [], 0) ⟨Nat.zero_le _, Nat.zero_le _, fun h => absurd h (Nat.lt_irrefl _), rfl, fun h _ => h.symm, fun _ => rfl⟩ ?lpa8_ ?lpb9_
    case lpa8_ =>
      exact .mk' ⟨⟨rfl, .v _⟩, ⟨rfl, (by first | exact .own _ _ _ _ _ (Nat.le_refl _) | exact .ptr _ _ _ (Nat.le_refl _) | exact .omp _ _ (Nat.le_refl _))⟩, ⟨rfl, .v _⟩, ⟨rfl, .v _⟩, ⟨rfl, .v _⟩, trivial⟩ (same_refl _ _) (rfl) (by repeat (first | exact trivial | refine And.intro (Nat.le_refl _) ?_ | refine And.intro trivial ?_ | refine And.intro (by show _ ≤ _; (first | omega | (simp only [LS, nS_len] <;> omega))) ?_)) (by repeat (first | exact trivial | refine And.intro (one_ok (.own _ _ _ _ _ (Nat.le_refl _))) ?_ | refine And.intro (okp (by repeat (first | exact pu_bytes _ | exact pu_nil | exact pu_vs rfl | exact pu_map (fun _ => .v _) _ | exact pu_vals _ | refine pu_app ?_ ?_ | refine pu_cons (by exact pu_of rfl) ?_))) ?_))
    case lpb9_ =>
      rintro p hI
      have hk1 := hI.1
      have hk2 := hI.2.1
      have hk3 := hI.2.2.1
      have hk4 := hI.2.2.2.1
      have hk5 := hI.2.2.2.2.1
      have hk6 := hI.2.2.2.2.2
      obtain ⟨r, hr⟩ : ∃ r, r = vget (b.drop p.1) := ⟨_, rfl⟩
      obtain ⟨s, hs⟩ : ∃ s, s = vget (b.drop (p.1 + r.2.1)) := ⟨_, rfl⟩
      have hv1 := vget_len5 (b.drop p.1)
      have hw1 := vget_lt (b.drop p.1)
      have hv2 := vget_len5 (b.drop (p.1 + r.2.1))
      have hw2 := vget_lt (b.drop (p.1 + r.2.1))
      rw [List.length_drop, ← hr] at hv1
      rw [List.length_drop, ← hs] at hv2
      rw [← hr] at hw1
      rw [← hs] at hw2
      have hg1 := vgetE_c hr (by rw [List.length_drop]; omega)
      have hg2 := vgetE_c hs (by rw [List.length_drop]; omega)
      refine WC.seq fun Fh10_ h10_ => ?_
      refine WC.seq fun Fh11_ h11_ => ?_
      refine WC.region ?_
      refine RG.op _ _ rfl rfl (o_move (.own _ _ _ _ _) rfl) ?_
      refine RG.op _ _ rfl rfl (o_len_own rfl Try.underlying41) ?_
      refine RG.op _ _ rfl rfl (o_move (.v _) rfl) ?_
      refine RG.op _ _ rfl rfl (o_ltI rfl rfl) ?_
      refine RG.nil (h11_ _ ?_)
      refine WC.cond _ rfl (fun c6 => ?_) (fun c6 => ?_)
      ·
        have p6 := c6
        try simp only [CN] at p6
        have hlt : p.2.1.length < m := by omega
        refine WC.skip (h10_ _ ?_)
        refine WC.block ?_
        refine WC.seq fun Fh12_ h12_ => ?_
        refine WC.region ?_
        refine RG.op _ _ rfl rfl (o_move (.rd _ _) rfl) ?_
        refine RG.op _ _ rfl rfl (o_move (.v _) rfl) ?_
        refine RG.op _ _ rfl rfl (o_dropM p.1 rfl rfl Try.underlying22 (sz_of Ty.inf5) (by first | omega | exact ubyte _ | (simp only [LS, nS_len] <;> omega)) (by first | omega | exact ubyte _ | (simp only [LS, nS_len] <;> omega))) ?_
        refine RG.op _ _ rfl rfl ((by exact o_call (ds := [rdB (b.drop p.1)]) Ty.cal44 hg1 ⟨.inl rfl, trivial⟩ (by exact pua rfl))) ?_
        refine RG.op _ _ rfl rfl (o_move (.tup _) rfl) ?_
        refine RG.op _ _ rfl rfl (o_extract rfl rfl) ?_
        refine RG.op _ _ rfl rfl (o_extract rfl rfl) ?_
        refine RG.op _ _ rfl rfl (o_extract rfl rfl) ?_
        refine RG.op _ _ rfl rfl (o_assign (.v _) rfl) ?_
        refine RG.op _ _ rfl rfl (o_assign (.v _) rfl) ?_
        refine RG.op _ _ rfl rfl (o_assign (.v _) rfl) ?_
        refine RG.nil (h12_ _ ?_)
        refine WC.seq fun Fh13_ h13_ => ?_
        refine WC.seq fun Fh14_ h14_ => ?_
        refine WC.region ?_
        refine RG.op _ _ rfl rfl (o_move (.v _) rfl) ?_
        refine RG.op _ _ rfl rfl (o_neI rfl rfl) ?_
        refine RG.nil (h14_ _ ?_)
        refine WC.cond _ rfl (fun c8 => ?_) (fun c8 => ?_)
        ·
          have p8 := c8
          try simp only [CN] at p8
          refine WC.seq fun Fh15_ h15_ => ?_
          refine WC.region ?_
          refine RG.op _ _ rfl rfl (o_move (.v _) rfl) ?_
          refine RG.op _ _ rfl rfl (o_assign (.v _) rfl) ?_
          refine RG.op _ _ rfl rfl (o_assign (.v _) rfl) ?_
          refine RG.nil (h15_ _ ?_)
          refine WC.ret ?_
          exact Ends.r2 rfl (.tmp _ (.v _) rfl) (.tmp _ (.v _) rfl) .nilr (.v _) (by rw [hk4, gG_bad1 hlt hr (by omega)]; rfl)
        ·
          have p8 := c8
          try simp only [CN] at p8
          have hz1 : r.2.2 = 0 := by omega
          refine WC.skip (h13_ _ ?_)
          refine WC.seq fun Fh16_ h16_ => ?_
          refine WC.seq fun Fh17_ h17_ => ?_
          refine WC.region ?_
          refine RG.op _ _ rfl rfl (o_move (.v _) rfl) ?_
          refine RG.op _ _ rfl rfl (o_eqI rfl rfl) ?_
          refine RG.op _ _ rfl rfl (o_move (.v _) rfl) ?_
          refine RG.opg1 _ _ _ _ _ rfl rfl rfl rfl rfl (fun hb => o_move (.v _) rfl) ?_
          refine RG.opg1 _ _ _ _ _ rfl rfl rfl rfl rfl (fun hb => o_move (.v _) rfl) ?_
          refine RG.opg1 _ _ _ _ _ rfl rfl rfl rfl rfl (fun hb => o_move (.own _ _ _ _ _) rfl) ?_
          refine RG.opg1 _ _ _ _ _ rfl rfl rfl rfl rfl (fun hb => o_len_own (gdT hb) Try.underlying41) ?_
          refine RG.opg1 _ _ _ _ _ rfl rfl rfl rfl rfl (fun hb => o_sub (gdT hb) (gdT hb) (by first | omega | exact ubyte _ | (have hb' := hb; simp only [CN] at hb'; omega) | (simp only [LS, nS_len] <;> omega) | (have hb' := hb; simp only [CN] at hb'; simp only [LS, nS_len]; omega)) (by first | omega | exact ubyte _ | (have hb' := hb; simp only [CN] at hb'; omega) | (simp only [LS, nS_len] <;> omega) | (have hb' := hb; simp only [CN] at hb'; simp only [LS, nS_len]; omega))) ?_
          refine RG.opg1 _ _ _ _ _ rfl rfl rfl rfl rfl (fun hb => o_i64toU (gdT hb) Try.underlying3 Try.underlying72) ?_
          refine RG.opg1 _ _ _ _ _ rfl rfl rfl rfl rfl (fun hb => o_gtI (gdT hb) (gdT hb)) ?_
          refine RG.op _ _ rfl rfl (o_or _ _ rfl rfl rfl) ?_
          refine RG.nil (h17_ _ ?_)
          refine WC.cond _ rfl (fun c10 => ?_) (fun c10 => ?_)
          ·
            have p10 := c10
            try simp only [CN] at p10
            refine WC.seq fun Fh18_ h18_ => ?_
            refine WC.region ?_
            refine RG.op _ _ rfl rfl (o_assign (.v _) rfl) ?_
            refine RG.op _ _ rfl rfl (o_assign (.v _) rfl) ?_
            refine RG.nil (h18_ _ ?_)
            refine WC.ret ?_
            exact Ends.r2 rfl (.tmp _ (.v _) rfl) (.tmp _ (.v _) rfl) .nilr (.v _) (by rw [hk4, gG_many hlt hr hz1 (by omega)]; rfl)
          ·
            have p10 := c10
            try simp only [CN] at p10
            have hc1 : ¬ (r.1 = 0 ∨ m - p.2.1.length < r.1) := by omega
            refine WC.skip (h16_ _ ?_)
            refine WC.seq fun Fh19_ h19_ => ?_
            refine WC.region ?_
            refine RG.op _ _ rfl rfl (o_move (.v _) rfl) ?_
            refine RG.op _ _ rfl rfl (o_move (.v _) rfl) ?_
            refine RG.op _ _ rfl rfl (o_add rfl rfl (by first | omega | exact ubyte _ | (simp only [LS, nS_len] <;> omega)) (by first | omega | exact ubyte _ | (simp only [LS, nS_len] <;> omega))) ?_
            refine RG.op _ _ rfl rfl (o_assign (.v _) rfl) ?_
            refine RG.nil (h19_ _ ?_)
            refine WC.seq fun Fh20_ h20_ => ?_
            refine WC.region ?_
            refine RG.op _ _ rfl rfl (o_move (.rd _ _) rfl) ?_
            refine RG.op _ _ rfl rfl (o_move (.v _) rfl) ?_
            refine RG.op _ _ rfl rfl (o_dropM (p.1 + (r.2.1)) rfl rfl Try.underlying22 (sz_of Ty.inf5) (by first | omega | exact ubyte _ | (simp only [LS, nS_len] <;> omega)) (by first | omega | exact ubyte _ | (simp only [LS, nS_len] <;> omega))) ?_
            refine RG.op _ _ rfl rfl ((by exact o_call (ds := [rdB (b.drop (p.1 + r.2.1))]) Ty.cal44 hg2 ⟨.inl rfl, trivial⟩ (by exact pua rfl))) ?_
            refine RG.op _ _ rfl rfl (o_move (.tup _) rfl) ?_
            refine RG.op _ _ rfl rfl (o_extract rfl rfl) ?_
            refine RG.op _ _ rfl rfl (o_extract rfl rfl) ?_
            refine RG.op _ _ rfl rfl (o_extract rfl rfl) ?_
            refine RG.op _ _ rfl rfl (o_assign (.v _) rfl) ?_
            refine RG.op _ _ rfl rfl (o_assign (.v _) rfl) ?_
            refine RG.op _ _ rfl rfl (o_assign (.v _) rfl) ?_
            refine RG.nil (h20_ _ ?_)
            refine WC.seq fun Fh21_ h21_ => ?_
            refine WC.seq fun Fh22_ h22_ => ?_
            refine WC.region ?_
            refine RG.op _ _ rfl rfl (o_move (.v _) rfl) ?_
            refine RG.op _ _ rfl rfl (o_neI rfl rfl) ?_
            refine RG.nil (h22_ _ ?_)
            refine WC.cond _ rfl (fun c14 => ?_) (fun c14 => ?_)
            ·
              have p14 := c14
              try simp only [CN] at p14
              refine WC.seq fun Fh23_ h23_ => ?_
              refine WC.region ?_
              refine RG.op _ _ rfl rfl (o_move (.v _) rfl) ?_
              refine RG.op _ _ rfl rfl (o_assign (.v _) rfl) ?_
              refine RG.op _ _ rfl rfl (o_assign (.v _) rfl) ?_
              refine RG.nil (h23_ _ ?_)
              refine WC.ret ?_
              exact Ends.r2 rfl (.tmp _ (.v _) rfl) (.tmp _ (.v _) rfl) .nilr (.v _) (by rw [hk4, gG_bad2 hlt hr hz1 hc1 hs (by omega)]; rfl)
            ·
              have p14 := c14
              try simp only [CN] at p14
              have hz2 : s.2.2 = 0 := by omega
              refine WC.skip (h21_ _ ?_)
              refine WC.seq fun Fh24_ h24_ => ?_
              refine WC.region ?_
              refine RG.op _ _ rfl rfl (o_move (.v _) rfl) ?_
              refine RG.op _ _ rfl rfl (o_call Ty.cal45 (vzag_c _ (by first | omega | exact ubyte _ | (simp only [LS, nS_len] <;> omega))) ⟨.inl rfl, trivial⟩ (by exact pua rfl)) ?_
              refine RG.op _ _ rfl rfl (o_assign (.v _) rfl) ?_
              refine RG.nil (h24_ _ ?_)
              refine WC.seq fun Fh25_ h25_ => ?_
              refine WC.seq fun Fh26_ h26_ => ?_
              refine WC.region ?_
              refine RG.op _ _ rfl rfl (o_move (.own _ _ _ _ _) rfl) ?_
              refine RG.op _ _ rfl rfl (o_len_own rfl Try.underlying41) ?_
              refine RG.op _ _ rfl rfl (o_gtI rfl rfl) ?_
              refine RG.op _ _ rfl rfl (o_move (.v _) rfl) ?_
              refine RG.opg1 _ _ _ _ _ rfl rfl rfl rfl rfl (fun hb => o_move (.v _) rfl) ?_
              refine RG.opg1 _ _ _ _ _ rfl rfl rfl rfl rfl (fun hb => o_move (.v _) rfl) ?_
              refine RG.opg1 _ _ _ _ _ rfl rfl rfl rfl rfl (fun hb => o_eqI (gdT hb) (gdT hb)) ?_
              refine RG.op _ _ rfl rfl (o_and _ _ rfl rfl rfl) ?_
              refine RG.nil (h26_ _ ?_)
              refine WC.cond _ rfl (fun c17 => ?_) (fun c17 => ?_)
              ·
                have p17 := c17
                try simp only [CN] at p17
                refine WC.seq fun Fh27_ h27_ => ?_
                refine WC.region ?_
                refine RG.op _ _ rfl rfl (o_assign (.v _) rfl) ?_
                refine RG.op _ _ rfl rfl (o_assign (.v _) rfl) ?_
                refine RG.nil (h27_ _ ?_)
                refine WC.ret ?_
                exact Ends.r2 rfl (.tmp _ (.v _) rfl) (.tmp _ (.v _) rfl) .nilr (.v _) (by rw [hk4, gG_same hlt hr hz1 hc1 hs hz2 ⟨by omega, by rw [hk3 (by omega)]; exact p17.2.symm⟩]; rfl)
              ·
                have p17 := c17
                try simp only [CN] at p17
                have hc4 : ¬ (0 < p.2.1.length ∧ p.2.1.getD (p.2.1.length - 1) 0 = zagI s.1) := by rintro ⟨h1, h2⟩; rw [hk3 h1] at h2; rcases p17 with h | h; omega; exact h h2.symm
                have hst := gG_step hlt hr hz1 hc1 hs hz2 hc4
                refine WC.skip (h25_ _ ?_)
                refine WC.seq fun Fh28_ h28_ => ?_
                refine WC.region ?_
                refine RG.op _ _ rfl rfl (o_move (.v _) rfl) ?_
                refine RG.op _ _ rfl rfl (o_move (.v _) rfl) ?_
                refine RG.op _ _ rfl rfl (o_add rfl rfl (by first | omega | exact ubyte _ | (simp only [LS, nS_len] <;> omega)) (by first | omega | exact ubyte _ | (simp only [LS, nS_len] <;> omega))) ?_
                refine RG.op _ _ rfl rfl (o_assign (.v _) rfl) ?_
                refine RG.nil (h28_ _ ?_)
                refine WC.seq fun Fh29_ h29_ => ?_
                refine WC.region ?_
                refine RG.op _ _ rfl rfl (o_move (.v _) rfl) ?_
                refine RG.op _ _ rfl rfl (o_assign (.v _) rfl) ?_
                refine RG.nil (h29_ _ ?_)
                refine WC.seq fun Fh30_ h30_ => ?_
                refine WC.seq fun Fh31_ h31_ => ?_
                refine WC.region ?_
                refine RG.op _ _ rfl rfl (o_move (.v _) rfl) ?_
                refine RG.op _ _ rfl rfl (o_move (N64 0) rfl) ?_
                refine RG.nil (h31_ _ ?_)
                refine WC.block ?_
                refine WC.loopU [6, 7, 8, 79, 80, 81, 82, 83, 84, 85, 86, 87, 88, 89, 90, 91, 92, 93, 94, 95, 96, 97] (fun (j : Nat) => [(79, N64 j), (6, ow 0 (p.2.1.length + j) 1), (7, I64 (nS (repI p.2.1 j (zagI s.1))).2.1), (8, I64 (nS (repI p.2.1 j (zagI s.1))).1)]) (fun (j : Nat) => [(0, tb 2 (p.2.1.length + j) ((nS (repI p.2.1 j (zagI s.1))).2.2.map I64))]) (fun (j : Nat) => j ≤ r.1) (fun (j : Nat) => r.1 - j) 0 (by first | omega | exact ubyte _ | (simp only [LS, nS_len] <;> omega)) ?lpa32_ ?lpb33_
                case lpa32_ =>
                  exact .mk' ⟨⟨rfl, .v _⟩, ⟨rfl, (by first | exact .own _ _ _ _ _ (Nat.le_refl _) | exact .ptr _ _ _ (Nat.le_refl _) | exact .omp _ _ (Nat.le_refl _))⟩, ⟨congrArg (fun c => I64 (nS c).2.1) (repI_zero _ _).symm, .v _⟩, ⟨congrArg (fun c => I64 (nS c).1) (repI_zero _ _).symm, .v _⟩, trivial⟩ (same_refl _ _) (congrArg (fun c => [c]) (tb_eq rfl (congrArg (fun c => (nS c).2.2.map I64) (repI_zero _ _).symm))) (by repeat (first | exact trivial | refine And.intro (Nat.le_refl _) ?_ | refine And.intro trivial ?_ | refine And.intro (by show _ ≤ _; (first | omega | (simp only [LS, nS_len] <;> omega))) ?_)) (by repeat (first | exact trivial | refine And.intro (one_ok (.own _ _ _ _ _ (Nat.le_refl _))) ?_ | refine And.intro (okp (by repeat (first | exact pu_bytes _ | exact pu_nil | exact pu_vs rfl | exact pu_map (fun _ => .v _) _ | exact pu_vals _ | refine pu_app ?_ ?_ | refine pu_cons (by exact pu_of rfl) ?_))) ?_))
                case lpb33_ =>
                  rintro j hI
                  have hrl := repI_len p.2.1 j (zagI s.1)
                  refine WC.seq fun Fh34_ h34_ => ?_
                  refine WC.region ?_
                  refine RG.op _ _ rfl rfl (o_ltI rfl rfl) ?_
                  refine RG.nil (h34_ _ ?_)
                  refine WC.seq fun Fh35_ h35_ => ?_
                  refine WC.cond _ rfl (fun c22 => ?_) (fun c22 => ?_)
                  ·
                    have p22 := c22
                    try simp only [CN] at p22
                    refine WC.skip (h35_ _ ?_)
                    refine WC.seq fun Fh36_ h36_ => ?_
                    refine WC.block ?_
                    refine WC.seq fun Fh37_ h37_ => ?_
                    refine WC.region ?_
                    refine RG.op _ _ rfl rfl (o_move (.v _) rfl) ?_
                    refine RG.op _ _ rfl rfl (o_i64toU rfl Try.underlying2 Try.underlying72) ?_
                    refine RG.op _ _ rfl rfl (o_move (.v _) rfl) ?_
                    refine RG.op _ _ rfl rfl (o_i64toU rfl Try.underlying2 Try.underlying72) ?_
                    refine RG.op _ _ rfl rfl (o_addU rfl rfl) ?_
                    refine RG.op _ _ rfl rfl (o_UtoI64 rfl (by first | omega | exact ubyte _ | (simp only [LS, nS_len] <;> omega)) Try.underlying72 Try.underlying2) ?_
                    refine RG.op _ _ rfl rfl (o_assign (.v _) rfl) ?_
                    refine RG.nil (h37_ _ ?_)
                    refine WC.seq fun Fh38_ h38_ => ?_
                    refine WC.region ?_
                    refine RG.op _ _ rfl rfl (o_move (.v _) rfl) ?_
                    refine RG.op _ _ rfl rfl (o_i64toU rfl Try.underlying2 Try.underlying72) ?_
                    refine RG.op _ _ rfl rfl (o_move (.v _) rfl) ?_
                    refine RG.op _ _ rfl rfl (o_i64toU rfl Try.underlying2 Try.underlying72) ?_
                    refine RG.op _ _ rfl rfl (o_addU rfl rfl) ?_
                    refine RG.op _ _ rfl rfl (o_UtoI64 rfl (by first | omega | exact ubyte _ | (simp only [LS, nS_len] <;> omega)) Try.underlying72 Try.underlying2) ?_
                    refine RG.op _ _ rfl rfl (o_assign (.v _) rfl) ?_
                    refine RG.nil (h38_ _ ?_)
                    refine WC.region ?_
                    refine RG.op _ _ rfl rfl (o_move (.own _ _ _ _ _) rfl) ?_
                    refine RG.op _ _ rfl rfl (o_move (.v _) rfl) ?_
                    refine RG.op _ _ rfl rfl (o_litP (cs := [(.v _)]) Try.underlying41 Ty.inf2 rfl rfl rfl rfl (by repeat (first | exact pu_bytes _ | exact pu_nil | exact pu_vs rfl | exact pu_map (fun _ => .v _) _ | exact pu_vals _ | refine pu_app ?_ ?_ | refine pu_cons (by exact pu_of rfl) ?_))) ?_
                    refine RG.op _ _ rfl rfl (o_appT (Elem.of Try.underlying41 Ty.inf2 rfl (by decide)) rfl rfl rfl (by first | omega | exact ubyte _ | (simp only [LS, nS_len] <;> omega)) (by first | omega | exact ubyte _ | (simp only [LS, nS_len] <;> omega)) (by repeat (first | exact bytesD_one _ | exact one_nil | exact one_map (fun _ => rfl) _ | exact one_vals _ | refine one_app ?_ ?_ | refine one_cons rfl ?_)) (by first | omega | exact ubyte _ | (simp only [LS, nS_len] <;> omega)) (by first | omega | exact ubyte _ | (simp only [LS, nS_len] <;> omega))) ?_
                    refine RG.op _ _ rfl rfl (o_assign (.own _ _ _ _ _) rfl) ?_
                    refine RG.nil (h36_ _ ?_)
                    have h8 := (addI_u (nS (repI p.2.1 j (zagI s.1))).1 (zagI s.1)).trans repI_st.symm
                    have h7 := (addI_u (nS (repI p.2.1 j (zagI s.1))).2.1 _).trans ((congrArg (addI _) h8).trans repI_la.symm)
                    refine WC.region ?_
                    refine RG.op _ _ rfl rfl (o_addU (b := 1) rfl rfl) ?_
                    refine RG.op _ _ rfl rfl (o_move (.v _) rfl) ?_
                    refine RG.nil (Exists.intro (j + 1) ⟨by first | omega | (simp only [LS, nS_len] <;> omega), by first | omega | (simp only [LS, nS_len] <;> omega), ?_⟩)
                    exact .mk' ⟨⟨congrArg N64 (Nat.mod_eq_of_lt (by omega)), .v _⟩, ⟨rfl, (by first | exact .own _ _ _ _ _ (Nat.le_refl _) | exact .ptr _ _ _ (Nat.le_refl _) | exact .omp _ _ (Nat.le_refl _))⟩, ⟨congrArg I64 h7, .v _⟩, ⟨congrArg I64 h8, .v _⟩, trivial⟩ (by repeat (first | with_reducible exact same_refl _ _ | with_reducible refine same_updO (by with_unfolding_all exact rfl) ?_ | with_reducible refine same_updN ?_ | with_reducible refine same_updL (by with_unfolding_all exact rfl) ?_ | with_reducible refine same_forget (by with_unfolding_all exact rfl) ?_)) (congrArg (fun c => [c]) (tb_eq rfl (by rw [repI_out, ← h7]))) (by repeat (first | exact trivial | refine And.intro (Nat.le_refl _) ?_ | refine And.intro trivial ?_ | refine And.intro (by show _ ≤ _; (first | omega | (simp only [LS, nS_len] <;> omega))) ?_)) (by repeat (first | exact trivial | refine And.intro (one_ok (.own _ _ _ _ _ (Nat.le_refl _))) ?_ | refine And.intro (okp (by repeat (first | exact pu_bytes _ | exact pu_nil | exact pu_vs rfl | exact pu_map (fun _ => .v _) _ | exact pu_vals _ | refine pu_app ?_ ?_ | refine pu_cons (by exact pu_of rfl) ?_))) ?_))
                  ·
                    have p22 := c22
                    try simp only [CN] at p22
                    have hj : j = r.1 := by omega
                    refine WC.exit (h30_ _ ?_)
                    refine WC.seq fun Fh39_ h39_ => ?_
                    refine WC.region ?_
                    refine RG.op _ _ rfl rfl (o_move (.own _ _ _ _ _) rfl) ?_
                    refine RG.op _ _ rfl rfl (o_len_own rfl Try.underlying41) ?_
                    refine RG.op _ _ rfl rfl (o_move (.v _) rfl) ?_
                    refine RG.op _ _ rfl rfl (o_eqI rfl rfl) ?_
                    refine RG.op _ _ rfl rfl (o_move (.v _) rfl) ?_
                    refine RG.opg1 _ _ _ _ _ rfl rfl rfl rfl rfl (fun hb => o_move (.v _) rfl) ?_
                    refine RG.opg1 _ _ _ _ _ rfl rfl rfl rfl rfl (fun hb => o_move (.rd _ _) rfl) ?_
                    refine RG.opg1 _ _ _ _ _ rfl rfl rfl rfl rfl (fun hb => o_len_rd (gdT hb) Try.underlying22) ?_
                    refine RG.opg1 _ _ _ _ _ rfl rfl rfl rfl rfl (fun hb => o_ltI (gdT hb) (gdT hb)) ?_
                    refine RG.op _ _ rfl rfl (o_and _ _ rfl rfl rfl) ?_
                    refine RG.nil (h39_ _ ?_)
                    refine WC.cond _ rfl (fun c27 => ?_) (fun c27 => ?_)
                    ·
                      have p27 := c27
                      try simp only [CN] at p27
                      refine WC.seq fun Fh40_ h40_ => ?_
                      refine WC.region ?_
                      refine RG.op _ _ rfl rfl (o_assign (.v _) rfl) ?_
                      refine RG.op _ _ rfl rfl (o_assign (.v _) rfl) ?_
                      refine RG.nil (h40_ _ ?_)
                      refine WC.ret ?_
                      exact Ends.r2 rfl (.tmp _ (.v _) rfl) (.tmp _ (.v _) rfl) .nilr (.v _) (by rw [hk4, hst, gG_rest (by rw [repI_len]; omega) (by omega)]; rfl)
                    ·
                      have p27 := c27
                      try simp only [CN] at p27
                      refine WC.skip (Exists.intro ((p.1 + r.2.1 + s.2.1, repI p.2.1 r.1 (zagI s.1), zagI s.1)) ⟨⟨by show p.1 + r.2.1 + s.2.1 ≤ _; omega, by show (repI p.2.1 r.1 (zagI s.1)).length ≤ m; rw [repI_len]; omega, fun _ => repI_getD _ _ _ (by omega), hk4.trans hst, fun h h2 => by replace h : (repI p.2.1 r.1 (zagI s.1)).length = m := h; replace h2 : p.1 + r.2.1 + s.2.1 < b.length := h2; rw [repI_len] at h; omega, fun h => by omega⟩, by show m - (repI p.2.1 r.1 (zagI s.1)).length < _; rw [repI_len]; omega, ?_⟩)
                      exact .mk' ⟨⟨rfl, .v _⟩, ⟨ow_eq (by rw [repI_len]; omega), (by first | exact .own _ _ _ _ _ (Nat.le_refl _) | exact .ptr _ _ _ (Nat.le_refl _) | exact .omp _ _ (Nat.le_refl _))⟩, ⟨congrArg (fun j => I64 (nS (repI p.2.1 j (zagI s.1))).2.1) hj, .v _⟩, ⟨congrArg (fun j => I64 (nS (repI p.2.1 j (zagI s.1))).1) hj, .v _⟩, ⟨rfl, .v _⟩, trivial⟩ (by repeat (first | with_reducible exact same_refl _ _ | with_reducible refine same_updO (by with_unfolding_all exact rfl) ?_ | with_reducible refine same_updN ?_ | with_reducible refine same_updL (by with_unfolding_all exact rfl) ?_ | with_reducible refine same_forget (by with_unfolding_all exact rfl) ?_)) (congrArg (fun c => [c]) (tb_eq (by rw [repI_len]; omega) (congrArg (fun j => (nS (repI p.2.1 j (zagI s.1))).2.2.map I64) hj))) (by repeat (first | exact trivial | refine And.intro (Nat.le_refl _) ?_ | refine And.intro trivial ?_ | refine And.intro (by show _ ≤ _; (first | omega | (simp only [LS, nS_len] <;> omega))) ?_)) (by repeat (first | exact trivial | refine And.intro (one_ok (.own _ _ _ _ _ (Nat.le_refl _))) ?_ | refine And.intro (okp (by repeat (first | exact pu_bytes _ | exact pu_nil | exact pu_vs rfl | exact pu_map (fun _ => .v _) _ | exact pu_vals _ | refine pu_app ?_ ?_ | refine pu_cons (by exact pu_of rfl) ?_))) ?_))
      ·
        have p6 := c6
        try simp only [CN] at p6
        have hen : p.2.1.length = m := by omega
        refine WC.exit (h6_ _ ?_)
        refine WC.seq fun Fh41_ h41_ => ?_
        refine WC.seq fun Fh42_ h42_ => ?_
        refine WC.region ?_
        refine RG.op _ _ rfl rfl (o_move (.v _) rfl) ?_
        refine RG.op _ _ rfl rfl (o_eqI rfl rfl) ?_
        refine RG.op _ _ rfl rfl (o_move (.v _) rfl) ?_
        refine RG.opg1 _ _ _ _ _ rfl rfl rfl rfl rfl (fun hb => o_move (.rd _ _) rfl) ?_
        refine RG.opg1 _ _ _ _ _ rfl rfl rfl rfl rfl (fun hb => o_len_rd (gdT hb) Try.underlying22) ?_
        refine RG.opg1 _ _ _ _ _ rfl rfl rfl rfl rfl (fun hb => o_gtI (gdT hb) rfl) ?_
        refine RG.op _ _ rfl rfl (o_and _ _ rfl rfl rfl) ?_
        refine RG.nil (h42_ _ ?_)
        refine WC.cond _ rfl (fun c29 => ?_) (fun c29 => ?_)
        ·
          have p29 := c29
          try simp only [CN] at p29
          refine WC.seq fun Fh43_ h43_ => ?_
          refine WC.region ?_
          refine RG.op _ _ rfl rfl (o_assign (.v _) rfl) ?_
          refine RG.op _ _ rfl rfl (o_assign (.v _) rfl) ?_
          refine RG.nil (h43_ _ ?_)
          refine WC.ret ?_
          exact Ends.r2 rfl (.tmp _ (.v _) rfl) (.tmp _ (.v _) rfl) .nilr (.v _) (by rw [hk4, gG_rest (by omega) (by omega)]; rfl)
        ·
          have p29 := c29
          try simp only [CN] at p29
          refine WC.skip (h41_ _ ?_)
          refine WC.seq fun Fh44_ h44_ => ?_
          refine WC.region ?_
          refine RG.op _ _ rfl rfl (o_move (.own _ _ _ _ _) rfl) ?_
          refine RG.op _ _ rfl rfl (o_assign (.own _ _ _ _ _) rfl) ?_
          refine RG.op _ _ rfl rfl (o_assign (.v _) rfl) ?_
          refine RG.nil (h44_ _ ?_)
          refine WC.ret ?_
          exact Ends.r2 rfl (.tmp _ (.own _ _ _ _ _) rfl) (.tmp _ (.v _) rfl) (.tb rfl (by repeat (first | exact pu_bytes _ | exact pu_nil | exact pu_vs rfl | exact pu_map (fun _ => .v _) _ | exact pu_vals _ | refine pu_app ?_ ?_ | refine pu_cons (by exact pu_of rfl) ?_))) (.v _) (by rw [hk4, gG_end (by omega) (fun h => by have := hk5 hen h; have := hk6 this; omega)]; exact congrArg (fun c => D.tup [c, I64 0]) (rd_eq (nS_len _).symm rfl))
end Go.Proofs.Ytbdibcpenihpdaa
