/-
  Layer ints: the document's Get. No condition.
-/
import Derived.Test.YtbdibcpenihpdaaI8
import Derived.Test.YtbdibcpenihpdaaDlU
set_option linter.unusedSimpArgs false
set_option linter.unusedVariables false
namespace Go.Proofs.Ytbdibcpenihpdaa
open Go.RowKit Go.DL

abbrev cU (c : List Int) : List D := c.map fun d => N64 (uI d)
theorem cU_get {c : List Int} {o : Nat} (ho : o = c.length - 1) (h : 0 < c.length) : (cU c)[o]? = some (N64 (uI (c.getD (c.length - 1) 0))) := by
  subst ho
  rw [List.getElem?_map, List.getElem?_eq_getElem (by omega)]
  simp [List.getD, show c.length - 1 < c.length by omega]
theorem uI_inj {a b : Int} (h1 : -9223372036854775808 ≤ a ∧ a ≤ 9223372036854775807) (h2 : -9223372036854775808 ≤ b ∧ b ≤ 9223372036854775807) (h : uI a = uI b) : a = b := by unfold uI at h; omega
theorem cU_rep (c : List Int) (j : Nat) (d : Int) : cU (repI c j d) ++ [N64 (uI d)] = cU (repI c (j + 1) d) := by rw [repI_succ]; simp
theorem uI_sgn {n : Nat} (h : n ≤ 18446744073709551615) : uI (sgn n) = n := by unfold uI sgn; split <;> omega
theorem uI_add (a b : Int) : (uI a + uI b) % 18446744073709551616 = uI (addI a b) := by
  unfold addI
  rw [uI_sgn (by omega)]
  unfold uI; omega
theorem sgn_add (a b : Int) : sgn (uI (addI a b)) = addI a b := by
  unfold addI
  rw [uI_sgn (by omega)]
theorem nS_take {c : List Int} {k : Nat} (h : k < c.length) : nS (c.take (k + 1)) = (addI (nS (c.take k)).1 c[k], addI (nS (c.take k)).2.1 (addI (nS (c.take k)).1 c[k]), (nS (c.take k)).2.2 ++ [addI (nS (c.take k)).2.1 (addI (nS (c.take k)).1 c[k])]) := by
  rw [List.take_succ_eq_append_getElem h, nS_snoc]
theorem vget_nil {b : List UInt8} {a : Nat} {r : Nat × Nat × Nat} (h : b.length ≤ a) (hr : r = vget (b.drop a)) : r = (0, 0, 20) := by
  rw [hr, List.drop_eq_nil_of_le h]; rfl
set_option maxRecDepth 20000 in
set_option maxHeartbeats 4000000 in
theorem igetR_c (b : List UInt8) (m : Nat) (hb : b.length ≤ 10995116277760) (hm : m ≤ 65536) : Fun Try.prog 29 [rdB b, I64 ((m : Nat) : Int)] (· = VI (gG b m 0 [])) := by
  refine Fun.of Try.func29 rfl (Nat.le_of_ble_eq_true rfl) fun C => ?_
  refine WC.seq fun Fh1_ h1_ => ?_
  refine WC.region ?_
  refine RG.op _ _ rfl rfl (o_assign (.v _) rfl) ?_
  refine RG.op _ _ rfl rfl (o_assign (.v _) rfl) ?_
  refine RG.nil (h1_ _ ?_)
  refine WC.seq fun Fh2_ h2_ => ?_
  refine WC.seq fun Fh3_ h3_ => ?_
  refine WC.region ?_
  refine RG.op _ _ rfl rfl (o_move (.v _) rfl) ?_
  refine RG.op _ _ rfl rfl (o_ltI rfl rfl) ?_
  refine RG.op _ _ rfl rfl (o_move (.v _) rfl) ?_
  refine RG.opg1 _ _ _ _ _ rfl rfl rfl rfl rfl (fun hb => o_move (.v _) rfl) ?_
  refine RG.opg1 _ _ _ _ _ rfl rfl rfl rfl rfl (fun hb => o_gtI (gdT hb) rfl) ?_
  refine RG.op _ _ rfl rfl (o_or _ _ rfl rfl rfl) ?_
  refine RG.nil (h3_ _ ?_)
  refine WC.cond _ rfl (fun c1 => ?_) (fun c1 => ?_)
  ·
    have p1 := c1
    try simp only [CN] at p1
    exfalso; omega
  ·
    have p1 := c1
    try simp only [CN] at p1
    refine WC.skip (h2_ _ ?_)
    refine WC.seq fun Fh4_ h4_ => ?_
    refine WC.region ?_
    refine RG.op _ _ rfl rfl (o_nil 72 1) ?_
    refine RG.nil (h4_ _ ?_)
    refine WC.seq fun Fh5_ h5_ => ?_
    refine WC.region ?_
    refine RG.op _ _ rfl rfl (o_assign (.v _) rfl) ?_
    refine RG.nil (h5_ _ ?_)
    refine WC.seq fun Fh6_ h6_ => ?_
    refine WC.block ?_
    refine WC.loopU [4, 5, 6, 7, 8, 9, 10, 11, 12, 13, 24, 25, 26, 27, 28, 29, 30, 31, 32, 33, 34, 35, 36, 37, 38, 39, 40, 41, 42, 43, 44, 45, 46, 47, 48, 49, 50, 51, 52, 53, 54, 55, 56, 57, 58, 59, 60, 61, 62, 63, 64, 65, 66, 67, 68, 69, 70, 71, 72, 73, 74, 75, 76, 77, 78, 79, 80, 81, 82, 83, 84, 85, 86, 87, 88, 89, 90, 91, 92, 93, 94, 95] (fun (p : Nat × List Int) => [(7, I64 ((p.1 : Nat) : Int)), (6, ow 0 p.2.length 1)]) (fun (p : Nat × List Int) => [(0, tb 72 p.2.length (cU p.2))]) (fun (p : Nat × List Int) => p.1 ≤ b.length ∧ p.2.length ≤ m ∧ (0 < p.2.length → -9223372036854775808 ≤ p.2.getD (p.2.length - 1) 0 ∧ p.2.getD (p.2.length - 1) 0 ≤ 9223372036854775807) ∧ gG b m 0 [] = gG b m p.1 p.2) (fun (p : Nat × List Int) => m - p.2.length) (0, []) ⟨Nat.zero_le _, Nat.zero_le _, fun h => absurd h (Nat.lt_irrefl _), rfl⟩ ?lpa7_ ?lpb8_
    case lpa7_ =>
      exact .mk' ⟨⟨rfl, .v _⟩, ⟨rfl, (by first | exact .own _ _ _ _ _ (Nat.le_refl _) | exact .ptr _ _ _ (Nat.le_refl _) | exact .omp _ _ (Nat.le_refl _))⟩, trivial⟩ (same_refl _ _) (rfl) (by repeat (first | exact trivial | refine And.intro (Nat.le_refl _) ?_ | refine And.intro trivial ?_ | refine And.intro (by show _ ≤ _; (first | omega | (simp only [LS, nS_len] <;> omega))) ?_)) (by repeat (first | exact trivial | refine And.intro (one_ok (.own _ _ _ _ _ (Nat.le_refl _))) ?_ | refine And.intro (okp (by repeat (first | exact pu_bytes _ | exact pu_nil | exact pu_vs rfl | exact pu_map (fun _ => .v _) _ | exact pu_vals _ | refine pu_app ?_ ?_ | refine pu_cons (by exact pu_of rfl) ?_))) ?_))
    case lpb8_ =>
      rintro p hI
      have hk1 := hI.1
      have hk2 := hI.2.1
      have hk3 := hI.2.2.1
      have hk4 := hI.2.2.2
      obtain ⟨r, hr⟩ : ∃ r, r = vget (b.drop p.1) := ⟨_, rfl⟩
      obtain ⟨s, hs⟩ : ∃ s, s = vget (b.drop (p.1 + r.2.1)) := ⟨_, rfl⟩
      have hv1 := vget_len5 (b.drop p.1)
      have hw1 := vget_lt (b.drop p.1)
      have hv2 := vget_len5 (b.drop (p.1 + r.2.1))
      have hw2 := vget_lt (b.drop (p.1 + r.2.1))
      rw [List.length_drop, ← hr] at hv1
      rw [List.length_drop, ← hs] at hv2
      rw [← hr] at hw1
      rw [← hs] at hw2
      have hg1 := rgetE_c hr (by rw [List.length_drop]; omega)
      have hg2 := rgetE_c hs (by rw [List.length_drop]; omega)
      have hzr := zag_bnd hw2
      refine WC.seq fun Fh9_ h9_ => ?_
      refine WC.seq fun Fh10_ h10_ => ?_
      refine WC.region ?_
      refine RG.op _ _ rfl rfl (o_move (.own _ _ _ _ _) rfl) ?_
      refine RG.op _ _ rfl rfl (o_len_own rfl Try.underlying75) ?_
      refine RG.op _ _ rfl rfl (o_move (.v _) rfl) ?_
      refine RG.op _ _ rfl rfl (o_ltI rfl rfl) ?_
      refine RG.nil (h10_ _ ?_)
      refine WC.cond _ rfl (fun c5 => ?_) (fun c5 => ?_)
      ·
        have p5 := c5
        try simp only [CN] at p5
        have hlt : p.2.length < m := by omega
        refine WC.skip (h9_ _ ?_)
        refine WC.block ?_
        refine WC.seq fun Fh11_ h11_ => ?_
        refine WC.seq fun Fh12_ h12_ => ?_
        refine WC.region ?_
        refine RG.op _ _ rfl rfl (o_move (.v _) rfl) ?_
        refine RG.op _ _ rfl rfl (o_move (.rd _ _) rfl) ?_
        refine RG.op _ _ rfl rfl (o_len_rd rfl Try.underlying22) ?_
        refine RG.op _ _ rfl rfl (o_eqI rfl rfl) ?_
        refine RG.nil (h12_ _ ?_)
        refine WC.cond _ rfl (fun c6 => ?_) (fun c6 => ?_)
        ·
          have p6 := c6
          try simp only [CN] at p6
          refine WC.seq fun Fh13_ h13_ => ?_
          refine WC.region ?_
          refine RG.op _ _ rfl rfl (o_assign (.v _) rfl) ?_
          refine RG.op _ _ rfl rfl (o_assign (.v _) rfl) ?_
          refine RG.nil (h13_ _ ?_)
          refine WC.ret ?_
          exact Ends.r2 rfl (.tmp _ (.v _) rfl) (.tmp _ (.v _) rfl) .nilr (.v _) (by rw [hk4, gG_bad1 hlt hr (by rw [vget_nil (by omega) hr]; decide), vget_nil (by omega) hr]; rfl)
        ·
          have p6 := c6
          try simp only [CN] at p6
          refine WC.skip (h11_ _ ?_)
          refine WC.seq fun Fh14_ h14_ => ?_
          refine WC.region ?_
          refine RG.op _ _ rfl rfl (o_move (.rd _ _) rfl) ?_
          refine RG.op _ _ rfl rfl (o_move (.v _) rfl) ?_
          refine RG.op _ _ rfl rfl (o_dropM p.1 rfl rfl Try.underlying22 (sz_of Ty.inf5) (by first | omega | exact ubyte _ | (simp only [LS, nS_len] <;> omega)) (by first | omega | exact ubyte _ | (simp only [LS, nS_len] <;> omega))) ?_
          refine RG.op _ _ rfl rfl ((by exact o_call (ds := [rdB (b.drop p.1)]) Ty.cal46 hg1 ⟨.inl rfl, trivial⟩ (by exact pua rfl))) ?_
          refine RG.op _ _ rfl rfl (o_move (.tup _) rfl) ?_
          refine RG.op _ _ rfl rfl (o_extract rfl rfl) ?_
          refine RG.op _ _ rfl rfl (o_extract rfl rfl) ?_
          refine RG.op _ _ rfl rfl (o_extract rfl rfl) ?_
          refine RG.op _ _ rfl rfl (o_assign (.v _) rfl) ?_
          refine RG.op _ _ rfl rfl (o_assign (.v _) rfl) ?_
          refine RG.op _ _ rfl rfl (o_assign (.v _) rfl) ?_
          refine RG.nil (h14_ _ ?_)
          refine WC.seq fun Fh15_ h15_ => ?_
          refine WC.seq fun Fh16_ h16_ => ?_
          refine WC.region ?_
          refine RG.op _ _ rfl rfl (o_move (.v _) rfl) ?_
          refine RG.op _ _ rfl rfl (o_neI rfl rfl) ?_
          refine RG.nil (h16_ _ ?_)
          refine WC.cond _ rfl (fun c9 => ?_) (fun c9 => ?_)
          ·
            have p9 := c9
            try simp only [CN] at p9
            refine WC.seq fun Fh17_ h17_ => ?_
            refine WC.region ?_
            refine RG.op _ _ rfl rfl (o_move (.v _) rfl) ?_
            refine RG.op _ _ rfl rfl (o_assign (.v _) rfl) ?_
            refine RG.op _ _ rfl rfl (o_assign (.v _) rfl) ?_
            refine RG.nil (h17_ _ ?_)
            refine WC.ret ?_
            exact Ends.r2 rfl (.tmp _ (.v _) rfl) (.tmp _ (.v _) rfl) .nilr (.v _) (by rw [hk4, gG_bad1 hlt hr (by omega)]; rfl)
          ·
            have p9 := c9
            try simp only [CN] at p9
            have hz1 : r.2.2 = 0 := by omega
            refine WC.skip (h15_ _ ?_)
            refine WC.seq fun Fh18_ h18_ => ?_
            refine WC.seq fun Fh19_ h19_ => ?_
            refine WC.region ?_
            refine RG.op _ _ rfl rfl (o_move (.v _) rfl) ?_
            refine RG.op _ _ rfl rfl (o_eqI rfl rfl) ?_
            refine RG.op _ _ rfl rfl (o_move (.v _) rfl) ?_
            refine RG.opg1 _ _ _ _ _ rfl rfl rfl rfl rfl (fun hb => o_move (.v _) rfl) ?_
            refine RG.opg1 _ _ _ _ _ rfl rfl rfl rfl rfl (fun hb => o_move (.v _) rfl) ?_
            refine RG.opg1 _ _ _ _ _ rfl rfl rfl rfl rfl (fun hb => o_move (.own _ _ _ _ _) rfl) ?_
            refine RG.opg1 _ _ _ _ _ rfl rfl rfl rfl rfl (fun hb => o_len_own (gdT hb) Try.underlying75) ?_
            refine RG.opg1 _ _ _ _ _ rfl rfl rfl rfl rfl (fun hb => o_sub (gdT hb) (gdT hb) (by first | omega | exact ubyte _ | (have hb' := hb; simp only [CN] at hb'; omega) | (simp only [LS, nS_len] <;> omega) | (have hb' := hb; simp only [CN] at hb'; simp only [LS, nS_len]; omega)) (by first | omega | exact ubyte _ | (have hb' := hb; simp only [CN] at hb'; omega) | (simp only [LS, nS_len] <;> omega) | (have hb' := hb; simp only [CN] at hb'; simp only [LS, nS_len]; omega))) ?_
            refine RG.opg1 _ _ _ _ _ rfl rfl rfl rfl rfl (fun hb => o_i64toU (gdT hb) Try.underlying3 Try.underlying72) ?_
            refine RG.opg1 _ _ _ _ _ rfl rfl rfl rfl rfl (fun hb => o_gtI (gdT hb) (gdT hb)) ?_
            refine RG.op _ _ rfl rfl (o_or _ _ rfl rfl rfl) ?_
            refine RG.nil (h19_ _ ?_)
            refine WC.cond _ rfl (fun c11 => ?_) (fun c11 => ?_)
            ·
              have p11 := c11
              try simp only [CN] at p11
              refine WC.seq fun Fh20_ h20_ => ?_
              refine WC.region ?_
              refine RG.op _ _ rfl rfl (o_assign (.v _) rfl) ?_
              refine RG.op _ _ rfl rfl (o_assign (.v _) rfl) ?_
              refine RG.nil (h20_ _ ?_)
              refine WC.ret ?_
              exact Ends.r2 rfl (.tmp _ (.v _) rfl) (.tmp _ (.v _) rfl) .nilr (.v _) (by rw [hk4, gG_many hlt hr hz1 (by omega)]; rfl)
            ·
              have p11 := c11
              try simp only [CN] at p11
              have hc1 : ¬ (r.1 = 0 ∨ m - p.2.length < r.1) := by omega
              refine WC.skip (h18_ _ ?_)
              refine WC.seq fun Fh21_ h21_ => ?_
              refine WC.region ?_
              refine RG.op _ _ rfl rfl (o_move (.v _) rfl) ?_
              refine RG.op _ _ rfl rfl (o_move (.v _) rfl) ?_
              refine RG.op _ _ rfl rfl (o_add rfl rfl (by first | omega | exact ubyte _ | (simp only [LS, nS_len] <;> omega)) (by first | omega | exact ubyte _ | (simp only [LS, nS_len] <;> omega))) ?_
              refine RG.op _ _ rfl rfl (o_assign (.v _) rfl) ?_
              refine RG.nil (h21_ _ ?_)
              refine WC.seq fun Fh22_ h22_ => ?_
              refine WC.region ?_
              refine RG.op _ _ rfl rfl (o_move (.rd _ _) rfl) ?_
              refine RG.op _ _ rfl rfl (o_move (.v _) rfl) ?_
              refine RG.op _ _ rfl rfl (o_dropM (p.1 + (r.2.1)) rfl rfl Try.underlying22 (sz_of Ty.inf5) (by first | omega | exact ubyte _ | (simp only [LS, nS_len] <;> omega)) (by first | omega | exact ubyte _ | (simp only [LS, nS_len] <;> omega))) ?_
              refine RG.op _ _ rfl rfl ((by exact o_call (ds := [rdB (b.drop (p.1 + r.2.1))]) Ty.cal46 hg2 ⟨.inl rfl, trivial⟩ (by exact pua rfl))) ?_
              refine RG.op _ _ rfl rfl (o_move (.tup _) rfl) ?_
              refine RG.op _ _ rfl rfl (o_extract rfl rfl) ?_
              refine RG.op _ _ rfl rfl (o_extract rfl rfl) ?_
              refine RG.op _ _ rfl rfl (o_extract rfl rfl) ?_
              refine RG.op _ _ rfl rfl (o_assign (.v _) rfl) ?_
              refine RG.op _ _ rfl rfl (o_assign (.v _) rfl) ?_
              refine RG.op _ _ rfl rfl (o_assign (.v _) rfl) ?_
              refine RG.nil (h22_ _ ?_)
              refine WC.seq fun Fh23_ h23_ => ?_
              refine WC.seq fun Fh24_ h24_ => ?_
              refine WC.region ?_
              refine RG.op _ _ rfl rfl (o_move (.v _) rfl) ?_
              refine RG.op _ _ rfl rfl (o_neI rfl rfl) ?_
              refine RG.nil (h24_ _ ?_)
              refine WC.cond _ rfl (fun c15 => ?_) (fun c15 => ?_)
              ·
                have p15 := c15
                try simp only [CN] at p15
                refine WC.seq fun Fh25_ h25_ => ?_
                refine WC.region ?_
                refine RG.op _ _ rfl rfl (o_move (.v _) rfl) ?_
                refine RG.op _ _ rfl rfl (o_assign (.v _) rfl) ?_
                refine RG.op _ _ rfl rfl (o_assign (.v _) rfl) ?_
                refine RG.nil (h25_ _ ?_)
                refine WC.ret ?_
                exact Ends.r2 rfl (.tmp _ (.v _) rfl) (.tmp _ (.v _) rfl) .nilr (.v _) (by rw [hk4, gG_bad2 hlt hr hz1 hc1 hs (by omega)]; rfl)
              ·
                have p15 := c15
                try simp only [CN] at p15
                have hz2 : s.2.2 = 0 := by omega
                refine WC.skip (h23_ _ ?_)
                refine WC.seq fun Fh26_ h26_ => ?_
                refine WC.region ?_
                refine RG.op _ _ rfl rfl (o_move (.v _) rfl) ?_
                refine RG.op _ _ rfl rfl (o_call Ty.cal47 (rzag_c _ (by first | omega | exact ubyte _ | (simp only [LS, nS_len] <;> omega))) ⟨.inl rfl, trivial⟩ (by exact pua rfl)) ?_
                refine RG.op _ _ rfl rfl (o_i64toU rfl Try.underlying2 Try.underlying72) ?_
                refine RG.op _ _ rfl rfl (o_assign (.v _) rfl) ?_
                refine RG.nil (h26_ _ ?_)
                refine WC.seq fun Fh27_ h27_ => ?_
                refine WC.seq fun Fh28_ h28_ => ?_
                refine WC.region ?_
                refine RG.op _ _ rfl rfl (o_move (.own _ _ _ _ _) rfl) ?_
                refine RG.op _ _ rfl rfl (o_len_own rfl Try.underlying75) ?_
                refine RG.op _ _ rfl rfl (o_gtI rfl rfl) ?_
                refine RG.op _ _ rfl rfl (o_move (.v _) rfl) ?_
                refine RG.opg1 _ _ _ _ _ rfl rfl rfl rfl rfl (fun hb => o_move (.own _ _ _ _ _) rfl) ?_
                refine RG.opg1 _ _ _ _ _ rfl rfl rfl rfl rfl (fun hb => o_move (.own _ _ _ _ _) rfl) ?_
                refine RG.opg1 _ _ _ _ _ rfl rfl rfl rfl rfl (fun hb => o_len_own (gdT hb) Try.underlying75) ?_
                refine RG.opg1 _ _ _ _ _ rfl rfl rfl rfl rfl (fun hb => o_sub (gdT hb) rfl (by first | omega | exact ubyte _ | (have hb' := hb; simp only [CN] at hb'; omega) | (simp only [LS, nS_len] <;> omega) | (have hb' := hb; simp only [CN] at hb'; simp only [LS, nS_len]; omega)) (by first | omega | exact ubyte _ | (have hb' := hb; simp only [CN] at hb'; omega) | (simp only [LS, nS_len] <;> omega) | (have hb' := hb; simp only [CN] at hb'; simp only [LS, nS_len]; omega))) ?_
                refine RG.opg1 _ _ _ _ _ rfl rfl rfl rfl rfl (fun hb => o_ixn_own (p.2.length - 1) (gdT hb) (gdT hb) Try.underlying75 (sz_of Ty.inf72) (by first | omega | exact ubyte _ | (have hb' := hb; simp only [CN] at hb'; omega) | (simp only [LS, nS_len] <;> omega) | (have hb' := hb; simp only [CN] at hb'; simp only [LS, nS_len]; omega)) (by first | omega | exact ubyte _ | (have hb' := hb; simp only [CN] at hb'; omega) | (simp only [LS, nS_len] <;> omega) | (have hb' := hb; simp only [CN] at hb'; simp only [LS, nS_len]; omega))) ?_
                refine RG.opg1 _ _ _ _ _ rfl rfl rfl rfl rfl (fun hb => o_load_ptr (d := N64 (uI (p.2.getD (p.2.length - 1) 0))) (gdT hb) Try.underlying72 rfl rfl rfl (cU_get (by first | omega | exact ubyte _ | (have hb' := hb; simp only [CN] at hb'; omega) | (simp only [LS, nS_len] <;> omega) | (have hb' := hb; simp only [CN] at hb'; simp only [LS, nS_len]; omega)) (by first | omega | exact ubyte _ | (have hb' := hb; simp only [CN] at hb'; omega) | (simp only [LS, nS_len] <;> omega) | (have hb' := hb; simp only [CN] at hb'; simp only [LS, nS_len]; omega)))) ?_
                refine RG.opg1 _ _ _ _ _ rfl rfl rfl rfl rfl (fun hb => o_move (.v _) rfl) ?_
                refine RG.opg1 _ _ _ _ _ rfl rfl rfl rfl rfl (fun hb => o_eqI (gdT hb) (gdT hb)) ?_
                refine RG.op _ _ rfl rfl (o_and _ _ rfl rfl rfl) ?_
                refine RG.nil (h28_ _ ?_)
                refine WC.cond _ rfl (fun c18 => ?_) (fun c18 => ?_)
                ·
                  have p18 := c18
                  try simp only [CN] at p18
                  have hc4 : 0 < p.2.length ∧ p.2.getD (p.2.length - 1) 0 = zagI s.1 := ⟨by omega, uI_inj (hk3 (by omega)) hzr (by first | exact p18.2 | exact Int.ofNat.inj p18.2)⟩
                  refine WC.seq fun Fh29_ h29_ => ?_
                  refine WC.region ?_
                  refine RG.op _ _ rfl rfl (o_assign (.v _) rfl) ?_
                  refine RG.op _ _ rfl rfl (o_assign (.v _) rfl) ?_
                  refine RG.nil (h29_ _ ?_)
                  refine WC.ret ?_
                  exact Ends.r2 rfl (.tmp _ (.v _) rfl) (.tmp _ (.v _) rfl) .nilr (.v _) (by rw [hk4, gG_same hlt hr hz1 hc1 hs hz2 hc4]; rfl)
                ·
                  have p18 := c18
                  try simp only [CN] at p18
                  have hc4 : ¬ (0 < p.2.length ∧ p.2.getD (p.2.length - 1) 0 = zagI s.1) := by rintro ⟨h1, h2⟩; rw [h2] at p18; unfold uI at p18; omega
                  have hst := gG_step hlt hr hz1 hc1 hs hz2 hc4
                  refine WC.skip (h27_ _ ?_)
                  refine WC.seq fun Fh30_ h30_ => ?_
                  refine WC.region ?_
                  refine RG.op _ _ rfl rfl (o_move (.v _) rfl) ?_
                  refine RG.op _ _ rfl rfl (o_move (.v _) rfl) ?_
                  refine RG.op _ _ rfl rfl (o_add rfl rfl (by first | omega | exact ubyte _ | (simp only [LS, nS_len] <;> omega)) (by first | omega | exact ubyte _ | (simp only [LS, nS_len] <;> omega))) ?_
                  refine RG.op _ _ rfl rfl (o_assign (.v _) rfl) ?_
                  refine RG.nil (h30_ _ ?_)
                  refine WC.seq fun Fh31_ h31_ => ?_
                  refine WC.region ?_
                  refine RG.op _ _ rfl rfl (o_assign (N64 0) rfl) ?_
                  refine RG.nil (h31_ _ ?_)
                  refine WC.block ?_
                  refine WC.loopU [6, 13, 87, 88, 89, 90, 91, 92, 93, 94, 95] (fun (j : Nat) => [(13, N64 j), (6, ow 0 (p.2.length + j) 1)]) (fun (j : Nat) => [(0, tb 72 (p.2.length + j) (cU (repI p.2 j (zagI s.1))))]) (fun (j : Nat) => j ≤ r.1) (fun (j : Nat) => r.1 - j) 0 (by first | omega | exact ubyte _ | (simp only [LS, nS_len] <;> omega)) ?lpa32_ ?lpb33_
                  case lpa32_ =>
                    exact .mk' ⟨⟨rfl, .v _⟩, ⟨rfl, (by first | exact .own _ _ _ _ _ (Nat.le_refl _) | exact .ptr _ _ _ (Nat.le_refl _) | exact .omp _ _ (Nat.le_refl _))⟩, trivial⟩ (same_refl _ _) (congrArg (fun c => [c]) (tb_eq rfl (congrArg cU (repI_zero _ _).symm))) (by repeat (first | exact trivial | refine And.intro (Nat.le_refl _) ?_ | refine And.intro trivial ?_ | refine And.intro (by show _ ≤ _; (first | omega | (simp only [LS, nS_len] <;> omega))) ?_)) (by repeat (first | exact trivial | refine And.intro (one_ok (.own _ _ _ _ _ (Nat.le_refl _))) ?_ | refine And.intro (okp (by repeat (first | exact pu_bytes _ | exact pu_nil | exact pu_vs rfl | exact pu_map (fun _ => .v _) _ | exact pu_vals _ | refine pu_app ?_ ?_ | refine pu_cons (by exact pu_of rfl) ?_))) ?_))
                  case lpb33_ =>
                    rintro j hI
                    have hrl := repI_len p.2 j (zagI s.1)
                    refine WC.seq fun Fh34_ h34_ => ?_
                    refine WC.seq fun Fh35_ h35_ => ?_
                    refine WC.region ?_
                    refine RG.op _ _ rfl rfl (o_move (.v _) rfl) ?_
                    refine RG.op _ _ rfl rfl (o_move (.v _) rfl) ?_
                    refine RG.op _ _ rfl rfl (o_ltI rfl rfl) ?_
                    refine RG.nil (h35_ _ ?_)
                    refine WC.cond _ rfl (fun c22 => ?_) (fun c22 => ?_)
                    ·
                      have p22 := c22
                      try simp only [CN] at p22
                      refine WC.skip (h34_ _ ?_)
                      refine WC.seq fun Fh36_ h36_ => ?_
                      refine WC.block ?_
                      refine WC.region ?_
                      refine RG.op _ _ rfl rfl (o_move (.own _ _ _ _ _) rfl) ?_
                      refine RG.op _ _ rfl rfl (o_move (.v _) rfl) ?_
                      refine RG.op _ _ rfl rfl (o_litP (cs := [(.v _)]) Try.underlying75 Ty.inf72 rfl rfl rfl rfl (by repeat (first | exact pu_bytes _ | exact pu_nil | exact pu_vs rfl | exact pu_map (fun _ => .v _) _ | exact pu_vals _ | refine pu_app ?_ ?_ | refine pu_cons (by exact pu_of rfl) ?_))) ?_
                      refine RG.op _ _ rfl rfl (o_appT (Elem.of Try.underlying75 Ty.inf72 rfl (by decide)) rfl rfl rfl (by first | omega | exact ubyte _ | (simp only [LS, nS_len] <;> omega)) (by first | omega | exact ubyte _ | (simp only [LS, nS_len] <;> omega)) (by repeat (first | exact bytesD_one _ | exact one_nil | exact one_map (fun _ => rfl) _ | exact one_vals _ | refine one_app ?_ ?_ | refine one_cons rfl ?_)) (by first | omega | exact ubyte _ | (simp only [LS, nS_len] <;> omega)) (by first | omega | exact ubyte _ | (simp only [LS, nS_len] <;> omega))) ?_
                      refine RG.op _ _ rfl rfl (o_assign (.own _ _ _ _ _) rfl) ?_
                      refine RG.nil (h36_ _ ?_)
                      refine WC.region ?_
                      refine RG.op _ _ rfl rfl (o_move (.v _) rfl) ?_
                      refine RG.op _ _ rfl rfl (o_addU (b := 1) rfl rfl) ?_
                      refine RG.op _ _ rfl rfl (o_assign (.v _) rfl) ?_
                      refine RG.nil (Exists.intro (j + 1) ⟨by first | omega | (simp only [LS, nS_len] <;> omega), by first | omega | (simp only [LS, nS_len] <;> omega), ?_⟩)
                      exact .mk' ⟨⟨congrArg N64 (Nat.mod_eq_of_lt (by omega)), .v _⟩, ⟨rfl, (by first | exact .own _ _ _ _ _ (Nat.le_refl _) | exact .ptr _ _ _ (Nat.le_refl _) | exact .omp _ _ (Nat.le_refl _))⟩, trivial⟩ (by repeat (first | with_reducible exact same_refl _ _ | with_reducible refine same_updO (by with_unfolding_all exact rfl) ?_ | with_reducible refine same_updN ?_ | with_reducible refine same_updL (by with_unfolding_all exact rfl) ?_ | with_reducible refine same_forget (by with_unfolding_all exact rfl) ?_)) (congrArg (fun c => [c]) (tb_eq rfl (cU_rep _ _ _))) (by repeat (first | exact trivial | refine And.intro (Nat.le_refl _) ?_ | refine And.intro trivial ?_ | refine And.intro (by show _ ≤ _; (first | omega | (simp only [LS, nS_len] <;> omega))) ?_)) (by repeat (first | exact trivial | refine And.intro (one_ok (.own _ _ _ _ _ (Nat.le_refl _))) ?_ | refine And.intro (okp (by repeat (first | exact pu_bytes _ | exact pu_nil | exact pu_vs rfl | exact pu_map (fun _ => .v _) _ | exact pu_vals _ | refine pu_app ?_ ?_ | refine pu_cons (by exact pu_of rfl) ?_))) ?_))
                    ·
                      have p22 := c22
                      try simp only [CN] at p22
                      have hj : j = r.1 := by omega
                      refine WC.exit (Exists.intro ((p.1 + r.2.1 + s.2.1, repI p.2 r.1 (zagI s.1))) ⟨⟨by show p.1 + r.2.1 + s.2.1 ≤ _; omega, by show (repI p.2 r.1 (zagI s.1)).length ≤ m; rw [repI_len]; omega, fun _ => by show -9223372036854775808 ≤ (repI p.2 r.1 (zagI s.1)).getD ((repI p.2 r.1 (zagI s.1)).length - 1) 0 ∧ (repI p.2 r.1 (zagI s.1)).getD ((repI p.2 r.1 (zagI s.1)).length - 1) 0 ≤ _; rw [repI_getD _ _ _ (by omega)]; exact hzr, hk4.trans hst⟩, by show m - (repI p.2 r.1 (zagI s.1)).length < _; rw [repI_len]; omega, ?_⟩)
                      exact .mk' ⟨⟨rfl, .v _⟩, ⟨ow_eq (by rw [repI_len]; omega), (by first | exact .own _ _ _ _ _ (Nat.le_refl _) | exact .ptr _ _ _ (Nat.le_refl _) | exact .omp _ _ (Nat.le_refl _))⟩, trivial⟩ (by repeat (first | with_reducible exact same_refl _ _ | with_reducible refine same_updO (by with_unfolding_all exact rfl) ?_ | with_reducible refine same_updN ?_ | with_reducible refine same_updL (by with_unfolding_all exact rfl) ?_ | with_reducible refine same_forget (by with_unfolding_all exact rfl) ?_)) (congrArg (fun c => [c]) (tb_eq (by rw [repI_len]; omega) (congrArg (fun j => cU (repI p.2 j (zagI s.1))) hj))) (by repeat (first | exact trivial | refine And.intro (Nat.le_refl _) ?_ | refine And.intro trivial ?_ | refine And.intro (by show _ ≤ _; (first | omega | (simp only [LS, nS_len] <;> omega))) ?_)) (by repeat (first | exact trivial | refine And.intro (one_ok (.own _ _ _ _ _ (Nat.le_refl _))) ?_ | refine And.intro (okp (by repeat (first | exact pu_bytes _ | exact pu_nil | exact pu_vs rfl | exact pu_map (fun _ => .v _) _ | exact pu_vals _ | refine pu_app ?_ ?_ | refine pu_cons (by exact pu_of rfl) ?_))) ?_))
      ·
        have p5 := c5
        try simp only [CN] at p5
        have hen : p.2.length = m := by omega
        refine WC.exit (h6_ _ ?_)
        refine WC.seq fun Fh37_ h37_ => ?_
        refine WC.seq fun Fh38_ h38_ => ?_
        refine WC.region ?_
        refine RG.op _ _ rfl rfl (o_move (.v _) rfl) ?_
        refine RG.op _ _ rfl rfl (o_move (.rd _ _) rfl) ?_
        refine RG.op _ _ rfl rfl (o_len_rd rfl Try.underlying22) ?_
        refine RG.op _ _ rfl rfl (o_neI rfl rfl) ?_
        refine RG.nil (h38_ _ ?_)
        refine WC.cond _ rfl (fun c25 => ?_) (fun c25 => ?_)
        ·
          have p25 := c25
          try simp only [CN] at p25
          refine WC.seq fun Fh39_ h39_ => ?_
          refine WC.region ?_
          refine RG.op _ _ rfl rfl (o_assign (.v _) rfl) ?_
          refine RG.op _ _ rfl rfl (o_assign (.v _) rfl) ?_
          refine RG.nil (h39_ _ ?_)
          refine WC.ret ?_
          exact Ends.r2 rfl (.tmp _ (.v _) rfl) (.tmp _ (.v _) rfl) .nilr (.v _) (by rw [hk4, gG_rest (by omega) (by omega)]; rfl)
        ·
          have p25 := c25
          try simp only [CN] at p25
          refine WC.skip (h37_ _ ?_)
          refine WC.seq fun Fh40_ h40_ => ?_
          refine WC.frz 0 _ [(6, .rd p.2.length (cU p.2))] rfl (by repeat (first | exact pu_bytes _ | exact pu_nil | exact pu_vs rfl | exact pu_map (fun _ => .v _) _ | exact pu_vals _ | refine pu_app ?_ ?_ | refine pu_cons (by exact pu_of rfl) ?_)) ⟨.rowE rfl (by first | rfl | simp) (by first | rfl | simp [bytesD]), trivial⟩ ?_
          refine WC.region ?_
          refine RG.op _ _ rfl rfl (o_nil 2 1) ?_
          refine RG.nil (h40_ _ ?_)
          refine WC.seq fun Fh41_ h41_ => ?_
          refine WC.region ?_
          refine RG.op _ _ rfl rfl (o_assign (N64 0) rfl) ?_
          refine RG.nil (h41_ _ ?_)
          refine WC.seq fun Fh42_ h42_ => ?_
          refine WC.region ?_
          refine RG.op _ _ rfl rfl (o_assign (N64 0) rfl) ?_
          refine RG.nil (h42_ _ ?_)
          refine WC.seq fun Fh43_ h43_ => ?_
          refine WC.seq fun Fh44_ h44_ => ?_
          refine WC.region ?_
          refine RG.op _ _ rfl rfl (o_assign (.v _) rfl) ?_
          refine RG.nil (h44_ _ ?_)
          refine WC.block ?_
          refine WC.loopU [14, 15, 16, 17, 100, 101, 102, 103, 104, 105, 106, 107, 108, 109, 110, 111, 112, 113, 114, 115, 116, 117, 118, 119] (fun (k : Nat) => [(17, I64 ((k : Nat) : Int)), (15, N64 (uI (nS (p.2.take k)).1)), (16, N64 (uI (nS (p.2.take k)).2.1)), (14, ow 1 k 1)]) (fun (k : Nat) => [(1, tb 2 k ((nS (p.2.take k)).2.2.map I64))]) (fun (k : Nat) => k ≤ p.2.length) (fun (k : Nat) => p.2.length - k) 0 (by first | omega | exact ubyte _ | (simp only [LS, nS_len] <;> omega)) ?lpa45_ ?lpb46_
          case lpa45_ =>
            exact .mk' ⟨⟨rfl, .v _⟩, ⟨rfl, .v _⟩, ⟨rfl, .v _⟩, ⟨rfl, (by first | exact .own _ _ _ _ _ (Nat.le_refl _) | exact .ptr _ _ _ (Nat.le_refl _) | exact .omp _ _ (Nat.le_refl _))⟩, trivial⟩ (same_refl _ _) (rfl) (by repeat (first | exact trivial | refine And.intro (Nat.le_refl _) ?_ | refine And.intro trivial ?_ | refine And.intro (by show _ ≤ _; (first | omega | (simp only [LS, nS_len] <;> omega))) ?_)) (by repeat (first | exact trivial | refine And.intro (one_ok (.own _ _ _ _ _ (Nat.le_refl _))) ?_ | refine And.intro (okp (by repeat (first | exact pu_bytes _ | exact pu_nil | exact pu_vs rfl | exact pu_map (fun _ => .v _) _ | exact pu_vals _ | refine pu_app ?_ ?_ | refine pu_cons (by exact pu_of rfl) ?_))) ?_))
          case lpb46_ =>
            rintro k hI
            refine WC.seq fun Fh47_ h47_ => ?_
            refine WC.seq fun Fh48_ h48_ => ?_
            refine WC.region ?_
            refine RG.op _ _ rfl rfl (o_move (.v _) rfl) ?_
            refine RG.op _ _ rfl rfl (o_move (.rd _ _) rfl) ?_
            refine RG.op _ _ rfl rfl (o_len_rd rfl Try.underlying75) ?_
            refine RG.op _ _ rfl rfl (o_ltI rfl rfl) ?_
            refine RG.nil (h48_ _ ?_)
            refine WC.cond _ rfl (fun c31 => ?_) (fun c31 => ?_)
            ·
              have p31 := c31
              try simp only [CN] at p31
              have hkl : k < p.2.length := by omega
              refine WC.skip (h47_ _ ?_)
              refine WC.seq fun Fh49_ h49_ => ?_
              refine WC.block ?_
              refine WC.seq fun Fh50_ h50_ => ?_
              refine WC.region ?_
              refine RG.op _ _ rfl rfl (o_move (.v _) rfl) ?_
              refine RG.op _ _ rfl rfl (o_move (.rd _ _) rfl) ?_
              refine RG.op _ _ rfl rfl (o_move (.v _) rfl) ?_
              refine RG.op _ _ rfl rfl (o_ixn_M k rfl rfl Try.underlying75 (sz_of Ty.inf72) (by first | omega | exact ubyte _ | (simp only [LS, nS_len] <;> omega)) (by first | omega | exact ubyte _ | (simp only [LS, nS_len] <;> omega))) ?_
              refine RG.op _ _ rfl rfl (o_load_adr rfl Try.underlying72 rfl rfl) ?_
              refine RG.op _ _ rfl rfl (o_addU rfl rfl) ?_
              refine RG.op _ _ rfl rfl (o_assign (.v _) rfl) ?_
              refine RG.nil (h50_ _ ?_)
              refine WC.seq fun Fh51_ h51_ => ?_
              refine WC.region ?_
              refine RG.op _ _ rfl rfl (o_move (.v _) rfl) ?_
              refine RG.op _ _ rfl rfl (o_move (.v _) rfl) ?_
              refine RG.op _ _ rfl rfl (o_addU rfl rfl) ?_
              refine RG.op _ _ rfl rfl (o_assign (.v _) rfl) ?_
              refine RG.nil (h51_ _ ?_)
              refine WC.region ?_
              refine RG.op _ _ rfl rfl (o_move (.own _ _ _ _ _) rfl) ?_
              refine RG.op _ _ rfl rfl (o_move (.v _) rfl) ?_
              refine RG.op _ _ rfl rfl (o_UtoI64 rfl (by first | omega | exact ubyte _ | (simp only [LS, nS_len] <;> omega)) Try.underlying72 Try.underlying2) ?_
              refine RG.op _ _ rfl rfl (o_litP (cs := [(.v _)]) Try.underlying41 Ty.inf2 rfl rfl rfl rfl (by repeat (first | exact pu_bytes _ | exact pu_nil | exact pu_vs rfl | exact pu_map (fun _ => .v _) _ | exact pu_vals _ | refine pu_app ?_ ?_ | refine pu_cons (by exact pu_of rfl) ?_))) ?_
              refine RG.op _ _ rfl rfl (o_appT (Elem.of Try.underlying41 Ty.inf2 rfl (by decide)) rfl rfl rfl (by first | omega | exact ubyte _ | (simp only [LS, nS_len] <;> omega)) (by first | omega | exact ubyte _ | (simp only [LS, nS_len] <;> omega)) (by repeat (first | exact bytesD_one _ | exact one_nil | exact one_map (fun _ => rfl) _ | exact one_vals _ | refine one_app ?_ ?_ | refine one_cons rfl ?_)) (by first | omega | exact ubyte _ | (simp only [LS, nS_len] <;> omega)) (by first | omega | exact ubyte _ | (simp only [LS, nS_len] <;> omega))) ?_
              refine RG.op _ _ rfl rfl (o_assign (.own _ _ _ _ _) rfl) ?_
              refine RG.nil (h49_ _ ?_)
              refine WC.region ?_
              refine RG.op _ _ rfl rfl (o_move (.v _) rfl) ?_
              refine RG.op _ _ rfl rfl (o_add rfl rfl (by first | omega | exact ubyte _ | (simp only [LS, nS_len] <;> omega)) (by first | omega | exact ubyte _ | (simp only [LS, nS_len] <;> omega))) ?_
              refine RG.op _ _ rfl rfl (o_assign (.v _) rfl) ?_
              refine RG.nil (Exists.intro (k + 1) ⟨by first | omega | (simp only [LS, nS_len] <;> omega), by first | omega | (simp only [LS, nS_len] <;> omega), ?_⟩)
              exact .mk' ⟨⟨rfl, .v _⟩, ⟨congrArg N64 (by rw [nS_take hkl]; exact uI_add _ _), .v _⟩, ⟨congrArg N64 (by rw [nS_take hkl]; exact (congrArg (fun x => (_ + x) % _) (uI_add _ _)).trans (uI_add _ _)), .v _⟩, ⟨rfl, (by first | exact .own _ _ _ _ _ (Nat.le_refl _) | exact .ptr _ _ _ (Nat.le_refl _) | exact .omp _ _ (Nat.le_refl _))⟩, trivial⟩ (by repeat (first | with_reducible exact same_refl _ _ | with_reducible refine same_updO (by with_unfolding_all exact rfl) ?_ | with_reducible refine same_updN ?_ | with_reducible refine same_updL (by with_unfolding_all exact rfl) ?_ | with_reducible refine same_forget (by with_unfolding_all exact rfl) ?_)) (congrArg (fun c => [none, c]) (tb_eq rfl (by rw [nS_take hkl, uI_add, uI_add, sgn_add]; simp))) (by repeat (first | exact trivial | refine And.intro (Nat.le_refl _) ?_ | refine And.intro trivial ?_ | refine And.intro (by show _ ≤ _; (first | omega | (simp only [LS, nS_len] <;> omega))) ?_)) (by repeat (first | exact trivial | refine And.intro (one_ok (.own _ _ _ _ _ (Nat.le_refl _))) ?_ | refine And.intro (okp (by repeat (first | exact pu_bytes _ | exact pu_nil | exact pu_vs rfl | exact pu_map (fun _ => .v _) _ | exact pu_vals _ | refine pu_app ?_ ?_ | refine pu_cons (by exact pu_of rfl) ?_))) ?_))
            ·
              have p31 := c31
              try simp only [CN] at p31
              refine WC.exit (h43_ _ ?_)
              refine WC.seq fun Fh52_ h52_ => ?_
              refine WC.region ?_
              refine RG.op _ _ rfl rfl (o_move (.own _ _ _ _ _) rfl) ?_
              refine RG.op _ _ rfl rfl (o_assign (.own _ _ _ _ _) rfl) ?_
              refine RG.op _ _ rfl rfl (o_assign (.v _) rfl) ?_
              refine RG.nil (h52_ _ ?_)
              refine WC.ret ?_
              exact Ends.r2 rfl (.tmp _ (.own _ _ _ _ _) rfl) (.tmp _ (.v _) rfl) (.tb rfl (by repeat (first | exact pu_bytes _ | exact pu_nil | exact pu_vs rfl | exact pu_map (fun _ => .v _) _ | exact pu_vals _ | refine pu_app ?_ ?_ | refine pu_cons (by exact pu_of rfl) ?_))) (.v _) (by rw [hk4, gG_end (by omega) (by omega)]; have e : k = p.2.length := (by omega); subst e; exact congrArg (fun c => D.tup [c, I64 0]) (rd_eq (nS_len _).symm (by rw [List.take_length])))
end Go.Proofs.Ytbdibcpenihpdaa
