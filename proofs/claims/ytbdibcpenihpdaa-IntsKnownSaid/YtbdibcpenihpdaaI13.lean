/-
  Layer ints: laws IntsGets, IntsBack, IntsEven, IntsShift. No condition.
-/
import Derived.Test.YtbdibcpenihpdaaI12
import Derived.Test.YtbdibcpenihpdaaDlU
set_option linter.unusedSimpArgs false
set_option linter.unusedVariables false
namespace Go.Proofs.Ytbdibcpenihpdaa
open Go.RowKit Go.DL

set_option maxHeartbeats 4000000 in
theorem gets5_c (b : List UInt8) (n : Int) (hb : b.length ≤ 9223372036854775807) : Fun Try.prog 10 [rdB b, I64 n] (· = Bo true) := by
  have hgn := getI5_nums b n
  refine Fun.of Try.func10 rfl (Nat.le_of_ble_eq_true rfl) fun C => ?_
  refine WC.seq fun Fh1_ h1_ => ?_
  refine WC.region ?_
  refine RG.op _ _ rfl rfl (o_assign (.v _) rfl) ?_
  refine RG.nil (h1_ _ ?_)
  refine WC.seq fun Fh2_ h2_ => ?_
  refine WC.seq fun Fh3_ h3_ => ?_
  refine WC.region ?_
  refine RG.op _ _ rfl rfl (o_move (.rd _ _) rfl) ?_
  refine RG.op _ _ rfl rfl (o_len_rd rfl Try.underlying22) ?_
  refine RG.op _ _ rfl rfl (o_gtI rfl rfl) ?_
  refine RG.nil (h3_ _ ?_)
  refine WC.cond _ rfl (fun c1 => ?_) (fun c1 => ?_)
  ·
    have p1 := c1
    try simp only [CN] at p1
    refine WC.seq fun Fh4_ h4_ => ?_
    refine WC.region ?_
    refine RG.op _ _ rfl rfl (o_assign (.v _) rfl) ?_
    refine RG.nil (h4_ _ ?_)
    refine WC.ret ?_
    exact Ends.r1 rfl (.tmp _ (.v _) rfl) (.v _) (rfl)
  ·
    have p1 := c1
    try simp only [CN] at p1
    refine WC.skip (h2_ _ ?_)
    refine WC.seq fun Fh5_ h5_ => ?_
    refine WC.region ?_
    refine RG.op _ _ rfl rfl (o_litV (cs := []) 0 Try.underlying22 Ty.inf5 rfl rfl rfl rfl rfl rfl) ?_
    refine RG.op _ _ rfl rfl (o_move (.rd _ _) rfl) ?_
    refine RG.op _ _ rfl rfl (o_appT (Elem.of Try.underlying22 Ty.inf5 rfl (by decide)) rfl rfl rfl (by first | omega | exact ubyte _ | (simp only [LS, nS_len, prog_len, mI_len] <;> omega)) (by first | omega | exact ubyte _ | (simp only [LS, nS_len, prog_len, mI_len] <;> omega)) (by repeat (first | exact bytesD_one _ | exact one_nil | exact one_map (fun _ => rfl) _ | exact one_vals _ | refine one_app ?_ ?_ | refine one_cons rfl ?_)) (by first | omega | exact ubyte _ | (simp only [LS, nS_len, prog_len, mI_len] <;> omega)) (by first | omega | exact ubyte _ | (simp only [LS, nS_len, prog_len, mI_len] <;> omega))) ?_
    refine RG.op _ _ rfl rfl (o_assign (.own _ _ _ _ _) rfl) ?_
    refine RG.nil (h5_ _ ?_)
    refine WC.seq fun Fh6_ h6_ => ?_
    refine WC.frz 0 _ [(5, rdB b)] rfl (by repeat (first | exact pu_bytes _ | exact pu_nil | exact pu_vs rfl | exact pu_map (fun _ => .v _) _ | exact pu_vals _ | refine pu_app ?_ ?_ | refine pu_cons (by exact pu_of rfl) ?_)) ⟨.rowE rfl (by first | rfl | omega | simp) (by first | rfl | simp [bytesD]), trivial⟩ ?_
    refine WC.region ?_
    refine RG.op _ _ rfl rfl (o_move (.rd _ _) rfl) ?_
    refine RG.op _ _ rfl rfl (o_move (.v _) rfl) ?_
    refine RG.op _ _ rfl rfl ((by exact o_call (ds := [rdB b, I64 n]) Ty.cal28 (geti_c b n (by omega)) ⟨.inl rfl, .inl rfl, trivial⟩ (by exact pua rfl))) ?_
    refine RG.op _ _ rfl rfl (o_move (.tup _) rfl) ?_
    refine RG.op _ _ rfl rfl (o_extract rfl rfl) ?_
    refine RG.op _ _ rfl rfl (o_extract rfl rfl) ?_
    refine RG.op _ _ rfl rfl (o_assign (.rd _ _) rfl) ?_
    refine RG.op _ _ rfl rfl (o_assign (.v _) rfl) ?_
    refine RG.nil (h6_ _ ?_)
    refine WC.seq fun Fh7_ h7_ => ?_
    refine WC.region ?_
    refine RG.op _ _ rfl rfl (o_move (.rd _ _) rfl) ?_
    refine RG.op _ _ rfl rfl (o_move (.v _) rfl) ?_
    refine RG.op _ _ rfl rfl ((by exact o_call (ds := [rdB b, I64 n]) Ty.cal29 (getr_c b n (by omega)) ⟨.inl rfl, .inl rfl, trivial⟩ (by exact pua rfl))) ?_
    refine RG.op _ _ rfl rfl (o_move (.tup _) rfl) ?_
    refine RG.op _ _ rfl rfl (o_extract rfl rfl) ?_
    refine RG.op _ _ rfl rfl (o_extract rfl rfl) ?_
    refine RG.op _ _ rfl rfl (o_assign (.rd _ _) rfl) ?_
    refine RG.op _ _ rfl rfl (o_assign (.v _) rfl) ?_
    refine RG.nil (h7_ _ ?_)
    refine WC.seq fun Fh8_ h8_ => ?_
    refine WC.region ?_
    refine RG.op _ _ rfl rfl (o_move (.rd _ _) rfl) ?_
    refine RG.op _ _ rfl rfl (o_move (.rd _ _) rfl) ?_
    refine RG.op _ _ rfl rfl (o_call Ty.cal26 (same5_c _ _ (by first | omega | exact ubyte _ | (simp only [LS, nS_len, prog_len, mI_len] <;> omega)) (by first | omega | exact ubyte _ | (simp only [LS, nS_len, prog_len, mI_len] <;> omega))) ⟨.inl rfl, .inl rfl, trivial⟩ (by exact pua rfl)) ?_
    refine RG.op _ _ rfl rfl (o_move (.v _) rfl) ?_
    refine RG.opg1 _ _ _ _ _ rfl rfl rfl rfl rfl (fun hb => o_move (.v _) rfl) ?_
    refine RG.opg1 _ _ _ _ _ rfl rfl rfl rfl rfl (fun hb => o_move (.v _) rfl) ?_
    refine RG.opg1 _ _ _ _ _ rfl rfl rfl rfl rfl (fun hb => o_eqI (gdT hb) (gdT hb)) ?_
    refine RG.op _ _ rfl rfl (o_and _ _ rfl rfl rfl) ?_
    refine RG.op _ _ rfl rfl (o_move (.v _) rfl) ?_
    refine RG.opg1 _ _ _ _ _ rfl rfl rfl rfl rfl (fun hb => o_move (.rd _ _) rfl) ?_
    refine RG.opg1 _ _ _ _ _ rfl rfl rfl rfl rfl (fun hb => o_str_rd (gdT hb) Try.underlying22 Try.underlying5 Try.underlying9) ?_
    refine RG.opg1 _ _ _ _ _ rfl rfl rfl rfl rfl (fun hb => o_move (.rd _ _) rfl) ?_
    refine RG.opg1 _ _ _ _ _ rfl rfl rfl rfl rfl (fun hb => o_str_rd (gdT hb) Try.underlying22 Try.underlying5 Try.underlying9) ?_
    refine RG.opg1 _ _ _ _ _ rfl rfl rfl rfl rfl (fun hb => o_eqS' (gdT hb) (gdT hb)) ?_
    refine RG.op _ _ rfl rfl (o_and _ _ rfl rfl rfl) ?_
    refine RG.op _ _ rfl rfl (o_move (.v _) rfl) ?_
    refine RG.opg1 _ _ _ _ _ rfl rfl rfl rfl rfl (fun hb => o_call Ty.cal27 (puts5_c) trivial (by exact pua rfl)) ?_
    refine RG.op _ _ rfl rfl (o_and _ _ rfl rfl rfl) ?_
    refine RG.op _ _ rfl rfl (o_assign (.v _) rfl) ?_
    refine RG.nil (h8_ _ ?_)
    refine WC.ret ?_
    exact Ends.r1 rfl (.tmp _ (.v _) rfl) (.v _) (congrArg Bo (by simp))
set_option maxHeartbeats 4000000 in
theorem back5_c (l : List Int) (n : Int) (b : List UInt8) (hin : ∀ x ∈ l, in64 x) (hl : l.length ≤ 9223372036854775807) (hb : b.length ≤ 9223372036854775807) : Fun Try.prog 11 [rdI l, I64 n, rdB b] (· = Bo true) := by
  have hgn := getI5_nums b n
  refine Fun.of Try.func11 rfl (Nat.le_of_ble_eq_true rfl) fun C => ?_
  refine WC.seq fun Fh1_ h1_ => ?_
  refine WC.region ?_
  refine RG.op _ _ rfl rfl (o_assign (.v _) rfl) ?_
  refine RG.nil (h1_ _ ?_)
  refine WC.seq fun Fh2_ h2_ => ?_
  refine WC.seq fun Fh3_ h3_ => ?_
  refine WC.region ?_
  refine RG.op _ _ rfl rfl (o_move (.rd _ _) rfl) ?_
  refine RG.op _ _ rfl rfl (o_len_rd rfl Try.underlying41) ?_
  refine RG.op _ _ rfl rfl (o_gtI rfl rfl) ?_
  refine RG.op _ _ rfl rfl (o_move (.v _) rfl) ?_
  refine RG.opg1 _ _ _ _ _ rfl rfl rfl rfl rfl (fun hb => o_move (.rd _ _) rfl) ?_
  refine RG.opg1 _ _ _ _ _ rfl rfl rfl rfl rfl (fun hb => o_len_rd (gdT hb) Try.underlying22) ?_
  refine RG.opg1 _ _ _ _ _ rfl rfl rfl rfl rfl (fun hb => o_gtI (gdT hb) rfl) ?_
  refine RG.op _ _ rfl rfl (o_or _ _ rfl rfl rfl) ?_
  refine RG.nil (h3_ _ ?_)
  refine WC.cond _ rfl (fun c1 => ?_) (fun c1 => ?_)
  ·
    have p1 := c1
    try simp only [CN] at p1
    refine WC.seq fun Fh4_ h4_ => ?_
    refine WC.region ?_
    refine RG.op _ _ rfl rfl (o_assign (.v _) rfl) ?_
    refine RG.nil (h4_ _ ?_)
    refine WC.ret ?_
    exact Ends.r1 rfl (.tmp _ (.v _) rfl) (.v _) (rfl)
  ·
    have p1 := c1
    try simp only [CN] at p1
    have hpl := putI5_len l (by omega)
    have hgp := get_put (l := l) (by omega)
    have hg1 := geti_c (putI5 l) l.length (by omega)
    have hg2 := geti_c (putI5 l) n (by omega)
    have hg3 := geti_c b n (by omega)
    rw [show VI (getI5 (putI5 l) l.length) = D.tup [rdI l, I64 0] by show D.tup [rdI _, I64 _] = _; rw [hgp, nS_ch hin]; rfl] at hg1
    have hgf := getI5_nums (putI5 l) n
    refine WC.skip (h2_ _ ?_)
    refine WC.seq fun Fh5_ h5_ => ?_
    refine WC.region ?_
    refine RG.op _ _ rfl rfl (o_move (.rd _ _) rfl) ?_
    refine RG.op _ _ rfl rfl (o_call Ty.cal24 (iputs_c _ (by first | omega | exact ubyte _ | (simp only [LS, nS_len, prog_len, mI_len] <;> omega))) ⟨.inl rfl, trivial⟩ (by exact pua rfl)) ?_
    refine RG.op _ _ rfl rfl (o_assign (.rd _ _) rfl) ?_
    refine RG.nil (h5_ _ ?_)
    refine WC.seq fun Fh6_ h6_ => ?_
    refine WC.region ?_
    refine RG.op _ _ rfl rfl (o_move (.rd _ _) rfl) ?_
    refine RG.op _ _ rfl rfl (o_move (.rd _ _) rfl) ?_
    refine RG.op _ _ rfl rfl (o_len_rd rfl Try.underlying41) ?_
    refine RG.op _ _ rfl rfl ((by exact o_call (ds := [rdB (putI5 l), I64 (l.length : Nat)]) Ty.cal28 hg1 ⟨.inl rfl, .inl rfl, trivial⟩ (by exact pua rfl))) ?_
    refine RG.op _ _ rfl rfl (o_move (.tup _) rfl) ?_
    refine RG.op _ _ rfl rfl (o_extract rfl rfl) ?_
    refine RG.op _ _ rfl rfl (o_extract rfl rfl) ?_
    refine RG.op _ _ rfl rfl (o_assign (.rd _ _) rfl) ?_
    refine RG.op _ _ rfl rfl (o_assign (.v _) rfl) ?_
    refine RG.nil (h6_ _ ?_)
    refine WC.seq fun Fh7_ h7_ => ?_
    refine WC.seq fun Fh8_ h8_ => ?_
    refine WC.region ?_
    refine RG.op _ _ rfl rfl (o_move (.v _) rfl) ?_
    refine RG.op _ _ rfl rfl (o_neI rfl rfl) ?_
    refine RG.op _ _ rfl rfl (o_move (.v _) rfl) ?_
    refine RG.opg1 _ _ _ _ _ rfl rfl rfl rfl rfl (fun hb => o_move (.rd _ _) rfl) ?_
    refine RG.opg1 _ _ _ _ _ rfl rfl rfl rfl rfl (fun hb => o_move (.rd _ _) rfl) ?_
    refine RG.opg1 _ _ _ _ _ rfl rfl rfl rfl rfl (fun hb => o_call Ty.cal26 (same5_c _ _ (by first | omega | exact ubyte _ | (have hb' := hb; simp only [CN] at hb'; omega) | (simp only [LS, nS_len, prog_len, mI_len] <;> omega) | (have hb' := hb; simp only [CN] at hb'; simp only [LS, nS_len, prog_len, mI_len]; omega)) (by first | omega | exact ubyte _ | (have hb' := hb; simp only [CN] at hb'; omega) | (simp only [LS, nS_len, prog_len, mI_len] <;> omega) | (have hb' := hb; simp only [CN] at hb'; simp only [LS, nS_len, prog_len, mI_len]; omega))) ⟨.inl (gdT hb), .inl (gdT hb), trivial⟩ (by exact pua rfl)) ?_
    refine RG.opg1 _ _ _ _ _ rfl rfl rfl rfl rfl (fun hb => o_not (gdT hb)) ?_
    refine RG.op _ _ rfl rfl (o_or _ _ rfl rfl rfl) ?_
    refine RG.nil (h8_ _ ?_)
    refine WC.cond _ rfl (fun c5 => ?_) (fun c5 => ?_)
    ·
      have p5 := c5
      try simp only [CN] at p5
      refine WC.seq fun Fh9_ h9_ => ?_
      refine WC.region ?_
      refine RG.op _ _ rfl rfl (o_assign (.v _) rfl) ?_
      refine RG.nil (h9_ _ ?_)
      refine WC.ret ?_
      exact Ends.r1 rfl (.tmp _ (.v _) rfl) (.v _) (by exfalso; simp at p5)
    ·
      have p5 := c5
      try simp only [CN] at p5
      refine WC.skip (h7_ _ ?_)
      refine WC.seq fun Fh10_ h10_ => ?_
      refine WC.region ?_
      refine RG.op _ _ rfl rfl (o_move (.rd _ _) rfl) ?_
      refine RG.op _ _ rfl rfl (o_move (.v _) rfl) ?_
      refine RG.op _ _ rfl rfl ((by exact o_call (ds := [rdB (putI5 l), I64 n]) Ty.cal28 hg2 ⟨.inl rfl, .inl rfl, trivial⟩ (by exact pua rfl))) ?_
      refine RG.op _ _ rfl rfl (o_move (.tup _) rfl) ?_
      refine RG.op _ _ rfl rfl (o_extract rfl rfl) ?_
      refine RG.op _ _ rfl rfl (o_extract rfl rfl) ?_
      refine RG.op _ _ rfl rfl (o_assign (.rd _ _) rfl) ?_
      refine RG.op _ _ rfl rfl (o_assign (.v _) rfl) ?_
      refine RG.nil (h10_ _ ?_)
      refine WC.seq fun Fh11_ h11_ => ?_
      refine WC.seq fun Fh12_ h12_ => ?_
      refine WC.region ?_
      refine RG.op _ _ rfl rfl (o_move (.v _) rfl) ?_
      refine RG.op _ _ rfl rfl (o_eqI rfl rfl) ?_
      refine RG.op _ _ rfl rfl (o_move (.v _) rfl) ?_
      refine RG.op _ _ rfl rfl (o_move (.rd _ _) rfl) ?_
      refine RG.op _ _ rfl rfl (o_len_rd rfl Try.underlying41) ?_
      refine RG.op _ _ rfl rfl (o_eqI rfl rfl) ?_
      refine RG.op _ _ rfl rfl (o_neb rfl rfl Try.underlying4) ?_
      refine RG.nil (h12_ _ ?_)
      refine WC.cond _ rfl (fun c8 => ?_) (fun c8 => ?_)
      ·
        have p8 := c8
        try simp only [CN] at p8
        refine WC.seq fun Fh13_ h13_ => ?_
        refine WC.region ?_
        refine RG.op _ _ rfl rfl (o_assign (.v _) rfl) ?_
        refine RG.nil (h13_ _ ?_)
        refine WC.ret ?_
        exact Ends.r1 rfl (.tmp _ (.v _) rfl) (.v _) (by exfalso; by_cases hn : n = l.length; (subst hn; rw [hgp] at p8; simp at p8); (have h := get_other (l := l) (by omega) hn; rw [decide_eq_false hn, decide_eq_false (by omega)] at p8; exact p8 rfl))
      ·
        have p8 := c8
        try simp only [CN] at p8
        refine WC.skip (h11_ _ ?_)
        refine WC.seq fun Fh14_ h14_ => ?_
        refine WC.region ?_
        refine RG.op _ _ rfl rfl (o_move (.rd _ _) rfl) ?_
        refine RG.op _ _ rfl rfl (o_move (.v _) rfl) ?_
        refine RG.op _ _ rfl rfl ((by exact o_call (ds := [rdB b, I64 n]) Ty.cal28 hg3 ⟨.inl rfl, .inl rfl, trivial⟩ (by exact pua rfl))) ?_
        refine RG.op _ _ rfl rfl (o_move (.tup _) rfl) ?_
        refine RG.op _ _ rfl rfl (o_extract rfl rfl) ?_
        refine RG.op _ _ rfl rfl (o_extract rfl rfl) ?_
        refine RG.op _ _ rfl rfl (o_assign (.rd _ _) rfl) ?_
        refine RG.op _ _ rfl rfl (o_assign (.v _) rfl) ?_
        refine RG.nil (h14_ _ ?_)
        refine WC.seq fun Fh15_ h15_ => ?_
        refine WC.seq fun Fh16_ h16_ => ?_
        refine WC.region ?_
        refine RG.op _ _ rfl rfl (o_move (.v _) rfl) ?_
        refine RG.op _ _ rfl rfl (o_neI rfl rfl) ?_
        refine RG.nil (h16_ _ ?_)
        refine WC.cond _ rfl (fun c11 => ?_) (fun c11 => ?_)
        ·
          have p11 := c11
          try simp only [CN] at p11
          refine WC.seq fun Fh17_ h17_ => ?_
          refine WC.region ?_
          refine RG.op _ _ rfl rfl (o_move (.rd _ _) rfl) ?_
          refine RG.op _ _ rfl rfl (o_len_rd rfl Try.underlying41) ?_
          refine RG.op _ _ rfl rfl (o_eqI rfl rfl) ?_
          refine RG.op _ _ rfl rfl (o_move (.v _) rfl) ?_
          refine RG.opg1 _ _ _ _ _ rfl rfl rfl rfl rfl (fun hb => o_call Ty.cal27 (puts5_c) trivial (by exact pua rfl)) ?_
          refine RG.op _ _ rfl rfl (o_and _ _ rfl rfl rfl) ?_
          refine RG.op _ _ rfl rfl (o_assign (.v _) rfl) ?_
          refine RG.nil (h17_ _ ?_)
          refine WC.ret ?_
          exact Ends.r1 rfl (.tmp _ (.v _) rfl) (.v _) (congrArg Bo (by rw [getI5_fail b n (by omega)]; rfl))
        ·
          have p11 := c11
          try simp only [CN] at p11
          refine WC.skip (h15_ _ ?_)
          refine WC.seq fun Fh18_ h18_ => ?_
          refine WC.drawn1 (by kernel_rfl) ?_
          refine PG.op _ rfl rfl rfl (by rintro _ rfl; exact o_move (.rd _ _) rfl) ?_
          refine PG.op _ rfl rfl rfl (by rintro _ rfl; exact o_len_rd rfl Try.underlying41) ?_
          refine PG.op _ rfl rfl rfl (by rintro _ rfl; exact o_move (.v _) rfl) ?_
          refine PG.op _ rfl rfl rfl (by rintro _ rfl; exact o_eqI rfl rfl) ?_
          refine PG.op _ rfl rfl rfl (by rintro _ rfl; exact o_move (.v _) rfl) ?_
          refine PG.opg1 _ _ _ _ _ rfl rfl rfl rfl rfl rfl (fun hb => (by rintro _ rfl; exact o_move (.rd _ _) rfl)) ?_
          refine PG.opg1 _ _ _ _ _ rfl rfl rfl rfl rfl rfl (fun hb => (by rintro _ rfl; exact o_call Ty.cal24 (iputs_c _ (by first | omega | exact ubyte _ | (have hb' := hb; simp only [CN] at hb'; omega) | (simp only [LS, nS_len, prog_len, mI_len] <;> omega) | (have hb' := hb; simp only [CN] at hb'; simp only [LS, nS_len, prog_len, mI_len]; omega))) ⟨.inl (gdT hb), trivial⟩ (by exact pua rfl))) ?_
          refine PG.opg1 _ _ _ _ _ rfl rfl rfl rfl rfl rfl (fun hb => (by rintro _ rfl; exact o_str_rd (gdT hb) Try.underlying22 Try.underlying5 Try.underlying9)) ?_
          refine PG.opg1 _ _ _ _ _ rfl rfl rfl rfl rfl rfl (fun hb => (by rintro _ rfl; exact o_move (.rd _ _) rfl)) ?_
          refine PG.opg1 _ _ _ _ _ rfl rfl rfl rfl rfl rfl (fun hb => (by rintro _ rfl; exact o_str_rd (gdT hb) Try.underlying22 Try.underlying5 Try.underlying9)) ?_
          refine PG.opg1 _ _ _ _ _ rfl rfl rfl rfl rfl rfl (fun hb => (by rintro _ rfl; exact o_eqS' (gdT hb) (gdT hb))) ?_
          refine PG.op _ rfl rfl rfl (by rintro _ rfl; exact o_and _ _ rfl rfl rfl) ?_
          refine PG.op _ rfl rfl rfl (by rintro _ rfl; exact o_move (.v _) rfl) ?_
          refine PG.opg1 _ _ _ _ _ rfl rfl rfl rfl rfl rfl (fun hb => (by rintro _ rfl; exact o_call Ty.cal27 (puts5_c) trivial (by exact pua rfl))) ?_
          refine PG.op _ rfl rfl rfl (by rintro _ rfl; exact o_and _ _ rfl rfl rfl) ?_
          refine PG.op _ rfl rfl rfl (by rintro _ rfl; exact o_assign (.v _) rfl) ?_
          refine PG.nil ⟨by kernel_rfl, rfl, (h18_ _ ?_)⟩
          refine WC.ret ?_
          exact Ends.r1 rfl (.tmp _ (.v _) rfl) (.v _) (congrArg Bo (by obtain ⟨h1, h2⟩ := put_get (b := b) (n := n) (by omega); simp [h1, h2]))
set_option maxHeartbeats 4000000 in
theorem even5_c (v st : Int) (m : Nat) (hv : in64 v) (hs : in64 st) (hm : m ≤ 65535) : Fun Try.prog 12 [I64 v, I64 st, .v (.int .u16 (m : Nat))] (· = Bo true) := by
  refine Fun.of Try.func12 rfl (Nat.le_of_ble_eq_true rfl) fun C => ?_
  refine WC.seq fun Fh1_ h1_ => ?_
  refine WC.region ?_
  refine RG.op _ _ rfl rfl (o_assign (.v _) rfl) ?_
  refine RG.nil (h1_ _ ?_)
  refine WC.seq fun Fh2_ h2_ => ?_
  refine WC.region ?_
  refine RG.op _ _ rfl rfl (o_nil 2 1) ?_
  refine RG.nil (h2_ _ ?_)
  refine WC.seq fun Fh3_ h3_ => ?_
  refine WC.region ?_
  refine RG.op _ _ rfl rfl (o_move (.v _) rfl) ?_
  refine RG.op _ _ rfl rfl (o_assign (.v _) rfl) ?_
  refine RG.nil (h3_ _ ?_)
  refine WC.seq fun Fh4_ h4_ => ?_
  refine WC.seq fun Fh5_ h5_ => ?_
  refine WC.region ?_
  refine RG.op _ _ rfl rfl (o_assign (.v _) rfl) ?_
  refine RG.nil (h5_ _ ?_)
  refine WC.block ?_
  refine WC.loopU [7, 8, 9, 14, 15, 16, 17, 18, 19, 20, 21, 22, 23, 24, 25, 26, 27] (fun (k : Nat) => [(9, I64 ((k : Nat) : Int)), (7, ow 0 k 1), (8, I64 (itI v st k))]) (fun (k : Nat) => [(0, tb 2 k ((prog v st k).map I64))]) (fun (k : Nat) => k ≤ m % 5001) (fun (k : Nat) => m % 5001 - k) 0 (by first | omega | exact ubyte _ | (simp only [LS, nS_len, prog_len, mI_len] <;> omega)) ?lpa6_ ?lpb7_
  case lpa6_ =>
    exact .mk' ⟨⟨rfl, .v _⟩, ⟨rfl, (by first | exact .own _ _ _ _ _ (Nat.le_refl _) | exact .ptr _ _ _ (Nat.le_refl _) | exact .omp _ _ (Nat.le_refl _))⟩, ⟨rfl, .v _⟩, trivial⟩ (same_refl _ _) (rfl) (by repeat (first | exact trivial | refine And.intro (Nat.le_refl _) ?_ | refine And.intro trivial ?_ | refine And.intro (by show _ ≤ _; (first | omega | (simp only [LS, nS_len, prog_len, mI_len] <;> omega))) ?_)) (by repeat (first | exact trivial | refine And.intro (one_ok (.own _ _ _ _ _ (Nat.le_refl _))) ?_ | refine And.intro (okp (by repeat (first | exact pu_bytes _ | exact pu_nil | exact pu_vs rfl | exact pu_map (fun _ => .v _) _ | exact pu_vals _ | refine pu_app ?_ ?_ | refine pu_cons (by exact pu_of rfl) ?_))) ?_))
  case lpb7_ =>
    rintro k hI
    have hpr := prog_len v st k
    refine WC.seq fun Fh8_ h8_ => ?_
    refine WC.seq fun Fh9_ h9_ => ?_
    refine WC.region ?_
    refine RG.op _ _ rfl rfl (o_move (.v _) rfl) ?_
    refine RG.op _ _ rfl rfl (o_move (.v _) rfl) ?_
    refine RG.op _ _ rfl rfl ((o_int rfl Try.underlying49 Try.underlying3).cast (v_int (w64 (by omega) (by omega)))) ?_
    refine RG.op _ _ rfl rfl ((o_rem (b := 5001) rfl rfl (by omega) (by omega)).cast (congrArg I64 (show (m : Int) % 5001 = ((m % 5001 : Nat) : Int) by omega))) ?_
    refine RG.op _ _ rfl rfl (o_ltI rfl rfl) ?_
    refine RG.nil (h9_ _ ?_)
    refine WC.cond _ rfl (fun c4 => ?_) (fun c4 => ?_)
    ·
      have p4 := c4
      try simp only [CN] at p4
      refine WC.skip (h8_ _ ?_)
      refine WC.seq fun Fh10_ h10_ => ?_
      refine WC.block ?_
      refine WC.seq fun Fh11_ h11_ => ?_
      refine WC.region ?_
      refine RG.op _ _ rfl rfl (o_move (.own _ _ _ _ _) rfl) ?_
      refine RG.op _ _ rfl rfl (o_move (.v _) rfl) ?_
      refine RG.op _ _ rfl rfl (o_litP (cs := [(.v _)]) Try.underlying41 Ty.inf2 rfl rfl rfl rfl (by repeat (first | exact pu_bytes _ | exact pu_nil | exact pu_vs rfl | exact pu_map (fun _ => .v _) _ | exact pu_vals _ | refine pu_app ?_ ?_ | refine pu_cons (by exact pu_of rfl) ?_))) ?_
      refine RG.op _ _ rfl rfl (o_appT (Elem.of Try.underlying41 Ty.inf2 rfl (by decide)) rfl rfl rfl (by first | omega | exact ubyte _ | (simp only [LS, nS_len, prog_len, mI_len] <;> omega)) (by first | omega | exact ubyte _ | (simp only [LS, nS_len, prog_len, mI_len] <;> omega)) (by repeat (first | exact bytesD_one _ | exact one_nil | exact one_map (fun _ => rfl) _ | exact one_vals _ | refine one_app ?_ ?_ | refine one_cons rfl ?_)) (by first | omega | exact ubyte _ | (simp only [LS, nS_len, prog_len, mI_len] <;> omega)) (by first | omega | exact ubyte _ | (simp only [LS, nS_len, prog_len, mI_len] <;> omega))) ?_
      refine RG.op _ _ rfl rfl (o_assign (.own _ _ _ _ _) rfl) ?_
      refine RG.nil (h11_ _ ?_)
      refine WC.region ?_
      refine RG.op _ _ rfl rfl (o_move (.v _) rfl) ?_
      refine RG.op _ _ rfl rfl (o_move (.v _) rfl) ?_
      refine RG.op _ _ rfl rfl (o_addW rfl rfl) ?_
      refine RG.op _ _ rfl rfl (o_assign (.v _) rfl) ?_
      refine RG.nil (h10_ _ ?_)
      refine WC.region ?_
      refine RG.op _ _ rfl rfl (o_move (.v _) rfl) ?_
      refine RG.op _ _ rfl rfl (o_add rfl rfl (by first | omega | exact ubyte _ | (simp only [LS, nS_len, prog_len, mI_len] <;> omega)) (by first | omega | exact ubyte _ | (simp only [LS, nS_len, prog_len, mI_len] <;> omega))) ?_
      refine RG.op _ _ rfl rfl (o_assign (.v _) rfl) ?_
      refine RG.nil (Exists.intro (k + 1) ⟨by first | omega | (simp only [LS, nS_len, prog_len, mI_len] <;> omega), by first | omega | (simp only [LS, nS_len, prog_len, mI_len] <;> omega), ?_⟩)
      exact .mk' ⟨⟨rfl, .v _⟩, ⟨rfl, (by first | exact .own _ _ _ _ _ (Nat.le_refl _) | exact .ptr _ _ _ (Nat.le_refl _) | exact .omp _ _ (Nat.le_refl _))⟩, ⟨rfl, .v _⟩, trivial⟩ (by repeat (first | with_reducible exact same_refl _ _ | with_reducible refine same_updO (by with_unfolding_all exact rfl) ?_ | with_reducible refine same_updN ?_ | with_reducible refine same_updL (by with_unfolding_all exact rfl) ?_ | with_reducible refine same_forget (by with_unfolding_all exact rfl) ?_)) (congrArg (fun c => [c]) (tb_eq rfl (by rw [prog_snoc]; simp))) (by repeat (first | exact trivial | refine And.intro (Nat.le_refl _) ?_ | refine And.intro trivial ?_ | refine And.intro (by show _ ≤ _; (first | omega | (simp only [LS, nS_len, prog_len, mI_len] <;> omega))) ?_)) (by repeat (first | exact trivial | refine And.intro (one_ok (.own _ _ _ _ _ (Nat.le_refl _))) ?_ | refine And.intro (okp (by repeat (first | exact pu_bytes _ | exact pu_nil | exact pu_vs rfl | exact pu_map (fun _ => .v _) _ | exact pu_vals _ | refine pu_app ?_ ?_ | refine pu_cons (by exact pu_of rfl) ?_))) ?_))
    ·
      have p4 := c4
      try simp only [CN] at p4
      have hk5 : k ≤ 5000 := by omega
      have hgp := get_put (l := prog v st k) (by omega)
      have hpl := putI5_len (prog v st k) (by omega)
      have hev := even_put (v := v) hs hk5
      have hg1 := geti_c (putI5 (prog v st k)) (prog v st k).length (by omega)
      rw [show VI (getI5 (putI5 (prog v st k)) (prog v st k).length) = D.tup [rdI (prog v st k), I64 0] by show D.tup [rdI _, I64 _] = _; rw [hgp, nS_ch (prog_in k v hv)]; rfl] at hg1
      refine WC.exit (h4_ _ ?_)
      refine WC.seq fun Fh12_ h12_ => ?_
      refine WC.frz 0 _ [(7, rdI (prog v st k))] rfl (by repeat (first | exact pu_bytes _ | exact pu_nil | exact pu_vs rfl | exact pu_map (fun _ => .v _) _ | exact pu_vals _ | refine pu_app ?_ ?_ | refine pu_cons (by exact pu_of rfl) ?_)) ⟨.rowE rfl (by first | rfl | omega | simp) (by first | rfl | simp [bytesD]), trivial⟩ ?_
      refine WC.region ?_
      refine RG.op _ _ rfl rfl (o_move (.rd _ _) rfl) ?_
      refine RG.op _ _ rfl rfl (o_call Ty.cal24 (iputs_c _ (by first | omega | exact ubyte _ | (simp only [LS, nS_len, prog_len, mI_len] <;> omega))) ⟨.inl rfl, trivial⟩ (by exact pua rfl)) ?_
      refine RG.op _ _ rfl rfl (o_assign (.rd _ _) rfl) ?_
      refine RG.nil (h12_ _ ?_)
      refine WC.seq fun Fh13_ h13_ => ?_
      refine WC.region ?_
      refine RG.op _ _ rfl rfl (o_move (.rd _ _) rfl) ?_
      refine RG.op _ _ rfl rfl (o_move (.rd _ _) rfl) ?_
      refine RG.op _ _ rfl rfl (o_len_rd rfl Try.underlying41) ?_
      refine RG.op _ _ rfl rfl ((by exact o_call (ds := [rdB (putI5 (prog v st k)), I64 ((prog v st k).length : Nat)]) Ty.cal28 hg1 ⟨.inl rfl, .inl rfl, trivial⟩ (by exact pua rfl))) ?_
      refine RG.op _ _ rfl rfl (o_move (.tup _) rfl) ?_
      refine RG.op _ _ rfl rfl (o_extract rfl rfl) ?_
      refine RG.op _ _ rfl rfl (o_extract rfl rfl) ?_
      refine RG.op _ _ rfl rfl (o_assign (.rd _ _) rfl) ?_
      refine RG.op _ _ rfl rfl (o_assign (.v _) rfl) ?_
      refine RG.nil (h13_ _ ?_)
      refine WC.seq fun Fh14_ h14_ => ?_
      refine WC.region ?_
      refine RG.op _ _ rfl rfl (o_move (.v _) rfl) ?_
      refine RG.op _ _ rfl rfl (o_eqI rfl rfl) ?_
      refine RG.op _ _ rfl rfl (o_move (.v _) rfl) ?_
      refine RG.opg1 _ _ _ _ _ rfl rfl rfl rfl rfl (fun hb => o_move (.rd _ _) rfl) ?_
      refine RG.opg1 _ _ _ _ _ rfl rfl rfl rfl rfl (fun hb => o_move (.rd _ _) rfl) ?_
      refine RG.opg1 _ _ _ _ _ rfl rfl rfl rfl rfl (fun hb => o_call Ty.cal26 (same5_c _ _ (by first | omega | exact ubyte _ | (have hb' := hb; simp only [CN] at hb'; omega) | (simp only [LS, nS_len, prog_len, mI_len] <;> omega) | (have hb' := hb; simp only [CN] at hb'; simp only [LS, nS_len, prog_len, mI_len]; omega)) (by first | omega | exact ubyte _ | (have hb' := hb; simp only [CN] at hb'; omega) | (simp only [LS, nS_len, prog_len, mI_len] <;> omega) | (have hb' := hb; simp only [CN] at hb'; simp only [LS, nS_len, prog_len, mI_len]; omega))) ⟨.inl (gdT hb), .inl (gdT hb), trivial⟩ (by exact pua rfl)) ?_
      refine RG.op _ _ rfl rfl (o_and _ _ rfl rfl rfl) ?_
      refine RG.op _ _ rfl rfl (o_move (.v _) rfl) ?_
      refine RG.opg1 _ _ _ _ _ rfl rfl rfl rfl rfl (fun hb => o_move (.rd _ _) rfl) ?_
      refine RG.opg1 _ _ _ _ _ rfl rfl rfl rfl rfl (fun hb => o_len_rd (gdT hb) Try.underlying22) ?_
      refine RG.opg1 _ _ _ _ _ rfl rfl rfl rfl rfl (fun hb => o_leI (gdT hb) rfl) ?_
      refine RG.op _ _ rfl rfl (o_and _ _ rfl rfl rfl) ?_
      refine RG.op _ _ rfl rfl (o_move (.v _) rfl) ?_
      refine RG.opg1 _ _ _ _ _ rfl rfl rfl rfl rfl (fun hb => o_call Ty.cal27 (puts5_c) trivial (by exact pua rfl)) ?_
      refine RG.op _ _ rfl rfl (o_and _ _ rfl rfl rfl) ?_
      refine RG.op _ _ rfl rfl (o_assign (.v _) rfl) ?_
      refine RG.nil (h14_ _ ?_)
      refine WC.ret ?_
      exact Ends.r1 rfl (.tmp _ (.v _) rfl) (.v _) (congrArg Bo (by simp; omega))
set_option maxHeartbeats 4000000 in
theorem shift5_c (l : List Int) (y : Int) (hin : ∀ x ∈ l, in64 x) (hl : l.length ≤ 9223372036854775807) : Fun Try.prog 13 [rdI l, I64 y] (· = Bo true) := by
  have hml := mI_len l y
  refine Fun.of Try.func13 rfl (Nat.le_of_ble_eq_true rfl) fun C => ?_
  refine WC.seq fun Fh1_ h1_ => ?_
  refine WC.region ?_
  refine RG.op _ _ rfl rfl (o_assign (.v _) rfl) ?_
  refine RG.nil (h1_ _ ?_)
  refine WC.seq fun Fh2_ h2_ => ?_
  refine WC.seq fun Fh3_ h3_ => ?_
  refine WC.region ?_
  refine RG.op _ _ rfl rfl (o_move (.rd _ _) rfl) ?_
  refine RG.op _ _ rfl rfl (o_len_rd rfl Try.underlying41) ?_
  refine RG.op _ _ rfl rfl (o_gtI rfl rfl) ?_
  refine RG.nil (h3_ _ ?_)
  refine WC.cond _ rfl (fun c1 => ?_) (fun c1 => ?_)
  ·
    have p1 := c1
    try simp only [CN] at p1
    refine WC.seq fun Fh4_ h4_ => ?_
    refine WC.region ?_
    refine RG.op _ _ rfl rfl (o_assign (.v _) rfl) ?_
    refine RG.nil (h4_ _ ?_)
    refine WC.ret ?_
    exact Ends.r1 rfl (.tmp _ (.v _) rfl) (.v _) (rfl)
  ·
    have p1 := c1
    try simp only [CN] at p1
    have hgp := get_put (l := mI l y) (by omega)
    have hpl := putI5_len (mI l y) (by omega)
    have hg1 := geti_c (putI5 (mI l y)) (mI l y).length (by omega)
    rw [show VI (getI5 (putI5 (mI l y)) (mI l y).length) = D.tup [rdI (mI l y), I64 0] by show D.tup [rdI _, I64 _] = _; rw [hgp, nS_ch (mI_in l y)]; rfl] at hg1
    refine WC.skip (h2_ _ ?_)
    refine WC.seq fun Fh5_ h5_ => ?_
    refine WC.region ?_
    refine RG.op _ _ rfl rfl (o_nil 2 1) ?_
    refine RG.nil (h5_ _ ?_)
    refine WC.seq fun Fh6_ h6_ => ?_
    refine WC.seq fun Fh7_ h7_ => ?_
    refine WC.region ?_
    refine RG.op _ _ rfl rfl (o_assign (.v _) rfl) ?_
    refine RG.nil (h7_ _ ?_)
    refine WC.block ?_
    refine WC.loopU [5, 6, 13, 14, 15, 16, 17, 18, 19, 20, 21, 22, 23, 24, 25, 26, 27] (fun (k : Nat) => [(6, I64 ((k : Nat) : Int)), (5, ow 0 k 1)]) (fun (k : Nat) => [(0, tb 2 k (((mI l y).take k).map I64))]) (fun (k : Nat) => k ≤ l.length) (fun (k : Nat) => l.length - k) 0 (by first | omega | exact ubyte _ | (simp only [LS, nS_len, prog_len, mI_len] <;> omega)) ?lpa8_ ?lpb9_
    case lpa8_ =>
      exact .mk' ⟨⟨rfl, .v _⟩, ⟨rfl, (by first | exact .own _ _ _ _ _ (Nat.le_refl _) | exact .ptr _ _ _ (Nat.le_refl _) | exact .omp _ _ (Nat.le_refl _))⟩, trivial⟩ (same_refl _ _) (rfl) (by repeat (first | exact trivial | refine And.intro (Nat.le_refl _) ?_ | refine And.intro trivial ?_ | refine And.intro (by show _ ≤ _; (first | omega | (simp only [LS, nS_len, prog_len, mI_len] <;> omega))) ?_)) (by repeat (first | exact trivial | refine And.intro (one_ok (.own _ _ _ _ _ (Nat.le_refl _))) ?_ | refine And.intro (okp (by repeat (first | exact pu_bytes _ | exact pu_nil | exact pu_vs rfl | exact pu_map (fun _ => .v _) _ | exact pu_vals _ | refine pu_app ?_ ?_ | refine pu_cons (by exact pu_of rfl) ?_))) ?_))
    case lpb9_ =>
      rintro k hI
      refine WC.seq fun Fh10_ h10_ => ?_
      refine WC.seq fun Fh11_ h11_ => ?_
      refine WC.region ?_
      refine RG.op _ _ rfl rfl (o_move (.v _) rfl) ?_
      refine RG.op _ _ rfl rfl (o_move (.rd _ _) rfl) ?_
      refine RG.op _ _ rfl rfl (o_len_rd rfl Try.underlying41) ?_
      refine RG.op _ _ rfl rfl (o_ltI rfl rfl) ?_
      refine RG.nil (h11_ _ ?_)
      refine WC.cond _ rfl (fun c5 => ?_) (fun c5 => ?_)
      ·
        have p5 := c5
        try simp only [CN] at p5
        have hkl : k < l.length := by omega
        refine WC.skip (h10_ _ ?_)
        refine WC.seq fun Fh12_ h12_ => ?_
        refine WC.block ?_
        refine WC.region ?_
        refine RG.op _ _ rfl rfl (o_move (.own _ _ _ _ _) rfl) ?_
        refine RG.op _ _ rfl rfl (o_move (.rd _ _) rfl) ?_
        refine RG.op _ _ rfl rfl (o_move (.v _) rfl) ?_
        refine RG.op _ _ rfl rfl (o_ixn_M k rfl rfl Try.underlying41 (sz_of Ty.inf2) (by first | omega | exact ubyte _ | (simp only [LS, nS_len, prog_len, mI_len] <;> omega)) (by first | omega | exact ubyte _ | (simp only [LS, nS_len, prog_len, mI_len] <;> omega))) ?_
        refine RG.op _ _ rfl rfl (o_load_adr rfl Try.underlying2 rfl rfl) ?_
        refine RG.op _ _ rfl rfl (o_move (.v _) rfl) ?_
        refine RG.op _ _ rfl rfl (o_addW rfl rfl) ?_
        refine RG.op _ _ rfl rfl (o_litP (cs := [(.v _)]) Try.underlying41 Ty.inf2 rfl rfl rfl rfl (by repeat (first | exact pu_bytes _ | exact pu_nil | exact pu_vs rfl | exact pu_map (fun _ => .v _) _ | exact pu_vals _ | refine pu_app ?_ ?_ | refine pu_cons (by exact pu_of rfl) ?_))) ?_
        refine RG.op _ _ rfl rfl (o_appT (Elem.of Try.underlying41 Ty.inf2 rfl (by decide)) rfl rfl rfl (by first | omega | exact ubyte _ | (simp only [LS, nS_len, prog_len, mI_len] <;> omega)) (by first | omega | exact ubyte _ | (simp only [LS, nS_len, prog_len, mI_len] <;> omega)) (by repeat (first | exact bytesD_one _ | exact one_nil | exact one_map (fun _ => rfl) _ | exact one_vals _ | refine one_app ?_ ?_ | refine one_cons rfl ?_)) (by first | omega | exact ubyte _ | (simp only [LS, nS_len, prog_len, mI_len] <;> omega)) (by first | omega | exact ubyte _ | (simp only [LS, nS_len, prog_len, mI_len] <;> omega))) ?_
        refine RG.op _ _ rfl rfl (o_assign (.own _ _ _ _ _) rfl) ?_
        refine RG.nil (h12_ _ ?_)
        refine WC.region ?_
        refine RG.op _ _ rfl rfl (o_move (.v _) rfl) ?_
        refine RG.op _ _ rfl rfl (o_add rfl rfl (by first | omega | exact ubyte _ | (simp only [LS, nS_len, prog_len, mI_len] <;> omega)) (by first | omega | exact ubyte _ | (simp only [LS, nS_len, prog_len, mI_len] <;> omega))) ?_
        refine RG.op _ _ rfl rfl (o_assign (.v _) rfl) ?_
        refine RG.nil (Exists.intro (k + 1) ⟨by first | omega | (simp only [LS, nS_len, prog_len, mI_len] <;> omega), by first | omega | (simp only [LS, nS_len, prog_len, mI_len] <;> omega), ?_⟩)
        exact .mk' ⟨⟨rfl, .v _⟩, ⟨rfl, (by first | exact .own _ _ _ _ _ (Nat.le_refl _) | exact .ptr _ _ _ (Nat.le_refl _) | exact .omp _ _ (Nat.le_refl _))⟩, trivial⟩ (by repeat (first | with_reducible exact same_refl _ _ | with_reducible refine same_updO (by with_unfolding_all exact rfl) ?_ | with_reducible refine same_updN ?_ | with_reducible refine same_updL (by with_unfolding_all exact rfl) ?_ | with_reducible refine same_forget (by with_unfolding_all exact rfl) ?_)) (congrArg (fun c => [c]) (tb_eq rfl (mI_step hkl))) (by repeat (first | exact trivial | refine And.intro (Nat.le_refl _) ?_ | refine And.intro trivial ?_ | refine And.intro (by show _ ≤ _; (first | omega | (simp only [LS, nS_len, prog_len, mI_len] <;> omega))) ?_)) (by repeat (first | exact trivial | refine And.intro (one_ok (.own _ _ _ _ _ (Nat.le_refl _))) ?_ | refine And.intro (okp (by repeat (first | exact pu_bytes _ | exact pu_nil | exact pu_vs rfl | exact pu_map (fun _ => .v _) _ | exact pu_vals _ | refine pu_app ?_ ?_ | refine pu_cons (by exact pu_of rfl) ?_))) ?_))
      ·
        have p5 := c5
        try simp only [CN] at p5
        refine WC.exit (h6_ _ ?_)
        refine WC.seq fun Fh13_ h13_ => ?_
        have hk : k = (mI l y).length := by omega
        subst hk
        refine WC.frz 0 _ [(5, rdI (mI l y))] rfl (by repeat (first | exact pu_bytes _ | exact pu_nil | exact pu_vs rfl | exact pu_map (fun _ => .v _) _ | exact pu_vals _ | refine pu_app ?_ ?_ | refine pu_cons (by exact pu_of rfl) ?_)) ⟨.rowE rfl (by first | rfl | omega | simp) (by first | rfl | simp [bytesD]), trivial⟩ ?_
        refine WC.region ?_
        refine RG.op _ _ rfl rfl (o_move (.rd _ _) rfl) ?_
        refine RG.op _ _ rfl rfl (o_call Ty.cal24 (iputs_c _ (by first | omega | exact ubyte _ | (simp only [LS, nS_len, prog_len, mI_len] <;> omega))) ⟨.inl rfl, trivial⟩ (by exact pua rfl)) ?_
        refine RG.op _ _ rfl rfl (o_move (.rd _ _) rfl) ?_
        refine RG.op _ _ rfl rfl (o_len_rd rfl Try.underlying41) ?_
        refine RG.op _ _ rfl rfl ((by exact o_call (ds := [rdB (putI5 (mI l y)), I64 ((mI l y).length : Nat)]) Ty.cal28 hg1 ⟨.inl rfl, .inl rfl, trivial⟩ (by exact pua rfl))) ?_
        refine RG.op _ _ rfl rfl (o_move (.tup _) rfl) ?_
        refine RG.op _ _ rfl rfl (o_extract rfl rfl) ?_
        refine RG.op _ _ rfl rfl (o_extract rfl rfl) ?_
        refine RG.op _ _ rfl rfl (o_assign (.rd _ _) rfl) ?_
        refine RG.op _ _ rfl rfl (o_assign (.v _) rfl) ?_
        refine RG.nil (h13_ _ ?_)
        refine WC.seq fun Fh14_ h14_ => ?_
        refine WC.seq fun Fh15_ h15_ => ?_
        refine WC.region ?_
        refine RG.op _ _ rfl rfl (o_move (.v _) rfl) ?_
        refine RG.op _ _ rfl rfl (o_neI rfl rfl) ?_
        refine RG.op _ _ rfl rfl (o_move (.v _) rfl) ?_
        refine RG.opg1 _ _ _ _ _ rfl rfl rfl rfl rfl (fun hb => o_move (.rd _ _) rfl) ?_
        refine RG.opg1 _ _ _ _ _ rfl rfl rfl rfl rfl (fun hb => o_len_rd (gdT hb) Try.underlying41) ?_
        refine RG.opg1 _ _ _ _ _ rfl rfl rfl rfl rfl (fun hb => o_move (.rd _ _) rfl) ?_
        refine RG.opg1 _ _ _ _ _ rfl rfl rfl rfl rfl (fun hb => o_len_rd (gdT hb) Try.underlying41) ?_
        refine RG.opg1 _ _ _ _ _ rfl rfl rfl rfl rfl (fun hb => o_neI (gdT hb) (gdT hb)) ?_
        refine RG.op _ _ rfl rfl (o_or _ _ rfl rfl rfl) ?_
        refine RG.nil (h15_ _ ?_)
        refine WC.cond _ rfl (fun c9 => ?_) (fun c9 => ?_)
        ·
          have p9 := c9
          try simp only [CN] at p9
          refine WC.seq fun Fh16_ h16_ => ?_
          refine WC.region ?_
          refine RG.op _ _ rfl rfl (o_assign (.v _) rfl) ?_
          refine RG.nil (h16_ _ ?_)
          refine WC.ret ?_
          exact Ends.r1 rfl (.tmp _ (.v _) rfl) (.v _) (by exfalso; rcases p9 with h | h; exact h trivial; omega)
        ·
          have p9 := c9
          try simp only [CN] at p9
          refine WC.skip (h14_ _ ?_)
          refine WC.seq fun Fh17_ h17_ => ?_
          refine WC.seq fun Fh18_ h18_ => ?_
          refine WC.region ?_
          refine RG.op _ _ rfl rfl (o_assign (.v _) rfl) ?_
          refine RG.nil (h18_ _ ?_)
          refine WC.block ?_
          refine WC.loopU [4, 9, 45, 46, 47, 48, 49, 50, 51, 52, 53, 54, 55, 56, 57, 58, 59, 60, 61] (fun (j : Nat) => [(9, I64 ((j : Nat) : Int))]) (fun (j : Nat) => []) (fun (j : Nat) => j ≤ l.length) (fun (j : Nat) => l.length - j) 0 (by first | omega | exact ubyte _ | (simp only [LS, nS_len, prog_len, mI_len] <;> omega)) ?lpa19_ ?lpb20_
          case lpa19_ =>
            exact .mk' ⟨⟨rfl, .v _⟩, trivial⟩ (same_refl _ _) (rfl) (by repeat (first | exact trivial | refine And.intro (Nat.le_refl _) ?_ | refine And.intro trivial ?_ | refine And.intro (by show _ ≤ _; (first | omega | (simp only [LS, nS_len, prog_len, mI_len] <;> omega))) ?_)) (by repeat (first | exact trivial | refine And.intro (one_ok (.own _ _ _ _ _ (Nat.le_refl _))) ?_ | refine And.intro (okp (by repeat (first | exact pu_bytes _ | exact pu_nil | exact pu_vs rfl | exact pu_map (fun _ => .v _) _ | exact pu_vals _ | refine pu_app ?_ ?_ | refine pu_cons (by exact pu_of rfl) ?_))) ?_))
          case lpb20_ =>
            rintro j hI
            refine WC.seq fun Fh21_ h21_ => ?_
            refine WC.seq fun Fh22_ h22_ => ?_
            refine WC.region ?_
            refine RG.op _ _ rfl rfl (o_move (.v _) rfl) ?_
            refine RG.op _ _ rfl rfl (o_move (.rd _ _) rfl) ?_
            refine RG.op _ _ rfl rfl (o_len_rd rfl Try.underlying41) ?_
            refine RG.op _ _ rfl rfl (o_ltI rfl rfl) ?_
            refine RG.nil (h22_ _ ?_)
            refine WC.cond _ rfl (fun c12 => ?_) (fun c12 => ?_)
            ·
              have p12 := c12
              try simp only [CN] at p12
              refine WC.skip (h21_ _ ?_)
              refine WC.seq fun Fh23_ h23_ => ?_
              refine WC.block ?_
              refine WC.seq fun Fh24_ h24_ => ?_
              refine WC.drawn1 (by kernel_rfl) ?_
              refine PG.op _ rfl rfl rfl (by rintro _ rfl; exact o_move (.rd _ _) rfl) ?_
              refine PG.op _ rfl rfl rfl (by rintro _ rfl; exact o_move (.v _) rfl) ?_
              refine PG.op _ rfl rfl rfl (by rintro _ rfl; exact o_ixn_M j rfl rfl Try.underlying41 (sz_of Ty.inf2) (by first | omega | exact ubyte _ | (simp only [LS, nS_len, prog_len, mI_len] <;> omega)) (by first | omega | exact ubyte _ | (simp only [LS, nS_len, prog_len, mI_len] <;> omega))) ?_
              refine PG.op _ rfl rfl rfl (by rintro _ rfl; exact o_load_adr rfl Try.underlying2 rfl rfl) ?_
              refine PG.op _ rfl rfl rfl (by rintro _ rfl; exact o_move (.v _) rfl) ?_
              refine PG.op _ rfl rfl rfl (by rintro _ rfl; exact o_subW rfl rfl) ?_
              refine PG.op _ rfl rfl rfl (by rintro _ rfl; exact o_move (.rd _ _) rfl) ?_
              refine PG.op _ rfl rfl rfl (by rintro _ rfl; exact o_move (.v _) rfl) ?_
              refine PG.op _ rfl rfl rfl (by rintro _ rfl; exact o_ixn_M j rfl rfl Try.underlying41 (sz_of Ty.inf2) (by first | omega | exact ubyte _ | (simp only [LS, nS_len, prog_len, mI_len] <;> omega)) (by first | omega | exact ubyte _ | (simp only [LS, nS_len, prog_len, mI_len] <;> omega))) ?_
              refine PG.op _ rfl rfl rfl (by rintro _ rfl; exact o_load_adr rfl Try.underlying2 rfl rfl) ?_
              refine PG.op _ rfl rfl rfl (by rintro _ rfl; exact o_neI rfl rfl) ?_
              refine PG.nil ⟨by kernel_rfl, rfl, (h24_ _ ?_)⟩
              refine WC.cond _ rfl (fun c14 => ?_) (fun c14 => ?_)
              ·
                have p14 := c14
                try simp only [CN] at p14
                refine WC.seq fun Fh25_ h25_ => ?_
                refine WC.region ?_
                refine RG.op _ _ rfl rfl (o_assign (.v _) rfl) ?_
                refine RG.nil (h25_ _ ?_)
                refine WC.ret ?_
                exact Ends.r1 rfl (.tmp _ (.v _) rfl) (.v _) (by exfalso; refine p14 ?_; simp only [mI, List.getElem_map]; exact shift_back (hin _ (List.getElem_mem _)))
              ·
                have p14 := c14
                try simp only [CN] at p14
                refine WC.skip (h23_ _ ?_)
                refine WC.region ?_
                refine RG.op _ _ rfl rfl (o_move (.v _) rfl) ?_
                refine RG.op _ _ rfl rfl (o_add rfl rfl (by first | omega | exact ubyte _ | (simp only [LS, nS_len, prog_len, mI_len] <;> omega)) (by first | omega | exact ubyte _ | (simp only [LS, nS_len, prog_len, mI_len] <;> omega))) ?_
                refine RG.op _ _ rfl rfl (o_assign (.v _) rfl) ?_
                refine RG.nil (Exists.intro (j + 1) ⟨by first | omega | (simp only [LS, nS_len, prog_len, mI_len] <;> omega), by first | omega | (simp only [LS, nS_len, prog_len, mI_len] <;> omega), ?_⟩)
                exact .mk' ⟨⟨rfl, .v _⟩, trivial⟩ (by repeat (first | with_reducible exact same_refl _ _ | with_reducible refine same_updO (by with_unfolding_all exact rfl) ?_ | with_reducible refine same_updN ?_ | with_reducible refine same_updL (by with_unfolding_all exact rfl) ?_ | with_reducible refine same_forget (by with_unfolding_all exact rfl) ?_)) (rfl) (by repeat (first | exact trivial | refine And.intro (Nat.le_refl _) ?_ | refine And.intro trivial ?_ | refine And.intro (by show _ ≤ _; (first | omega | (simp only [LS, nS_len, prog_len, mI_len] <;> omega))) ?_)) (by repeat (first | exact trivial | refine And.intro (one_ok (.own _ _ _ _ _ (Nat.le_refl _))) ?_ | refine And.intro (okp (by repeat (first | exact pu_bytes _ | exact pu_nil | exact pu_vs rfl | exact pu_map (fun _ => .v _) _ | exact pu_vals _ | refine pu_app ?_ ?_ | refine pu_cons (by exact pu_of rfl) ?_))) ?_))
            ·
              have p12 := c12
              try simp only [CN] at p12
              refine WC.exit (h17_ _ ?_)
              refine WC.seq fun Fh26_ h26_ => ?_
              refine WC.region ?_
              refine RG.op _ _ rfl rfl (o_call Ty.cal27 (puts5_c) trivial (by exact pua rfl)) ?_
              refine RG.op _ _ rfl rfl (o_assign (.v _) rfl) ?_
              refine RG.nil (h26_ _ ?_)
              refine WC.ret ?_
              exact Ends.r1 rfl (.tmp _ (.v _) rfl) (.v _) (rfl)
end Go.Proofs.Ytbdibcpenihpdaa
