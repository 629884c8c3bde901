/-
  Layer agg: two words divided by one, both ways. No condition but that the quotient is a word.
-/
import Derived.Test.YtpacdeiaimfiaaaH2
import Derived.Test.YtpacdeiaimfiaaaDlU
set_option linter.unusedSimpArgs false
set_option linter.unusedVariables false
namespace Go.Proofs.Ytpacdeiaimfiaaa
open Go.RowKit Go.DL
set_option maxRecDepth 8000
set_option maxHeartbeats 4000000 in
theorem div0_c (lo y : Nat) (hy0 : 0 < y) (hlo : lo < 18446744073709551616) : Fun Try.prog 52 [N64 0, N64 lo, N64 y] (· = .tup [N64 (lo / y), N64 (lo % y)]) := by
  refine Fun.of Try.func52 rfl (Nat.le_of_ble_eq_true rfl) fun C => ?_
  refine WC.seq fun Fh1_ h1_ => ?_
  refine WC.region ?_
  refine RG.op _ _ rfl rfl (o_assign (N64 0) rfl) ?_
  refine RG.op _ _ rfl rfl (o_assign (N64 0) rfl) ?_
  refine RG.nil (h1_ _ ?_)
  refine WC.seq fun Fh2_ h2_ => ?_
  refine WC.seq fun Fh3_ h3_ => ?_
  refine WC.region ?_
  refine RG.op _ _ rfl rfl (o_move (.v _) rfl) ?_
  refine RG.op _ _ rfl rfl (o_eqI rfl rfl) ?_
  refine RG.nil (h3_ _ ?_)
  refine WC.cond _ rfl (fun c1 => ?_) (fun c1 => ?_)
  ·
    have p1 := c1
    try simp only [CN] at p1
    omega
  ·
    have p1 := c1
    try simp only [CN] at p1
    refine WC.skip (h2_ _ ?_)
    refine WC.seq fun Fh4_ h4_ => ?_
    refine WC.seq fun Fh5_ h5_ => ?_
    refine WC.region ?_
    refine RG.op _ _ rfl rfl (o_move (.v _) rfl) ?_
    refine RG.op _ _ rfl rfl (o_move (.v _) rfl) ?_
    refine RG.op _ _ rfl rfl (o_leI rfl rfl) ?_
    refine RG.nil (h5_ _ ?_)
    refine WC.cond _ rfl (fun c3 => ?_) (fun c3 => ?_)
    ·
      have p3 := c3
      try simp only [CN] at p3
      omega
    ·
      have p3 := c3
      try simp only [CN] at p3
      refine WC.skip (h4_ _ ?_)
      refine WC.seq fun Fh6_ h6_ => ?_
      refine WC.seq fun Fh7_ h7_ => ?_
      refine WC.region ?_
      refine RG.op _ _ rfl rfl (o_move (.v _) rfl) ?_
      refine RG.op _ _ rfl rfl (o_eqI rfl rfl) ?_
      refine RG.nil (h7_ _ ?_)
      refine WC.cond _ rfl (fun c5 => ?_) (fun c5 => ?_)
      ·
        have p5 := c5
        try simp only [CN] at p5
        refine WC.seq fun Fh8_ h8_ => ?_
        refine WC.drawn1 (by kernel_rfl) ?_
        refine PG.op _ rfl rfl rfl (by rintro _ rfl; exact o_move (.v _) rfl) ?_
        refine PG.op _ rfl rfl rfl (by rintro _ rfl; exact o_move (.v _) rfl) ?_
        refine PG.op _ rfl rfl rfl (by rintro _ rfl; exact o_quoU rfl rfl (by first | omega | exact ubyte _ | (simp only [LS] <;> omega)) (by first | omega | exact ubyte _ | (simp only [LS] <;> omega))) ?_
        refine PG.op _ rfl rfl rfl (by rintro _ rfl; exact o_move (.v _) rfl) ?_
        refine PG.op _ rfl rfl rfl (by rintro _ rfl; exact o_move (.v _) rfl) ?_
        refine PG.op _ rfl rfl rfl (by rintro _ rfl; exact o_remU rfl rfl (by first | omega | exact ubyte _ | (simp only [LS] <;> omega))) ?_
        refine PG.op _ rfl rfl rfl (by rintro _ rfl; exact o_assign (.v _) rfl) ?_
        refine PG.op _ rfl rfl rfl (by rintro _ rfl; exact o_assign (.v _) rfl) ?_
        refine PG.nil ⟨by kernel_rfl, rfl, (h8_ _ ?_)⟩
        refine WC.ret ?_
        exact Ends.r2 rfl (.tmp _ (.v _) rfl) (.tmp _ (.v _) rfl) (.v _) (.v _) (rfl)
      ·
        have p5 := c5
        try simp only [CN] at p5
        omega
theorem sub_div (u a : Nat) (hu : u < 18446744073709551616) : (u + (18446744073709551616 - u / a * a)) % 18446744073709551616 = u % a := by
  have h1 := Nat.div_add_mod' u a
  generalize u / a * a = z at *
  omega
theorem mul32 {q b : Nat} (hb : b < 4294967296) (hq : q < 4294967296) : q * b < 18446744073709551616 := by
  have := Nat.mul_le_mul (Nat.le_of_lt_succ hq) (Nat.le_of_lt_succ hb); omega
theorem cond17 {q r b c : Nat} (h : (decide ((4294967296 : Int) ≤ (q : Int)) || decide (((4294967296 * r % 18446744073709551616 + c) % 18446744073709551616 : Nat) < ((q * b % 18446744073709551616 : Nat) : Int))) = true) (hpb : q < 4294967296 → q * b < 18446744073709551616) (hr : r < 4294967296) (hc : c < 4294967296) : 4294967296 ≤ q ∨ r * 4294967296 + c < q * b := by
  simp only [Bool.or_eq_true, decide_eq_true_eq] at h
  generalize q * b = z at *
  omega
theorem cond17n {q r b c : Nat} (h : (decide ((4294967296 : Int) ≤ (q : Int)) || decide (((4294967296 * r % 18446744073709551616 + c) % 18446744073709551616 : Nat) < ((q * b % 18446744073709551616 : Nat) : Int))) = false) (hpb : q < 4294967296 → q * b < 18446744073709551616) (hr : r < 4294967296) (hc : c < 4294967296) : q * b ≤ r * 4294967296 + c := by
  simp only [Bool.or_eq_false_iff, decide_eq_false_iff_not] at h
  generalize q * b = z at *
  omega
theorem mask32 (x : Nat) : x &&& 4294967295 = x % 4294967296 := Nat.and_two_pow_sub_one_eq_mod x 32
/-- What a division's numbers are. -/
structure DivE (hi lo s Y a b u w c d Q1 U Q0 R : Nat) : Type where
  ha : a = Y / 4294967296
  hb : b = Y % 4294967296
  hor : hi * 2 ^ s % 18446744073709551616 ||| lo / 2 ^ (64 - s) = u
  hw : w = lo * 2 ^ s % 18446744073709551616
  hc : c = w / 4294967296
  hd : d = w % 4294967296
  hQ1 : Q1 = (u * 4294967296 + c) / (a * 4294967296 + b)
  hQ0 : Q0 = (U * 4294967296 + d) / (a * 4294967296 + b)
  hr1 : ((u * 4294967296 % 18446744073709551616 + c) % 18446744073709551616 + (18446744073709551616 - Q1 * Y % 18446744073709551616)) % 18446744073709551616 = U
  hr2 : ((U * 4294967296 % 18446744073709551616 + d) % 18446744073709551616 + (18446744073709551616 - Q0 * Y % 18446744073709551616)) % 18446744073709551616 = R
set_option maxHeartbeats 4000000 in
theorem div_core (hi lo y s Y a b u w c d Q1 U Q0 R : Nat) (E : DivE hi lo s Y a b u w c d Q1 U Q0 R) (hY : Y = y * 2 ^ s) (hs' : lzN y = s) (hyl : y < 18446744073709551616) (hlo : lo < 18446744073709551616) (hhi : hi < y) (h0 : 0 < hi) (hs : s ≤ 63) (hYl : Y < 18446744073709551616)
    (hwl : w < 18446744073709551616) (hor' : lo / 2 ^ (64 - s) < 18446744073709551616) (ha1 : 2147483648 ≤ a) (ha2 : a < 4294967296) (hb2 : b < 4294967296) (hc2 : c < 4294967296) (hd2 : d < 4294967296)
    (hu2 : u < a * 4294967296 + b) (hU2 : U < a * 4294967296 + b) (hul : u < 18446744073709551616) (hUl : U < 18446744073709551616) (hRl : R < 18446744073709551616) (hQ1l : Q1 < 4294967296) (hQ0l : Q0 < 4294967296) (hy0 : y ≠ 0) (hYq : y * 2 ^ s % 18446744073709551616 = Y) :
    Fun Try.prog 52 [N64 hi, N64 lo, N64 y] (· = .tup [N64 (Q1 * 4294967296 + Q0), N64 (R / 2 ^ s)]) := by
  clear hY
  refine Fun.of Try.func52 rfl (Nat.le_of_ble_eq_true rfl) fun C => ?_
  refine WC.seq fun Fh1_ h1_ => ?_
  refine WC.region ?_
  refine RG.op _ _ rfl rfl (o_assign (N64 0) rfl) ?_
  refine RG.op _ _ rfl rfl (o_assign (N64 0) rfl) ?_
  refine RG.nil (h1_ _ ?_)
  refine WC.seq fun Fh2_ h2_ => ?_
  refine WC.seq fun Fh3_ h3_ => ?_
  refine WC.region ?_
  refine RG.op _ _ rfl rfl (o_move (.v _) rfl) ?_
  refine RG.op _ _ rfl rfl (o_eqI rfl rfl) ?_
  refine RG.nil (h3_ _ ?_)
  refine WC.cond _ rfl (fun c1 => ?_) (fun c1 => ?_)
  ·
    have p1 := c1
    try simp only [CN] at p1
    omega
  ·
    have p1 := c1
    try simp only [CN] at p1
    refine WC.skip (h2_ _ ?_)
    refine WC.seq fun Fh4_ h4_ => ?_
    refine WC.seq fun Fh5_ h5_ => ?_
    refine WC.region ?_
    refine RG.op _ _ rfl rfl (o_move (.v _) rfl) ?_
    refine RG.op _ _ rfl rfl (o_move (.v _) rfl) ?_
    refine RG.op _ _ rfl rfl (o_leI rfl rfl) ?_
    refine RG.nil (h5_ _ ?_)
    refine WC.cond _ rfl (fun c3 => ?_) (fun c3 => ?_)
    ·
      have p3 := c3
      try simp only [CN] at p3
      omega
    ·
      have p3 := c3
      try simp only [CN] at p3
      refine WC.skip (h4_ _ ?_)
      refine WC.seq fun Fh6_ h6_ => ?_
      refine WC.seq fun Fh7_ h7_ => ?_
      refine WC.region ?_
      refine RG.op _ _ rfl rfl (o_move (.v _) rfl) ?_
      refine RG.op _ _ rfl rfl (o_eqI rfl rfl) ?_
      refine RG.nil (h7_ _ ?_)
      refine WC.cond _ rfl (fun c5 => ?_) (fun c5 => ?_)
      ·
        have p5 := c5
        try simp only [CN] at p5
        omega
      ·
        have p5 := c5
        try simp only [CN] at p5
        refine WC.skip (h6_ _ ?_)
        refine WC.seq fun Fh8_ h8_ => ?_
        refine WC.region ?_
        refine RG.op _ _ rfl rfl (o_move (.v _) rfl) ?_
        refine RG.op _ _ rfl rfl (o_call Ty.cal53 (lz_c _ hy0 hyl) ⟨.inl rfl, trivial⟩ (by exact pua rfl)) ?_
        refine RG.op _ _ rfl rfl ((o_i64toU rfl Try.underlying3 Try.underlying77).cast (d' := N64 s) (congrArg N64 (by rw [hs']; omega))) ?_
        refine RG.op _ _ rfl rfl (o_assign (.v _) rfl) ?_
        refine RG.nil (h8_ _ ?_)
        refine WC.seq fun Fh9_ h9_ => ?_
        refine WC.region ?_
        refine RG.op _ _ rfl rfl (o_move (.v _) rfl) ?_
        refine RG.op _ _ rfl rfl (o_move (.v _) rfl) ?_
        refine RG.op _ _ rfl rfl ((o_shlU (a := y) (n := s) rfl rfl (by omega)).cast (d' := N64 Y) (congrArg N64 hYq)) ?_
        refine RG.op _ _ rfl rfl (o_assign (.v _) rfl) ?_
        refine RG.nil (h9_ _ ?_)
        refine WC.seq fun Fh10_ h10_ => ?_
        refine WC.region ?_
        refine RG.op _ _ rfl rfl (o_move (.v _) rfl) ?_
        refine RG.op _ _ rfl rfl ((o_shrU (a := Y) (n := 32) rfl rfl (by decide)).cast (d' := N64 a) (congrArg N64 E.ha.symm)) ?_
        refine RG.op _ _ rfl rfl (o_assign (.v _) rfl) ?_
        refine RG.nil (h10_ _ ?_)
        refine WC.seq fun Fh11_ h11_ => ?_
        refine WC.region ?_
        refine RG.op _ _ rfl rfl (o_move (.v _) rfl) ?_
        refine RG.op _ _ rfl rfl ((o_andU (a := Y) (b := 4294967295) rfl rfl (by omega) (by omega)).cast (d' := N64 b) (congrArg N64 ((mask32 Y).trans E.hb.symm))) ?_
        refine RG.op _ _ rfl rfl (o_assign (.v _) rfl) ?_
        refine RG.nil (h11_ _ ?_)
        refine WC.seq fun Fh12_ h12_ => ?_
        refine WC.region ?_
        refine RG.op _ _ rfl rfl (o_move (.v _) rfl) ?_
        refine RG.op _ _ rfl rfl (o_move (.v _) rfl) ?_
        refine RG.op _ _ rfl rfl (o_shlU (a := hi) (n := s) rfl rfl (by omega)) ?_
        refine RG.op _ _ rfl rfl (o_move (.v _) rfl) ?_
        refine RG.op _ _ rfl rfl (o_move (.v _) rfl) ?_
        refine RG.op _ _ rfl rfl ((o_subU (a := 64) (b := s) rfl rfl (by omega)).cast (d' := N64 (64 - s)) (congrArg N64 (by omega))) ?_
        refine RG.op _ _ rfl rfl (o_shrU (a := lo) (n := 64 - s) rfl rfl (by show _ ≤ 64; omega)) ?_
        refine RG.op _ _ rfl rfl ((o_orU rfl rfl (by omega) (by omega)).cast (d' := N64 u) (congrArg N64 E.hor)) ?_
        refine RG.op _ _ rfl rfl (o_assign (.v _) rfl) ?_
        refine RG.nil (h12_ _ ?_)
        refine WC.seq fun Fh13_ h13_ => ?_
        refine WC.region ?_
        refine RG.op _ _ rfl rfl (o_move (.v _) rfl) ?_
        refine RG.op _ _ rfl rfl (o_move (.v _) rfl) ?_
        refine RG.op _ _ rfl rfl ((o_shlU (a := lo) (n := s) rfl rfl (by omega)).cast (d' := N64 w) (congrArg N64 E.hw.symm)) ?_
        refine RG.op _ _ rfl rfl (o_assign (.v _) rfl) ?_
        refine RG.nil (h13_ _ ?_)
        refine WC.seq fun Fh14_ h14_ => ?_
        refine WC.region ?_
        refine RG.op _ _ rfl rfl (o_move (.v _) rfl) ?_
        refine RG.op _ _ rfl rfl ((o_shrU (a := w) (n := 32) rfl rfl (by decide)).cast (d' := N64 c) (congrArg N64 E.hc.symm)) ?_
        refine RG.op _ _ rfl rfl (o_assign (.v _) rfl) ?_
        refine RG.nil (h14_ _ ?_)
        refine WC.seq fun Fh15_ h15_ => ?_
        refine WC.region ?_
        refine RG.op _ _ rfl rfl (o_move (.v _) rfl) ?_
        refine RG.op _ _ rfl rfl ((o_andU (a := w) (b := 4294967295) rfl rfl (by omega) (by omega)).cast (d' := N64 d) (congrArg N64 ((mask32 w).trans E.hd.symm))) ?_
        refine RG.op _ _ rfl rfl (o_assign (.v _) rfl) ?_
        refine RG.nil (h15_ _ ?_)
        refine WC.seq fun Fh16_ h16_ => ?_
        refine WC.region ?_
        refine RG.op _ _ rfl rfl (o_move (.v _) rfl) ?_
        refine RG.op _ _ rfl rfl (o_move (.v _) rfl) ?_
        refine RG.op _ _ rfl rfl (o_quoU (a := u) (b := a) rfl rfl (by omega) (by omega)) ?_
        refine RG.op _ _ rfl rfl (o_assign (.v _) rfl) ?_
        refine RG.nil (h16_ _ ?_)
        refine WC.seq fun Fh17_ h17_ => ?_
        refine WC.region ?_
        refine RG.op _ _ rfl rfl (o_move (.v _) rfl) ?_
        refine RG.op _ _ rfl rfl (o_move (.v _) rfl) ?_
        refine RG.op _ _ rfl rfl (o_move (.v _) rfl) ?_
        refine RG.op _ _ rfl rfl ((o_mulU (a := u / a) (b := a) rfl rfl).cast (d' := N64 (u / a * a)) (congrArg N64 (Nat.mod_eq_of_lt (Nat.lt_of_le_of_lt (Nat.div_mul_le_self u a) (by omega))))) ?_
        refine RG.op _ _ rfl rfl ((o_subU (a := u) (b := u / a * a) rfl rfl (Nat.le_trans (Nat.div_mul_le_self u a) (by omega))).cast (d' := N64 (u % a)) (congrArg N64 (sub_div u a (by omega)))) ?_
        refine RG.op _ _ rfl rfl (o_assign (.v _) rfl) ?_
        refine RG.nil (h17_ _ ?_)
        refine WC.seq fun Fh18_ h18_ => ?_
        refine WC.block ?_
        refine WC.loopU [15, 16, 67, 68, 69, 70, 71, 72, 73, 74, 75, 76, 77, 78, 79, 80, 81, 82, 83, 84, 85] (fun (p : Nat × Nat) => [(15, N64 p.1), (16, N64 p.2)]) (fun (p : Nat × Nat) => []) (fun (p : Nat × Nat) => QI a b u c p) (fun (p : Nat × Nat) => p.1) (u / a, u % a) (qi_init ha1 ha2 hb2 hc2 hu2) ?lpa19_ ?lpb20_
        case lpa19_ =>
          exact .mk' ⟨⟨rfl, .v _⟩, ⟨rfl, .v _⟩, trivial⟩ (same_refl _ _) (rfl) (by repeat (first | exact trivial | refine And.intro (Nat.le_refl _) ?_ | refine And.intro trivial ?_ | refine And.intro (by show _ ≤ _; (first | omega | (simp only [LS] <;> omega))) ?_)) (by repeat (first | exact trivial | refine And.intro (one_ok (.own _ _ _ _ _ (Nat.le_refl _))) ?_ | refine And.intro (okp (by repeat (first | exact pu_bytes _ | exact pu_nil | exact pu_vs rfl | exact pu_map (fun _ => .v _) _ | exact pu_vals _ | refine pu_app ?_ ?_ | refine pu_cons (by exact pu_of rfl) ?_))) ?_))
        case lpb20_ =>
          rintro p hI
          have hpb : p.1 < 4294967296 → p.1 * b < 18446744073709551616 := mul32 hb2
          have hp2 := hI.2.1
          have hp3 := hI.2.2.1
          refine WC.seq fun Fh21_ h21_ => ?_
          refine WC.seq fun Fh22_ h22_ => ?_
          refine WC.region ?_
          refine RG.op _ _ rfl rfl (o_move (.v _) rfl) ?_
          refine RG.op _ _ rfl rfl (o_geI rfl rfl) ?_
          refine RG.op _ _ rfl rfl (o_move (.v _) rfl) ?_
          refine RG.opg1 _ _ _ _ _ rfl rfl rfl rfl rfl (fun hb => o_move (.v _) rfl) ?_
          refine RG.opg1 _ _ _ _ _ rfl rfl rfl rfl rfl (fun hb => o_move (.v _) rfl) ?_
          refine RG.opg1 _ _ _ _ _ rfl rfl rfl rfl rfl (fun hb => o_mulU (gdT hb) (gdT hb)) ?_
          refine RG.opg1 _ _ _ _ _ rfl rfl rfl rfl rfl (fun hb => o_move (.v _) rfl) ?_
          refine RG.opg1 _ _ _ _ _ rfl rfl rfl rfl rfl (fun hb => o_mulU (a := 4294967296) rfl (gdT hb)) ?_
          refine RG.opg1 _ _ _ _ _ rfl rfl rfl rfl rfl (fun hb => o_move (.v _) rfl) ?_
          refine RG.opg1 _ _ _ _ _ rfl rfl rfl rfl rfl (fun hb => o_addU (gdT hb) (gdT hb)) ?_
          refine RG.opg1 _ _ _ _ _ rfl rfl rfl rfl rfl (fun hb => o_gtI (gdT hb) (gdT hb)) ?_
          refine RG.op _ _ rfl rfl (o_or _ _ rfl rfl rfl) ?_
          refine RG.nil (h22_ _ ?_)
          refine WC.cond _ rfl (fun c17 => ?_) (fun c17 => ?_)
          ·
            have p17 := c17
            try simp only [CN] at p17
            have hst := qi_step hI hu2 hc2 (cond17 c17 hpb hp2 hc2)
            have hst1 := hst.1
            refine WC.skip (h21_ _ ?_)
            refine WC.block ?_
            refine WC.seq fun Fh23_ h23_ => ?_
            refine WC.region ?_
            refine RG.op _ _ rfl rfl (o_move (.v _) rfl) ?_
            refine RG.op _ _ rfl rfl ((o_subU (a := p.1) (b := 1) rfl rfl (by omega)).cast (d' := N64 (p.1 - 1)) (congrArg N64 (by omega))) ?_
            refine RG.op _ _ rfl rfl (o_assign (.v _) rfl) ?_
            refine RG.nil (h23_ _ ?_)
            refine WC.seq fun Fh24_ h24_ => ?_
            refine WC.region ?_
            refine RG.op _ _ rfl rfl (o_move (.v _) rfl) ?_
            refine RG.op _ _ rfl rfl (o_move (.v _) rfl) ?_
            refine RG.op _ _ rfl rfl ((o_addU (a := p.2) (b := a) rfl rfl).cast (d' := N64 (p.2 + a)) (congrArg N64 (by omega))) ?_
            refine RG.op _ _ rfl rfl (o_assign (.v _) rfl) ?_
            refine RG.nil (h24_ _ ?_)
            refine WC.seq fun Fh25_ h25_ => ?_
            refine WC.region ?_
            refine RG.op _ _ rfl rfl (o_move (.v _) rfl) ?_
            refine RG.op _ _ rfl rfl (o_geI rfl rfl) ?_
            refine RG.nil (h25_ _ ?_)
            refine WC.cond _ rfl (fun c20 => ?_) (fun c20 => ?_)
            ·
              have p20 := c20
              try simp only [CN] at p20
              have hq : p.1 - 1 = Q1 := by rw [E.hQ1]; exact q_break hb2 hst (by omega)
              refine WC.exit (h18_ _ ?_)
              refine WC.seq fun Fh26_ h26_ => ?_
              refine WC.region ?_
              refine RG.op _ _ rfl rfl (o_move (.v _) rfl) ?_
              refine RG.op _ _ rfl rfl (o_mulU (b := 4294967296) rfl rfl) ?_
              refine RG.op _ _ rfl rfl (o_move (.v _) rfl) ?_
              refine RG.op _ _ rfl rfl (o_addU rfl rfl) ?_
              refine RG.op _ _ rfl rfl ((o_move (.v _) rfl).cast (d' := N64 Q1) (congrArg N64 hq)) ?_
              refine RG.op _ _ rfl rfl (o_move (.v _) rfl) ?_
              refine RG.op _ _ rfl rfl (o_mulU rfl rfl) ?_
              refine RG.op _ _ rfl rfl ((o_subU rfl rfl (by omega)).cast (d' := N64 U) (congrArg N64 E.hr1)) ?_
              refine RG.op _ _ rfl rfl (o_assign (.v _) rfl) ?_
              refine RG.nil (h26_ _ ?_)
              refine WC.seq fun Fh27_ h27_ => ?_
              refine WC.region ?_
              refine RG.op _ _ rfl rfl (o_move (.v _) rfl) ?_
              refine RG.op _ _ rfl rfl (o_move (.v _) rfl) ?_
              refine RG.op _ _ rfl rfl (o_quoU (a := U) (b := a) rfl rfl (by omega) (by omega)) ?_
              refine RG.op _ _ rfl rfl (o_assign (.v _) rfl) ?_
              refine RG.nil (h27_ _ ?_)
              refine WC.seq fun Fh28_ h28_ => ?_
              refine WC.region ?_
              refine RG.op _ _ rfl rfl (o_move (.v _) rfl) ?_
              refine RG.op _ _ rfl rfl (o_move (.v _) rfl) ?_
              refine RG.op _ _ rfl rfl (o_move (.v _) rfl) ?_
              refine RG.op _ _ rfl rfl ((o_mulU (a := U / a) (b := a) rfl rfl).cast (d' := N64 (U / a * a)) (congrArg N64 (Nat.mod_eq_of_lt (Nat.lt_of_le_of_lt (Nat.div_mul_le_self U a) (by omega))))) ?_
              refine RG.op _ _ rfl rfl ((o_subU (a := U) (b := U / a * a) rfl rfl (Nat.le_trans (Nat.div_mul_le_self U a) (by omega))).cast (d' := N64 (U % a)) (congrArg N64 (sub_div U a (by omega)))) ?_
              refine RG.op _ _ rfl rfl (o_assign (.v _) rfl) ?_
              refine RG.nil (h28_ _ ?_)
              refine WC.seq fun Fh29_ h29_ => ?_
              refine WC.block ?_
              refine WC.loopU [16, 18, 102, 103, 104, 105, 106, 107, 108, 109, 110, 111, 112, 113, 114, 115, 116, 117, 118, 119, 120] (fun (g : Nat × Nat) => [(18, N64 g.1), (16, N64 g.2)]) (fun (g : Nat × Nat) => []) (fun (g : Nat × Nat) => QI a b U d g) (fun (g : Nat × Nat) => g.1) (U / a, U % a) (qi_init ha1 ha2 hb2 hd2 hU2) ?lpa30_ ?lpb31_
              case lpa30_ =>
                exact .mk' ⟨⟨rfl, .v _⟩, ⟨rfl, .v _⟩, trivial⟩ (same_refl _ _) (rfl) (by repeat (first | exact trivial | refine And.intro (Nat.le_refl _) ?_ | refine And.intro trivial ?_ | refine And.intro (by show _ ≤ _; (first | omega | (simp only [LS] <;> omega))) ?_)) (by repeat (first | exact trivial | refine And.intro (one_ok (.own _ _ _ _ _ (Nat.le_refl _))) ?_ | refine And.intro (okp (by repeat (first | exact pu_bytes _ | exact pu_nil | exact pu_vs rfl | exact pu_map (fun _ => .v _) _ | exact pu_vals _ | refine pu_app ?_ ?_ | refine pu_cons (by exact pu_of rfl) ?_))) ?_))
              case lpb31_ =>
                rintro g hI
                have hpb : g.1 < 4294967296 → g.1 * b < 18446744073709551616 := mul32 hb2
                have hp2 := hI.2.1
                have hp3 := hI.2.2.1
                refine WC.seq fun Fh32_ h32_ => ?_
                refine WC.seq fun Fh33_ h33_ => ?_
                refine WC.region ?_
                refine RG.op _ _ rfl rfl (o_move (.v _) rfl) ?_
                refine RG.op _ _ rfl rfl (o_geI rfl rfl) ?_
                refine RG.op _ _ rfl rfl (o_move (.v _) rfl) ?_
                refine RG.opg1 _ _ _ _ _ rfl rfl rfl rfl rfl (fun hb => o_move (.v _) rfl) ?_
                refine RG.opg1 _ _ _ _ _ rfl rfl rfl rfl rfl (fun hb => o_move (.v _) rfl) ?_
                refine RG.opg1 _ _ _ _ _ rfl rfl rfl rfl rfl (fun hb => o_mulU (gdT hb) (gdT hb)) ?_
                refine RG.opg1 _ _ _ _ _ rfl rfl rfl rfl rfl (fun hb => o_move (.v _) rfl) ?_
                refine RG.opg1 _ _ _ _ _ rfl rfl rfl rfl rfl (fun hb => o_mulU (a := 4294967296) rfl (gdT hb)) ?_
                refine RG.opg1 _ _ _ _ _ rfl rfl rfl rfl rfl (fun hb => o_move (.v _) rfl) ?_
                refine RG.opg1 _ _ _ _ _ rfl rfl rfl rfl rfl (fun hb => o_addU (gdT hb) (gdT hb)) ?_
                refine RG.opg1 _ _ _ _ _ rfl rfl rfl rfl rfl (fun hb => o_gtI (gdT hb) (gdT hb)) ?_
                refine RG.op _ _ rfl rfl (o_or _ _ rfl rfl rfl) ?_
                refine RG.nil (h33_ _ ?_)
                refine WC.cond _ rfl (fun c24 => ?_) (fun c24 => ?_)
                ·
                  have p24 := c24
                  try simp only [CN] at p24
                  have hst2 := qi_step hI hU2 hd2 (cond17 c24 hpb hp2 hd2)
                  have hst3 := hst2.1
                  refine WC.skip (h32_ _ ?_)
                  refine WC.block ?_
                  refine WC.seq fun Fh34_ h34_ => ?_
                  refine WC.region ?_
                  refine RG.op _ _ rfl rfl (o_move (.v _) rfl) ?_
                  refine RG.op _ _ rfl rfl ((o_subU (a := g.1) (b := 1) rfl rfl (by omega)).cast (d' := N64 (g.1 - 1)) (congrArg N64 (by omega))) ?_
                  refine RG.op _ _ rfl rfl (o_assign (.v _) rfl) ?_
                  refine RG.nil (h34_ _ ?_)
                  refine WC.seq fun Fh35_ h35_ => ?_
                  refine WC.region ?_
                  refine RG.op _ _ rfl rfl (o_move (.v _) rfl) ?_
                  refine RG.op _ _ rfl rfl (o_move (.v _) rfl) ?_
                  refine RG.op _ _ rfl rfl ((o_addU (a := g.2) (b := a) rfl rfl).cast (d' := N64 (g.2 + a)) (congrArg N64 (by omega))) ?_
                  refine RG.op _ _ rfl rfl (o_assign (.v _) rfl) ?_
                  refine RG.nil (h35_ _ ?_)
                  refine WC.seq fun Fh36_ h36_ => ?_
                  refine WC.region ?_
                  refine RG.op _ _ rfl rfl (o_move (.v _) rfl) ?_
                  refine RG.op _ _ rfl rfl (o_geI rfl rfl) ?_
                  refine RG.nil (h36_ _ ?_)
                  refine WC.cond _ rfl (fun c27 => ?_) (fun c27 => ?_)
                  ·
                    have p27 := c27
                    try simp only [CN] at p27
                    have hq2 : g.1 - 1 = Q0 := by rw [E.hQ0]; exact q_break hb2 hst2 (by omega)
                    refine WC.exit (h29_ _ ?_)
                    refine WC.seq fun Fh37_ h37_ => ?_
                    refine WC.region ?_
                    refine RG.op _ _ rfl rfl ((o_move (.v _) rfl).cast (d' := N64 Q1) (congrArg N64 hq)) ?_
                    refine RG.op _ _ rfl rfl (o_mulU (b := 4294967296) rfl rfl) ?_
                    refine RG.op _ _ rfl rfl ((o_move (.v _) rfl).cast (d' := N64 Q0) (congrArg N64 hq2)) ?_
                    refine RG.op _ _ rfl rfl ((o_addU rfl rfl).cast (d' := N64 (Q1 * 4294967296 + Q0)) (congrArg N64 (by omega))) ?_
                    refine RG.op _ _ rfl rfl (o_move (.v _) rfl) ?_
                    refine RG.op _ _ rfl rfl (o_mulU (b := 4294967296) rfl rfl) ?_
                    refine RG.op _ _ rfl rfl (o_move (.v _) rfl) ?_
                    refine RG.op _ _ rfl rfl (o_addU rfl rfl) ?_
                    refine RG.op _ _ rfl rfl ((o_move (.v _) rfl).cast (d' := N64 Q0) (congrArg N64 hq2)) ?_
                    refine RG.op _ _ rfl rfl (o_move (.v _) rfl) ?_
                    refine RG.op _ _ rfl rfl (o_mulU rfl rfl) ?_
                    refine RG.op _ _ rfl rfl ((o_subU rfl rfl (by omega)).cast (d' := N64 R) (congrArg N64 E.hr2)) ?_
                    refine RG.op _ _ rfl rfl (o_move (.v _) rfl) ?_
                    refine RG.op _ _ rfl rfl (o_shrU (a := R) (n := s) rfl rfl (by show _ ≤ 64; omega)) ?_
                    refine RG.op _ _ rfl rfl (o_assign (.v _) rfl) ?_
                    refine RG.op _ _ rfl rfl (o_assign (.v _) rfl) ?_
                    refine RG.nil (h37_ _ ?_)
                    refine WC.ret ?_
                    exact Ends.r2 rfl (.tmp _ (.v _) rfl) (.tmp _ (.v _) rfl) (.v _) (.v _) (rfl)
                  ·
                    have p27 := c27
                    try simp only [CN] at p27
                    refine WC.skip (Exists.intro ((g.1 - 1, g.2 + a)) ⟨qi_next hst2 (by omega), by show g.1 - 1 < g.1; omega, ?_⟩)
                    exact .mk' ⟨⟨rfl, .v _⟩, ⟨rfl, .v _⟩, trivial⟩ (by repeat (first | with_reducible exact same_refl _ _ | with_reducible refine same_updO (by with_unfolding_all exact rfl) ?_ | with_reducible refine same_updN ?_ | with_reducible refine same_updL (by with_unfolding_all exact rfl) ?_ | with_reducible refine same_forget (by with_unfolding_all exact rfl) ?_)) (rfl) (by repeat (first | exact trivial | refine And.intro (Nat.le_refl _) ?_ | refine And.intro trivial ?_ | refine And.intro (by show _ ≤ _; (first | omega | (simp only [LS] <;> omega))) ?_)) (by repeat (first | exact trivial | refine And.intro (one_ok (.own _ _ _ _ _ (Nat.le_refl _))) ?_ | refine And.intro (okp (by repeat (first | exact pu_bytes _ | exact pu_nil | exact pu_vs rfl | exact pu_map (fun _ => .v _) _ | exact pu_vals _ | refine pu_app ?_ ?_ | refine pu_cons (by exact pu_of rfl) ?_))) ?_))
                ·
                  have p24 := c24
                  try simp only [CN] at p24
                  have hq2 : g.1 = Q0 := by rw [E.hQ0]; exact q_stop hI (cond17n c24 hpb hp2 hd2)
                  refine WC.exit (h29_ _ ?_)
                  refine WC.seq fun Fh38_ h38_ => ?_
                  refine WC.region ?_
                  refine RG.op _ _ rfl rfl ((o_move (.v _) rfl).cast (d' := N64 Q1) (congrArg N64 hq)) ?_
                  refine RG.op _ _ rfl rfl (o_mulU (b := 4294967296) rfl rfl) ?_
                  refine RG.op _ _ rfl rfl ((o_move (.v _) rfl).cast (d' := N64 Q0) (congrArg N64 hq2)) ?_
                  refine RG.op _ _ rfl rfl ((o_addU rfl rfl).cast (d' := N64 (Q1 * 4294967296 + Q0)) (congrArg N64 (by omega))) ?_
                  refine RG.op _ _ rfl rfl (o_move (.v _) rfl) ?_
                  refine RG.op _ _ rfl rfl (o_mulU (b := 4294967296) rfl rfl) ?_
                  refine RG.op _ _ rfl rfl (o_move (.v _) rfl) ?_
                  refine RG.op _ _ rfl rfl (o_addU rfl rfl) ?_
                  refine RG.op _ _ rfl rfl ((o_move (.v _) rfl).cast (d' := N64 Q0) (congrArg N64 hq2)) ?_
                  refine RG.op _ _ rfl rfl (o_move (.v _) rfl) ?_
                  refine RG.op _ _ rfl rfl (o_mulU rfl rfl) ?_
                  refine RG.op _ _ rfl rfl ((o_subU rfl rfl (by omega)).cast (d' := N64 R) (congrArg N64 E.hr2)) ?_
                  refine RG.op _ _ rfl rfl (o_move (.v _) rfl) ?_
                  refine RG.op _ _ rfl rfl (o_shrU (a := R) (n := s) rfl rfl (by show _ ≤ 64; omega)) ?_
                  refine RG.op _ _ rfl rfl (o_assign (.v _) rfl) ?_
                  refine RG.op _ _ rfl rfl (o_assign (.v _) rfl) ?_
                  refine RG.nil (h38_ _ ?_)
                  refine WC.ret ?_
                  exact Ends.r2 rfl (.tmp _ (.v _) rfl) (.tmp _ (.v _) rfl) (.v _) (.v _) (rfl)
            ·
              have p20 := c20
              try simp only [CN] at p20
              refine WC.skip (Exists.intro ((p.1 - 1, p.2 + a)) ⟨qi_next hst (by omega), by show p.1 - 1 < p.1; omega, ?_⟩)
              exact .mk' ⟨⟨rfl, .v _⟩, ⟨rfl, .v _⟩, trivial⟩ (by repeat (first | with_reducible exact same_refl _ _ | with_reducible refine same_updO (by with_unfolding_all exact rfl) ?_ | with_reducible refine same_updN ?_ | with_reducible refine same_updL (by with_unfolding_all exact rfl) ?_ | with_reducible refine same_forget (by with_unfolding_all exact rfl) ?_)) (rfl) (by repeat (first | exact trivial | refine And.intro (Nat.le_refl _) ?_ | refine And.intro trivial ?_ | refine And.intro (by show _ ≤ _; (first | omega | (simp only [LS] <;> omega))) ?_)) (by repeat (first | exact trivial | refine And.intro (one_ok (.own _ _ _ _ _ (Nat.le_refl _))) ?_ | refine And.intro (okp (by repeat (first | exact pu_bytes _ | exact pu_nil | exact pu_vs rfl | exact pu_map (fun _ => .v _) _ | exact pu_vals _ | refine pu_app ?_ ?_ | refine pu_cons (by exact pu_of rfl) ?_))) ?_))
          ·
            have p17 := c17
            try simp only [CN] at p17
            have hq : p.1 = Q1 := by rw [E.hQ1]; exact q_stop hI (cond17n c17 hpb hp2 hc2)
            refine WC.exit (h18_ _ ?_)
            refine WC.seq fun Fh39_ h39_ => ?_
            refine WC.region ?_
            refine RG.op _ _ rfl rfl (o_move (.v _) rfl) ?_
            refine RG.op _ _ rfl rfl (o_mulU (b := 4294967296) rfl rfl) ?_
            refine RG.op _ _ rfl rfl (o_move (.v _) rfl) ?_
            refine RG.op _ _ rfl rfl (o_addU rfl rfl) ?_
            refine RG.op _ _ rfl rfl ((o_move (.v _) rfl).cast (d' := N64 Q1) (congrArg N64 hq)) ?_
            refine RG.op _ _ rfl rfl (o_move (.v _) rfl) ?_
            refine RG.op _ _ rfl rfl (o_mulU rfl rfl) ?_
            refine RG.op _ _ rfl rfl ((o_subU rfl rfl (by omega)).cast (d' := N64 U) (congrArg N64 E.hr1)) ?_
            refine RG.op _ _ rfl rfl (o_assign (.v _) rfl) ?_
            refine RG.nil (h39_ _ ?_)
            refine WC.seq fun Fh40_ h40_ => ?_
            refine WC.region ?_
            refine RG.op _ _ rfl rfl (o_move (.v _) rfl) ?_
            refine RG.op _ _ rfl rfl (o_move (.v _) rfl) ?_
            refine RG.op _ _ rfl rfl (o_quoU (a := U) (b := a) rfl rfl (by omega) (by omega)) ?_
            refine RG.op _ _ rfl rfl (o_assign (.v _) rfl) ?_
            refine RG.nil (h40_ _ ?_)
            refine WC.seq fun Fh41_ h41_ => ?_
            refine WC.region ?_
            refine RG.op _ _ rfl rfl (o_move (.v _) rfl) ?_
            refine RG.op _ _ rfl rfl (o_move (.v _) rfl) ?_
            refine RG.op _ _ rfl rfl (o_move (.v _) rfl) ?_
            refine RG.op _ _ rfl rfl ((o_mulU (a := U / a) (b := a) rfl rfl).cast (d' := N64 (U / a * a)) (congrArg N64 (Nat.mod_eq_of_lt (Nat.lt_of_le_of_lt (Nat.div_mul_le_self U a) (by omega))))) ?_
            refine RG.op _ _ rfl rfl ((o_subU (a := U) (b := U / a * a) rfl rfl (Nat.le_trans (Nat.div_mul_le_self U a) (by omega))).cast (d' := N64 (U % a)) (congrArg N64 (sub_div U a (by omega)))) ?_
            refine RG.op _ _ rfl rfl (o_assign (.v _) rfl) ?_
            refine RG.nil (h41_ _ ?_)
            refine WC.seq fun Fh42_ h42_ => ?_
            refine WC.block ?_
            refine WC.loopU [16, 18, 102, 103, 104, 105, 106, 107, 108, 109, 110, 111, 112, 113, 114, 115, 116, 117, 118, 119, 120] (fun (g : Nat × Nat) => [(18, N64 g.1), (16, N64 g.2)]) (fun (g : Nat × Nat) => []) (fun (g : Nat × Nat) => QI a b U d g) (fun (g : Nat × Nat) => g.1) (U / a, U % a) (qi_init ha1 ha2 hb2 hd2 hU2) ?lpa43_ ?lpb44_
            case lpa43_ =>
              exact .mk' ⟨⟨rfl, .v _⟩, ⟨rfl, .v _⟩, trivial⟩ (same_refl _ _) (rfl) (by repeat (first | exact trivial | refine And.intro (Nat.le_refl _) ?_ | refine And.intro trivial ?_ | refine And.intro (by show _ ≤ _; (first | omega | (simp only [LS] <;> omega))) ?_)) (by repeat (first | exact trivial | refine And.intro (one_ok (.own _ _ _ _ _ (Nat.le_refl _))) ?_ | refine And.intro (okp (by repeat (first | exact pu_bytes _ | exact pu_nil | exact pu_vs rfl | exact pu_map (fun _ => .v _) _ | exact pu_vals _ | refine pu_app ?_ ?_ | refine pu_cons (by exact pu_of rfl) ?_))) ?_))
            case lpb44_ =>
              rintro g hI
              have hpb : g.1 < 4294967296 → g.1 * b < 18446744073709551616 := mul32 hb2
              have hp2 := hI.2.1
              have hp3 := hI.2.2.1
              refine WC.seq fun Fh45_ h45_ => ?_
              refine WC.seq fun Fh46_ h46_ => ?_
              refine WC.region ?_
              refine RG.op _ _ rfl rfl (o_move (.v _) rfl) ?_
              refine RG.op _ _ rfl rfl (o_geI rfl rfl) ?_
              refine RG.op _ _ rfl rfl (o_move (.v _) rfl) ?_
              refine RG.opg1 _ _ _ _ _ rfl rfl rfl rfl rfl (fun hb => o_move (.v _) rfl) ?_
              refine RG.opg1 _ _ _ _ _ rfl rfl rfl rfl rfl (fun hb => o_move (.v _) rfl) ?_
              refine RG.opg1 _ _ _ _ _ rfl rfl rfl rfl rfl (fun hb => o_mulU (gdT hb) (gdT hb)) ?_
              refine RG.opg1 _ _ _ _ _ rfl rfl rfl rfl rfl (fun hb => o_move (.v _) rfl) ?_
              refine RG.opg1 _ _ _ _ _ rfl rfl rfl rfl rfl (fun hb => o_mulU (a := 4294967296) rfl (gdT hb)) ?_
              refine RG.opg1 _ _ _ _ _ rfl rfl rfl rfl rfl (fun hb => o_move (.v _) rfl) ?_
              refine RG.opg1 _ _ _ _ _ rfl rfl rfl rfl rfl (fun hb => o_addU (gdT hb) (gdT hb)) ?_
              refine RG.opg1 _ _ _ _ _ rfl rfl rfl rfl rfl (fun hb => o_gtI (gdT hb) (gdT hb)) ?_
              refine RG.op _ _ rfl rfl (o_or _ _ rfl rfl rfl) ?_
              refine RG.nil (h46_ _ ?_)
              refine WC.cond _ rfl (fun c24 => ?_) (fun c24 => ?_)
              ·
                have p24 := c24
                try simp only [CN] at p24
                have hst2 := qi_step hI hU2 hd2 (cond17 c24 hpb hp2 hd2)
                have hst3 := hst2.1
                refine WC.skip (h45_ _ ?_)
                refine WC.block ?_
                refine WC.seq fun Fh47_ h47_ => ?_
                refine WC.region ?_
                refine RG.op _ _ rfl rfl (o_move (.v _) rfl) ?_
                refine RG.op _ _ rfl rfl ((o_subU (a := g.1) (b := 1) rfl rfl (by omega)).cast (d' := N64 (g.1 - 1)) (congrArg N64 (by omega))) ?_
                refine RG.op _ _ rfl rfl (o_assign (.v _) rfl) ?_
                refine RG.nil (h47_ _ ?_)
                refine WC.seq fun Fh48_ h48_ => ?_
                refine WC.region ?_
                refine RG.op _ _ rfl rfl (o_move (.v _) rfl) ?_
                refine RG.op _ _ rfl rfl (o_move (.v _) rfl) ?_
                refine RG.op _ _ rfl rfl ((o_addU (a := g.2) (b := a) rfl rfl).cast (d' := N64 (g.2 + a)) (congrArg N64 (by omega))) ?_
                refine RG.op _ _ rfl rfl (o_assign (.v _) rfl) ?_
                refine RG.nil (h48_ _ ?_)
                refine WC.seq fun Fh49_ h49_ => ?_
                refine WC.region ?_
                refine RG.op _ _ rfl rfl (o_move (.v _) rfl) ?_
                refine RG.op _ _ rfl rfl (o_geI rfl rfl) ?_
                refine RG.nil (h49_ _ ?_)
                refine WC.cond _ rfl (fun c27 => ?_) (fun c27 => ?_)
                ·
                  have p27 := c27
                  try simp only [CN] at p27
                  have hq2 : g.1 - 1 = Q0 := by rw [E.hQ0]; exact q_break hb2 hst2 (by omega)
                  refine WC.exit (h42_ _ ?_)
                  refine WC.seq fun Fh50_ h50_ => ?_
                  refine WC.region ?_
                  refine RG.op _ _ rfl rfl ((o_move (.v _) rfl).cast (d' := N64 Q1) (congrArg N64 hq)) ?_
                  refine RG.op _ _ rfl rfl (o_mulU (b := 4294967296) rfl rfl) ?_
                  refine RG.op _ _ rfl rfl ((o_move (.v _) rfl).cast (d' := N64 Q0) (congrArg N64 hq2)) ?_
                  refine RG.op _ _ rfl rfl ((o_addU rfl rfl).cast (d' := N64 (Q1 * 4294967296 + Q0)) (congrArg N64 (by omega))) ?_
                  refine RG.op _ _ rfl rfl (o_move (.v _) rfl) ?_
                  refine RG.op _ _ rfl rfl (o_mulU (b := 4294967296) rfl rfl) ?_
                  refine RG.op _ _ rfl rfl (o_move (.v _) rfl) ?_
                  refine RG.op _ _ rfl rfl (o_addU rfl rfl) ?_
                  refine RG.op _ _ rfl rfl ((o_move (.v _) rfl).cast (d' := N64 Q0) (congrArg N64 hq2)) ?_
                  refine RG.op _ _ rfl rfl (o_move (.v _) rfl) ?_
                  refine RG.op _ _ rfl rfl (o_mulU rfl rfl) ?_
                  refine RG.op _ _ rfl rfl ((o_subU rfl rfl (by omega)).cast (d' := N64 R) (congrArg N64 E.hr2)) ?_
                  refine RG.op _ _ rfl rfl (o_move (.v _) rfl) ?_
                  refine RG.op _ _ rfl rfl (o_shrU (a := R) (n := s) rfl rfl (by show _ ≤ 64; omega)) ?_
                  refine RG.op _ _ rfl rfl (o_assign (.v _) rfl) ?_
                  refine RG.op _ _ rfl rfl (o_assign (.v _) rfl) ?_
                  refine RG.nil (h50_ _ ?_)
                  refine WC.ret ?_
                  exact Ends.r2 rfl (.tmp _ (.v _) rfl) (.tmp _ (.v _) rfl) (.v _) (.v _) (rfl)
                ·
                  have p27 := c27
                  try simp only [CN] at p27
                  refine WC.skip (Exists.intro ((g.1 - 1, g.2 + a)) ⟨qi_next hst2 (by omega), by show g.1 - 1 < g.1; omega, ?_⟩)
                  exact .mk' ⟨⟨rfl, .v _⟩, ⟨rfl, .v _⟩, trivial⟩ (by repeat (first | with_reducible exact same_refl _ _ | with_reducible refine same_updO (by with_unfolding_all exact rfl) ?_ | with_reducible refine same_updN ?_ | with_reducible refine same_updL (by with_unfolding_all exact rfl) ?_ | with_reducible refine same_forget (by with_unfolding_all exact rfl) ?_)) (rfl) (by repeat (first | exact trivial | refine And.intro (Nat.le_refl _) ?_ | refine And.intro trivial ?_ | refine And.intro (by show _ ≤ _; (first | omega | (simp only [LS] <;> omega))) ?_)) (by repeat (first | exact trivial | refine And.intro (one_ok (.own _ _ _ _ _ (Nat.le_refl _))) ?_ | refine And.intro (okp (by repeat (first | exact pu_bytes _ | exact pu_nil | exact pu_vs rfl | exact pu_map (fun _ => .v _) _ | exact pu_vals _ | refine pu_app ?_ ?_ | refine pu_cons (by exact pu_of rfl) ?_))) ?_))
              ·
                have p24 := c24
                try simp only [CN] at p24
                have hq2 : g.1 = Q0 := by rw [E.hQ0]; exact q_stop hI (cond17n c24 hpb hp2 hd2)
                refine WC.exit (h42_ _ ?_)
                refine WC.seq fun Fh51_ h51_ => ?_
                refine WC.region ?_
                refine RG.op _ _ rfl rfl ((o_move (.v _) rfl).cast (d' := N64 Q1) (congrArg N64 hq)) ?_
                refine RG.op _ _ rfl rfl (o_mulU (b := 4294967296) rfl rfl) ?_
                refine RG.op _ _ rfl rfl ((o_move (.v _) rfl).cast (d' := N64 Q0) (congrArg N64 hq2)) ?_
                refine RG.op _ _ rfl rfl ((o_addU rfl rfl).cast (d' := N64 (Q1 * 4294967296 + Q0)) (congrArg N64 (by omega))) ?_
                refine RG.op _ _ rfl rfl (o_move (.v _) rfl) ?_
                refine RG.op _ _ rfl rfl (o_mulU (b := 4294967296) rfl rfl) ?_
                refine RG.op _ _ rfl rfl (o_move (.v _) rfl) ?_
                refine RG.op _ _ rfl rfl (o_addU rfl rfl) ?_
                refine RG.op _ _ rfl rfl ((o_move (.v _) rfl).cast (d' := N64 Q0) (congrArg N64 hq2)) ?_
                refine RG.op _ _ rfl rfl (o_move (.v _) rfl) ?_
                refine RG.op _ _ rfl rfl (o_mulU rfl rfl) ?_
                refine RG.op _ _ rfl rfl ((o_subU rfl rfl (by omega)).cast (d' := N64 R) (congrArg N64 E.hr2)) ?_
                refine RG.op _ _ rfl rfl (o_move (.v _) rfl) ?_
                refine RG.op _ _ rfl rfl (o_shrU (a := R) (n := s) rfl rfl (by show _ ≤ 64; omega)) ?_
                refine RG.op _ _ rfl rfl (o_assign (.v _) rfl) ?_
                refine RG.op _ _ rfl rfl (o_assign (.v _) rfl) ?_
                refine RG.nil (h51_ _ ?_)
                refine WC.ret ?_
                exact Ends.r2 rfl (.tmp _ (.v _) rfl) (.tmp _ (.v _) rfl) (.v _) (.v _) (rfl)
theorem div_c (hi lo y : Nat) (hyl : y < 18446744073709551616) (hlo : lo < 18446744073709551616) (hhi : hi < y) : Fun Try.prog 52 [N64 hi, N64 lo, N64 y] (· = .tup [N64 ((hi * 18446744073709551616 + lo) / y), N64 ((hi * 18446744073709551616 + lo) % y)]) := by
  rcases Nat.eq_zero_or_pos hi with h0 | h0
  · subst h0
    have := div0_c lo y hhi hlo
    rwa [Nat.zero_mul, Nat.zero_add]
  · have hy0 : y ≠ 0 := by omega
    obtain ⟨t1, t2⟩ := lz_top hy0 hyl
    have hs : lzN y ≤ 63 := by unfold lzN; omega
    obtain ⟨s, hs'⟩ : ∃ s, s = lzN y := ⟨_, rfl⟩
    rw [← hs'] at hs t1 t2
    obtain ⟨s1, s2, s3⟩ := shl_hi (hi := hi) (lo := lo) (y := y) hs hlo hhi t2
    obtain ⟨Y, hY⟩ : ∃ Y, Y = y * 2 ^ s := ⟨_, rfl⟩
    have hYq : y * 2 ^ s % 18446744073709551616 = Y := by rw [hY]; exact Nat.mod_eq_of_lt t2
    obtain ⟨u, hu⟩ : ∃ u, u = hi * 2 ^ s + lo / 2 ^ (64 - s) := ⟨_, rfl⟩
    obtain ⟨w, hw⟩ : ∃ w, w = lo * 2 ^ s % 18446744073709551616 := ⟨_, rfl⟩
    have hwl : w < 18446744073709551616 := hw ▸ Nat.mod_lt _ (by decide)
    have hor' : lo / 2 ^ (64 - s) < 18446744073709551616 := Nat.lt_of_le_of_lt (Nat.div_le_self _ _) hlo
    rw [← hY] at t1 t2 s3
    rw [← hu] at s1 s2 s3
    rw [← hw] at s2
    obtain ⟨a, ha⟩ : ∃ a, a = Y / 4294967296 := ⟨_, rfl⟩
    obtain ⟨b, hb⟩ : ∃ b, b = Y % 4294967296 := ⟨_, rfl⟩
    obtain ⟨c, hc⟩ : ∃ c, c = w / 4294967296 := ⟨_, rfl⟩
    obtain ⟨d, hd⟩ : ∃ d, d = w % 4294967296 := ⟨_, rfl⟩
    obtain ⟨Q1, hQ1⟩ : ∃ Q1, Q1 = (u * 4294967296 + c) / Y := ⟨_, rfl⟩
    obtain ⟨U, hU⟩ : ∃ U, U = (u * 4294967296 + c) % Y := ⟨_, rfl⟩
    obtain ⟨Q0, hQ0⟩ : ∃ Q0, Q0 = (U * 4294967296 + d) / Y := ⟨_, rfl⟩
    obtain ⟨R, hR⟩ : ∃ R, R = (U * 4294967296 + d) % Y := ⟨_, rfl⟩
    have hab : a * 4294967296 + b = Y := by omega
    have hY0 : 0 < Y := by omega
    have hUY : U < Y := by rw [hU]; exact Nat.mod_lt _ hY0
    have hRY : R < Y := by rw [hR]; exact Nat.mod_lt _ hY0
    have hc2 : c < 4294967296 := by omega
    have hd2 : d < 4294967296 := by omega
    have hQ1l : Q1 < 4294967296 := by rw [hQ1, ← hab]; exact q_lt (hab ▸ s3) hc2
    have hQ0l : Q0 < 4294967296 := by rw [hQ0, ← hab]; exact q_lt (hab ▸ hUY) hd2
    have E : DivE hi lo s Y a b u w c d Q1 U Q0 R := ⟨ha, hb, s1, hw, hc, hd, by rw [hab]; exact hQ1, by rw [hab]; exact hQ0, (r_eq t2 hY0 hQ1).trans hU.symm, (r_eq t2 hY0 hQ0).trans hR.symm⟩
    have := div_core hi lo y s Y a b u w c d Q1 U Q0 R E hY hs'.symm hyl hlo hhi h0 hs t2 hwl hor' (by omega) (by omega) (by omega) hc2 hd2 (hab ▸ s3) (hab ▸ hUY) (Nat.lt_trans s3 t2) (Nat.lt_trans hUY t2) (Nat.lt_trans hRY t2) hQ1l hQ0l hy0 hYq
    have f := fin_div (X := hi * 18446744073709551616 + lo) (by omega) hY s2 (show w = c * 4294967296 + d by omega) hQ1 hU hQ0
    rw [← hR] at f
    rw [f.1, f.2] at this
    exact this
end Go.Proofs.Ytpacdeiaimfiaaa
