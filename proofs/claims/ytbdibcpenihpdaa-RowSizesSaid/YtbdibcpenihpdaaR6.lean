/-
  Layer row: the program's Get. No condition.
-/
import Derived.Test.YtbdibcpenihpdaaR5
import Derived.Test.YtbdibcpenihpdaaDlU
set_option linter.unusedSimpArgs false
set_option linter.unusedVariables false
namespace Go.Proofs.Ytbdibcpenihpdaa
open Go.RowKit Go.DL

set_option maxHeartbeats 4000000 in
theorem get4_c (ts b : List UInt8) (h1 : ts.length ≤ 1099511627776) (h2 : b.length ≤ 10995116277760) : Fun Try.prog 20 [rdB ts, rdB b] (· = VL (getM ts b)) := by
  have h8 : hd8 ts = (ts.length + 7) / 8 := rfl
  refine Fun.of Try.func20 rfl (Nat.le_of_ble_eq_true rfl) fun C => ?_
  refine WC.seq fun Fh1_ h1_ => ?_
  refine WC.region ?_
  refine RG.op _ _ rfl rfl (o_box (d := .rd _ _) rfl rfl) ?_
  refine RG.op _ _ rfl rfl (o_assign (.v _) rfl) ?_
  refine RG.op _ _ rfl rfl (o_assign (.v _) rfl) ?_
  refine RG.nil (h1_ _ ?_)
  refine WC.seq fun Fh2_ h2_ => ?_
  refine WC.frz 0 _ [(3, .adr [rdB b])] rfl (by repeat (first | exact pu_bytes _ | exact pu_nil | exact pu_vs rfl | exact pu_map (fun _ => .v _) _ | exact pu_vals _ | refine pu_app ?_ ?_ | refine pu_cons (by exact pu_of rfl) ?_)) ⟨.ptr 0, trivial⟩ ?_
  refine WC.region ?_
  refine RG.op _ _ rfl rfl (o_call Ty.cal30 (lay_c) trivial (by exact pua rfl)) ?_
  refine RG.op _ _ rfl rfl (o_assign (.mp _ _) rfl) ?_
  refine RG.nil (h2_ _ ?_)
  refine WC.seq fun Fh3_ h3_ => ?_
  refine WC.seq fun Fh4_ h4_ => ?_
  refine WC.region ?_
  refine RG.op _ _ rfl rfl (o_move (.rd _ _) rfl) ?_
  refine RG.op _ _ rfl rfl (o_move (.mp _ _) rfl) ?_
  refine RG.op _ _ rfl rfl (o_call Ty.cal31 (typed_c _ (by first | omega | exact ubyte _ | (simp only [LS] <;> omega))) ⟨.inl rfl, .inl rfl, trivial⟩ (by exact pua rfl)) ?_
  refine RG.op _ _ rfl rfl (o_not rfl) ?_
  refine RG.nil (h4_ _ ?_)
  refine WC.cond _ rfl (fun c2 => ?_) (fun c2 => ?_)
  ·
    have p2 := c2
    try simp only [CN] at p2
    refine WC.seq fun Fh5_ h5_ => ?_
    refine WC.region ?_
    refine RG.op _ _ rfl rfl (o_assign (.v _) rfl) ?_
    refine RG.op _ _ rfl rfl (o_assign (.v _) rfl) ?_
    refine RG.nil (h5_ _ ?_)
    refine WC.ret ?_
    exact Ends.r2 rfl (.tmp _ (.v _) rfl) (.tmp _ (.v _) rfl) .nilr (.v _) (by rw [getM_arg p2]; rfl)
  ·
    have p2 := c2
    try simp only [CN] at p2
    have hty : ts.all tyB = true := p2
    refine WC.skip (h3_ _ ?_)
    refine WC.seq fun Fh6_ h6_ => ?_
    refine WC.region ?_
    refine RG.op _ _ rfl rfl (o_move (.rd _ _) rfl) ?_
    refine RG.op _ _ rfl rfl (o_len_rd rfl Try.underlying22) ?_
    refine RG.op _ _ rfl rfl (o_call Ty.cal33 (nulls_c _ (by first | omega | exact ubyte _ | (simp only [LS] <;> omega))) ⟨.inl rfl, trivial⟩ (by exact pua rfl)) ?_
    refine RG.op _ _ rfl rfl (o_assign (.v _) rfl) ?_
    refine RG.nil (h6_ _ ?_)
    refine WC.seq fun Fh7_ h7_ => ?_
    refine WC.seq fun Fh8_ h8_ => ?_
    refine WC.region ?_
    refine RG.op _ _ rfl rfl (o_load_adr rfl Try.underlying22 rfl rfl) ?_
    refine RG.op _ _ rfl rfl (o_len_rd rfl Try.underlying22) ?_
    refine RG.op _ _ rfl rfl (o_move (.v _) rfl) ?_
    refine RG.op _ _ rfl rfl (o_ltI rfl rfl) ?_
    refine RG.nil (h8_ _ ?_)
    refine WC.cond _ rfl (fun c5 => ?_) (fun c5 => ?_)
    ·
      have p5 := c5
      try simp only [CN] at p5
      refine WC.seq fun Fh9_ h9_ => ?_
      refine WC.region ?_
      refine RG.op _ _ rfl rfl (o_assign (.v _) rfl) ?_
      refine RG.op _ _ rfl rfl (o_assign (.v _) rfl) ?_
      refine RG.nil (h9_ _ ?_)
      refine WC.ret ?_
      exact Ends.r2 rfl (.tmp _ (.v _) rfl) (.tmp _ (.v _) rfl) .nilr (.v _) (by rw [getM_short hty (by omega)]; rfl)
    ·
      have p5 := c5
      try simp only [CN] at p5
      have hsh : ¬ b.length < hd8 ts := by omega
      refine WC.skip (h7_ _ ?_)
      refine WC.seq fun Fh10_ h10_ => ?_
      refine WC.region ?_
      refine RG.op _ _ rfl rfl (o_makeFunc) ?_
      refine RG.op _ _ rfl rfl (o_assign (.fn _ _) rfl) ?_
      refine RG.nil (h10_ _ ?_)
      refine WC.seq fun Fh11_ h11_ => ?_
      refine WC.seq fun Fh12_ h12_ => ?_
      refine WC.region ?_
      refine RG.op _ _ rfl rfl (o_move (.rd _ _) rfl) ?_
      refine RG.op _ _ rfl rfl (o_len_rd rfl Try.underlying22) ?_
      refine RG.op _ _ rfl rfl (o_assign (.v _) rfl) ?_
      refine RG.nil (h12_ _ ?_)
      refine WC.block ?_
      refine WC.loopU [4, 5, 9, 32, 33, 34, 35, 36, 37, 38, 39, 40] (fun (k : Nat) => [(9, I64 ((k : Nat) : Int))]) (fun (k : Nat) => []) (fun (k : Nat) => ts.length ≤ k ∧ k ≤ 8 * hd8 ts ∧ rall (k - ts.length) (fun j => !nullAt b (ts.length + j)) = true) (fun (k : Nat) => 8 * hd8 ts - k) ts.length ⟨Nat.le_refl _, by omega, by rw [Nat.sub_self]; rfl⟩ ?lpa13_ ?lpb14_
      case lpa13_ =>
        exact .mk' ⟨⟨rfl, .v _⟩, trivial⟩ (same_refl _ _) (rfl) (by repeat (first | exact trivial | refine And.intro (Nat.le_refl _) ?_ | refine And.intro trivial ?_ | refine And.intro (by show _ ≤ _; (first | omega | (simp only [LS] <;> omega))) ?_)) (by repeat (first | exact trivial | refine And.intro (okp (by repeat (first | exact pu_bytes _ | exact pu_nil | exact pu_vs rfl | exact pu_map (fun _ => .v _) _ | exact pu_vals _ | refine pu_app ?_ ?_ | refine pu_cons (by exact pu_of rfl) ?_))) ?_))
      case lpb14_ =>
        rintro k hI
        have hk1 := hI.1
        have hk2 := hI.2.1
        have hk3 := hI.2.2
        refine WC.seq fun Fh15_ h15_ => ?_
        refine WC.seq fun Fh16_ h16_ => ?_
        refine WC.region ?_
        refine RG.op _ _ rfl rfl (o_move (.v _) rfl) ?_
        refine RG.op _ _ rfl rfl (o_move (.v _) rfl) ?_
        refine RG.op _ _ rfl rfl (o_mul rfl rfl (by first | omega | exact ubyte _ | (simp only [LS] <;> omega)) (by first | omega | exact ubyte _ | (simp only [LS] <;> omega))) ?_
        refine RG.op _ _ rfl rfl (o_ltI rfl rfl) ?_
        refine RG.nil (h16_ _ ?_)
        refine WC.cond _ rfl (fun c9 => ?_) (fun c9 => ?_)
        ·
          have p9 := c9
          try simp only [CN] at p9
          have hk4 : k < 8 * hd8 ts := by omega
          refine WC.skip (h15_ _ ?_)
          refine WC.seq fun Fh17_ h17_ => ?_
          refine WC.block ?_
          refine WC.seq fun Fh18_ h18_ => ?_
          refine WC.region ?_
          refine RG.op _ _ rfl rfl (o_move (.fn _ _) rfl) ?_
          refine RG.op _ _ rfl rfl (o_move (.v _) rfl) ?_
          refine RG.op _ _ rfl rfl (o_callV (ds := [I64 (k : Nat)]) (cs := [.adr [rdB b]]) (.inl rfl) Ty.cal35 (null_c b k (by omega) (by omega)) ⟨.inl rfl, trivial⟩ (by exact pua rfl)) ?_
          refine RG.nil (h18_ _ ?_)
          refine WC.cond _ rfl (fun c11 => ?_) (fun c11 => ?_)
          ·
            have p11 := c11
            try simp only [CN] at p11
            refine WC.seq fun Fh19_ h19_ => ?_
            refine WC.region ?_
            refine RG.op _ _ rfl rfl (o_assign (.v _) rfl) ?_
            refine RG.op _ _ rfl rfl (o_assign (.v _) rfl) ?_
            refine RG.nil (h19_ _ ?_)
            refine WC.ret ?_
            exact Ends.r2 rfl (.tmp _ (.v _) rfl) (.tmp _ (.v _) rfl) .nilr (.v _) (by rw [getM_pad hty hsh hk1 hk4 p11]; rfl)
          ·
            have p11 := c11
            try simp only [CN] at p11
            refine WC.skip (h17_ _ ?_)
            refine WC.region ?_
            refine RG.op _ _ rfl rfl (o_move (.v _) rfl) ?_
            refine RG.op _ _ rfl rfl (o_add rfl rfl (by first | omega | exact ubyte _ | (simp only [LS] <;> omega)) (by first | omega | exact ubyte _ | (simp only [LS] <;> omega))) ?_
            refine RG.op _ _ rfl rfl (o_assign (.v _) rfl) ?_
            refine RG.nil (Exists.intro (k + 1) ⟨⟨by omega, by omega, by rw [show k + 1 - ts.length = (k - ts.length) + 1 by omega]; exact rall_succ hk3 (by show (!nullAt b (ts.length + (k - ts.length))) = true; rw [show ts.length + (k - ts.length) = k by omega, p11]; rfl)⟩, by first | omega | (simp only [LS] <;> omega), ?_⟩)
            exact .mk' ⟨⟨rfl, .v _⟩, trivial⟩ (by repeat (first | with_reducible exact same_refl _ _ | with_reducible refine same_updO (by with_unfolding_all exact rfl) ?_ | with_reducible refine same_updN ?_ | with_reducible refine same_updL (by with_unfolding_all exact rfl) ?_ | with_reducible refine same_forget (by with_unfolding_all exact rfl) ?_)) (rfl) (by repeat (first | exact trivial | refine And.intro (Nat.le_refl _) ?_ | refine And.intro trivial ?_ | refine And.intro (by show _ ≤ _; (first | omega | (simp only [LS] <;> omega))) ?_)) (by repeat (first | exact trivial | refine And.intro (okp (by repeat (first | exact pu_bytes _ | exact pu_nil | exact pu_vs rfl | exact pu_map (fun _ => .v _) _ | exact pu_vals _ | refine pu_app ?_ ?_ | refine pu_cons (by exact pu_of rfl) ?_))) ?_))
        ·
          have p9 := c9
          try simp only [CN] at p9
          have hpad : padOK ts b = true := by have e : k = 8 * hd8 ts := (by omega); rw [e] at hk3; exact hk3
          refine WC.exit (h11_ _ ?_)
          refine WC.seq fun Fh20_ h20_ => ?_
          refine WC.region ?_
          refine RG.op _ _ rfl rfl (o_move (.rd _ _) rfl) ?_
          refine RG.op _ _ rfl rfl (o_len_rd rfl Try.underlying22) ?_
          refine RG.op _ _ rfl rfl (o_makeT ts.length ts.length ts.length rfl rfl Try.underlying23 Ty.inf37 rfl rfl (by omega) (by omega) (by omega) (by omega) (by omega)) ?_
          refine RG.op _ _ rfl rfl (o_assign (.own _ _ _ _ _) rfl) ?_
          refine RG.nil (h20_ _ ?_)
          refine WC.seq fun Fh21_ h21_ => ?_
          refine WC.region ?_
          refine RG.op _ _ rfl rfl (o_move (.v _) rfl) ?_
          refine RG.op _ _ rfl rfl (o_assign (.v _) rfl) ?_
          refine RG.nil (h21_ _ ?_)
          refine WC.seq fun Fh22_ h22_ => ?_
          refine WC.seq fun Fh23_ h23_ => ?_
          refine WC.region ?_
          refine RG.op _ _ rfl rfl (o_move (.rd _ _) rfl) ?_
          refine RG.op _ _ rfl rfl (o_len_rd rfl Try.underlying22) ?_
          refine RG.op _ _ rfl rfl (o_move (.v _) rfl) ?_
          refine RG.nil (h23_ _ ?_)
          refine WC.block ?_
          refine WC.loopU [4, 5, 11, 12, 13, 14, 15, 16, 47, 48, 49, 50, 51, 52, 53, 54, 55, 56, 57, 58, 59, 60, 61, 62, 63, 64, 65, 66, 67, 68, 69, 70, 71, 72, 73, 74, 75, 76, 77] (fun (p : Nat × Nat × List Val) => [(47, I64 ((p.1 : Nat) : Int)), (11, I64 ((p.2.1 : Nat) : Int))]) (fun (p : Nat × Nat × List Val) => [(1, tb 37 ts.length ((p.2.2 ++ List.replicate (ts.length - p.1) z0).flatMap vc))]) (fun (p : Nat × Nat × List Val) => p.1 ≤ ts.length ∧ p.2.2.length = p.1 ∧ p.2.1 ≤ b.length ∧ getL b ts 0 (hd8 ts) [] = getL b (ts.drop p.1) p.1 p.2.1 p.2.2) (fun (p : Nat × Nat × List Val) => ts.length - p.1) (0, hd8 ts, []) ⟨Nat.zero_le _, rfl, (show hd8 ts ≤ b.length by omega), rfl⟩ ?lpa24_ ?lpb25_
          case lpa24_ =>
            exact .mk' ⟨⟨rfl, .v _⟩, ⟨rfl, .v _⟩, trivial⟩ (same_refl _ _) (congrArg (fun c => [none, c]) (tb_eq rfl (zs_vals rfl _))) (by repeat (first | exact trivial | refine And.intro (Nat.le_refl _) ?_ | refine And.intro trivial ?_ | refine And.intro (by show _ ≤ _; (first | omega | (simp only [LS] <;> omega))) ?_)) (by repeat (first | exact trivial | refine And.intro (okp (by repeat (first | exact pu_bytes _ | exact pu_nil | exact pu_vs rfl | exact pu_map (fun _ => .v _) _ | exact pu_vals _ | refine pu_app ?_ ?_ | refine pu_cons (by exact pu_of rfl) ?_))) ?_))
          case lpb25_ =>
            rintro p hI
            have hk1 := hI.1
            have hk2 := hI.2.1
            have hk3 := hI.2.2.1
            have hk4 := hI.2.2.2
            refine WC.seq fun Fh26_ h26_ => ?_
            refine WC.region ?_
            refine RG.op _ _ rfl rfl (o_ltI rfl rfl) ?_
            refine RG.nil (h26_ _ ?_)
            refine WC.seq fun Fh27_ h27_ => ?_
            refine WC.cond _ rfl (fun c16 => ?_) (fun c16 => ?_)
            ·
              have p16 := c16
              try simp only [CN] at p16
              have hlt : p.1 < ts.length := by omega
              refine WC.skip (h27_ _ ?_)
              refine WC.seq fun Fh28_ h28_ => ?_
              refine WC.block ?_
              refine WC.seq fun Fh29_ h29_ => ?_
              refine WC.region ?_
              refine RG.op _ _ rfl rfl (o_move (.v _) rfl) ?_
              refine RG.op _ _ rfl rfl (o_ixn_M p.1 rfl rfl Try.underlying22 (sz_of Ty.inf5) (by first | omega | exact ubyte _ | (simp only [LS] <;> omega)) (by first | omega | exact ubyte _ | (simp only [LS] <;> omega))) ?_
              refine RG.op _ _ rfl rfl (o_load_adr rfl Try.underlying5 rfl rfl) ?_
              refine RG.op _ _ rfl rfl (o_assign (.v _) rfl) ?_
              refine RG.op _ _ rfl rfl (o_assign (.v _) rfl) ?_
              refine RG.nil (h29_ _ ?_)
              refine WC.seq fun Fh30_ h30_ => ?_
              refine WC.seq fun Fh31_ h31_ => ?_
              refine WC.region ?_
              refine RG.op _ _ rfl rfl (o_move (.fn _ _) rfl) ?_
              refine RG.op _ _ rfl rfl (o_move (.v _) rfl) ?_
              refine RG.op _ _ rfl rfl (o_callV (ds := [I64 (p.1 : Nat)]) (cs := [.adr [rdB b]]) (.inl rfl) Ty.cal35 (null_c b p.1 (by omega) (by omega)) ⟨.inl rfl, trivial⟩ (by exact pua rfl)) ?_
              refine RG.nil (h31_ _ ?_)
              refine WC.cond _ rfl (fun c18 => ?_) (fun c18 => ?_)
              ·
                have p18 := c18
                try simp only [CN] at p18
                refine WC.exit (h28_ _ ?_)
                refine WC.region ?_
                refine RG.op _ _ rfl rfl (o_add rfl rfl (by first | omega | exact ubyte _ | (simp only [LS] <;> omega)) (by first | omega | exact ubyte _ | (simp only [LS] <;> omega))) ?_
                refine RG.op _ _ rfl rfl (o_move (.v _) rfl) ?_
                refine RG.nil (Exists.intro ((p.1 + 1, p.2.1, p.2.2 ++ [z0])) ⟨⟨by omega, by simp; omega, by omega, by rw [hk4]; exact getL_null hlt p18⟩, (by show _ < _; omega), ?_⟩)
                exact .mk' ⟨⟨rfl, .v _⟩, ⟨rfl, .v _⟩, trivial⟩ (by repeat (first | with_reducible exact same_refl _ _ | with_reducible refine same_updO (by with_unfolding_all exact rfl) ?_ | with_reducible refine same_updN ?_ | with_reducible refine same_updL (by with_unfolding_all exact rfl) ?_ | with_reducible refine same_forget (by with_unfolding_all exact rfl) ?_)) (congrArg (fun c => [none, c]) (tb_eq rfl (congrArg (List.flatMap vc) (fill_null hlt)))) (by repeat (first | exact trivial | refine And.intro (Nat.le_refl _) ?_ | refine And.intro trivial ?_ | refine And.intro (by show _ ≤ _; (first | omega | (simp only [LS] <;> omega))) ?_)) (by repeat (first | exact trivial | refine And.intro (okp (by repeat (first | exact pu_bytes _ | exact pu_nil | exact pu_vs rfl | exact pu_map (fun _ => .v _) _ | exact pu_vals _ | refine pu_app ?_ ?_ | refine pu_cons (by exact pu_of rfl) ?_))) ?_))
              ·
                have p18 := c18
                try simp only [CN] at p18
                have hc : tyB (ts[p.1]'hlt) = true := List.all_eq_true.1 hty _ (List.getElem_mem hlt)
                have hgl := getR_len (ts[p.1]'hlt) (b.drop p.2.1)
                rw [List.length_drop] at hgl
                refine WC.skip (h30_ _ ?_)
                refine WC.seq fun Fh32_ h32_ => ?_
                refine WC.drawn2 (by kernel_rfl) ?_
                refine PG.op _ rfl rfl rfl (fun _ _ => o_move (.mp _ _) rfl) ?_
                refine PG.op _ rfl rfl rfl (fun _ _ => o_move (.v _) rfl) ?_
                refine PG.op _ rfl rfl rfl (fun _ _ => layGet_c hc rfl rfl) ?_
                refine PG.op _ rfl rfl rfl (fun _ _ => o_field rfl Try.underlying63 rfl Try.underlying61 rfl rfl) ?_
                refine PG.op _ rfl rfl rfl (fun _ _ => o_load_adr rfl Try.underlying22 rfl rfl) ?_
                refine PG.op _ rfl rfl rfl (fun _ _ => o_move (.v _) rfl) ?_
                refine PG.op _ rfl rfl rfl (fun _ _ => o_dropM p.2.1 rfl rfl Try.underlying22 (sz_of Ty.inf5) (by first | omega | exact ubyte _ | (simp only [LS] <;> omega)) (by first | omega | exact ubyte _ | (simp only [LS] <;> omega))) ?_
                refine PG.op _ rfl rfl rfl (fun _ _ => o_callV (cs := []) (ds := [rdB (b.drop p.2.1)]) (.inr ⟨congrArg D.v (lgv_eq hc), rfl⟩) (cal_lgf _) (lget_c hc (b.drop p.2.1) (by first | omega | exact ubyte _ | (simp only [LS] <;> omega))) ⟨.inl rfl, trivial⟩ (by exact pua rfl)) ?_
                refine PG.op _ rfl rfl rfl (fun _ _ => o_move (.tup _) rfl) ?_
                refine PG.op _ rfl rfl rfl (fun _ _ => o_extract rfl rfl) ?_
                refine PG.op _ rfl rfl rfl (fun _ _ => o_extract rfl rfl) ?_
                refine PG.op _ rfl rfl rfl (fun _ _ => o_extract rfl rfl) ?_
                refine PG.opm _ _ rfl rfl rfl (o_alloc (z_of Ty.inf37) rfl) ?_
                refine PG.opm _ _ rfl rfl rfl (o_store (d := (.agg [_, _, _])) rfl rfl rfl rfl (sz_of Ty.inf37) (Nat.le_of_ble_eq_true rfl) rfl) ?_
                refine PG.op _ rfl rfl rfl (fun _ _ => o_assign (.v _) rfl) ?_
                refine PG.op _ rfl rfl rfl (fun _ _ => o_assign (.v _) rfl) ?_
                refine PG.nil ⟨by kernel_rfl, trivial, (h32_ _ ?_)⟩
                refine WC.seq fun Fh33_ h33_ => ?_
                refine WC.seq fun Fh34_ h34_ => ?_
                refine WC.region ?_
                refine RG.op _ _ rfl rfl (o_move (.v _) rfl) ?_
                refine RG.op _ _ rfl rfl (o_neI rfl rfl) ?_
                refine RG.nil (h34_ _ ?_)
                refine WC.cond _ rfl (fun c20 => ?_) (fun c20 => ?_)
                ·
                  have p20 := c20
                  try simp only [CN] at p20
                  refine WC.seq fun Fh35_ h35_ => ?_
                  refine WC.region ?_
                  refine RG.op _ _ rfl rfl (o_move (.v _) rfl) ?_
                  refine RG.op _ _ rfl rfl (o_assign (.v _) rfl) ?_
                  refine RG.op _ _ rfl rfl (o_assign (.v _) rfl) ?_
                  refine RG.nil (h35_ _ ?_)
                  refine WC.ret ?_
                  exact Ends.r2 rfl (.tmp _ (.v _) rfl) (.tmp _ (.v _) rfl) .nilr (.v _) (by rw [getM_go hty hsh hpad (hk4.trans (getL_bad hlt p18 (by omega))), if_neg (by omega)]; rfl)
                ·
                  have p20 := c20
                  try simp only [CN] at p20
                  have h0 : (getR (ts[p.1]'hlt) (b.drop p.2.1)).2.2 = 0 := by omega
                  refine WC.skip (h33_ _ ?_)
                  refine WC.seq fun Fh36_ h36_ => ?_
                  refine WC.region ?_
                  refine RG.op _ _ rfl rfl (o_move (.own _ _ _ _ _) rfl) ?_
                  refine RG.op _ _ rfl rfl (o_move (.v _) rfl) ?_
                  refine RG.op _ _ rfl rfl (o_load_ptr_L (xs := [_, _, _]) rfl Try.underlying37 rfl (sz_of Ty.inf37) rfl rfl rfl rfl) ?_
                  refine RG.op _ _ rfl rfl (o_ixn_own p.1 rfl rfl Try.underlying23 (sz_of Ty.inf37) (by omega) (by omega)) ?_
                  refine RG.op _ _ rfl rfl (o_store (d := .agg [_, _, _]) rfl rfl rfl rfl (sz_of Ty.inf37) (by show 0 + p.1 * 3 + 3 ≤ (List.flatMap vc _).length; rw [flen, List.length_append, List.length_replicate]; omega) rfl) ?_
                  refine RG.nil (h36_ _ ?_)
                  refine WC.region ?_
                  refine RG.op _ _ rfl rfl (o_move (.v _) rfl) ?_
                  refine RG.op _ _ rfl rfl (o_move (.v _) rfl) ?_
                  refine RG.op _ _ rfl rfl (o_add rfl rfl (by first | omega | exact ubyte _ | (simp only [LS] <;> omega)) (by first | omega | exact ubyte _ | (simp only [LS] <;> omega))) ?_
                  refine RG.op _ _ rfl rfl (o_assign (.v _) rfl) ?_
                  refine RG.nil (h28_ _ ?_)
                  refine WC.region ?_
                  refine RG.op _ _ rfl rfl (o_add rfl rfl (by first | omega | exact ubyte _ | (simp only [LS] <;> omega)) (by first | omega | exact ubyte _ | (simp only [LS] <;> omega))) ?_
                  refine RG.op _ _ rfl rfl (o_move (.v _) rfl) ?_
                  refine RG.nil (Exists.intro ((p.1 + 1, p.2.1 + (getR (ts[p.1]'hlt) (b.drop p.2.1)).2.1, p.2.2 ++ [(getR (ts[p.1]'hlt) (b.drop p.2.1)).1])) ⟨⟨by omega, by simp; omega, (show p.2.1 + (getR (ts[p.1]'hlt) (b.drop p.2.1)).2.1 ≤ b.length by omega), by rw [hk4]; exact getL_val hlt p18 h0⟩, (by show _ < _; omega), ?_⟩)
                  exact .mk' ⟨⟨rfl, .v _⟩, ⟨rfl, .v _⟩, trivial⟩ (by repeat (first | with_reducible exact same_refl _ _ | with_reducible refine same_updO (by with_unfolding_all exact rfl) ?_ | with_reducible refine same_updN ?_ | with_reducible refine same_updL (by with_unfolding_all exact rfl) ?_ | with_reducible refine same_forget (by with_unfolding_all exact rfl) ?_)) (congrArg (fun c => [none, c]) (tb_eq rfl (fill_val hlt hk2 _))) (by repeat (first | exact trivial | refine And.intro (Nat.le_refl _) ?_ | refine And.intro trivial ?_ | refine And.intro (by show _ ≤ _; (first | omega | (simp only [LS] <;> omega))) ?_)) (by repeat (first | exact trivial | refine And.intro (okp (by repeat (first | exact pu_bytes _ | exact pu_nil | exact pu_vs rfl | exact pu_map (fun _ => .v _) _ | exact pu_vals _ | refine pu_app ?_ ?_ | refine pu_cons (by exact pu_of rfl) ?_))) ?_))
            ·
              have p16 := c16
              try simp only [CN] at p16
              have hen : p.1 = ts.length := by omega
              refine WC.exit (h22_ _ ?_)
              refine WC.seq fun Fh37_ h37_ => ?_
              refine WC.seq fun Fh38_ h38_ => ?_
              refine WC.region ?_
              refine RG.op _ _ rfl rfl (o_move (.v _) rfl) ?_
              refine RG.op _ _ rfl rfl (o_load_adr rfl Try.underlying22 rfl rfl) ?_
              refine RG.op _ _ rfl rfl (o_len_rd rfl Try.underlying22) ?_
              refine RG.op _ _ rfl rfl (o_neI rfl rfl) ?_
              refine RG.nil (h38_ _ ?_)
              refine WC.cond _ rfl (fun c25 => ?_) (fun c25 => ?_)
              ·
                have p25 := c25
                try simp only [CN] at p25
                refine WC.seq fun Fh39_ h39_ => ?_
                refine WC.region ?_
                refine RG.op _ _ rfl rfl (o_assign (.v _) rfl) ?_
                refine RG.op _ _ rfl rfl (o_assign (.v _) rfl) ?_
                refine RG.nil (h39_ _ ?_)
                refine WC.ret ?_
                exact Ends.r2 rfl (.tmp _ (.v _) rfl) (.tmp _ (.v _) rfl) .nilr (.v _) (by rw [getM_go hty hsh hpad (hk4.trans (getL_end hen)), if_pos rfl, if_neg (by omega)]; rfl)
              ·
                have p25 := c25
                try simp only [CN] at p25
                refine WC.skip (h37_ _ ?_)
                refine WC.seq fun Fh40_ h40_ => ?_
                refine WC.region ?_
                refine RG.op _ _ rfl rfl (o_move (.own _ _ _ _ _) rfl) ?_
                refine RG.op _ _ rfl rfl (o_assign (.own _ _ _ _ _) rfl) ?_
                refine RG.op _ _ rfl rfl (o_assign (.v _) rfl) ?_
                refine RG.nil (h40_ _ ?_)
                refine WC.ret ?_
                exact Ends.r2 rfl (.tmp _ (.own _ _ _ _ _) rfl) (.tmp _ (.v _) rfl) (.tb rfl (by repeat (first | exact pu_bytes _ | exact pu_nil | exact pu_vs rfl | exact pu_map (fun _ => .v _) _ | exact pu_vals _ | refine pu_app ?_ ?_ | refine pu_cons (by exact pu_of rfl) ?_))) (.v _) (by rw [getM_go hty hsh hpad (hk4.trans (getL_end hen)), if_pos rfl, if_pos (by omega)]; exact congrArg (fun c => D.tup [c, I64 0]) (rd_eq (show ts.length = p.2.2.length by omega) (by rw [hen]; simp)))
theorem z0_vc : vc z0 = [B8 0, I64 0, S []] := rfl
set_option maxHeartbeats 4000000 in
theorem get4r_c (ts b : List UInt8) (h1 : ts.length ≤ 1099511627776) (h2 : b.length ≤ 10995116277760) : Fun Try.prog 21 [rdB ts, rdB b] (· = VL (getM ts b)) := by
  have h8 : hd8 ts = (ts.length + 7) / 8 := rfl
  refine Fun.of Try.func21 rfl (Nat.le_of_ble_eq_true rfl) fun C => ?_
  refine WC.seq fun Fh1_ h1_ => ?_
  refine WC.region ?_
  refine RG.op _ _ rfl rfl (o_assign (.v _) rfl) ?_
  refine RG.op _ _ rfl rfl (o_assign (.v _) rfl) ?_
  refine RG.nil (h1_ _ ?_)
  refine WC.seq fun Fh2_ h2_ => ?_
  refine WC.seq fun Fh3_ h3_ => ?_
  refine WC.region ?_
  refine RG.op _ _ rfl rfl (o_move (.rd _ _) rfl) ?_
  refine RG.op _ _ rfl rfl (o_call Ty.cal22 (rtypes_c _ (by first | omega | exact ubyte _ | (simp only [LS] <;> omega))) ⟨.inl rfl, trivial⟩ (by exact pua rfl)) ?_
  refine RG.op _ _ rfl rfl (o_not rfl) ?_
  refine RG.nil (h3_ _ ?_)
  refine WC.cond _ rfl (fun c1 => ?_) (fun c1 => ?_)
  ·
    have p1 := c1
    try simp only [CN] at p1
    refine WC.seq fun Fh4_ h4_ => ?_
    refine WC.region ?_
    refine RG.op _ _ rfl rfl (o_assign (.v _) rfl) ?_
    refine RG.op _ _ rfl rfl (o_assign (.v _) rfl) ?_
    refine RG.nil (h4_ _ ?_)
    refine WC.ret ?_
    exact Ends.r2 rfl (.tmp _ (.v _) rfl) (.tmp _ (.v _) rfl) .nilr (.v _) (by rw [getM_arg p1]; rfl)
  ·
    have p1 := c1
    try simp only [CN] at p1
    have hty : ts.all tyB = true := p1
    refine WC.skip (h2_ _ ?_)
    refine WC.seq fun Fh5_ h5_ => ?_
    refine WC.region ?_
    refine RG.op _ _ rfl rfl (o_move (.rd _ _) rfl) ?_
    refine RG.op _ _ rfl rfl (o_len_rd rfl Try.underlying22) ?_
    refine RG.op _ _ rfl rfl (o_add rfl rfl (by first | omega | exact ubyte _ | (simp only [LS] <;> omega)) (by first | omega | exact ubyte _ | (simp only [LS] <;> omega))) ?_
    refine RG.op _ _ rfl rfl (o_quo rfl rfl (by first | omega | exact ubyte _ | (simp only [LS] <;> omega)) (by first | omega | exact ubyte _ | (simp only [LS] <;> omega)) (by first | omega | exact ubyte _ | (simp only [LS] <;> omega))) ?_
    refine RG.op _ _ rfl rfl (o_assign (.v _) rfl) ?_
    refine RG.nil (h5_ _ ?_)
    refine WC.seq fun Fh6_ h6_ => ?_
    refine WC.seq fun Fh7_ h7_ => ?_
    refine WC.region ?_
    refine RG.op _ _ rfl rfl (o_move (.rd _ _) rfl) ?_
    refine RG.op _ _ rfl rfl (o_len_rd rfl Try.underlying22) ?_
    refine RG.op _ _ rfl rfl (o_move (.v _) rfl) ?_
    refine RG.op _ _ rfl rfl (o_ltI rfl rfl) ?_
    refine RG.nil (h7_ _ ?_)
    refine WC.cond _ rfl (fun c4 => ?_) (fun c4 => ?_)
    ·
      have p4 := c4
      try simp only [CN] at p4
      refine WC.seq fun Fh8_ h8_ => ?_
      refine WC.region ?_
      refine RG.op _ _ rfl rfl (o_assign (.v _) rfl) ?_
      refine RG.op _ _ rfl rfl (o_assign (.v _) rfl) ?_
      refine RG.nil (h8_ _ ?_)
      refine WC.ret ?_
      exact Ends.r2 rfl (.tmp _ (.v _) rfl) (.tmp _ (.v _) rfl) .nilr (.v _) (by rw [getM_short hty (by omega)]; rfl)
    ·
      have p4 := c4
      try simp only [CN] at p4
      have hsh : ¬ b.length < hd8 ts := by omega
      refine WC.skip (h6_ _ ?_)
      refine WC.seq fun Fh9_ h9_ => ?_
      refine WC.seq fun Fh10_ h10_ => ?_
      refine WC.region ?_
      refine RG.op _ _ rfl rfl (o_move (.rd _ _) rfl) ?_
      refine RG.op _ _ rfl rfl (o_len_rd rfl Try.underlying22) ?_
      refine RG.op _ _ rfl rfl (o_assign (.v _) rfl) ?_
      refine RG.nil (h10_ _ ?_)
      refine WC.block ?_
      refine WC.loopU [4, 5, 7, 27, 28, 29, 30, 31, 32, 33, 34, 35, 36, 37, 38, 39, 40, 41, 42] (fun (k : Nat) => [(7, I64 ((k : Nat) : Int))]) (fun (k : Nat) => []) (fun (k : Nat) => ts.length ≤ k ∧ k ≤ 8 * hd8 ts ∧ rall (k - ts.length) (fun j => !nullAt b (ts.length + j)) = true) (fun (k : Nat) => 8 * hd8 ts - k) ts.length ⟨Nat.le_refl _, by omega, by rw [Nat.sub_self]; rfl⟩ ?lpa11_ ?lpb12_
      case lpa11_ =>
        exact .mk' ⟨⟨rfl, .v _⟩, trivial⟩ (same_refl _ _) (rfl) (by repeat (first | exact trivial | refine And.intro (Nat.le_refl _) ?_ | refine And.intro trivial ?_ | refine And.intro (by show _ ≤ _; (first | omega | (simp only [LS] <;> omega))) ?_)) (by repeat (first | exact trivial | refine And.intro (okp (by repeat (first | exact pu_bytes _ | exact pu_nil | exact pu_vs rfl | exact pu_map (fun _ => .v _) _ | exact pu_vals _ | refine pu_app ?_ ?_ | refine pu_cons (by exact pu_of rfl) ?_))) ?_))
      case lpb12_ =>
        rintro k hI
        have hk1 := hI.1
        have hk2 := hI.2.1
        have hk3 := hI.2.2
        refine WC.seq fun Fh13_ h13_ => ?_
        refine WC.seq fun Fh14_ h14_ => ?_
        refine WC.region ?_
        refine RG.op _ _ rfl rfl (o_move (.v _) rfl) ?_
        refine RG.op _ _ rfl rfl (o_move (.v _) rfl) ?_
        refine RG.op _ _ rfl rfl (o_mul rfl rfl (by first | omega | exact ubyte _ | (simp only [LS] <;> omega)) (by first | omega | exact ubyte _ | (simp only [LS] <;> omega))) ?_
        refine RG.op _ _ rfl rfl (o_ltI rfl rfl) ?_
        refine RG.nil (h14_ _ ?_)
        refine WC.cond _ rfl (fun c7 => ?_) (fun c7 => ?_)
        ·
          have p7 := c7
          try simp only [CN] at p7
          have hk4 : k < 8 * hd8 ts := by omega
          have hkb : k / 8 < b.length := by omega
          refine WC.skip (h13_ _ ?_)
          refine WC.seq fun Fh15_ h15_ => ?_
          refine WC.block ?_
          refine WC.seq fun Fh16_ h16_ => ?_
          refine WC.region ?_
          refine RG.op _ _ rfl rfl (o_move (.rd _ _) rfl) ?_
          refine RG.op _ _ rfl rfl (o_move (.v _) rfl) ?_
          refine RG.op _ _ rfl rfl (o_quo rfl rfl (by first | omega | exact ubyte _ | (simp only [LS] <;> omega)) (by first | omega | exact ubyte _ | (simp only [LS] <;> omega)) (by first | omega | exact ubyte _ | (simp only [LS] <;> omega))) ?_
          refine RG.op _ _ rfl rfl (o_ixn_M (k / 8) rfl rfl Try.underlying22 (sz_of Ty.inf5) (by first | omega | exact ubyte _ | (simp only [LS] <;> omega)) (by first | omega | exact ubyte _ | (simp only [LS] <;> omega))) ?_
          refine RG.op _ _ rfl rfl (o_load_adr rfl Try.underlying5 rfl rfl) ?_
          refine RG.op _ _ rfl rfl (o_move (.v _) rfl) ?_
          refine RG.op _ _ rfl rfl ((o_rem (b := 8) rfl rfl (by omega) (by omega)).cast (congrArg I64 (show (k : Int) % 8 = ((k % 8 : Nat) : Int) by omega))) ?_
          refine RG.op _ _ rfl rfl (o_shrN (k := .u8) (a := (b[k / 8]).toNat) (n := k % 8) rfl rfl (show k % 8 ≤ 8 by omega)) ?_
          refine RG.op _ _ rfl rfl ((o_rem (k := .u8) (a := (((b[k / 8]).toNat / 2 ^ (k % 8) : Nat) : Int)) (b := 2) rfl rfl (Int.natCast_nonneg _) (by omega)).cast (bit8 _)) ?_
          refine RG.op _ _ rfl rfl (o_eqB (b := 1) rfl rfl) ?_
          refine RG.nil (h16_ _ ?_)
          refine WC.cond _ rfl (fun c9 => ?_) (fun c9 => ?_)
          ·
            have p9 := c9
            try simp only [CN] at p9
            refine WC.seq fun Fh17_ h17_ => ?_
            refine WC.region ?_
            refine RG.op _ _ rfl rfl (o_assign (.v _) rfl) ?_
            refine RG.op _ _ rfl rfl (o_assign (.v _) rfl) ?_
            refine RG.nil (h17_ _ ?_)
            refine WC.ret ?_
            exact Ends.r2 rfl (.tmp _ (.v _) rfl) (.tmp _ (.v _) rfl) .nilr (.v _) (by rw [getM_pad hty hsh hk1 hk4 ((null_is hkb).trans c9)]; rfl)
          ·
            have p9 := c9
            try simp only [CN] at p9
            refine WC.skip (h15_ _ ?_)
            refine WC.region ?_
            refine RG.op _ _ rfl rfl (o_move (.v _) rfl) ?_
            refine RG.op _ _ rfl rfl (o_add rfl rfl (by first | omega | exact ubyte _ | (simp only [LS] <;> omega)) (by first | omega | exact ubyte _ | (simp only [LS] <;> omega))) ?_
            refine RG.op _ _ rfl rfl (o_assign (.v _) rfl) ?_
            refine RG.nil (Exists.intro (k + 1) ⟨⟨by omega, by omega, by rw [show k + 1 - ts.length = (k - ts.length) + 1 by omega]; exact rall_succ hk3 (by show (!nullAt b (ts.length + (k - ts.length))) = true; rw [show ts.length + (k - ts.length) = k by omega, null_is hkb, c9]; rfl)⟩, by first | omega | (simp only [LS] <;> omega), ?_⟩)
            exact .mk' ⟨⟨rfl, .v _⟩, trivial⟩ (by repeat (first | with_reducible exact same_refl _ _ | with_reducible refine same_updO (by with_unfolding_all exact rfl) ?_ | with_reducible refine same_updN ?_ | with_reducible refine same_updL (by with_unfolding_all exact rfl) ?_ | with_reducible refine same_forget (by with_unfolding_all exact rfl) ?_)) (rfl) (by repeat (first | exact trivial | refine And.intro (Nat.le_refl _) ?_ | refine And.intro trivial ?_ | refine And.intro (by show _ ≤ _; (first | omega | (simp only [LS] <;> omega))) ?_)) (by repeat (first | exact trivial | refine And.intro (okp (by repeat (first | exact pu_bytes _ | exact pu_nil | exact pu_vs rfl | exact pu_map (fun _ => .v _) _ | exact pu_vals _ | refine pu_app ?_ ?_ | refine pu_cons (by exact pu_of rfl) ?_))) ?_))
        ·
          have p7 := c7
          try simp only [CN] at p7
          have hpad : padOK ts b = true := by have e : k = 8 * hd8 ts := (by omega); rw [e] at hk3; exact hk3
          refine WC.exit (h9_ _ ?_)
          refine WC.seq fun Fh18_ h18_ => ?_
          refine WC.region ?_
          refine RG.op _ _ rfl rfl (o_nil 37 3) ?_
          refine RG.nil (h18_ _ ?_)
          refine WC.seq fun Fh19_ h19_ => ?_
          refine WC.region ?_
          refine RG.op _ _ rfl rfl (o_move (.v _) rfl) ?_
          refine RG.op _ _ rfl rfl (o_assign (.v _) rfl) ?_
          refine RG.nil (h19_ _ ?_)
          refine WC.seq fun Fh20_ h20_ => ?_
          refine WC.seq fun Fh21_ h21_ => ?_
          refine WC.region ?_
          refine RG.op _ _ rfl rfl (o_assign (.v _) rfl) ?_
          refine RG.nil (h21_ _ ?_)
          refine WC.block ?_
          refine WC.loopU [4, 5, 8, 9, 10, 11, 12, 13, 44, 45, 46, 47, 48, 49, 50, 51, 52, 53, 54, 55, 56, 57, 58, 59, 60, 61, 62, 63, 64, 65, 66, 67, 68, 69, 70, 71, 72, 73, 74, 75, 76, 77, 78, 79, 80, 81, 82, 83, 84, 85] (fun (p : Nat × Nat × List Val) => [(10, I64 ((p.1 : Nat) : Int)), (9, I64 ((p.2.1 : Nat) : Int)), (8, ow 0 p.2.2.length 3)]) (fun (p : Nat × Nat × List Val) => [(0, tb 37 p.2.2.length (p.2.2.flatMap vc))]) (fun (p : Nat × Nat × List Val) => p.1 ≤ ts.length ∧ p.2.2.length = p.1 ∧ p.2.1 ≤ b.length ∧ getL b ts 0 (hd8 ts) [] = getL b (ts.drop p.1) p.1 p.2.1 p.2.2) (fun (p : Nat × Nat × List Val) => ts.length - p.1) (0, hd8 ts, []) ⟨Nat.zero_le _, rfl, (show hd8 ts ≤ b.length by omega), rfl⟩ ?lpa22_ ?lpb23_
          case lpa22_ =>
            exact .mk' ⟨⟨rfl, .v _⟩, ⟨rfl, .v _⟩, ⟨rfl, (by first | exact .own _ _ _ _ _ (Nat.le_refl _) | exact .ptr _ _ _ (Nat.le_refl _) | exact .omp _ _ (Nat.le_refl _))⟩, trivial⟩ (same_refl _ _) (rfl) (by repeat (first | exact trivial | refine And.intro (Nat.le_refl _) ?_ | refine And.intro trivial ?_ | refine And.intro (by show _ ≤ _; (first | omega | (simp only [LS] <;> omega))) ?_)) (by repeat (first | exact trivial | refine And.intro (okp (by repeat (first | exact pu_bytes _ | exact pu_nil | exact pu_vs rfl | exact pu_map (fun _ => .v _) _ | exact pu_vals _ | refine pu_app ?_ ?_ | refine pu_cons (by exact pu_of rfl) ?_))) ?_))
          case lpb23_ =>
            rintro p hI
            have hk1 := hI.1
            have hk2 := hI.2.1
            have hk3 := hI.2.2.1
            have hk4 := hI.2.2.2
            refine WC.seq fun Fh24_ h24_ => ?_
            refine WC.seq fun Fh25_ h25_ => ?_
            refine WC.region ?_
            refine RG.op _ _ rfl rfl (o_move (.v _) rfl) ?_
            refine RG.op _ _ rfl rfl (o_move (.rd _ _) rfl) ?_
            refine RG.op _ _ rfl rfl (o_len_rd rfl Try.underlying22) ?_
            refine RG.op _ _ rfl rfl (o_ltI rfl rfl) ?_
            refine RG.nil (h25_ _ ?_)
            refine WC.cond _ rfl (fun c14 => ?_) (fun c14 => ?_)
            ·
              have p14 := c14
              try simp only [CN] at p14
              have hlt : p.1 < ts.length := by omega
              have hkb : p.1 / 8 < b.length := by omega
              refine WC.skip (h24_ _ ?_)
              refine WC.seq fun Fh26_ h26_ => ?_
              refine WC.block ?_
              refine WC.seq fun Fh27_ h27_ => ?_
              refine WC.seq fun Fh28_ h28_ => ?_
              refine WC.region ?_
              refine RG.op _ _ rfl rfl (o_move (.rd _ _) rfl) ?_
              refine RG.op _ _ rfl rfl (o_move (.v _) rfl) ?_
              refine RG.op _ _ rfl rfl (o_quo rfl rfl (by first | omega | exact ubyte _ | (simp only [LS] <;> omega)) (by first | omega | exact ubyte _ | (simp only [LS] <;> omega)) (by first | omega | exact ubyte _ | (simp only [LS] <;> omega))) ?_
              refine RG.op _ _ rfl rfl (o_ixn_M (p.1 / 8) rfl rfl Try.underlying22 (sz_of Ty.inf5) (by first | omega | exact ubyte _ | (simp only [LS] <;> omega)) (by first | omega | exact ubyte _ | (simp only [LS] <;> omega))) ?_
              refine RG.op _ _ rfl rfl (o_load_adr rfl Try.underlying5 rfl rfl) ?_
              refine RG.op _ _ rfl rfl (o_move (.v _) rfl) ?_
              refine RG.op _ _ rfl rfl ((o_rem (b := 8) rfl rfl (by omega) (by omega)).cast (congrArg I64 (show (p.1 : Int) % 8 = ((p.1 % 8 : Nat) : Int) by omega))) ?_
              refine RG.op _ _ rfl rfl (o_shrN (k := .u8) (a := (b[p.1 / 8]).toNat) (n := p.1 % 8) rfl rfl (show p.1 % 8 ≤ 8 by omega)) ?_
              refine RG.op _ _ rfl rfl ((o_rem (k := .u8) (a := (((b[p.1 / 8]).toNat / 2 ^ (p.1 % 8) : Nat) : Int)) (b := 2) rfl rfl (Int.natCast_nonneg _) (by omega)).cast (bit8 _)) ?_
              refine RG.op _ _ rfl rfl (o_eqB (b := 1) rfl rfl) ?_
              refine RG.nil (h28_ _ ?_)
              refine WC.cond _ rfl (fun c16 => ?_) (fun c16 => ?_)
              ·
                have p16 := c16
                try simp only [CN] at p16
                refine WC.seq fun Fh29_ h29_ => ?_
                refine WC.region ?_
                refine RG.op _ _ rfl rfl (o_move (.own _ _ _ _ _) rfl) ?_
                refine RG.op _ _ rfl rfl (o_build (cs := [B8 0, I64 0, S []]) Try.underlying37 Ty.inf37 (Ty.pl37 Try.underlying37) rfl) ?_
                refine RG.op _ _ rfl rfl (o_litP (cs := [_, _, _]) Try.underlying23 Ty.inf37 rfl rfl rfl rfl (by repeat (first | exact pu_bytes _ | exact pu_nil | exact pu_vs rfl | exact pu_map (fun _ => .v _) _ | exact pu_vals _ | refine pu_app ?_ ?_ | refine pu_cons (by exact pu_of rfl) ?_))) ?_
                refine RG.op _ _ rfl rfl (o_appT (Elem.of Try.underlying23 Ty.inf37 rfl (by decide)) rfl rfl rfl (by first | omega | exact ubyte _ | (simp only [LS] <;> omega)) (by first | omega | exact ubyte _ | (simp only [LS] <;> omega)) (by repeat (first | exact bytesD_one _ | exact one_nil | exact one_map (fun _ => rfl) _ | exact one_vals _ | refine one_app ?_ ?_ | refine one_cons rfl ?_)) (by first | omega | exact ubyte _ | (simp only [LS] <;> omega)) (by first | omega | exact ubyte _ | (simp only [LS] <;> omega))) ?_
                refine RG.op _ _ rfl rfl (o_assign (.own _ _ _ _ _) rfl) ?_
                refine RG.nil (h29_ _ ?_)
                refine WC.exit (h26_ _ ?_)
                refine WC.region ?_
                refine RG.op _ _ rfl rfl (o_move (.v _) rfl) ?_
                refine RG.op _ _ rfl rfl (o_add rfl rfl (by first | omega | exact ubyte _ | (simp only [LS] <;> omega)) (by first | omega | exact ubyte _ | (simp only [LS] <;> omega))) ?_
                refine RG.op _ _ rfl rfl (o_assign (.v _) rfl) ?_
                refine RG.nil (Exists.intro ((p.1 + 1, p.2.1, p.2.2 ++ [z0])) ⟨⟨by omega, by simp; omega, by omega, by rw [hk4]; exact getL_null hlt ((null_is hkb).trans c16)⟩, (by show _ < _; omega), ?_⟩)
                exact .mk' ⟨⟨rfl, .v _⟩, ⟨rfl, .v _⟩, ⟨ow_eq (by simp), (by first | exact .own _ _ _ _ _ (Nat.le_refl _) | exact .ptr _ _ _ (Nat.le_refl _) | exact .omp _ _ (Nat.le_refl _))⟩, trivial⟩ (by repeat (first | with_reducible exact same_refl _ _ | with_reducible refine same_updO (by with_unfolding_all exact rfl) ?_ | with_reducible refine same_updN ?_ | with_reducible refine same_updL (by with_unfolding_all exact rfl) ?_ | with_reducible refine same_forget (by with_unfolding_all exact rfl) ?_)) (congrArg (fun c => [c]) (tb_eq (by simp) (vs_snoc _ z0))) (by repeat (first | exact trivial | refine And.intro (Nat.le_refl _) ?_ | refine And.intro trivial ?_ | refine And.intro (by show _ ≤ _; (first | omega | (simp only [LS] <;> omega))) ?_)) (by repeat (first | exact trivial | refine And.intro (okp (by repeat (first | exact pu_bytes _ | exact pu_nil | exact pu_vs rfl | exact pu_map (fun _ => .v _) _ | exact pu_vals _ | refine pu_app ?_ ?_ | refine pu_cons (by exact pu_of rfl) ?_))) ?_))
              ·
                have p16 := c16
                try simp only [CN] at p16
                have hc : tyB (ts[p.1]'hlt) = true := List.all_eq_true.1 hty _ (List.getElem_mem hlt)
                have hgl := getR_len (ts[p.1]'hlt) (b.drop p.2.1)
                rw [List.length_drop] at hgl
                refine WC.skip (h27_ _ ?_)
                refine WC.seq fun Fh30_ h30_ => ?_
                refine WC.drawn2 (by kernel_rfl) ?_
                refine PG.op _ rfl rfl rfl (fun _ _ => o_move (.rd _ _) rfl) ?_
                refine PG.op _ rfl rfl rfl (fun _ _ => o_move (.v _) rfl) ?_
                refine PG.op _ rfl rfl rfl (fun _ _ => o_ixn_M (l := ts) (g := fun b => U8 b.toBitVec) p.1 rfl rfl Try.underlying22 (sz_of Ty.inf5) rfl hlt) ?_
                refine PG.op _ rfl rfl rfl (fun _ _ => o_load_adr (d := B8 (ts[p.1]'hlt)) rfl Try.underlying5 rfl rfl) ?_
                refine PG.op _ rfl rfl rfl (fun _ _ => o_move (.rd _ _) rfl) ?_
                refine PG.op _ rfl rfl rfl (fun _ _ => o_move (.v _) rfl) ?_
                refine PG.op _ rfl rfl rfl (fun _ _ => o_dropM p.2.1 rfl rfl Try.underlying22 (sz_of Ty.inf5) (by first | omega | exact ubyte _ | (simp only [LS] <;> omega)) (by first | omega | exact ubyte _ | (simp only [LS] <;> omega))) ?_
                refine PG.op _ rfl rfl rfl (fun _ _ => (by exact o_call (ds := [B8 (ts[p.1]'hlt), rdB (b.drop p.2.1)]) Ty.cal36 (rvalue_c (ts[p.1]'hlt) (b.drop p.2.1) hc (by first | omega | exact ubyte _ | (simp only [LS] <;> omega))) ⟨.inl rfl, .inl rfl, trivial⟩ (by exact pua rfl))) ?_
                refine PG.op _ rfl rfl rfl (fun _ _ => o_move (.tup _) rfl) ?_
                refine PG.op _ rfl rfl rfl (fun _ _ => o_extract rfl rfl) ?_
                refine PG.op _ rfl rfl rfl (fun _ _ => o_extract rfl rfl) ?_
                refine PG.op _ rfl rfl rfl (fun _ _ => o_extract rfl rfl) ?_
                refine PG.opm _ _ rfl rfl rfl (o_alloc (z_of Ty.inf37) rfl) ?_
                refine PG.opm _ _ rfl rfl rfl (o_store (d := (.agg [_, _, _])) rfl rfl rfl rfl (sz_of Ty.inf37) (Nat.le_of_ble_eq_true rfl) rfl) ?_
                refine PG.op _ rfl rfl rfl (fun _ _ => o_assign (.v _) rfl) ?_
                refine PG.op _ rfl rfl rfl (fun _ _ => o_assign (.v _) rfl) ?_
                refine PG.nil ⟨by kernel_rfl, trivial, (h30_ _ ?_)⟩
                refine WC.seq fun Fh31_ h31_ => ?_
                refine WC.seq fun Fh32_ h32_ => ?_
                refine WC.region ?_
                refine RG.op _ _ rfl rfl (o_move (.v _) rfl) ?_
                refine RG.op _ _ rfl rfl (o_neI rfl rfl) ?_
                refine RG.nil (h32_ _ ?_)
                refine WC.cond _ rfl (fun c19 => ?_) (fun c19 => ?_)
                ·
                  have p19 := c19
                  try simp only [CN] at p19
                  refine WC.seq fun Fh33_ h33_ => ?_
                  refine WC.region ?_
                  refine RG.op _ _ rfl rfl (o_move (.v _) rfl) ?_
                  refine RG.op _ _ rfl rfl (o_assign (.v _) rfl) ?_
                  refine RG.op _ _ rfl rfl (o_assign (.v _) rfl) ?_
                  refine RG.nil (h33_ _ ?_)
                  refine WC.ret ?_
                  exact Ends.r2 rfl (.tmp _ (.v _) rfl) (.tmp _ (.v _) rfl) .nilr (.v _) (by rw [getM_go hty hsh hpad (hk4.trans (getL_bad hlt ((null_is hkb).trans c16) (by omega))), if_neg (by omega)]; rfl)
                ·
                  have p19 := c19
                  try simp only [CN] at p19
                  have h0 : (getR (ts[p.1]'hlt) (b.drop p.2.1)).2.2 = 0 := by omega
                  refine WC.skip (h31_ _ ?_)
                  refine WC.seq fun Fh34_ h34_ => ?_
                  refine WC.region ?_
                  refine RG.op _ _ rfl rfl (o_move (.own _ _ _ _ _) rfl) ?_
                  refine RG.op _ _ rfl rfl (o_load_ptr_L (xs := [_, _, _]) rfl Try.underlying37 rfl (sz_of Ty.inf37) rfl rfl rfl rfl) ?_
                  refine RG.op _ _ rfl rfl (o_litP (cs := [_, _, _]) Try.underlying23 Ty.inf37 rfl rfl rfl rfl (by repeat (first | exact pu_bytes _ | exact pu_nil | exact pu_vs rfl | exact pu_map (fun _ => .v _) _ | exact pu_vals _ | refine pu_app ?_ ?_ | refine pu_cons (by exact pu_of rfl) ?_))) ?_
                  refine RG.op _ _ rfl rfl (o_appT (Elem.of Try.underlying23 Ty.inf37 rfl (by decide)) rfl rfl rfl (by first | omega | exact ubyte _ | (simp only [LS] <;> omega)) (by first | omega | exact ubyte _ | (simp only [LS] <;> omega)) (by repeat (first | exact bytesD_one _ | exact one_nil | exact one_map (fun _ => rfl) _ | exact one_vals _ | refine one_app ?_ ?_ | refine one_cons rfl ?_)) (by first | omega | exact ubyte _ | (simp only [LS] <;> omega)) (by first | omega | exact ubyte _ | (simp only [LS] <;> omega))) ?_
                  refine RG.op _ _ rfl rfl (o_assign (.own _ _ _ _ _) rfl) ?_
                  refine RG.nil (h34_ _ ?_)
                  refine WC.region ?_
                  refine RG.op _ _ rfl rfl (o_move (.v _) rfl) ?_
                  refine RG.op _ _ rfl rfl (o_move (.v _) rfl) ?_
                  refine RG.op _ _ rfl rfl (o_add rfl rfl (by first | omega | exact ubyte _ | (simp only [LS] <;> omega)) (by first | omega | exact ubyte _ | (simp only [LS] <;> omega))) ?_
                  refine RG.op _ _ rfl rfl (o_assign (.v _) rfl) ?_
                  refine RG.nil (h26_ _ ?_)
                  refine WC.region ?_
                  refine RG.op _ _ rfl rfl (o_move (.v _) rfl) ?_
                  refine RG.op _ _ rfl rfl (o_add rfl rfl (by first | omega | exact ubyte _ | (simp only [LS] <;> omega)) (by first | omega | exact ubyte _ | (simp only [LS] <;> omega))) ?_
                  refine RG.op _ _ rfl rfl (o_assign (.v _) rfl) ?_
                  refine RG.nil (Exists.intro ((p.1 + 1, p.2.1 + (getR (ts[p.1]'hlt) (b.drop p.2.1)).2.1, p.2.2 ++ [(getR (ts[p.1]'hlt) (b.drop p.2.1)).1])) ⟨⟨by omega, by simp; omega, (show p.2.1 + (getR (ts[p.1]'hlt) (b.drop p.2.1)).2.1 ≤ b.length by omega), by rw [hk4]; exact getL_val hlt ((null_is hkb).trans c16) h0⟩, (by show _ < _; omega), ?_⟩)
                  exact .mk' ⟨⟨rfl, .v _⟩, ⟨rfl, .v _⟩, ⟨ow_eq (by simp), (by first | exact .own _ _ _ _ _ (Nat.le_refl _) | exact .ptr _ _ _ (Nat.le_refl _) | exact .omp _ _ (Nat.le_refl _))⟩, trivial⟩ (by repeat (first | with_reducible exact same_refl _ _ | with_reducible refine same_updO (by with_unfolding_all exact rfl) ?_ | with_reducible refine same_updN ?_ | with_reducible refine same_updL (by with_unfolding_all exact rfl) ?_ | with_reducible refine same_forget (by with_unfolding_all exact rfl) ?_)) (congrArg (fun c => [c]) (tb_eq (by simp) (vs_snoc _ (getR (ts[p.1]'hlt) (b.drop p.2.1)).1))) (by repeat (first | exact trivial | refine And.intro (Nat.le_refl _) ?_ | refine And.intro trivial ?_ | refine And.intro (by show _ ≤ _; (first | omega | (simp only [LS] <;> omega))) ?_)) (by repeat (first | exact trivial | refine And.intro (okp (by repeat (first | exact pu_bytes _ | exact pu_nil | exact pu_vs rfl | exact pu_map (fun _ => .v _) _ | exact pu_vals _ | refine pu_app ?_ ?_ | refine pu_cons (by exact pu_of rfl) ?_))) ?_))
            ·
              have p14 := c14
              try simp only [CN] at p14
              have hen : p.1 = ts.length := by omega
              refine WC.exit (h20_ _ ?_)
              refine WC.seq fun Fh35_ h35_ => ?_
              refine WC.seq fun Fh36_ h36_ => ?_
              refine WC.region ?_
              refine RG.op _ _ rfl rfl (o_move (.v _) rfl) ?_
              refine RG.op _ _ rfl rfl (o_move (.rd _ _) rfl) ?_
              refine RG.op _ _ rfl rfl (o_len_rd rfl Try.underlying22) ?_
              refine RG.op _ _ rfl rfl (o_neI rfl rfl) ?_
              refine RG.nil (h36_ _ ?_)
              refine WC.cond _ rfl (fun c23 => ?_) (fun c23 => ?_)
              ·
                have p23 := c23
                try simp only [CN] at p23
                refine WC.seq fun Fh37_ h37_ => ?_
                refine WC.region ?_
                refine RG.op _ _ rfl rfl (o_assign (.v _) rfl) ?_
                refine RG.op _ _ rfl rfl (o_assign (.v _) rfl) ?_
                refine RG.nil (h37_ _ ?_)
                refine WC.ret ?_
                exact Ends.r2 rfl (.tmp _ (.v _) rfl) (.tmp _ (.v _) rfl) .nilr (.v _) (by rw [getM_go hty hsh hpad (hk4.trans (getL_end hen)), if_pos rfl, if_neg (by omega)]; rfl)
              ·
                have p23 := c23
                try simp only [CN] at p23
                refine WC.skip (h35_ _ ?_)
                refine WC.seq fun Fh38_ h38_ => ?_
                refine WC.region ?_
                refine RG.op _ _ rfl rfl (o_move (.own _ _ _ _ _) rfl) ?_
                refine RG.op _ _ rfl rfl (o_assign (.own _ _ _ _ _) rfl) ?_
                refine RG.op _ _ rfl rfl (o_assign (.v _) rfl) ?_
                refine RG.nil (h38_ _ ?_)
                refine WC.ret ?_
                exact Ends.r2 rfl (.tmp _ (.own _ _ _ _ _) rfl) (.tmp _ (.v _) rfl) (.tb rfl (by repeat (first | exact pu_bytes _ | exact pu_nil | exact pu_vs rfl | exact pu_map (fun _ => .v _) _ | exact pu_vals _ | refine pu_app ?_ ?_ | refine pu_cons (by exact pu_of rfl) ?_))) (.v _) (by rw [getM_go hty hsh hpad (hk4.trans (getL_end hen)), if_pos rfl, if_pos (by omega)]; exact rfl)
end Go.Proofs.Ytbdibcpenihpdaa
